/- Walks: the law ExactRing. -/
import Derived.Test.YtmlopkkbgpfdnaaE4
import Derived.Test.YtmlopkkbgpfdnaaL3
import Derived.Deep.DeepCutAuto
namespace Go.Proofs.Ytmlopkkbgpfdnaa
open Go.RowKit

/-- block g holds a struct of the sign p and the words l -/
structure HW (W : World) (g : Nat) (p : Bool) (A : Option Addr) (n c : Nat) (l : List Nat) : Prop where
  r : RB W g
  c0 : W.cell? ⟨g, 0, none⟩ = some (.bool p)
  c1 : W.cell? ⟨g, 1, none⟩ = some (.slice A n c)
  w : Wd W (.slice A n c) l

section
variable {W W' : World} {g h : Nat} {p : Bool} {A : Option Addr} {n c : Nat} {l : List Nat}
theorem HW.next (H : HW W g p A n c l) (hb : Below W.heap.size W W') : HW W' g p A n c l :=
  ⟨H.r.below hb H.r.lt, keepAt hb H.r.lt H.c0, keepAt hb H.r.lt H.c1, H.w.below hb⟩
theorem HW.alloc (H : HW W g p A n c l) (o : Obj) : HW (W.alloc o) g p A n c l := H.next (below1 _ _)
theorem HW.far (H : HW W g p A n c l) (r : RB W h) (hne : g ≠ h) (u v : Value) : HW ((W.setCell ⟨h, 0, none⟩ u).setCell ⟨h, 1, none⟩ v) g p A n c l :=
  ⟨H.r.far r hne u v, (far2 hne).trans H.c0, (far2 hne).trans H.c1, H.w.rb r u v⟩
theorem HW.new (W : World) (p : Bool) (A : Option Addr) (n c : Nat) (l : List Nat) (t : TypeId) (hw : Wd W (.slice A n c) l) : HW (W.alloc (.cells #[.bool p, .slice A n c] t)) W.heap.size p A n c l :=
  ⟨RB.c1 W p A n c t, by rw [World.cell?_alloc_new]; rfl, by rw [World.cell?_alloc_new]; rfl, hw.below (below1 _ _)⟩
theorem HW.set (r : RB W g) (p : Bool) (A : Option Addr) (n c : Nat) (l : List Nat) (hw : Wd W (.slice A n c) l) : HW ((W.setCell ⟨g, 0, none⟩ (.bool p)).setCell ⟨g, 1, none⟩ (.slice A n c)) g p A n c l :=
  ⟨r.set p A n c, r.set0 p _, r.set1 p _, hw.rb r _ _⟩
end

theorem ZV.words {W : World} {b : Bool} {A : Option Addr} {n c : Nat} {z : Int} (h : ZV W (.agg #[.bool b, .slice A n c]) z) : b = decide (z < 0) ∧ Wd W (.slice A n c) (dig z.natAbs) := by
  obtain ⟨v, he, hv⟩ := h
  injection he with he
  have e0 : (.bool b : Value) = .bool (decide (z < 0)) := by
    have := congrArg (fun a : Array Value => a[0]?) he
    simpa using this
  have e1 : (.slice A n c : Value) = v := by
    have := congrArg (fun a : Array Value => a[1]?) he
    simpa using this
  refine ⟨?_, by rw [e1]; exact hv⟩
  injection e0

theorem ans_ok {p q : Bool} {l l' : List Nat} {z : Int} (h : ansE p q l l' z = 0) : vld p l = true ∧ vld q l' = true ∧ (dig z.natAbs).length ≤ 256 ∧ ansZ p q l l' z = z := by
  unfold ansE at h
  split at h
  · rename_i hv
    split at h
    · rename_i hf
      unfold ansZ
      rw [if_pos hv, if_pos hf]
      simp at hv
      exact ⟨hv.1, hv.2, hf, rfl⟩
    · omega
  · omega
theorem ans_yes {p q : Bool} {l l' : List Nat} {z : Int} (h1 : vld p l = true) (h2 : vld q l' = true) (hf : (dig z.natAbs).length ≤ 256) : ansE p q l l' z = 0 ∧ ansZ p q l l' z = z := by
  have hv : (vld p l && vld q l') = true := by rw [h1, h2]; rfl
  unfold ansE ansZ
  rw [if_pos hv, if_pos hf, if_pos hv, if_pos hf]
  exact ⟨rfl, rfl⟩
theorem ans_fit (p q : Bool) (l l' : List Nat) (z : Int) : (dig (ansZ p q l l' z).natAbs).length ≤ 256 := by
  unfold ansZ
  split
  · split
    · assumption
    · rw [Int.natAbs_zero, dig_zero]; simp
  · rw [Int.natAbs_zero, dig_zero]; simp
theorem ans_comm (p q : Bool) (l l' : List Nat) (z z' : Int) (hz : z = z') : ansZ p q l l' z = ansZ q p l' l z' ∧ ansE p q l l' z = ansE q p l' l z' := by
  subst hz
  unfold ansZ ansE
  rw [Bool.and_comm]
  exact ⟨rfl, rfl⟩

structure OpZ (f : Int → Int → Int) (p q : Bool) (l l' : List Nat) (z e : Int) : Prop where
  z : z = ansZ p q l l' (f (numOf p l) (numOf q l'))
  e : e = ansE p q l l' (f (numOf p l) (numOf q l'))

section
variable {f g : Int → Int → Int} {p q r : Bool} {l l' l'' : List Nat} {z e : Int}
theorem OpZ.ok (h : OpZ f p q l l' z e) (he : e = 0) : vld p l = true ∧ vld q l' = true ∧ (dig z.natAbs).length ≤ 256 ∧ z = f (numOf p l) (numOf q l') := by
  obtain ⟨a, b, c, d⟩ := ans_ok (h.e.symm.trans he)
  have hz := h.z.trans d
  exact ⟨a, b, by rw [hz]; exact c, hz⟩
theorem OpZ.yes (h : OpZ f p q l l' z e) (h1 : vld p l = true) (h2 : vld q l' = true) (hf : (dig (f (numOf p l) (numOf q l')).natAbs).length ≤ 256) : e = 0 ∧ z = f (numOf p l) (numOf q l') := by
  obtain ⟨a, b⟩ := ans_yes (z := f (numOf p l) (numOf q l')) h1 h2 hf
  exact ⟨h.e.trans a, h.z.trans b⟩

theorem ring_assoc (hf : ∀ x y z, f (f x y) z = f x (f y z)) {zab eab zbc ebc z1 e1 z2 e2 : Int} {bab bbc : Bool} (h1 : OpZ f p q l l' zab eab) (h2 : OpZ f q r l' l'' zbc ebc)
    (hb1 : bab = decide (zab < 0)) (hb2 : bbc = decide (zbc < 0)) (h3 : OpZ f bab r (dig zab.natAbs) l'' z1 e1) (h4 : OpZ f p bbc l (dig zbc.natAbs) z2 e2)
    (x1 : eab = 0) (x2 : ebc = 0) (x3 : e1 = 0) : e2 = 0 ∧ z1 = z2 := by
  obtain ⟨vp, vq, fab, hab⟩ := h1.ok x1
  obtain ⟨-, vr, fbc, hbc⟩ := h2.ok x2
  obtain ⟨v1, -, f1, h1'⟩ := h3.ok x3
  have n1 : numOf bab (dig zab.natAbs) = zab := by rw [hb1]; exact numOf_dig zab
  have n2 : numOf bbc (dig zbc.natAbs) = zbc := by rw [hb2]; exact numOf_dig zbc
  have vbc : vld bbc (dig zbc.natAbs) = true := by rw [hb2]; exact vld_of_dig fbc
  have eq : f (numOf p l) (numOf bbc (dig zbc.natAbs)) = z1 := by rw [n2, hbc, ← hf, ← hab, h1', n1]
  obtain ⟨a, b⟩ := h4.yes vp vbc (by rw [eq]; exact f1)
  exact ⟨a, by rw [b, eq]⟩
theorem ring_undo (hf : ∀ x y, g (f x y) y = x) {zab eab zd ed : Int} {bab : Bool} (h1 : OpZ f p q l l' zab eab) (hb1 : bab = decide (zab < 0)) (h3 : OpZ g bab q (dig zab.natAbs) l' zd ed)
    (x1 : eab = 0) (x3 : ed = 0) : vld p l = true ∧ zd = numOf p l := by
  obtain ⟨vp, vq, fab, hab⟩ := h1.ok x1
  obtain ⟨v1, -, f1, h1'⟩ := h3.ok x3
  have n1 : numOf bab (dig zab.natAbs) = zab := by rw [hb1]; exact numOf_dig zab
  exact ⟨vp, by rw [h1', n1, hab, hf]⟩
theorem ring_dist (hf : ∀ x y z, g x (f y z) = f (g x y) (g x z)) {zab eab zbc ebc zac eac z1 e1 z2 e2 : Int} {bab bbc bac : Bool} (h1 : OpZ g p q l l' zab eab) (h2 : OpZ f q r l' l'' zbc ebc) (h3 : OpZ g p r l l'' zac eac)
    (hb1 : bab = decide (zab < 0)) (hb2 : bbc = decide (zbc < 0)) (hb3 : bac = decide (zac < 0)) (h4 : OpZ g p bbc l (dig zbc.natAbs) z1 e1) (h5 : OpZ f bab bac (dig zab.natAbs) (dig zac.natAbs) z2 e2)
    (x1 : eab = 0) (x2 : ebc = 0) (x3 : eac = 0) (x4 : e1 = 0) : e2 = 0 ∧ z1 = z2 := by
  obtain ⟨vp, vq, fab, hab⟩ := h1.ok x1
  obtain ⟨-, vr, fbc, hbc⟩ := h2.ok x2
  obtain ⟨-, -, fac, hac⟩ := h3.ok x3
  obtain ⟨v1, -, f1, h1'⟩ := h4.ok x4
  have n1 : numOf bab (dig zab.natAbs) = zab := by rw [hb1]; exact numOf_dig zab
  have n2 : numOf bbc (dig zbc.natAbs) = zbc := by rw [hb2]; exact numOf_dig zbc
  have n3 : numOf bac (dig zac.natAbs) = zac := by rw [hb3]; exact numOf_dig zac
  have vab : vld bab (dig zab.natAbs) = true := by rw [hb1]; exact vld_of_dig fab
  have vac : vld bac (dig zac.natAbs) = true := by rw [hb3]; exact vld_of_dig fac
  have eq : f (numOf bab (dig zab.natAbs)) (numOf bac (dig zac.natAbs)) = z1 := by rw [n1, n3, hab, hac, ← hf, ← hbc, h1', n2]
  obtain ⟨a, b⟩ := h5.yes vab vac (by rw [eq]; exact f1)
  exact ⟨a, by rw [b, eq]⟩
end

set_option maxHeartbeats 4000000 in
set_option maxRecDepth 1000000 in
theorem exactRing_walk (p q r : Bool) (A A' A'' : Option Addr) (n c n' c' n'' c'' : Nat) (l l' l'' : List Nat) (w : World) (hx : Wd w (.slice A n c) l) (hy : Wd w (.slice A' n' c') l') (hz : Wd w (.slice A'' n'' c'') l'') :
    Calls Try.prog 5 #[.agg #[.bool p, .slice A n c], .agg #[.bool q, .slice A' n' c'], .agg #[.bool r, .slice A'' n'' c'']] w fun e w' => e = .returned (.bool true) ∧ Below w.heap.size w w' := by
  have h1 := (HW.new w p A n c l 24 hx).alloc (.cells #[.bool q, .slice A' n' c'] 24) |>.alloc (.cells #[.bool r, .slice A'' n'' c''] 24)
  have h2 := (HW.new (w.alloc (.cells #[.bool p, .slice A n c] 24)) q A' n' c' l' 24 (hy.below (below1 _ _))).alloc (.cells #[.bool r, .slice A'' n'' c''] 24)
  have h3 := HW.new ((w.alloc (.cells #[.bool p, .slice A n c] 24)).alloc (.cells #[.bool q, .slice A' n' c'] 24)) r A'' n'' c'' l'' 24 (hz.below (below2 _ _ _))
  rw [World.size_alloc] at h2
  rw [World.size_alloc, World.size_alloc] at h3
  have hb := below3 w (.cells #[.bool p, .slice A n c] 24) (.cells #[.bool q, .slice A' n' c'] 24) (.cells #[.bool r, .slice A'' n'' c''] 24)
  have hs : w.heap.size + 3 ≤ (((w.alloc (.cells #[.bool p, .slice A n c] 24)).alloc (.cells #[.bool q, .slice A' n' c'] 24)).alloc (.cells #[.bool r, .slice A'' n'' c''] 24)).heap.size := by simp
  have HF := Lib.hid (And.intro h1 (And.intro h2 (And.intro h3 (And.intro hb hs))))
  clear h1 h2 h3 hb hs hx hy hz
  go_enter Try.func5, Try.ntmps5
  go_wp2_with fail
  obtain ⟨h1, h2, h3, hb, hs⟩ := HF.out
  clear HF
  generalize (((w.alloc (.cells #[.bool p, .slice A n c] 24)).alloc (.cells #[.bool q, .slice A' n' c'] 24)).alloc (.cells #[.bool r, .slice A'' n'' c''] 24)) = W0 at *
  obtain ⟨g1, hg1⟩ : ∃ g, g = w.heap.size := ⟨_, rfl⟩
  obtain ⟨g2, hg2⟩ : ∃ g, g = w.heap.size + 1 := ⟨_, rfl⟩
  obtain ⟨g3, hg3⟩ : ∃ g, g = w.heap.size + 1 + 1 := ⟨_, rfl⟩
  rw [← hg1] at h1
  rw [← hg2] at h2
  rw [← hg3] at h3
  try rw [← hg3]
  try rw [← hg2]
  try rw [← hg1]
  have hg12 : g1 < g2 := by omega
  have hg23 : g2 < g3 := by omega
  have hg3w : g3 + 1 ≤ W0.heap.size := by omega
  have HB := Lib.hid hb; clear hb hs
  have hgw : w.heap.size ≤ g1 := by omega
  clear hg1 hg2 hg3
  have Ha := Lib.hid h1; clear h1
  have Hb := Lib.hid h2; clear h2
  have Hc := Lib.hid h3; clear h3
  have Hs := Lib.hid hg3w; clear hg3w
  have k0a := Ha.out.c0
  have k1a := Ha.out.c1
  have k0b := Hb.out.c0
  have k1b := Hb.out.c1
  have k0c := Hc.out.c0
  have k1c := Hc.out.c1
  obtain ⟨zab, hz⟩ : ∃ z, z = ansZ p q l l' (numOf p l + numOf q l') := ⟨_, rfl⟩
  obtain ⟨eab, he⟩ : ∃ z, z = ansE p q l l' (numOf p l + numOf q l') := ⟨_, rfl⟩
  have Hzab := Lib.hid hz; clear hz
  have Heab := Lib.hid he; clear he
  refine (exactAdd_u p q A A' n c n' c' l l' _ Ha.out.w Hb.out.w).mono ?_
  rintro e wab ⟨bab, Aab, nab, cab, rfl, hr, hb⟩
  rw [← Heab.out]
  rw [← Hzab.out] at hr
  obtain ⟨hbb, hww⟩ := hr.words
  have Hbbab := Lib.hid hbb; clear hbb hr
  have hgt := Nat.le_trans Hs.out hb.size
  clear k0a k1a k0b k1b k0c k1c
  have ya := (Ha.out.next hb).alloc (.cells #[.bool bab, .slice Aab nab cab] 24)
  have yb := (Hb.out.next hb).alloc (.cells #[.bool bab, .slice Aab nab cab] 24)
  have yc := (Hc.out.next hb).alloc (.cells #[.bool bab, .slice Aab nab cab] 24)
  have hnew := HW.new wab bab Aab nab cab (dig zab.natAbs) 24 hww
  have hbel := (HB.out.trans (hb.mono HB.out.size)).trans ((below1 wab (.cells #[.bool bab, .slice Aab nab cab] 24)).mono (HB.out.trans (hb.mono HB.out.size)).size)
  have hsz : wab.heap.size + 1 ≤ (wab.alloc (.cells #[.bool bab, .slice Aab nab cab] 24)).heap.size := by simp
  clear Ha Hb Hc HB Hs hb hww
  have Ha := Lib.hid ya; clear ya
  have Hb := Lib.hid yb; clear yb
  have Hc := Lib.hid yc; clear yc
  have Hab := Lib.hid hnew; clear hnew
  have HB := Lib.hid hbel; clear hbel
  have Hs := Lib.hid hsz; clear hsz
  have k0a := Ha.out.c0
  have k1a := Ha.out.c1
  have k0b := Hb.out.c0
  have k1b := Hb.out.c1
  have k0c := Hc.out.c0
  have k1c := Hc.out.c1
  have k0ab := Hab.out.c0
  have k1ab := Hab.out.c1
  go_wp2_with fail
  generalize (wab.alloc (.cells #[.bool bab, .slice Aab nab cab] 24)) = Wab at *
  obtain ⟨gab, hg⟩ : ∃ g, g = wab.heap.size := ⟨_, rfl⟩
  rw [← hg] at Hab k0ab k1ab Hs hgt
  try rw [← hg]
  clear hg
  have hgtab : g3 + 1 ≤ gab := hgt; clear hgt
  have hcomm := ans_comm p q l l' (numOf p l + numOf q l') (numOf q l' + numOf p l) (Int.add_comm _ _)
  have Hzba := Lib.hid (Hzab.out.trans hcomm.1)
  have Heba := Lib.hid (Heab.out.trans hcomm.2)
  clear hcomm
  refine (exactAdd_u q p A' A n' c' n c l' l _ Hb.out.w Ha.out.w).mono ?_
  rintro e wba ⟨bba, Aba, nba, cba, rfl, hr, hb⟩
  rw [← Heba.out]
  rw [← Hzba.out] at hr
  obtain ⟨hbb, hww⟩ := hr.words
  have Hbbba := Lib.hid hbb; clear hbb hr
  have hgt := Nat.le_trans Hs.out hb.size
  clear k0a k1a k0b k1b k0c k1c k0ab k1ab
  have ya := (Ha.out.next hb).alloc (.cells #[.bool bba, .slice Aba nba cba] 24)
  have yb := (Hb.out.next hb).alloc (.cells #[.bool bba, .slice Aba nba cba] 24)
  have yc := (Hc.out.next hb).alloc (.cells #[.bool bba, .slice Aba nba cba] 24)
  have yab := (Hab.out.next hb).alloc (.cells #[.bool bba, .slice Aba nba cba] 24)
  have hnew := HW.new wba bba Aba nba cba (dig zab.natAbs) 24 hww
  have hbel := (HB.out.trans (hb.mono HB.out.size)).trans ((below1 wba (.cells #[.bool bba, .slice Aba nba cba] 24)).mono (HB.out.trans (hb.mono HB.out.size)).size)
  have hsz : wba.heap.size + 1 ≤ (wba.alloc (.cells #[.bool bba, .slice Aba nba cba] 24)).heap.size := by simp
  clear Ha Hb Hc Hab HB Hs hb hww
  have Ha := Lib.hid ya; clear ya
  have Hb := Lib.hid yb; clear yb
  have Hc := Lib.hid yc; clear yc
  have Hab := Lib.hid yab; clear yab
  have Hba := Lib.hid hnew; clear hnew
  have HB := Lib.hid hbel; clear hbel
  have Hs := Lib.hid hsz; clear hsz
  have k0a := Ha.out.c0
  have k1a := Ha.out.c1
  have k0b := Hb.out.c0
  have k1b := Hb.out.c1
  have k0c := Hc.out.c0
  have k1c := Hc.out.c1
  have k0ab := Hab.out.c0
  have k1ab := Hab.out.c1
  have k0ba := Hba.out.c0
  have k1ba := Hba.out.c1
  have hn1 : (eab != eab) = false := by simp
  go_wp2_with fail
  generalize (wba.alloc (.cells #[.bool bba, .slice Aba nba cba] 24)) = Wba at *
  obtain ⟨gba, hg⟩ : ∃ g, g = wba.heap.size := ⟨_, rfl⟩
  rw [← hg] at Hba k0ba k1ba Hs hgt
  try rw [← hg]
  clear hg
  have hgtba : gab + 1 ≤ gba := hgt; clear hgt
  refine (sameR_any (zab) (zab) _ _ _ (ZV.mk Hbbab.out Hab.out.w) (ZV.mk Hbbba.out Hba.out.w)).mono ?_
  rintro e ws1 ⟨rfl, hb⟩
  have hd : decide (zab = zab) = true := by simp
  rw [hd]
  clear hd
  clear k0a k1a k0b k1b k0c k1c k0ab k1ab k0ba k1ba
  have ya := Ha.out.next hb
  have yb := Hb.out.next hb
  have yc := Hc.out.next hb
  have yab := Hab.out.next hb
  have yba := Hba.out.next hb
  have hbel := HB.out.trans (hb.mono HB.out.size)
  have hsz := Nat.le_trans Hs.out hb.size
  clear Ha Hb Hc Hab Hba HB Hs hb
  have Ha := Lib.hid ya; clear ya
  have Hb := Lib.hid yb; clear yb
  have Hc := Lib.hid yc; clear yc
  have Hab := Lib.hid yab; clear yab
  have Hba := Lib.hid yba; clear yba
  have HB := Lib.hid hbel; clear hbel
  have Hs := Lib.hid hsz; clear hsz
  have k0a := Ha.out.c0
  have k1a := Ha.out.c1
  have k0b := Hb.out.c0
  have k1b := Hb.out.c1
  have k0c := Hc.out.c0
  have k1c := Hc.out.c1
  have k0ab := Hab.out.c0
  have k1ab := Hab.out.c1
  have k0ba := Hba.out.c0
  have k1ba := Hba.out.c1
  go_wp2_with fail
  clear hn1
  clear Hba k0ba k1ba
  obtain ⟨zdi, hz⟩ : ∃ z, z = ansZ bab q (dig zab.natAbs) l' (numOf bab (dig zab.natAbs) - numOf q l') := ⟨_, rfl⟩
  obtain ⟨edi, he⟩ : ∃ z, z = ansE bab q (dig zab.natAbs) l' (numOf bab (dig zab.natAbs) - numOf q l') := ⟨_, rfl⟩
  have Hzdi := Lib.hid hz; clear hz
  have Hedi := Lib.hid he; clear he
  refine (exactSub_u bab q Aab A' nab cab n' c' (dig zab.natAbs) l' _ Hab.out.w Hb.out.w).mono ?_
  rintro e wdi ⟨bdi, Adi, ndi, cdi, rfl, hr, hb⟩
  rw [← Hedi.out]
  rw [← Hzdi.out] at hr
  obtain ⟨hbb, hww⟩ := hr.words
  have Hbbdi := Lib.hid hbb; clear hbb hr
  have hgt := Nat.le_trans Hs.out hb.size
  clear k0a k1a k0b k1b k0c k1c k0ab k1ab
  have ya := (Ha.out.next hb).alloc (.cells #[.bool bdi, .slice Adi ndi cdi] 24)
  have yb := (Hb.out.next hb).alloc (.cells #[.bool bdi, .slice Adi ndi cdi] 24)
  have yc := (Hc.out.next hb).alloc (.cells #[.bool bdi, .slice Adi ndi cdi] 24)
  have yab := (Hab.out.next hb).alloc (.cells #[.bool bdi, .slice Adi ndi cdi] 24)
  have hnew := HW.new wdi bdi Adi ndi cdi (dig zdi.natAbs) 24 hww
  have hbel := (HB.out.trans (hb.mono HB.out.size)).trans ((below1 wdi (.cells #[.bool bdi, .slice Adi ndi cdi] 24)).mono (HB.out.trans (hb.mono HB.out.size)).size)
  have hsz : wdi.heap.size + 1 ≤ (wdi.alloc (.cells #[.bool bdi, .slice Adi ndi cdi] 24)).heap.size := by simp
  clear Ha Hb Hc Hab HB Hs hb hww
  have Ha := Lib.hid ya; clear ya
  have Hb := Lib.hid yb; clear yb
  have Hc := Lib.hid yc; clear yc
  have Hab := Lib.hid yab; clear yab
  have Hdi := Lib.hid hnew; clear hnew
  have HB := Lib.hid hbel; clear hbel
  have Hs := Lib.hid hsz; clear hsz
  have k0a := Ha.out.c0
  have k1a := Ha.out.c1
  have k0b := Hb.out.c0
  have k1b := Hb.out.c1
  have k0c := Hc.out.c0
  have k1c := Hc.out.c1
  have k0ab := Hab.out.c0
  have k1ab := Hab.out.c1
  have k0di := Hdi.out.c0
  have k1di := Hdi.out.c1
  go_upto_region 6 with fail
  generalize (wdi.alloc (.cells #[.bool bdi, .slice Adi ndi cdi] 24)) = Wdi at *
  obtain ⟨gdi, hg⟩ : ∃ g, g = wdi.heap.size := ⟨_, rfl⟩
  rw [← hg] at Hdi k0di k1di Hs hgt
  try rw [← hg]
  clear hg
  have hgtdi : gba + 1 ≤ gdi := hgt; clear hgt
  go_cut [67] (fun s67 wx => s67 = .bool false ∧ Hid (Below w.heap.size w wx) ∧ Hid (HW wx g1 p A n c l) ∧ Hid (HW wx g2 q A' n' c' l') ∧ Hid (HW wx g3 r A'' n'' c'' l'') ∧ Hid (HW wx gab bab Aab nab cab (dig zab.natAbs)) ∧ Hid (gdi + 1 ≤ wx.heap.size))
  case first =>
    as_aux_lemma =>
      by_cases h1 : eab = 0
      · by_cases h2 : edi = 0
        · have ht1 : (eab == 0) = true := by simp [h1]
          have ht2 : (edi == 0) = true := by simp [h2]
          obtain ⟨hv, hz⟩ := ring_undo (f := fun x y => x + y) (g := fun x y => x - y) (fun x y => by omega) ⟨Hzab.out, Heab.out⟩ Hbbab.out ⟨Hzdi.out, Hedi.out⟩ h1 h2
          have Hv := Lib.hid hv; have Hz := Lib.hid hz; clear hv hz h1 h2
          go_wp2_with fail
          refine (sameR_any (zdi) (numOf p l) _ _ _ (ZV.mk Hbbdi.out Hdi.out.w) (vld_zv Ha.out.w Hv.out)).mono ?_
          rintro e ws2 ⟨rfl, hb⟩
          have hd : decide (zdi = numOf p l) = true := by rw [Hz.out]; simp
          rw [hd]
          clear hd
          clear k0a k1a k0b k1b k0c k1c k0ab k1ab k0di k1di
          have ya := Ha.out.next hb
          have yb := Hb.out.next hb
          have yc := Hc.out.next hb
          have yab := Hab.out.next hb
          have ydi := Hdi.out.next hb
          have hbel := HB.out.trans (hb.mono HB.out.size)
          have hsz := Nat.le_trans Hs.out hb.size
          clear Ha Hb Hc Hab Hdi HB Hs hb
          have Ha := Lib.hid ya; clear ya
          have Hb := Lib.hid yb; clear yb
          have Hc := Lib.hid yc; clear yc
          have Hab := Lib.hid yab; clear yab
          have Hdi := Lib.hid ydi; clear ydi
          have HB := Lib.hid hbel; clear hbel
          have Hs := Lib.hid hsz; clear hsz
          have k0a := Ha.out.c0
          have k1a := Ha.out.c1
          have k0b := Hb.out.c0
          have k1b := Hb.out.c1
          have k0c := Hc.out.c0
          have k1c := Hc.out.c1
          have k0ab := Hab.out.c0
          have k1ab := Hab.out.c1
          have k0di := Hdi.out.c0
          have k1di := Hdi.out.c1
          go_wp2_with fail
          go_meet
          exact ⟨rfl, HB, Ha, Hb, Hc, Hab, Lib.hid (by have := Hs.out; omega)⟩
        · have ht1 : (eab == 0) = true := by simp [h1]
          have ht2 : (edi == 0) = false := by simp [h2]
          clear h1 h2
          go_wp2_with fail
          go_meet
          exact ⟨rfl, HB, Ha, Hb, Hc, Hab, Lib.hid (by have := Hs.out; omega)⟩
      · have ht1 : (eab == 0) = false := by simp [h1]
        clear h1
        go_wp2_with fail
        go_meet
        exact ⟨rfl, HB, Ha, Hb, Hc, Hab, Lib.hid (by have := Hs.out; omega)⟩
  case rest =>
    as_aux_lemma =>
      clear Ha k0a k1a Hb k0b k1b Hc k0c k1c Hab k0ab k1ab Hdi k0di k1di HB Hs
      obtain ⟨rfl, HB, Ha, Hb, Hc, Hab, Hs⟩ := hcut
      generalize wc = wq3 at *
      have k0a := Ha.out.c0
      have k1a := Ha.out.c1
      have k0b := Hb.out.c0
      have k1b := Hb.out.c1
      have k0c := Hc.out.c0
      have k1c := Hc.out.c1
      have k0ab := Hab.out.c0
      have k1ab := Hab.out.c1
      go_wp2_with fail
      obtain ⟨zbc, hz⟩ : ∃ z, z = ansZ q r l' l'' (numOf q l' + numOf r l'') := ⟨_, rfl⟩
      obtain ⟨ebc, he⟩ : ∃ z, z = ansE q r l' l'' (numOf q l' + numOf r l'') := ⟨_, rfl⟩
      have Hzbc := Lib.hid hz; clear hz
      have Hebc := Lib.hid he; clear he
      refine (exactAdd_u q r A' A'' n' c' n'' c'' l' l'' _ Hb.out.w Hc.out.w).mono ?_
      rintro e wbc ⟨bbc, Abc, nbc, cbc, rfl, hr, hb⟩
      rw [← Hebc.out]
      rw [← Hzbc.out] at hr
      obtain ⟨hbb, hww⟩ := hr.words
      have Hbbbc := Lib.hid hbb; clear hbb hr
      have hgt := Nat.le_trans Hs.out hb.size
      clear k0a k1a k0b k1b k0c k1c k0ab k1ab
      have ya := (Ha.out.next hb).alloc (.cells #[.bool bbc, .slice Abc nbc cbc] 24)
      have yb := (Hb.out.next hb).alloc (.cells #[.bool bbc, .slice Abc nbc cbc] 24)
      have yc := (Hc.out.next hb).alloc (.cells #[.bool bbc, .slice Abc nbc cbc] 24)
      have yab := (Hab.out.next hb).alloc (.cells #[.bool bbc, .slice Abc nbc cbc] 24)
      have hnew := HW.new wbc bbc Abc nbc cbc (dig zbc.natAbs) 24 hww
      have hbel := (HB.out.trans (hb.mono HB.out.size)).trans ((below1 wbc (.cells #[.bool bbc, .slice Abc nbc cbc] 24)).mono (HB.out.trans (hb.mono HB.out.size)).size)
      have hsz : wbc.heap.size + 1 ≤ (wbc.alloc (.cells #[.bool bbc, .slice Abc nbc cbc] 24)).heap.size := by simp
      clear Ha Hb Hc Hab HB Hs hb hww
      have Ha := Lib.hid ya; clear ya
      have Hb := Lib.hid yb; clear yb
      have Hc := Lib.hid yc; clear yc
      have Hab := Lib.hid yab; clear yab
      have Hbc := Lib.hid hnew; clear hnew
      have HB := Lib.hid hbel; clear hbel
      have Hs := Lib.hid hsz; clear hsz
      have k0a := Ha.out.c0
      have k1a := Ha.out.c1
      have k0b := Hb.out.c0
      have k1b := Hb.out.c1
      have k0c := Hc.out.c0
      have k1c := Hc.out.c1
      have k0ab := Hab.out.c0
      have k1ab := Hab.out.c1
      have k0bc := Hbc.out.c0
      have k1bc := Hbc.out.c1
      go_wp2_with fail
      generalize (wbc.alloc (.cells #[.bool bbc, .slice Abc nbc cbc] 24)) = Wbc at *
      obtain ⟨gbc, hg⟩ : ∃ g, g = wbc.heap.size := ⟨_, rfl⟩
      rw [← hg] at Hbc k0bc k1bc Hs hgt
      try rw [← hg]
      clear hg
      have hgtbc : gdi + 1 ≤ gbc := hgt; clear hgt
      obtain ⟨zs15, hz⟩ : ∃ z, z = ansZ bab r (dig zab.natAbs) l'' (numOf bab (dig zab.natAbs) + numOf r l'') := ⟨_, rfl⟩
      obtain ⟨es15, he⟩ : ∃ z, z = ansE bab r (dig zab.natAbs) l'' (numOf bab (dig zab.natAbs) + numOf r l'') := ⟨_, rfl⟩
      have Hzs15 := Lib.hid hz; clear hz
      have Hes15 := Lib.hid he; clear he
      refine (exactAdd_u bab r Aab A'' nab cab n'' c'' (dig zab.natAbs) l'' _ Hab.out.w Hc.out.w).mono ?_
      rintro e ws15 ⟨bs15, As15, ns15, cs15, rfl, hr, hb⟩
      rw [← Hes15.out]
      rw [← Hzs15.out] at hr
      obtain ⟨hbb, hww⟩ := hr.words
      have Hbbs15 := Lib.hid hbb; clear hbb hr
      have hgt := Nat.le_trans Hs.out hb.size
      clear k0a k1a k0b k1b k0c k1c k0ab k1ab k0bc k1bc
      have ya := (Ha.out.next hb).alloc (.cells #[.bool bs15, .slice As15 ns15 cs15] 24)
      have yb := (Hb.out.next hb).alloc (.cells #[.bool bs15, .slice As15 ns15 cs15] 24)
      have yc := (Hc.out.next hb).alloc (.cells #[.bool bs15, .slice As15 ns15 cs15] 24)
      have yab := (Hab.out.next hb).alloc (.cells #[.bool bs15, .slice As15 ns15 cs15] 24)
      have ybc := (Hbc.out.next hb).alloc (.cells #[.bool bs15, .slice As15 ns15 cs15] 24)
      have hnew := HW.new ws15 bs15 As15 ns15 cs15 (dig zs15.natAbs) 24 hww
      have hbel := (HB.out.trans (hb.mono HB.out.size)).trans ((below1 ws15 (.cells #[.bool bs15, .slice As15 ns15 cs15] 24)).mono (HB.out.trans (hb.mono HB.out.size)).size)
      have hsz : ws15.heap.size + 1 ≤ (ws15.alloc (.cells #[.bool bs15, .slice As15 ns15 cs15] 24)).heap.size := by simp
      clear Ha Hb Hc Hab Hbc HB Hs hb hww
      have Ha := Lib.hid ya; clear ya
      have Hb := Lib.hid yb; clear yb
      have Hc := Lib.hid yc; clear yc
      have Hab := Lib.hid yab; clear yab
      have Hbc := Lib.hid ybc; clear ybc
      have Hs15 := Lib.hid hnew; clear hnew
      have HB := Lib.hid hbel; clear hbel
      have Hs := Lib.hid hsz; clear hsz
      have k0a := Ha.out.c0
      have k1a := Ha.out.c1
      have k0b := Hb.out.c0
      have k1b := Hb.out.c1
      have k0c := Hc.out.c0
      have k1c := Hc.out.c1
      have k0ab := Hab.out.c0
      have k1ab := Hab.out.c1
      have k0bc := Hbc.out.c0
      have k1bc := Hbc.out.c1
      have k0s15 := Hs15.out.c0
      have k1s15 := Hs15.out.c1
      go_upto_region 10 with fail
      generalize (ws15.alloc (.cells #[.bool bs15, .slice As15 ns15 cs15] 24)) = Ws15 at *
      obtain ⟨gs15, hg⟩ : ∃ g, g = ws15.heap.size := ⟨_, rfl⟩
      rw [← hg] at Hs15 k0s15 k1s15 Hs hgt
      try rw [← hg]
      clear hg
      have hgts15 : gbc + 1 ≤ gs15 := hgt; clear hgt
      obtain ⟨T89, hT⟩ : ∃ T, T = decide (eab = 0 ∧ ebc = 0 ∧ es15 = 0) := ⟨_, rfl⟩
      have HT89 := Lib.hid hT; clear hT
      go_cut [89] (fun s89 wx => s89 = .bool T89 ∧ Hid (Below w.heap.size w wx) ∧ Hid (HW wx g1 p A n c l) ∧ Hid (HW wx g2 q A' n' c' l') ∧ Hid (HW wx g3 r A'' n'' c'' l'') ∧ Hid (HW wx gab bab Aab nab cab (dig zab.natAbs)) ∧ Hid (HW wx gbc bbc Abc nbc cbc (dig zbc.natAbs)) ∧ Hid (HW wx gs15 bs15 As15 ns15 cs15 (dig zs15.natAbs)) ∧ Hid (gs15 + 1 ≤ wx.heap.size))
      case first =>
        as_aux_lemma =>
          by_cases heab : eab = 0
          · by_cases hebc : ebc = 0
            · by_cases hes15 : es15 = 0
              · have hteab : (eab == 0) = true := by simp [heab]
                have htebc : (ebc == 0) = true := by simp [hebc]
                have htes15 : (es15 == 0) = true := by simp [hes15]
                go_wp2_with fail
                have hT : T89 = true := by rw [HT89.out]; simp [heab, hebc, hes15]
                go_meet
                exact ⟨by rw [hT], HB, Ha, Hb, Hc, Hab, Hbc, Hs15, Lib.hid (by have := Hs.out; omega)⟩
              · have hteab : (eab == 0) = true := by simp [heab]
                have htebc : (ebc == 0) = true := by simp [hebc]
                have htes15 : (es15 == 0) = false := by simp [hes15]
                go_wp2_with fail
                have hT : T89 = false := by rw [HT89.out]; simp [heab, hebc, hes15]
                go_meet
                exact ⟨by rw [hT], HB, Ha, Hb, Hc, Hab, Hbc, Hs15, Lib.hid (by have := Hs.out; omega)⟩
            · have hteab : (eab == 0) = true := by simp [heab]
              have htebc : (ebc == 0) = false := by simp [hebc]
              go_wp2_with fail
              have hT : T89 = false := by rw [HT89.out]; simp [heab, hebc]
              go_meet
              exact ⟨by rw [hT], HB, Ha, Hb, Hc, Hab, Hbc, Hs15, Lib.hid (by have := Hs.out; omega)⟩
          · 
            have hteab : (eab == 0) = false := by simp [heab]
            go_wp2_with fail
            have hT : T89 = false := by rw [HT89.out]; simp [heab]
            go_meet
            exact ⟨by rw [hT], HB, Ha, Hb, Hc, Hab, Hbc, Hs15, Lib.hid (by have := Hs.out; omega)⟩
      case rest =>
        as_aux_lemma =>
          clear Ha k0a k1a Hb k0b k1b Hc k0c k1c Hab k0ab k1ab Hbc k0bc k1bc Hs15 k0s15 k1s15 HB Hs
          obtain ⟨rfl, HB, Ha, Hb, Hc, Hab, Hbc, Hs15, Hs⟩ := hcut
          generalize wc = wq4 at *
          have k0a := Ha.out.c0
          have k1a := Ha.out.c1
          have k0b := Hb.out.c0
          have k1b := Hb.out.c1
          have k0c := Hc.out.c0
          have k1c := Hc.out.c1
          have k0ab := Hab.out.c0
          have k1ab := Hab.out.c1
          have k0bc := Hbc.out.c0
          have k1bc := Hbc.out.c1
          have k0s15 := Hs15.out.c0
          have k1s15 := Hs15.out.c1
          go_upto_if 89 with fail
          go_cut [89] (fun _ wx => Hid (Below w.heap.size w wx) ∧ Hid (HW wx g1 p A n c l) ∧ Hid (HW wx g2 q A' n' c' l') ∧ Hid (HW wx g3 r A'' n'' c'' l'') ∧ Hid (HW wx gbc bbc Abc nbc cbc (dig zbc.natAbs)) ∧ Hid (gs15 + 1 ≤ wx.heap.size))
          case first =>
            as_aux_lemma =>
              cases T89
              · go_wp2_with fail
                go_meet
                exact ⟨HB, Ha, Hb, Hc, Hbc, Lib.hid (by have := Hs.out; omega)⟩
              · have hall : eab = 0 ∧ ebc = 0 ∧ es15 = 0 := of_decide_eq_true HT89.out.symm
                have Hall := Lib.hid hall; clear hall
                go_wp2_with fail
                obtain ⟨zs17, hz⟩ : ∃ z, z = ansZ p bbc l (dig zbc.natAbs) (numOf p l + numOf bbc (dig zbc.natAbs)) := ⟨_, rfl⟩
                obtain ⟨es17, he⟩ : ∃ z, z = ansE p bbc l (dig zbc.natAbs) (numOf p l + numOf bbc (dig zbc.natAbs)) := ⟨_, rfl⟩
                have Hzs17 := Lib.hid hz; clear hz
                have Hes17 := Lib.hid he; clear he
                refine (exactAdd_u p bbc A Abc n c nbc cbc l (dig zbc.natAbs) _ Ha.out.w Hbc.out.w).mono ?_
                rintro e ws17 ⟨bs17, As17, ns17, cs17, rfl, hr, hb⟩
                rw [← Hes17.out]
                rw [← Hzs17.out] at hr
                obtain ⟨hbb, hww⟩ := hr.words
                have Hbbs17 := Lib.hid hbb; clear hbb hr
                have hgt := Nat.le_trans Hs.out hb.size
                clear k0a k1a k0b k1b k0c k1c k0ab k1ab k0bc k1bc k0s15 k1s15
                have ya := (Ha.out.next hb).alloc (.cells #[.bool bs17, .slice As17 ns17 cs17] 24)
                have yb := (Hb.out.next hb).alloc (.cells #[.bool bs17, .slice As17 ns17 cs17] 24)
                have yc := (Hc.out.next hb).alloc (.cells #[.bool bs17, .slice As17 ns17 cs17] 24)
                have yab := (Hab.out.next hb).alloc (.cells #[.bool bs17, .slice As17 ns17 cs17] 24)
                have ybc := (Hbc.out.next hb).alloc (.cells #[.bool bs17, .slice As17 ns17 cs17] 24)
                have ys15 := (Hs15.out.next hb).alloc (.cells #[.bool bs17, .slice As17 ns17 cs17] 24)
                have hnew := HW.new ws17 bs17 As17 ns17 cs17 (dig zs17.natAbs) 24 hww
                have hbel := (HB.out.trans (hb.mono HB.out.size)).trans ((below1 ws17 (.cells #[.bool bs17, .slice As17 ns17 cs17] 24)).mono (HB.out.trans (hb.mono HB.out.size)).size)
                have hsz : ws17.heap.size + 1 ≤ (ws17.alloc (.cells #[.bool bs17, .slice As17 ns17 cs17] 24)).heap.size := by simp
                clear Ha Hb Hc Hab Hbc Hs15 HB Hs hb hww
                have Ha := Lib.hid ya; clear ya
                have Hb := Lib.hid yb; clear yb
                have Hc := Lib.hid yc; clear yc
                have Hab := Lib.hid yab; clear yab
                have Hbc := Lib.hid ybc; clear ybc
                have Hs15 := Lib.hid ys15; clear ys15
                have Hs17 := Lib.hid hnew; clear hnew
                have HB := Lib.hid hbel; clear hbel
                have Hs := Lib.hid hsz; clear hsz
                have k0a := Ha.out.c0
                have k1a := Ha.out.c1
                have k0b := Hb.out.c0
                have k1b := Hb.out.c1
                have k0c := Hc.out.c0
                have k1c := Hc.out.c1
                have k0ab := Hab.out.c0
                have k1ab := Hab.out.c1
                have k0bc := Hbc.out.c0
                have k1bc := Hbc.out.c1
                have k0s15 := Hs15.out.c0
                have k1s15 := Hs15.out.c1
                have k0s17 := Hs17.out.c0
                have k1s17 := Hs17.out.c1
                obtain ⟨he0, hzz⟩ := ring_assoc (f := fun x y => x + y) (fun x y z => Int.add_assoc x y z) ⟨Hzab.out, Heab.out⟩ ⟨Hzbc.out, Hebc.out⟩ Hbbab.out Hbbbc.out ⟨Hzs15.out, Hes15.out⟩ ⟨Hzs17.out, Hes17.out⟩ Hall.out.1 Hall.out.2.1 Hall.out.2.2
                have hn1 : (es17 != 0) = false := by simp [he0]
                have Hzz := Lib.hid hzz; clear hzz he0
                go_wp2_with fail
                generalize (ws17.alloc (.cells #[.bool bs17, .slice As17 ns17 cs17] 24)) = Ws17 at *
                obtain ⟨gs17, hg⟩ : ∃ g, g = ws17.heap.size := ⟨_, rfl⟩
                rw [← hg] at Hs17 k0s17 k1s17 Hs hgt
                try rw [← hg]
                clear hg
                have hgts17 : gs15 + 1 ≤ gs17 := hgt; clear hgt
                refine (sameR_any (zs15) (zs17) _ _ _ (ZV.mk Hbbs15.out Hs15.out.w) (ZV.mk Hbbs17.out Hs17.out.w)).mono ?_
                rintro e ws5 ⟨rfl, hb⟩
                have hd : decide (zs15 = zs17) = true := by rw [Hzz.out]; simp
                rw [hd]
                clear hd
                clear k0a k1a k0b k1b k0c k1c k0ab k1ab k0bc k1bc k0s15 k1s15 k0s17 k1s17
                have ya := Ha.out.next hb
                have yb := Hb.out.next hb
                have yc := Hc.out.next hb
                have yab := Hab.out.next hb
                have ybc := Hbc.out.next hb
                have ys15 := Hs15.out.next hb
                have ys17 := Hs17.out.next hb
                have hbel := HB.out.trans (hb.mono HB.out.size)
                have hsz := Nat.le_trans Hs.out hb.size
                clear Ha Hb Hc Hab Hbc Hs15 Hs17 HB Hs hb
                have Ha := Lib.hid ya; clear ya
                have Hb := Lib.hid yb; clear yb
                have Hc := Lib.hid yc; clear yc
                have Hab := Lib.hid yab; clear yab
                have Hbc := Lib.hid ybc; clear ybc
                have Hs15 := Lib.hid ys15; clear ys15
                have Hs17 := Lib.hid ys17; clear ys17
                have HB := Lib.hid hbel; clear hbel
                have Hs := Lib.hid hsz; clear hsz
                have k0a := Ha.out.c0
                have k1a := Ha.out.c1
                have k0b := Hb.out.c0
                have k1b := Hb.out.c1
                have k0c := Hc.out.c0
                have k1c := Hc.out.c1
                have k0ab := Hab.out.c0
                have k1ab := Hab.out.c1
                have k0bc := Hbc.out.c0
                have k1bc := Hbc.out.c1
                have k0s15 := Hs15.out.c0
                have k1s15 := Hs15.out.c1
                have k0s17 := Hs17.out.c0
                have k1s17 := Hs17.out.c1
                go_wp2_with fail
                go_meet
                exact ⟨HB, Ha, Hb, Hc, Hbc, Lib.hid (by have := Hs.out; omega)⟩
          case rest =>
            as_aux_lemma =>
              clear Ha k0a k1a Hb k0b k1b Hc k0c k1c Hab k0ab k1ab Hbc k0bc k1bc Hs15 k0s15 k1s15 HB Hs
              obtain ⟨HB, Ha, Hb, Hc, Hbc, Hs⟩ := hcut
              generalize wc = wq6 at *
              have k0a := Ha.out.c0
              have k1a := Ha.out.c1
              have k0b := Hb.out.c0
              have k1b := Hb.out.c1
              have k0c := Hc.out.c0
              have k1c := Hc.out.c1
              have k0bc := Hbc.out.c0
              have k1bc := Hbc.out.c1
              clear HT89 Hzab Heab Hbbab Hzs15 Hes15 Hbbs15
              go_wp2_with fail
              obtain ⟨zm, hz⟩ : ∃ z, z = ansZ p q l l' (numOf p l * numOf q l') := ⟨_, rfl⟩
              obtain ⟨em, he⟩ : ∃ z, z = ansE p q l l' (numOf p l * numOf q l') := ⟨_, rfl⟩
              have Hzm := Lib.hid hz; clear hz
              have Hem := Lib.hid he; clear he
              refine (exactMul_u p q A A' n c n' c' l l' _ Ha.out.w Hb.out.w).mono ?_
              rintro e wm ⟨bm, Am, nm, cm, rfl, hr, hb⟩
              rw [← Hem.out]
              rw [← Hzm.out] at hr
              obtain ⟨hbb, hww⟩ := hr.words
              have Hbbm := Lib.hid hbb; clear hbb hr
              have hgt := Nat.le_trans Hs.out hb.size
              clear k0a k1a k0b k1b k0c k1c k0bc k1bc
              have ya := (Ha.out.next hb).alloc (.cells #[.bool bm, .slice Am nm cm] 24)
              have yb := (Hb.out.next hb).alloc (.cells #[.bool bm, .slice Am nm cm] 24)
              have yc := (Hc.out.next hb).alloc (.cells #[.bool bm, .slice Am nm cm] 24)
              have ybc := (Hbc.out.next hb).alloc (.cells #[.bool bm, .slice Am nm cm] 24)
              have hnew := HW.new wm bm Am nm cm (dig zm.natAbs) 24 hww
              have hbel := (HB.out.trans (hb.mono HB.out.size)).trans ((below1 wm (.cells #[.bool bm, .slice Am nm cm] 24)).mono (HB.out.trans (hb.mono HB.out.size)).size)
              have hsz : wm.heap.size + 1 ≤ (wm.alloc (.cells #[.bool bm, .slice Am nm cm] 24)).heap.size := by simp
              clear Ha Hb Hc Hbc HB Hs hb hww
              have Ha := Lib.hid ya; clear ya
              have Hb := Lib.hid yb; clear yb
              have Hc := Lib.hid yc; clear yc
              have Hbc := Lib.hid ybc; clear ybc
              have Hm := Lib.hid hnew; clear hnew
              have HB := Lib.hid hbel; clear hbel
              have Hs := Lib.hid hsz; clear hsz
              have k0a := Ha.out.c0
              have k1a := Ha.out.c1
              have k0b := Hb.out.c0
              have k1b := Hb.out.c1
              have k0c := Hc.out.c0
              have k1c := Hc.out.c1
              have k0bc := Hbc.out.c0
              have k1bc := Hbc.out.c1
              have k0m := Hm.out.c0
              have k1m := Hm.out.c1
              go_wp2_with fail
              generalize (wm.alloc (.cells #[.bool bm, .slice Am nm cm] 24)) = Wm at *
              obtain ⟨gm, hg⟩ : ∃ g, g = wm.heap.size := ⟨_, rfl⟩
              rw [← hg] at Hm k0m k1m Hs hgt
              try rw [← hg]
              clear hg
              have hgtm : gs15 + 1 ≤ gm := hgt; clear hgt
              have hcomm := ans_comm p q l l' (numOf p l * numOf q l') (numOf q l' * numOf p l) (Int.mul_comm _ _)
              have Hzd := Lib.hid (Hzm.out.trans hcomm.1)
              have Hed := Lib.hid (Hem.out.trans hcomm.2)
              clear hcomm
              refine (exactMul_u q p A' A n' c' n c l' l _ Hb.out.w Ha.out.w).mono ?_
              rintro e wd ⟨bd, Ad, nd, cd, rfl, hr, hb⟩
              rw [← Hed.out]
              rw [← Hzd.out] at hr
              obtain ⟨hbb, hww⟩ := hr.words
              have Hbbd := Lib.hid hbb; clear hbb hr
              have hgt := Nat.le_trans Hs.out hb.size
              clear k0a k1a k0b k1b k0c k1c k0bc k1bc k0m k1m
              have ya := (Ha.out.next hb).alloc (.cells #[.bool bd, .slice Ad nd cd] 24)
              have yb := (Hb.out.next hb).alloc (.cells #[.bool bd, .slice Ad nd cd] 24)
              have yc := (Hc.out.next hb).alloc (.cells #[.bool bd, .slice Ad nd cd] 24)
              have ybc := (Hbc.out.next hb).alloc (.cells #[.bool bd, .slice Ad nd cd] 24)
              have ym := (Hm.out.next hb).alloc (.cells #[.bool bd, .slice Ad nd cd] 24)
              have hnew := HW.new wd bd Ad nd cd (dig zm.natAbs) 24 hww
              have hbel := (HB.out.trans (hb.mono HB.out.size)).trans ((below1 wd (.cells #[.bool bd, .slice Ad nd cd] 24)).mono (HB.out.trans (hb.mono HB.out.size)).size)
              have hsz : wd.heap.size + 1 ≤ (wd.alloc (.cells #[.bool bd, .slice Ad nd cd] 24)).heap.size := by simp
              clear Ha Hb Hc Hbc Hm HB Hs hb hww
              have Ha := Lib.hid ya; clear ya
              have Hb := Lib.hid yb; clear yb
              have Hc := Lib.hid yc; clear yc
              have Hbc := Lib.hid ybc; clear ybc
              have Hm := Lib.hid ym; clear ym
              have Hd := Lib.hid hnew; clear hnew
              have HB := Lib.hid hbel; clear hbel
              have Hs := Lib.hid hsz; clear hsz
              have k0a := Ha.out.c0
              have k1a := Ha.out.c1
              have k0b := Hb.out.c0
              have k1b := Hb.out.c1
              have k0c := Hc.out.c0
              have k1c := Hc.out.c1
              have k0bc := Hbc.out.c0
              have k1bc := Hbc.out.c1
              have k0m := Hm.out.c0
              have k1m := Hm.out.c1
              have k0d := Hd.out.c0
              have k1d := Hd.out.c1
              have hn1 : (em != em) = false := by simp
              go_wp2_with fail
              generalize (wd.alloc (.cells #[.bool bd, .slice Ad nd cd] 24)) = Wd at *
              obtain ⟨gd, hg⟩ : ∃ g, g = wd.heap.size := ⟨_, rfl⟩
              rw [← hg] at Hd k0d k1d Hs hgt
              try rw [← hg]
              clear hg
              have hgtd : gm + 1 ≤ gd := hgt; clear hgt
              refine (sameR_any (zm) (zm) _ _ _ (ZV.mk Hbbm.out Hm.out.w) (ZV.mk Hbbd.out Hd.out.w)).mono ?_
              rintro e ws7 ⟨rfl, hb⟩
              have hd : decide (zm = zm) = true := by simp
              rw [hd]
              clear hd
              clear k0a k1a k0b k1b k0c k1c k0bc k1bc k0m k1m k0d k1d
              have ya := Ha.out.next hb
              have yb := Hb.out.next hb
              have yc := Hc.out.next hb
              have ybc := Hbc.out.next hb
              have ym := Hm.out.next hb
              have yd := Hd.out.next hb
              have hbel := HB.out.trans (hb.mono HB.out.size)
              have hsz := Nat.le_trans Hs.out hb.size
              clear Ha Hb Hc Hbc Hm Hd HB Hs hb
              have Ha := Lib.hid ya; clear ya
              have Hb := Lib.hid yb; clear yb
              have Hc := Lib.hid yc; clear yc
              have Hbc := Lib.hid ybc; clear ybc
              have Hm := Lib.hid ym; clear ym
              have Hd := Lib.hid yd; clear yd
              have HB := Lib.hid hbel; clear hbel
              have Hs := Lib.hid hsz; clear hsz
              have k0a := Ha.out.c0
              have k1a := Ha.out.c1
              have k0b := Hb.out.c0
              have k1b := Hb.out.c1
              have k0c := Hc.out.c0
              have k1c := Hc.out.c1
              have k0bc := Hbc.out.c0
              have k1bc := Hbc.out.c1
              have k0m := Hm.out.c0
              have k1m := Hm.out.c1
              have k0d := Hd.out.c0
              have k1d := Hd.out.c1
              go_wp2_with fail
              clear hn1
              obtain ⟨zd18, hz⟩ : ∃ z, z = ansZ q r l' l'' (numOf q l' * numOf r l'') := ⟨_, rfl⟩
              obtain ⟨ed18, he⟩ : ∃ z, z = ansE q r l' l'' (numOf q l' * numOf r l'') := ⟨_, rfl⟩
              have Hzd18 := Lib.hid hz; clear hz
              have Hed18 := Lib.hid he; clear he
              refine (exactMul_u q r A' A'' n' c' n'' c'' l' l'' _ Hb.out.w Hc.out.w).mono ?_
              rintro e wd18 ⟨bd18, Ad18, nd18, cd18, rfl, hr, hb⟩
              rw [← Hed18.out]
              rw [← Hzd18.out] at hr
              obtain ⟨hbb, hww⟩ := hr.words
              have Hbbd18 := Lib.hid hbb; clear hbb hr
              have hgt := Nat.le_trans Hs.out hb.size
              clear k0a k1a k0b k1b k0c k1c k0bc k1bc k0m k1m k0d k1d
              clear hgt
              have ya := Ha.out.next hb
              have yb := Hb.out.next hb
              have yc := Hc.out.next hb
              have ybc := Hbc.out.next hb
              have ym := Hm.out.next hb
              have yd := Hd.out.next hb
              obtain ⟨x0, X0, y0, v0, k10, k11, k20, k21⟩ := yd.r.facts
              have hle : w.heap.size ≤ gd := by omega
              have hq0 := HB.out.trans (hb.mono HB.out.size)
              have hbel : Below w.heap.size w ((wd18.setCell ⟨gd, 0, none⟩ (.bool bd18)).setCell ⟨gd, 1, none⟩ (.slice Ad18 nd18 cd18)) := below_set2 hq0 hle _ _
              clear hq0
              have hsz : gd + 1 ≤ ((wd18.setCell ⟨gd, 0, none⟩ (.bool bd18)).setCell ⟨gd, 1, none⟩ (.slice Ad18 nd18 cd18)).heap.size := by have h1 := Nat.le_trans Hs.out hb.size; simpa [World.setCell] using h1
              clear Ha Hb Hc Hbc Hm Hd HB Hs hb
              have Ha := Lib.hid (ya.far yd.r (by omega) (.bool bd18) (.slice Ad18 nd18 cd18)); clear ya
              have Hb := Lib.hid (yb.far yd.r (by omega) (.bool bd18) (.slice Ad18 nd18 cd18)); clear yb
              have Hc := Lib.hid (yc.far yd.r (by omega) (.bool bd18) (.slice Ad18 nd18 cd18)); clear yc
              have Hbc := Lib.hid (ybc.far yd.r (by omega) (.bool bd18) (.slice Ad18 nd18 cd18)); clear ybc
              have Hm := Lib.hid (ym.far yd.r (by omega) (.bool bd18) (.slice Ad18 nd18 cd18)); clear ym
              have Hd := Lib.hid (HW.set yd.r bd18 Ad18 nd18 cd18 (dig zd18.natAbs) hww); clear yd hww
              have HB := Lib.hid hbel; clear hbel
              have Hs := Lib.hid hsz; clear hsz
              have k0a := Ha.out.c0
              have k1a := Ha.out.c1
              have k0b := Hb.out.c0
              have k1b := Hb.out.c1
              have k0c := Hc.out.c0
              have k1c := Hc.out.c1
              have k0bc := Hbc.out.c0
              have k1bc := Hbc.out.c1
              have k0m := Hm.out.c0
              have k1m := Hm.out.c1
              have k0d := Hd.out.c0
              have k1d := Hd.out.c1
              go_wp2_with fail
              clear hle k10 k11 k20 k21
              generalize ((wd18.setCell ⟨gd, 0, none⟩ (.bool bd18)).setCell ⟨gd, 1, none⟩ (.slice Ad18 nd18 cd18)) = Wd18 at *
              obtain ⟨zs21, hz⟩ : ∃ z, z = ansZ bm r (dig zm.natAbs) l'' (numOf bm (dig zm.natAbs) * numOf r l'') := ⟨_, rfl⟩
              obtain ⟨es21, he⟩ : ∃ z, z = ansE bm r (dig zm.natAbs) l'' (numOf bm (dig zm.natAbs) * numOf r l'') := ⟨_, rfl⟩
              have Hzs21 := Lib.hid hz; clear hz
              have Hes21 := Lib.hid he; clear he
              refine (exactMul_u bm r Am A'' nm cm n'' c'' (dig zm.natAbs) l'' _ Hm.out.w Hc.out.w).mono ?_
              rintro e ws21 ⟨bs21, As21, ns21, cs21, rfl, hr, hb⟩
              rw [← Hes21.out]
              rw [← Hzs21.out] at hr
              obtain ⟨hbb, hww⟩ := hr.words
              have Hbbs21 := Lib.hid hbb; clear hbb hr
              have hgt := Nat.le_trans Hs.out hb.size
              clear k0a k1a k0b k1b k0c k1c k0bc k1bc k0m k1m k0d k1d
              have ya := (Ha.out.next hb).alloc (.cells #[.bool bs21, .slice As21 ns21 cs21] 24)
              have yb := (Hb.out.next hb).alloc (.cells #[.bool bs21, .slice As21 ns21 cs21] 24)
              have yc := (Hc.out.next hb).alloc (.cells #[.bool bs21, .slice As21 ns21 cs21] 24)
              have ybc := (Hbc.out.next hb).alloc (.cells #[.bool bs21, .slice As21 ns21 cs21] 24)
              have ym := (Hm.out.next hb).alloc (.cells #[.bool bs21, .slice As21 ns21 cs21] 24)
              have yd := (Hd.out.next hb).alloc (.cells #[.bool bs21, .slice As21 ns21 cs21] 24)
              have hnew := HW.new ws21 bs21 As21 ns21 cs21 (dig zs21.natAbs) 24 hww
              have hbel := (HB.out.trans (hb.mono HB.out.size)).trans ((below1 ws21 (.cells #[.bool bs21, .slice As21 ns21 cs21] 24)).mono (HB.out.trans (hb.mono HB.out.size)).size)
              have hsz : ws21.heap.size + 1 ≤ (ws21.alloc (.cells #[.bool bs21, .slice As21 ns21 cs21] 24)).heap.size := by simp
              clear Ha Hb Hc Hbc Hm Hd HB Hs hb hww
              have Ha := Lib.hid ya; clear ya
              have Hb := Lib.hid yb; clear yb
              have Hc := Lib.hid yc; clear yc
              have Hbc := Lib.hid ybc; clear ybc
              have Hm := Lib.hid ym; clear ym
              have Hd := Lib.hid yd; clear yd
              have Hs21 := Lib.hid hnew; clear hnew
              have HB := Lib.hid hbel; clear hbel
              have Hs := Lib.hid hsz; clear hsz
              have k0a := Ha.out.c0
              have k1a := Ha.out.c1
              have k0b := Hb.out.c0
              have k1b := Hb.out.c1
              have k0c := Hc.out.c0
              have k1c := Hc.out.c1
              have k0bc := Hbc.out.c0
              have k1bc := Hbc.out.c1
              have k0m := Hm.out.c0
              have k1m := Hm.out.c1
              have k0d := Hd.out.c0
              have k1d := Hd.out.c1
              have k0s21 := Hs21.out.c0
              have k1s21 := Hs21.out.c1
              go_upto_region 20 with fail
              generalize (ws21.alloc (.cells #[.bool bs21, .slice As21 ns21 cs21] 24)) = Ws21 at *
              obtain ⟨gs21, hg⟩ : ∃ g, g = ws21.heap.size := ⟨_, rfl⟩
              rw [← hg] at Hs21 k0s21 k1s21 Hs hgt
              try rw [← hg]
              clear hg
              have hgts21 : gd + 1 ≤ gs21 := hgt; clear hgt
              obtain ⟨T146, hT⟩ : ∃ T, T = decide (em = 0 ∧ ed18 = 0 ∧ es21 = 0) := ⟨_, rfl⟩
              have HT146 := Lib.hid hT; clear hT
              go_cut [146] (fun s146 wx => s146 = .bool T146 ∧ Hid (Below w.heap.size w wx) ∧ Hid (HW wx g1 p A n c l) ∧ Hid (HW wx g2 q A' n' c' l') ∧ Hid (HW wx g3 r A'' n'' c'' l'') ∧ Hid (HW wx gbc bbc Abc nbc cbc (dig zbc.natAbs)) ∧ Hid (HW wx gm bm Am nm cm (dig zm.natAbs)) ∧ Hid (HW wx gd bd18 Ad18 nd18 cd18 (dig zd18.natAbs)) ∧ Hid (HW wx gs21 bs21 As21 ns21 cs21 (dig zs21.natAbs)) ∧ Hid (gs21 + 1 ≤ wx.heap.size))
              case first =>
                as_aux_lemma =>
                  by_cases hem : em = 0
                  · by_cases hed18 : ed18 = 0
                    · by_cases hes21 : es21 = 0
                      · have htem : (em == 0) = true := by simp [hem]
                        have hted18 : (ed18 == 0) = true := by simp [hed18]
                        have htes21 : (es21 == 0) = true := by simp [hes21]
                        go_wp2_with fail
                        have hT : T146 = true := by rw [HT146.out]; simp [hem, hed18, hes21]
                        go_meet
                        exact ⟨by rw [hT], HB, Ha, Hb, Hc, Hbc, Hm, Hd, Hs21, Lib.hid (by have := Hs.out; omega)⟩
                      · have htem : (em == 0) = true := by simp [hem]
                        have hted18 : (ed18 == 0) = true := by simp [hed18]
                        have htes21 : (es21 == 0) = false := by simp [hes21]
                        go_wp2_with fail
                        have hT : T146 = false := by rw [HT146.out]; simp [hem, hed18, hes21]
                        go_meet
                        exact ⟨by rw [hT], HB, Ha, Hb, Hc, Hbc, Hm, Hd, Hs21, Lib.hid (by have := Hs.out; omega)⟩
                    · have htem : (em == 0) = true := by simp [hem]
                      have hted18 : (ed18 == 0) = false := by simp [hed18]
                      go_wp2_with fail
                      have hT : T146 = false := by rw [HT146.out]; simp [hem, hed18]
                      go_meet
                      exact ⟨by rw [hT], HB, Ha, Hb, Hc, Hbc, Hm, Hd, Hs21, Lib.hid (by have := Hs.out; omega)⟩
                  · 
                    have htem : (em == 0) = false := by simp [hem]
                    go_wp2_with fail
                    have hT : T146 = false := by rw [HT146.out]; simp [hem]
                    go_meet
                    exact ⟨by rw [hT], HB, Ha, Hb, Hc, Hbc, Hm, Hd, Hs21, Lib.hid (by have := Hs.out; omega)⟩
              case rest =>
                as_aux_lemma =>
                  clear Ha k0a k1a Hb k0b k1b Hc k0c k1c Hbc k0bc k1bc Hm k0m k1m Hd k0d k1d Hs21 k0s21 k1s21 HB Hs
                  obtain ⟨rfl, HB, Ha, Hb, Hc, Hbc, Hm, Hd, Hs21, Hs⟩ := hcut
                  generalize wc = wq8 at *
                  have k0a := Ha.out.c0
                  have k1a := Ha.out.c1
                  have k0b := Hb.out.c0
                  have k1b := Hb.out.c1
                  have k0c := Hc.out.c0
                  have k1c := Hc.out.c1
                  have k0bc := Hbc.out.c0
                  have k1bc := Hbc.out.c1
                  have k0m := Hm.out.c0
                  have k1m := Hm.out.c1
                  have k0d := Hd.out.c0
                  have k1d := Hd.out.c1
                  have k0s21 := Hs21.out.c0
                  have k1s21 := Hs21.out.c1
                  go_upto_if 146 with fail
                  go_cut [146] (fun _ wx => Hid (Below w.heap.size w wx) ∧ Hid (HW wx g1 p A n c l) ∧ Hid (HW wx g2 q A' n' c' l') ∧ Hid (HW wx g3 r A'' n'' c'' l'') ∧ Hid (HW wx gbc bbc Abc nbc cbc (dig zbc.natAbs)) ∧ Hid (HW wx gm bm Am nm cm (dig zm.natAbs)) ∧ Hid (HW wx gd bd18 Ad18 nd18 cd18 (dig zd18.natAbs)) ∧ Hid (gs21 + 1 ≤ wx.heap.size))
                  case first =>
                    as_aux_lemma =>
                      cases T146
                      · go_wp2_with fail
                        go_meet
                        exact ⟨HB, Ha, Hb, Hc, Hbc, Hm, Hd, Lib.hid (by have := Hs.out; omega)⟩
                      · have hall : em = 0 ∧ ed18 = 0 ∧ es21 = 0 := of_decide_eq_true HT146.out.symm
                        have Hall := Lib.hid hall; clear hall
                        go_wp2_with fail
                        obtain ⟨zs23, hz⟩ : ∃ z, z = ansZ p bd18 l (dig zd18.natAbs) (numOf p l * numOf bd18 (dig zd18.natAbs)) := ⟨_, rfl⟩
                        obtain ⟨es23, he⟩ : ∃ z, z = ansE p bd18 l (dig zd18.natAbs) (numOf p l * numOf bd18 (dig zd18.natAbs)) := ⟨_, rfl⟩
                        have Hzs23 := Lib.hid hz; clear hz
                        have Hes23 := Lib.hid he; clear he
                        refine (exactMul_u p bd18 A Ad18 n c nd18 cd18 l (dig zd18.natAbs) _ Ha.out.w Hd.out.w).mono ?_
                        rintro e ws23 ⟨bs23, As23, ns23, cs23, rfl, hr, hb⟩
                        rw [← Hes23.out]
                        rw [← Hzs23.out] at hr
                        obtain ⟨hbb, hww⟩ := hr.words
                        have Hbbs23 := Lib.hid hbb; clear hbb hr
                        have hgt := Nat.le_trans Hs.out hb.size
                        clear k0a k1a k0b k1b k0c k1c k0bc k1bc k0m k1m k0d k1d k0s21 k1s21
                        have ya := (Ha.out.next hb).alloc (.cells #[.bool bs23, .slice As23 ns23 cs23] 24)
                        have yb := (Hb.out.next hb).alloc (.cells #[.bool bs23, .slice As23 ns23 cs23] 24)
                        have yc := (Hc.out.next hb).alloc (.cells #[.bool bs23, .slice As23 ns23 cs23] 24)
                        have ybc := (Hbc.out.next hb).alloc (.cells #[.bool bs23, .slice As23 ns23 cs23] 24)
                        have ym := (Hm.out.next hb).alloc (.cells #[.bool bs23, .slice As23 ns23 cs23] 24)
                        have yd := (Hd.out.next hb).alloc (.cells #[.bool bs23, .slice As23 ns23 cs23] 24)
                        have ys21 := (Hs21.out.next hb).alloc (.cells #[.bool bs23, .slice As23 ns23 cs23] 24)
                        have hnew := HW.new ws23 bs23 As23 ns23 cs23 (dig zs23.natAbs) 24 hww
                        have hbel := (HB.out.trans (hb.mono HB.out.size)).trans ((below1 ws23 (.cells #[.bool bs23, .slice As23 ns23 cs23] 24)).mono (HB.out.trans (hb.mono HB.out.size)).size)
                        have hsz : ws23.heap.size + 1 ≤ (ws23.alloc (.cells #[.bool bs23, .slice As23 ns23 cs23] 24)).heap.size := by simp
                        clear Ha Hb Hc Hbc Hm Hd Hs21 HB Hs hb hww
                        have Ha := Lib.hid ya; clear ya
                        have Hb := Lib.hid yb; clear yb
                        have Hc := Lib.hid yc; clear yc
                        have Hbc := Lib.hid ybc; clear ybc
                        have Hm := Lib.hid ym; clear ym
                        have Hd := Lib.hid yd; clear yd
                        have Hs21 := Lib.hid ys21; clear ys21
                        have Hs23 := Lib.hid hnew; clear hnew
                        have HB := Lib.hid hbel; clear hbel
                        have Hs := Lib.hid hsz; clear hsz
                        have k0a := Ha.out.c0
                        have k1a := Ha.out.c1
                        have k0b := Hb.out.c0
                        have k1b := Hb.out.c1
                        have k0c := Hc.out.c0
                        have k1c := Hc.out.c1
                        have k0bc := Hbc.out.c0
                        have k1bc := Hbc.out.c1
                        have k0m := Hm.out.c0
                        have k1m := Hm.out.c1
                        have k0d := Hd.out.c0
                        have k1d := Hd.out.c1
                        have k0s21 := Hs21.out.c0
                        have k1s21 := Hs21.out.c1
                        have k0s23 := Hs23.out.c0
                        have k1s23 := Hs23.out.c1
                        obtain ⟨he0, hzz⟩ := ring_assoc (f := fun x y => x * y) (fun x y z => Int.mul_assoc x y z) ⟨Hzm.out, Hem.out⟩ ⟨Hzd18.out, Hed18.out⟩ Hbbm.out Hbbd18.out ⟨Hzs21.out, Hes21.out⟩ ⟨Hzs23.out, Hes23.out⟩ Hall.out.1 Hall.out.2.1 Hall.out.2.2
                        have hn1 : (es23 != 0) = false := by simp [he0]
                        have Hzz := Lib.hid hzz; clear hzz he0
                        go_wp2_with fail
                        generalize (ws23.alloc (.cells #[.bool bs23, .slice As23 ns23 cs23] 24)) = Ws23 at *
                        obtain ⟨gs23, hg⟩ : ∃ g, g = ws23.heap.size := ⟨_, rfl⟩
                        rw [← hg] at Hs23 k0s23 k1s23 Hs hgt
                        try rw [← hg]
                        clear hg
                        have hgts23 : gs21 + 1 ≤ gs23 := hgt; clear hgt
                        refine (sameR_any (zs21) (zs23) _ _ _ (ZV.mk Hbbs21.out Hs21.out.w) (ZV.mk Hbbs23.out Hs23.out.w)).mono ?_
                        rintro e ws9 ⟨rfl, hb⟩
                        have hd : decide (zs21 = zs23) = true := by rw [Hzz.out]; simp
                        rw [hd]
                        clear hd
                        clear k0a k1a k0b k1b k0c k1c k0bc k1bc k0m k1m k0d k1d k0s21 k1s21 k0s23 k1s23
                        have ya := Ha.out.next hb
                        have yb := Hb.out.next hb
                        have yc := Hc.out.next hb
                        have ybc := Hbc.out.next hb
                        have ym := Hm.out.next hb
                        have yd := Hd.out.next hb
                        have ys21 := Hs21.out.next hb
                        have ys23 := Hs23.out.next hb
                        have hbel := HB.out.trans (hb.mono HB.out.size)
                        have hsz := Nat.le_trans Hs.out hb.size
                        clear Ha Hb Hc Hbc Hm Hd Hs21 Hs23 HB Hs hb
                        have Ha := Lib.hid ya; clear ya
                        have Hb := Lib.hid yb; clear yb
                        have Hc := Lib.hid yc; clear yc
                        have Hbc := Lib.hid ybc; clear ybc
                        have Hm := Lib.hid ym; clear ym
                        have Hd := Lib.hid yd; clear yd
                        have Hs21 := Lib.hid ys21; clear ys21
                        have Hs23 := Lib.hid ys23; clear ys23
                        have HB := Lib.hid hbel; clear hbel
                        have Hs := Lib.hid hsz; clear hsz
                        have k0a := Ha.out.c0
                        have k1a := Ha.out.c1
                        have k0b := Hb.out.c0
                        have k1b := Hb.out.c1
                        have k0c := Hc.out.c0
                        have k1c := Hc.out.c1
                        have k0bc := Hbc.out.c0
                        have k1bc := Hbc.out.c1
                        have k0m := Hm.out.c0
                        have k1m := Hm.out.c1
                        have k0d := Hd.out.c0
                        have k1d := Hd.out.c1
                        have k0s21 := Hs21.out.c0
                        have k1s21 := Hs21.out.c1
                        have k0s23 := Hs23.out.c0
                        have k1s23 := Hs23.out.c1
                        go_wp2_with fail
                        go_meet
                        exact ⟨HB, Ha, Hb, Hc, Hbc, Hm, Hd, Lib.hid (by have := Hs.out; omega)⟩
                  case rest =>
                    as_aux_lemma =>
                      clear Ha k0a k1a Hb k0b k1b Hc k0c k1c Hbc k0bc k1bc Hm k0m k1m Hd k0d k1d Hs21 k0s21 k1s21 HB Hs
                      obtain ⟨HB, Ha, Hb, Hc, Hbc, Hm, Hd, Hs⟩ := hcut
                      generalize wc = wq10 at *
                      have k0a := Ha.out.c0
                      have k1a := Ha.out.c1
                      have k0b := Hb.out.c0
                      have k1b := Hb.out.c1
                      have k0c := Hc.out.c0
                      have k1c := Hc.out.c1
                      have k0bc := Hbc.out.c0
                      have k1bc := Hbc.out.c1
                      have k0m := Hm.out.c0
                      have k1m := Hm.out.c1
                      have k0d := Hd.out.c0
                      have k1d := Hd.out.c1
                      clear HT146 Hzs21 Hes21 Hbbs21
                      go_wp2_with fail
                      obtain ⟨zd24, hz⟩ : ∃ z, z = ansZ p r l l'' (numOf p l * numOf r l'') := ⟨_, rfl⟩
                      obtain ⟨ed24, he⟩ : ∃ z, z = ansE p r l l'' (numOf p l * numOf r l'') := ⟨_, rfl⟩
                      have Hzd24 := Lib.hid hz; clear hz
                      have Hed24 := Lib.hid he; clear he
                      refine (exactMul_u p r A A'' n c n'' c'' l l'' _ Ha.out.w Hc.out.w).mono ?_
                      rintro e wd24 ⟨bd24, Ad24, nd24, cd24, rfl, hr, hb⟩
                      rw [← Hed24.out]
                      rw [← Hzd24.out] at hr
                      obtain ⟨hbb, hww⟩ := hr.words
                      have Hbbd24 := Lib.hid hbb; clear hbb hr
                      have hgt := Nat.le_trans Hs.out hb.size
                      clear k0a k1a k0b k1b k0c k1c k0bc k1bc k0m k1m k0d k1d
                      clear hgt
                      have ya := Ha.out.next hb
                      have yb := Hb.out.next hb
                      have yc := Hc.out.next hb
                      have ybc := Hbc.out.next hb
                      have ym := Hm.out.next hb
                      have yd := Hd.out.next hb
                      obtain ⟨x0, X0, y0, v0, k10, k11, k20, k21⟩ := yd.r.facts
                      have hle : w.heap.size ≤ gd := by omega
                      have hq0 := HB.out.trans (hb.mono HB.out.size)
                      have hbel : Below w.heap.size w ((wd24.setCell ⟨gd, 0, none⟩ (.bool bd24)).setCell ⟨gd, 1, none⟩ (.slice Ad24 nd24 cd24)) := below_set2 hq0 hle _ _
                      clear hq0
                      have hsz : gs21 + 1 ≤ ((wd24.setCell ⟨gd, 0, none⟩ (.bool bd24)).setCell ⟨gd, 1, none⟩ (.slice Ad24 nd24 cd24)).heap.size := by have h1 := Nat.le_trans Hs.out hb.size; simpa [World.setCell] using h1
                      clear Ha Hb Hc Hbc Hm Hd HB Hs hb
                      have Ha := Lib.hid (ya.far yd.r (by omega) (.bool bd24) (.slice Ad24 nd24 cd24)); clear ya
                      have Hb := Lib.hid (yb.far yd.r (by omega) (.bool bd24) (.slice Ad24 nd24 cd24)); clear yb
                      have Hc := Lib.hid (yc.far yd.r (by omega) (.bool bd24) (.slice Ad24 nd24 cd24)); clear yc
                      have Hbc := Lib.hid (ybc.far yd.r (by omega) (.bool bd24) (.slice Ad24 nd24 cd24)); clear ybc
                      have Hm := Lib.hid (ym.far yd.r (by omega) (.bool bd24) (.slice Ad24 nd24 cd24)); clear ym
                      have Hd := Lib.hid (HW.set yd.r bd24 Ad24 nd24 cd24 (dig zd24.natAbs) hww); clear yd hww
                      have HB := Lib.hid hbel; clear hbel
                      have Hs := Lib.hid hsz; clear hsz
                      have k0a := Ha.out.c0
                      have k1a := Ha.out.c1
                      have k0b := Hb.out.c0
                      have k1b := Hb.out.c1
                      have k0c := Hc.out.c0
                      have k1c := Hc.out.c1
                      have k0bc := Hbc.out.c0
                      have k1bc := Hbc.out.c1
                      have k0m := Hm.out.c0
                      have k1m := Hm.out.c1
                      have k0d := Hd.out.c0
                      have k1d := Hd.out.c1
                      go_wp2_with fail
                      clear hle k10 k11 k20 k21
                      generalize ((wd24.setCell ⟨gd, 0, none⟩ (.bool bd24)).setCell ⟨gd, 1, none⟩ (.slice Ad24 nd24 cd24)) = Wd24 at *
                      obtain ⟨zs25, hz⟩ : ∃ z, z = ansZ p bbc l (dig zbc.natAbs) (numOf p l * numOf bbc (dig zbc.natAbs)) := ⟨_, rfl⟩
                      obtain ⟨es25, he⟩ : ∃ z, z = ansE p bbc l (dig zbc.natAbs) (numOf p l * numOf bbc (dig zbc.natAbs)) := ⟨_, rfl⟩
                      have Hzs25 := Lib.hid hz; clear hz
                      have Hes25 := Lib.hid he; clear he
                      refine (exactMul_u p bbc A Abc n c nbc cbc l (dig zbc.natAbs) _ Ha.out.w Hbc.out.w).mono ?_
                      rintro e ws25 ⟨bs25, As25, ns25, cs25, rfl, hr, hb⟩
                      rw [← Hes25.out]
                      rw [← Hzs25.out] at hr
                      obtain ⟨hbb, hww⟩ := hr.words
                      have Hbbs25 := Lib.hid hbb; clear hbb hr
                      have hgt := Nat.le_trans Hs.out hb.size
                      clear k0a k1a k0b k1b k0c k1c k0bc k1bc k0m k1m k0d k1d
                      have ya := (Ha.out.next hb).alloc (.cells #[.bool bs25, .slice As25 ns25 cs25] 24)
                      have yb := (Hb.out.next hb).alloc (.cells #[.bool bs25, .slice As25 ns25 cs25] 24)
                      have yc := (Hc.out.next hb).alloc (.cells #[.bool bs25, .slice As25 ns25 cs25] 24)
                      have ybc := (Hbc.out.next hb).alloc (.cells #[.bool bs25, .slice As25 ns25 cs25] 24)
                      have ym := (Hm.out.next hb).alloc (.cells #[.bool bs25, .slice As25 ns25 cs25] 24)
                      have yd := (Hd.out.next hb).alloc (.cells #[.bool bs25, .slice As25 ns25 cs25] 24)
                      have hnew := HW.new ws25 bs25 As25 ns25 cs25 (dig zs25.natAbs) 24 hww
                      have hbel := (HB.out.trans (hb.mono HB.out.size)).trans ((below1 ws25 (.cells #[.bool bs25, .slice As25 ns25 cs25] 24)).mono (HB.out.trans (hb.mono HB.out.size)).size)
                      have hsz : ws25.heap.size + 1 ≤ (ws25.alloc (.cells #[.bool bs25, .slice As25 ns25 cs25] 24)).heap.size := by simp
                      clear Ha Hb Hc Hbc Hm Hd HB Hs hb hww
                      have Ha := Lib.hid ya; clear ya
                      have Hb := Lib.hid yb; clear yb
                      have Hc := Lib.hid yc; clear yc
                      have Hbc := Lib.hid ybc; clear ybc
                      have Hm := Lib.hid ym; clear ym
                      have Hd := Lib.hid yd; clear yd
                      have Hs25 := Lib.hid hnew; clear hnew
                      have HB := Lib.hid hbel; clear hbel
                      have Hs := Lib.hid hsz; clear hsz
                      have k0a := Ha.out.c0
                      have k1a := Ha.out.c1
                      have k0b := Hb.out.c0
                      have k1b := Hb.out.c1
                      have k0c := Hc.out.c0
                      have k1c := Hc.out.c1
                      have k0bc := Hbc.out.c0
                      have k1bc := Hbc.out.c1
                      have k0m := Hm.out.c0
                      have k1m := Hm.out.c1
                      have k0d := Hd.out.c0
                      have k1d := Hd.out.c1
                      have k0s25 := Hs25.out.c0
                      have k1s25 := Hs25.out.c1
                      go_upto_region 26 with fail
                      generalize (ws25.alloc (.cells #[.bool bs25, .slice As25 ns25 cs25] 24)) = Ws25 at *
                      obtain ⟨gs25, hg⟩ : ∃ g, g = ws25.heap.size := ⟨_, rfl⟩
                      rw [← hg] at Hs25 k0s25 k1s25 Hs hgt
                      try rw [← hg]
                      clear hg
                      have hgts25 : gs21 + 1 ≤ gs25 := hgt; clear hgt
                      obtain ⟨T186, hT⟩ : ∃ T, T = decide (em = 0 ∧ ebc = 0 ∧ ed24 = 0 ∧ es25 = 0) := ⟨_, rfl⟩
                      have HT186 := Lib.hid hT; clear hT
                      go_cut [186] (fun s186 wx => s186 = .bool T186 ∧ Hid (Below w.heap.size w wx) ∧ Hid (HW wx g1 p A n c l) ∧ Hid (HW wx g2 q A' n' c' l') ∧ Hid (HW wx g3 r A'' n'' c'' l'') ∧ Hid (HW wx gbc bbc Abc nbc cbc (dig zbc.natAbs)) ∧ Hid (HW wx gm bm Am nm cm (dig zm.natAbs)) ∧ Hid (HW wx gd bd24 Ad24 nd24 cd24 (dig zd24.natAbs)) ∧ Hid (HW wx gs25 bs25 As25 ns25 cs25 (dig zs25.natAbs)) ∧ Hid (gs25 + 1 ≤ wx.heap.size))
                      case first =>
                        as_aux_lemma =>
                          by_cases hem : em = 0
                          · by_cases hebc : ebc = 0
                            · by_cases hed24 : ed24 = 0
                              · by_cases hes25 : es25 = 0
                                · have htem : (em == 0) = true := by simp [hem]
                                  have htebc : (ebc == 0) = true := by simp [hebc]
                                  have hted24 : (ed24 == 0) = true := by simp [hed24]
                                  have htes25 : (es25 == 0) = true := by simp [hes25]
                                  go_wp2_with fail
                                  have hT : T186 = true := by rw [HT186.out]; simp [hem, hebc, hed24, hes25]
                                  go_meet
                                  exact ⟨by rw [hT], HB, Ha, Hb, Hc, Hbc, Hm, Hd, Hs25, Lib.hid (by have := Hs.out; omega)⟩
                                · have htem : (em == 0) = true := by simp [hem]
                                  have htebc : (ebc == 0) = true := by simp [hebc]
                                  have hted24 : (ed24 == 0) = true := by simp [hed24]
                                  have htes25 : (es25 == 0) = false := by simp [hes25]
                                  go_wp2_with fail
                                  have hT : T186 = false := by rw [HT186.out]; simp [hem, hebc, hed24, hes25]
                                  go_meet
                                  exact ⟨by rw [hT], HB, Ha, Hb, Hc, Hbc, Hm, Hd, Hs25, Lib.hid (by have := Hs.out; omega)⟩
                              · have htem : (em == 0) = true := by simp [hem]
                                have htebc : (ebc == 0) = true := by simp [hebc]
                                have hted24 : (ed24 == 0) = false := by simp [hed24]
                                go_wp2_with fail
                                have hT : T186 = false := by rw [HT186.out]; simp [hem, hebc, hed24]
                                go_meet
                                exact ⟨by rw [hT], HB, Ha, Hb, Hc, Hbc, Hm, Hd, Hs25, Lib.hid (by have := Hs.out; omega)⟩
                            · have htem : (em == 0) = true := by simp [hem]
                              have htebc : (ebc == 0) = false := by simp [hebc]
                              go_wp2_with fail
                              have hT : T186 = false := by rw [HT186.out]; simp [hem, hebc]
                              go_meet
                              exact ⟨by rw [hT], HB, Ha, Hb, Hc, Hbc, Hm, Hd, Hs25, Lib.hid (by have := Hs.out; omega)⟩
                          · 
                            have htem : (em == 0) = false := by simp [hem]
                            go_wp2_with fail
                            have hT : T186 = false := by rw [HT186.out]; simp [hem]
                            go_meet
                            exact ⟨by rw [hT], HB, Ha, Hb, Hc, Hbc, Hm, Hd, Hs25, Lib.hid (by have := Hs.out; omega)⟩
                      case rest =>
                        as_aux_lemma =>
                          clear Ha k0a k1a Hb k0b k1b Hc k0c k1c Hbc k0bc k1bc Hm k0m k1m Hd k0d k1d Hs25 k0s25 k1s25 HB Hs
                          obtain ⟨rfl, HB, Ha, Hb, Hc, Hbc, Hm, Hd, Hs25, Hs⟩ := hcut
                          generalize wc = wq11 at *
                          have k0a := Ha.out.c0
                          have k1a := Ha.out.c1
                          have k0b := Hb.out.c0
                          have k1b := Hb.out.c1
                          have k0c := Hc.out.c0
                          have k1c := Hc.out.c1
                          have k0bc := Hbc.out.c0
                          have k1bc := Hbc.out.c1
                          have k0m := Hm.out.c0
                          have k1m := Hm.out.c1
                          have k0d := Hd.out.c0
                          have k1d := Hd.out.c1
                          have k0s25 := Hs25.out.c0
                          have k1s25 := Hs25.out.c1
                          go_upto_if 186 with fail
                          go_cut [186] (fun _ wx => Hid (Below w.heap.size w wx) ∧ Hid (HW wx g1 p A n c l) ∧ Hid (gs25 + 1 ≤ wx.heap.size))
                          case first =>
                            as_aux_lemma =>
                              cases T186
                              · go_wp2_with fail
                                go_meet
                                exact ⟨HB, Ha, Lib.hid (by have := Hs.out; omega)⟩
                              · have hall : em = 0 ∧ ebc = 0 ∧ ed24 = 0 ∧ es25 = 0 := of_decide_eq_true HT186.out.symm
                                have Hall := Lib.hid hall; clear hall
                                go_wp2_with fail
                                obtain ⟨zs27, hz⟩ : ∃ z, z = ansZ bm bd24 (dig zm.natAbs) (dig zd24.natAbs) (numOf bm (dig zm.natAbs) + numOf bd24 (dig zd24.natAbs)) := ⟨_, rfl⟩
                                obtain ⟨es27, he⟩ : ∃ z, z = ansE bm bd24 (dig zm.natAbs) (dig zd24.natAbs) (numOf bm (dig zm.natAbs) + numOf bd24 (dig zd24.natAbs)) := ⟨_, rfl⟩
                                have Hzs27 := Lib.hid hz; clear hz
                                have Hes27 := Lib.hid he; clear he
                                refine (exactAdd_u bm bd24 Am Ad24 nm cm nd24 cd24 (dig zm.natAbs) (dig zd24.natAbs) _ Hm.out.w Hd.out.w).mono ?_
                                rintro e ws27 ⟨bs27, As27, ns27, cs27, rfl, hr, hb⟩
                                rw [← Hes27.out]
                                rw [← Hzs27.out] at hr
                                obtain ⟨hbb, hww⟩ := hr.words
                                have Hbbs27 := Lib.hid hbb; clear hbb hr
                                have hgt := Nat.le_trans Hs.out hb.size
                                clear k0a k1a k0b k1b k0c k1c k0bc k1bc k0m k1m k0d k1d k0s25 k1s25
                                have ya := (Ha.out.next hb).alloc (.cells #[.bool bs27, .slice As27 ns27 cs27] 24)
                                have yb := (Hb.out.next hb).alloc (.cells #[.bool bs27, .slice As27 ns27 cs27] 24)
                                have yc := (Hc.out.next hb).alloc (.cells #[.bool bs27, .slice As27 ns27 cs27] 24)
                                have ybc := (Hbc.out.next hb).alloc (.cells #[.bool bs27, .slice As27 ns27 cs27] 24)
                                have ym := (Hm.out.next hb).alloc (.cells #[.bool bs27, .slice As27 ns27 cs27] 24)
                                have yd := (Hd.out.next hb).alloc (.cells #[.bool bs27, .slice As27 ns27 cs27] 24)
                                have ys25 := (Hs25.out.next hb).alloc (.cells #[.bool bs27, .slice As27 ns27 cs27] 24)
                                have hnew := HW.new ws27 bs27 As27 ns27 cs27 (dig zs27.natAbs) 24 hww
                                have hbel := (HB.out.trans (hb.mono HB.out.size)).trans ((below1 ws27 (.cells #[.bool bs27, .slice As27 ns27 cs27] 24)).mono (HB.out.trans (hb.mono HB.out.size)).size)
                                have hsz : ws27.heap.size + 1 ≤ (ws27.alloc (.cells #[.bool bs27, .slice As27 ns27 cs27] 24)).heap.size := by simp
                                clear Ha Hb Hc Hbc Hm Hd Hs25 HB Hs hb hww
                                have Ha := Lib.hid ya; clear ya
                                have Hb := Lib.hid yb; clear yb
                                have Hc := Lib.hid yc; clear yc
                                have Hbc := Lib.hid ybc; clear ybc
                                have Hm := Lib.hid ym; clear ym
                                have Hd := Lib.hid yd; clear yd
                                have Hs25 := Lib.hid ys25; clear ys25
                                have Hs27 := Lib.hid hnew; clear hnew
                                have HB := Lib.hid hbel; clear hbel
                                have Hs := Lib.hid hsz; clear hsz
                                have k0a := Ha.out.c0
                                have k1a := Ha.out.c1
                                have k0b := Hb.out.c0
                                have k1b := Hb.out.c1
                                have k0c := Hc.out.c0
                                have k1c := Hc.out.c1
                                have k0bc := Hbc.out.c0
                                have k1bc := Hbc.out.c1
                                have k0m := Hm.out.c0
                                have k1m := Hm.out.c1
                                have k0d := Hd.out.c0
                                have k1d := Hd.out.c1
                                have k0s25 := Hs25.out.c0
                                have k1s25 := Hs25.out.c1
                                have k0s27 := Hs27.out.c0
                                have k1s27 := Hs27.out.c1
                                obtain ⟨he0, hzz⟩ := ring_dist (f := fun x y => x + y) (g := fun x y => x * y) (fun x y z => Int.mul_add x y z) ⟨Hzm.out, Hem.out⟩ ⟨Hzbc.out, Hebc.out⟩ ⟨Hzd24.out, Hed24.out⟩ Hbbm.out Hbbbc.out Hbbd24.out ⟨Hzs25.out, Hes25.out⟩ ⟨Hzs27.out, Hes27.out⟩ Hall.out.1 Hall.out.2.1 Hall.out.2.2.1 Hall.out.2.2.2
                                have hn1 : (es27 != 0) = false := by simp [he0]
                                have Hzz := Lib.hid hzz; clear hzz he0
                                go_wp2_with fail
                                generalize (ws27.alloc (.cells #[.bool bs27, .slice As27 ns27 cs27] 24)) = Ws27 at *
                                obtain ⟨gs27, hg⟩ : ∃ g, g = ws27.heap.size := ⟨_, rfl⟩
                                rw [← hg] at Hs27 k0s27 k1s27 Hs hgt
                                try rw [← hg]
                                clear hg
                                have hgts27 : gs25 + 1 ≤ gs27 := hgt; clear hgt
                                refine (sameR_any (zs25) (zs27) _ _ _ (ZV.mk Hbbs25.out Hs25.out.w) (ZV.mk Hbbs27.out Hs27.out.w)).mono ?_
                                rintro e ws12 ⟨rfl, hb⟩
                                have hd : decide (zs25 = zs27) = true := by rw [Hzz.out]; simp
                                rw [hd]
                                clear hd
                                clear k0a k1a k0b k1b k0c k1c k0bc k1bc k0m k1m k0d k1d k0s25 k1s25 k0s27 k1s27
                                have ya := Ha.out.next hb
                                have yb := Hb.out.next hb
                                have yc := Hc.out.next hb
                                have ybc := Hbc.out.next hb
                                have ym := Hm.out.next hb
                                have yd := Hd.out.next hb
                                have ys25 := Hs25.out.next hb
                                have ys27 := Hs27.out.next hb
                                have hbel := HB.out.trans (hb.mono HB.out.size)
                                have hsz := Nat.le_trans Hs.out hb.size
                                clear Ha Hb Hc Hbc Hm Hd Hs25 Hs27 HB Hs hb
                                have Ha := Lib.hid ya; clear ya
                                have Hb := Lib.hid yb; clear yb
                                have Hc := Lib.hid yc; clear yc
                                have Hbc := Lib.hid ybc; clear ybc
                                have Hm := Lib.hid ym; clear ym
                                have Hd := Lib.hid yd; clear yd
                                have Hs25 := Lib.hid ys25; clear ys25
                                have Hs27 := Lib.hid ys27; clear ys27
                                have HB := Lib.hid hbel; clear hbel
                                have Hs := Lib.hid hsz; clear hsz
                                have k0a := Ha.out.c0
                                have k1a := Ha.out.c1
                                have k0b := Hb.out.c0
                                have k1b := Hb.out.c1
                                have k0c := Hc.out.c0
                                have k1c := Hc.out.c1
                                have k0bc := Hbc.out.c0
                                have k1bc := Hbc.out.c1
                                have k0m := Hm.out.c0
                                have k1m := Hm.out.c1
                                have k0d := Hd.out.c0
                                have k1d := Hd.out.c1
                                have k0s25 := Hs25.out.c0
                                have k1s25 := Hs25.out.c1
                                have k0s27 := Hs27.out.c0
                                have k1s27 := Hs27.out.c1
                                go_wp2_with fail
                                go_meet
                                exact ⟨HB, Ha, Lib.hid (by have := Hs.out; omega)⟩
                          case rest =>
                            as_aux_lemma =>
                              clear Ha k0a k1a Hb k0b k1b Hc k0c k1c Hbc k0bc k1bc Hm k0m k1m Hd k0d k1d Hs25 k0s25 k1s25 HB Hs
                              obtain ⟨HB, Ha, Hs⟩ := hcut
                              generalize wc = wq13 at *
                              have k0a := Ha.out.c0
                              have k1a := Ha.out.c1
                              clear HT186 
                              go_wp2_with fail
                              refine (awake_any _).mono ?_
                              rintro e wz ⟨rfl, hb⟩
                              have hbel := HB.out.trans (hb.mono HB.out.size)
                              clear k0a k1a
                              clear Ha HB Hs hb
                              go_wp2_with fail
                              go_ret
                              exact ⟨rfl, hbel⟩
end Go.Proofs.Ytmlopkkbgpfdnaa
