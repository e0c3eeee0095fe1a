/- Courses: what is due, the prices out of a table; isSound. · Courses: a table as prices; isSound. · Walks: Check. -/
import Derived.Test.YtlachbodibajlaaDoorM25
import Derived.Test.YtlachbodibajlaaDoorM19
import Derived.Test.YtlachbodibajlaaDoorM20
import Derived.Test.YtlachbodibajlaaDoorM21
namespace Go.Proofs.YtlachbodibajlaaDoor
open Go.RowKit Go.Shelf

set_option maxHeartbeats 4000000 in
set_option maxRecDepth 100000 in
theorem dueT_any (S C E N : Value) (c : Crs) (W0 W : World) (kb g1 g2 s l : Nat) (pr : Nat → Int) (Inv : World → Prop) (h : Cv W0 S C E N c) (hc : c.ok) (hs : s < 2 ^ c.n) (hl : l < c.n) (hI : Inv W)
    (hI1 : ∀ X, Inv X → Ext W0 X) (hI2 : ∀ X Y, Inv X → Ext X Y → Inv Y) (hg1 : g1 < W.heap.size) (hg2 : g2 < W.heap.size)
    (hb : ∀ p, p < c.sz → -1099511627776 ≤ pr p ∧ pr p ≤ 1099511627776)
    (hP : ∀ x, x < c.n → c.can s x = true → ∀ X, Inv X → Calls Tryd.prog 83 #[.int .i64 ((c.n * (s ||| 2 ^ x) + x : Nat) : Int), .pointer (some ⟨kb, 0, none⟩)] X fun e X' => e = .returned (.int .i64 (pr (c.n * (s ||| 2 ^ x) + x))) ∧ Kq g1 g2 X X' ∧ Inv X') :
    Calls Tryd.prog 111 #[.agg #[S, C, E, N], .func (.func 83) #[] #[.pointer (some ⟨kb, 0, none⟩)], .int .i64 s, .int .i64 l] W fun e W' => e = .returned (.int .i64 (c.due pr s l)) ∧ Kq g1 g2 W W' ∧ Inv W' := by
  have HP := Lib.hid fun X hX h1 h2 => cheapestT_any S C E N c W0 X kb g1 g2 s l pr Inv h hc hs hl hX hI1 hI2 h1 h2 hb hP
  obtain ⟨A, k, rfl, hk, hk2, -⟩ := id h.vs
  obtain ⟨A2, k2, rfl, -⟩ := id h.vc
  obtain ⟨A3, k3, rfl, -⟩ := id h.ve
  obtain ⟨A4, k4, rfl, -⟩ := id h.vn
  obtain ⟨b3, o3, rfl, zb3, hq3⟩ := Vl.at h.ve (Ext.refl _) hl
  have hx0 := hI1 W hI
  have e1 : Ext W (W.alloc (.cells #[.slice A c.n k, .slice A2 c.n k2, .slice (some ⟨b3, o3, none⟩) c.n k3, .slice A4 c.n k4] 93)) := al1 W _
  have q3 := (hx0.trans e1).at zb3 hq3
  have z3 := Nat.lt_of_lt_of_le zb3 (hx0.trans e1).size
  have hbk := heap_alloc_new W (.cells #[.slice A c.n k, .slice A2 c.n k2, .slice (some ⟨b3, o3, none⟩) c.n k3, .slice A4 c.n k4] 93)
  have HG : Hid (Inv (W.alloc (.cells #[.slice A c.n k, .slice A2 c.n k2, .slice (some ⟨b3, o3, none⟩) c.n k3, .slice A4 c.n k4] 93)) ∧ Kq g1 g2 W (W.alloc (.cells #[.slice A c.n k, .slice A2 c.n k2, .slice (some ⟨b3, o3, none⟩) c.n k3, .slice A4 c.n k4] 93)) ∧ g1 < (W.alloc (.cells #[.slice A c.n k, .slice A2 c.n k2, .slice (some ⟨b3, o3, none⟩) c.n k3, .slice A4 c.n k4] 93)).heap.size ∧ g2 < (W.alloc (.cells #[.slice A c.n k, .slice A2 c.n k2, .slice (some ⟨b3, o3, none⟩) c.n k3, .slice A4 c.n k4] 93)).heap.size) :=
    Lib.hid ⟨hI2 _ _ hI e1, Kq.of g1 g2 e1, Nat.lt_of_lt_of_le hg1 e1.size, Nat.lt_of_lt_of_le hg2 e1.size⟩
  have HC := Lib.hid h; have HOK := Lib.hid hc; have HINV := Lib.hid (And.intro hI1 hI2)
  obtain ⟨s1, hs1⟩ : ∃ s, s = W.heap.size := ⟨_, rfl⟩
  have HS1 := Lib.hid hs1
  rw [← hs1] at hbk
  obtain ⟨a, ha⟩ : ∃ a, a = c.all := ⟨_, rfl⟩
  have HA := Lib.hid fun X hX => all_any (.slice A c.n k) (.slice A2 c.n k2) (.slice (some ⟨b3, o3, none⟩) c.n k3) (.slice A4 c.n k4) c X (h.ext (hI1 X hX)) hc
  rw [← ha] at HA
  have hdue : c.due pr s l = if s = a then c.en l else (c.chp pr s l).2 := by rw [ha]; rfl
  obtain ⟨rb, hrb⟩ : ∃ r, r = (c.chp pr s l).1 := ⟨_, rfl⟩
  obtain ⟨rc, hrc⟩ : ∃ r, r = (c.chp pr s l).2 := ⟨_, rfl⟩
  rw [← hrc] at hdue
  rw [← hrb, ← hrc] at HP
  have HD := Lib.hid hdue
  have HGS := Lib.hid (And.intro hg1 hg2)
  clear h hc hs hI hI1 hI2 hg1 hg2 hb hP hx0 e1 zb3 hq3 ha hdue hrb hrc hk hk2
  go_enter Tryd.func111, Tryd.ntmps111
  go_upto_region 1 with fail
  rw [← HS1.out]
  generalize W.alloc (.cells #[.slice A c.n k, .slice A2 c.n k2, .slice (some ⟨b3, o3, none⟩) c.n k3, .slice A4 c.n k4] 93) = W1 at *
  have gs1 : s1 ≠ g1 := by have := HGS.out; have := HS1.out; omega
  have gs2 : s1 ≠ g2 := by have := HGS.out; have := HS1.out; omega
  obtain ⟨c0, c1, c2, c3, z0⟩ := four_c hbk
  clear hbk hs1
  go_wp2_with fail
  refine (HA.out _ HG.out.1).mono ?_
  rintro e w2 ⟨rfl, hx⟩
  replace c0 := hx.at z0 c0
  replace c1 := hx.at z0 c1
  replace c2 := hx.at z0 c2
  replace c3 := hx.at z0 c3
  replace z0 := Nat.lt_of_lt_of_le z0 hx.size
  replace q3 := hx.at z3 q3
  replace z3 := Nat.lt_of_lt_of_le z3 hx.size
  have HG2 : Hid (Inv w2 ∧ Kq g1 g2 W w2 ∧ g1 < w2.heap.size ∧ g2 < w2.heap.size) := Lib.hid ⟨HINV.out.2 _ _ HG.out.1 hx, HG.out.2.1.trans (Kq.of g1 g2 hx), Nat.lt_of_lt_of_le HG.out.2.2.1 hx.size, Nat.lt_of_lt_of_le HG.out.2.2.2 hx.size⟩
  clear hx
  by_cases hsa : s = a
  · have hb : ((s : Int) == (a : Int)) = true := by simp; omega
    have HSA : Hid (c.due pr s l = c.en l) := Lib.hid (by rw [HD.out, if_pos hsa])
    clear HD
    subst hsa
    clear hb
    go_wp2
    go_ret
    exact ⟨by rw [HSA.out]; rfl, HG2.out.2.1, HG2.out.1⟩
  · have hb : ((s : Int) == (a : Int)) = false := by simp; omega
    have HSA := Lib.hid hsa
    clear hsa
    go_wp2_with fail
    refine (HP.out _ HG2.out.1 HG2.out.2.2.1 HG2.out.2.2.2).mono ?_
    rintro e w3 ⟨rfl, hk3, hi3⟩
    have HF := Lib.hid (And.intro hk3 hi3)
    clear hk3 hi3
    go_wp2
    go_ret
    exact ⟨by rw [HD.out, if_neg HSA.out]; rfl, HG2.out.2.1.trans HF.out.1, HF.out.2⟩
end Go.Proofs.YtlachbodibajlaaDoor
namespace Go.Proofs.YtlachbodibajlaaDoor
open Go.RowKit Go.Shelf

/-- a table in a box -/
structure Tb (W : World) (tb : Nat) (T : Value) (n : Nat) (t : Nat → Int) : Prop where
  box : W.heap[tb]? = some (.cells #[T] 32 (0, 0))
  il : Il W T n t
theorem Tb.ext {W X : World} {tb n : Nat} {T : Value} {t : Nat → Int} (h : Tb W tb T n t) (e : Ext W X) : Tb X tb T n t := ⟨(e.block tb (Array.getElem?_eq_some_iff.1 h.box).1).trans h.box, h.il.ext e⟩
theorem Tb.lt {W : World} {tb n : Nat} {T : Value} {t : Nat → Int} (h : Tb W tb T n t) : tb < W.heap.size := (Array.getElem?_eq_some_iff.1 h.box).1
set_option maxRecDepth 100000 in
theorem priceT_any (W : World) (tb n p : Nat) (T : Value) (t : Nat → Int) (h : Tb W tb T n t) (hp : p < n) : Calls Tryd.prog 83 #[.int .i64 p, .pointer (some ⟨tb, 0, none⟩)] W fun e W' => e = .returned (.int .i64 (t p)) ∧ W' = W := by
  have hb := uno h.box
  obtain ⟨A, c, rfl, h1, h2, -⟩ := id h.il
  obtain ⟨b, o, rfl, zb, hc⟩ := Vl.at h.il (Ext.refl _) hp
  try dsimp only at hc
  obtain ⟨v, hv⟩ : ∃ v, v = t p := ⟨_, rfl⟩
  rw [← hv] at hc ⊢
  obtain ⟨b0, -, bz⟩ := hb
  clear h hv
  go_enter Tryd.func83, Tryd.ntmps83
  go_wp2
  go_ret
  exact ⟨rfl, rfl⟩
theorem duT (S C E N : Value) (c : Crs) (W X : World) (tb : Nat) (T : Value) (t : Nat → Int) (h : Cv W S C E N c) (hc : c.ok) (hT : Tb W tb T c.sz t) (hb : ∀ p, p < c.sz → -1099511627776 ≤ t p ∧ t p ≤ 1099511627776) (hX : Ext W X) (s l : Nat) (hs : s < 2 ^ c.n) (hl : l < c.n) :
    Calls Tryd.prog 111 #[.agg #[S, C, E, N], .func (.func 83) #[] #[.pointer (some ⟨tb, 0, none⟩)], .int .i64 s, .int .i64 l] X fun e W' => e = .returned (.int .i64 (c.due t s l)) ∧ Ext X W' :=
  (dueT_any S C E N c X X tb tb tb s l t (Ext X) (h.ext hX) hc hs hl (Ext.refl _) (fun _ h => h) (fun _ _ h k => h.trans k) (hT.ext hX).lt (hT.ext hX).lt hb (fun x hx _ Y hY => by
    refine (priceT_any Y tb c.sz _ T t (hT.ext (hX.trans hY)) (num_lt (or_lt hs hx) hx)).mono ?_
    rintro e W' ⟨rfl, rfl⟩
    exact ⟨rfl, Kq.refl _ _ _, hY⟩)).mono fun e W' h => ⟨h.1, h.2.2⟩
theorem chT (S C E N : Value) (c : Crs) (W X : World) (tb : Nat) (T : Value) (t : Nat → Int) (h : Cv W S C E N c) (hc : c.ok) (hT : Tb W tb T c.sz t) (hb : ∀ p, p < c.sz → -1099511627776 ≤ t p ∧ t p ≤ 1099511627776) (hX : Ext W X) (s l : Nat) (hs : s < 2 ^ c.n) (hl : l < c.n) :
    Calls Tryd.prog 84 #[.agg #[S, C, E, N], .func (.func 83) #[] #[.pointer (some ⟨tb, 0, none⟩)], .int .i64 s, .int .i64 l] X fun e W' => e = .returned (.tuple #[.int .i64 (c.chp t s l).1, .int .i64 (c.chp t s l).2]) ∧ Ext X W' :=
  (cheapestT_any S C E N c X X tb tb tb s l t (Ext X) (h.ext hX) hc hs hl (Ext.refl _) (fun _ h => h) (fun _ _ h k => h.trans k) (hT.ext hX).lt (hT.ext hX).lt hb (fun x hx _ Y hY => by
    refine (priceT_any Y tb c.sz _ T t (hT.ext (hX.trans hY)) (num_lt (or_lt hs hx) hx)).mono ?_
    rintro e W' ⟨rfl, rfl⟩
    exact ⟨rfl, Kq.refl _ _ _, hY⟩)).mono fun e W' h => ⟨h.1, h.2.2⟩

set_option maxHeartbeats 4000000 in
set_option maxRecDepth 100000 in
theorem isSound_crs (S C E N : Value) (c : Crs) (W : World) (tb : Nat) (T : Value) (t : Nat → Int) (h : Cv W S C E N c) (hc : c.ok) (hT : Tb W tb T c.sz t) (hb : ∀ p, p < c.sz → -1099511627776 ≤ t p ∧ t p ≤ 1099511627776) :
    Calls Tryd.prog 85 #[.agg #[S, C, E, N], .func (.func 83) #[] #[.pointer (some ⟨tb, 0, none⟩)]] W fun e W' => e = .returned (.bool (c.isSnd t)) ∧ Ext W W' := by
  have HSZ := Lib.hid fun X hX => size_crs S C E N c X hX hc
  have HSL := Lib.hid fun X p hX hp => setAndLast_any S C E N c X p hX hc hp
  have HDU0 := Lib.hid fun X hX s l hs hl => duT S C E N c W X tb T t h hc hT hb hX s l hs hl
  have HPR0 : Hid (∀ X, Ext W X → ∀ p, p < c.sz → Calls Tryd.prog 83 #[.int .i64 p, .pointer (some ⟨tb, 0, none⟩)] X fun e X' => e = .returned (.int .i64 (t p)) ∧ Ext X X') := Lib.hid fun X (hX : Ext W X) p hp => (priceT_any X tb c.sz p T t (hT.ext hX) hp).mono fun e W' h => ⟨h.1, by rw [h.2]; exact Ext.refl _⟩
  obtain ⟨A, k, rfl, -⟩ := id h.vs
  obtain ⟨A2, k2, rfl, -⟩ := id h.vc
  obtain ⟨A3, k3, rfl, -⟩ := id h.ve
  obtain ⟨A4, k4, rfl, -⟩ := id h.vn
  have hzl : c.sz ≤ 10 * 1024 := Nat.mul_le_mul hc.n10 (pow_1024 hc.n10)
  have e1 : Ext W (W.alloc (.cells #[.slice A c.n k, .slice A2 c.n k2, .slice A3 c.n k3, .slice A4 c.n k4] 93)) := al1 W _
  have hbk := heap_alloc_new W (.cells #[.slice A c.n k, .slice A2 c.n k2, .slice A3 c.n k3, .slice A4 c.n k4] 93)
  have HC := Lib.hid h; have HOK := Lib.hid hc
  obtain ⟨z, hz⟩ : ∃ z, z = c.sz := ⟨_, rfl⟩
  have HZ := Lib.hid hz
  rw [← hz] at hzl
  clear h hc hT hb hz
  go_enter Tryd.func85, Tryd.ntmps85
  go_upto_region 1 with fail
  obtain ⟨s1, hs1⟩ : ∃ s, s = W.heap.size := ⟨_, rfl⟩
  rw [← hs1] at hbk ⊢
  generalize W.alloc (.cells #[.slice A c.n k, .slice A2 c.n k2, .slice A3 c.n k3, .slice A4 c.n k4] 93) = W1 at *
  obtain ⟨c0, c1, c2, c3, z0⟩ := four_c hbk
  have HCC := Lib.hid (And.intro c0 (And.intro c1 (And.intro c2 (And.intro c3 z0))))
  have HW1 := Lib.hid e1
  clear hbk hs1 e1
  go_wp2_with fail
  refine (HSZ.out _ (HC.out.ext HW1.out)).mono ?_
  rintro e w2 ⟨rfl, hx⟩
  rw [← HZ.out]
  have hin0 := Lib.hid hx
  clear hx c0 c1 c2 c3 z0
  go_wp2_with fail
  go_loopw [11] (fun i wr => ∃ q : Nat, i = .int .i64 q ∧ q ≤ z ∧ Hid ((List.range q).all (c.sn1 t) = true) ∧ Hid (Ext W1 wr)) (fun i _ => z - (intOf i).toNat)
  case atStart => exact ⟨0, rfl, Nat.zero_le _, Lib.hid rfl, hin0⟩
  case round =>
    clear hin0
    obtain ⟨q, rfl, hq, hall, hin⟩ := hrel
    by_cases hlt : q < z
    · obtain ⟨c0, c1, c2, c3, z0⟩ := HCC.out
      replace c0 := hin.out.at z0 c0
      replace c1 := hin.out.at z0 c1
      replace c2 := hin.out.at z0 c2
      replace c3 := hin.out.at z0 c3
      replace z0 := Nat.lt_of_lt_of_le z0 hin.out.size
      have hqs : q < c.sz := by rw [← HZ.out]; exact hlt
      have hs : q / c.n < 2 ^ c.n := Nat.div_lt_of_lt_mul hqs
      have hl : q % c.n < c.n := Nat.mod_lt _ HOK.out.n1
      have hst := range_all_succ (c.sn1 t) q
      rw [hall.out, Bool.true_and] at hst
      have h9 : c.sn1 t q = (!(q / c.n).testBit (q % c.n) || decide (t q ≤ c.due t (q / c.n) (q % c.n))) := rfl
      have HSLq := Lib.hid fun X hX => HSL.out X q hX hqs
      have HDU := Lib.hid fun X hX => HDU0.out X hX (q / c.n) (q % c.n) hs hl
      have HPR := Lib.hid fun X hX => HPR0.out X hX q hqs
      obtain ⟨s, hs9⟩ : ∃ s, s = q / c.n := ⟨_, rfl⟩
      obtain ⟨l, hl9⟩ : ∃ s, s = q % c.n := ⟨_, rfl⟩
      rw [← hs9, ← hl9] at h9 HSLq HDU
      obtain ⟨pv, hpv⟩ : ∃ v, v = t q := ⟨_, rfl⟩
      obtain ⟨dv, hdv⟩ : ∃ v, v = c.due t s l := ⟨_, rfl⟩
      rw [← hpv, ← hdv] at h9
      rw [← hpv] at HPR
      rw [← hdv] at HDU
      have HST := Lib.hid hst; have H9 := Lib.hid h9
      clear hqs hs hl hst h9 hs9 hl9 hpv hdv
      go_wp2_with fail
      refine (HSLq.out _ (HC.out.ext (HW1.out.trans hin.out))).mono ?_
      rintro e w3 ⟨rfl, hx⟩
      replace c0 := hx.at z0 c0
      replace c1 := hx.at z0 c1
      replace c2 := hx.at z0 c2
      replace c3 := hx.at z0 c3
      replace z0 := Nat.lt_of_lt_of_le z0 hx.size
      have hin2 := Lib.hid (hin.out.trans hx)
      obtain ⟨wr, hwr⟩ : ∃ w, w = w3 := ⟨_, rfl⟩
      subst hwr
      clear hx
      cases hbit : s.testBit l
      · rw [hbit] at H9
        have HNX : Hid ((List.range (q + 1)).all (c.sn1 t) = true) := Lib.hid (by rw [HST.out, H9.out]; rfl)
        clear hbit
        go_upto_region 5 with fail
        refine wp_region_noPanic ?_
        refine wp_region_held_drew (S := fun X => Ext wr X) (by kernel_rfl) (Ext.drw (Ext.refl _)) (fun _ => ?_)
        refine take_at 0 (some 21) (.bool false) rfl rfl (by kernel_rfl) (by kernel_rfl) (by kernel_rfl) (fun _ _ _ h => h) (Or.inl ⟨by rfl, fun w' hSw => ?_⟩) (Ext.drw (Ext.refl _)) ?_
        · skip
          try clear hSw
          go_simp
          all_goals (with_reducible rfl)
        try simp only [Act.put, List.setIfInBounds_toArray, List.set_cons_zero, List.set_cons_succ]
        refine take_at 1 (some 22) (.bool false) rfl rfl (by kernel_rfl) (by kernel_rfl) (by kernel_rfl) (fun _ _ _ h => h) (Or.inl ⟨by rfl, fun w' hSw => ?_⟩) (Ext.drw (Ext.refl _)) ?_
        · skip
          try clear hSw
          go_simp
          all_goals (with_reducible rfl)
        try simp only [Act.put, List.setIfInBounds_toArray, List.set_cons_zero, List.set_cons_succ]
        refine take_at 2 (some 23) undef rfl rfl (by kernel_rfl) (by kernel_rfl) (by kernel_rfl) (fun _ _ _ h => h) (Or.inr ⟨by rfl, rfl⟩) (Ext.drw (Ext.refl _)) ?_
        try simp only [Act.put, List.setIfInBounds_toArray, List.set_cons_zero, List.set_cons_succ]
        refine take_at 3 (some 24) undef rfl rfl (by kernel_rfl) (by kernel_rfl) (by kernel_rfl) (fun _ _ _ h => h) (Or.inr ⟨by rfl, rfl⟩) (Ext.drw (Ext.refl _)) ?_
        try simp only [Act.put, List.setIfInBounds_toArray, List.set_cons_zero, List.set_cons_succ]
        refine take_at 4 (some 25) undef rfl rfl (by kernel_rfl) (by kernel_rfl) (by kernel_rfl) (fun _ _ _ h => h) (Or.inr ⟨by rfl, rfl⟩) (Ext.drw (Ext.refl _)) ?_
        try simp only [Act.put, List.setIfInBounds_toArray, List.set_cons_zero, List.set_cons_succ]
        refine take_at 5 (some 26) undef rfl rfl (by kernel_rfl) (by kernel_rfl) (by kernel_rfl) (fun _ _ _ h => h) (Or.inr ⟨by rfl, rfl⟩) (Ext.drw (Ext.refl _)) ?_
        try simp only [Act.put, List.setIfInBounds_toArray, List.set_cons_zero, List.set_cons_succ]
        refine take_at 6 (some 27) undef rfl rfl (by kernel_rfl) (by kernel_rfl) (by kernel_rfl) (fun _ _ _ h => h) (Or.inr ⟨by rfl, rfl⟩) (Ext.drw (Ext.refl _)) ?_
        try simp only [Act.put, List.setIfInBounds_toArray, List.set_cons_zero, List.set_cons_succ]
        refine take_at 7 (some 28) undef rfl rfl (by kernel_rfl) (by kernel_rfl) (by kernel_rfl) (fun _ _ _ h => h) (Or.inr ⟨by rfl, rfl⟩) (Ext.drw (Ext.refl _)) ?_
        try simp only [Act.put, List.setIfInBounds_toArray, List.set_cons_zero, List.set_cons_succ]
        refine take_at 8 (some 29) undef rfl rfl (by kernel_rfl) (by kernel_rfl) (by kernel_rfl) (fun _ _ _ h => h) (Or.inr ⟨by rfl, rfl⟩) (Ext.drw (Ext.refl _)) ?_
        try simp only [Act.put, List.setIfInBounds_toArray, List.set_cons_zero, List.set_cons_succ]
        refine take_at 9 (some 30) undef rfl rfl (by kernel_rfl) (by kernel_rfl) (by kernel_rfl) (fun _ _ _ h => h) (Or.inr ⟨by rfl, rfl⟩) (Ext.drw (Ext.refl _)) ?_
        try simp only [Act.put, List.setIfInBounds_toArray, List.set_cons_zero, List.set_cons_succ]
        refine take_at 10 (some 31) undef rfl rfl (by kernel_rfl) (by kernel_rfl) (by kernel_rfl) (fun _ _ _ h => h) (Or.inr ⟨by rfl, rfl⟩) (Ext.drw (Ext.refl _)) ?_
        try simp only [Act.put, List.setIfInBounds_toArray, List.set_cons_zero, List.set_cons_succ]
        refine take_at 11 (some 32) (.bool false) rfl rfl (by kernel_rfl) (by kernel_rfl) (by kernel_rfl) (fun _ _ _ h => h) (Or.inl ⟨by rfl, fun w' hSw => ?_⟩) (Ext.drw (Ext.refl _)) ?_
        · skip
          try clear hSw
          go_simp
          all_goals (with_reducible rfl)
        try simp only [Act.put, List.setIfInBounds_toArray, List.set_cons_zero, List.set_cons_succ]
        refine wpAnyH_done (by kernel_rfl) ?_ _
        refine NoPanic.normal ?_
        clear c0 c1 c2 c3 z0
        go_wp2
        go_roundw
        case rel => exact ⟨q + 1, by go_num, by omega, HNX, Lib.hid (hin2.out.drw)⟩
        case measure => simp [intOf] <;> omega
      · rw [hbit] at H9
        obtain ⟨be, hbe⟩ : ∃ be, be = decide (dv < pv) := ⟨_, rfl⟩
        have HBE := Lib.hid hbe.symm
        clear hbit hbe
        go_upto_region 5 with fail
        refine wp_region_noPanic ?_
        refine wp_region_held_drew (S := fun X => Ext wr X) (by kernel_rfl) (Ext.drw (Ext.refl _)) (fun _ => ?_)
        refine take_at 0 (some 21) (.bool true) rfl rfl (by kernel_rfl) (by kernel_rfl) (by kernel_rfl) (fun _ _ _ h => h) (Or.inl ⟨by rfl, fun w' hSw => ?_⟩) (Ext.drw (Ext.refl _)) ?_
        · skip
          try clear hSw
          go_simp
          all_goals (with_reducible rfl)
        try simp only [Act.put, List.setIfInBounds_toArray, List.set_cons_zero, List.set_cons_succ]
        refine take_at 1 (some 22) (.bool true) rfl rfl (by kernel_rfl) (by kernel_rfl) (by kernel_rfl) (fun _ _ _ h => h) (Or.inl ⟨by rfl, fun w' hSw => ?_⟩) (Ext.drw (Ext.refl _)) ?_
        · skip
          try clear hSw
          go_simp
          all_goals (with_reducible rfl)
        try simp only [Act.put, List.setIfInBounds_toArray, List.set_cons_zero, List.set_cons_succ]
        refine take_at 2 (some 23) (.func (.func 83) #[] #[.pointer (some ⟨tb, 0, none⟩)]) rfl rfl (by kernel_rfl) (by kernel_rfl) (by kernel_rfl) (fun _ _ _ h => h) (Or.inl ⟨by rfl, fun w' hSw => ?_⟩) (Ext.drw (Ext.refl _)) ?_
        · skip
          try clear hSw
          go_simp
          all_goals (with_reducible rfl)
        try simp only [Act.put, List.setIfInBounds_toArray, List.set_cons_zero, List.set_cons_succ]
        refine take_at 3 (some 24) (.int .i64 (q : Nat)) rfl rfl (by kernel_rfl) (by kernel_rfl) (by kernel_rfl) (fun _ _ _ h => h) (Or.inl ⟨by rfl, fun w' hSw => ?_⟩) (Ext.drw (Ext.refl _)) ?_
        · skip
          try clear hSw
          go_simp
          all_goals (with_reducible rfl)
        try simp only [Act.put, List.setIfInBounds_toArray, List.set_cons_zero, List.set_cons_succ]
        refine take_at 5 (some 26) (.agg #[.slice A c.n k, .slice A2 c.n k2, .slice A3 c.n k3, .slice A4 c.n k4]) rfl rfl (by kernel_rfl) (by kernel_rfl) (by kernel_rfl) (fun _ _ _ h => h) (Or.inl ⟨by rfl, fun w' hSw => ?_⟩) (Ext.drw (Ext.refl _)) ?_
        · have m0 := keepAt hSw z0 c0
          have m1 := keepAt hSw z0 c1
          have m2 := keepAt hSw z0 c2
          have m3 := keepAt hSw z0 c3
          try clear hSw
          go_simp
          all_goals (with_reducible rfl)
        try simp only [Act.put, List.setIfInBounds_toArray, List.set_cons_zero, List.set_cons_succ]
        refine take_at 6 (some 27) (.func (.func 83) #[] #[.pointer (some ⟨tb, 0, none⟩)]) rfl rfl (by kernel_rfl) (by kernel_rfl) (by kernel_rfl) (fun _ _ _ h => h) (Or.inl ⟨by rfl, fun w' hSw => ?_⟩) (Ext.drw (Ext.refl _)) ?_
        · skip
          try clear hSw
          go_simp
          all_goals (with_reducible rfl)
        try simp only [Act.put, List.setIfInBounds_toArray, List.set_cons_zero, List.set_cons_succ]
        refine take_at 7 (some 28) (.int .i64 (s : Nat)) rfl rfl (by kernel_rfl) (by kernel_rfl) (by kernel_rfl) (fun _ _ _ h => h) (Or.inl ⟨by rfl, fun w' hSw => ?_⟩) (Ext.drw (Ext.refl _)) ?_
        · skip
          try clear hSw
          go_simp
          all_goals (with_reducible rfl)
        try simp only [Act.put, List.setIfInBounds_toArray, List.set_cons_zero, List.set_cons_succ]
        refine take_at 8 (some 29) (.int .i64 (l : Nat)) rfl rfl (by kernel_rfl) (by kernel_rfl) (by kernel_rfl) (fun _ _ _ h => h) (Or.inl ⟨by rfl, fun w' hSw => ?_⟩) (Ext.drw (Ext.refl _)) ?_
        · skip
          try clear hSw
          go_simp
          all_goals (with_reducible rfl)
        try simp only [Act.put, List.setIfInBounds_toArray, List.set_cons_zero, List.set_cons_succ]
        refine wpAnyH_ready (rs := [4]) (by kernel_rfl) (by simp) ?_
        refine AllReadyH.cons rfl (fun K hK => ?_) AllReadyH.nil
        go_simp
        refine (HPR.out _ (HW1.out.trans (hin2.out.trans (Ext.drw (Ext.refl _))))).mono ?_
        rintro e v4 ⟨rfl, hb4⟩
        have e4 : Ext wr v4 := (Ext.drw (Ext.refl _)).trans hb4
        try go_wp2_with fail
        refine hK.out _ _ e4 (fun _ => ?_)
        clear hK K
        try simp only [Act.put, List.setIfInBounds_toArray, List.set_cons_zero, List.set_cons_succ]
        refine wpAnyH_ready (rs := [9]) (by kernel_rfl) (by simp) ?_
        refine AllReadyH.cons rfl (fun K hK => ?_) AllReadyH.nil
        go_simp
        refine (HDU.out _ (HW1.out.trans (hin2.out.trans e4))).mono ?_
        rintro e v9 ⟨rfl, hb9⟩
        have e9 : Ext wr v9 := (e4).trans hb9
        try go_wp2_with fail
        refine hK.out _ _ e9 (fun _ => ?_)
        clear hK K
        try simp only [Act.put, List.setIfInBounds_toArray, List.set_cons_zero, List.set_cons_succ]
        refine take_at 10 (some 31) (.bool be) rfl rfl (by kernel_rfl) (by kernel_rfl) (by kernel_rfl) (fun _ _ _ h => h) (Or.inl ⟨by rfl, fun w' hSw => ?_⟩) (e9) ?_
        · have y := HBE.out
          try clear hSw
          go_simp
          all_goals (with_reducible rfl)
        try simp only [Act.put, List.setIfInBounds_toArray, List.set_cons_zero, List.set_cons_succ]
        refine take_at 11 (some 32) (.bool be) rfl rfl (by kernel_rfl) (by kernel_rfl) (by kernel_rfl) (fun _ _ _ h => h) (Or.inl ⟨by rfl, fun w' hSw => ?_⟩) (e9) ?_
        · skip
          try clear hSw
          go_simp
          all_goals (with_reducible rfl)
        try simp only [Act.put, List.setIfInBounds_toArray, List.set_cons_zero, List.set_cons_succ]
        refine wpAnyH_done (by kernel_rfl) ?_ _
        refine NoPanic.normal ?_
        have hin4 := Lib.hid (hin2.out.trans e9)
        clear hb4 hb9 e4 e9
        clear c0 c1 c2 c3 z0
        by_cases hlt9 : dv < pv
        · have h7 : be = true := HBE.out.symm.trans (decide_eq_true hlt9)
          have HNO : Hid (c.isSnd t = false) := Lib.hid (by
            unfold Crs.isSnd
            rw [← HZ.out]
            exact range_all_no hlt (by rw [H9.out, decide_eq_false (by omega)]; rfl))
          clear hlt9
          subst h7
          go_wp2
          go_ret
          exact ⟨by rw [HNO.out]; rfl, HW1.out.trans hin4.out⟩
        · have h7 : be = false := HBE.out.symm.trans (decide_eq_false hlt9)
          have HNX : Hid ((List.range (q + 1)).all (c.sn1 t) = true) := Lib.hid (by rw [HST.out, H9.out, decide_eq_true (by omega)]; rfl)
          clear hlt9
          subst h7
          go_wp2
          go_roundw
          case rel => exact ⟨q + 1, by go_num, by omega, HNX, hin4⟩
          case measure => simp [intOf] <;> omega
    · obtain rfl : q = z := by omega
      have hx9 : ¬ (q : Int) < (q : Int) := by omega
      have HYES : Hid (c.isSnd t = true) := Lib.hid (by unfold Crs.isSnd; rw [← HZ.out]; exact hall.out)
      go_wp2
      go_ret
      exact ⟨by rw [HYES.out]; rfl, HW1.out.trans hin.out⟩
end Go.Proofs.YtlachbodibajlaaDoor
namespace Go.Proofs.YtlachbodibajlaaDoor
open Go.RowKit Go.Shelf

/-- what Check returns -/
def chkE (ok : Bool) (c : Crs) (q : Nat) (t : Nat → Int) : Int := if ok = true then (if q = c.sz then (if btw t (-1099511627776) 1099511627776 q = true then (if c.has = true then 0 else 7) else 2) else 3) else 2
def chkV (ok : Bool) (c : Crs) (q : Nat) (t : Nat → Int) : Int := if chkE ok c q t = 0 then (c.chp t 0 0).2 else 0
def chkS (ok : Bool) (c : Crs) (q : Nat) (t : Nat → Int) : Bool := decide (chkE ok c q t = 0) && c.isSnd t

set_option maxHeartbeats 4000000 in
set_option maxRecDepth 100000 in
theorem Check_any (S C B T : Value) (n mc m : Nat) (st : Nat → Int) (ln : Nat → Nat) (y : Nat → Nat → Int) (a b : Nat → Int) (q : Nat) (t : Nat → Int) (W : World) (h : Pv W S C B n mc m st ln y a b) (hT : Il W T q t) :
    Calls Tryd.prog 38 #[.agg #[S, C, B], T] W fun e W' => e = .returned (.tuple #[.int .i64 (chkV (okPlan n mc m st ln y a b) (crs n m st y a b) q t), .bool (chkS (okPlan n mc m st ln y a b) (crs n m st y a b) q t), .int .i64 (chkE (okPlan n mc m st ln y a b) (crs n m st y a b) q t)]) ∧ Ext W W' := by
  obtain ⟨re, hre⟩ : ∃ v, v = chkE (okPlan n mc m st ln y a b) (crs n m st y a b) q t := ⟨_, rfl⟩
  obtain ⟨rv, hrv⟩ : ∃ v, v = chkV (okPlan n mc m st ln y a b) (crs n m st y a b) q t := ⟨_, rfl⟩
  obtain ⟨rs, hrs⟩ : ∃ v, v = chkS (okPlan n mc m st ln y a b) (crs n m st y a b) q t := ⟨_, rfl⟩
  unfold chkV at hrv
  unfold chkS at hrs
  rw [← hre] at hrv hrs
  rw [← hre] 
  have g1 : chkV (okPlan n mc m st ln y a b) (crs n m st y a b) q t = rv := by unfold chkV; rw [← hre]; exact hrv.symm
  have g2 : chkS (okPlan n mc m st ln y a b) (crs n m st y a b) q t = rs := by unfold chkS; rw [← hre]; exact hrs.symm
  rw [g1, g2]
  have HR0 := Lib.hid (And.intro hre (And.intro hrv hrs))
  clear hre hrv hrs g1 g2
  have HV := Lib.hid h; have HT := Lib.hid hT
  obtain ⟨A, k, rfl, -⟩ := id h.vs
  obtain ⟨A2, k2, rfl, -⟩ := id h.vc
  obtain ⟨A3, k3, rfl, -⟩ := id h.vb
  obtain ⟨TA, tc, rfl, -⟩ := id hT
  have e1 : Ext W ((W.alloc (.cells #[.slice A n k, .slice A2 mc k2, .slice A3 m k3] 50)).alloc (.cells #[.slice TA q tc] 32)) := al2 W _ _
  have hbk : ((W.alloc (.cells #[.slice A n k, .slice A2 mc k2, .slice A3 m k3] 50)).alloc (.cells #[.slice TA q tc] 32)).heap[W.heap.size]? = some (.cells #[.slice A n k, .slice A2 mc k2, .slice A3 m k3] 50 (0, 0)) := (Below.heap_alloc _ _ _ (by simp)).trans (heap_alloc_new W _)
  have hbt := heap_alloc_new (W.alloc (.cells #[.slice A n k, .slice A2 mc k2, .slice A3 m k3] 50)) (.cells #[.slice TA q tc] 32)
  simp only [World.size_alloc] at hbt
  clear h hT
  go_enter Tryd.func38, Tryd.ntmps38
  go_upto_region 1 with fail
  obtain ⟨s1, hs1⟩ : ∃ s, s = W.heap.size := ⟨_, rfl⟩
  rw [← hs1] at hbk hbt ⊢
  obtain ⟨s2, hs2⟩ : ∃ s, s = s1 + 1 := ⟨_, rfl⟩
  rw [← hs2] at hbt ⊢
  generalize (W.alloc (.cells #[.slice A n k, .slice A2 mc k2, .slice A3 m k3] 50)).alloc (.cells #[.slice TA q tc] 32) = W1 at *
  obtain ⟨c0, c1, c2, z0⟩ := three_c hbk
  obtain ⟨tb3, -, tz3⟩ := uno hbt
  have E1 := Lib.hid e1
  have HTB0 : Hid (Tb W1 s2 (.slice TA q tc) q t) := Lib.hid ⟨hbt, HT.out.ext e1⟩
  clear hbk hbt hs1 hs2 e1
  cases hok : (okPlan n mc m st ln y a b)
  · have HR : Hid (re = 2 ∧ rv = 0 ∧ rs = false) := Lib.hid (by
      have h1 : re = 2 := by rw [HR0.out.1, hok]; rfl
      exact ⟨h1, by rw [HR0.out.2.1, h1]; rfl, by rw [HR0.out.2.2, h1]; rfl⟩)
    have HP := Lib.hid (planCourse_no _ _ _ n mc m st ln y a b W1 (HV.out.ext E1.out) hok)
    clear hok HR0 tb3 tz3
    go_wp2_with fail
    refine HP.out.mono ?_
    rintro e w2 ⟨rfl, hx⟩
    have HX := Lib.hid (E1.out.trans hx)
    clear hx c0 c1 c2 z0
    go_wp2
    refine bodyPost_ret (v := .tuple #[.int .i64 0, .bool false, .int .i64 2]) (by simp [results, Tryd.results38, go_sem]) rfl ?_
    exact ⟨by rw [HR.out.1, HR.out.2.1, HR.out.2.2], HX.out.alc _⟩
  have hkp := okPlan_iff.1 hok
  have HP := Lib.hid (planCourse_yes _ _ _ n mc m st ln y a b W1 (HV.out.ext E1.out) hkp)
  have HOK := Lib.hid hkp.crs
  have hn10 := hkp.n10
  have hn1 := hkp.n1
  obtain ⟨c, hc⟩ : ∃ c, c = (crs n m st y a b) := ⟨_, rfl⟩
  have hcn : c.n = n := by rw [hc]; rfl
  rw [← hc] at HP HOK
  have HCN := Lib.hid hcn
  have HR1 : Hid (re = (if q = c.sz then (if btw t (-1099511627776) 1099511627776 q = true then (if c.has = true then 0 else 7) else 2) else 3) ∧ rv = (if re = 0 then (c.chp t 0 0).2 else 0) ∧ rs = (decide (re = 0) && c.isSnd t)) := Lib.hid (by
    have h1 := HR0.out.1; have h2 := HR0.out.2.1; have h3 := HR0.out.2.2
    rw [hok, ← hc] at h1
    rw [← hc] at h2 h3
    exact ⟨h1, h2, h3⟩)
  clear hok hkp hcn hc HR0
  go_wp2_with fail
  refine HP.out.mono ?_
  rintro e w2 ⟨E, N, rfl, hcv, hx⟩
  have HX := Lib.hid (E1.out.trans hx)
  have HX12 := Lib.hid hx
  have HCV := Lib.hid hcv
  obtain ⟨A4, k4, rfl⟩ : ∃ A k, E = .slice A n k := by
    obtain ⟨A, k, e, -⟩ := hcv.ve
    exact ⟨A, k, by rw [e, HCN.out]⟩
  obtain ⟨A5, k5, rfl⟩ : ∃ A k, N = .slice A n k := by
    obtain ⟨A, k, e, -⟩ := hcv.vn
    exact ⟨A, k, by rw [e, HCN.out]⟩
  replace tb3 := hx.at tz3 tb3
  replace tz3 := Nat.lt_of_lt_of_le tz3 hx.size
  clear hx c0 c1 c2 z0 hcv
  have e2 := al1 w2 (.cells #[.slice A n k, .slice A2 mc k2, .slice A4 n k4, .slice A5 n k5] 93)
  have hb2 := heap_alloc_new w2 (.cells #[.slice A n k, .slice A2 mc k2, .slice A4 n k4, .slice A5 n k5] 93)
  go_upto_region 2 with fail
  obtain ⟨s3, hs3⟩ : ∃ s, s = w2.heap.size := ⟨_, rfl⟩
  rw [← hs3] at hb2 ⊢
  generalize w2.alloc (.cells #[.slice A n k, .slice A2 mc k2, .slice A4 n k4, .slice A5 n k5] 93) = w3 at *
  obtain ⟨c0, c1, c2, c3, z0⟩ := four_c hb2
  have HX3 : Hid (Ext w2 w3) := Lib.hid e2
  replace tb3 := Ext.at e2 tz3 tb3
  replace tz3 := Nat.lt_of_lt_of_le tz3 (Ext.size e2)
  have HC3 := Lib.hid (HCV.out.ext HX3.out)
  have HX0 := Lib.hid (HX.out.trans HX3.out)
  have HTB := Lib.hid (HTB0.out.ext (HX12.out.trans HX3.out))
  obtain ⟨z, hz⟩ : ∃ z, z = c.sz := ⟨_, rfl⟩
  have HZ := Lib.hid hz
  obtain ⟨ne, hne⟩ : ∃ v, v = ((q : Int) != (z : Int)) := ⟨_, rfl⟩
  have HNE := Lib.hid hne.symm
  clear hb2 hs3 e2 HCV HX HX3 hz hne
  go_upto_region 4 with fail
  refine wp_region_noPanic ?_
  refine wp_region_held_drew (S := fun X => Ext w3 X) (by kernel_rfl) (Ext.drw (Ext.refl _)) (fun _ => ?_)
  refine take_at 0 (some 19) (.slice TA q tc) rfl rfl (by kernel_rfl) (by kernel_rfl) (by kernel_rfl) (fun _ _ _ h => h) (Or.inl ⟨by rfl, fun w' hSw => ?_⟩) (Ext.drw (Ext.refl _)) ?_
  · have m0 := keepAt hSw tz3 tb3
    try clear hSw
    go_simp
    all_goals (with_reducible rfl)
  try simp only [Act.put, List.setIfInBounds_toArray, List.set_cons_zero, List.set_cons_succ]
  refine take_at 1 (some 20) (.int .i64 (q : Nat)) rfl rfl (by kernel_rfl) (by kernel_rfl) (by kernel_rfl) (fun _ _ _ h => h) (Or.inl ⟨by rfl, fun w' hSw => ?_⟩) (Ext.drw (Ext.refl _)) ?_
  · skip
    try clear hSw
    go_simp
    all_goals (with_reducible rfl)
  try simp only [Act.put, List.setIfInBounds_toArray, List.set_cons_zero, List.set_cons_succ]
  refine take_at 2 (some 21) (.agg #[.slice A n k, .slice A2 mc k2, .slice A4 n k4, .slice A5 n k5]) rfl rfl (by kernel_rfl) (by kernel_rfl) (by kernel_rfl) (fun _ _ _ h => h) (Or.inl ⟨by rfl, fun w' hSw => ?_⟩) (Ext.drw (Ext.refl _)) ?_
  · have m0 := keepAt hSw z0 c0
    have m1 := keepAt hSw z0 c1
    have m2 := keepAt hSw z0 c2
    have m3 := keepAt hSw z0 c3
    try clear hSw
    go_simp
    all_goals (with_reducible rfl)
  try simp only [Act.put, List.setIfInBounds_toArray, List.set_cons_zero, List.set_cons_succ]
  refine wpAnyH_ready (rs := [3]) (by kernel_rfl) (by simp) ?_
  refine AllReadyH.cons rfl (fun K hK => ?_) AllReadyH.nil
  go_simp
  refine (size_crs _ _ _ _ c _ (HC3.out.ext (Ext.drw (Ext.refl _))) HOK.out).mono ?_
  rintro e v3 ⟨rfl, hb3⟩
  have e3 : Ext w3 v3 := (Ext.drw (Ext.refl _)).trans hb3
  try go_wp2_with fail
  refine hK.out _ _ e3 (fun _ => ?_)
  clear hK K
  try simp only [Act.put, List.setIfInBounds_toArray, List.set_cons_zero, List.set_cons_succ]
  rw [← HZ.out]
  refine take_at 4 (some 23) (.bool ne) rfl rfl (by kernel_rfl) (by kernel_rfl) (by kernel_rfl) (fun _ _ _ h => h) (Or.inl ⟨by rfl, fun w' hSw => ?_⟩) (e3) ?_
  · have y := HNE.out
    try clear hSw
    go_simp
    all_goals (with_reducible rfl)
  try simp only [Act.put, List.setIfInBounds_toArray, List.set_cons_zero, List.set_cons_succ]
  refine wpAnyH_done (by kernel_rfl) ?_ _
  refine NoPanic.normal ?_
  have HX4 : Hid (Ext w3 v3) := Lib.hid e3
  replace c0 := e3.at z0 c0
  replace c1 := e3.at z0 c1
  replace c2 := e3.at z0 c2
  replace c3 := e3.at z0 c3
  replace z0 := Nat.lt_of_lt_of_le z0 e3.size
  replace tb3 := e3.at tz3 tb3
  replace tz3 := Nat.lt_of_lt_of_le tz3 e3.size
  clear hb3 e3
  by_cases hqz : q = z
  · have hn9 : ne = false := HNE.out.symm.trans (by simp; omega)
    have HQZ := Lib.hid hqz
    have HR2 : Hid (re = (if btw t (-1099511627776) 1099511627776 q = true then (if c.has = true then 0 else 7) else 2) ∧ rv = (if re = 0 then (c.chp t 0 0).2 else 0) ∧ rs = (decide (re = 0) && c.isSnd t)) := Lib.hid ⟨by have h1 := HR1.out.1; rw [if_pos (by rw [← HZ.out]; exact hqz)] at h1; exact h1, HR1.out.2⟩
    clear hqz
    subst hn9
    go_wp2_with fail
    refine (areBetween_any q t (-1099511627776) 1099511627776 _ _ (HTB.out.il.ext HX4.out)).mono ?_
    rintro e w5 ⟨rfl, rfl⟩
    cases hb : btw t (-1099511627776) 1099511627776 q
    · have HR : Hid (re = 2 ∧ rv = 0 ∧ rs = false) := Lib.hid (by
        have h1 : re = 2 := by rw [HR2.out.1, hb]; rfl
        exact ⟨h1, by rw [HR2.out.2.1, h1]; rfl, by rw [HR2.out.2.2, h1]; rfl⟩)
      clear hb c0 c1 c2 c3 z0 tb3 tz3
      go_wp2
      refine bodyPost_ret (v := .tuple #[.int .i64 0, .bool false, .int .i64 2]) (by simp [results, Tryd.results38, go_sem]) rfl ?_
      exact ⟨by rw [HR.out.1, HR.out.2.1, HR.out.2.2], HX0.out.trans HX4.out⟩
    have HBT := Lib.hid (btw_iff.1 hb)
    have HR3 : Hid (re = (if c.has = true then 0 else 7) ∧ rv = (if re = 0 then (c.chp t 0 0).2 else 0) ∧ rs = (decide (re = 0) && c.isSnd t)) := Lib.hid ⟨by have h1 := HR2.out.1; rw [hb] at h1; exact h1, HR2.out.2⟩
    clear hb
    go_wp2_with fail
    refine (hasOrder_any _ _ _ _ c _ (HC3.out.ext HX4.out) HOK.out).mono ?_
    rintro e w6 ⟨rfl, hx⟩
    replace c0 := hx.at z0 c0
    replace c1 := hx.at z0 c1
    replace c2 := hx.at z0 c2
    replace c3 := hx.at z0 c3
    replace z0 := Nat.lt_of_lt_of_le z0 hx.size
    replace tb3 := hx.at tz3 tb3
    replace tz3 := Nat.lt_of_lt_of_le tz3 hx.size
    have HX6 := Lib.hid (HX4.out.trans hx)
    clear hx
    cases hh : c.has
    · have HR : Hid (re = 7 ∧ rv = 0 ∧ rs = false) := Lib.hid (by
        have h1 : re = 7 := by rw [HR3.out.1, hh]; rfl
        exact ⟨h1, by rw [HR3.out.2.1, h1]; rfl, by rw [HR3.out.2.2, h1]; rfl⟩)
      clear hh c0 c1 c2 c3 z0 tb3 tz3
      go_wp2
      refine bodyPost_ret (v := .tuple #[.int .i64 0, .bool false, .int .i64 7]) (by simp [results, Tryd.results38, go_sem]) rfl ?_
      exact ⟨by rw [HR.out.1, HR.out.2.1, HR.out.2.2], HX0.out.trans HX6.out⟩
    have HR : Hid (re = 0 ∧ rv = (c.chp t 0 0).2 ∧ rs = c.isSnd t) := Lib.hid (by
      have h1 : re = 0 := by rw [HR3.out.1, hh]; rfl
      exact ⟨h1, by rw [HR3.out.2.1, h1]; rfl, by rw [HR3.out.2.2, h1]; rfl⟩)
    have hqs : q = c.sz := by rw [← HZ.out]; exact HQZ.out
    have HTB6 : Hid (Tb w6 s2 (.slice TA q tc) c.sz t) := Lib.hid (by have h1 := HTB.out.ext HX6.out; rw [hqs] at h1 ⊢; exact h1)
    have hbd : ∀ p, p < c.sz → -1099511627776 ≤ t p ∧ t p ≤ 1099511627776 := fun p hp => HBT.out p (by omega)
    have HCH := Lib.hid (chT (.slice A n k) (.slice A2 mc k2) (.slice A4 n k4) (.slice A5 n k5) c w6 w6 s2 (.slice TA q tc) t (HC3.out.ext HX6.out) HOK.out HTB6.out hbd (Ext.refl _) 0 0 (Nat.two_pow_pos _) HOK.out.n1)
    have HIS := Lib.hid fun X hX => isSound_crs (.slice A n k) (.slice A2 mc k2) (.slice A4 n k4) (.slice A5 n k5) c X s2 (.slice TA q tc) t (HC3.out.ext (HX6.out.trans hX)) HOK.out (HTB6.out.ext hX) hbd
    obtain ⟨f1, hf1⟩ : ∃ v, v = (c.chp t 0 0).1 := ⟨_, rfl⟩
    obtain ⟨f2, hf2⟩ : ∃ v, v = (c.chp t 0 0).2 := ⟨_, rfl⟩
    obtain ⟨f3, hf3⟩ : ∃ v, v = c.isSnd t := ⟨_, rfl⟩
    rw [← hf1, ← hf2] at HCH
    rw [← hf3] at HIS HR
    rw [← hf2] at HR
    clear hh hqs hbd hf1 hf2 hf3
    go_wp2_with fail
    refine HCH.out.mono ?_
    rintro e w7 ⟨rfl, hx⟩
    replace c0 := hx.at z0 c0
    replace c1 := hx.at z0 c1
    replace c2 := hx.at z0 c2
    replace c3 := hx.at z0 c3
    replace z0 := Nat.lt_of_lt_of_le z0 hx.size
    replace tb3 := hx.at tz3 tb3
    replace tz3 := Nat.lt_of_lt_of_le tz3 hx.size
    have HX7 := Lib.hid hx
    clear hx
    go_wp2_with fail
    refine (HIS.out _ HX7.out).mono ?_
    rintro e w8 ⟨rfl, hx⟩
    have HX8 := Lib.hid (HX7.out.trans hx)
    clear hx c0 c1 c2 c3 z0 tb3 tz3
    go_wp2
    refine bodyPost_ret (v := .tuple #[.int .i64 f2, .bool f3, .int .i64 0]) (by simp [results, Tryd.results38, go_sem]) rfl ?_
    exact ⟨by rw [HR.out.1, HR.out.2.1, HR.out.2.2], HX0.out.trans (HX6.out.trans HX8.out)⟩
  · have hn9 : ne = true := HNE.out.symm.trans (by simp; omega)
    have HR : Hid (re = 3 ∧ rv = 0 ∧ rs = false) := Lib.hid (by
      have h1 : re = 3 := by rw [HR1.out.1, if_neg (by rw [← HZ.out]; exact hqz)]
      exact ⟨h1, by rw [HR1.out.2.1, h1]; rfl, by rw [HR1.out.2.2, h1]; rfl⟩)
    clear hqz c0 c1 c2 c3 z0 tb3 tz3
    subst hn9
    go_wp2
    refine bodyPost_ret (v := .tuple #[.int .i64 0, .bool false, .int .i64 3]) (by simp [results, Tryd.results38, go_sem]) rfl ?_
    exact ⟨by rw [HR.out.1, HR.out.2.1, HR.out.2.2], HX0.out.trans HX4.out⟩
end Go.Proofs.YtlachbodibajlaaDoor
