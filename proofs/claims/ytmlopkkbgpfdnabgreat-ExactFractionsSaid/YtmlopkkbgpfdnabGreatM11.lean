/- Walks: isOne, lowest, ValidRat, allValidRats. · Walks: combineRats. · Walks: combineRats with an operation. -/
import Derived.Test.YtmlopkkbgpfdnabGreatM10
import Derived.Test.YtmlopkkbgpfdnabGreatM2
namespace Go.Proofs.YtmlopkkbgpfdnabGreat
open Go.RowKit

set_option maxRecDepth 100000 in
theorem isOne_any (z : Int) (a : Value) (w : World) (ha : ZV w a z) : Calls Tryz.prog 144 #[a] w fun e w' => e = .returned (.bool (decide (z = 1))) ∧ Ext w w' := by
  obtain ⟨A, n, c, rfl, hv, hn, hl⟩ := ha.open_
  have hv := hv
  obtain ⟨bx, hbx⟩ : ∃ b, b = decide (z < 0) := ⟨_, rfl⟩
  rw [← hbx] at ha ⊢
  have hw := ha.words.2
  obtain ⟨bl, hbl⟩ : ∃ b, b = decide (z = 1) := ⟨_, rfl⟩
  rw [← hbl]
  have e1 : Ext w (w.alloc (.cells #[.bool bx, .slice A n c] 70)) := (Ext.refl w).alc _
  have E1 := Lib.hid e1
  by_cases hz : z < 0
  · have hb : bl = false := by rw [hbl]; exact decide_eq_false (by omega)
    have ht : bx = true := by rw [hbx]; exact decide_eq_true hz
    subst hb ht
    clear hbl hbx ha hw hv hn hl hz e1
    go_enter Tryz.func144, Tryz.ntmps144
    go_wp2
    go_ret
    exact ⟨rfl, E1.out⟩
  · have hf : bx = false := by rw [hbx]; exact decide_eq_false hz
    subst hf
    by_cases h1 : n = 1
    · have hlen : (dig z.natAbs).length = 1 := by omega
      obtain ⟨b, off, rfl, hb, hc⟩ := Wd.cell (k := 0) hw (by omega)
      have h0 := hc 0 (by omega)
      rw [Nat.add_zero] at h0
      have hlt : z.natAbs < 4294967296 := by have := lt_of_dig_len (n := z.natAbs) (k := 1) (by omega); simpa using this
      have hdg : dg z.natAbs 0 = z.natAbs := by unfold dg; simp; omega
      rw [hdg] at h0
      have k0 := keepAt e1 hb h0
      subst h1
      have hbb : bl = ((z.natAbs : Int) == 1) := by
        rw [hbl, Bool.eq_iff_iff]; simp; omega
      obtain ⟨m, hm⟩ : ∃ m, m = z.natAbs := ⟨_, rfl⟩
      rw [← hm] at k0 hbb
      have HB := Lib.hid hbb
      clear hbl hbx ha hw hv hn hl hz e1 hc h0 hlen hlt hdg hm hbb
      go_enter Tryz.func144, Tryz.ntmps144
      go_wp2
      go_ret
      exact ⟨by rw [HB.out]; rfl, E1.out⟩
    · have hb : bl = false := by
        rw [hbl]; refine decide_eq_false fun e => h1 ?_
        rw [hn, e]; show (dig 1).length = 1
        rw [dig_pos (by omega)]; simp [dig_zero]
      have hf : ((n : Int) == 1) = false := by simp; omega
      subst hb
      clear hbl hbx ha hw hv hn hl hz e1
      go_enter Tryz.func144, Tryz.ntmps144
      go_wp2
      go_ret
      exact ⟨rfl, E1.out⟩

set_option maxRecDepth 100000 in
theorem lowest_any (vx vy : Int) (v : Value) (w : World) (hf : FV w v vx vy) (lf : Lf vx vy 300) : Calls Tryz.prog 124 #[v] w fun e w' => e = .returned (.bool (decide (0 < vy ∧ Int.gcd vx vy = 1))) ∧ Ext w w' := by
  obtain ⟨p1, P1, m1, d1, p2, P2, m2, d2, rfl, hz1, hz2⟩ := hf
  obtain ⟨W1, hW1⟩ : ∃ W1, W1 = w.alloc (.cells #[.bool p1, .slice P1 m1 d1, .bool p2, .slice P2 m2 d2] 72) := ⟨_, rfl⟩
  have e1 : Ext w W1 := by rw [hW1]; exact (Ext.refl w).alc _
  have i2 : HF W1 w.heap.size vx vy := by rw [hW1]; exact HF.new w p1 P1 m1 d1 p2 P2 m2 d2 72 hz1 hz2
  obtain ⟨bl, hbl⟩ : ∃ b, b = decide (0 < vy ∧ Int.gcd vx vy = 1) := ⟨_, rfl⟩
  rw [← hbl]
  have I2 := Lib.hid i2; have E1 := Lib.hid e1; have HW1 := Lib.hid hW1; have LF := Lib.hid lf; have HB := Lib.hid hbl
  have l2 := i2.lt
  clear i2 e1 hW1 hz1 hz2 lf hbl
  go_enter Tryz.func124, Tryz.ntmps124
  go_upto_region 1 with fail
  rw [← HW1.out]
  obtain ⟨b2, A2, n2, c2, j0, j1, jz⟩ := I2.out.2
  have JZ := Lib.hid jz; clear jz HW1
  go_wp2_with fail
  refine (signZ_any vy _ _ JZ.out).mono ?_
  rintro e w2 ⟨rfl, x2⟩
  replace x2 : Ext W1 w2 := x2
  obtain ⟨sg, hsg⟩ : ∃ sg, sg = vy.sign := ⟨_, rfl⟩
  rw [← hsg]
  obtain ⟨b1, A1, n1, c1, k0, k1, kz⟩ := I2.out.1.ext l2 x2
  obtain ⟨b3, A3, n3, c3, i0, i1, iz⟩ := I2.out.2.ext l2 x2
  have KZ := Lib.hid kz; have IZ := Lib.hid iz
  have X2 := Lib.hid (E1.out.trans x2)
  clear kz iz x2 j0 j1 JZ
  by_cases hp : 0 < vy
  · have hs : decide (0 < sg) = true := by rw [hsg, Int.sign_eq_one_of_pos hp]; decide
    clear hsg
    have GC := Lib.hid (gcdZ_any vx vy _ _ _ 300 KZ.out IZ.out LF.out.1 LF.out.2 (by omega) (by omega))
    obtain ⟨vg, hvg⟩ : ∃ vg : Int, vg = ((Int.gcd vx vy : Nat) : Int) := ⟨_, rfl⟩
    rw [← hvg] at GC
    have HG := Lib.hid hvg
    clear hvg
    go_wp2_with fail
    refine (asAgg GC.out).mono ?_
    rintro e w3 ⟨b4, A4, n4, c4, rfl, hz, x3⟩
    have Z4 := Lib.hid (isOne_any vg _ _ hz); have X3 := Lib.hid (X2.out.trans x3)
    clear hz x3 GC k0 k1 i0 i1
    go_wp2_with fail
    refine Z4.out.mono ?_
    rintro e w4 ⟨rfl, x4⟩
    obtain ⟨bo, hbo⟩ : ∃ b, b = decide (vg = 1) := ⟨_, rfl⟩
    rw [← hbo]
    have hfin : bl = bo := by
      rw [HB.out, hbo, HG.out, Bool.eq_iff_iff]; simp; omega
    have HF := Lib.hid hfin; have X4 := Lib.hid (X3.out.trans x4)
    clear hbo hfin x4 Z4
    go_wp2
    go_ret
    exact ⟨by rw [HF.out]; rfl, X4.out⟩
  · have hs : decide (0 < sg) = false := by
      rw [hsg]
      rcases (by omega : vy < 0 ∨ vy = 0) with h | h
      · rw [Int.sign_eq_neg_one_of_neg h]; decide
      · rw [h]; decide
    have hfin : bl = false := by rw [HB.out]; exact decide_eq_false (fun h => hp h.1)
    subst hfin
    clear hsg k0 k1 i0 i1
    go_wp2
    go_ret
    exact ⟨rfl, X2.out⟩

/-- what ValidRat reports -/
def vldR (p q : Bool) (l l' : List Nat) : Bool := (vld p l && vld q l') && decide (0 < numOf q l' ∧ Int.gcd (numOf p l) (numOf q l') = 1)
theorem vldR_parts {p q : Bool} {l l' : List Nat} (h : vldR p q l l' = true) : vld p l = true ∧ vld q l' = true ∧ 0 < numOf q l' ∧ Int.gcd (numOf p l) (numOf q l') = 1 := by
  unfold vldR at h
  simp only [Bool.and_eq_true, decide_eq_true_eq] at h
  exact ⟨h.1.1, h.1.2, h.2.1, h.2.2⟩

set_option maxRecDepth 100000 in
theorem validRat_any (p q : Bool) (A A' : Option Addr) (n c n' c' : Nat) (l l' : List Nat) (w : World) (hx : Wd w (.slice A n c) l) (hy : Wd w (.slice A' n' c') l') :
    Calls Tryz.prog 97 #[.agg #[.bool p, .slice A n c, .bool q, .slice A' n' c']] w fun e w' => e = .returned (.bool (vldR p q l l')) ∧ Ext w w' := by
  obtain ⟨W1, hW1⟩ : ∃ W1, W1 = (w.alloc (.cells #[.bool p, .slice A n c, .bool q, .slice A' n' c'] 26)).alloc (.cells #[.bool p, .slice A n c, .bool q, .slice A' n' c'] 24) := ⟨_, rfl⟩
  have e0 : Ext w (w.alloc (.cells #[.bool p, .slice A n c, .bool q, .slice A' n' c'] 26)) := (Ext.refl w).alc _
  have e1 : Ext w W1 := by rw [hW1]; exact e0.alc _
  have h5 : W1.heap[w.heap.size + 1]? = some (.cells #[.bool p, .slice A n c, .bool q, .slice A' n' c'] 24 (0, 0)) := by
    have := heap_alloc_new (w.alloc (.cells #[.bool p, .slice A n c, .bool q, .slice A' n' c'] 26)) (.cells #[.bool p, .slice A n c, .bool q, .slice A' n' c'] 24)
    rw [World.size_alloc] at this
    rw [hW1]; exact this
  have h4 : W1.heap[w.heap.size]? = some (.cells #[.bool p, .slice A n c, .bool q, .slice A' n' c'] 26 (0, 0)) := by
    have := heap_alloc_new w (.cells #[.bool p, .slice A n c, .bool q, .slice A' n' c'] 26)
    rw [hW1]
    have hh : w.heap.size < (w.alloc (.cells #[.bool p, .slice A n c, .bool q, .slice A' n' c'] 26)).heap.size := by simp
    exact (Below.block ((Ext.refl (w.alloc (.cells #[.bool p, .slice A n c, .bool q, .slice A' n' c'] 26))).alc (.cells #[.bool p, .slice A n c, .bool q, .slice A' n' c'] 24)) _ hh).trans this
  have AV := Lib.hid (allValid_two p q A A' n c n' c' l l' w W1 _ h5 (hx.below e1) (hy.below e1))
  have l1 : w.heap.size < W1.heap.size := (Array.getElem?_eq_some_iff.1 h4).1
  have k0 : W1.cell? ⟨w.heap.size, 0, none⟩ = some (.bool p) := by rw [cell_of_row W1 w.heap.size 0 _ 26 (0, 0) h4]; rfl
  have k1 : W1.cell? ⟨w.heap.size, 1, none⟩ = some (.slice A n c) := by rw [cell_of_row W1 w.heap.size 1 _ 26 (0, 0) h4]; rfl
  have k2 : W1.cell? ⟨w.heap.size, 2, none⟩ = some (.bool q) := by rw [cell_of_row W1 w.heap.size 2 _ 26 (0, 0) h4]; rfl
  have k3 : W1.cell? ⟨w.heap.size, 3, none⟩ = some (.slice A' n' c') := by rw [cell_of_row W1 w.heap.size 3 _ 26 (0, 0) h4]; rfl
  obtain ⟨bl, hbl⟩ : ∃ b, b = vldR p q l l' := ⟨_, rfl⟩
  rw [← hbl]
  have HX := Lib.hid (hx.below e1); have HY := Lib.hid (hy.below e1)
  have HB := Lib.hid hbl; have E1 := Lib.hid e1; have HW1 := Lib.hid hW1
  have HK := Lib.hid (And.intro k0 (And.intro k1 (And.intro k2 k3)))
  clear hbl e0 e1 hW1 h4 h5 hx hy k0 k1 k2 k3
  go_enter Tryz.func97, Tryz.ntmps97
  go_wp2_with fail
  rw [← HW1.out]
  refine AV.out.mono ?_
  rintro e w2 ⟨rfl, x2⟩
  replace x2 : Ext W1 w2 := x2
  by_cases hv : (vld p l && vld q l') = true
  · rw [hv]
    have hv' := hv
    simp only [Bool.and_eq_true] at hv'
    have zx := vld_zv (HX.out.below x2) hv'.1
    have zy := vld_zv (HY.out.below x2) hv'.2
    have lx : (dig (numOf p l).natAbs).length ≤ 300 := by rw [vld_dig HX.out.ok hv'.1]; have := vld_len hv'.1; omega
    have ly : (dig (numOf q l').natAbs).length ≤ 300 := by rw [vld_dig HY.out.ok hv'.2]; have := vld_len hv'.2; omega
    obtain ⟨r, hr⟩ : ∃ r, r = numOf p l := ⟨_, rfl⟩
    obtain ⟨t, ht⟩ : ∃ t, t = numOf q l' := ⟨_, rfl⟩
    have hb : bl = decide (0 < t ∧ Int.gcd r t = 1) := by rw [HB.out]; unfold vldR; rw [hv, hr, ht]; rfl
    rw [← hr] at zx lx
    rw [← ht] at zy ly
    have k0 := keepAt x2 l1 HK.out.1; have k1 := keepAt x2 l1 HK.out.2.1; have k2 := keepAt x2 l1 HK.out.2.2.1; have k3 := keepAt x2 l1 HK.out.2.2.2
    have FO := Lib.hid (fractionOf_any r t _ _ (fv_mk zx zy)); have LL := Lib.hid (And.intro lx ly); have HBB := Lib.hid hb; have X2 := Lib.hid (E1.out.trans x2)
    clear hv hv' zx zy lx ly hr ht hb x2 AV HX HY HB HK HW1
    go_wp2_with fail
    refine FO.out.mono ?_
    rintro e w3 ⟨b, B, m, d, b', B', m', d', rfl, y1, y2, x3⟩
    have LO := Lib.hid (lowest_any r t _ _ (fv_mk y1 y2) LL.out); have X3 := Lib.hid (X2.out.trans x3)
    clear y1 y2 x3 FO k0 k1 k2 k3
    go_wp2_with fail
    refine LO.out.mono ?_
    rintro e w4 ⟨rfl, x4⟩
    rw [← HBB.out]
    have X4 := Lib.hid (X3.out.trans x4)
    clear x4 LO
    go_wp2
    go_ret
    exact ⟨rfl, X4.out⟩
  · have hf : (vld p l && vld q l') = false := by simpa using hv
    rw [hf]
    have hb : bl = false := by rw [HB.out]; unfold vldR; rw [hf]; rfl
    subst hb
    have X2 := Lib.hid (E1.out.trans x2)
    clear hf hv x2 AV HX HY HB HK HW1
    go_wp2
    go_ret
    exact ⟨rfl, X2.out⟩

set_option maxRecDepth 100000 in
theorem allValidRats_any (m cap g : Nat) (N M : Nat → Bool) (AA BB : Nat → Option Addr) (nn cc mm dd : Nat → Nat) (L K : Nat → List Nat) (w : World) (hm : m ≤ 1000) (hg : g < w.heap.size)
    (h0 : ∀ i, i < m → w.cell? ⟨g, i * 4, none⟩ = some (.bool (N i)) ∧ w.cell? ⟨g, i * 4 + 1, none⟩ = some (.slice (AA i) (nn i) (cc i)) ∧ w.cell? ⟨g, i * 4 + 2, none⟩ = some (.bool (M i)) ∧ w.cell? ⟨g, i * 4 + 3, none⟩ = some (.slice (BB i) (mm i) (dd i)))
    (hL : ∀ i, i < m → Wd w (.slice (AA i) (nn i) (cc i)) (L i) ∧ Wd w (.slice (BB i) (mm i) (dd i)) (K i)) :
    Calls Tryz.prog 45 #[.slice (some ⟨g, 0, none⟩) m cap] w fun e w' => e = .returned (.bool ((List.range m).all fun i => vldR (N i) (M i) (L i) (K i))) ∧ Ext w w' := by
  have H0 := Lib.hid h0; clear h0
  have HL := Lib.hid hL; clear hL
  go_enter Tryz.func45, Tryz.ntmps45
  go_wp2_with fail
  go_loopw [7] (fun i wr => ∃ k : Nat, i = .int .i64 k ∧ k ≤ m ∧ Hid (Ext w wr) ∧ ∀ j, j < k → vldR (N j) (M j) (L j) (K j) = true) (fun i _ => m - (intOf i).toNat)
  case atStart => exact ⟨0, rfl, Nat.zero_le _, Lib.hid (Ext.refl _), fun j hj => by omega⟩
  case round =>
    obtain ⟨k, rfl, hk, hbel, hall⟩ := hrel
    have HA := Lib.hid hall; clear hall
    by_cases hlt : k < m
    · obtain ⟨a0, a1, a2, a3⟩ := H0.out k hlt
      replace a0 := keepAt hbel.out hg a0
      replace a1 := keepAt hbel.out hg a1
      replace a2 := keepAt hbel.out hg a2
      replace a3 := keepAt hbel.out hg a3
      have hl := (HL.out k hlt).1.below hbel.out
      have hl2 := (HL.out k hlt).2.below hbel.out
      obtain ⟨p, hp⟩ : ∃ p, p = N k := ⟨_, rfl⟩
      obtain ⟨A, hA⟩ : ∃ A, A = AA k := ⟨_, rfl⟩
      obtain ⟨n, hn⟩ : ∃ n, n = nn k := ⟨_, rfl⟩
      obtain ⟨c, hc⟩ : ∃ c, c = cc k := ⟨_, rfl⟩
      obtain ⟨q, hq⟩ : ∃ p, p = M k := ⟨_, rfl⟩
      obtain ⟨A', hA'⟩ : ∃ A, A = BB k := ⟨_, rfl⟩
      obtain ⟨n', hn'⟩ : ∃ n, n = mm k := ⟨_, rfl⟩
      obtain ⟨c', hc'⟩ : ∃ c, c = dd k := ⟨_, rfl⟩
      rw [← hA, ← hn, ← hc] at a1 hl
      rw [← hA', ← hn', ← hc'] at a3 hl2
      rw [← hp] at a0
      rw [← hq] at a2
      clear hA hn hc hA' hn' hc'
      have Hp := Lib.hid (And.intro hp hq); clear hp hq
      have Hl := Lib.hid (And.intro hl hl2); clear hl hl2
      go_wp2_with fail
      have e2 : Ext wr (wr.alloc (Obj.cells #[.bool p, .slice A n c, .bool q, .slice A' n' c'] 26)) := (Ext.refl _).alc _
      refine (validRat_any p q A A' n c n' c' (L k) (K k) _ (Hl.out.1.below e2) (Hl.out.2.below e2)).mono ?_
      rintro e w2 ⟨rfl, x3⟩
      have hb4 := Lib.hid ((hbel.out.trans e2).trans x3)
      clear e2 x3
      by_cases hvd : vldR p q (L k) (K k) = true
      · rw [hvd]
        have Hvd := Lib.hid hvd; clear hvd
        go_wp2
        go_roundw
        case rel =>
          refine ⟨k + 1, by go_num, by omega, hb4, fun j hj => ?_⟩
          by_cases e : j = k
          · rw [e, ← Hp.out.1, ← Hp.out.2]; exact Hvd.out
          · exact HA.out j (by omega)
        case measure => simp [intOf]; omega
      · have hvf : vldR p q (L k) (K k) = false := by simpa using hvd
        have hr : ((List.range m).all fun i => vldR (N i) (M i) (L i) (K i)) = false := by
          rw [List.all_eq_false]
          exact ⟨k, List.mem_range.2 hlt, by rw [← Hp.out.1, ← Hp.out.2]; exact hvd⟩
        have Hr := Lib.hid hr; clear hr hvd
        rw [hvf]
        clear hvf
        go_wp2
        go_ret
        exact ⟨by rw [Hr.out]; rfl, hb4.out⟩
    · have hr : ((List.range m).all fun i => vldR (N i) (M i) (L i) (K i)) = true := by
        rw [List.all_eq_true]
        intro i hi
        exact HA.out i (by have := List.mem_range.1 hi; omega)
      have Hr := Lib.hid hr; clear hr
      go_wp2
      go_ret
      exact ⟨by rw [Hr.out]; rfl, hbel.out⟩
end Go.Proofs.YtmlopkkbgpfdnabGreat
namespace Go.Proofs.YtmlopkkbgpfdnabGreat
open Go.RowKit

/-- a Rat and an error -/
def RetR (w : World) (x y er : Int) (e : Ending) (w' : World) : Prop := ∃ b A n c b' A' n' c', e = .returned (.tuple #[.agg #[.bool b, .slice A n c, .bool b', .slice A' n' c'], .int .i64 er]) ∧ ZV w' (.agg #[.bool b, .slice A n c]) x ∧ ZV w' (.agg #[.bool b', .slice A' n' c']) y ∧ Below w.heap.size w w'
/-- block g holds a Rat -/
structure RW (W : World) (g : Nat) (p q : Bool) (A : Option Addr) (n c : Nat) (A' : Option Addr) (n' c' : Nat) (l l' : List Nat) : Prop where
  h : FB W g
  k0 : W.cell? ⟨g, 0, none⟩ = some (.bool p)
  k1 : W.cell? ⟨g, 1, none⟩ = some (.slice A n c)
  k2 : W.cell? ⟨g, 2, none⟩ = some (.bool q)
  k3 : W.cell? ⟨g, 3, none⟩ = some (.slice A' n' c')
  w1 : Wd W (.slice A n c) l
  w2 : Wd W (.slice A' n' c') l'
section
variable {W X : World} {g : Nat} {p q : Bool} {A : Option Addr} {n c : Nat} {A' : Option Addr} {n' c' : Nat} {l l' : List Nat}
theorem RW.ext (r : RW W g p q A n c A' n' c' l l') (e : Ext W X) : RW X g p q A n c A' n' c' l l' :=
  ⟨r.h.ext e, keepAt e r.h.lt r.k0, keepAt e r.h.lt r.k1, keepAt e r.h.lt r.k2, keepAt e r.h.lt r.k3, r.w1.below e, r.w2.below e⟩
theorem RW.new (t : TypeId) (h1 : Wd W (.slice A n c) l) (h2 : Wd W (.slice A' n' c') l') : RW (W.alloc (.cells #[.bool p, .slice A n c, .bool q, .slice A' n' c'] t)) W.heap.size p q A n c A' n' c' l l' :=
  ⟨FB.new W p A n c q A' n' c' t, by rw [World.cell?_alloc_new]; rfl, by rw [World.cell?_alloc_new]; rfl, by rw [World.cell?_alloc_new]; rfl, by rw [World.cell?_alloc_new]; rfl, h1.below (below1 _ _), h2.below (below1 _ _)⟩
theorem RW.hf (r : RW W g p q A n c A' n' c' l l') (hp : vld p l = true) (hq : vld q l' = true) : HF W g (numOf p l) (numOf q l') :=
  ⟨⟨p, A, n, c, r.k0, r.k1, vld_zv r.w1 hp⟩, ⟨q, A', n', c', r.k2, r.k3, vld_zv r.w2 hq⟩⟩
end
theorem allValidRats_two (p q p2 q2 : Bool) (A A' A2 A2' : Option Addr) (n c n' c' n2 c2 n2' c2' : Nat) (l l' k k' : List Nat) (w W : World) (g : Nat) (hx : Wd W (.slice A n c) l) (hy : Wd W (.slice A' n' c') l') (hx2 : Wd W (.slice A2 n2 c2) k) (hy2 : Wd W (.slice A2' n2' c2') k') (hW : W.heap[g]? = some (.cells #[.bool p, .slice A n c, .bool q, .slice A' n' c', .bool p2, .slice A2 n2 c2, .bool q2, .slice A2' n2' c2'] 26 (0, 0))) :
    Calls Tryz.prog 45 #[.slice (some ⟨g, 0, none⟩) 2 2] W fun e w' => e = .returned (.bool (vldR p q l l' && vldR p2 q2 k k')) ∧ Ext W w' := by
  have hg : g < W.heap.size := (Array.getElem?_eq_some_iff.1 hW).1
  have h := allValidRats_any 2 2 g (fun i => if i = 0 then p else p2) (fun i => if i = 0 then q else q2) (fun i => if i = 0 then A else A2) (fun i => if i = 0 then A' else A2') (fun i => if i = 0 then n else n2) (fun i => if i = 0 then c else c2) (fun i => if i = 0 then n' else n2') (fun i => if i = 0 then c' else c2') (fun i => if i = 0 then l else k) (fun i => if i = 0 then l' else k') W (by omega) hg
    (fun i hi => by
      rcases (by omega : i = 0 ∨ i = 1) with rfl | rfl
      · refine ⟨?_, ?_, ?_, ?_⟩ <;> (rw [cell_of_row W g _ _ 26 (0, 0) hW]; rfl)
      · refine ⟨?_, ?_, ?_, ?_⟩ <;> (rw [cell_of_row W g _ _ 26 (0, 0) hW]; rfl))
    (fun i hi => by
      rcases (by omega : i = 0 ∨ i = 1) with rfl | rfl
      · exact ⟨hx, hy⟩
      · exact ⟨hx2, hy2⟩)
  have e : ((List.range 2).all fun i => vldR (if i = 0 then p else p2) (if i = 0 then q else q2) (if i = 0 then l else k) (if i = 0 then l' else k')) = (vldR p q l l' && vldR p2 q2 k k') := by
    simp [List.range, List.range.loop]
  rw [e] at h
  exact h
theorem FB.put4 {W : World} {g k : Nat} {v0 v1 v2 v3 : Value} (h : FB W g) (hne : g ≠ k) : FB (Go.Proofs.YtmlopkkbgpfdnabGreat.put4 W k v0 v1 v2 v3) g := by
  unfold Go.Proofs.YtmlopkkbgpfdnabGreat.put4
  exact (h.far hne).far hne
/-- two Rats come in: their boxes and the block of a result -/
theorem three_fb (p q p2 q2 : Bool) (A A' A2 A2' : Option Addr) (n c n' c' n2 c2 n2' c2' : Nat) (l l' k k' : List Nat) (w : World) (hx : Wd w (.slice A n c) l) (hy : Wd w (.slice A' n' c') l') (hx2 : Wd w (.slice A2 n2 c2) k) (hy2 : Wd w (.slice A2' n2' c2') k') : ∃ W, W = (((w.alloc (Obj.cells #[.bool p, .slice A n c, .bool q, .slice A' n' c'] 26)).alloc (Obj.cells #[.bool p2, .slice A2 n2 c2, .bool q2, .slice A2' n2' c2'] 26)).alloc (Obj.cells #[.bool false, .slice none 0 0, .bool false, .slice none 0 0] 26)) ∧
    RW W w.heap.size p q A n c A' n' c' l l' ∧ RW W (w.heap.size + 1) p2 q2 A2 n2 c2 A2' n2' c2' k k' ∧ FB W (w.heap.size + 1 + 1) ∧ Ext w W ∧ W.heap.size = w.heap.size + 1 + 1 + 1 := by
  refine ⟨_, rfl, ((RW.new 26 hx hy).ext ((Ext.refl _).alc _)).ext ((Ext.refl _).alc _), ?_, ?_, (((Ext.refl w).alc _).alc _).alc _, by simp⟩
  · have := RW.new (W := w.alloc (Obj.cells #[.bool p, .slice A n c, .bool q, .slice A' n' c'] 26)) (p := p2) (q := q2) 26 (hx2.below (below1 _ _)) (hy2.below (below1 _ _))
    rw [World.size_alloc] at this
    exact this.ext ((Ext.refl _).alc _)
  · have := FB.new ((w.alloc (Obj.cells #[.bool p, .slice A n c, .bool q, .slice A' n' c'] 26)).alloc (Obj.cells #[.bool p2, .slice A2 n2 c2, .bool q2, .slice A2' n2' c2'] 26)) false none 0 0 false none 0 0 26
    rw [World.size_alloc, World.size_alloc] at this
    exact this
set_option maxHeartbeats 800000 in
set_option maxRecDepth 100000 in
theorem combineRats_no (p q p2 q2 : Bool) (A A' A2 A2' : Option Addr) (n c n' c' n2 c2 n2' c2' : Nat) (l l' k k' : List Nat) (w : World) (hx : Wd w (.slice A n c) l) (hy : Wd w (.slice A' n' c') l') (hx2 : Wd w (.slice A2 n2 c2) k) (hy2 : Wd w (.slice A2' n2' c2') k') (fn : Nat) (hno : (vldR p q l l' && vldR p2 q2 k k') = false) :
    Calls Tryz.prog 50 #[.agg #[.bool p, .slice A n c, .bool q, .slice A' n' c'], .agg #[.bool p2, .slice A2 n2 c2, .bool q2, .slice A2' n2' c2'], .func (.func fn) #[] #[]] w (RetR w 0 0 2) := by
  obtain ⟨W0, hW0, h1, h2, r4, e0, s0⟩ := three_fb p q p2 q2 A A' A2 A2' n c n' c' n2 c2 n2' c2' l l' k k' w hx hy hx2 hy2
  obtain ⟨W1, hW1⟩ : ∃ W1, W1 = W0.alloc (Obj.cells #[.bool p, .slice A n c, .bool q, .slice A' n' c', .bool p2, .slice A2 n2 c2, .bool q2, .slice A2' n2' c2'] 26) := ⟨_, rfl⟩
  have e1 : Ext W0 W1 := by rw [hW1]; exact (Ext.refl _).alc _
  have hs : W1.heap[w.heap.size + 1 + 1 + 1]? = some (.cells #[.bool p, .slice A n c, .bool q, .slice A' n' c', .bool p2, .slice A2 n2 c2, .bool q2, .slice A2' n2' c2'] 26 (0, 0)) := by
    have := heap_alloc_new W0 (Obj.cells #[.bool p, .slice A n c, .bool q, .slice A' n' c', .bool p2, .slice A2 n2 c2, .bool q2, .slice A2' n2' c2'] 26)
    rw [s0] at this
    rw [hW1]; exact this
  have AV := Lib.hid (allValidRats_two p q p2 q2 A A' A2 A2' n c n' c' n2 c2 n2' c2' l l' k k' w W1 _ (h1.ext e1).w1 (h1.ext e1).w2 (h2.ext e1).w1 (h2.ext e1).w2 hs)
  have HWA := Lib.hid hW1
  have H1 := Lib.hid (h1.ext e1); have H2 := Lib.hid (h2.ext e1); have R4 := Lib.hid (r4.ext e1); have E1 := Lib.hid (e0.trans e1); have HW0 := Lib.hid hW0
  have z1 : w.heap.size + 1 + 1 + 1 ≤ W1.heap.size := by have := e1.size; omega
  clear h1 h2 r4 e0 e1 s0 hs hW0 hW1 hx hy hx2 hy2
  go_enter Tryz.func50, Tryz.ntmps50
  go_wp2_with fail
  rw [← HW0.out, ← HWA.out]
  refine AV.out.mono ?_
  rintro e W2 ⟨rfl, x2⟩
  replace x2 : Ext W1 W2 := x2
  clear AV HW0 HWA
  rw [hno]
  have r4 := R4.out.ext x2
  obtain ⟨_, _, _, _, k40, k41, k42, k43, k44, k45, k46, k47⟩ := put4_walk r4 (.bool false) (.slice none 0 0) (.bool false)
  obtain ⟨W', hW'⟩ : ∃ W', W' = put4 W2 (w.heap.size + 1 + 1) (.bool false) (.slice none 0 0) (.bool false) (.slice none 0 0) := ⟨_, rfl⟩
  obtain ⟨f0, f1, f2, f3⟩ := put4_cells r4 (.bool false) (.slice none 0 0) (.bool false) (.slice none 0 0)
  have hz1 := ((show ZV W2 (.agg #[.bool false, .slice none 0 0]) 0 from ZV.zero W2)).put4 r4 (.bool false) (.slice none 0 0) (.bool false) (.slice none 0 0)
  rw [← hW'] at hz1
  have hz2 := ((show ZV W2 (.agg #[.bool false, .slice none 0 0]) 0 from ZV.zero W2)).put4 r4 (.bool false) (.slice none 0 0) (.bool false) (.slice none 0 0)
  rw [← hW'] at hz2
  have hbf : Below w.heap.size w W' := by rw [hW']; exact put4_below (Ext.below (E1.out.trans x2)) (by omega) (.bool false) (.slice none 0 0) (.bool false) (.slice none 0 0)
  rw [← hW'] at f0 f1 f2 f3
  unfold put4 at hW'
  have HG := Lib.hid (And.intro hz1 (And.intro hz2 (And.intro hbf (And.intro f0 (And.intro f1 (And.intro f2 f3))))))
  have HW' := Lib.hid hW'
  clear hz1 hz2 hbf f0 f1 f2 f3 hW'
  clear x2 r4
  go_wp2
  rw [← HW'.out]
  obtain ⟨hz1, hz2, hbf, f0, f1, f2, f3⟩ := HG.out
  exact bodyPost_ret (v := .tuple #[.agg #[.bool false, .slice none 0 0, .bool false, .slice none 0 0], .int .i64 2]) (by simp [results, Tryz.results50, go_sem, f0, f1, f2, f3]) rfl ⟨_, _, _, _, _, _, _, _, rfl, hz1, hz2, hbf⟩
end Go.Proofs.YtmlopkkbgpfdnabGreat
namespace Go.Proofs.YtmlopkkbgpfdnabGreat
open Go.RowKit

set_option maxHeartbeats 800000 in
set_option maxRecDepth 100000 in
theorem combineRats22_fit (p q p2 q2 : Bool) (A A' A2 A2' : Option Addr) (n c n' c' n2 c2 n2' c2' : Nat) (l l' k k' : List Nat) (w : World) (hx : Wd w (.slice A n c) l) (hy : Wd w (.slice A' n' c') l') (hx2 : Wd w (.slice A2 n2 c2) k) (hy2 : Wd w (.slice A2' n2' c2') k') (vn vd : Int) (hp : vldR p q l l' = true) (hq : vldR p2 q2 k k' = true)
    (hop : ∀ W u u', FV W u (numOf p l) (numOf q l') → FV W u' (numOf p2 k) (numOf q2 k') → Calls Tryz.prog 51 #[u, u'] W (RetF W vn vd)) (hfit : (dig vn.natAbs).length ≤ 256 ∧ (dig vd.natAbs).length ≤ 256) :
    Calls Tryz.prog 50 #[.agg #[.bool p, .slice A n c, .bool q, .slice A' n' c'], .agg #[.bool p2, .slice A2 n2 c2, .bool q2, .slice A2' n2' c2'], .func (.func 51) #[] #[]] w (RetR w vn vd 0) := by
  obtain ⟨W0, hW0, h1, h2, r4, e0, s0⟩ := three_fb p q p2 q2 A A' A2 A2' n c n' c' n2 c2 n2' c2' l l' k k' w hx hy hx2 hy2
  obtain ⟨W1, hW1⟩ : ∃ W1, W1 = W0.alloc (Obj.cells #[.bool p, .slice A n c, .bool q, .slice A' n' c', .bool p2, .slice A2 n2 c2, .bool q2, .slice A2' n2' c2'] 26) := ⟨_, rfl⟩
  have e1 : Ext W0 W1 := by rw [hW1]; exact (Ext.refl _).alc _
  have hs : W1.heap[w.heap.size + 1 + 1 + 1]? = some (.cells #[.bool p, .slice A n c, .bool q, .slice A' n' c', .bool p2, .slice A2 n2 c2, .bool q2, .slice A2' n2' c2'] 26 (0, 0)) := by
    have := heap_alloc_new W0 (Obj.cells #[.bool p, .slice A n c, .bool q, .slice A' n' c', .bool p2, .slice A2 n2 c2, .bool q2, .slice A2' n2' c2'] 26)
    rw [s0] at this
    rw [hW1]; exact this
  have AV := Lib.hid (allValidRats_two p q p2 q2 A A' A2 A2' n c n' c' n2 c2 n2' c2' l l' k k' w W1 _ (h1.ext e1).w1 (h1.ext e1).w2 (h2.ext e1).w1 (h2.ext e1).w2 hs)
  have HWA := Lib.hid hW1
  have H1 := Lib.hid (h1.ext e1); have H2 := Lib.hid (h2.ext e1); have R4 := Lib.hid (r4.ext e1); have E1 := Lib.hid (e0.trans e1); have HW0 := Lib.hid hW0
  have z1 : w.heap.size + 1 + 1 + 1 ≤ W1.heap.size := by have := e1.size; omega
  obtain ⟨hv1, hv2, hv3, hv4⟩ := vldR_parts hp
  obtain ⟨hu1, hu2, hu3, hu4⟩ := vldR_parts hq
  have f1 := Lib.hid ((h1.ext e1).hf hv1 hv2)
  have f2 := Lib.hid ((h2.ext e1).hf hu1 hu2)
  have hyes : (vldR p q l l' && vldR p2 q2 k k') = true := by rw [hp, hq]; rfl
  clear hv1 hv2 hv3 hv4 hu1 hu2 hu3 hu4
  obtain ⟨vx, hvx⟩ : ∃ z, z = numOf p l := ⟨_, rfl⟩
  obtain ⟨vy, hvy⟩ : ∃ z, z = numOf q l' := ⟨_, rfl⟩
  obtain ⟨ux, hux⟩ : ∃ z, z = numOf p2 k := ⟨_, rfl⟩
  obtain ⟨uy, huy⟩ : ∃ z, z = numOf q2 k' := ⟨_, rfl⟩
  rw [← hvx, ← hvy] at f1
  rw [← hux, ← huy] at f2
  rw [← hvx, ← hvy, ← hux, ← huy] at hop
  have HOP := Lib.hid hop
  clear hvx hvy hux huy hop
  have HFIT := Lib.hid hfit; clear hfit
  clear h1 h2 r4 e0 e1 s0 hs hW0 hW1 hx hy hx2 hy2
  go_enter Tryz.func50, Tryz.ntmps50
  go_wp2_with fail
  rw [← HW0.out, ← HWA.out]
  refine AV.out.mono ?_
  rintro e W2 ⟨rfl, x2⟩
  replace x2 : Ext W1 W2 := x2
  clear AV HW0 HWA
  rw [hyes]
  have F1 := Lib.hid (f1.out.ext x2); have F2 := Lib.hid (f2.out.ext x2); have R4 := Lib.hid (R4.out.ext x2); have E2 := Lib.hid (E1.out.trans x2)
  have lr := R4.out.lt
  clear x2 hyes H1 H2 f1 f2 E1 hp hq z1
  go_upto_region 3 with fail
  refine wp_region_noPanic ?_
  refine wp_pool 7 [some 15, some 16, some 17, some 18, some 19, some 20, some 8] [] [6] [(fun (v : Value) (_ : World) => v = .func (.func 51) #[] #[]), (RF2 (vx) (vy)), (RF2 (vx) (vy)), (RF2 (ux) (uy)), (RF2 (ux) (uy)), (RF2 (vn) (vd)), (fun (v : Value) (X : World) => ∃ g, v = .pointer (some ⟨g, 0, none⟩) ∧ W2.heap.size ≤ g ∧ FB X g)] [noF, noF, noF, noF, noF, noF, ptrF] (by kernel_rfl) (by kernel_rfl) (by kernel_rfl) (by kernel_rfl) (by kernel_rfl) (by kernel_rfl) (by kernel_rfl) (by kernel_rfl) (fun _ _ _ _ h => h) ⟨Stays.pure _, (fun _ _ _ e ⟨b, A, n, c, b', A', n', c', h1, h2, h3⟩ => ⟨b, A, n, c, b', A', n', c', h1, h2.ext e, h3.ext e⟩), (fun _ _ _ e ⟨b, A, n, c, b', A', n', c', h1, h2, h3⟩ => ⟨b, A, n, c, b', A', n', c', h1, h2.ext e, h3.ext e⟩), (fun _ _ _ e ⟨b, A, n, c, b', A', n', c', h1, h2, h3⟩ => ⟨b, A, n, c, b', A', n', c', h1, h2.ext e, h3.ext e⟩), (fun _ _ _ e ⟨b, A, n, c, b', A', n', c', h1, h2, h3⟩ => ⟨b, A, n, c, b', A', n', c', h1, h2.ext e, h3.ext e⟩), (fun _ _ _ e ⟨b, A, n, c, b', A', n', c', h1, h2, h3⟩ => ⟨b, A, n, c, b', A', n', c', h1, h2.ext e, h3.ext e⟩), (fun _ _ _ e ⟨g, h1, h2, h3⟩ => ⟨g, h1, h2, h3.ext e⟩), True.intro⟩ ?steps ?done
  case steps =>
    simp only [List.take_succ_cons, List.take_zero]
    refine Steps.cons (fun (v : Value) (_ : World) => v = .func (.func 51) #[] #[]) [] rfl (by kernel_rfl) rfl (by kernel_rfl) (fun y X ex0 hf K hK => ?_) ?_
    · clear hf
      have ex := (Ext.drw (Ext.refl _)).trans ex0
      refine Box.mk ?_
      simp only [fill, Act.put, Nat.reduceAdd, List.setIfInBounds_toArray, List.set_cons_zero, List.set_cons_succ] at hK ⊢
      go_simp
      exact hK.out _ _ rfl (Ext.refl _) (fun b hb => by cases hb)
    refine Steps.cons (RF2 (vx) (vy)) [] rfl (by kernel_rfl) rfl (by kernel_rfl) (fun y X ex0 hf K hK => ?_) ?_
    · clear hf
      have ex := (Ext.drw (Ext.refl _)).trans ex0
      refine Box.mk ?_
      simp only [fill, Act.put, Nat.reduceAdd, List.setIfInBounds_toArray, List.set_cons_zero, List.set_cons_succ] at hK ⊢
      obtain ⟨⟨bl, Al, nl, cl, k0, k1, kz⟩, ⟨bm, Am, nm, cm, k2, k3, ky⟩⟩ := (F1.out.ext ex)
      go_simp
      exact hK.out _ _ ⟨_, _, _, _, _, _, _, _, rfl, kz, ky⟩ (Ext.refl _) (fun b hb => by cases hb)
    refine Steps.cons (RF2 (vx) (vy)) [1] rfl (by kernel_rfl) rfl (by kernel_rfl) (fun y X ex0 hf K hK => ?_) ?_
    · obtain ⟨b1, A1, n1, c1, bb1, AA1, nn1, cc1, h1, z1, y1⟩ : ((RF2 (vx) (vy))) (y 1) X := hf.1
      clear hf
      have ex := (Ext.drw (Ext.refl _)).trans ex0
      refine Box.mk ?_
      simp only [fill, Act.put, Nat.reduceAdd, List.setIfInBounds_toArray, List.set_cons_zero, List.set_cons_succ, h1] at hK ⊢
      go_simp
      refine (fractionOf_any _ _ _ _ (fv_mk z1 y1)).mono ?_
      rintro e V ⟨b9, A9, n9, c9, b8, A8, n8, c8, rfl, hz, hy, hb⟩
      try go_wp2_with fail
      exact hK.out _ _ ⟨_, _, _, _, _, _, _, _, rfl, hz, hy⟩ hb (fun b hb => by cases hb)
    refine Steps.cons (RF2 (ux) (uy)) [] rfl (by kernel_rfl) rfl (by kernel_rfl) (fun y X ex0 hf K hK => ?_) ?_
    · clear hf
      have ex := (Ext.drw (Ext.refl _)).trans ex0
      refine Box.mk ?_
      simp only [fill, Act.put, Nat.reduceAdd, List.setIfInBounds_toArray, List.set_cons_zero, List.set_cons_succ] at hK ⊢
      obtain ⟨⟨bl, Al, nl, cl, k0, k1, kz⟩, ⟨bm, Am, nm, cm, k2, k3, ky⟩⟩ := (F2.out.ext ex)
      go_simp
      exact hK.out _ _ ⟨_, _, _, _, _, _, _, _, rfl, kz, ky⟩ (Ext.refl _) (fun b hb => by cases hb)
    refine Steps.cons (RF2 (ux) (uy)) [3, 2] rfl (by kernel_rfl) rfl (by kernel_rfl) (fun y X ex0 hf K hK => ?_) ?_
    · obtain ⟨b3, A3, n3, c3, bb3, AA3, nn3, cc3, h3, z3, y3⟩ : ((RF2 (ux) (uy))) (y 3) X := hf.1
      obtain ⟨b2, A2, n2, c2, bb2, AA2, nn2, cc2, h2, z2, y2⟩ : ((RF2 (vx) (vy))) (y 2) X := hf.2.1
      clear hf
      have ex := (Ext.drw (Ext.refl _)).trans ex0
      refine Box.mk ?_
      simp only [fill, Act.put, Nat.reduceAdd, List.setIfInBounds_toArray, List.set_cons_zero, List.set_cons_succ, h3, h2] at hK ⊢
      go_simp
      refine (fractionOf_any _ _ _ _ (fv_mk z3 y3)).mono ?_
      rintro e V ⟨b9, A9, n9, c9, b8, A8, n8, c8, rfl, hz, hy, hb⟩
      try go_wp2_with fail
      exact hK.out _ _ ⟨_, _, _, _, _, _, _, _, rfl, hz, hy⟩ hb (fun b hb => by cases hb)
    refine Steps.cons (RF2 (vn) (vd)) [0, 2, 4] rfl (by kernel_rfl) rfl (by kernel_rfl) (fun y X ex0 hf K hK => ?_) ?_
    · have h0 : ((fun (v : Value) (_ : World) => v = .func (.func 51) #[] #[])) (y 0) X := hf.1
      obtain ⟨b2, A2, n2, c2, bb2, AA2, nn2, cc2, h2, z2, y2⟩ : ((RF2 (vx) (vy))) (y 2) X := hf.2.1
      obtain ⟨b4, A4, n4, c4, bb4, AA4, nn4, cc4, h4, z4, y4⟩ : ((RF2 (ux) (uy))) (y 4) X := hf.2.2.1
      clear hf
      have ex := (Ext.drw (Ext.refl _)).trans ex0
      refine Box.mk ?_
      simp only [fill, Act.put, Nat.reduceAdd, List.setIfInBounds_toArray, List.set_cons_zero, List.set_cons_succ, h0, h2, h4] at hK ⊢
      go_simp
      refine (HOP.out _ _ _ (fv_mk z2 y2) (fv_mk z4 y4)).mono ?_
      rintro e V ⟨b9, A9, n9, c9, b8, A8, n8, c8, rfl, hz, hy, hb⟩
      try go_wp2_with fail
      exact hK.out _ _ ⟨_, _, _, _, _, _, _, _, rfl, hz, hy⟩ hb (fun b hb => by cases hb)
    refine Steps.cons (fun (v : Value) (X : World) => ∃ g, v = .pointer (some ⟨g, 0, none⟩) ∧ W2.heap.size ≤ g ∧ FB X g) [] rfl (by kernel_rfl) rfl (by kernel_rfl) (fun y X ex0 hf K hK => ?_) ?_
    · clear hf
      have ex := (Ext.drw (Ext.refl _)).trans ex0
      refine Box.mk ?_
      simp only [fill, Act.put, Nat.reduceAdd, List.setIfInBounds_toArray, List.set_cons_zero, List.set_cons_succ] at hK ⊢
      go_simp
      exact hK.out _ _ ⟨X.heap.size, rfl, ex.size, FB.new X false none 0 0 false none 0 0 72⟩ (Ext.alc (Ext.refl X) (.cells #[.bool false, .slice none 0 0, .bool false, .slice none 0 0] 72)) (New.ptr (Nat.le_refl _) (by simp))
    exact Steps.nil
  case done =>
    intro y X ex hf hlt hsep
    have h0 : ((fun (v : Value) (_ : World) => v = .func (.func 51) #[] #[])) (y 0) X := hf.1
    obtain ⟨b1, A1, n1, c1, bb1, AA1, nn1, cc1, h1, z1, y1⟩ : ((RF2 (vx) (vy))) (y 1) X := hf.2.1
    obtain ⟨b2, A2, n2, c2, bb2, AA2, nn2, cc2, h2, z2, y2⟩ : ((RF2 (vx) (vy))) (y 2) X := hf.2.2.1
    obtain ⟨b3, A3, n3, c3, bb3, AA3, nn3, cc3, h3, z3, y3⟩ : ((RF2 (ux) (uy))) (y 3) X := hf.2.2.2.1
    obtain ⟨b4, A4, n4, c4, bb4, AA4, nn4, cc4, h4, z4, y4⟩ : ((RF2 (ux) (uy))) (y 4) X := hf.2.2.2.2.1
    obtain ⟨b5, A5, n5, c5, bb5, AA5, nn5, cc5, h5, z5, y5⟩ : ((RF2 (vn) (vd))) (y 5) X := hf.2.2.2.2.2.1
    obtain ⟨g6, h6, z6, q6⟩ : ((fun (v : Value) (X : World) => ∃ g, v = .pointer (some ⟨g, 0, none⟩) ∧ W2.heap.size ≤ g ∧ FB X g)) (y 6) X := hf.2.2.2.2.2.2.1
    clear hf
    clear hsep hlt
    refine Box.mk ?_
    simp only [List.drop_succ_cons, List.drop_zero, fill, Act.put, Nat.reduceAdd, List.setIfInBounds_toArray, List.set_cons_zero, List.set_cons_succ, h0, h1, h2, h3, h4, h5, h6]
    clear h0 h1 h2 h3 h4 h5 h6
    obtain ⟨_, _, _, _, k40, k41, k42, k43, k44, k45, k46, k47⟩ := put4_walk q6 (.bool b5) (.slice A5 n5 c5) (.bool bb5)
    obtain ⟨W3, hW3⟩ : ∃ W3, W3 = put4 X g6 (.bool b5) (.slice A5 n5 c5) (.bool bb5) (.slice AA5 nn5 cc5) := ⟨_, rfl⟩
    have i8 : HF W3 g6 vn vd := by rw [hW3]; exact HF.put q6 z5 y5
    have r4 : FB W3 (w.heap.size + 1 + 1) := by rw [hW3]; exact (R4.out.ext ex).put4 (by have := z6; omega)
    have e3 : Ext w W3 := by rw [hW3]; exact put4_below (Ext.below (E2.out.trans ex)) (by have := E2.out.size; omega) _ _ _ _
    unfold put4 at hW3
    have I8 := Lib.hid i8; have R4 := Lib.hid r4; have E3 := Lib.hid e3; have HW3 := Lib.hid hW3
    clear i8 r4 e3 hW3 ex q6 z1 y1 z2 y2 z3 y3 z4 y4 z5 y5 F1 F2 E2
    go_wp2_with fail
    refine NoPanic.normal ?_
    go_upto_region 4 with fail
    rw [← HW3.out]
    clear k40 k41 k42 k43 k44 k45 k46 k47 HW3
    have l8 := I8.out.lt
    obtain ⟨b9, A9, n9, c9, j0, j1, jz⟩ := I8.out.1
    have FT := Lib.hid (fits_any vn _ _ jz)
    clear jz
    obtain ⟨fn1, hfn1⟩ : ∃ b, b = decide ((dig vn.natAbs).length ≤ 256) := ⟨_, rfl⟩
    rw [← hfn1] at FT
    have HF1 := Lib.hid hfn1; clear hfn1
    go_wp2_with fail
    refine FT.out.mono ?_
    rintro e W4 ⟨rfl, x4⟩
    replace x4 : Ext W3 W4 := x4
    have I8b := Lib.hid (I8.out.ext x4); have R4 := Lib.hid (R4.out.ext x4); have E4 := Lib.hid (E3.out.trans x4)
    clear x4 j0 j1 FT
    have hb1 : fn1 = true := by rw [HF1.out]; exact decide_eq_true HFIT.out.1
    subst hb1
    obtain ⟨b9, A9, n9, c9, j0, j1, jz⟩ := I8b.out.2
    have FT := Lib.hid (fits_any vd _ _ jz)
    clear jz
    obtain ⟨fn2, hfn2⟩ : ∃ b, b = decide ((dig vd.natAbs).length ≤ 256) := ⟨_, rfl⟩
    rw [← hfn2] at FT
    have HF2 := Lib.hid hfn2; clear hfn2
    go_wp2_with fail
    refine FT.out.mono ?_
    rintro e W5 ⟨rfl, x5⟩
    replace x5 : Ext W4 W5 := x5
    have I8c := Lib.hid (I8b.out.ext x5); have R4 := Lib.hid (R4.out.ext x5); have E5 := Lib.hid (E4.out.trans x5)
    clear x5 j0 j1 FT
    have hb2 : fn2 = true := by rw [HF2.out]; exact decide_eq_true HFIT.out.2
    subst hb2
    go_upto_region 6 with fail
    obtain ⟨⟨b9, A9, n9, c9, j0, j1, jz⟩, ⟨b8, A8, n8, c8, i0, i1, iz⟩⟩ := I8c.out
    have RO := Lib.hid (ratOf_any vn vd _ _ (fv_mk jz iz) (by have := HFIT.out.1; omega) (by have := HFIT.out.2; omega))
    clear jz iz
    go_wp2_with fail
    refine RO.out.mono ?_
    rintro e W6 ⟨b, B, m, d, b', B', m', d', rfl, y1, y2, x6⟩
    replace x6 : Ext W5 W6 := x6
    have r4 := R4.out.ext x6
    obtain ⟨_, _, _, _, k40, k41, k42, k43, k44, k45, k46, k47⟩ := put4_walk r4 (.bool b) (.slice B m d) (.bool b')
    obtain ⟨W', hW'⟩ : ∃ W', W' = put4 W6 (w.heap.size + 1 + 1) (.bool b) (.slice B m d) (.bool b') (.slice B' m' d') := ⟨_, rfl⟩
    obtain ⟨f0, f1, f2, f3⟩ := put4_cells r4 (.bool b) (.slice B m d) (.bool b') (.slice B' m' d')
    have hz1 := (y1).put4 r4 (.bool b) (.slice B m d) (.bool b') (.slice B' m' d')
    rw [← hW'] at hz1
    have hz2 := (y2).put4 r4 (.bool b) (.slice B m d) (.bool b') (.slice B' m' d')
    rw [← hW'] at hz2
    have hbf : Below w.heap.size w W' := by rw [hW']; exact put4_below (Ext.below (E5.out.trans x6)) (by omega) (.bool b) (.slice B m d) (.bool b') (.slice B' m' d')
    rw [← hW'] at f0 f1 f2 f3
    unfold put4 at hW'
    have HG := Lib.hid (And.intro hz1 (And.intro hz2 (And.intro hbf (And.intro f0 (And.intro f1 (And.intro f2 f3))))))
    have HW' := Lib.hid hW'
    clear hz1 hz2 hbf f0 f1 f2 f3 hW'
    clear x6 r4 y1 y2 RO j0 j1 i0 i1
    go_wp2
    rw [← HW'.out]
    obtain ⟨hz1, hz2, hbf, f0, f1, f2, f3⟩ := HG.out
    exact bodyPost_ret (v := .tuple #[.agg #[.bool b, .slice B m d, .bool b', .slice B' m' d'], .int .i64 0]) (by simp [results, Tryz.results50, go_sem, f0, f1, f2, f3]) rfl ⟨_, _, _, _, _, _, _, _, rfl, hz1, hz2, hbf⟩
set_option maxHeartbeats 800000 in
set_option maxRecDepth 100000 in
theorem combineRats22_big (p q p2 q2 : Bool) (A A' A2 A2' : Option Addr) (n c n' c' n2 c2 n2' c2' : Nat) (l l' k k' : List Nat) (w : World) (hx : Wd w (.slice A n c) l) (hy : Wd w (.slice A' n' c') l') (hx2 : Wd w (.slice A2 n2 c2) k) (hy2 : Wd w (.slice A2' n2' c2') k') (vn vd : Int) (hp : vldR p q l l' = true) (hq : vldR p2 q2 k k' = true)
    (hop : ∀ W u u', FV W u (numOf p l) (numOf q l') → FV W u' (numOf p2 k) (numOf q2 k') → Calls Tryz.prog 51 #[u, u'] W (RetF W vn vd)) (hbig : ¬ ((dig vn.natAbs).length ≤ 256 ∧ (dig vd.natAbs).length ≤ 256)) :
    Calls Tryz.prog 50 #[.agg #[.bool p, .slice A n c, .bool q, .slice A' n' c'], .agg #[.bool p2, .slice A2 n2 c2, .bool q2, .slice A2' n2' c2'], .func (.func 51) #[] #[]] w (RetR w 0 0 5) := by
  obtain ⟨W0, hW0, h1, h2, r4, e0, s0⟩ := three_fb p q p2 q2 A A' A2 A2' n c n' c' n2 c2 n2' c2' l l' k k' w hx hy hx2 hy2
  obtain ⟨W1, hW1⟩ : ∃ W1, W1 = W0.alloc (Obj.cells #[.bool p, .slice A n c, .bool q, .slice A' n' c', .bool p2, .slice A2 n2 c2, .bool q2, .slice A2' n2' c2'] 26) := ⟨_, rfl⟩
  have e1 : Ext W0 W1 := by rw [hW1]; exact (Ext.refl _).alc _
  have hs : W1.heap[w.heap.size + 1 + 1 + 1]? = some (.cells #[.bool p, .slice A n c, .bool q, .slice A' n' c', .bool p2, .slice A2 n2 c2, .bool q2, .slice A2' n2' c2'] 26 (0, 0)) := by
    have := heap_alloc_new W0 (Obj.cells #[.bool p, .slice A n c, .bool q, .slice A' n' c', .bool p2, .slice A2 n2 c2, .bool q2, .slice A2' n2' c2'] 26)
    rw [s0] at this
    rw [hW1]; exact this
  have AV := Lib.hid (allValidRats_two p q p2 q2 A A' A2 A2' n c n' c' n2 c2 n2' c2' l l' k k' w W1 _ (h1.ext e1).w1 (h1.ext e1).w2 (h2.ext e1).w1 (h2.ext e1).w2 hs)
  have HWA := Lib.hid hW1
  have H1 := Lib.hid (h1.ext e1); have H2 := Lib.hid (h2.ext e1); have R4 := Lib.hid (r4.ext e1); have E1 := Lib.hid (e0.trans e1); have HW0 := Lib.hid hW0
  have z1 : w.heap.size + 1 + 1 + 1 ≤ W1.heap.size := by have := e1.size; omega
  obtain ⟨hv1, hv2, hv3, hv4⟩ := vldR_parts hp
  obtain ⟨hu1, hu2, hu3, hu4⟩ := vldR_parts hq
  have f1 := Lib.hid ((h1.ext e1).hf hv1 hv2)
  have f2 := Lib.hid ((h2.ext e1).hf hu1 hu2)
  have hyes : (vldR p q l l' && vldR p2 q2 k k') = true := by rw [hp, hq]; rfl
  clear hv1 hv2 hv3 hv4 hu1 hu2 hu3 hu4
  obtain ⟨vx, hvx⟩ : ∃ z, z = numOf p l := ⟨_, rfl⟩
  obtain ⟨vy, hvy⟩ : ∃ z, z = numOf q l' := ⟨_, rfl⟩
  obtain ⟨ux, hux⟩ : ∃ z, z = numOf p2 k := ⟨_, rfl⟩
  obtain ⟨uy, huy⟩ : ∃ z, z = numOf q2 k' := ⟨_, rfl⟩
  rw [← hvx, ← hvy] at f1
  rw [← hux, ← huy] at f2
  rw [← hvx, ← hvy, ← hux, ← huy] at hop
  have HOP := Lib.hid hop
  clear hvx hvy hux huy hop
  have HBIG := Lib.hid hbig; clear hbig
  clear h1 h2 r4 e0 e1 s0 hs hW0 hW1 hx hy hx2 hy2
  go_enter Tryz.func50, Tryz.ntmps50
  go_wp2_with fail
  rw [← HW0.out, ← HWA.out]
  refine AV.out.mono ?_
  rintro e W2 ⟨rfl, x2⟩
  replace x2 : Ext W1 W2 := x2
  clear AV HW0 HWA
  rw [hyes]
  have F1 := Lib.hid (f1.out.ext x2); have F2 := Lib.hid (f2.out.ext x2); have R4 := Lib.hid (R4.out.ext x2); have E2 := Lib.hid (E1.out.trans x2)
  have lr := R4.out.lt
  clear x2 hyes H1 H2 f1 f2 E1 hp hq z1
  go_upto_region 3 with fail
  refine wp_region_noPanic ?_
  refine wp_pool 7 [some 15, some 16, some 17, some 18, some 19, some 20, some 8] [] [6] [(fun (v : Value) (_ : World) => v = .func (.func 51) #[] #[]), (RF2 (vx) (vy)), (RF2 (vx) (vy)), (RF2 (ux) (uy)), (RF2 (ux) (uy)), (RF2 (vn) (vd)), (fun (v : Value) (X : World) => ∃ g, v = .pointer (some ⟨g, 0, none⟩) ∧ W2.heap.size ≤ g ∧ FB X g)] [noF, noF, noF, noF, noF, noF, ptrF] (by kernel_rfl) (by kernel_rfl) (by kernel_rfl) (by kernel_rfl) (by kernel_rfl) (by kernel_rfl) (by kernel_rfl) (by kernel_rfl) (fun _ _ _ _ h => h) ⟨Stays.pure _, (fun _ _ _ e ⟨b, A, n, c, b', A', n', c', h1, h2, h3⟩ => ⟨b, A, n, c, b', A', n', c', h1, h2.ext e, h3.ext e⟩), (fun _ _ _ e ⟨b, A, n, c, b', A', n', c', h1, h2, h3⟩ => ⟨b, A, n, c, b', A', n', c', h1, h2.ext e, h3.ext e⟩), (fun _ _ _ e ⟨b, A, n, c, b', A', n', c', h1, h2, h3⟩ => ⟨b, A, n, c, b', A', n', c', h1, h2.ext e, h3.ext e⟩), (fun _ _ _ e ⟨b, A, n, c, b', A', n', c', h1, h2, h3⟩ => ⟨b, A, n, c, b', A', n', c', h1, h2.ext e, h3.ext e⟩), (fun _ _ _ e ⟨b, A, n, c, b', A', n', c', h1, h2, h3⟩ => ⟨b, A, n, c, b', A', n', c', h1, h2.ext e, h3.ext e⟩), (fun _ _ _ e ⟨g, h1, h2, h3⟩ => ⟨g, h1, h2, h3.ext e⟩), True.intro⟩ ?steps ?done
  case steps =>
    simp only [List.take_succ_cons, List.take_zero]
    refine Steps.cons (fun (v : Value) (_ : World) => v = .func (.func 51) #[] #[]) [] rfl (by kernel_rfl) rfl (by kernel_rfl) (fun y X ex0 hf K hK => ?_) ?_
    · clear hf
      have ex := (Ext.drw (Ext.refl _)).trans ex0
      refine Box.mk ?_
      simp only [fill, Act.put, Nat.reduceAdd, List.setIfInBounds_toArray, List.set_cons_zero, List.set_cons_succ] at hK ⊢
      go_simp
      exact hK.out _ _ rfl (Ext.refl _) (fun b hb => by cases hb)
    refine Steps.cons (RF2 (vx) (vy)) [] rfl (by kernel_rfl) rfl (by kernel_rfl) (fun y X ex0 hf K hK => ?_) ?_
    · clear hf
      have ex := (Ext.drw (Ext.refl _)).trans ex0
      refine Box.mk ?_
      simp only [fill, Act.put, Nat.reduceAdd, List.setIfInBounds_toArray, List.set_cons_zero, List.set_cons_succ] at hK ⊢
      obtain ⟨⟨bl, Al, nl, cl, k0, k1, kz⟩, ⟨bm, Am, nm, cm, k2, k3, ky⟩⟩ := (F1.out.ext ex)
      go_simp
      exact hK.out _ _ ⟨_, _, _, _, _, _, _, _, rfl, kz, ky⟩ (Ext.refl _) (fun b hb => by cases hb)
    refine Steps.cons (RF2 (vx) (vy)) [1] rfl (by kernel_rfl) rfl (by kernel_rfl) (fun y X ex0 hf K hK => ?_) ?_
    · obtain ⟨b1, A1, n1, c1, bb1, AA1, nn1, cc1, h1, z1, y1⟩ : ((RF2 (vx) (vy))) (y 1) X := hf.1
      clear hf
      have ex := (Ext.drw (Ext.refl _)).trans ex0
      refine Box.mk ?_
      simp only [fill, Act.put, Nat.reduceAdd, List.setIfInBounds_toArray, List.set_cons_zero, List.set_cons_succ, h1] at hK ⊢
      go_simp
      refine (fractionOf_any _ _ _ _ (fv_mk z1 y1)).mono ?_
      rintro e V ⟨b9, A9, n9, c9, b8, A8, n8, c8, rfl, hz, hy, hb⟩
      try go_wp2_with fail
      exact hK.out _ _ ⟨_, _, _, _, _, _, _, _, rfl, hz, hy⟩ hb (fun b hb => by cases hb)
    refine Steps.cons (RF2 (ux) (uy)) [] rfl (by kernel_rfl) rfl (by kernel_rfl) (fun y X ex0 hf K hK => ?_) ?_
    · clear hf
      have ex := (Ext.drw (Ext.refl _)).trans ex0
      refine Box.mk ?_
      simp only [fill, Act.put, Nat.reduceAdd, List.setIfInBounds_toArray, List.set_cons_zero, List.set_cons_succ] at hK ⊢
      obtain ⟨⟨bl, Al, nl, cl, k0, k1, kz⟩, ⟨bm, Am, nm, cm, k2, k3, ky⟩⟩ := (F2.out.ext ex)
      go_simp
      exact hK.out _ _ ⟨_, _, _, _, _, _, _, _, rfl, kz, ky⟩ (Ext.refl _) (fun b hb => by cases hb)
    refine Steps.cons (RF2 (ux) (uy)) [3, 2] rfl (by kernel_rfl) rfl (by kernel_rfl) (fun y X ex0 hf K hK => ?_) ?_
    · obtain ⟨b3, A3, n3, c3, bb3, AA3, nn3, cc3, h3, z3, y3⟩ : ((RF2 (ux) (uy))) (y 3) X := hf.1
      obtain ⟨b2, A2, n2, c2, bb2, AA2, nn2, cc2, h2, z2, y2⟩ : ((RF2 (vx) (vy))) (y 2) X := hf.2.1
      clear hf
      have ex := (Ext.drw (Ext.refl _)).trans ex0
      refine Box.mk ?_
      simp only [fill, Act.put, Nat.reduceAdd, List.setIfInBounds_toArray, List.set_cons_zero, List.set_cons_succ, h3, h2] at hK ⊢
      go_simp
      refine (fractionOf_any _ _ _ _ (fv_mk z3 y3)).mono ?_
      rintro e V ⟨b9, A9, n9, c9, b8, A8, n8, c8, rfl, hz, hy, hb⟩
      try go_wp2_with fail
      exact hK.out _ _ ⟨_, _, _, _, _, _, _, _, rfl, hz, hy⟩ hb (fun b hb => by cases hb)
    refine Steps.cons (RF2 (vn) (vd)) [0, 2, 4] rfl (by kernel_rfl) rfl (by kernel_rfl) (fun y X ex0 hf K hK => ?_) ?_
    · have h0 : ((fun (v : Value) (_ : World) => v = .func (.func 51) #[] #[])) (y 0) X := hf.1
      obtain ⟨b2, A2, n2, c2, bb2, AA2, nn2, cc2, h2, z2, y2⟩ : ((RF2 (vx) (vy))) (y 2) X := hf.2.1
      obtain ⟨b4, A4, n4, c4, bb4, AA4, nn4, cc4, h4, z4, y4⟩ : ((RF2 (ux) (uy))) (y 4) X := hf.2.2.1
      clear hf
      have ex := (Ext.drw (Ext.refl _)).trans ex0
      refine Box.mk ?_
      simp only [fill, Act.put, Nat.reduceAdd, List.setIfInBounds_toArray, List.set_cons_zero, List.set_cons_succ, h0, h2, h4] at hK ⊢
      go_simp
      refine (HOP.out _ _ _ (fv_mk z2 y2) (fv_mk z4 y4)).mono ?_
      rintro e V ⟨b9, A9, n9, c9, b8, A8, n8, c8, rfl, hz, hy, hb⟩
      try go_wp2_with fail
      exact hK.out _ _ ⟨_, _, _, _, _, _, _, _, rfl, hz, hy⟩ hb (fun b hb => by cases hb)
    refine Steps.cons (fun (v : Value) (X : World) => ∃ g, v = .pointer (some ⟨g, 0, none⟩) ∧ W2.heap.size ≤ g ∧ FB X g) [] rfl (by kernel_rfl) rfl (by kernel_rfl) (fun y X ex0 hf K hK => ?_) ?_
    · clear hf
      have ex := (Ext.drw (Ext.refl _)).trans ex0
      refine Box.mk ?_
      simp only [fill, Act.put, Nat.reduceAdd, List.setIfInBounds_toArray, List.set_cons_zero, List.set_cons_succ] at hK ⊢
      go_simp
      exact hK.out _ _ ⟨X.heap.size, rfl, ex.size, FB.new X false none 0 0 false none 0 0 72⟩ (Ext.alc (Ext.refl X) (.cells #[.bool false, .slice none 0 0, .bool false, .slice none 0 0] 72)) (New.ptr (Nat.le_refl _) (by simp))
    exact Steps.nil
  case done =>
    intro y X ex hf hlt hsep
    have h0 : ((fun (v : Value) (_ : World) => v = .func (.func 51) #[] #[])) (y 0) X := hf.1
    obtain ⟨b1, A1, n1, c1, bb1, AA1, nn1, cc1, h1, z1, y1⟩ : ((RF2 (vx) (vy))) (y 1) X := hf.2.1
    obtain ⟨b2, A2, n2, c2, bb2, AA2, nn2, cc2, h2, z2, y2⟩ : ((RF2 (vx) (vy))) (y 2) X := hf.2.2.1
    obtain ⟨b3, A3, n3, c3, bb3, AA3, nn3, cc3, h3, z3, y3⟩ : ((RF2 (ux) (uy))) (y 3) X := hf.2.2.2.1
    obtain ⟨b4, A4, n4, c4, bb4, AA4, nn4, cc4, h4, z4, y4⟩ : ((RF2 (ux) (uy))) (y 4) X := hf.2.2.2.2.1
    obtain ⟨b5, A5, n5, c5, bb5, AA5, nn5, cc5, h5, z5, y5⟩ : ((RF2 (vn) (vd))) (y 5) X := hf.2.2.2.2.2.1
    obtain ⟨g6, h6, z6, q6⟩ : ((fun (v : Value) (X : World) => ∃ g, v = .pointer (some ⟨g, 0, none⟩) ∧ W2.heap.size ≤ g ∧ FB X g)) (y 6) X := hf.2.2.2.2.2.2.1
    clear hf
    clear hsep hlt
    refine Box.mk ?_
    simp only [List.drop_succ_cons, List.drop_zero, fill, Act.put, Nat.reduceAdd, List.setIfInBounds_toArray, List.set_cons_zero, List.set_cons_succ, h0, h1, h2, h3, h4, h5, h6]
    clear h0 h1 h2 h3 h4 h5 h6
    obtain ⟨_, _, _, _, k40, k41, k42, k43, k44, k45, k46, k47⟩ := put4_walk q6 (.bool b5) (.slice A5 n5 c5) (.bool bb5)
    obtain ⟨W3, hW3⟩ : ∃ W3, W3 = put4 X g6 (.bool b5) (.slice A5 n5 c5) (.bool bb5) (.slice AA5 nn5 cc5) := ⟨_, rfl⟩
    have i8 : HF W3 g6 vn vd := by rw [hW3]; exact HF.put q6 z5 y5
    have r4 : FB W3 (w.heap.size + 1 + 1) := by rw [hW3]; exact (R4.out.ext ex).put4 (by have := z6; omega)
    have e3 : Ext w W3 := by rw [hW3]; exact put4_below (Ext.below (E2.out.trans ex)) (by have := E2.out.size; omega) _ _ _ _
    unfold put4 at hW3
    have I8 := Lib.hid i8; have R4 := Lib.hid r4; have E3 := Lib.hid e3; have HW3 := Lib.hid hW3
    clear i8 r4 e3 hW3 ex q6 z1 y1 z2 y2 z3 y3 z4 y4 z5 y5 F1 F2 E2
    go_wp2_with fail
    refine NoPanic.normal ?_
    go_upto_region 4 with fail
    rw [← HW3.out]
    clear k40 k41 k42 k43 k44 k45 k46 k47 HW3
    have l8 := I8.out.lt
    obtain ⟨b9, A9, n9, c9, j0, j1, jz⟩ := I8.out.1
    have FT := Lib.hid (fits_any vn _ _ jz)
    clear jz
    obtain ⟨fn1, hfn1⟩ : ∃ b, b = decide ((dig vn.natAbs).length ≤ 256) := ⟨_, rfl⟩
    rw [← hfn1] at FT
    have HF1 := Lib.hid hfn1; clear hfn1
    go_wp2_with fail
    refine FT.out.mono ?_
    rintro e W4 ⟨rfl, x4⟩
    replace x4 : Ext W3 W4 := x4
    have I8b := Lib.hid (I8.out.ext x4); have R4 := Lib.hid (R4.out.ext x4); have E4 := Lib.hid (E3.out.trans x4)
    clear x4 j0 j1 FT
    by_cases hb1 : fn1 = true
    · subst hb1
      obtain ⟨b9, A9, n9, c9, j0, j1, jz⟩ := I8b.out.2
      have FT := Lib.hid (fits_any vd _ _ jz)
      clear jz
      obtain ⟨fn2, hfn2⟩ : ∃ b, b = decide ((dig vd.natAbs).length ≤ 256) := ⟨_, rfl⟩
      rw [← hfn2] at FT
      have HF2 := Lib.hid hfn2; clear hfn2
      go_wp2_with fail
      refine FT.out.mono ?_
      rintro e W5 ⟨rfl, x5⟩
      replace x5 : Ext W4 W5 := x5
      have I8c := Lib.hid (I8b.out.ext x5); have R4 := Lib.hid (R4.out.ext x5); have E5 := Lib.hid (E4.out.trans x5)
      clear x5 j0 j1 FT
      have hb2 : fn2 = false := by
        rw [HF2.out]; refine decide_eq_false fun h => HBIG.out ⟨?_, h⟩
        exact of_decide_eq_true HF1.out.symm
      subst hb2
      have r4 := R4.out
      obtain ⟨_, _, _, _, k40, k41, k42, k43, k44, k45, k46, k47⟩ := put4_walk r4 (.bool false) (.slice none 0 0) (.bool false)
      obtain ⟨W', hW'⟩ : ∃ W', W' = put4 W5 (w.heap.size + 1 + 1) (.bool false) (.slice none 0 0) (.bool false) (.slice none 0 0) := ⟨_, rfl⟩
      obtain ⟨f0, f1, f2, f3⟩ := put4_cells r4 (.bool false) (.slice none 0 0) (.bool false) (.slice none 0 0)
      have hz1 := ((ZV.zero W5)).put4 r4 (.bool false) (.slice none 0 0) (.bool false) (.slice none 0 0)
      rw [← hW'] at hz1
      have hz2 := ((ZV.zero W5)).put4 r4 (.bool false) (.slice none 0 0) (.bool false) (.slice none 0 0)
      rw [← hW'] at hz2
      have hbf : Below w.heap.size w W' := by rw [hW']; exact put4_below (Ext.below E5.out) (by omega) (.bool false) (.slice none 0 0) (.bool false) (.slice none 0 0)
      rw [← hW'] at f0 f1 f2 f3
      unfold put4 at hW'
      have HG := Lib.hid (And.intro hz1 (And.intro hz2 (And.intro hbf (And.intro f0 (And.intro f1 (And.intro f2 f3))))))
      have HW' := Lib.hid hW'
      clear hz1 hz2 hbf f0 f1 f2 f3 hW'
      clear r4
      go_wp2
      rw [← HW'.out]
      obtain ⟨hz1, hz2, hbf, f0, f1, f2, f3⟩ := HG.out
      exact bodyPost_ret (v := .tuple #[.agg #[.bool false, .slice none 0 0, .bool false, .slice none 0 0], .int .i64 5]) (by simp [results, Tryz.results50, go_sem, f0, f1, f2, f3]) rfl ⟨_, _, _, _, _, _, _, _, rfl, hz1, hz2, hbf⟩
    · have hb1 : fn1 = false := by simpa using hb1
      subst hb1
      have r4 := R4.out
      obtain ⟨_, _, _, _, k40, k41, k42, k43, k44, k45, k46, k47⟩ := put4_walk r4 (.bool false) (.slice none 0 0) (.bool false)
      obtain ⟨W', hW'⟩ : ∃ W', W' = put4 W4 (w.heap.size + 1 + 1) (.bool false) (.slice none 0 0) (.bool false) (.slice none 0 0) := ⟨_, rfl⟩
      obtain ⟨f0, f1, f2, f3⟩ := put4_cells r4 (.bool false) (.slice none 0 0) (.bool false) (.slice none 0 0)
      have hz1 := ((ZV.zero W4)).put4 r4 (.bool false) (.slice none 0 0) (.bool false) (.slice none 0 0)
      rw [← hW'] at hz1
      have hz2 := ((ZV.zero W4)).put4 r4 (.bool false) (.slice none 0 0) (.bool false) (.slice none 0 0)
      rw [← hW'] at hz2
      have hbf : Below w.heap.size w W' := by rw [hW']; exact put4_below (Ext.below E4.out) (by omega) (.bool false) (.slice none 0 0) (.bool false) (.slice none 0 0)
      rw [← hW'] at f0 f1 f2 f3
      unfold put4 at hW'
      have HG := Lib.hid (And.intro hz1 (And.intro hz2 (And.intro hbf (And.intro f0 (And.intro f1 (And.intro f2 f3))))))
      have HW' := Lib.hid hW'
      clear hz1 hz2 hbf f0 f1 f2 f3 hW'
      clear r4
      go_wp2
      rw [← HW'.out]
      obtain ⟨hz1, hz2, hbf, f0, f1, f2, f3⟩ := HG.out
      exact bodyPost_ret (v := .tuple #[.agg #[.bool false, .slice none 0 0, .bool false, .slice none 0 0], .int .i64 5]) (by simp [results, Tryz.results50, go_sem, f0, f1, f2, f3]) rfl ⟨_, _, _, _, _, _, _, _, rfl, hz1, hz2, hbf⟩
end Go.Proofs.YtmlopkkbgpfdnabGreat
