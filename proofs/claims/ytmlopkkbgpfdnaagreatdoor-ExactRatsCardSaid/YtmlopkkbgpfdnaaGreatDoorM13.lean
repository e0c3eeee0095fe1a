/- Walks: isOne, lowest, ValidRat, allValidRats. · Walks: combineRats. · Walks: combineRats with an operation. · Walks: combineRats with an operation. · Walks: combineRats with an operation. · Walks: combineRats with an operation. · Walks: RatAdd, RatSub, RatMul, RatDiv. · Fractions as mathematics: the only form. · Walks: the reference's naturals: trim, order, natural. · Walks: the reference's naturals: natural, plus. · Walks: the reference's naturals: less. · Walks: the reference's trim and less, with the address of what they return. -/
import Derived.Test.YtmlopkkbgpfdnaaGreatDoorM12
import Derived.Test.YtmlopkkbgpfdnaaGreatDoorM2
import Derived.Test.YtmlopkkbgpfdnaaGreatDoorM1
namespace Go.Proofs.YtmlopkkbgpfdnaaGreatDoor
open Go.RowKit

set_option maxRecDepth 100000 in
theorem isOne_any (z : Int) (a : Value) (w : World) (ha : ZV w a z) : Calls Tryz.prog 36 #[a] w fun e w' => e = .returned (.bool (decide (z = 1))) ∧ Ext w w' := by
  obtain ⟨A, n, c, rfl, hv, hn, hl⟩ := ha.open_
  have hv := hv
  obtain ⟨bx, hbx⟩ : ∃ b, b = decide (z < 0) := ⟨_, rfl⟩
  rw [← hbx] at ha ⊢
  have hw := ha.words.2
  obtain ⟨bl, hbl⟩ : ∃ b, b = decide (z = 1) := ⟨_, rfl⟩
  rw [← hbl]
  have e1 : Ext w (w.alloc (.cells #[.bool bx, .slice A n c] 44)) := (Ext.refl w).alc _
  have E1 := Lib.hid e1
  by_cases hz : z < 0
  · have hb : bl = false := by rw [hbl]; exact decide_eq_false (by omega)
    have ht : bx = true := by rw [hbx]; exact decide_eq_true hz
    subst hb ht
    clear hbl hbx ha hw hv hn hl hz e1
    go_enter Tryz.func36, Tryz.ntmps36
    go_wp2
    go_ret
    exact ⟨rfl, E1.out⟩
  · have hf : bx = false := by rw [hbx]; exact decide_eq_false hz
    subst hf
    by_cases h1 : n = 1
    · have hlen : (dig z.natAbs).length = 1 := by omega
      obtain ⟨b, off, rfl, hb, hc⟩ := Wd.cell (k := 0) hw (by omega)
      have h0 := hc 0 (by omega)
      rw [Nat.add_zero] at h0
      have hlt : z.natAbs < 4294967296 := by have := lt_of_dig_len (n := z.natAbs) (k := 1) (by omega); simpa using this
      have hdg : dg z.natAbs 0 = z.natAbs := by unfold dg; simp; omega
      rw [hdg] at h0
      have k0 := keepAt e1 hb h0
      subst h1
      have hbb : bl = ((z.natAbs : Int) == 1) := by
        rw [hbl, Bool.eq_iff_iff]; simp; omega
      obtain ⟨m, hm⟩ : ∃ m, m = z.natAbs := ⟨_, rfl⟩
      rw [← hm] at k0 hbb
      have HB := Lib.hid hbb
      clear hbl hbx ha hw hv hn hl hz e1 hc h0 hlen hlt hdg hm hbb
      go_enter Tryz.func36, Tryz.ntmps36
      go_wp2
      go_ret
      exact ⟨by rw [HB.out]; rfl, E1.out⟩
    · have hb : bl = false := by
        rw [hbl]; refine decide_eq_false fun e => h1 ?_
        rw [hn, e]; show (dig 1).length = 1
        rw [dig_pos (by omega)]; simp [dig_zero]
      have hf : ((n : Int) == 1) = false := by simp; omega
      subst hb
      clear hbl hbx ha hw hv hn hl hz e1
      go_enter Tryz.func36, Tryz.ntmps36
      go_wp2
      go_ret
      exact ⟨rfl, E1.out⟩

set_option maxRecDepth 100000 in
theorem lowest_any (vx vy : Int) (v : Value) (w : World) (hf : FV w v vx vy) (lf : Lf vx vy 300) : Calls Tryz.prog 29 #[v] w fun e w' => e = .returned (.bool (decide (0 < vy ∧ Int.gcd vx vy = 1))) ∧ Ext w w' := by
  obtain ⟨p1, P1, m1, d1, p2, P2, m2, d2, rfl, hz1, hz2⟩ := hf
  obtain ⟨W1, hW1⟩ : ∃ W1, W1 = w.alloc (.cells #[.bool p1, .slice P1 m1 d1, .bool p2, .slice P2 m2 d2] 49) := ⟨_, rfl⟩
  have e1 : Ext w W1 := by rw [hW1]; exact (Ext.refl w).alc _
  have i2 : HF W1 w.heap.size vx vy := by rw [hW1]; exact HF.new w p1 P1 m1 d1 p2 P2 m2 d2 49 hz1 hz2
  obtain ⟨bl, hbl⟩ : ∃ b, b = decide (0 < vy ∧ Int.gcd vx vy = 1) := ⟨_, rfl⟩
  rw [← hbl]
  have I2 := Lib.hid i2; have E1 := Lib.hid e1; have HW1 := Lib.hid hW1; have LF := Lib.hid lf; have HB := Lib.hid hbl
  have l2 := i2.lt
  clear i2 e1 hW1 hz1 hz2 lf hbl
  go_enter Tryz.func29, Tryz.ntmps29
  go_upto_region 1 with fail
  rw [← HW1.out]
  obtain ⟨b2, A2, n2, c2, j0, j1, jz⟩ := I2.out.2
  have JZ := Lib.hid jz; clear jz HW1
  go_wp2_with fail
  refine (signZ_any vy _ _ JZ.out).mono ?_
  rintro e w2 ⟨rfl, x2⟩
  replace x2 : Ext W1 w2 := x2
  obtain ⟨sg, hsg⟩ : ∃ sg, sg = vy.sign := ⟨_, rfl⟩
  rw [← hsg]
  obtain ⟨b1, A1, n1, c1, k0, k1, kz⟩ := I2.out.1.ext l2 x2
  obtain ⟨b3, A3, n3, c3, i0, i1, iz⟩ := I2.out.2.ext l2 x2
  have KZ := Lib.hid kz; have IZ := Lib.hid iz
  have X2 := Lib.hid (E1.out.trans x2)
  clear kz iz x2 j0 j1 JZ
  by_cases hp : 0 < vy
  · have hs : decide (0 < sg) = true := by rw [hsg, Int.sign_eq_one_of_pos hp]; decide
    clear hsg
    have GC := Lib.hid (gcdZ_any vx vy _ _ _ 300 KZ.out IZ.out LF.out.1 LF.out.2 (by omega) (by omega))
    obtain ⟨vg, hvg⟩ : ∃ vg : Int, vg = ((Int.gcd vx vy : Nat) : Int) := ⟨_, rfl⟩
    rw [← hvg] at GC
    have HG := Lib.hid hvg
    clear hvg
    go_wp2_with fail
    refine (asAgg GC.out).mono ?_
    rintro e w3 ⟨b4, A4, n4, c4, rfl, hz, x3⟩
    have Z4 := Lib.hid (isOne_any vg _ _ hz); have X3 := Lib.hid (X2.out.trans x3)
    clear hz x3 GC k0 k1 i0 i1
    go_wp2_with fail
    refine Z4.out.mono ?_
    rintro e w4 ⟨rfl, x4⟩
    obtain ⟨bo, hbo⟩ : ∃ b, b = decide (vg = 1) := ⟨_, rfl⟩
    rw [← hbo]
    have hfin : bl = bo := by
      rw [HB.out, hbo, HG.out, Bool.eq_iff_iff]; simp; omega
    have HF := Lib.hid hfin; have X4 := Lib.hid (X3.out.trans x4)
    clear hbo hfin x4 Z4
    go_wp2
    go_ret
    exact ⟨by rw [HF.out]; rfl, X4.out⟩
  · have hs : decide (0 < sg) = false := by
      rw [hsg]
      rcases (by omega : vy < 0 ∨ vy = 0) with h | h
      · rw [Int.sign_eq_neg_one_of_neg h]; decide
      · rw [h]; decide
    have hfin : bl = false := by rw [HB.out]; exact decide_eq_false (fun h => hp h.1)
    subst hfin
    clear hsg k0 k1 i0 i1
    go_wp2
    go_ret
    exact ⟨rfl, X2.out⟩

/-- what ValidRat reports -/
def vldR (p q : Bool) (l l' : List Nat) : Bool := (vld p l && vld q l') && decide (0 < numOf q l' ∧ Int.gcd (numOf p l) (numOf q l') = 1)
theorem vldR_parts {p q : Bool} {l l' : List Nat} (h : vldR p q l l' = true) : vld p l = true ∧ vld q l' = true ∧ 0 < numOf q l' ∧ Int.gcd (numOf p l) (numOf q l') = 1 := by
  unfold vldR at h
  simp only [Bool.and_eq_true, decide_eq_true_eq] at h
  exact ⟨h.1.1, h.1.2, h.2.1, h.2.2⟩

set_option maxRecDepth 100000 in
theorem validRat_any (p q : Bool) (A A' : Option Addr) (n c n' c' : Nat) (l l' : List Nat) (w : World) (hx : Wd w (.slice A n c) l) (hy : Wd w (.slice A' n' c') l') :
    Calls Tryz.prog 8 #[.agg #[.bool p, .slice A n c, .bool q, .slice A' n' c']] w fun e w' => e = .returned (.bool (vldR p q l l')) ∧ Ext w w' := by
  obtain ⟨W1, hW1⟩ : ∃ W1, W1 = (w.alloc (.cells #[.bool p, .slice A n c, .bool q, .slice A' n' c'] 26)).alloc (.cells #[.bool p, .slice A n c, .bool q, .slice A' n' c'] 24) := ⟨_, rfl⟩
  have e0 : Ext w (w.alloc (.cells #[.bool p, .slice A n c, .bool q, .slice A' n' c'] 26)) := (Ext.refl w).alc _
  have e1 : Ext w W1 := by rw [hW1]; exact e0.alc _
  have h5 : W1.heap[w.heap.size + 1]? = some (.cells #[.bool p, .slice A n c, .bool q, .slice A' n' c'] 24 (0, 0)) := by
    have := heap_alloc_new (w.alloc (.cells #[.bool p, .slice A n c, .bool q, .slice A' n' c'] 26)) (.cells #[.bool p, .slice A n c, .bool q, .slice A' n' c'] 24)
    rw [World.size_alloc] at this
    rw [hW1]; exact this
  have h4 : W1.heap[w.heap.size]? = some (.cells #[.bool p, .slice A n c, .bool q, .slice A' n' c'] 26 (0, 0)) := by
    have := heap_alloc_new w (.cells #[.bool p, .slice A n c, .bool q, .slice A' n' c'] 26)
    rw [hW1]
    have hh : w.heap.size < (w.alloc (.cells #[.bool p, .slice A n c, .bool q, .slice A' n' c'] 26)).heap.size := by simp
    exact (Below.block ((Ext.refl (w.alloc (.cells #[.bool p, .slice A n c, .bool q, .slice A' n' c'] 26))).alc (.cells #[.bool p, .slice A n c, .bool q, .slice A' n' c'] 24)) _ hh).trans this
  have AV := Lib.hid (allValid_two p q A A' n c n' c' l l' w W1 _ h5 (hx.below e1) (hy.below e1))
  have l1 : w.heap.size < W1.heap.size := (Array.getElem?_eq_some_iff.1 h4).1
  have k0 : W1.cell? ⟨w.heap.size, 0, none⟩ = some (.bool p) := by rw [cell_of_row W1 w.heap.size 0 _ 26 (0, 0) h4]; rfl
  have k1 : W1.cell? ⟨w.heap.size, 1, none⟩ = some (.slice A n c) := by rw [cell_of_row W1 w.heap.size 1 _ 26 (0, 0) h4]; rfl
  have k2 : W1.cell? ⟨w.heap.size, 2, none⟩ = some (.bool q) := by rw [cell_of_row W1 w.heap.size 2 _ 26 (0, 0) h4]; rfl
  have k3 : W1.cell? ⟨w.heap.size, 3, none⟩ = some (.slice A' n' c') := by rw [cell_of_row W1 w.heap.size 3 _ 26 (0, 0) h4]; rfl
  obtain ⟨bl, hbl⟩ : ∃ b, b = vldR p q l l' := ⟨_, rfl⟩
  rw [← hbl]
  have HX := Lib.hid (hx.below e1); have HY := Lib.hid (hy.below e1)
  have HB := Lib.hid hbl; have E1 := Lib.hid e1; have HW1 := Lib.hid hW1
  have HK := Lib.hid (And.intro k0 (And.intro k1 (And.intro k2 k3)))
  clear hbl e0 e1 hW1 h4 h5 hx hy k0 k1 k2 k3
  go_enter Tryz.func8, Tryz.ntmps8
  go_wp2_with fail
  rw [← HW1.out]
  refine AV.out.mono ?_
  rintro e w2 ⟨rfl, x2⟩
  replace x2 : Ext W1 w2 := x2
  by_cases hv : (vld p l && vld q l') = true
  · rw [hv]
    have hv' := hv
    simp only [Bool.and_eq_true] at hv'
    have zx := vld_zv (HX.out.below x2) hv'.1
    have zy := vld_zv (HY.out.below x2) hv'.2
    have lx : (dig (numOf p l).natAbs).length ≤ 300 := by rw [vld_dig HX.out.ok hv'.1]; have := vld_len hv'.1; omega
    have ly : (dig (numOf q l').natAbs).length ≤ 300 := by rw [vld_dig HY.out.ok hv'.2]; have := vld_len hv'.2; omega
    obtain ⟨r, hr⟩ : ∃ r, r = numOf p l := ⟨_, rfl⟩
    obtain ⟨t, ht⟩ : ∃ t, t = numOf q l' := ⟨_, rfl⟩
    have hb : bl = decide (0 < t ∧ Int.gcd r t = 1) := by rw [HB.out]; unfold vldR; rw [hv, hr, ht]; rfl
    rw [← hr] at zx lx
    rw [← ht] at zy ly
    have k0 := keepAt x2 l1 HK.out.1; have k1 := keepAt x2 l1 HK.out.2.1; have k2 := keepAt x2 l1 HK.out.2.2.1; have k3 := keepAt x2 l1 HK.out.2.2.2
    have FO := Lib.hid (fractionOf_any r t _ _ (fv_mk zx zy)); have LL := Lib.hid (And.intro lx ly); have HBB := Lib.hid hb; have X2 := Lib.hid (E1.out.trans x2)
    clear hv hv' zx zy lx ly hr ht hb x2 AV HX HY HB HK HW1
    go_wp2_with fail
    refine FO.out.mono ?_
    rintro e w3 ⟨b, B, m, d, b', B', m', d', rfl, y1, y2, x3⟩
    have LO := Lib.hid (lowest_any r t _ _ (fv_mk y1 y2) LL.out); have X3 := Lib.hid (X2.out.trans x3)
    clear y1 y2 x3 FO k0 k1 k2 k3
    go_wp2_with fail
    refine LO.out.mono ?_
    rintro e w4 ⟨rfl, x4⟩
    rw [← HBB.out]
    have X4 := Lib.hid (X3.out.trans x4)
    clear x4 LO
    go_wp2
    go_ret
    exact ⟨rfl, X4.out⟩
  · have hf : (vld p l && vld q l') = false := by simpa using hv
    rw [hf]
    have hb : bl = false := by rw [HB.out]; unfold vldR; rw [hf]; rfl
    subst hb
    have X2 := Lib.hid (E1.out.trans x2)
    clear hf hv x2 AV HX HY HB HK HW1
    go_wp2
    go_ret
    exact ⟨rfl, X2.out⟩

set_option maxRecDepth 100000 in
theorem allValidRats_any (m cap g : Nat) (N M : Nat → Bool) (AA BB : Nat → Option Addr) (nn cc mm dd : Nat → Nat) (L K : Nat → List Nat) (w : World) (hm : m ≤ 1000) (hg : g < w.heap.size)
    (h0 : ∀ i, i < m → w.cell? ⟨g, i * 4, none⟩ = some (.bool (N i)) ∧ w.cell? ⟨g, i * 4 + 1, none⟩ = some (.slice (AA i) (nn i) (cc i)) ∧ w.cell? ⟨g, i * 4 + 2, none⟩ = some (.bool (M i)) ∧ w.cell? ⟨g, i * 4 + 3, none⟩ = some (.slice (BB i) (mm i) (dd i)))
    (hL : ∀ i, i < m → Wd w (.slice (AA i) (nn i) (cc i)) (L i) ∧ Wd w (.slice (BB i) (mm i) (dd i)) (K i)) :
    Calls Tryz.prog 35 #[.slice (some ⟨g, 0, none⟩) m cap] w fun e w' => e = .returned (.bool ((List.range m).all fun i => vldR (N i) (M i) (L i) (K i))) ∧ Ext w w' := by
  have H0 := Lib.hid h0; clear h0
  have HL := Lib.hid hL; clear hL
  go_enter Tryz.func35, Tryz.ntmps35
  go_wp2_with fail
  go_loopw [7] (fun i wr => ∃ k : Nat, i = .int .i64 k ∧ k ≤ m ∧ Hid (Ext w wr) ∧ ∀ j, j < k → vldR (N j) (M j) (L j) (K j) = true) (fun i _ => m - (intOf i).toNat)
  case atStart => exact ⟨0, rfl, Nat.zero_le _, Lib.hid (Ext.refl _), fun j hj => by omega⟩
  case round =>
    obtain ⟨k, rfl, hk, hbel, hall⟩ := hrel
    have HA := Lib.hid hall; clear hall
    by_cases hlt : k < m
    · obtain ⟨a0, a1, a2, a3⟩ := H0.out k hlt
      replace a0 := keepAt hbel.out hg a0
      replace a1 := keepAt hbel.out hg a1
      replace a2 := keepAt hbel.out hg a2
      replace a3 := keepAt hbel.out hg a3
      have hl := (HL.out k hlt).1.below hbel.out
      have hl2 := (HL.out k hlt).2.below hbel.out
      obtain ⟨p, hp⟩ : ∃ p, p = N k := ⟨_, rfl⟩
      obtain ⟨A, hA⟩ : ∃ A, A = AA k := ⟨_, rfl⟩
      obtain ⟨n, hn⟩ : ∃ n, n = nn k := ⟨_, rfl⟩
      obtain ⟨c, hc⟩ : ∃ c, c = cc k := ⟨_, rfl⟩
      obtain ⟨q, hq⟩ : ∃ p, p = M k := ⟨_, rfl⟩
      obtain ⟨A', hA'⟩ : ∃ A, A = BB k := ⟨_, rfl⟩
      obtain ⟨n', hn'⟩ : ∃ n, n = mm k := ⟨_, rfl⟩
      obtain ⟨c', hc'⟩ : ∃ c, c = dd k := ⟨_, rfl⟩
      rw [← hA, ← hn, ← hc] at a1 hl
      rw [← hA', ← hn', ← hc'] at a3 hl2
      rw [← hp] at a0
      rw [← hq] at a2
      clear hA hn hc hA' hn' hc'
      have Hp := Lib.hid (And.intro hp hq); clear hp hq
      have Hl := Lib.hid (And.intro hl hl2); clear hl hl2
      go_wp2_with fail
      have e2 : Ext wr (wr.alloc (Obj.cells #[.bool p, .slice A n c, .bool q, .slice A' n' c'] 26)) := (Ext.refl _).alc _
      refine (validRat_any p q A A' n c n' c' (L k) (K k) _ (Hl.out.1.below e2) (Hl.out.2.below e2)).mono ?_
      rintro e w2 ⟨rfl, x3⟩
      have hb4 := Lib.hid ((hbel.out.trans e2).trans x3)
      clear e2 x3
      by_cases hvd : vldR p q (L k) (K k) = true
      · rw [hvd]
        have Hvd := Lib.hid hvd; clear hvd
        go_wp2
        go_roundw
        case rel =>
          refine ⟨k + 1, by go_num, by omega, hb4, fun j hj => ?_⟩
          by_cases e : j = k
          · rw [e, ← Hp.out.1, ← Hp.out.2]; exact Hvd.out
          · exact HA.out j (by omega)
        case measure => simp [intOf]; omega
      · have hvf : vldR p q (L k) (K k) = false := by simpa using hvd
        have hr : ((List.range m).all fun i => vldR (N i) (M i) (L i) (K i)) = false := by
          rw [List.all_eq_false]
          exact ⟨k, List.mem_range.2 hlt, by rw [← Hp.out.1, ← Hp.out.2]; exact hvd⟩
        have Hr := Lib.hid hr; clear hr hvd
        rw [hvf]
        clear hvf
        go_wp2
        go_ret
        exact ⟨by rw [Hr.out]; rfl, hb4.out⟩
    · have hr : ((List.range m).all fun i => vldR (N i) (M i) (L i) (K i)) = true := by
        rw [List.all_eq_true]
        intro i hi
        exact HA.out i (by have := List.mem_range.1 hi; omega)
      have Hr := Lib.hid hr; clear hr
      go_wp2
      go_ret
      exact ⟨by rw [Hr.out]; rfl, hbel.out⟩
end Go.Proofs.YtmlopkkbgpfdnaaGreatDoor
namespace Go.Proofs.YtmlopkkbgpfdnaaGreatDoor
open Go.RowKit

/-- a Rat and an error -/
def RetR (w : World) (x y er : Int) (e : Ending) (w' : World) : Prop := ∃ b A n c b' A' n' c', e = .returned (.tuple #[.agg #[.bool b, .slice A n c, .bool b', .slice A' n' c'], .int .i64 er]) ∧ ZV w' (.agg #[.bool b, .slice A n c]) x ∧ ZV w' (.agg #[.bool b', .slice A' n' c']) y ∧ Below w.heap.size w w'
/-- block g holds a Rat -/
structure RW (W : World) (g : Nat) (p q : Bool) (A : Option Addr) (n c : Nat) (A' : Option Addr) (n' c' : Nat) (l l' : List Nat) : Prop where
  h : FB W g
  k0 : W.cell? ⟨g, 0, none⟩ = some (.bool p)
  k1 : W.cell? ⟨g, 1, none⟩ = some (.slice A n c)
  k2 : W.cell? ⟨g, 2, none⟩ = some (.bool q)
  k3 : W.cell? ⟨g, 3, none⟩ = some (.slice A' n' c')
  w1 : Wd W (.slice A n c) l
  w2 : Wd W (.slice A' n' c') l'
section
variable {W X : World} {g : Nat} {p q : Bool} {A : Option Addr} {n c : Nat} {A' : Option Addr} {n' c' : Nat} {l l' : List Nat}
theorem RW.ext (r : RW W g p q A n c A' n' c' l l') (e : Ext W X) : RW X g p q A n c A' n' c' l l' :=
  ⟨r.h.ext e, keepAt e r.h.lt r.k0, keepAt e r.h.lt r.k1, keepAt e r.h.lt r.k2, keepAt e r.h.lt r.k3, r.w1.below e, r.w2.below e⟩
theorem RW.new (t : TypeId) (h1 : Wd W (.slice A n c) l) (h2 : Wd W (.slice A' n' c') l') : RW (W.alloc (.cells #[.bool p, .slice A n c, .bool q, .slice A' n' c'] t)) W.heap.size p q A n c A' n' c' l l' :=
  ⟨FB.new W p A n c q A' n' c' t, by rw [World.cell?_alloc_new]; rfl, by rw [World.cell?_alloc_new]; rfl, by rw [World.cell?_alloc_new]; rfl, by rw [World.cell?_alloc_new]; rfl, h1.below (below1 _ _), h2.below (below1 _ _)⟩
theorem RW.hf (r : RW W g p q A n c A' n' c' l l') (hp : vld p l = true) (hq : vld q l' = true) : HF W g (numOf p l) (numOf q l') :=
  ⟨⟨p, A, n, c, r.k0, r.k1, vld_zv r.w1 hp⟩, ⟨q, A', n', c', r.k2, r.k3, vld_zv r.w2 hq⟩⟩
end
theorem allValidRats_two (p q p2 q2 : Bool) (A A' A2 A2' : Option Addr) (n c n' c' n2 c2 n2' c2' : Nat) (l l' k k' : List Nat) (w W : World) (g : Nat) (hx : Wd W (.slice A n c) l) (hy : Wd W (.slice A' n' c') l') (hx2 : Wd W (.slice A2 n2 c2) k) (hy2 : Wd W (.slice A2' n2' c2') k') (hW : W.heap[g]? = some (.cells #[.bool p, .slice A n c, .bool q, .slice A' n' c', .bool p2, .slice A2 n2 c2, .bool q2, .slice A2' n2' c2'] 26 (0, 0))) :
    Calls Tryz.prog 35 #[.slice (some ⟨g, 0, none⟩) 2 2] W fun e w' => e = .returned (.bool (vldR p q l l' && vldR p2 q2 k k')) ∧ Ext W w' := by
  have hg : g < W.heap.size := (Array.getElem?_eq_some_iff.1 hW).1
  have h := allValidRats_any 2 2 g (fun i => if i = 0 then p else p2) (fun i => if i = 0 then q else q2) (fun i => if i = 0 then A else A2) (fun i => if i = 0 then A' else A2') (fun i => if i = 0 then n else n2) (fun i => if i = 0 then c else c2) (fun i => if i = 0 then n' else n2') (fun i => if i = 0 then c' else c2') (fun i => if i = 0 then l else k) (fun i => if i = 0 then l' else k') W (by omega) hg
    (fun i hi => by
      rcases (by omega : i = 0 ∨ i = 1) with rfl | rfl
      · refine ⟨?_, ?_, ?_, ?_⟩ <;> (rw [cell_of_row W g _ _ 26 (0, 0) hW]; rfl)
      · refine ⟨?_, ?_, ?_, ?_⟩ <;> (rw [cell_of_row W g _ _ 26 (0, 0) hW]; rfl))
    (fun i hi => by
      rcases (by omega : i = 0 ∨ i = 1) with rfl | rfl
      · exact ⟨hx, hy⟩
      · exact ⟨hx2, hy2⟩)
  have e : ((List.range 2).all fun i => vldR (if i = 0 then p else p2) (if i = 0 then q else q2) (if i = 0 then l else k) (if i = 0 then l' else k')) = (vldR p q l l' && vldR p2 q2 k k') := by
    simp [List.range, List.range.loop]
  rw [e] at h
  exact h
theorem FB.put4 {W : World} {g k : Nat} {v0 v1 v2 v3 : Value} (h : FB W g) (hne : g ≠ k) : FB (Go.Proofs.YtmlopkkbgpfdnaaGreatDoor.put4 W k v0 v1 v2 v3) g := by
  unfold Go.Proofs.YtmlopkkbgpfdnaaGreatDoor.put4
  exact (h.far hne).far hne
/-- two Rats come in: their boxes and the block of a result -/
theorem three_fb (p q p2 q2 : Bool) (A A' A2 A2' : Option Addr) (n c n' c' n2 c2 n2' c2' : Nat) (l l' k k' : List Nat) (w : World) (hx : Wd w (.slice A n c) l) (hy : Wd w (.slice A' n' c') l') (hx2 : Wd w (.slice A2 n2 c2) k) (hy2 : Wd w (.slice A2' n2' c2') k') : ∃ W, W = (((w.alloc (Obj.cells #[.bool p, .slice A n c, .bool q, .slice A' n' c'] 26)).alloc (Obj.cells #[.bool p2, .slice A2 n2 c2, .bool q2, .slice A2' n2' c2'] 26)).alloc (Obj.cells #[.bool false, .slice none 0 0, .bool false, .slice none 0 0] 26)) ∧
    RW W w.heap.size p q A n c A' n' c' l l' ∧ RW W (w.heap.size + 1) p2 q2 A2 n2 c2 A2' n2' c2' k k' ∧ FB W (w.heap.size + 1 + 1) ∧ Ext w W ∧ W.heap.size = w.heap.size + 1 + 1 + 1 := by
  refine ⟨_, rfl, ((RW.new 26 hx hy).ext ((Ext.refl _).alc _)).ext ((Ext.refl _).alc _), ?_, ?_, (((Ext.refl w).alc _).alc _).alc _, by simp⟩
  · have := RW.new (W := w.alloc (Obj.cells #[.bool p, .slice A n c, .bool q, .slice A' n' c'] 26)) (p := p2) (q := q2) 26 (hx2.below (below1 _ _)) (hy2.below (below1 _ _))
    rw [World.size_alloc] at this
    exact this.ext ((Ext.refl _).alc _)
  · have := FB.new ((w.alloc (Obj.cells #[.bool p, .slice A n c, .bool q, .slice A' n' c'] 26)).alloc (Obj.cells #[.bool p2, .slice A2 n2 c2, .bool q2, .slice A2' n2' c2'] 26)) false none 0 0 false none 0 0 26
    rw [World.size_alloc, World.size_alloc] at this
    exact this
end Go.Proofs.YtmlopkkbgpfdnaaGreatDoor
namespace Go.Proofs.YtmlopkkbgpfdnaaGreatDoor
open Go.RowKit

end Go.Proofs.YtmlopkkbgpfdnaaGreatDoor
namespace Go.Proofs.YtmlopkkbgpfdnaaGreatDoor
open Go.RowKit

end Go.Proofs.YtmlopkkbgpfdnaaGreatDoor
namespace Go.Proofs.YtmlopkkbgpfdnaaGreatDoor
open Go.RowKit

end Go.Proofs.YtmlopkkbgpfdnaaGreatDoor
namespace Go.Proofs.YtmlopkkbgpfdnaaGreatDoor
open Go.RowKit

end Go.Proofs.YtmlopkkbgpfdnaaGreatDoor
namespace Go.Proofs.YtmlopkkbgpfdnaaGreatDoor
open Go.RowKit

/-- what an operation of two Rats answers -/
def RA (ok : Bool) (N D x y er : Int) : Prop :=
  (ok = false ∧ x = 0 ∧ y = 0 ∧ er = 2) ∨
  (ok = true ∧ ((dig N.natAbs).length ≤ 256 ∧ (dig D.natAbs).length ≤ 256) ∧ x = N ∧ y = D ∧ er = 0) ∨
  (ok = true ∧ ¬ ((dig N.natAbs).length ≤ 256 ∧ (dig D.natAbs).length ≤ 256) ∧ x = 0 ∧ y = 0 ∧ er = 5)
theorem vldR_lens {p q : Bool} {l l' : List Nat} (h : vldR p q l l' = true) (o1 : Ok l) (o2 : Ok l') : numOf q l' ≠ 0 ∧ Lf (numOf p l) (numOf q l') 300 := by
  obtain ⟨h1, h2, h3, -⟩ := vldR_parts h
  refine ⟨by omega, ?_, ?_⟩
  · rw [vld_dig o1 h1]; have := vld_len h1; omega
  · rw [vld_dig o2 h2]; have := vld_len h2; omega
/-- what RatDiv answers -/
def RD (ok : Bool) (u N D x y er : Int) : Prop := (ok = true ∧ u = 0 ∧ x = 0 ∧ y = 0 ∧ er = 4) ∨ (¬ (ok = true ∧ u = 0) ∧ RA ok N D x y er)
end Go.Proofs.YtmlopkkbgpfdnaaGreatDoor
namespace Go.Proofs.YtmlopkkbgpfdnaaGreatDoor

def IsCoprime' (a b : Int) : Prop := Int.gcd a b = 1
theorem dvd_of_cop {b a d : Int} (hc : IsCoprime' b a) (h : b ∣ a * d) : b ∣ d := by
  have h1 : b.natAbs ∣ a.natAbs * d.natAbs := by rw [← Int.natAbs_mul]; exact Int.natAbs_dvd_natAbs.2 h
  have h2 : Nat.Coprime b.natAbs a.natAbs := hc
  exact Int.natAbs_dvd_natAbs.1 (h2.dvd_of_dvd_mul_left h1)
theorem nfg_dvd (x y : Int) : nfg x y ∣ x ∧ nfg x y ∣ y := by
  unfold nfg
  split
  · exact ⟨Int.neg_dvd.2 (Int.gcd_dvd_left ..), Int.neg_dvd.2 (Int.gcd_dvd_right ..)⟩
  · exact ⟨Int.gcd_dvd_left .., Int.gcd_dvd_right ..⟩
theorem nf_low {x y : Int} (hy : y ≠ 0) : 0 < y / nfg x y ∧ Int.gcd (x / nfg x y) (y / nfg x y) = 1 ∧ (x / nfg x y) * y = (y / nfg x y) * x := by
  have h0 := nfg_ne (x := x) hy
  obtain ⟨⟨x', hx⟩, ⟨y', hy'⟩⟩ := nfg_dvd x y
  obtain ⟨d, hd⟩ : ∃ d, d = nfg x y := ⟨_, rfl⟩
  have ha := nfg_abs x y
  have hs : 0 < y * d := by
    have hgp : 0 < Int.gcd x y := Int.gcd_pos_iff.2 (.inr hy)
    rw [hd]; unfold nfg
    split
    · rename_i hn; exact Int.mul_pos_of_neg_of_neg hn (by omega)
    · exact Int.mul_pos (by omega) (by omega)
  rw [← hd] at hx hy' h0 ha ⊢
  have e1 : x / d = x' := by rw [hx]; exact Int.mul_ediv_cancel_left _ h0
  have e2 : y / d = y' := by rw [hy']; exact Int.mul_ediv_cancel_left _ h0
  rw [e1, e2]
  have hg : Int.gcd x y = d.natAbs * Int.gcd x' y' := by
    conv => lhs; rw [hx, hy']
    exact Int.gcd_mul_left d x' y'
  refine ⟨?_, ?_, ?_⟩
  · rcases Int.lt_trichotomy y' 0 with h | h | h
    · exfalso
      have : y * d = y' * (d * d) := by rw [hy']; grind
      have hdd : 0 < d * d := by
        rcases Int.lt_or_gt_of_ne h0 with h2 | h2
        · exact Int.mul_pos_of_neg_of_neg h2 h2
        · exact Int.mul_pos h2 h2
      have := Int.mul_neg_of_neg_of_pos h hdd
      omega
    · rw [h, Int.mul_zero] at hy'; exact absurd hy' hy
    · exact h
  · have h1 : d.natAbs * 1 = d.natAbs * Int.gcd x' y' := by omega
    exact (Nat.eq_of_mul_eq_mul_left (by omega) h1).symm
  · rw [hx, hy']; grind
theorem low_only {a b c d : Int} (hb : 0 < b) (hd : 0 < d) (h1 : Int.gcd a b = 1) (h2 : Int.gcd c d = 1) (h : a * d = b * c) : a = c ∧ b = d := by
  have e1 : b ∣ d := by
    have hdv : b ∣ a * d := ⟨c, h⟩
    have hc : IsCoprime' b a := by unfold IsCoprime'; rw [Int.gcd_comm]; exact h1
    exact dvd_of_cop hc hdv
  have e2 : d ∣ b := by
    have hdv : d ∣ c * b := ⟨a, by rw [Int.mul_comm c b, ← h, Int.mul_comm]⟩
    have hc : IsCoprime' d c := by unfold IsCoprime'; rw [Int.gcd_comm]; exact h2
    exact dvd_of_cop hc hdv
  have e : b = d := by
    have := Int.natAbs_dvd_natAbs.2 e1; have := Int.natAbs_dvd_natAbs.2 e2
    have := Nat.dvd_antisymm ‹b.natAbs ∣ d.natAbs› ‹d.natAbs ∣ b.natAbs›
    omega
  subst e
  exact ⟨Int.eq_of_mul_eq_mul_right (show b ≠ 0 by omega) (by rw [h, Int.mul_comm]), rfl⟩
theorem nf_eq {x y a b : Int} (hy : y ≠ 0) (hb : 0 < b) (h1 : Int.gcd a b = 1) (h : x * b = y * a) : x / nfg x y = a ∧ y / nfg x y = b := by
  obtain ⟨k1, k2, k3⟩ := nf_low (x := x) hy
  refine low_only k1 hb k2 h1 ?_
  generalize x / nfg x y = p at *
  generalize y / nfg x y = q at *
  -- p * y = q * x, x * b = y * a
  have : y * (p * b) = y * (q * a) := by grind
  exact Int.eq_of_mul_eq_mul_left hy this
/-- division undoes multiplication -/
theorem div_mul {a b c d N D : Int} (hb : 0 < b) (hd : 0 < d) (h1 : Int.gcd a b = 1) (hc : c ≠ 0) (hN : N = a * c / nfg (a * c) (b * d)) (hD : D = b * d / nfg (a * c) (b * d)) :
    N * d / nfg (N * d) (D * c) = a ∧ D * c / nfg (N * d) (D * c) = b := by
  have hbd : b * d ≠ 0 := Int.mul_ne_zero (by omega) (by omega)
  obtain ⟨k1, -, k3⟩ := nf_low (x := a * c) hbd
  rw [← hN, ← hD] at k3
  rw [← hD] at k1
  refine nf_eq (Int.mul_ne_zero (by omega) hc) hb h1 ?_
  grind
/-- subtraction undoes addition -/
theorem sub_add {a b c d N D : Int} (hb : 0 < b) (hd : 0 < d) (h1 : Int.gcd a b = 1) (hN : N = (a * d + c * b) / nfg (a * d + c * b) (b * d)) (hD : D = b * d / nfg (a * d + c * b) (b * d)) :
    (N * d + -c * D) / nfg (N * d + -c * D) (D * d) = a ∧ D * d / nfg (N * d + -c * D) (D * d) = b := by
  have hbd : b * d ≠ 0 := Int.mul_ne_zero (by omega) (by omega)
  obtain ⟨k1, -, k3⟩ := nf_low (x := a * d + c * b) hbd
  rw [← hN, ← hD] at k3
  rw [← hD] at k1
  refine nf_eq (Int.mul_ne_zero (by omega) (by omega)) hb h1 ?_
  -- (N d - c D) b = (D d) a
  have hd0 : d ≠ 0 := by omega
  refine Int.eq_of_mul_eq_mul_left hd0 ?_
  grind
theorem floor_le {a b : Int} (hb : 0 < b) : a / b * b ≤ a ∧ a < a / b * b + b := by
  have h1 := Int.emod_add_mul_ediv a b
  have h2 := Int.emod_nonneg a (show b ≠ 0 by omega)
  have h3 := Int.emod_lt_of_pos a hb
  have : b * (a / b) = a / b * b := Int.mul_comm ..
  omega

theorem num_of (z : Int) : numOf (decide (z < 0)) (dig z.natAbs) = z := by
  unfold numOf
  rw [val_dig]
  by_cases h : z < 0
  · simp [h]; omega
  · simp [h]; omega
theorem vld_of {z : Int} (h : (dig z.natAbs).length ≤ 256) : vld (decide (z < 0)) (dig z.natAbs) = true := by
  unfold vld
  split
  · rename_i h0
    have : ¬ 0 < z.natAbs := fun hp => by have := dig_len_pos.2 hp; omega
    simp; omega
  · rename_i h0
    have hn := norm_dig z.natAbs
    unfold Norm at hn
    rw [List.getLast?_eq_getElem?] at hn
    have hl : (dig z.natAbs).length - 1 < (dig z.natAbs).length := by omega
    rw [List.getElem?_eq_getElem hl] at hn
    simp only [Bool.and_eq_true, decide_eq_true_eq, Bool.not_eq_true', decide_eq_false_iff_not]
    refine ⟨h, fun e => hn ?_⟩
    rw [List.getD_eq_getElem?_getD, List.getElem?_eq_getElem hl] at e
    simpa using e
theorem vldR_of {x y : Int} (lx : (dig x.natAbs).length ≤ 256) (ly : (dig y.natAbs).length ≤ 256) (hy : 0 < y) (hg : Int.gcd x y = 1) : vldR (decide (x < 0)) (decide (y < 0)) (dig x.natAbs) (dig y.natAbs) = true := by
  unfold vldR
  rw [vld_of lx, vld_of ly, num_of, num_of]
  simp [hy, hg]
theorem vldR_zero : vldR (decide ((0 : Int) < 0)) (decide ((0 : Int) < 0)) (dig (0 : Int).natAbs) (dig (0 : Int).natAbs) = false := by
  unfold vldR
  rw [num_of]
  simp
end Go.Proofs.YtmlopkkbgpfdnaaGreatDoor
namespace Go.Proofs.YtmlopkkbgpfdnaaGreatDoor
open Go.RowKit

set_option maxRecDepth 100000 in
/-- ref trim -/
theorem trimR_any (v : Value) (l : List Nat) (w : World) (hv : Wd w v l) :
    Calls Tryz.prog 91 #[v] w fun e w' => ∃ u, e = .returned u ∧ Wd w u (dig (val l)) ∧ w = w' := by
  obtain ⟨A, c, rfl, h1, h2, h3, h4⟩ := hv
  obtain ⟨n, hn⟩ : ∃ n, n = l.length := ⟨_, rfl⟩
  rw [← hn] at h1 h4 ⊢
  have Hn := Lib.hid hn; clear hn
  have hm : n ≤ 9223372036854775807 := by omega
  go_enter Tryz.func91, Tryz.ntmps91
  go_wp2
  go_loop [0] (fun v => ∃ k : Nat, v = .slice A k c ∧ k ≤ n ∧ ∀ j, k ≤ j → j < n → l.getD j 0 = 0) (fun v => match v with | .slice _ k _ => k | _ => 0)
  case atStart => exact ⟨n, rfl, Nat.le_refl _, fun j h h' => by omega⟩
  case round =>
    obtain ⟨k, rfl, hk, hz⟩ := hrel
    by_cases k0 : k = 0
    · subst k0
      have HZ := Lib.hid hz; clear hz
      go_wp2
      go_ret
      refine ⟨.slice A 0 c, rfl, ?_, rfl⟩
      rw [dig_take (k := 0) h3 (by omega) (fun j h h' => HZ.out j h (by rw [Hn.out]; exact h')) (.inl rfl)]
      exact ⟨A, c, rfl, by simp, by omega, Ok.nil, fun h => absurd h (by simp)⟩
    · obtain ⟨b, off, rfl, hb, hc⟩ := h4 (by omega)
      have hx := hc (k - 1) (by omega)
      obtain ⟨x, hxe⟩ : ∃ x, x = l.getD (k - 1) 0 := ⟨_, rfl⟩
      rw [← hxe] at hx
      have Hx := Lib.hid hxe; clear hxe
      have HC := Lib.hid hc; clear hc h4
      have HZ := Lib.hid hz; clear hz
      have hkp : 0 < k := by omega
      have hkd : decide ((0 : Int) < (k : Int)) = true := by simp; omega
      by_cases hx0 : x = 0
      · subst hx0
        go_wp2
        go_round
        case rel =>
          refine ⟨k - 1, by simp, by omega, fun j hj hj' => ?_⟩
          by_cases e : j = k - 1
          · rw [e]; exact Hx.out.symm
          · exact HZ.out j (by omega) hj'
        case measure => simp; omega
      · go_wp2
        go_ret
        have hl : (l.take k).length = k := by rw [List.length_take, ← Hn.out]; omega
        refine ⟨.slice (some ⟨b, off, none⟩) k c, rfl, ?_, rfl⟩
        rw [dig_take (k := k) h3 (by rw [← Hn.out]; omega) (fun j h h' => HZ.out j h (by rw [Hn.out]; exact h')) (.inr (by rw [← Hx.out]; exact hx0))]
        refine ⟨some ⟨b, off, none⟩, c, by rw [hl], by omega, by omega, h3.take k, fun _ => ⟨b, off, rfl, hb, fun j hj => ?_⟩⟩
        rw [hl] at hj
        rw [HC.out j (by omega)]
        simp [List.getD_eq_getElem?_getD, List.getElem?_take, hj]

theorem orderR_ne (x y n m c c' : Nat) (A A' : Option Addr) (w : World) (hn : n = (dig x).length) (hm : m = (dig y).length) (hne : n ≠ m) (ln : n ≤ 9223372036854775807) (lm : m ≤ 9223372036854775807) :
    Calls Tryz.prog 46 #[.slice A n c, .slice A' m c'] w fun e w' => e = .returned (.int .i64 (cmpN x y)) ∧ ∃ n, w' = w.drewN n := by
  have hb : ((n : Int) != m) = true := by simp; omega
  rcases Nat.lt_or_ge n m with h | h
  · rw [cmpN_lt (lt_of_len_lt (by omega))]
    clear hn hm
    go_enter Tryz.func46, Tryz.ntmps46
    go_wp2
    go_ret
    exact ⟨rfl, 0, rfl⟩
  · rw [cmpN_gt (lt_of_len_lt (by omega))]
    clear hn hm
    have hmn : m < n := by omega
    go_enter Tryz.func46, Tryz.ntmps46
    go_wp2
    go_ret
    exact ⟨rfl, 0, rfl⟩

set_option maxRecDepth 100000 in
theorem orderR_eq (x y n c c' : Nat) (A A' : Option Addr) (w : World) (hx : Wd w (.slice A n c) (dig x)) (hy : Wd w (.slice A' n c') (dig y)) (ln : n ≤ 9223372036854775807) :
    Calls Tryz.prog 46 #[.slice A n c, .slice A' n c'] w fun e w' => e = .returned (.int .i64 (cmpN x y)) ∧ ∃ n, w' = w.drewN n := by
  have Hx := Lib.hid hx
  have Hy := Lib.hid hy
  clear hx hy
  go_enter Tryz.func46, Tryz.ntmps46
  go_wp2_with fail
  go_loopw [5] (fun i wr => ∃ (k q : Nat), i = .int .i64 ((k : Int) - 1) ∧ k ≤ n ∧ wr = w.drewN q ∧ x / 4294967296 ^ k = y / 4294967296 ^ k) (fun i _ => (intOf i + 1).toNat)
  case atStart => exact ⟨n, 0, rfl, Nat.le_refl _, rfl, by rw [div_len (by rw [← Hx.out.len]; omega), div_len (by rw [← Hy.out.len]; omega)]⟩
  case round =>
    obtain ⟨k, q, rfl, hk, rfl, hq⟩ := hrel
    have HQ := Lib.hid hq; clear hq
    by_cases hk0 : k = 0
    · subst hk0
      have hr : cmpN x y = 0 := cmpN_eq (by have := HQ.out; simpa using this)
      have Hr := Lib.hid hr; clear hr
      go_wp2
      go_ret
      exact ⟨by rw [Hr.out]; rfl, q, rfl⟩
    · obtain ⟨j, rfl⟩ : ∃ j, k = j + 1 := ⟨k - 1, by omega⟩
      obtain ⟨b, off, rfl, -, hcx⟩ := Wd.cell (k := j) Hx.out (by omega)
      obtain ⟨b', off', rfl, -, hcy⟩ := Wd.cell (k := j) Hy.out (by omega)
      have h1 := hcx j (by omega)
      have h2 := hcy j (by omega)
      clear hcx hcy
      obtain ⟨p, hp⟩ : ∃ p, p = dg x j := ⟨_, rfl⟩
      obtain ⟨r, hr⟩ : ∃ r, r = dg y j := ⟨_, rfl⟩
      rw [← hp] at h1
      rw [← hr] at h2
      have Hp := Lib.hid hp; clear hp
      have Hr := Lib.hid hr; clear hr
      rw [show (((j + 1 : Nat)) : Int) - 1 = (j : Int) from by omega]
      have hjn : (j : Int) < (n : Int) := by omega
      have hj0 : (0 : Int) ≤ (j : Int) := by omega
      rcases Nat.lt_trichotomy p r with hpr | hpr | hpr
      · have hb : ((p : Int) != r) = true := by simp; omega
        have hfin : cmpN x y = -1 := cmpN_lt (dg_cmp_lt HQ.out (by rw [← Hp.out, ← Hr.out]; exact hpr))
        have Hf := Lib.hid hfin; clear hfin
        go_wp2_with fail
        go_quiet (fail)
        go_wp2_with fail
        go_quiet (fail)
        go_wp2
        go_ret
        exact ⟨by rw [Hf.out]; rfl, _, by rw [World.drewN_drewN, World.drewN_drewN]⟩
      · subst hpr
        go_wp2_with fail
        go_quiet (fail)
        go_wp2
        go_roundw
        case rel => exact ⟨j, _, rfl, by omega, rfl, dg_cmp_eq HQ.out (by rw [← Hp.out, ← Hr.out])⟩
        case measure => simp [intOf]
      · have hb : ((p : Int) != r) = true := by simp; omega
        have hfin : cmpN x y = 1 := cmpN_gt (dg_cmp_lt HQ.out.symm (by rw [← Hp.out, ← Hr.out]; exact hpr))
        have Hf := Lib.hid hfin; clear hfin
        go_wp2_with fail
        go_quiet (fail)
        go_wp2_with fail
        go_quiet (fail)
        go_wp2
        go_ret
        exact ⟨by rw [Hf.out]; rfl, _, by rw [World.drewN_drewN, World.drewN_drewN]⟩

set_option maxRecDepth 100000 in
/-- ref order -/
theorem orderR_any (x y : Nat) (u v : Value) (w : World) (hx : Wd w u (dig x)) (hy : Wd w v (dig y)) :
    Calls Tryz.prog 46 #[u, v] w fun e w' => e = .returned (.int .i64 (cmpN x y)) ∧ ∃ n, w' = w.drewN n := by
  obtain ⟨A, c, rfl, h1, h2⟩ := hx.shape
  obtain ⟨A', c', rfl, h3, h4⟩ := hy.shape
  by_cases hne : (dig x).length = (dig y).length
  · rw [← hne] at hy ⊢
    exact orderR_eq x y _ c c' A A' w hx hy (by omega)
  · exact orderR_ne x y _ _ c c' A A' w rfl rfl hne (by omega) (by omega)

set_option maxRecDepth 100000 in
theorem signedR_any (p : Bool) (A : Option Addr) (n c : Nat) (w : World) (hn : n ≤ 9223372036854775807) :
    Calls Tryz.prog 55 #[.bool p, .slice A n c] w fun e w' => e = .returned (.agg #[.bool (p && decide (0 < n)), .slice A n c]) ∧ Below w.heap.size w w' := by
  cases p
  · go_enter Tryz.func55, Tryz.ntmps55
    go_wp2
    exact bodyPost_ret (v := .agg #[.bool false, .slice A n c]) (by simp [results, Tryz.results55, go_sem]) rfl ⟨rfl, below_alloc _ _⟩
  · go_enter Tryz.func55, Tryz.ntmps55
    go_wp2
    exact bodyPost_ret (v := .agg #[.bool (decide (0 < n)), .slice A n c]) (by simp [results, Tryz.results55, go_sem]) rfl ⟨by simp, below_alloc _ _⟩

end Go.Proofs.YtmlopkkbgpfdnaaGreatDoor
namespace Go.Proofs.YtmlopkkbgpfdnaaGreatDoor
open Go.RowKit

def uw (x : Nat) : Value := .int .u32 (x : Int)

theorem Wd.of_own {w : World} {base : Nat} {v : Value} {ds : List Nat} (h : w.ownsRow base 66 1 v ds.length (ds.map uw)) (ho : Ok ds) : Wd w v ds := by
  have h0 := h
  obtain ⟨h1, h2 | ⟨g, cap, cur, rfl, hg, hh, hn, hcap, hsz, htake⟩⟩ := h
  · obtain ⟨rfl, hn⟩ := h2
    have : ds = [] := List.eq_nil_of_length_eq_zero hn
    subst this
    exact Wd.nil_ w
  · refine ⟨some ⟨g, 0, none⟩, cap, rfl, hn, by unfold maxLen at hcap; omega, ho, fun hp => ⟨g, 0, rfl, (Array.getElem?_eq_some_iff.1 hh).1, fun j hj => ?_⟩⟩
    have := h0.cells (g := g) rfl j (uw (ds.getD j 0)) (by
      rw [List.getElem?_map, List.getElem?_eq_getElem hj]
      simp [List.getD_eq_getElem?_getD, List.getElem?_eq_getElem hj])
    have e : (⟨g, 0, none⟩ : Addr).add j = ⟨g, 0 + j, none⟩ := by unfold Addr.add; split <;> simp_all
    rw [← e]
    exact this

set_option maxHeartbeats 400000 in
set_option maxRecDepth 100000 in
/-- ref natural -/
theorem naturalR_any (n : Nat) (hn : n < 18446744073709551616) (w : World) :
    Calls Tryz.prog 57 #[.int .u64 n] w fun e w' => ∃ u, e = .returned u ∧ Wd w' u (dig n) ∧ Below w.heap.size w w' := by
  obtain ⟨i0, hi, hz0, hz1, hz2⟩ := info_parts info66
  have hd2 : (dig n).length ≤ 2 := dig_len_le (by omega)
  go_enter Tryz.func57, Tryz.ntmps57
  go_wp2
  go_loopw [0, 3] (fun mv v wr => ∃ (m : Nat) (ds : List Nat), mv = .int .u64 m ∧ m ≤ n ∧ Ok ds ∧ wr.ownsRow w.heap.size 66 1 v ds.length (ds.map uw) ∧ Below w.heap.size w wr ∧ ds ++ dig m = dig n)
    (fun mv _ _ => (intOf mv).toNat)
  case atStart => exact ⟨n, [], rfl, Nat.le_refl _, Ok.nil, World.ownsRow_nil _ _ _ _, Below.refl _ _, rfl⟩
  case round =>
    obtain ⟨m, ds, rfl, hm, hok, hown, hbel, hds⟩ := hrel
    have hl : ds.length + (dig m).length ≤ 2 := by rw [← List.length_append, hds]; exact hd2
    have Hds := Lib.hid hds; clear hds
    have Hok := Lib.hid hok; clear hok
    by_cases hm0 : m = 0
    · subst hm0
      have hw := Wd.of_own hown Hok.out
      have he : ds = dig n := by have := Hds.out; rwa [dig_zero, List.append_nil] at this
      rw [he] at hw
      have Hw := Lib.hid hw; clear hw he
      go_wp2
      go_ret
      exact ⟨_, rfl, Hw.out, hbel⟩
    · have hm1 : 0 < m := by omega
      have hl1 : ds.length ≤ 2 := by omega
      clear hl
      go_wp2_with (at_builtin; refine wpList_append_own _ rfl _ _ 53 rfl w.heap.size 66 i0 (.int .u32 0) 1 4 Tryz.underlying53 hi hz0 hz1 hz2 rfl (by decide) _ _ _ rfl (hown.alloc _) ⟨wr.heap.size, 0, none⟩ 1 1 [uw (m % 4294967296)] rfl rfl ?c1 ?c2 ?c3 ?c4 ?c5 ?_)
      case c1 =>
        intro j u hj
        match j, hj with
        | 0, hj => simp at hj; subst hj; simp [Addr.add, uw]
      case c2 => intro u hu; simp at hu; subst hu; rfl
      case c3 => unfold maxLen; omega
      case c4 => omega
      case c5 => have := hbel.size; simp; omega
      intro v' w1 hown' hgrow _
      have hb1 : Below w.heap.size w w1 := (hbel.alloc hbel.size _).grown hgrow (by have := hbel.size; simp; omega) (fun k hk => (hown.lt k hk).1)
      have hown2 : w1.ownsRow w.heap.size 66 1 v' (ds ++ [m % 4294967296]).length ((ds ++ [m % 4294967296]).map uw) := by
        rw [List.length_append, List.map_append]; exact hown'
      have Ho := Lib.hid hown2; clear hown2 hown' hgrow hown hbel
      go_wp2
      go_roundw
      case rel =>
        refine ⟨m / 4294967296, ds ++ [m % 4294967296], by simp, by omega, Hok.out.append (Ok.mk (by omega) Ok.nil), Ho.out, hb1, ?_⟩
        rw [← Hds.out, dig_pos hm1]
        simp
      case measure => simp [intOf]; omega
end Go.Proofs.YtmlopkkbgpfdnaaGreatDoor
namespace Go.Proofs.YtmlopkkbgpfdnaaGreatDoor
open Go.RowKit

set_option maxHeartbeats 800000 in
set_option maxRecDepth 100000 in
/-- ref less -/
theorem lessR_any (x y : Nat) (u v : Value) (w : World) (hx : Wd w u (dig x)) (hy : Wd w v (dig y)) (lx : (dig x).length ≤ 1000000) (hyx : y ≤ x) :
    Calls Tryz.prog 67 #[u, v] w fun e w' => ∃ r, e = .returned r ∧ Wd w' r (dig (x - y)) ∧ Below w.heap.size w w' := by
  have hly := dig_len_mono hyx
  obtain ⟨A, c, rfl, -, -⟩ := hx.shape
  obtain ⟨A', c', rfl, -, -⟩ := hy.shape
  obtain ⟨nx, hnx⟩ : ∃ n, n = (dig x).length := ⟨_, rfl⟩
  obtain ⟨ny, hny⟩ : ∃ n, n = (dig y).length := ⟨_, rfl⟩
  rw [← hnx] at lx hx hly ⊢
  rw [← hny] at hy hly ⊢
  have Hx := Lib.hid hx; clear hx
  have Hy := Lib.hid hy; clear hy
  have Hnx := Lib.hid hnx; clear hnx
  have Hny := Lib.hid hny; clear hny
  have Hyx := Lib.hid hyx; clear hyx
  have hmk : ∀ w, (Instr.makeSlice 53 (.int .i64 (nx : Int)) (.int .i64 (nx : Int))).run Tryz.prog w = .ok (.slice (some ⟨w.heap.size, 0, none⟩) nx nx) (w.alloc (.cells (U32s (zeros nx)) 66)) := fun w => make_u32 53 Tryz.underlying53 nx (by omega) w
  go_enter Tryz.func67, Tryz.ntmps67
  go_wp2_with fail
  go_loopw [6, 14] (fun cr i wr => ∃ (k cv : Nat) (L : List Nat), i = .int .i64 k ∧ k ≤ nx ∧ cr = .int .u64 cv ∧ cv ≤ 1 ∧ L.length = nx ∧ Ok L ∧ Blk wr w.heap.size L ∧ Below w.heap.size w wr ∧
      val (L.take k) + y % 4294967296 ^ k = x % 4294967296 ^ k + 4294967296 ^ k * cv) (fun _ i _ => nx - (intOf i).toNat)
  case atStart => exact ⟨0, 0, zeros nx, rfl, Nat.zero_le _, rfl, by omega, zeros_length _, zeros_ok _, heap_alloc_new w _, below_alloc _ _, by simp [val, Nat.mod_one]⟩
  case round =>
    obtain ⟨k, cv, L, rfl, hk, rfl, hcv, hL, hok, hblk, hbel, hval⟩ := hrel
    have HV := Lib.hid hval; clear hval
    have HL := Lib.hid hL; clear hL
    have HX := Lib.hid (Hx.out.below hbel)
    have HY := Lib.hid (Hy.out.below hbel)
    by_cases hlt : k < nx
    · have hfr := hblk.frozen k
      have hce := hblk.cell (i := k) (by rw [HL.out]; omega)
      have hB := Lib.hid hblk; clear hblk
      obtain ⟨b, off, rfl, hb, hc⟩ := Wd.cell (k := k) HX.out hlt
      have hxk := hc k hlt
      clear hc
      obtain ⟨p, hp⟩ : ∃ p, p = dg x k := ⟨_, rfl⟩
      have hpl : p < 4294967296 := by rw [hp]; exact dg_lt _ _
      rw [← hp] at hxk
      have Hp := Lib.hid hp; clear hp
      by_cases hky : k < ny
      · obtain ⟨b', off', rfl, hb', hc'⟩ := Wd.cell (k := k) HY.out hky
        have hyk := hc' k hky
        clear hc'
        obtain ⟨q, hq⟩ : ∃ q, q = dg y k := ⟨_, rfl⟩
        have hql : q < 4294967296 := by rw [hq]; exact dg_lt _ _
        rw [← hq] at hyk
        have Hq := Lib.hid hq; clear hq
        by_cases hge : q + cv ≤ p
        · go_wp2_with fail
          have w1 : ((p : Int) - cv - q) = ((p - cv - q : Nat) : Int) := by omega
          have w2 : ((p : Int) - cv - q) / 9223372036854775808 = ((0 : Nat) : Int) := by omega
          rw [w2, w1]
          go_roundw
          case rel =>
            refine ⟨k + 1, 0, L.set k (p - cv - q), by go_num, by omega, rfl, by omega, by rw [List.length_set, HL.out], hok.set (by omega), hB.out.set_ k _, hbel.setCell (Nat.le_refl _) _, ?_⟩
            rw [val_take_set (by rw [HL.out]; omega)]
            exact sub_round HV.out hcv (by rw [← Hp.out, ← Hq.out]; omega) (by rw [← Hp.out, ← Hq.out]; rw [if_neg (by omega)])
          case measure => simp [intOf]; omega
        · have hlt2 : p < q + cv := by omega
          go_wp2_with fail
          have w1 : (IntKind.u64.wrap (IntKind.u64.wrap ((p : Int) - cv) - q)) % 4294967296 = ((p + 4294967296 - q - cv : Nat) : Int) := by rw [IntKind.wrap_u64, IntKind.wrap_u64]; omega
          have w2 : (IntKind.u64.wrap (IntKind.u64.wrap ((p : Int) - cv) - q)) / 9223372036854775808 = ((1 : Nat) : Int) := by rw [IntKind.wrap_u64, IntKind.wrap_u64]; omega
          rw [w1, w2]
          go_roundw
          case rel =>
            refine ⟨k + 1, 1, L.set k (p + 4294967296 - q - cv), by go_num, by omega, rfl, by omega, by rw [List.length_set, HL.out], hok.set (by omega), hB.out.set_ k _, hbel.setCell (Nat.le_refl _) _, ?_⟩
            rw [val_take_set (by rw [HL.out]; omega)]
            exact sub_round HV.out hcv (by rw [← Hp.out, ← Hq.out]; omega) (by rw [← Hp.out, ← Hq.out]; rw [if_pos (by omega)])
          case measure => simp [intOf]; omega
      · have hq : 0 = dg y k := by rw [dg_zero (by rw [← Hny.out]; omega)]
        have Hq := Lib.hid hq; clear hq
        by_cases hge : cv ≤ p
        · go_wp2_with fail
          have w1 : ((p : Int) - cv) = ((p - cv : Nat) : Int) := by omega
          have w2 : ((p : Int) - cv) / 9223372036854775808 = ((0 : Nat) : Int) := by omega
          rw [w2, w1]
          go_roundw
          case rel =>
            refine ⟨k + 1, 0, L.set k (p - cv), by go_num, by omega, rfl, by omega, by rw [List.length_set, HL.out], hok.set (by omega), hB.out.set_ k _, hbel.setCell (Nat.le_refl _) _, ?_⟩
            rw [val_take_set (by rw [HL.out]; omega)]
            exact sub_round HV.out hcv (by rw [← Hp.out, ← Hq.out]; omega) (by rw [← Hp.out, ← Hq.out]; rw [if_neg (by omega)])
          case measure => simp [intOf]; omega
        · have hlt2 : p < cv := by omega
          go_wp2_with fail
          have w1 : (IntKind.u64.wrap ((p : Int) - cv)) % 4294967296 = ((p + 4294967296 - cv : Nat) : Int) := by rw [IntKind.wrap_u64]; omega
          have w2 : (IntKind.u64.wrap ((p : Int) - cv)) / 9223372036854775808 = ((1 : Nat) : Int) := by rw [IntKind.wrap_u64]; omega
          rw [w1, w2]
          go_roundw
          case rel =>
            refine ⟨k + 1, 1, L.set k (p + 4294967296 - cv), by go_num, by omega, rfl, by omega, by rw [List.length_set, HL.out], hok.set (by omega), hB.out.set_ k _, hbel.setCell (Nat.le_refl _) _, ?_⟩
            rw [val_take_set (by rw [HL.out]; omega)]
            exact sub_round HV.out hcv (by rw [← Hp.out, ← Hq.out]; omega) (by rw [← Hp.out, ← Hq.out]; rw [if_pos (by omega)])
          case measure => simp [intOf]; omega
    · have hkn : k = nx := by omega
      subst hkn
      have hB := Lib.hid hblk; clear hblk
      have hv : val L = x - y := by
        have e := HV.out
        rw [List.take_of_length_le (by rw [HL.out]; omega), mod_len (x := x) (by rw [← Hnx.out]; omega)] at e
        have hxl := val_lt hok
        rw [HL.out] at hxl
        have hyy : y % 4294967296 ^ k = y := mod_len (by rw [← Hny.out]; exact hly)
        rw [hyy] at e
        have := Hyx.out
        rcases (by omega : cv = 0 ∨ cv = 1) with h | h
        · subst h; omega
        · subst h; have hlt := lt_of_dig_len (n := x) (k := k) (by rw [← Hnx.out]; omega); omega
      have hw2 := hB.out.wd hok (by rw [HL.out]; omega) k (by rw [HL.out]; omega) (by omega)
      rw [HL.out] at hw2
      have Hw := Lib.hid hw2; clear hw2
      have Hv := Lib.hid hv; clear hv
      go_wp2_with fail
      refine (trimR_any _ _ _ Hw.out).mono ?_
      rintro e w' ⟨r, rfl, hr, rfl⟩
      rw [Hv.out] at hr
      go_wp2
      go_ret
      exact ⟨r, rfl, hr, hbel⟩
end Go.Proofs.YtmlopkkbgpfdnaaGreatDoor
namespace Go.Proofs.YtmlopkkbgpfdnaaGreatDoor
open Go.RowKit

set_option maxRecDepth 100000 in
/-- ref trim: the same address -/
theorem trimR_at (A : Option Addr) (nn c : Nat) (l : List Nat) (w : World) (hv : Wd w (.slice A nn c) l) :
    Calls Tryz.prog 91 #[.slice A nn c] w fun e w' => ∃ k, e = .returned (.slice A k c) ∧ Wd w (.slice A k c) (dig (val l)) ∧ w = w' := by
  obtain ⟨A', c', he, h1, h2, h3, h4⟩ := hv
  injection he with e1 e2 e3
  subst e1 e2 e3
  obtain ⟨n, hn⟩ : ∃ n, n = l.length := ⟨_, rfl⟩
  rw [← hn] at h1 h4 ⊢
  have Hn := Lib.hid hn; clear hn
  have hm : n ≤ 9223372036854775807 := by omega
  go_enter Tryz.func91, Tryz.ntmps91
  go_wp2
  go_loop [0] (fun v => ∃ k : Nat, v = .slice A k c ∧ k ≤ n ∧ ∀ j, k ≤ j → j < n → l.getD j 0 = 0) (fun v => match v with | .slice _ k _ => k | _ => 0)
  case atStart => exact ⟨n, rfl, Nat.le_refl _, fun j h h' => by omega⟩
  case round =>
    obtain ⟨k, rfl, hk, hz⟩ := hrel
    by_cases k0 : k = 0
    · subst k0
      have HZ := Lib.hid hz; clear hz
      go_wp2
      go_ret
      refine ⟨0, rfl, ?_, rfl⟩
      rw [dig_take (k := 0) h3 (by omega) (fun j h h' => HZ.out j h (by rw [Hn.out]; exact h')) (.inl rfl)]
      exact ⟨A, c, rfl, by simp, by omega, Ok.nil, fun h => absurd h (by simp)⟩
    · obtain ⟨b, off, rfl, hb, hc⟩ := h4 (by omega)
      have hx := hc (k - 1) (by omega)
      obtain ⟨x, hxe⟩ : ∃ x, x = l.getD (k - 1) 0 := ⟨_, rfl⟩
      rw [← hxe] at hx
      have Hx := Lib.hid hxe; clear hxe
      have HC := Lib.hid hc; clear hc h4
      have HZ := Lib.hid hz; clear hz
      have hkp : 0 < k := by omega
      have hkd : decide ((0 : Int) < (k : Int)) = true := by simp; omega
      by_cases hx0 : x = 0
      · subst hx0
        go_wp2
        go_round
        case rel =>
          refine ⟨k - 1, by simp, by omega, fun j hj hj' => ?_⟩
          by_cases e : j = k - 1
          · rw [e]; exact Hx.out.symm
          · exact HZ.out j (by omega) hj'
        case measure => simp; omega
      · go_wp2
        go_ret
        have hl : (l.take k).length = k := by rw [List.length_take, ← Hn.out]; omega
        refine ⟨k, rfl, ?_, rfl⟩
        rw [dig_take (k := k) h3 (by rw [← Hn.out]; omega) (fun j h h' => HZ.out j h (by rw [Hn.out]; exact h')) (.inr (by rw [← Hx.out]; exact hx0))]
        refine ⟨some ⟨b, off, none⟩, c, by rw [hl], by omega, by omega, h3.take k, fun _ => ⟨b, off, rfl, hb, fun j hj => ?_⟩⟩
        rw [hl] at hj
        rw [HC.out j (by omega)]
        simp [List.getD_eq_getElem?_getD, List.getElem?_take, hj]

set_option maxHeartbeats 800000 in
set_option maxRecDepth 100000 in
/-- ref less -/
theorem lessR_at (x y : Nat) (u v : Value) (w : World) (hx : Wd w u (dig x)) (hy : Wd w v (dig y)) (lx : (dig x).length ≤ 1000000) (hyx : y ≤ x) :
    Calls Tryz.prog 67 #[u, v] w fun e w' => ∃ b o n c, e = .returned (.slice (some ⟨b, o, none⟩) n c) ∧ w.heap.size ≤ b ∧ Wd w' (.slice (some ⟨b, o, none⟩) n c) (dig (x - y)) ∧ Below w.heap.size w w' := by
  have hly := dig_len_mono hyx
  obtain ⟨A, c, rfl, -, -⟩ := hx.shape
  obtain ⟨A', c', rfl, -, -⟩ := hy.shape
  obtain ⟨nx, hnx⟩ : ∃ n, n = (dig x).length := ⟨_, rfl⟩
  obtain ⟨ny, hny⟩ : ∃ n, n = (dig y).length := ⟨_, rfl⟩
  rw [← hnx] at lx hx hly ⊢
  rw [← hny] at hy hly ⊢
  have Hx := Lib.hid hx; clear hx
  have Hy := Lib.hid hy; clear hy
  have Hnx := Lib.hid hnx; clear hnx
  have Hny := Lib.hid hny; clear hny
  have Hyx := Lib.hid hyx; clear hyx
  have hmk : ∀ w, (Instr.makeSlice 53 (.int .i64 (nx : Int)) (.int .i64 (nx : Int))).run Tryz.prog w = .ok (.slice (some ⟨w.heap.size, 0, none⟩) nx nx) (w.alloc (.cells (U32s (zeros nx)) 66)) := fun w => make_u32 53 Tryz.underlying53 nx (by omega) w
  go_enter Tryz.func67, Tryz.ntmps67
  go_wp2_with fail
  go_loopw [6, 14] (fun cr i wr => ∃ (k cv : Nat) (L : List Nat), i = .int .i64 k ∧ k ≤ nx ∧ cr = .int .u64 cv ∧ cv ≤ 1 ∧ L.length = nx ∧ Ok L ∧ Blk wr w.heap.size L ∧ Below w.heap.size w wr ∧
      val (L.take k) + y % 4294967296 ^ k = x % 4294967296 ^ k + 4294967296 ^ k * cv) (fun _ i _ => nx - (intOf i).toNat)
  case atStart => exact ⟨0, 0, zeros nx, rfl, Nat.zero_le _, rfl, by omega, zeros_length _, zeros_ok _, heap_alloc_new w _, below_alloc _ _, by simp [val, Nat.mod_one]⟩
  case round =>
    obtain ⟨k, cv, L, rfl, hk, rfl, hcv, hL, hok, hblk, hbel, hval⟩ := hrel
    have HV := Lib.hid hval; clear hval
    have HL := Lib.hid hL; clear hL
    have HX := Lib.hid (Hx.out.below hbel)
    have HY := Lib.hid (Hy.out.below hbel)
    by_cases hlt : k < nx
    · have hfr := hblk.frozen k
      have hce := hblk.cell (i := k) (by rw [HL.out]; omega)
      have hB := Lib.hid hblk; clear hblk
      obtain ⟨b, off, rfl, hb, hc⟩ := Wd.cell (k := k) HX.out hlt
      have hxk := hc k hlt
      clear hc
      obtain ⟨p, hp⟩ : ∃ p, p = dg x k := ⟨_, rfl⟩
      have hpl : p < 4294967296 := by rw [hp]; exact dg_lt _ _
      rw [← hp] at hxk
      have Hp := Lib.hid hp; clear hp
      by_cases hky : k < ny
      · obtain ⟨b', off', rfl, hb', hc'⟩ := Wd.cell (k := k) HY.out hky
        have hyk := hc' k hky
        clear hc'
        obtain ⟨q, hq⟩ : ∃ q, q = dg y k := ⟨_, rfl⟩
        have hql : q < 4294967296 := by rw [hq]; exact dg_lt _ _
        rw [← hq] at hyk
        have Hq := Lib.hid hq; clear hq
        by_cases hge : q + cv ≤ p
        · go_wp2_with fail
          have w1 : ((p : Int) - cv - q) = ((p - cv - q : Nat) : Int) := by omega
          have w2 : ((p : Int) - cv - q) / 9223372036854775808 = ((0 : Nat) : Int) := by omega
          rw [w2, w1]
          go_roundw
          case rel =>
            refine ⟨k + 1, 0, L.set k (p - cv - q), by go_num, by omega, rfl, by omega, by rw [List.length_set, HL.out], hok.set (by omega), hB.out.set_ k _, hbel.setCell (Nat.le_refl _) _, ?_⟩
            rw [val_take_set (by rw [HL.out]; omega)]
            exact sub_round HV.out hcv (by rw [← Hp.out, ← Hq.out]; omega) (by rw [← Hp.out, ← Hq.out]; rw [if_neg (by omega)])
          case measure => simp [intOf]; omega
        · have hlt2 : p < q + cv := by omega
          go_wp2_with fail
          have w1 : (IntKind.u64.wrap (IntKind.u64.wrap ((p : Int) - cv) - q)) % 4294967296 = ((p + 4294967296 - q - cv : Nat) : Int) := by rw [IntKind.wrap_u64, IntKind.wrap_u64]; omega
          have w2 : (IntKind.u64.wrap (IntKind.u64.wrap ((p : Int) - cv) - q)) / 9223372036854775808 = ((1 : Nat) : Int) := by rw [IntKind.wrap_u64, IntKind.wrap_u64]; omega
          rw [w1, w2]
          go_roundw
          case rel =>
            refine ⟨k + 1, 1, L.set k (p + 4294967296 - q - cv), by go_num, by omega, rfl, by omega, by rw [List.length_set, HL.out], hok.set (by omega), hB.out.set_ k _, hbel.setCell (Nat.le_refl _) _, ?_⟩
            rw [val_take_set (by rw [HL.out]; omega)]
            exact sub_round HV.out hcv (by rw [← Hp.out, ← Hq.out]; omega) (by rw [← Hp.out, ← Hq.out]; rw [if_pos (by omega)])
          case measure => simp [intOf]; omega
      · have hq : 0 = dg y k := by rw [dg_zero (by rw [← Hny.out]; omega)]
        have Hq := Lib.hid hq; clear hq
        by_cases hge : cv ≤ p
        · go_wp2_with fail
          have w1 : ((p : Int) - cv) = ((p - cv : Nat) : Int) := by omega
          have w2 : ((p : Int) - cv) / 9223372036854775808 = ((0 : Nat) : Int) := by omega
          rw [w2, w1]
          go_roundw
          case rel =>
            refine ⟨k + 1, 0, L.set k (p - cv), by go_num, by omega, rfl, by omega, by rw [List.length_set, HL.out], hok.set (by omega), hB.out.set_ k _, hbel.setCell (Nat.le_refl _) _, ?_⟩
            rw [val_take_set (by rw [HL.out]; omega)]
            exact sub_round HV.out hcv (by rw [← Hp.out, ← Hq.out]; omega) (by rw [← Hp.out, ← Hq.out]; rw [if_neg (by omega)])
          case measure => simp [intOf]; omega
        · have hlt2 : p < cv := by omega
          go_wp2_with fail
          have w1 : (IntKind.u64.wrap ((p : Int) - cv)) % 4294967296 = ((p + 4294967296 - cv : Nat) : Int) := by rw [IntKind.wrap_u64]; omega
          have w2 : (IntKind.u64.wrap ((p : Int) - cv)) / 9223372036854775808 = ((1 : Nat) : Int) := by rw [IntKind.wrap_u64]; omega
          rw [w1, w2]
          go_roundw
          case rel =>
            refine ⟨k + 1, 1, L.set k (p + 4294967296 - cv), by go_num, by omega, rfl, by omega, by rw [List.length_set, HL.out], hok.set (by omega), hB.out.set_ k _, hbel.setCell (Nat.le_refl _) _, ?_⟩
            rw [val_take_set (by rw [HL.out]; omega)]
            exact sub_round HV.out hcv (by rw [← Hp.out, ← Hq.out]; omega) (by rw [← Hp.out, ← Hq.out]; rw [if_pos (by omega)])
          case measure => simp [intOf]; omega
    · have hkn : k = nx := by omega
      subst hkn
      have hB := Lib.hid hblk; clear hblk
      have hv : val L = x - y := by
        have e := HV.out
        rw [List.take_of_length_le (by rw [HL.out]; omega), mod_len (x := x) (by rw [← Hnx.out]; omega)] at e
        have hxl := val_lt hok
        rw [HL.out] at hxl
        have hyy : y % 4294967296 ^ k = y := mod_len (by rw [← Hny.out]; exact hly)
        rw [hyy] at e
        have := Hyx.out
        rcases (by omega : cv = 0 ∨ cv = 1) with h | h
        · subst h; omega
        · subst h; have hlt := lt_of_dig_len (n := x) (k := k) (by rw [← Hnx.out]; omega); omega
      have hw2 := hB.out.wd hok (by rw [HL.out]; omega) k (by rw [HL.out]; omega) (by omega)
      rw [HL.out] at hw2
      have Hw := Lib.hid hw2; clear hw2
      have Hv := Lib.hid hv; clear hv
      go_wp2_with fail
      refine (trimR_at _ _ _ _ _ Hw.out).mono ?_
      rintro e w' ⟨kr, rfl, hr, rfl⟩
      rw [Hv.out] at hr
      go_wp2
      go_ret
      exact ⟨_, _, _, _, rfl, Nat.le_refl _, hr, hbel⟩
end Go.Proofs.YtmlopkkbgpfdnaaGreatDoor
