/- Walks: newFraction, opposite, fractionOf, ratOf. · Walks: the operations of fractions. -/
import Derived.Test.YtmlopkkbgpfdnaaGreatDoorM11
import Derived.RegionTactic
import Derived.ChangeAlike
namespace Go.Proofs.YtmlopkkbgpfdnaaGreatDoor
open Go.RowKit

theorem FB.far {X : World} {g k i j : Nat} {u v : Value} (h : FB X g) (hne : g ≠ k) : FB ((X.setCell ⟨k, i, none⟩ u).setCell ⟨k, j, none⟩ v) g := by
  obtain ⟨b1, A1, n1, c1, b2, A2, n2, c2, t, h⟩ := h
  refine ⟨b1, A1, n1, c1, b2, A2, n2, c2, t, ?_⟩
  rw [Below.heap_setCell _ _ _ _ hne, Below.heap_setCell _ _ _ _ hne]; exact h
set_option maxHeartbeats 800000 in
set_option maxRecDepth 100000 in
theorem newFraction_any (r t : Int) (u u' : Value) (w : World) (L : Nat) (hx : ZV w u r) (hy : ZV w u' t) (ht : t ≠ 0) (lx : (dig r.natAbs).length ≤ L) (ly : (dig t.natAbs).length ≤ L) (hL : 2 ≤ L) (hL2 : L ≤ 300000) :
    Calls Tryz.prog 22 #[u, u'] w (RetF w (r / nfg r t) (t / nfg r t)) := by
  obtain ⟨Ax, nx, cx, rfl, -, -, -⟩ := hx.open_
  obtain ⟨Ay, ny, cy, rfl, -, -, -⟩ := hy.open_
  obtain ⟨bx, hbx⟩ : ∃ b, b = decide (r < 0) := ⟨_, rfl⟩
  obtain ⟨bY, hby⟩ : ∃ b, b = decide (t < 0) := ⟨_, rfl⟩
  rw [← hbx] at hx ⊢
  rw [← hby] at hy ⊢
  obtain ⟨vd, hvd⟩ : ∃ vd, vd = nfg r t := ⟨_, rfl⟩
  rw [← hvd]
  have HVD := Lib.hid (show vd ≠ 0 ∧ (dig vd.natAbs).length ≤ L by rw [hvd]; exact ⟨nfg_ne ht, gcd_lenF ht ly⟩)
  have HVN := Lib.hid hvd
  clear hvd
  obtain ⟨W1, hW1⟩ : ∃ W1, W1 = ((w.alloc (.cells #[.bool bx, .slice Ax nx cx] 44)).alloc (.cells #[.bool bY, .slice Ay ny cy] 44)).alloc (.cells #[.bool false, .slice none 0 0, .bool false, .slice none 0 0] 49) := ⟨_, rfl⟩
  have e1 : Ext w W1 := by rw [hW1]; exact (((Ext.refl w).alc _).alc _).alc _
  have p1 : HZ (w.alloc (.cells #[.bool bx, .slice Ax nx cx] 44)) w.heap.size r := HZ.lit w bx Ax nx cx 44 hx
  have p2 : HZ ((w.alloc (.cells #[.bool bx, .slice Ax nx cx] 44)).alloc (.cells #[.bool bY, .slice Ay ny cy] 44)) (w.heap.size + 1) t := by
    have := HZ.lit (w.alloc (.cells #[.bool bx, .slice Ax nx cx] 44)) bY Ay ny cy 44 (hy.ext ((Ext.refl _).alc _))
    rwa [World.size_alloc] at this
  have PX : Hid (HZ W1 w.heap.size r) := Lib.hid (by rw [hW1]; exact p1.ext p1.lt (((Ext.refl _).alc _).alc _))
  have PY : Hid (HZ W1 (w.heap.size + 1) t) := Lib.hid (by rw [hW1]; exact p2.ext p2.lt ((Ext.refl _).alc _))
  have R4 : Hid (FB W1 (w.heap.size + 1 + 1)) := Lib.hid (by
    have := FB.new ((w.alloc (.cells #[.bool bx, .slice Ax nx cx] 44)).alloc (.cells #[.bool bY, .slice Ay ny cy] 44)) false none 0 0 false none 0 0 49
    rw [World.size_alloc, World.size_alloc] at this
    rw [hW1]; exact this)
  have E1 := Lib.hid e1; have HW1 := Lib.hid hW1; have HLL := Lib.hid (And.intro lx ly); have HBY := Lib.hid hby
  have zl := R4.out.lt
  clear e1 p1 p2 hW1 hx hy lx ly hbx hby
  go_enter Tryz.func22, Tryz.ntmps22
  go_upto_region 1 with fail
  rw [← HW1.out]
  clear HW1
  obtain ⟨b1, A1, n1, c1, k0, k1, kz⟩ := PX.out
  obtain ⟨b2, A2, n2, c2, j0, j1, jz⟩ := PY.out
  have GC := Lib.hid (gcdZ_any r t _ _ _ L kz jz HLL.out.1 HLL.out.2 hL (by omega))
  have JZ0 := Lib.hid jz.words.1
  clear kz jz
  obtain ⟨vg, hvg⟩ : ∃ vg : Int, vg = ((Int.gcd r t : Nat) : Int) := ⟨_, rfl⟩
  rw [← hvg] at GC
  have HG := Lib.hid hvg
  clear hvg
  go_wp2_with fail
  refine (asAgg GC.out).mono ?_
  rintro e w2 ⟨b5, A5, n5, c5, rfl, hz, x2⟩
  replace x2 : Ext W1 w2 := x2
  have Z5 := Lib.hid hz; have X2 := Lib.hid x2; clear hz x2 k0 k1 GC
  go_upto_region 2 with fail
  obtain ⟨W2, hW2⟩ : ∃ W2, W2 = w2.alloc (Obj.cells #[.bool b5, .slice A5 n5 c5] 44) := ⟨_, rfl⟩
  have e2 : Ext W1 W2 := by rw [hW2]; exact X2.out.alc _
  have i5 : HZ W2 w2.heap.size vg := by rw [hW2]; exact HZ.lit w2 b5 A5 n5 c5 44 Z5.out
  have r5 : RB W2 w2.heap.size := by rw [hW2]; exact RB.c1 w2 b5 A5 n5 c5 44
  rw [← hW2]
  obtain ⟨g5, hg5⟩ : ∃ k, k = w2.heap.size := ⟨_, rfl⟩
  have l5 : w.heap.size + 1 + 1 < g5 := by rw [hg5]; exact Nat.lt_of_lt_of_le zl X2.out.size
  rw [← hg5] at i5 r5 ⊢
  have j0' := keepAt e2 (by omega) j0
  have PX := Lib.hid (PX.out.ext (by omega) e2); have PY := Lib.hid (PY.out.ext (by omega) e2); have R4 := Lib.hid (R4.out.ext e2); have E2 := Lib.hid (E1.out.trans e2)
  have I5 := Lib.hid i5; have R5 := Lib.hid r5; have zl2 := i5.lt
  clear e2 i5 r5 hW2 hg5 X2 Z5 j0 j1 E1
  by_cases hneg : t < 0
  · rw [show b2 = true by rw [JZ0.out]; simp [hneg]] at j0'
    have hng : vd = -vg := by rw [HVN.out]; unfold nfg; rw [if_pos hneg, HG.out]
    have HNG := Lib.hid hng
    clear hng
    go_upto_region 3 with fail
    obtain ⟨b6, A6, n6, c6, k0, k1, kz⟩ := I5.out
    have OP := Lib.hid (oppositeZ_any vg _ _ kz)
    clear kz j0'
    go_wp2_with fail
    refine (asAgg OP.out).mono ?_
    rintro e w3 ⟨b7, A7, n7, c7, rfl, hz, x3⟩
    replace x3 : Ext W2 w3 := x3
    have q5 := R5.out.ext x3
    obtain ⟨_, _, _, _, g30, g31, g32, g33⟩ := q5.facts
    obtain ⟨W3, hW3⟩ : ∃ W3, W3 = (w3.setCell ⟨g5, 0, none⟩ (.bool b7)).setCell ⟨g5, 1, none⟩ (.slice A7 n7 c7) := ⟨_, rfl⟩
    have i5 : HZ W3 g5 (-vg) := by rw [hW3]; exact HZ.put q5 hz
    have PX := Lib.hid (show HZ W3 w.heap.size r by rw [hW3]; exact (PX.out.ext (by omega) x3).far q5 (by omega) _ _)
    have PY := Lib.hid (show HZ W3 (w.heap.size + 1) t by rw [hW3]; exact (PY.out.ext (by omega) x3).far q5 (by omega) _ _)
    have R4 := Lib.hid (show FB W3 (w.heap.size + 1 + 1) by rw [hW3]; exact (R4.out.ext x3).far (by omega))
    have E3 : Hid (Ext w W3) := Lib.hid (by rw [hW3]; exact below_set2 (Ext.below (E2.out.trans x3)) (by omega) _ _)
    rw [← HNG.out] at i5
    have I5 := Lib.hid i5; have HW3 := Lib.hid hW3
    have lg := R4.out.lt; have lg5 := i5.lt
    clear x3 hz i5 hW3 q5 k0 k1 OP R5 E2 HNG
    go_upto_region 4 with fail
    rw [← HW3.out]
    clear g30 g31 g32 g33 HW3
    refine wp_region_noPanic ?_
    refine wp_pool 7 [some 13, some 14, some 15, some 16, some 17, some 18, some 19] [] [] [(fun (v : Value) (X : World) => ∃ b A n c, v = .agg #[.bool b, .slice A n c] ∧ ZV X (.agg #[.bool b, .slice A n c]) (r)), (fun (v : Value) (X : World) => ∃ b A n c, v = .agg #[.bool b, .slice A n c] ∧ ZV X (.agg #[.bool b, .slice A n c]) (vd)), (fun (v : Value) (X : World) => ∃ b A n c, v = .agg #[.bool b, .slice A n c] ∧ ZV X (.agg #[.bool b, .slice A n c]) (r / vd)), (fun (v : Value) (X : World) => ∃ b A n c, v = .agg #[.bool b, .slice A n c] ∧ ZV X (.agg #[.bool b, .slice A n c]) (t)), (fun (v : Value) (X : World) => ∃ b A n c, v = .agg #[.bool b, .slice A n c] ∧ ZV X (.agg #[.bool b, .slice A n c]) (vd)), (fun (v : Value) (X : World) => ∃ b A n c, v = .agg #[.bool b, .slice A n c] ∧ ZV X (.agg #[.bool b, .slice A n c]) (t / vd)), (fun (v : Value) (X : World) => ∃ b A n c b' A' n' c', v = .agg #[.bool b, .slice A n c, .bool b', .slice A' n' c'] ∧ ZV X (.agg #[.bool b, .slice A n c]) (r / vd) ∧ ZV X (.agg #[.bool b', .slice A' n' c']) (t / vd))] [noF, noF, noF, noF, noF, noF, noF] (by kernel_rfl) (by kernel_rfl) (by kernel_rfl) (by kernel_rfl) (by kernel_rfl) (by kernel_rfl) (by kernel_rfl) (by kernel_rfl) (fun _ _ _ _ h => h) ⟨(fun _ _ _ e ⟨b, A, n, c, h1, h2⟩ => ⟨b, A, n, c, h1, h2.ext e⟩), (fun _ _ _ e ⟨b, A, n, c, h1, h2⟩ => ⟨b, A, n, c, h1, h2.ext e⟩), (fun _ _ _ e ⟨b, A, n, c, h1, h2⟩ => ⟨b, A, n, c, h1, h2.ext e⟩), (fun _ _ _ e ⟨b, A, n, c, h1, h2⟩ => ⟨b, A, n, c, h1, h2.ext e⟩), (fun _ _ _ e ⟨b, A, n, c, h1, h2⟩ => ⟨b, A, n, c, h1, h2.ext e⟩), (fun _ _ _ e ⟨b, A, n, c, h1, h2⟩ => ⟨b, A, n, c, h1, h2.ext e⟩), (fun _ _ _ e ⟨b, A, n, c, b', A', n', c', h1, h2, h3⟩ => ⟨b, A, n, c, b', A', n', c', h1, h2.ext e, h3.ext e⟩), True.intro⟩ ?steps ?done
    case steps =>
      simp only [List.take_succ_cons, List.take_zero]
      refine Steps.cons (fun (v : Value) (X : World) => ∃ b A n c, v = .agg #[.bool b, .slice A n c] ∧ ZV X (.agg #[.bool b, .slice A n c]) (r)) [] rfl (by kernel_rfl) rfl (by kernel_rfl) (fun y X ex0 hf K hK => ?_) ?_
      · clear hf
        have ex := (Ext.drw (Ext.refl _)).trans ex0
        refine Box.mk ?_
        simp only [fill, Act.put, Nat.reduceAdd, List.setIfInBounds_toArray, List.set_cons_zero, List.set_cons_succ] at hK ⊢
        obtain ⟨bl, Al, nl, cl, k0, k1, kz⟩ := (PX.out.ext (by omega) ex)
        go_simp
        exact hK.out _ _ ⟨_, _, _, _, rfl, kz⟩ (Ext.refl _) (fun b hb => by cases hb)
      refine Steps.cons (fun (v : Value) (X : World) => ∃ b A n c, v = .agg #[.bool b, .slice A n c] ∧ ZV X (.agg #[.bool b, .slice A n c]) (vd)) [] rfl (by kernel_rfl) rfl (by kernel_rfl) (fun y X ex0 hf K hK => ?_) ?_
      · clear hf
        have ex := (Ext.drw (Ext.refl _)).trans ex0
        refine Box.mk ?_
        simp only [fill, Act.put, Nat.reduceAdd, List.setIfInBounds_toArray, List.set_cons_zero, List.set_cons_succ] at hK ⊢
        obtain ⟨bl, Al, nl, cl, k0, k1, kz⟩ := (I5.out.ext (by omega) ex)
        go_simp
        exact hK.out _ _ ⟨_, _, _, _, rfl, kz⟩ (Ext.refl _) (fun b hb => by cases hb)
      refine Steps.cons (fun (v : Value) (X : World) => ∃ b A n c, v = .agg #[.bool b, .slice A n c] ∧ ZV X (.agg #[.bool b, .slice A n c]) (r / vd)) [0, 1] rfl (by kernel_rfl) rfl (by kernel_rfl) (fun y X ex0 hf K hK => ?_) ?_
      · obtain ⟨b0, A0, n0, c0, h0, z0⟩ : ((fun (v : Value) (X : World) => ∃ b A n c, v = .agg #[.bool b, .slice A n c] ∧ ZV X (.agg #[.bool b, .slice A n c]) (r))) (y 0) X := hf.1
        obtain ⟨b1, A1, n1, c1, h1, z1⟩ : ((fun (v : Value) (X : World) => ∃ b A n c, v = .agg #[.bool b, .slice A n c] ∧ ZV X (.agg #[.bool b, .slice A n c]) (vd))) (y 1) X := hf.2.1
        clear hf
        have ex := (Ext.drw (Ext.refl _)).trans ex0
        refine Box.mk ?_
        simp only [fill, Act.put, Nat.reduceAdd, List.setIfInBounds_toArray, List.set_cons_zero, List.set_cons_succ, h0, h1] at hK ⊢
        go_simp
        refine (asAgg (overZ_any _ _ _ _ _ z0 z1 (by have := HLL.out.1; omega) (by have := HVD.out.2; omega) HVD.out.1)).mono ?_
        rintro e V ⟨b9, A9, n9, c9, rfl, hz, hb⟩
        try go_wp2_with fail
        exact hK.out _ _ ⟨_, _, _, _, rfl, hz⟩ hb (fun b hb => by cases hb)
      refine Steps.cons (fun (v : Value) (X : World) => ∃ b A n c, v = .agg #[.bool b, .slice A n c] ∧ ZV X (.agg #[.bool b, .slice A n c]) (t)) [] rfl (by kernel_rfl) rfl (by kernel_rfl) (fun y X ex0 hf K hK => ?_) ?_
      · clear hf
        have ex := (Ext.drw (Ext.refl _)).trans ex0
        refine Box.mk ?_
        simp only [fill, Act.put, Nat.reduceAdd, List.setIfInBounds_toArray, List.set_cons_zero, List.set_cons_succ] at hK ⊢
        obtain ⟨bl, Al, nl, cl, k0, k1, kz⟩ := (PY.out.ext (by omega) ex)
        go_simp
        exact hK.out _ _ ⟨_, _, _, _, rfl, kz⟩ (Ext.refl _) (fun b hb => by cases hb)
      refine Steps.cons (fun (v : Value) (X : World) => ∃ b A n c, v = .agg #[.bool b, .slice A n c] ∧ ZV X (.agg #[.bool b, .slice A n c]) (vd)) [] rfl (by kernel_rfl) rfl (by kernel_rfl) (fun y X ex0 hf K hK => ?_) ?_
      · clear hf
        have ex := (Ext.drw (Ext.refl _)).trans ex0
        refine Box.mk ?_
        simp only [fill, Act.put, Nat.reduceAdd, List.setIfInBounds_toArray, List.set_cons_zero, List.set_cons_succ] at hK ⊢
        obtain ⟨bl, Al, nl, cl, k0, k1, kz⟩ := (I5.out.ext (by omega) ex)
        go_simp
        exact hK.out _ _ ⟨_, _, _, _, rfl, kz⟩ (Ext.refl _) (fun b hb => by cases hb)
      refine Steps.cons (fun (v : Value) (X : World) => ∃ b A n c, v = .agg #[.bool b, .slice A n c] ∧ ZV X (.agg #[.bool b, .slice A n c]) (t / vd)) [3, 4, 2] rfl (by kernel_rfl) rfl (by kernel_rfl) (fun y X ex0 hf K hK => ?_) ?_
      · obtain ⟨b3, A3, n3, c3, h3, z3⟩ : ((fun (v : Value) (X : World) => ∃ b A n c, v = .agg #[.bool b, .slice A n c] ∧ ZV X (.agg #[.bool b, .slice A n c]) (t))) (y 3) X := hf.1
        obtain ⟨b4, A4, n4, c4, h4, z4⟩ : ((fun (v : Value) (X : World) => ∃ b A n c, v = .agg #[.bool b, .slice A n c] ∧ ZV X (.agg #[.bool b, .slice A n c]) (vd))) (y 4) X := hf.2.1
        obtain ⟨b2, A2, n2, c2, h2, z2⟩ : ((fun (v : Value) (X : World) => ∃ b A n c, v = .agg #[.bool b, .slice A n c] ∧ ZV X (.agg #[.bool b, .slice A n c]) (r / vd))) (y 2) X := hf.2.2.1
        clear hf
        have ex := (Ext.drw (Ext.refl _)).trans ex0
        refine Box.mk ?_
        simp only [fill, Act.put, Nat.reduceAdd, List.setIfInBounds_toArray, List.set_cons_zero, List.set_cons_succ, h3, h4, h2] at hK ⊢
        go_simp
        refine (asAgg (overZ_any _ _ _ _ _ z3 z4 (by have := HLL.out.2; omega) (by have := HVD.out.2; omega) HVD.out.1)).mono ?_
        rintro e V ⟨b9, A9, n9, c9, rfl, hz, hb⟩
        try go_wp2_with fail
        exact hK.out _ _ ⟨_, _, _, _, rfl, hz⟩ hb (fun b hb => by cases hb)
      refine Steps.cons (fun (v : Value) (X : World) => ∃ b A n c b' A' n' c', v = .agg #[.bool b, .slice A n c, .bool b', .slice A' n' c'] ∧ ZV X (.agg #[.bool b, .slice A n c]) (r / vd) ∧ ZV X (.agg #[.bool b', .slice A' n' c']) (t / vd)) [2, 5] rfl (by kernel_rfl) rfl (by kernel_rfl) (fun y X ex0 hf K hK => ?_) ?_
      · obtain ⟨b2, A2, n2, c2, h2, z2⟩ : ((fun (v : Value) (X : World) => ∃ b A n c, v = .agg #[.bool b, .slice A n c] ∧ ZV X (.agg #[.bool b, .slice A n c]) (r / vd))) (y 2) X := hf.1
        obtain ⟨b5, A5, n5, c5, h5, z5⟩ : ((fun (v : Value) (X : World) => ∃ b A n c, v = .agg #[.bool b, .slice A n c] ∧ ZV X (.agg #[.bool b, .slice A n c]) (t / vd))) (y 5) X := hf.2.1
        clear hf
        have ex := (Ext.drw (Ext.refl _)).trans ex0
        refine Box.mk ?_
        simp only [fill, Act.put, Nat.reduceAdd, List.setIfInBounds_toArray, List.set_cons_zero, List.set_cons_succ, h2, h5] at hK ⊢
        go_simp
        exact hK.out _ _ ⟨_, _, _, _, _, _, _, _, rfl, z2, z5⟩ (Ext.refl _) (fun b hb => by cases hb)
      exact Steps.nil
    case done =>
      intro y X ex hf hlt hsep
      obtain ⟨b0, A0, n0, c0, h0, z0⟩ : ((fun (v : Value) (X : World) => ∃ b A n c, v = .agg #[.bool b, .slice A n c] ∧ ZV X (.agg #[.bool b, .slice A n c]) (r))) (y 0) X := hf.1
      obtain ⟨b1, A1, n1, c1, h1, z1⟩ : ((fun (v : Value) (X : World) => ∃ b A n c, v = .agg #[.bool b, .slice A n c] ∧ ZV X (.agg #[.bool b, .slice A n c]) (vd))) (y 1) X := hf.2.1
      obtain ⟨b2, A2, n2, c2, h2, z2⟩ : ((fun (v : Value) (X : World) => ∃ b A n c, v = .agg #[.bool b, .slice A n c] ∧ ZV X (.agg #[.bool b, .slice A n c]) (r / vd))) (y 2) X := hf.2.2.1
      obtain ⟨b3, A3, n3, c3, h3, z3⟩ : ((fun (v : Value) (X : World) => ∃ b A n c, v = .agg #[.bool b, .slice A n c] ∧ ZV X (.agg #[.bool b, .slice A n c]) (t))) (y 3) X := hf.2.2.2.1
      obtain ⟨b4, A4, n4, c4, h4, z4⟩ : ((fun (v : Value) (X : World) => ∃ b A n c, v = .agg #[.bool b, .slice A n c] ∧ ZV X (.agg #[.bool b, .slice A n c]) (vd))) (y 4) X := hf.2.2.2.2.1
      obtain ⟨b5, A5, n5, c5, h5, z5⟩ : ((fun (v : Value) (X : World) => ∃ b A n c, v = .agg #[.bool b, .slice A n c] ∧ ZV X (.agg #[.bool b, .slice A n c]) (t / vd))) (y 5) X := hf.2.2.2.2.2.1
      obtain ⟨b6, A6, n6, c6, bb6, AA6, nn6, cc6, h6, z6, y6⟩ : ((fun (v : Value) (X : World) => ∃ b A n c b' A' n' c', v = .agg #[.bool b, .slice A n c, .bool b', .slice A' n' c'] ∧ ZV X (.agg #[.bool b, .slice A n c]) (r / vd) ∧ ZV X (.agg #[.bool b', .slice A' n' c']) (t / vd))) (y 6) X := hf.2.2.2.2.2.2.1
      clear hf
      clear hsep hlt
      refine Box.mk ?_
      simp only [List.drop_succ_cons, List.drop_zero, fill, Act.put, Nat.reduceAdd, List.setIfInBounds_toArray, List.set_cons_zero, List.set_cons_succ, h0, h1, h2, h3, h4, h5, h6]
      clear h0 h1 h2 h3 h4 h5 h6
      have r4 := R4.out.ext ex
      obtain ⟨_, _, _, _, k40, k41, k42, k43, k44, k45, k46, k47⟩ := put4_walk r4 (.bool b6) (.slice A6 n6 c6) (.bool bb6)
      obtain ⟨W', hW'⟩ : ∃ W', W' = put4 X (w.heap.size + 1 + 1) (.bool b6) (.slice A6 n6 c6) (.bool bb6) (.slice AA6 nn6 cc6) := ⟨_, rfl⟩
      obtain ⟨f0, f1, f2, f3⟩ := put4_cells r4 (.bool b6) (.slice A6 n6 c6) (.bool bb6) (.slice AA6 nn6 cc6)
      have hz1 := (z6).put4 r4 (.bool b6) (.slice A6 n6 c6) (.bool bb6) (.slice AA6 nn6 cc6)
      rw [← hW'] at hz1
      have hz2 := (y6).put4 r4 (.bool b6) (.slice A6 n6 c6) (.bool bb6) (.slice AA6 nn6 cc6)
      rw [← hW'] at hz2
      have hbf : Below w.heap.size w W' := by rw [hW']; exact put4_below (Ext.below (E3.out.trans ex)) (by omega) (.bool b6) (.slice A6 n6 c6) (.bool bb6) (.slice AA6 nn6 cc6)
      rw [← hW'] at f0 f1 f2 f3
      unfold put4 at hW'
      have HG := Lib.hid (And.intro hz1 (And.intro hz2 (And.intro hbf (And.intro f0 (And.intro f1 (And.intro f2 f3))))))
      have HW' := Lib.hid hW'
      clear hz1 hz2 hbf f0 f1 f2 f3 hW' ex z0 z1 z2 z3 z4 z5 z6 y6 r4
      go_wp2_with fail
      refine NoPanic.normal ?_
      go_wp2
      rw [← HW'.out]
      obtain ⟨hz1, hz2, hbf, f0, f1, f2, f3⟩ := HG.out
      exact bodyPost_ret (v := .agg #[.bool b6, .slice A6 n6 c6, .bool bb6, .slice AA6 nn6 cc6]) (by simp [results, Tryz.results22, go_sem, f0, f1, f2, f3]) rfl ⟨_, _, _, _, _, _, _, _, rfl, hz1, hz2, hbf⟩
  · rw [show b2 = false by rw [JZ0.out]; simp [hneg]] at j0'
    have hng : vd = vg := by rw [HVN.out]; unfold nfg; rw [if_neg hneg, HG.out]
    have i5 := I5.out
    rw [← hng] at i5
    have I5 := Lib.hid i5
    have lg := R4.out.lt
    clear hng i5 R5
    go_upto_region 4 with fail
    clear j0'
    refine wp_region_noPanic ?_
    refine wp_pool 7 [some 13, some 14, some 15, some 16, some 17, some 18, some 19] [] [] [(fun (v : Value) (X : World) => ∃ b A n c, v = .agg #[.bool b, .slice A n c] ∧ ZV X (.agg #[.bool b, .slice A n c]) (r)), (fun (v : Value) (X : World) => ∃ b A n c, v = .agg #[.bool b, .slice A n c] ∧ ZV X (.agg #[.bool b, .slice A n c]) (vd)), (fun (v : Value) (X : World) => ∃ b A n c, v = .agg #[.bool b, .slice A n c] ∧ ZV X (.agg #[.bool b, .slice A n c]) (r / vd)), (fun (v : Value) (X : World) => ∃ b A n c, v = .agg #[.bool b, .slice A n c] ∧ ZV X (.agg #[.bool b, .slice A n c]) (t)), (fun (v : Value) (X : World) => ∃ b A n c, v = .agg #[.bool b, .slice A n c] ∧ ZV X (.agg #[.bool b, .slice A n c]) (vd)), (fun (v : Value) (X : World) => ∃ b A n c, v = .agg #[.bool b, .slice A n c] ∧ ZV X (.agg #[.bool b, .slice A n c]) (t / vd)), (fun (v : Value) (X : World) => ∃ b A n c b' A' n' c', v = .agg #[.bool b, .slice A n c, .bool b', .slice A' n' c'] ∧ ZV X (.agg #[.bool b, .slice A n c]) (r / vd) ∧ ZV X (.agg #[.bool b', .slice A' n' c']) (t / vd))] [noF, noF, noF, noF, noF, noF, noF] (by kernel_rfl) (by kernel_rfl) (by kernel_rfl) (by kernel_rfl) (by kernel_rfl) (by kernel_rfl) (by kernel_rfl) (by kernel_rfl) (fun _ _ _ _ h => h) ⟨(fun _ _ _ e ⟨b, A, n, c, h1, h2⟩ => ⟨b, A, n, c, h1, h2.ext e⟩), (fun _ _ _ e ⟨b, A, n, c, h1, h2⟩ => ⟨b, A, n, c, h1, h2.ext e⟩), (fun _ _ _ e ⟨b, A, n, c, h1, h2⟩ => ⟨b, A, n, c, h1, h2.ext e⟩), (fun _ _ _ e ⟨b, A, n, c, h1, h2⟩ => ⟨b, A, n, c, h1, h2.ext e⟩), (fun _ _ _ e ⟨b, A, n, c, h1, h2⟩ => ⟨b, A, n, c, h1, h2.ext e⟩), (fun _ _ _ e ⟨b, A, n, c, h1, h2⟩ => ⟨b, A, n, c, h1, h2.ext e⟩), (fun _ _ _ e ⟨b, A, n, c, b', A', n', c', h1, h2, h3⟩ => ⟨b, A, n, c, b', A', n', c', h1, h2.ext e, h3.ext e⟩), True.intro⟩ ?steps ?done
    case steps =>
      simp only [List.take_succ_cons, List.take_zero]
      refine Steps.cons (fun (v : Value) (X : World) => ∃ b A n c, v = .agg #[.bool b, .slice A n c] ∧ ZV X (.agg #[.bool b, .slice A n c]) (r)) [] rfl (by kernel_rfl) rfl (by kernel_rfl) (fun y X ex0 hf K hK => ?_) ?_
      · clear hf
        have ex := (Ext.drw (Ext.refl _)).trans ex0
        refine Box.mk ?_
        simp only [fill, Act.put, Nat.reduceAdd, List.setIfInBounds_toArray, List.set_cons_zero, List.set_cons_succ] at hK ⊢
        obtain ⟨bl, Al, nl, cl, k0, k1, kz⟩ := (PX.out.ext (by omega) ex)
        go_simp
        exact hK.out _ _ ⟨_, _, _, _, rfl, kz⟩ (Ext.refl _) (fun b hb => by cases hb)
      refine Steps.cons (fun (v : Value) (X : World) => ∃ b A n c, v = .agg #[.bool b, .slice A n c] ∧ ZV X (.agg #[.bool b, .slice A n c]) (vd)) [] rfl (by kernel_rfl) rfl (by kernel_rfl) (fun y X ex0 hf K hK => ?_) ?_
      · clear hf
        have ex := (Ext.drw (Ext.refl _)).trans ex0
        refine Box.mk ?_
        simp only [fill, Act.put, Nat.reduceAdd, List.setIfInBounds_toArray, List.set_cons_zero, List.set_cons_succ] at hK ⊢
        obtain ⟨bl, Al, nl, cl, k0, k1, kz⟩ := (I5.out.ext (by omega) ex)
        go_simp
        exact hK.out _ _ ⟨_, _, _, _, rfl, kz⟩ (Ext.refl _) (fun b hb => by cases hb)
      refine Steps.cons (fun (v : Value) (X : World) => ∃ b A n c, v = .agg #[.bool b, .slice A n c] ∧ ZV X (.agg #[.bool b, .slice A n c]) (r / vd)) [0, 1] rfl (by kernel_rfl) rfl (by kernel_rfl) (fun y X ex0 hf K hK => ?_) ?_
      · obtain ⟨b0, A0, n0, c0, h0, z0⟩ : ((fun (v : Value) (X : World) => ∃ b A n c, v = .agg #[.bool b, .slice A n c] ∧ ZV X (.agg #[.bool b, .slice A n c]) (r))) (y 0) X := hf.1
        obtain ⟨b1, A1, n1, c1, h1, z1⟩ : ((fun (v : Value) (X : World) => ∃ b A n c, v = .agg #[.bool b, .slice A n c] ∧ ZV X (.agg #[.bool b, .slice A n c]) (vd))) (y 1) X := hf.2.1
        clear hf
        have ex := (Ext.drw (Ext.refl _)).trans ex0
        refine Box.mk ?_
        simp only [fill, Act.put, Nat.reduceAdd, List.setIfInBounds_toArray, List.set_cons_zero, List.set_cons_succ, h0, h1] at hK ⊢
        go_simp
        refine (asAgg (overZ_any _ _ _ _ _ z0 z1 (by have := HLL.out.1; omega) (by have := HVD.out.2; omega) HVD.out.1)).mono ?_
        rintro e V ⟨b9, A9, n9, c9, rfl, hz, hb⟩
        try go_wp2_with fail
        exact hK.out _ _ ⟨_, _, _, _, rfl, hz⟩ hb (fun b hb => by cases hb)
      refine Steps.cons (fun (v : Value) (X : World) => ∃ b A n c, v = .agg #[.bool b, .slice A n c] ∧ ZV X (.agg #[.bool b, .slice A n c]) (t)) [] rfl (by kernel_rfl) rfl (by kernel_rfl) (fun y X ex0 hf K hK => ?_) ?_
      · clear hf
        have ex := (Ext.drw (Ext.refl _)).trans ex0
        refine Box.mk ?_
        simp only [fill, Act.put, Nat.reduceAdd, List.setIfInBounds_toArray, List.set_cons_zero, List.set_cons_succ] at hK ⊢
        obtain ⟨bl, Al, nl, cl, k0, k1, kz⟩ := (PY.out.ext (by omega) ex)
        go_simp
        exact hK.out _ _ ⟨_, _, _, _, rfl, kz⟩ (Ext.refl _) (fun b hb => by cases hb)
      refine Steps.cons (fun (v : Value) (X : World) => ∃ b A n c, v = .agg #[.bool b, .slice A n c] ∧ ZV X (.agg #[.bool b, .slice A n c]) (vd)) [] rfl (by kernel_rfl) rfl (by kernel_rfl) (fun y X ex0 hf K hK => ?_) ?_
      · clear hf
        have ex := (Ext.drw (Ext.refl _)).trans ex0
        refine Box.mk ?_
        simp only [fill, Act.put, Nat.reduceAdd, List.setIfInBounds_toArray, List.set_cons_zero, List.set_cons_succ] at hK ⊢
        obtain ⟨bl, Al, nl, cl, k0, k1, kz⟩ := (I5.out.ext (by omega) ex)
        go_simp
        exact hK.out _ _ ⟨_, _, _, _, rfl, kz⟩ (Ext.refl _) (fun b hb => by cases hb)
      refine Steps.cons (fun (v : Value) (X : World) => ∃ b A n c, v = .agg #[.bool b, .slice A n c] ∧ ZV X (.agg #[.bool b, .slice A n c]) (t / vd)) [3, 4, 2] rfl (by kernel_rfl) rfl (by kernel_rfl) (fun y X ex0 hf K hK => ?_) ?_
      · obtain ⟨b3, A3, n3, c3, h3, z3⟩ : ((fun (v : Value) (X : World) => ∃ b A n c, v = .agg #[.bool b, .slice A n c] ∧ ZV X (.agg #[.bool b, .slice A n c]) (t))) (y 3) X := hf.1
        obtain ⟨b4, A4, n4, c4, h4, z4⟩ : ((fun (v : Value) (X : World) => ∃ b A n c, v = .agg #[.bool b, .slice A n c] ∧ ZV X (.agg #[.bool b, .slice A n c]) (vd))) (y 4) X := hf.2.1
        obtain ⟨b2, A2, n2, c2, h2, z2⟩ : ((fun (v : Value) (X : World) => ∃ b A n c, v = .agg #[.bool b, .slice A n c] ∧ ZV X (.agg #[.bool b, .slice A n c]) (r / vd))) (y 2) X := hf.2.2.1
        clear hf
        have ex := (Ext.drw (Ext.refl _)).trans ex0
        refine Box.mk ?_
        simp only [fill, Act.put, Nat.reduceAdd, List.setIfInBounds_toArray, List.set_cons_zero, List.set_cons_succ, h3, h4, h2] at hK ⊢
        go_simp
        refine (asAgg (overZ_any _ _ _ _ _ z3 z4 (by have := HLL.out.2; omega) (by have := HVD.out.2; omega) HVD.out.1)).mono ?_
        rintro e V ⟨b9, A9, n9, c9, rfl, hz, hb⟩
        try go_wp2_with fail
        exact hK.out _ _ ⟨_, _, _, _, rfl, hz⟩ hb (fun b hb => by cases hb)
      refine Steps.cons (fun (v : Value) (X : World) => ∃ b A n c b' A' n' c', v = .agg #[.bool b, .slice A n c, .bool b', .slice A' n' c'] ∧ ZV X (.agg #[.bool b, .slice A n c]) (r / vd) ∧ ZV X (.agg #[.bool b', .slice A' n' c']) (t / vd)) [2, 5] rfl (by kernel_rfl) rfl (by kernel_rfl) (fun y X ex0 hf K hK => ?_) ?_
      · obtain ⟨b2, A2, n2, c2, h2, z2⟩ : ((fun (v : Value) (X : World) => ∃ b A n c, v = .agg #[.bool b, .slice A n c] ∧ ZV X (.agg #[.bool b, .slice A n c]) (r / vd))) (y 2) X := hf.1
        obtain ⟨b5, A5, n5, c5, h5, z5⟩ : ((fun (v : Value) (X : World) => ∃ b A n c, v = .agg #[.bool b, .slice A n c] ∧ ZV X (.agg #[.bool b, .slice A n c]) (t / vd))) (y 5) X := hf.2.1
        clear hf
        have ex := (Ext.drw (Ext.refl _)).trans ex0
        refine Box.mk ?_
        simp only [fill, Act.put, Nat.reduceAdd, List.setIfInBounds_toArray, List.set_cons_zero, List.set_cons_succ, h2, h5] at hK ⊢
        go_simp
        exact hK.out _ _ ⟨_, _, _, _, _, _, _, _, rfl, z2, z5⟩ (Ext.refl _) (fun b hb => by cases hb)
      exact Steps.nil
    case done =>
      intro y X ex hf hlt hsep
      obtain ⟨b0, A0, n0, c0, h0, z0⟩ : ((fun (v : Value) (X : World) => ∃ b A n c, v = .agg #[.bool b, .slice A n c] ∧ ZV X (.agg #[.bool b, .slice A n c]) (r))) (y 0) X := hf.1
      obtain ⟨b1, A1, n1, c1, h1, z1⟩ : ((fun (v : Value) (X : World) => ∃ b A n c, v = .agg #[.bool b, .slice A n c] ∧ ZV X (.agg #[.bool b, .slice A n c]) (vd))) (y 1) X := hf.2.1
      obtain ⟨b2, A2, n2, c2, h2, z2⟩ : ((fun (v : Value) (X : World) => ∃ b A n c, v = .agg #[.bool b, .slice A n c] ∧ ZV X (.agg #[.bool b, .slice A n c]) (r / vd))) (y 2) X := hf.2.2.1
      obtain ⟨b3, A3, n3, c3, h3, z3⟩ : ((fun (v : Value) (X : World) => ∃ b A n c, v = .agg #[.bool b, .slice A n c] ∧ ZV X (.agg #[.bool b, .slice A n c]) (t))) (y 3) X := hf.2.2.2.1
      obtain ⟨b4, A4, n4, c4, h4, z4⟩ : ((fun (v : Value) (X : World) => ∃ b A n c, v = .agg #[.bool b, .slice A n c] ∧ ZV X (.agg #[.bool b, .slice A n c]) (vd))) (y 4) X := hf.2.2.2.2.1
      obtain ⟨b5, A5, n5, c5, h5, z5⟩ : ((fun (v : Value) (X : World) => ∃ b A n c, v = .agg #[.bool b, .slice A n c] ∧ ZV X (.agg #[.bool b, .slice A n c]) (t / vd))) (y 5) X := hf.2.2.2.2.2.1
      obtain ⟨b6, A6, n6, c6, bb6, AA6, nn6, cc6, h6, z6, y6⟩ : ((fun (v : Value) (X : World) => ∃ b A n c b' A' n' c', v = .agg #[.bool b, .slice A n c, .bool b', .slice A' n' c'] ∧ ZV X (.agg #[.bool b, .slice A n c]) (r / vd) ∧ ZV X (.agg #[.bool b', .slice A' n' c']) (t / vd))) (y 6) X := hf.2.2.2.2.2.2.1
      clear hf
      clear hsep hlt
      refine Box.mk ?_
      simp only [List.drop_succ_cons, List.drop_zero, fill, Act.put, Nat.reduceAdd, List.setIfInBounds_toArray, List.set_cons_zero, List.set_cons_succ, h0, h1, h2, h3, h4, h5, h6]
      clear h0 h1 h2 h3 h4 h5 h6
      have r4 := R4.out.ext ex
      obtain ⟨_, _, _, _, k40, k41, k42, k43, k44, k45, k46, k47⟩ := put4_walk r4 (.bool b6) (.slice A6 n6 c6) (.bool bb6)
      obtain ⟨W', hW'⟩ : ∃ W', W' = put4 X (w.heap.size + 1 + 1) (.bool b6) (.slice A6 n6 c6) (.bool bb6) (.slice AA6 nn6 cc6) := ⟨_, rfl⟩
      obtain ⟨f0, f1, f2, f3⟩ := put4_cells r4 (.bool b6) (.slice A6 n6 c6) (.bool bb6) (.slice AA6 nn6 cc6)
      have hz1 := (z6).put4 r4 (.bool b6) (.slice A6 n6 c6) (.bool bb6) (.slice AA6 nn6 cc6)
      rw [← hW'] at hz1
      have hz2 := (y6).put4 r4 (.bool b6) (.slice A6 n6 c6) (.bool bb6) (.slice AA6 nn6 cc6)
      rw [← hW'] at hz2
      have hbf : Below w.heap.size w W' := by rw [hW']; exact put4_below (Ext.below (E2.out.trans ex)) (by omega) (.bool b6) (.slice A6 n6 c6) (.bool bb6) (.slice AA6 nn6 cc6)
      rw [← hW'] at f0 f1 f2 f3
      unfold put4 at hW'
      have HG := Lib.hid (And.intro hz1 (And.intro hz2 (And.intro hbf (And.intro f0 (And.intro f1 (And.intro f2 f3))))))
      have HW' := Lib.hid hW'
      clear hz1 hz2 hbf f0 f1 f2 f3 hW' ex z0 z1 z2 z3 z4 z5 z6 y6 r4
      go_wp2_with fail
      refine NoPanic.normal ?_
      go_wp2
      rw [← HW'.out]
      obtain ⟨hz1, hz2, hbf, f0, f1, f2, f3⟩ := HG.out
      exact bodyPost_ret (v := .agg #[.bool b6, .slice A6 n6 c6, .bool bb6, .slice AA6 nn6 cc6]) (by simp [results, Tryz.results22, go_sem, f0, f1, f2, f3]) rfl ⟨_, _, _, _, _, _, _, _, rfl, hz1, hz2, hbf⟩
set_option maxHeartbeats 800000 in
set_option maxRecDepth 100000 in
theorem fractionOf_any (vx vy : Int) (v : Value) (w : World) (hf : FV w v vx vy)  :
    Calls Tryz.prog 28 #[v] w (RetF w vx vy) := by
  obtain ⟨p1, P1, m1, d1, p2, P2, m2, d2, rfl, hz1, hz2⟩ := hf
  obtain ⟨W1, hW1⟩ : ∃ W1, W1 = (w.alloc (.cells #[.bool p1, .slice P1 m1 d1, .bool p2, .slice P2 m2 d2] 26)).alloc (.cells #[.bool false, .slice none 0 0, .bool false, .slice none 0 0] 49) := ⟨_, rfl⟩
  have e1 : Ext w W1 := by rw [hW1]; exact ((Ext.refl w).alc _).alc _
  have i2 : HF W1 w.heap.size vx vy := by rw [hW1]; exact (HF.new w p1 P1 m1 d1 p2 P2 m2 d2 26 hz1 hz2).ext ((Ext.refl _).alc _)
  have r4 : FB W1 (w.heap.size + 1) := by
    have := FB.new (w.alloc (.cells #[.bool p1, .slice P1 m1 d1, .bool p2, .slice P2 m2 d2] 26)) false none 0 0 false none 0 0 49
    rw [World.size_alloc] at this
    rw [hW1]; exact this
  have I2 := Lib.hid i2; have R4 := Lib.hid r4; have E1 := Lib.hid e1; have HW1 := Lib.hid hW1
  clear i2 r4 e1 hW1 hz1 hz2
  go_enter Tryz.func28, Tryz.ntmps28
  go_upto_region 1 with fail
  rw [← HW1.out]
  clear HW1
  have lg := R4.out.lt
  refine wp_region_noPanic ?_
  refine wp_pool 7 [some 3, some 4, some 5, some 6, some 7, some 8, some 9] [] [] [(fun (v : Value) (_ : World) => v = .pointer (some ⟨w.heap.size, 0, none⟩)), (fun (v : Value) (X : World) => ∃ b A n c, v = .agg #[.bool b, .slice A n c] ∧ ZV X (.agg #[.bool b, .slice A n c]) (vx)), (fun (v : Value) (X : World) => ∃ b A n c, v = .agg #[.bool b, .slice A n c] ∧ ZV X (.agg #[.bool b, .slice A n c]) (vx)), (fun (v : Value) (_ : World) => v = .pointer (some ⟨w.heap.size, 2, none⟩)), (fun (v : Value) (X : World) => ∃ b A n c, v = .agg #[.bool b, .slice A n c] ∧ ZV X (.agg #[.bool b, .slice A n c]) (vy)), (fun (v : Value) (X : World) => ∃ b A n c, v = .agg #[.bool b, .slice A n c] ∧ ZV X (.agg #[.bool b, .slice A n c]) (vy)), (fun (v : Value) (X : World) => ∃ b A n c b' A' n' c', v = .agg #[.bool b, .slice A n c, .bool b', .slice A' n' c'] ∧ ZV X (.agg #[.bool b, .slice A n c]) (vx) ∧ ZV X (.agg #[.bool b', .slice A' n' c']) (vy))] [noF, noF, noF, noF, noF, noF, noF] (by kernel_rfl) (by kernel_rfl) (by kernel_rfl) (by kernel_rfl) (by kernel_rfl) (by kernel_rfl) (by kernel_rfl) (by kernel_rfl) (fun _ _ _ _ h => h) ⟨Stays.pure _, (fun _ _ _ e ⟨b, A, n, c, h1, h2⟩ => ⟨b, A, n, c, h1, h2.ext e⟩), (fun _ _ _ e ⟨b, A, n, c, h1, h2⟩ => ⟨b, A, n, c, h1, h2.ext e⟩), Stays.pure _, (fun _ _ _ e ⟨b, A, n, c, h1, h2⟩ => ⟨b, A, n, c, h1, h2.ext e⟩), (fun _ _ _ e ⟨b, A, n, c, h1, h2⟩ => ⟨b, A, n, c, h1, h2.ext e⟩), (fun _ _ _ e ⟨b, A, n, c, b', A', n', c', h1, h2, h3⟩ => ⟨b, A, n, c, b', A', n', c', h1, h2.ext e, h3.ext e⟩), True.intro⟩ ?steps ?done
  case steps =>
    simp only [List.take_succ_cons, List.take_zero]
    refine Steps.cons (fun (v : Value) (_ : World) => v = .pointer (some ⟨w.heap.size, 0, none⟩)) [] rfl (by kernel_rfl) rfl (by kernel_rfl) (fun y X ex0 hf K hK => ?_) ?_
    · clear hf
      have ex := (Ext.drw (Ext.refl _)).trans ex0
      refine Box.mk ?_
      simp only [fill, Act.put, Nat.reduceAdd, List.setIfInBounds_toArray, List.set_cons_zero, List.set_cons_succ] at hK ⊢
      go_simp
      exact hK.out _ _ rfl (Ext.refl _) (fun b hb => by cases hb)
    refine Steps.cons (fun (v : Value) (X : World) => ∃ b A n c, v = .agg #[.bool b, .slice A n c] ∧ ZV X (.agg #[.bool b, .slice A n c]) (vx)) [0] rfl (by kernel_rfl) rfl (by kernel_rfl) (fun y X ex0 hf K hK => ?_) ?_
    · have h0 : ((fun (v : Value) (_ : World) => v = .pointer (some ⟨w.heap.size, 0, none⟩))) (y 0) X := hf.1
      clear hf
      have ex := (Ext.drw (Ext.refl _)).trans ex0
      refine Box.mk ?_
      simp only [fill, Act.put, Nat.reduceAdd, List.setIfInBounds_toArray, List.set_cons_zero, List.set_cons_succ, h0] at hK ⊢
      obtain ⟨bl, Al, nl, cl, k0, k1, kz⟩ := (I2.out.1.ext (by omega) ex)
      go_simp
      exact hK.out _ _ ⟨_, _, _, _, rfl, kz⟩ (Ext.refl _) (fun b hb => by cases hb)
    refine Steps.cons (fun (v : Value) (X : World) => ∃ b A n c, v = .agg #[.bool b, .slice A n c] ∧ ZV X (.agg #[.bool b, .slice A n c]) (vx)) [1] rfl (by kernel_rfl) rfl (by kernel_rfl) (fun y X ex0 hf K hK => ?_) ?_
    · obtain ⟨b1, A1, n1, c1, h1, z1⟩ : ((fun (v : Value) (X : World) => ∃ b A n c, v = .agg #[.bool b, .slice A n c] ∧ ZV X (.agg #[.bool b, .slice A n c]) (vx))) (y 1) X := hf.1
      clear hf
      have ex := (Ext.drw (Ext.refl _)).trans ex0
      refine Box.mk ?_
      simp only [fill, Act.put, Nat.reduceAdd, List.setIfInBounds_toArray, List.set_cons_zero, List.set_cons_succ, h1] at hK ⊢
      go_simp
      refine (asAgg ((wholeOf_any _ _ _ _ _).mono fun e w' ⟨he, hb⟩ => ⟨_, he, (z1).ext hb, hb⟩)).mono ?_
      rintro e V ⟨b9, A9, n9, c9, rfl, hz, hb⟩
      try go_wp2_with fail
      exact hK.out _ _ ⟨_, _, _, _, rfl, hz⟩ hb (fun b hb => by cases hb)
    refine Steps.cons (fun (v : Value) (_ : World) => v = .pointer (some ⟨w.heap.size, 2, none⟩)) [] rfl (by kernel_rfl) rfl (by kernel_rfl) (fun y X ex0 hf K hK => ?_) ?_
    · clear hf
      have ex := (Ext.drw (Ext.refl _)).trans ex0
      refine Box.mk ?_
      simp only [fill, Act.put, Nat.reduceAdd, List.setIfInBounds_toArray, List.set_cons_zero, List.set_cons_succ] at hK ⊢
      go_simp
      exact hK.out _ _ rfl (Ext.refl _) (fun b hb => by cases hb)
    refine Steps.cons (fun (v : Value) (X : World) => ∃ b A n c, v = .agg #[.bool b, .slice A n c] ∧ ZV X (.agg #[.bool b, .slice A n c]) (vy)) [3] rfl (by kernel_rfl) rfl (by kernel_rfl) (fun y X ex0 hf K hK => ?_) ?_
    · have h3 : ((fun (v : Value) (_ : World) => v = .pointer (some ⟨w.heap.size, 2, none⟩))) (y 3) X := hf.1
      clear hf
      have ex := (Ext.drw (Ext.refl _)).trans ex0
      refine Box.mk ?_
      simp only [fill, Act.put, Nat.reduceAdd, List.setIfInBounds_toArray, List.set_cons_zero, List.set_cons_succ, h3] at hK ⊢
      obtain ⟨bl, Al, nl, cl, k0, k1, kz⟩ := (I2.out.2.ext (by omega) ex)
      go_simp
      exact hK.out _ _ ⟨_, _, _, _, rfl, kz⟩ (Ext.refl _) (fun b hb => by cases hb)
    refine Steps.cons (fun (v : Value) (X : World) => ∃ b A n c, v = .agg #[.bool b, .slice A n c] ∧ ZV X (.agg #[.bool b, .slice A n c]) (vy)) [4, 2] rfl (by kernel_rfl) rfl (by kernel_rfl) (fun y X ex0 hf K hK => ?_) ?_
    · obtain ⟨b4, A4, n4, c4, h4, z4⟩ : ((fun (v : Value) (X : World) => ∃ b A n c, v = .agg #[.bool b, .slice A n c] ∧ ZV X (.agg #[.bool b, .slice A n c]) (vy))) (y 4) X := hf.1
      obtain ⟨b2, A2, n2, c2, h2, z2⟩ : ((fun (v : Value) (X : World) => ∃ b A n c, v = .agg #[.bool b, .slice A n c] ∧ ZV X (.agg #[.bool b, .slice A n c]) (vx))) (y 2) X := hf.2.1
      clear hf
      have ex := (Ext.drw (Ext.refl _)).trans ex0
      refine Box.mk ?_
      simp only [fill, Act.put, Nat.reduceAdd, List.setIfInBounds_toArray, List.set_cons_zero, List.set_cons_succ, h4, h2] at hK ⊢
      go_simp
      refine (asAgg ((wholeOf_any _ _ _ _ _).mono fun e w' ⟨he, hb⟩ => ⟨_, he, (z4).ext hb, hb⟩)).mono ?_
      rintro e V ⟨b9, A9, n9, c9, rfl, hz, hb⟩
      try go_wp2_with fail
      exact hK.out _ _ ⟨_, _, _, _, rfl, hz⟩ hb (fun b hb => by cases hb)
    refine Steps.cons (fun (v : Value) (X : World) => ∃ b A n c b' A' n' c', v = .agg #[.bool b, .slice A n c, .bool b', .slice A' n' c'] ∧ ZV X (.agg #[.bool b, .slice A n c]) (vx) ∧ ZV X (.agg #[.bool b', .slice A' n' c']) (vy)) [2, 5] rfl (by kernel_rfl) rfl (by kernel_rfl) (fun y X ex0 hf K hK => ?_) ?_
    · obtain ⟨b2, A2, n2, c2, h2, z2⟩ : ((fun (v : Value) (X : World) => ∃ b A n c, v = .agg #[.bool b, .slice A n c] ∧ ZV X (.agg #[.bool b, .slice A n c]) (vx))) (y 2) X := hf.1
      obtain ⟨b5, A5, n5, c5, h5, z5⟩ : ((fun (v : Value) (X : World) => ∃ b A n c, v = .agg #[.bool b, .slice A n c] ∧ ZV X (.agg #[.bool b, .slice A n c]) (vy))) (y 5) X := hf.2.1
      clear hf
      have ex := (Ext.drw (Ext.refl _)).trans ex0
      refine Box.mk ?_
      simp only [fill, Act.put, Nat.reduceAdd, List.setIfInBounds_toArray, List.set_cons_zero, List.set_cons_succ, h2, h5] at hK ⊢
      go_simp
      exact hK.out _ _ ⟨_, _, _, _, _, _, _, _, rfl, z2, z5⟩ (Ext.refl _) (fun b hb => by cases hb)
    exact Steps.nil
  case done =>
    intro y X ex hf hlt hsep
    have h0 : ((fun (v : Value) (_ : World) => v = .pointer (some ⟨w.heap.size, 0, none⟩))) (y 0) X := hf.1
    obtain ⟨b1, A1, n1, c1, h1, z1⟩ : ((fun (v : Value) (X : World) => ∃ b A n c, v = .agg #[.bool b, .slice A n c] ∧ ZV X (.agg #[.bool b, .slice A n c]) (vx))) (y 1) X := hf.2.1
    obtain ⟨b2, A2, n2, c2, h2, z2⟩ : ((fun (v : Value) (X : World) => ∃ b A n c, v = .agg #[.bool b, .slice A n c] ∧ ZV X (.agg #[.bool b, .slice A n c]) (vx))) (y 2) X := hf.2.2.1
    have h3 : ((fun (v : Value) (_ : World) => v = .pointer (some ⟨w.heap.size, 2, none⟩))) (y 3) X := hf.2.2.2.1
    obtain ⟨b4, A4, n4, c4, h4, z4⟩ : ((fun (v : Value) (X : World) => ∃ b A n c, v = .agg #[.bool b, .slice A n c] ∧ ZV X (.agg #[.bool b, .slice A n c]) (vy))) (y 4) X := hf.2.2.2.2.1
    obtain ⟨b5, A5, n5, c5, h5, z5⟩ : ((fun (v : Value) (X : World) => ∃ b A n c, v = .agg #[.bool b, .slice A n c] ∧ ZV X (.agg #[.bool b, .slice A n c]) (vy))) (y 5) X := hf.2.2.2.2.2.1
    obtain ⟨b6, A6, n6, c6, bb6, AA6, nn6, cc6, h6, z6, y6⟩ : ((fun (v : Value) (X : World) => ∃ b A n c b' A' n' c', v = .agg #[.bool b, .slice A n c, .bool b', .slice A' n' c'] ∧ ZV X (.agg #[.bool b, .slice A n c]) (vx) ∧ ZV X (.agg #[.bool b', .slice A' n' c']) (vy))) (y 6) X := hf.2.2.2.2.2.2.1
    clear hf
    clear hsep hlt
    refine Box.mk ?_
    simp only [List.drop_succ_cons, List.drop_zero, fill, Act.put, Nat.reduceAdd, List.setIfInBounds_toArray, List.set_cons_zero, List.set_cons_succ, h0, h1, h2, h3, h4, h5, h6]
    clear h0 h1 h2 h3 h4 h5 h6
    have r4 := R4.out.ext ex
    obtain ⟨_, _, _, _, k40, k41, k42, k43, k44, k45, k46, k47⟩ := put4_walk r4 (.bool b6) (.slice A6 n6 c6) (.bool bb6)
    obtain ⟨W', hW'⟩ : ∃ W', W' = put4 X (w.heap.size + 1) (.bool b6) (.slice A6 n6 c6) (.bool bb6) (.slice AA6 nn6 cc6) := ⟨_, rfl⟩
    obtain ⟨f0, f1, f2, f3⟩ := put4_cells r4 (.bool b6) (.slice A6 n6 c6) (.bool bb6) (.slice AA6 nn6 cc6)
    have hz1 := (z6).put4 r4 (.bool b6) (.slice A6 n6 c6) (.bool bb6) (.slice AA6 nn6 cc6)
    rw [← hW'] at hz1
    have hz2 := (y6).put4 r4 (.bool b6) (.slice A6 n6 c6) (.bool bb6) (.slice AA6 nn6 cc6)
    rw [← hW'] at hz2
    have hbf : Below w.heap.size w W' := by rw [hW']; exact put4_below (Ext.below (E1.out.trans ex)) (by omega) (.bool b6) (.slice A6 n6 c6) (.bool bb6) (.slice AA6 nn6 cc6)
    rw [← hW'] at f0 f1 f2 f3
    unfold put4 at hW'
    have HG := Lib.hid (And.intro hz1 (And.intro hz2 (And.intro hbf (And.intro f0 (And.intro f1 (And.intro f2 f3))))))
    have HW' := Lib.hid hW'
    clear hz1 hz2 hbf f0 f1 f2 f3 hW' ex z1 z2 z4 z5 z6 y6 r4
    go_wp2_with fail
    refine NoPanic.normal ?_
    go_wp2
    rw [← HW'.out]
    obtain ⟨hz1, hz2, hbf, f0, f1, f2, f3⟩ := HG.out
    exact bodyPost_ret (v := .agg #[.bool b6, .slice A6 n6 c6, .bool bb6, .slice AA6 nn6 cc6]) (by simp [results, Tryz.results28, go_sem, f0, f1, f2, f3]) rfl ⟨_, _, _, _, _, _, _, _, rfl, hz1, hz2, hbf⟩
set_option maxHeartbeats 800000 in
set_option maxRecDepth 100000 in
theorem ratOf_any (vx vy : Int) (v : Value) (w : World) (hf : FV w v vx vy) (lx : (dig vx.natAbs).length ≤ 1000000) (ly : (dig vy.natAbs).length ≤ 1000000) :
    Calls Tryz.prog 21 #[v] w (RetF w vx vy) := by
  obtain ⟨p1, P1, m1, d1, p2, P2, m2, d2, rfl, hz1, hz2⟩ := hf
  obtain ⟨W1, hW1⟩ : ∃ W1, W1 = (w.alloc (.cells #[.bool p1, .slice P1 m1 d1, .bool p2, .slice P2 m2 d2] 49)).alloc (.cells #[.bool false, .slice none 0 0, .bool false, .slice none 0 0] 26) := ⟨_, rfl⟩
  have e1 : Ext w W1 := by rw [hW1]; exact ((Ext.refl w).alc _).alc _
  have i2 : HF W1 w.heap.size vx vy := by rw [hW1]; exact (HF.new w p1 P1 m1 d1 p2 P2 m2 d2 49 hz1 hz2).ext ((Ext.refl _).alc _)
  have r4 : FB W1 (w.heap.size + 1) := by
    have := FB.new (w.alloc (.cells #[.bool p1, .slice P1 m1 d1, .bool p2, .slice P2 m2 d2] 49)) false none 0 0 false none 0 0 26
    rw [World.size_alloc] at this
    rw [hW1]; exact this
  have I2 := Lib.hid i2; have R4 := Lib.hid r4; have E1 := Lib.hid e1; have HW1 := Lib.hid hW1
  clear i2 r4 e1 hW1 hz1 hz2
  go_enter Tryz.func21, Tryz.ntmps21
  go_upto_region 1 with fail
  rw [← HW1.out]
  clear HW1
  have lg := R4.out.lt
  refine wp_region_noPanic ?_
  refine wp_pool 7 [some 3, some 4, some 5, some 6, some 7, some 8, some 9] [] [] [(fun (v : Value) (_ : World) => v = .pointer (some ⟨w.heap.size, 0, none⟩)), (fun (v : Value) (X : World) => ∃ b A n c, v = .agg #[.bool b, .slice A n c] ∧ ZV X (.agg #[.bool b, .slice A n c]) (vx)), (fun (v : Value) (X : World) => ∃ b A n c, v = .agg #[.bool b, .slice A n c] ∧ ZV X (.agg #[.bool b, .slice A n c]) (vx)), (fun (v : Value) (_ : World) => v = .pointer (some ⟨w.heap.size, 2, none⟩)), (fun (v : Value) (X : World) => ∃ b A n c, v = .agg #[.bool b, .slice A n c] ∧ ZV X (.agg #[.bool b, .slice A n c]) (vy)), (fun (v : Value) (X : World) => ∃ b A n c, v = .agg #[.bool b, .slice A n c] ∧ ZV X (.agg #[.bool b, .slice A n c]) (vy)), (fun (v : Value) (X : World) => ∃ b A n c b' A' n' c', v = .agg #[.bool b, .slice A n c, .bool b', .slice A' n' c'] ∧ ZV X (.agg #[.bool b, .slice A n c]) (vx) ∧ ZV X (.agg #[.bool b', .slice A' n' c']) (vy))] [noF, noF, noF, noF, noF, noF, noF] (by kernel_rfl) (by kernel_rfl) (by kernel_rfl) (by kernel_rfl) (by kernel_rfl) (by kernel_rfl) (by kernel_rfl) (by kernel_rfl) (fun _ _ _ _ h => h) ⟨Stays.pure _, (fun _ _ _ e ⟨b, A, n, c, h1, h2⟩ => ⟨b, A, n, c, h1, h2.ext e⟩), (fun _ _ _ e ⟨b, A, n, c, h1, h2⟩ => ⟨b, A, n, c, h1, h2.ext e⟩), Stays.pure _, (fun _ _ _ e ⟨b, A, n, c, h1, h2⟩ => ⟨b, A, n, c, h1, h2.ext e⟩), (fun _ _ _ e ⟨b, A, n, c, h1, h2⟩ => ⟨b, A, n, c, h1, h2.ext e⟩), (fun _ _ _ e ⟨b, A, n, c, b', A', n', c', h1, h2, h3⟩ => ⟨b, A, n, c, b', A', n', c', h1, h2.ext e, h3.ext e⟩), True.intro⟩ ?steps ?done
  case steps =>
    simp only [List.take_succ_cons, List.take_zero]
    refine Steps.cons (fun (v : Value) (_ : World) => v = .pointer (some ⟨w.heap.size, 0, none⟩)) [] rfl (by kernel_rfl) rfl (by kernel_rfl) (fun y X ex0 hf K hK => ?_) ?_
    · clear hf
      have ex := (Ext.drw (Ext.refl _)).trans ex0
      refine Box.mk ?_
      simp only [fill, Act.put, Nat.reduceAdd, List.setIfInBounds_toArray, List.set_cons_zero, List.set_cons_succ] at hK ⊢
      go_simp
      exact hK.out _ _ rfl (Ext.refl _) (fun b hb => by cases hb)
    refine Steps.cons (fun (v : Value) (X : World) => ∃ b A n c, v = .agg #[.bool b, .slice A n c] ∧ ZV X (.agg #[.bool b, .slice A n c]) (vx)) [0] rfl (by kernel_rfl) rfl (by kernel_rfl) (fun y X ex0 hf K hK => ?_) ?_
    · have h0 : ((fun (v : Value) (_ : World) => v = .pointer (some ⟨w.heap.size, 0, none⟩))) (y 0) X := hf.1
      clear hf
      have ex := (Ext.drw (Ext.refl _)).trans ex0
      refine Box.mk ?_
      simp only [fill, Act.put, Nat.reduceAdd, List.setIfInBounds_toArray, List.set_cons_zero, List.set_cons_succ, h0] at hK ⊢
      obtain ⟨bl, Al, nl, cl, k0, k1, kz⟩ := (I2.out.1.ext (by omega) ex)
      go_simp
      exact hK.out _ _ ⟨_, _, _, _, rfl, kz⟩ (Ext.refl _) (fun b hb => by cases hb)
    refine Steps.cons (fun (v : Value) (X : World) => ∃ b A n c, v = .agg #[.bool b, .slice A n c] ∧ ZV X (.agg #[.bool b, .slice A n c]) (vx)) [1] rfl (by kernel_rfl) rfl (by kernel_rfl) (fun y X ex0 hf K hK => ?_) ?_
    · obtain ⟨b1, A1, n1, c1, h1, z1⟩ : ((fun (v : Value) (X : World) => ∃ b A n c, v = .agg #[.bool b, .slice A n c] ∧ ZV X (.agg #[.bool b, .slice A n c]) (vx))) (y 1) X := hf.1
      clear hf
      have ex := (Ext.drw (Ext.refl _)).trans ex0
      refine Box.mk ?_
      simp only [fill, Act.put, Nat.reduceAdd, List.setIfInBounds_toArray, List.set_cons_zero, List.set_cons_succ, h1] at hK ⊢
      go_simp
      refine (asAgg (intOf_any _ _ _ z1 lx)).mono ?_
      rintro e V ⟨b9, A9, n9, c9, rfl, hz, hb⟩
      try go_wp2_with fail
      exact hK.out _ _ ⟨_, _, _, _, rfl, hz⟩ hb (fun b hb => by cases hb)
    refine Steps.cons (fun (v : Value) (_ : World) => v = .pointer (some ⟨w.heap.size, 2, none⟩)) [] rfl (by kernel_rfl) rfl (by kernel_rfl) (fun y X ex0 hf K hK => ?_) ?_
    · clear hf
      have ex := (Ext.drw (Ext.refl _)).trans ex0
      refine Box.mk ?_
      simp only [fill, Act.put, Nat.reduceAdd, List.setIfInBounds_toArray, List.set_cons_zero, List.set_cons_succ] at hK ⊢
      go_simp
      exact hK.out _ _ rfl (Ext.refl _) (fun b hb => by cases hb)
    refine Steps.cons (fun (v : Value) (X : World) => ∃ b A n c, v = .agg #[.bool b, .slice A n c] ∧ ZV X (.agg #[.bool b, .slice A n c]) (vy)) [3] rfl (by kernel_rfl) rfl (by kernel_rfl) (fun y X ex0 hf K hK => ?_) ?_
    · have h3 : ((fun (v : Value) (_ : World) => v = .pointer (some ⟨w.heap.size, 2, none⟩))) (y 3) X := hf.1
      clear hf
      have ex := (Ext.drw (Ext.refl _)).trans ex0
      refine Box.mk ?_
      simp only [fill, Act.put, Nat.reduceAdd, List.setIfInBounds_toArray, List.set_cons_zero, List.set_cons_succ, h3] at hK ⊢
      obtain ⟨bl, Al, nl, cl, k0, k1, kz⟩ := (I2.out.2.ext (by omega) ex)
      go_simp
      exact hK.out _ _ ⟨_, _, _, _, rfl, kz⟩ (Ext.refl _) (fun b hb => by cases hb)
    refine Steps.cons (fun (v : Value) (X : World) => ∃ b A n c, v = .agg #[.bool b, .slice A n c] ∧ ZV X (.agg #[.bool b, .slice A n c]) (vy)) [4, 2] rfl (by kernel_rfl) rfl (by kernel_rfl) (fun y X ex0 hf K hK => ?_) ?_
    · obtain ⟨b4, A4, n4, c4, h4, z4⟩ : ((fun (v : Value) (X : World) => ∃ b A n c, v = .agg #[.bool b, .slice A n c] ∧ ZV X (.agg #[.bool b, .slice A n c]) (vy))) (y 4) X := hf.1
      obtain ⟨b2, A2, n2, c2, h2, z2⟩ : ((fun (v : Value) (X : World) => ∃ b A n c, v = .agg #[.bool b, .slice A n c] ∧ ZV X (.agg #[.bool b, .slice A n c]) (vx))) (y 2) X := hf.2.1
      clear hf
      have ex := (Ext.drw (Ext.refl _)).trans ex0
      refine Box.mk ?_
      simp only [fill, Act.put, Nat.reduceAdd, List.setIfInBounds_toArray, List.set_cons_zero, List.set_cons_succ, h4, h2] at hK ⊢
      go_simp
      refine (asAgg (intOf_any _ _ _ z4 ly)).mono ?_
      rintro e V ⟨b9, A9, n9, c9, rfl, hz, hb⟩
      try go_wp2_with fail
      exact hK.out _ _ ⟨_, _, _, _, rfl, hz⟩ hb (fun b hb => by cases hb)
    refine Steps.cons (fun (v : Value) (X : World) => ∃ b A n c b' A' n' c', v = .agg #[.bool b, .slice A n c, .bool b', .slice A' n' c'] ∧ ZV X (.agg #[.bool b, .slice A n c]) (vx) ∧ ZV X (.agg #[.bool b', .slice A' n' c']) (vy)) [2, 5] rfl (by kernel_rfl) rfl (by kernel_rfl) (fun y X ex0 hf K hK => ?_) ?_
    · obtain ⟨b2, A2, n2, c2, h2, z2⟩ : ((fun (v : Value) (X : World) => ∃ b A n c, v = .agg #[.bool b, .slice A n c] ∧ ZV X (.agg #[.bool b, .slice A n c]) (vx))) (y 2) X := hf.1
      obtain ⟨b5, A5, n5, c5, h5, z5⟩ : ((fun (v : Value) (X : World) => ∃ b A n c, v = .agg #[.bool b, .slice A n c] ∧ ZV X (.agg #[.bool b, .slice A n c]) (vy))) (y 5) X := hf.2.1
      clear hf
      have ex := (Ext.drw (Ext.refl _)).trans ex0
      refine Box.mk ?_
      simp only [fill, Act.put, Nat.reduceAdd, List.setIfInBounds_toArray, List.set_cons_zero, List.set_cons_succ, h2, h5] at hK ⊢
      go_simp
      exact hK.out _ _ ⟨_, _, _, _, _, _, _, _, rfl, z2, z5⟩ (Ext.refl _) (fun b hb => by cases hb)
    exact Steps.nil
  case done =>
    intro y X ex hf hlt hsep
    have h0 : ((fun (v : Value) (_ : World) => v = .pointer (some ⟨w.heap.size, 0, none⟩))) (y 0) X := hf.1
    obtain ⟨b1, A1, n1, c1, h1, z1⟩ : ((fun (v : Value) (X : World) => ∃ b A n c, v = .agg #[.bool b, .slice A n c] ∧ ZV X (.agg #[.bool b, .slice A n c]) (vx))) (y 1) X := hf.2.1
    obtain ⟨b2, A2, n2, c2, h2, z2⟩ : ((fun (v : Value) (X : World) => ∃ b A n c, v = .agg #[.bool b, .slice A n c] ∧ ZV X (.agg #[.bool b, .slice A n c]) (vx))) (y 2) X := hf.2.2.1
    have h3 : ((fun (v : Value) (_ : World) => v = .pointer (some ⟨w.heap.size, 2, none⟩))) (y 3) X := hf.2.2.2.1
    obtain ⟨b4, A4, n4, c4, h4, z4⟩ : ((fun (v : Value) (X : World) => ∃ b A n c, v = .agg #[.bool b, .slice A n c] ∧ ZV X (.agg #[.bool b, .slice A n c]) (vy))) (y 4) X := hf.2.2.2.2.1
    obtain ⟨b5, A5, n5, c5, h5, z5⟩ : ((fun (v : Value) (X : World) => ∃ b A n c, v = .agg #[.bool b, .slice A n c] ∧ ZV X (.agg #[.bool b, .slice A n c]) (vy))) (y 5) X := hf.2.2.2.2.2.1
    obtain ⟨b6, A6, n6, c6, bb6, AA6, nn6, cc6, h6, z6, y6⟩ : ((fun (v : Value) (X : World) => ∃ b A n c b' A' n' c', v = .agg #[.bool b, .slice A n c, .bool b', .slice A' n' c'] ∧ ZV X (.agg #[.bool b, .slice A n c]) (vx) ∧ ZV X (.agg #[.bool b', .slice A' n' c']) (vy))) (y 6) X := hf.2.2.2.2.2.2.1
    clear hf
    clear hsep hlt
    refine Box.mk ?_
    simp only [List.drop_succ_cons, List.drop_zero, fill, Act.put, Nat.reduceAdd, List.setIfInBounds_toArray, List.set_cons_zero, List.set_cons_succ, h0, h1, h2, h3, h4, h5, h6]
    clear h0 h1 h2 h3 h4 h5 h6
    have r4 := R4.out.ext ex
    obtain ⟨_, _, _, _, k40, k41, k42, k43, k44, k45, k46, k47⟩ := put4_walk r4 (.bool b6) (.slice A6 n6 c6) (.bool bb6)
    obtain ⟨W', hW'⟩ : ∃ W', W' = put4 X (w.heap.size + 1) (.bool b6) (.slice A6 n6 c6) (.bool bb6) (.slice AA6 nn6 cc6) := ⟨_, rfl⟩
    obtain ⟨f0, f1, f2, f3⟩ := put4_cells r4 (.bool b6) (.slice A6 n6 c6) (.bool bb6) (.slice AA6 nn6 cc6)
    have hz1 := (z6).put4 r4 (.bool b6) (.slice A6 n6 c6) (.bool bb6) (.slice AA6 nn6 cc6)
    rw [← hW'] at hz1
    have hz2 := (y6).put4 r4 (.bool b6) (.slice A6 n6 c6) (.bool bb6) (.slice AA6 nn6 cc6)
    rw [← hW'] at hz2
    have hbf : Below w.heap.size w W' := by rw [hW']; exact put4_below (Ext.below (E1.out.trans ex)) (by omega) (.bool b6) (.slice A6 n6 c6) (.bool bb6) (.slice AA6 nn6 cc6)
    rw [← hW'] at f0 f1 f2 f3
    unfold put4 at hW'
    have HG := Lib.hid (And.intro hz1 (And.intro hz2 (And.intro hbf (And.intro f0 (And.intro f1 (And.intro f2 f3))))))
    have HW' := Lib.hid hW'
    clear hz1 hz2 hbf f0 f1 f2 f3 hW' ex z1 z2 z4 z5 z6 y6 r4
    go_wp2_with fail
    refine NoPanic.normal ?_
    go_wp2
    rw [← HW'.out]
    obtain ⟨hz1, hz2, hbf, f0, f1, f2, f3⟩ := HG.out
    exact bodyPost_ret (v := .agg #[.bool b6, .slice A6 n6 c6, .bool bb6, .slice AA6 nn6 cc6]) (by simp [results, Tryz.results21, go_sem, f0, f1, f2, f3]) rfl ⟨_, _, _, _, _, _, _, _, rfl, hz1, hz2, hbf⟩
end Go.Proofs.YtmlopkkbgpfdnaaGreatDoor
namespace Go.Proofs.YtmlopkkbgpfdnaaGreatDoor
open Go.RowKit

/-- a struct's parts are short -/
def Lf (x y : Int) (L : Nat) : Prop := (dig x.natAbs).length ≤ L ∧ (dig y.natAbs).length ≤ L
theorem len_addZ {a b : Int} {k : Nat} (h1 : (dig a.natAbs).length ≤ k) (h2 : (dig b.natAbs).length ≤ k) : (dig (a + b).natAbs).length ≤ k + 1 := by
  refine Nat.le_trans (len_mono (show (a + b).natAbs ≤ a.natAbs + b.natAbs by omega)) ?_
  have x := lt_of_dig_len h1
  have y := lt_of_dig_len h2
  refine dig_len_le ?_
  rw [Nat.pow_succ]
  generalize 4294967296 ^ k = m at *
  omega
theorem fv_mk {w : World} {b : Bool} {A : Option Addr} {n c : Nat} {b' : Bool} {A' : Option Addr} {n' c' : Nat} {x y : Int} (h1 : ZV w (.agg #[.bool b, .slice A n c]) x) (h2 : ZV w (.agg #[.bool b', .slice A' n' c']) y) :
    FV w (.agg #[.bool b, .slice A n c, .bool b', .slice A' n' c']) x y := ⟨b, A, n, c, b', A', n', c', rfl, h1, h2⟩
end Go.Proofs.YtmlopkkbgpfdnaaGreatDoor
