/- Walks of the reference: Ratio, QMinus, OfRat, QTimes, QOver, QPlus, QLess. -/
import Derived.Test.YtmlopkkbgpfdnabGreatM22
import Derived.Test.YtmlopkkbgpfdnabGreatM23
namespace Go.Proofs.YtmlopkkbgpfdnabGreat
open Go.RowKit

theorem neg_quo {x d : Int} (h : d ∣ x) : -x / d = x / -d := by rw [Int.neg_ediv_of_dvd h, Int.ediv_neg]
set_option maxHeartbeats 800000 in
set_option maxRecDepth 100000 in
theorem ratio_any (r t : Int) (u u' : Value) (w : World) (L : Nat) (hx : ZV w u r) (hy : ZV w u' t) (ht : t ≠ 0) (lx : (dig r.natAbs).length ≤ L) (ly : (dig t.natAbs).length ≤ L) (hL2 : L ≤ 300000) :
    Calls Tryz.prog 79 #[u, u'] w (RetF w (r / nfg r t) (t / nfg r t)) := by
  obtain ⟨Ax, nx, cx, rfl, -, -, -⟩ := hx.open_
  obtain ⟨Ay, ny, cy, rfl, -, -, -⟩ := hy.open_
  obtain ⟨bx, hbx⟩ : ∃ b, b = decide (r < 0) := ⟨_, rfl⟩
  obtain ⟨bY, hby⟩ : ∃ b, b = decide (t < 0) := ⟨_, rfl⟩
  rw [← hbx] at hx ⊢
  rw [← hby] at hy ⊢
  obtain ⟨vd, hvd⟩ : ∃ vd, vd = nfg r t := ⟨_, rfl⟩
  rw [← hvd]
  have HVD := Lib.hid (show vd ≠ 0 ∧ (dig vd.natAbs).length ≤ L by rw [hvd]; exact ⟨nfg_ne ht, gcd_lenF ht ly⟩)
  have HDV := Lib.hid (show vd ∣ r ∧ vd ∣ t by rw [hvd]; exact nfg_dvd r t)
  have HVN := Lib.hid hvd
  clear hvd
  obtain ⟨W1, hW1⟩ : ∃ W1, W1 = ((w.alloc (.cells #[.bool bx, .slice Ax nx cx] 53)).alloc (.cells #[.bool bY, .slice Ay ny cy] 53)).alloc (.cells #[.bool false, .slice none 0 0, .bool false, .slice none 0 0] 55) := ⟨_, rfl⟩
  have e1 : Ext w W1 := by rw [hW1]; exact (((Ext.refl w).alc _).alc _).alc _
  have p1 : HZ (w.alloc (.cells #[.bool bx, .slice Ax nx cx] 53)) w.heap.size r := HZ.lit w bx Ax nx cx 53 hx
  have p2 : HZ ((w.alloc (.cells #[.bool bx, .slice Ax nx cx] 53)).alloc (.cells #[.bool bY, .slice Ay ny cy] 53)) (w.heap.size + 1) t := by
    have := HZ.lit (w.alloc (.cells #[.bool bx, .slice Ax nx cx] 53)) bY Ay ny cy 53 (hy.ext ((Ext.refl _).alc _))
    rwa [World.size_alloc] at this
  have r2 : RB W1 w.heap.size := by rw [hW1]; exact RB.a1 w bx Ax nx cx 53 _ _
  have r3 : RB W1 (w.heap.size + 1) := by rw [hW1]; exact RB.a2 w bY Ay ny cy 53 _ _
  have PX : Hid (HZ W1 w.heap.size r) := Lib.hid (by rw [hW1]; exact p1.ext p1.lt (((Ext.refl _).alc _).alc _))
  have PY : Hid (HZ W1 (w.heap.size + 1) t) := Lib.hid (by rw [hW1]; exact p2.ext p2.lt ((Ext.refl _).alc _))
  have R2 := Lib.hid r2; have R3 := Lib.hid r3
  have R4 : Hid (FB W1 (w.heap.size + 1 + 1)) := Lib.hid (by
    have := FB.new ((w.alloc (.cells #[.bool bx, .slice Ax nx cx] 53)).alloc (.cells #[.bool bY, .slice Ay ny cy] 53)) false none 0 0 false none 0 0 55
    rw [World.size_alloc, World.size_alloc] at this
    rw [hW1]; exact this)
  have E1 := Lib.hid e1; have HW1 := Lib.hid hW1; have HLL := Lib.hid (And.intro lx ly)
  have zl := R4.out.lt
  obtain ⟨vg, hvg⟩ : ∃ vg : Int, vg = ((Int.gcd r t : Nat) : Int) := ⟨_, rfl⟩
  have HG := Lib.hid hvg
  have hvg0 : Hid (vg ≠ 0 ∧ (dig vg.natAbs).length ≤ L) := Lib.hid (by
    have : 0 < Int.gcd r t := Int.gcd_pos_iff.2 (.inr ht)
    refine ⟨by omega, ?_⟩
    rw [hvg, Int.natAbs_natCast]
    exact Nat.le_trans (len_mono (Nat.le_of_dvd (by omega) (Int.gcd_dvd_natAbs_right ..))) ly)
  clear e1 p1 p2 r2 r3 hW1 hx hy lx ly hbx hby hvg
  go_enter Tryz.func79, Tryz.ntmps79
  go_upto_region 1 with fail
  rw [← HW1.out]
  clear HW1
  obtain ⟨b2, A2, n2, c2, j0, j1, jz⟩ := PY.out
  have JZ0 := Lib.hid jz.words.1
  clear jz
  by_cases hneg : t < 0
  · rw [show b2 = true by rw [JZ0.out]; simp [hneg]] at j0
    have hng : vd = -vg := by rw [HVN.out]; unfold nfg; rw [if_pos hneg, HG.out]
    have hq1 : -r / vg = r / vd := by rw [hng]; exact neg_quo (by have := HDV.out.1; rw [hng] at this; exact Int.neg_dvd.1 this)
    have hq2 : -t / vg = t / vd := by rw [hng]; exact neg_quo (by have := HDV.out.2; rw [hng] at this; exact Int.neg_dvd.1 this)
    have HQ := Lib.hid (And.intro hq1 hq2)
    clear hng hq1 hq2
    go_upto_region 2 with fail
    clear j0 j1
    refine wp_region_noPanic ?_
    refine wp_pool 4 [some 8, some 9, some 10, some 11] [] [] [(fun (v : Value) (X : World) => ∃ b A n c, v = .agg #[.bool b, .slice A n c] ∧ ZV X (.agg #[.bool b, .slice A n c]) (r)), (fun (v : Value) (X : World) => ∃ b A n c, v = .agg #[.bool b, .slice A n c] ∧ ZV X (.agg #[.bool b, .slice A n c]) (-r)), (fun (v : Value) (X : World) => ∃ b A n c, v = .agg #[.bool b, .slice A n c] ∧ ZV X (.agg #[.bool b, .slice A n c]) (t)), (fun (v : Value) (X : World) => ∃ b A n c, v = .agg #[.bool b, .slice A n c] ∧ ZV X (.agg #[.bool b, .slice A n c]) (-t))] [noF, noF, noF, noF] (by kernel_rfl) (by kernel_rfl) (by kernel_rfl) (by kernel_rfl) (by kernel_rfl) (by kernel_rfl) (by kernel_rfl) (by kernel_rfl) (fun _ _ _ _ h => h) ⟨(fun _ _ _ e ⟨b, A, n, c, h1, h2⟩ => ⟨b, A, n, c, h1, h2.ext e⟩), (fun _ _ _ e ⟨b, A, n, c, h1, h2⟩ => ⟨b, A, n, c, h1, h2.ext e⟩), (fun _ _ _ e ⟨b, A, n, c, h1, h2⟩ => ⟨b, A, n, c, h1, h2.ext e⟩), (fun _ _ _ e ⟨b, A, n, c, h1, h2⟩ => ⟨b, A, n, c, h1, h2.ext e⟩), True.intro⟩ ?steps ?done
    case steps =>
      simp only [List.take_succ_cons, List.take_zero]
      refine Steps.cons (fun (v : Value) (X : World) => ∃ b A n c, v = .agg #[.bool b, .slice A n c] ∧ ZV X (.agg #[.bool b, .slice A n c]) (r)) [] rfl (by kernel_rfl) rfl (by kernel_rfl) (fun y X ex0 hf K hK => ?_) ?_
      · clear hf
        have ex := (Ext.drw (Ext.refl _)).trans ex0
        refine Box.mk ?_
        simp only [fill, Act.put, Nat.reduceAdd, List.setIfInBounds_toArray, List.set_cons_zero, List.set_cons_succ] at hK ⊢
        obtain ⟨bl, Al, nl, cl, k0, k1, kz⟩ := (PX.out.ext (by omega) ex)
        go_simp
        exact hK.out _ _ ⟨_, _, _, _, rfl, kz⟩ (Ext.refl _) (fun b hb => by cases hb)
      refine Steps.cons (fun (v : Value) (X : World) => ∃ b A n c, v = .agg #[.bool b, .slice A n c] ∧ ZV X (.agg #[.bool b, .slice A n c]) (-r)) [0] rfl (by kernel_rfl) rfl (by kernel_rfl) (fun y X ex0 hf K hK => ?_) ?_
      · have hh0 : ((fun (v : Value) (X : World) => ∃ b A n c, v = .agg #[.bool b, .slice A n c] ∧ ZV X (.agg #[.bool b, .slice A n c]) (r))) (y 0) X := hf.1
        refine Exists.elim hh0 (fun b0 hx0_0 => ?_)
        refine Exists.elim hx0_0 (fun A0 hx0_1 => ?_)
        refine Exists.elim hx0_1 (fun n0 hx0_2 => ?_)
        refine Exists.elim hx0_2 (fun c0 hx0_3 => ?_)
        have h0 := hx0_3.1
        have z0 := hx0_3.2
        clear hh0 hx0_0 hx0_1 hx0_2 hx0_3
        clear hf
        have ex := (Ext.drw (Ext.refl _)).trans ex0
        refine Box.mk ?_
        simp only [fill, Act.put, Nat.reduceAdd, List.setIfInBounds_toArray, List.set_cons_zero, List.set_cons_succ, h0] at hK ⊢
        go_simp
        refine (asAgg (minusR_any _ _ _ z0)).mono ?_
        rintro e V ⟨b9, A9, n9, c9, rfl, hz, hb⟩
        try go_wp2_with fail
        exact hK.out _ _ ⟨_, _, _, _, rfl, hz⟩ hb (fun b hb => by cases hb)
      refine Steps.cons (fun (v : Value) (X : World) => ∃ b A n c, v = .agg #[.bool b, .slice A n c] ∧ ZV X (.agg #[.bool b, .slice A n c]) (t)) [] rfl (by kernel_rfl) rfl (by kernel_rfl) (fun y X ex0 hf K hK => ?_) ?_
      · clear hf
        have ex := (Ext.drw (Ext.refl _)).trans ex0
        refine Box.mk ?_
        simp only [fill, Act.put, Nat.reduceAdd, List.setIfInBounds_toArray, List.set_cons_zero, List.set_cons_succ] at hK ⊢
        obtain ⟨bl, Al, nl, cl, k0, k1, kz⟩ := (PY.out.ext (by omega) ex)
        go_simp
        exact hK.out _ _ ⟨_, _, _, _, rfl, kz⟩ (Ext.refl _) (fun b hb => by cases hb)
      refine Steps.cons (fun (v : Value) (X : World) => ∃ b A n c, v = .agg #[.bool b, .slice A n c] ∧ ZV X (.agg #[.bool b, .slice A n c]) (-t)) [2, 1] rfl (by kernel_rfl) rfl (by kernel_rfl) (fun y X ex0 hf K hK => ?_) ?_
      · have hh2 : ((fun (v : Value) (X : World) => ∃ b A n c, v = .agg #[.bool b, .slice A n c] ∧ ZV X (.agg #[.bool b, .slice A n c]) (t))) (y 2) X := hf.1
        refine Exists.elim hh2 (fun b2 hx2_0 => ?_)
        refine Exists.elim hx2_0 (fun A2 hx2_1 => ?_)
        refine Exists.elim hx2_1 (fun n2 hx2_2 => ?_)
        refine Exists.elim hx2_2 (fun c2 hx2_3 => ?_)
        have h2 := hx2_3.1
        have z2 := hx2_3.2
        clear hh2 hx2_0 hx2_1 hx2_2 hx2_3
        have hh1 : ((fun (v : Value) (X : World) => ∃ b A n c, v = .agg #[.bool b, .slice A n c] ∧ ZV X (.agg #[.bool b, .slice A n c]) (-r))) (y 1) X := hf.2.1
        refine Exists.elim hh1 (fun b1 hx1_0 => ?_)
        refine Exists.elim hx1_0 (fun A1 hx1_1 => ?_)
        refine Exists.elim hx1_1 (fun n1 hx1_2 => ?_)
        refine Exists.elim hx1_2 (fun c1 hx1_3 => ?_)
        have h1 := hx1_3.1
        have z1 := hx1_3.2
        clear hh1 hx1_0 hx1_1 hx1_2 hx1_3
        clear hf
        have ex := (Ext.drw (Ext.refl _)).trans ex0
        refine Box.mk ?_
        simp only [fill, Act.put, Nat.reduceAdd, List.setIfInBounds_toArray, List.set_cons_zero, List.set_cons_succ, h2, h1] at hK ⊢
        go_simp
        refine (asAgg (minusR_any _ _ _ z2)).mono ?_
        rintro e V ⟨b9, A9, n9, c9, rfl, hz, hb⟩
        try go_wp2_with fail
        exact hK.out _ _ ⟨_, _, _, _, rfl, hz⟩ hb (fun b hb => by cases hb)
      exact Steps.nil
    case done =>
      intro y X ex hf hlt hsep
      have hh0 : ((fun (v : Value) (X : World) => ∃ b A n c, v = .agg #[.bool b, .slice A n c] ∧ ZV X (.agg #[.bool b, .slice A n c]) (r))) (y 0) X := hf.1
      refine Exists.elim hh0 (fun b0 hx0_0 => ?_)
      refine Exists.elim hx0_0 (fun A0 hx0_1 => ?_)
      refine Exists.elim hx0_1 (fun n0 hx0_2 => ?_)
      refine Exists.elim hx0_2 (fun c0 hx0_3 => ?_)
      have h0 := hx0_3.1
      have z0 := hx0_3.2
      clear hh0 hx0_0 hx0_1 hx0_2 hx0_3
      have hh1 : ((fun (v : Value) (X : World) => ∃ b A n c, v = .agg #[.bool b, .slice A n c] ∧ ZV X (.agg #[.bool b, .slice A n c]) (-r))) (y 1) X := hf.2.1
      refine Exists.elim hh1 (fun b1 hx1_0 => ?_)
      refine Exists.elim hx1_0 (fun A1 hx1_1 => ?_)
      refine Exists.elim hx1_1 (fun n1 hx1_2 => ?_)
      refine Exists.elim hx1_2 (fun c1 hx1_3 => ?_)
      have h1 := hx1_3.1
      have z1 := hx1_3.2
      clear hh1 hx1_0 hx1_1 hx1_2 hx1_3
      have hh2 : ((fun (v : Value) (X : World) => ∃ b A n c, v = .agg #[.bool b, .slice A n c] ∧ ZV X (.agg #[.bool b, .slice A n c]) (t))) (y 2) X := hf.2.2.1
      refine Exists.elim hh2 (fun b2 hx2_0 => ?_)
      refine Exists.elim hx2_0 (fun A2 hx2_1 => ?_)
      refine Exists.elim hx2_1 (fun n2 hx2_2 => ?_)
      refine Exists.elim hx2_2 (fun c2 hx2_3 => ?_)
      have h2 := hx2_3.1
      have z2 := hx2_3.2
      clear hh2 hx2_0 hx2_1 hx2_2 hx2_3
      have hh3 : ((fun (v : Value) (X : World) => ∃ b A n c, v = .agg #[.bool b, .slice A n c] ∧ ZV X (.agg #[.bool b, .slice A n c]) (-t))) (y 3) X := hf.2.2.2.1
      refine Exists.elim hh3 (fun b3 hx3_0 => ?_)
      refine Exists.elim hx3_0 (fun A3 hx3_1 => ?_)
      refine Exists.elim hx3_1 (fun n3 hx3_2 => ?_)
      refine Exists.elim hx3_2 (fun c3 hx3_3 => ?_)
      have h3 := hx3_3.1
      have z3 := hx3_3.2
      clear hh3 hx3_0 hx3_1 hx3_2 hx3_3
      clear hf
      clear hsep hlt
      refine Box.mk ?_
      simp only [List.drop_succ_cons, List.drop_zero, fill, Act.put, Nat.reduceAdd, List.setIfInBounds_toArray, List.set_cons_zero, List.set_cons_succ, h0, h1, h2, h3]
      clear h0 h1 h2 h3
      have r2 := R2.out.ext ex; have r3 := R3.out.ext ex
      obtain ⟨W', hW', m1, m2, m3, m4, m5, m6⟩ := two_put r2 r3 (show w.heap.size + 1 ≠ w.heap.size by omega) b1 A1 n1 c1 b3 A3 n3 c3 z1 z3 (Ext.below (E1.out.trans ex)) (by omega) (by omega)
      obtain ⟨_, _, _, _, g30, g31, g32, g33⟩ := r2.facts
      have T := r3.far r2 (show w.heap.size + 1 ≠ w.heap.size by omega) (.bool b1) (.slice A1 n1 c1)
      obtain ⟨_, _, _, _, g50, g51, g52, g53⟩ := T.facts
      have r4 : FB W' (w.heap.size + 1 + 1) := by rw [hW']; exact ((R4.out.ext ex).far (by omega)).far (by omega)
      have PX := Lib.hid m1; have PY := Lib.hid m2; have R4 := Lib.hid r4; have E3 : Hid (Ext w W') := Lib.hid m5; have HW' := Lib.hid hW'
      clear hW' m1 m2 m3 m4 m5 m6 r2 r3 r4 T ex z0 z1 z2 z3 E1 R2 R3
      go_wp2_with fail
      refine NoPanic.normal ?_
      go_upto_region 3 with fail
      rw [← HW'.out]
      clear g30 g31 g32 g33 g50 g51 g52 g53 HW'
      obtain ⟨b1, A1, n1, c1, k0, k1, kz⟩ := PX.out
      obtain ⟨b2, A2, n2, c2, j0, j1, jz⟩ := PY.out
      have GC := Lib.hid (show Calls Tryz.prog 96 #[.agg #[.bool b1, .slice A1 n1 c1], .agg #[.bool b2, .slice A2 n2 c2]] W' (RetZ W' vg) by rw [HG.out]; rw [← Int.neg_gcd, ← Int.gcd_neg]; exact commonR_any (-r) (-t) _ _ _ kz jz (by rw [Int.natAbs_neg]; have := HLL.out.1; omega) (by rw [Int.natAbs_neg]; have := HLL.out.2; omega))
      clear kz jz
      go_wp2_with fail
      refine (asAgg GC.out).mono ?_
      rintro e w2 ⟨b5, A5, n5, c5, rfl, hz, x2⟩
      replace x2 : Ext W' w2 := x2
      have Z5 := Lib.hid hz; have X2 := Lib.hid x2; clear hz x2 k0 k1 j0 j1 GC
      go_upto_region 4 with fail
      obtain ⟨W2, hW2⟩ : ∃ W2, W2 = w2.alloc (Obj.cells #[.bool b5, .slice A5 n5 c5] 53) := ⟨_, rfl⟩
      have e2 : Ext W' W2 := by rw [hW2]; exact X2.out.alc _
      have i5 : HZ W2 w2.heap.size vg := by rw [hW2]; exact HZ.lit w2 b5 A5 n5 c5 53 Z5.out
      rw [← hW2]
      obtain ⟨g5, hg5⟩ : ∃ k, k = w2.heap.size := ⟨_, rfl⟩
      rw [← hg5] at i5 ⊢
      have PX := Lib.hid (PX.out.ext PX.out.lt e2); have PY := Lib.hid (PY.out.ext PY.out.lt e2); have R4 := Lib.hid (R4.out.ext e2)
      have E2 := Lib.hid (E3.out.trans e2)
      have I5 := Lib.hid i5
      have zl2 := i5.lt
      have lg := R4.out.lt
      clear e2 i5 hW2 hg5 X2 Z5
      refine wp_region_noPanic ?_
      refine wp_pool 7 [some 15, some 16, some 17, some 18, some 19, some 20, some 21] [] [] [(fun (v : Value) (X : World) => ∃ b A n c, v = .agg #[.bool b, .slice A n c] ∧ ZV X (.agg #[.bool b, .slice A n c]) (-r)), (fun (v : Value) (X : World) => ∃ b A n c, v = .agg #[.bool b, .slice A n c] ∧ ZV X (.agg #[.bool b, .slice A n c]) (vg)), (fun (v : Value) (X : World) => ∃ b A n c, v = .agg #[.bool b, .slice A n c] ∧ ZV X (.agg #[.bool b, .slice A n c]) (r / vd)), (fun (v : Value) (X : World) => ∃ b A n c, v = .agg #[.bool b, .slice A n c] ∧ ZV X (.agg #[.bool b, .slice A n c]) (-t)), (fun (v : Value) (X : World) => ∃ b A n c, v = .agg #[.bool b, .slice A n c] ∧ ZV X (.agg #[.bool b, .slice A n c]) (vg)), (fun (v : Value) (X : World) => ∃ b A n c, v = .agg #[.bool b, .slice A n c] ∧ ZV X (.agg #[.bool b, .slice A n c]) (t / vd)), (fun (v : Value) (X : World) => ∃ b A n c b' A' n' c', v = .agg #[.bool b, .slice A n c, .bool b', .slice A' n' c'] ∧ ZV X (.agg #[.bool b, .slice A n c]) (r / vd) ∧ ZV X (.agg #[.bool b', .slice A' n' c']) (t / vd))] [noF, noF, noF, noF, noF, noF, noF] (by kernel_rfl) (by kernel_rfl) (by kernel_rfl) (by kernel_rfl) (by kernel_rfl) (by kernel_rfl) (by kernel_rfl) (by kernel_rfl) (fun _ _ _ _ h => h) ⟨(fun _ _ _ e ⟨b, A, n, c, h1, h2⟩ => ⟨b, A, n, c, h1, h2.ext e⟩), (fun _ _ _ e ⟨b, A, n, c, h1, h2⟩ => ⟨b, A, n, c, h1, h2.ext e⟩), (fun _ _ _ e ⟨b, A, n, c, h1, h2⟩ => ⟨b, A, n, c, h1, h2.ext e⟩), (fun _ _ _ e ⟨b, A, n, c, h1, h2⟩ => ⟨b, A, n, c, h1, h2.ext e⟩), (fun _ _ _ e ⟨b, A, n, c, h1, h2⟩ => ⟨b, A, n, c, h1, h2.ext e⟩), (fun _ _ _ e ⟨b, A, n, c, h1, h2⟩ => ⟨b, A, n, c, h1, h2.ext e⟩), (fun _ _ _ e ⟨b, A, n, c, b', A', n', c', h1, h2, h3⟩ => ⟨b, A, n, c, b', A', n', c', h1, h2.ext e, h3.ext e⟩), True.intro⟩ ?steps ?done
      case steps =>
        simp only [List.take_succ_cons, List.take_zero]
        refine Steps.cons (fun (v : Value) (X : World) => ∃ b A n c, v = .agg #[.bool b, .slice A n c] ∧ ZV X (.agg #[.bool b, .slice A n c]) (-r)) [] rfl (by kernel_rfl) rfl (by kernel_rfl) (fun y X ex0 hf K hK => ?_) ?_
        · clear hf
          have ex := (Ext.drw (Ext.refl _)).trans ex0
          refine Box.mk ?_
          simp only [fill, Act.put, Nat.reduceAdd, List.setIfInBounds_toArray, List.set_cons_zero, List.set_cons_succ] at hK ⊢
          obtain ⟨bl, Al, nl, cl, k0, k1, kz⟩ := (PX.out.ext (by omega) ex)
          go_simp
          exact hK.out _ _ ⟨_, _, _, _, rfl, kz⟩ (Ext.refl _) (fun b hb => by cases hb)
        refine Steps.cons (fun (v : Value) (X : World) => ∃ b A n c, v = .agg #[.bool b, .slice A n c] ∧ ZV X (.agg #[.bool b, .slice A n c]) (vg)) [] rfl (by kernel_rfl) rfl (by kernel_rfl) (fun y X ex0 hf K hK => ?_) ?_
        · clear hf
          have ex := (Ext.drw (Ext.refl _)).trans ex0
          refine Box.mk ?_
          simp only [fill, Act.put, Nat.reduceAdd, List.setIfInBounds_toArray, List.set_cons_zero, List.set_cons_succ] at hK ⊢
          obtain ⟨bl, Al, nl, cl, k0, k1, kz⟩ := (I5.out.ext (by omega) ex)
          go_simp
          exact hK.out _ _ ⟨_, _, _, _, rfl, kz⟩ (Ext.refl _) (fun b hb => by cases hb)
        refine Steps.cons (fun (v : Value) (X : World) => ∃ b A n c, v = .agg #[.bool b, .slice A n c] ∧ ZV X (.agg #[.bool b, .slice A n c]) (r / vd)) [0, 1] rfl (by kernel_rfl) rfl (by kernel_rfl) (fun y X ex0 hf K hK => ?_) ?_
        · have hh0 : ((fun (v : Value) (X : World) => ∃ b A n c, v = .agg #[.bool b, .slice A n c] ∧ ZV X (.agg #[.bool b, .slice A n c]) (-r))) (y 0) X := hf.1
          refine Exists.elim hh0 (fun b0 hx0_0 => ?_)
          refine Exists.elim hx0_0 (fun A0 hx0_1 => ?_)
          refine Exists.elim hx0_1 (fun n0 hx0_2 => ?_)
          refine Exists.elim hx0_2 (fun c0 hx0_3 => ?_)
          have h0 := hx0_3.1
          have z0 := hx0_3.2
          clear hh0 hx0_0 hx0_1 hx0_2 hx0_3
          have hh1 : ((fun (v : Value) (X : World) => ∃ b A n c, v = .agg #[.bool b, .slice A n c] ∧ ZV X (.agg #[.bool b, .slice A n c]) (vg))) (y 1) X := hf.2.1
          refine Exists.elim hh1 (fun b1 hx1_0 => ?_)
          refine Exists.elim hx1_0 (fun A1 hx1_1 => ?_)
          refine Exists.elim hx1_1 (fun n1 hx1_2 => ?_)
          refine Exists.elim hx1_2 (fun c1 hx1_3 => ?_)
          have h1 := hx1_3.1
          have z1 := hx1_3.2
          clear hh1 hx1_0 hx1_1 hx1_2 hx1_3
          clear hf
          have ex := (Ext.drw (Ext.refl _)).trans ex0
          refine Box.mk ?_
          simp only [fill, Act.put, Nat.reduceAdd, List.setIfInBounds_toArray, List.set_cons_zero, List.set_cons_succ, h0, h1] at hK ⊢
          go_simp
          refine (asAgg (show Calls Tryz.prog 106 _ X (RetZ X (r / vd)) by rw [← HQ.out.1]; exact exactlyR_any _ _ _ _ _ z0 z1 (by rw [Int.natAbs_neg]; have := HLL.out.1; omega) (by have := hvg0.out.2; omega) hvg0.out.1)).mono ?_
          rintro e V ⟨b9, A9, n9, c9, rfl, hz, hb⟩
          try go_wp2_with fail
          exact hK.out _ _ ⟨_, _, _, _, rfl, hz⟩ hb (fun b hb => by cases hb)
        refine Steps.cons (fun (v : Value) (X : World) => ∃ b A n c, v = .agg #[.bool b, .slice A n c] ∧ ZV X (.agg #[.bool b, .slice A n c]) (-t)) [] rfl (by kernel_rfl) rfl (by kernel_rfl) (fun y X ex0 hf K hK => ?_) ?_
        · clear hf
          have ex := (Ext.drw (Ext.refl _)).trans ex0
          refine Box.mk ?_
          simp only [fill, Act.put, Nat.reduceAdd, List.setIfInBounds_toArray, List.set_cons_zero, List.set_cons_succ] at hK ⊢
          obtain ⟨bl, Al, nl, cl, k0, k1, kz⟩ := (PY.out.ext (by omega) ex)
          go_simp
          exact hK.out _ _ ⟨_, _, _, _, rfl, kz⟩ (Ext.refl _) (fun b hb => by cases hb)
        refine Steps.cons (fun (v : Value) (X : World) => ∃ b A n c, v = .agg #[.bool b, .slice A n c] ∧ ZV X (.agg #[.bool b, .slice A n c]) (vg)) [] rfl (by kernel_rfl) rfl (by kernel_rfl) (fun y X ex0 hf K hK => ?_) ?_
        · clear hf
          have ex := (Ext.drw (Ext.refl _)).trans ex0
          refine Box.mk ?_
          simp only [fill, Act.put, Nat.reduceAdd, List.setIfInBounds_toArray, List.set_cons_zero, List.set_cons_succ] at hK ⊢
          obtain ⟨bl, Al, nl, cl, k0, k1, kz⟩ := (I5.out.ext (by omega) ex)
          go_simp
          exact hK.out _ _ ⟨_, _, _, _, rfl, kz⟩ (Ext.refl _) (fun b hb => by cases hb)
        refine Steps.cons (fun (v : Value) (X : World) => ∃ b A n c, v = .agg #[.bool b, .slice A n c] ∧ ZV X (.agg #[.bool b, .slice A n c]) (t / vd)) [3, 4, 2] rfl (by kernel_rfl) rfl (by kernel_rfl) (fun y X ex0 hf K hK => ?_) ?_
        · have hh3 : ((fun (v : Value) (X : World) => ∃ b A n c, v = .agg #[.bool b, .slice A n c] ∧ ZV X (.agg #[.bool b, .slice A n c]) (-t))) (y 3) X := hf.1
          refine Exists.elim hh3 (fun b3 hx3_0 => ?_)
          refine Exists.elim hx3_0 (fun A3 hx3_1 => ?_)
          refine Exists.elim hx3_1 (fun n3 hx3_2 => ?_)
          refine Exists.elim hx3_2 (fun c3 hx3_3 => ?_)
          have h3 := hx3_3.1
          have z3 := hx3_3.2
          clear hh3 hx3_0 hx3_1 hx3_2 hx3_3
          have hh4 : ((fun (v : Value) (X : World) => ∃ b A n c, v = .agg #[.bool b, .slice A n c] ∧ ZV X (.agg #[.bool b, .slice A n c]) (vg))) (y 4) X := hf.2.1
          refine Exists.elim hh4 (fun b4 hx4_0 => ?_)
          refine Exists.elim hx4_0 (fun A4 hx4_1 => ?_)
          refine Exists.elim hx4_1 (fun n4 hx4_2 => ?_)
          refine Exists.elim hx4_2 (fun c4 hx4_3 => ?_)
          have h4 := hx4_3.1
          have z4 := hx4_3.2
          clear hh4 hx4_0 hx4_1 hx4_2 hx4_3
          have hh2 : ((fun (v : Value) (X : World) => ∃ b A n c, v = .agg #[.bool b, .slice A n c] ∧ ZV X (.agg #[.bool b, .slice A n c]) (r / vd))) (y 2) X := hf.2.2.1
          refine Exists.elim hh2 (fun b2 hx2_0 => ?_)
          refine Exists.elim hx2_0 (fun A2 hx2_1 => ?_)
          refine Exists.elim hx2_1 (fun n2 hx2_2 => ?_)
          refine Exists.elim hx2_2 (fun c2 hx2_3 => ?_)
          have h2 := hx2_3.1
          have z2 := hx2_3.2
          clear hh2 hx2_0 hx2_1 hx2_2 hx2_3
          clear hf
          have ex := (Ext.drw (Ext.refl _)).trans ex0
          refine Box.mk ?_
          simp only [fill, Act.put, Nat.reduceAdd, List.setIfInBounds_toArray, List.set_cons_zero, List.set_cons_succ, h3, h4, h2] at hK ⊢
          go_simp
          refine (asAgg (show Calls Tryz.prog 106 _ X (RetZ X (t / vd)) by rw [← HQ.out.2]; exact exactlyR_any _ _ _ _ _ z3 z4 (by rw [Int.natAbs_neg]; have := HLL.out.2; omega) (by have := hvg0.out.2; omega) hvg0.out.1)).mono ?_
          rintro e V ⟨b9, A9, n9, c9, rfl, hz, hb⟩
          try go_wp2_with fail
          exact hK.out _ _ ⟨_, _, _, _, rfl, hz⟩ hb (fun b hb => by cases hb)
        refine Steps.cons (fun (v : Value) (X : World) => ∃ b A n c b' A' n' c', v = .agg #[.bool b, .slice A n c, .bool b', .slice A' n' c'] ∧ ZV X (.agg #[.bool b, .slice A n c]) (r / vd) ∧ ZV X (.agg #[.bool b', .slice A' n' c']) (t / vd)) [2, 5] rfl (by kernel_rfl) rfl (by kernel_rfl) (fun y X ex0 hf K hK => ?_) ?_
        · have hh2 : ((fun (v : Value) (X : World) => ∃ b A n c, v = .agg #[.bool b, .slice A n c] ∧ ZV X (.agg #[.bool b, .slice A n c]) (r / vd))) (y 2) X := hf.1
          refine Exists.elim hh2 (fun b2 hx2_0 => ?_)
          refine Exists.elim hx2_0 (fun A2 hx2_1 => ?_)
          refine Exists.elim hx2_1 (fun n2 hx2_2 => ?_)
          refine Exists.elim hx2_2 (fun c2 hx2_3 => ?_)
          have h2 := hx2_3.1
          have z2 := hx2_3.2
          clear hh2 hx2_0 hx2_1 hx2_2 hx2_3
          have hh5 : ((fun (v : Value) (X : World) => ∃ b A n c, v = .agg #[.bool b, .slice A n c] ∧ ZV X (.agg #[.bool b, .slice A n c]) (t / vd))) (y 5) X := hf.2.1
          refine Exists.elim hh5 (fun b5 hx5_0 => ?_)
          refine Exists.elim hx5_0 (fun A5 hx5_1 => ?_)
          refine Exists.elim hx5_1 (fun n5 hx5_2 => ?_)
          refine Exists.elim hx5_2 (fun c5 hx5_3 => ?_)
          have h5 := hx5_3.1
          have z5 := hx5_3.2
          clear hh5 hx5_0 hx5_1 hx5_2 hx5_3
          clear hf
          have ex := (Ext.drw (Ext.refl _)).trans ex0
          refine Box.mk ?_
          simp only [fill, Act.put, Nat.reduceAdd, List.setIfInBounds_toArray, List.set_cons_zero, List.set_cons_succ, h2, h5] at hK ⊢
          go_simp
          exact hK.out _ _ ⟨_, _, _, _, _, _, _, _, rfl, z2, z5⟩ (Ext.refl _) (fun b hb => by cases hb)
        exact Steps.nil
      case done =>
        intro y X ex hf hlt hsep
        have hh0 : ((fun (v : Value) (X : World) => ∃ b A n c, v = .agg #[.bool b, .slice A n c] ∧ ZV X (.agg #[.bool b, .slice A n c]) (-r))) (y 0) X := hf.1
        refine Exists.elim hh0 (fun b0 hx0_0 => ?_)
        refine Exists.elim hx0_0 (fun A0 hx0_1 => ?_)
        refine Exists.elim hx0_1 (fun n0 hx0_2 => ?_)
        refine Exists.elim hx0_2 (fun c0 hx0_3 => ?_)
        have h0 := hx0_3.1
        have z0 := hx0_3.2
        clear hh0 hx0_0 hx0_1 hx0_2 hx0_3
        have hh1 : ((fun (v : Value) (X : World) => ∃ b A n c, v = .agg #[.bool b, .slice A n c] ∧ ZV X (.agg #[.bool b, .slice A n c]) (vg))) (y 1) X := hf.2.1
        refine Exists.elim hh1 (fun b1 hx1_0 => ?_)
        refine Exists.elim hx1_0 (fun A1 hx1_1 => ?_)
        refine Exists.elim hx1_1 (fun n1 hx1_2 => ?_)
        refine Exists.elim hx1_2 (fun c1 hx1_3 => ?_)
        have h1 := hx1_3.1
        have z1 := hx1_3.2
        clear hh1 hx1_0 hx1_1 hx1_2 hx1_3
        have hh2 : ((fun (v : Value) (X : World) => ∃ b A n c, v = .agg #[.bool b, .slice A n c] ∧ ZV X (.agg #[.bool b, .slice A n c]) (r / vd))) (y 2) X := hf.2.2.1
        refine Exists.elim hh2 (fun b2 hx2_0 => ?_)
        refine Exists.elim hx2_0 (fun A2 hx2_1 => ?_)
        refine Exists.elim hx2_1 (fun n2 hx2_2 => ?_)
        refine Exists.elim hx2_2 (fun c2 hx2_3 => ?_)
        have h2 := hx2_3.1
        have z2 := hx2_3.2
        clear hh2 hx2_0 hx2_1 hx2_2 hx2_3
        have hh3 : ((fun (v : Value) (X : World) => ∃ b A n c, v = .agg #[.bool b, .slice A n c] ∧ ZV X (.agg #[.bool b, .slice A n c]) (-t))) (y 3) X := hf.2.2.2.1
        refine Exists.elim hh3 (fun b3 hx3_0 => ?_)
        refine Exists.elim hx3_0 (fun A3 hx3_1 => ?_)
        refine Exists.elim hx3_1 (fun n3 hx3_2 => ?_)
        refine Exists.elim hx3_2 (fun c3 hx3_3 => ?_)
        have h3 := hx3_3.1
        have z3 := hx3_3.2
        clear hh3 hx3_0 hx3_1 hx3_2 hx3_3
        have hh4 : ((fun (v : Value) (X : World) => ∃ b A n c, v = .agg #[.bool b, .slice A n c] ∧ ZV X (.agg #[.bool b, .slice A n c]) (vg))) (y 4) X := hf.2.2.2.2.1
        refine Exists.elim hh4 (fun b4 hx4_0 => ?_)
        refine Exists.elim hx4_0 (fun A4 hx4_1 => ?_)
        refine Exists.elim hx4_1 (fun n4 hx4_2 => ?_)
        refine Exists.elim hx4_2 (fun c4 hx4_3 => ?_)
        have h4 := hx4_3.1
        have z4 := hx4_3.2
        clear hh4 hx4_0 hx4_1 hx4_2 hx4_3
        have hh5 : ((fun (v : Value) (X : World) => ∃ b A n c, v = .agg #[.bool b, .slice A n c] ∧ ZV X (.agg #[.bool b, .slice A n c]) (t / vd))) (y 5) X := hf.2.2.2.2.2.1
        refine Exists.elim hh5 (fun b5 hx5_0 => ?_)
        refine Exists.elim hx5_0 (fun A5 hx5_1 => ?_)
        refine Exists.elim hx5_1 (fun n5 hx5_2 => ?_)
        refine Exists.elim hx5_2 (fun c5 hx5_3 => ?_)
        have h5 := hx5_3.1
        have z5 := hx5_3.2
        clear hh5 hx5_0 hx5_1 hx5_2 hx5_3
        have hh6 : ((fun (v : Value) (X : World) => ∃ b A n c b' A' n' c', v = .agg #[.bool b, .slice A n c, .bool b', .slice A' n' c'] ∧ ZV X (.agg #[.bool b, .slice A n c]) (r / vd) ∧ ZV X (.agg #[.bool b', .slice A' n' c']) (t / vd))) (y 6) X := hf.2.2.2.2.2.2.1
        refine Exists.elim hh6 (fun b6 hx6_0 => ?_)
        refine Exists.elim hx6_0 (fun A6 hx6_1 => ?_)
        refine Exists.elim hx6_1 (fun n6 hx6_2 => ?_)
        refine Exists.elim hx6_2 (fun c6 hx6_3 => ?_)
        refine Exists.elim hx6_3 (fun bb6 hx6_4 => ?_)
        refine Exists.elim hx6_4 (fun AA6 hx6_5 => ?_)
        refine Exists.elim hx6_5 (fun nn6 hx6_6 => ?_)
        refine Exists.elim hx6_6 (fun cc6 hx6_7 => ?_)
        have h6 := hx6_7.1
        have z6 := hx6_7.2.1
        have y6 := hx6_7.2.2
        clear hh6 hx6_0 hx6_1 hx6_2 hx6_3 hx6_4 hx6_5 hx6_6 hx6_7
        clear hf
        clear hsep hlt
        refine Box.mk ?_
        simp only [List.drop_succ_cons, List.drop_zero, fill, Act.put, Nat.reduceAdd, List.setIfInBounds_toArray, List.set_cons_zero, List.set_cons_succ, h0, h1, h2, h3, h4, h5, h6]
        clear h0 h1 h2 h3 h4 h5 h6
        have r4 := R4.out.ext ex
        obtain ⟨_, _, _, _, k40, k41, k42, k43, k44, k45, k46, k47⟩ := put4_walk r4 (.bool b6) (.slice A6 n6 c6) (.bool bb6)
        obtain ⟨W', hW'⟩ : ∃ W', W' = put4 X (w.heap.size + 1 + 1) (.bool b6) (.slice A6 n6 c6) (.bool bb6) (.slice AA6 nn6 cc6) := ⟨_, rfl⟩
        obtain ⟨f0, f1, f2, f3⟩ := put4_cells r4 (.bool b6) (.slice A6 n6 c6) (.bool bb6) (.slice AA6 nn6 cc6)
        have hz1 := (z6).put4 r4 (.bool b6) (.slice A6 n6 c6) (.bool bb6) (.slice AA6 nn6 cc6)
        rw [← hW'] at hz1
        have hz2 := (y6).put4 r4 (.bool b6) (.slice A6 n6 c6) (.bool bb6) (.slice AA6 nn6 cc6)
        rw [← hW'] at hz2
        have hbf : Below w.heap.size w W' := by rw [hW']; exact put4_below (Ext.below (E2.out.trans ex)) (by omega) (.bool b6) (.slice A6 n6 c6) (.bool bb6) (.slice AA6 nn6 cc6)
        rw [← hW'] at f0 f1 f2 f3
        unfold put4 at hW'
        have HG := Lib.hid (And.intro hz1 (And.intro hz2 (And.intro hbf (And.intro f0 (And.intro f1 (And.intro f2 f3))))))
        have HW' := Lib.hid hW'
        clear hz1 hz2 hbf f0 f1 f2 f3 hW' ex z0 z1 z2 z3 z4 z5 z6 y6 r4
        go_wp2_with fail
        refine NoPanic.normal ?_
        go_wp2
        rw [← HW'.out]
        obtain ⟨hz1, hz2, hbf, f0, f1, f2, f3⟩ := HG.out
        exact bodyPost_ret (v := .agg #[.bool b6, .slice A6 n6 c6, .bool bb6, .slice AA6 nn6 cc6]) (by simp [results, Tryz.results79, go_sem, f0, f1, f2, f3]) rfl ⟨_, _, _, _, _, _, _, _, rfl, hz1, hz2, hbf⟩
  · rw [show b2 = false by rw [JZ0.out]; simp [hneg]] at j0
    have hng : vd = vg := by rw [HVN.out]; unfold nfg; rw [if_neg hneg, HG.out]
    have HQ := Lib.hid (show r / vg = r / vd ∧ t / vg = t / vd by rw [hng]; exact ⟨rfl, rfl⟩)
    clear hng
    go_upto_region 3 with fail
    clear j0 j1
    obtain ⟨b1, A1, n1, c1, k0, k1, kz⟩ := PX.out
    obtain ⟨b2, A2, n2, c2, j0, j1, jz⟩ := PY.out
    have GC := Lib.hid (show Calls Tryz.prog 96 #[.agg #[.bool b1, .slice A1 n1 c1], .agg #[.bool b2, .slice A2 n2 c2]] W1 (RetZ W1 vg) by rw [HG.out]; exact commonR_any (r) (t) _ _ _ kz jz (by have := HLL.out.1; omega) (by have := HLL.out.2; omega))
    clear kz jz
    go_wp2_with fail
    refine (asAgg GC.out).mono ?_
    rintro e w2 ⟨b5, A5, n5, c5, rfl, hz, x2⟩
    replace x2 : Ext W1 w2 := x2
    have Z5 := Lib.hid hz; have X2 := Lib.hid x2; clear hz x2 k0 k1 j0 j1 GC
    go_upto_region 4 with fail
    obtain ⟨W2, hW2⟩ : ∃ W2, W2 = w2.alloc (Obj.cells #[.bool b5, .slice A5 n5 c5] 53) := ⟨_, rfl⟩
    have e2 : Ext W1 W2 := by rw [hW2]; exact X2.out.alc _
    have i5 : HZ W2 w2.heap.size vg := by rw [hW2]; exact HZ.lit w2 b5 A5 n5 c5 53 Z5.out
    rw [← hW2]
    obtain ⟨g5, hg5⟩ : ∃ k, k = w2.heap.size := ⟨_, rfl⟩
    rw [← hg5] at i5 ⊢
    have PX := Lib.hid (PX.out.ext PX.out.lt e2); have PY := Lib.hid (PY.out.ext PY.out.lt e2); have R4 := Lib.hid (R4.out.ext e2)
    have E2 := Lib.hid (E1.out.trans e2)
    have I5 := Lib.hid i5
    have zl2 := i5.lt
    have lg := R4.out.lt
    clear e2 i5 hW2 hg5 X2 Z5
    refine wp_region_noPanic ?_
    refine wp_pool 7 [some 15, some 16, some 17, some 18, some 19, some 20, some 21] [] [] [(fun (v : Value) (X : World) => ∃ b A n c, v = .agg #[.bool b, .slice A n c] ∧ ZV X (.agg #[.bool b, .slice A n c]) (r)), (fun (v : Value) (X : World) => ∃ b A n c, v = .agg #[.bool b, .slice A n c] ∧ ZV X (.agg #[.bool b, .slice A n c]) (vg)), (fun (v : Value) (X : World) => ∃ b A n c, v = .agg #[.bool b, .slice A n c] ∧ ZV X (.agg #[.bool b, .slice A n c]) (r / vd)), (fun (v : Value) (X : World) => ∃ b A n c, v = .agg #[.bool b, .slice A n c] ∧ ZV X (.agg #[.bool b, .slice A n c]) (t)), (fun (v : Value) (X : World) => ∃ b A n c, v = .agg #[.bool b, .slice A n c] ∧ ZV X (.agg #[.bool b, .slice A n c]) (vg)), (fun (v : Value) (X : World) => ∃ b A n c, v = .agg #[.bool b, .slice A n c] ∧ ZV X (.agg #[.bool b, .slice A n c]) (t / vd)), (fun (v : Value) (X : World) => ∃ b A n c b' A' n' c', v = .agg #[.bool b, .slice A n c, .bool b', .slice A' n' c'] ∧ ZV X (.agg #[.bool b, .slice A n c]) (r / vd) ∧ ZV X (.agg #[.bool b', .slice A' n' c']) (t / vd))] [noF, noF, noF, noF, noF, noF, noF] (by kernel_rfl) (by kernel_rfl) (by kernel_rfl) (by kernel_rfl) (by kernel_rfl) (by kernel_rfl) (by kernel_rfl) (by kernel_rfl) (fun _ _ _ _ h => h) ⟨(fun _ _ _ e ⟨b, A, n, c, h1, h2⟩ => ⟨b, A, n, c, h1, h2.ext e⟩), (fun _ _ _ e ⟨b, A, n, c, h1, h2⟩ => ⟨b, A, n, c, h1, h2.ext e⟩), (fun _ _ _ e ⟨b, A, n, c, h1, h2⟩ => ⟨b, A, n, c, h1, h2.ext e⟩), (fun _ _ _ e ⟨b, A, n, c, h1, h2⟩ => ⟨b, A, n, c, h1, h2.ext e⟩), (fun _ _ _ e ⟨b, A, n, c, h1, h2⟩ => ⟨b, A, n, c, h1, h2.ext e⟩), (fun _ _ _ e ⟨b, A, n, c, h1, h2⟩ => ⟨b, A, n, c, h1, h2.ext e⟩), (fun _ _ _ e ⟨b, A, n, c, b', A', n', c', h1, h2, h3⟩ => ⟨b, A, n, c, b', A', n', c', h1, h2.ext e, h3.ext e⟩), True.intro⟩ ?steps ?done
    case steps =>
      simp only [List.take_succ_cons, List.take_zero]
      refine Steps.cons (fun (v : Value) (X : World) => ∃ b A n c, v = .agg #[.bool b, .slice A n c] ∧ ZV X (.agg #[.bool b, .slice A n c]) (r)) [] rfl (by kernel_rfl) rfl (by kernel_rfl) (fun y X ex0 hf K hK => ?_) ?_
      · clear hf
        have ex := (Ext.drw (Ext.refl _)).trans ex0
        refine Box.mk ?_
        simp only [fill, Act.put, Nat.reduceAdd, List.setIfInBounds_toArray, List.set_cons_zero, List.set_cons_succ] at hK ⊢
        obtain ⟨bl, Al, nl, cl, k0, k1, kz⟩ := (PX.out.ext (by omega) ex)
        go_simp
        exact hK.out _ _ ⟨_, _, _, _, rfl, kz⟩ (Ext.refl _) (fun b hb => by cases hb)
      refine Steps.cons (fun (v : Value) (X : World) => ∃ b A n c, v = .agg #[.bool b, .slice A n c] ∧ ZV X (.agg #[.bool b, .slice A n c]) (vg)) [] rfl (by kernel_rfl) rfl (by kernel_rfl) (fun y X ex0 hf K hK => ?_) ?_
      · clear hf
        have ex := (Ext.drw (Ext.refl _)).trans ex0
        refine Box.mk ?_
        simp only [fill, Act.put, Nat.reduceAdd, List.setIfInBounds_toArray, List.set_cons_zero, List.set_cons_succ] at hK ⊢
        obtain ⟨bl, Al, nl, cl, k0, k1, kz⟩ := (I5.out.ext (by omega) ex)
        go_simp
        exact hK.out _ _ ⟨_, _, _, _, rfl, kz⟩ (Ext.refl _) (fun b hb => by cases hb)
      refine Steps.cons (fun (v : Value) (X : World) => ∃ b A n c, v = .agg #[.bool b, .slice A n c] ∧ ZV X (.agg #[.bool b, .slice A n c]) (r / vd)) [0, 1] rfl (by kernel_rfl) rfl (by kernel_rfl) (fun y X ex0 hf K hK => ?_) ?_
      · have hh0 : ((fun (v : Value) (X : World) => ∃ b A n c, v = .agg #[.bool b, .slice A n c] ∧ ZV X (.agg #[.bool b, .slice A n c]) (r))) (y 0) X := hf.1
        refine Exists.elim hh0 (fun b0 hx0_0 => ?_)
        refine Exists.elim hx0_0 (fun A0 hx0_1 => ?_)
        refine Exists.elim hx0_1 (fun n0 hx0_2 => ?_)
        refine Exists.elim hx0_2 (fun c0 hx0_3 => ?_)
        have h0 := hx0_3.1
        have z0 := hx0_3.2
        clear hh0 hx0_0 hx0_1 hx0_2 hx0_3
        have hh1 : ((fun (v : Value) (X : World) => ∃ b A n c, v = .agg #[.bool b, .slice A n c] ∧ ZV X (.agg #[.bool b, .slice A n c]) (vg))) (y 1) X := hf.2.1
        refine Exists.elim hh1 (fun b1 hx1_0 => ?_)
        refine Exists.elim hx1_0 (fun A1 hx1_1 => ?_)
        refine Exists.elim hx1_1 (fun n1 hx1_2 => ?_)
        refine Exists.elim hx1_2 (fun c1 hx1_3 => ?_)
        have h1 := hx1_3.1
        have z1 := hx1_3.2
        clear hh1 hx1_0 hx1_1 hx1_2 hx1_3
        clear hf
        have ex := (Ext.drw (Ext.refl _)).trans ex0
        refine Box.mk ?_
        simp only [fill, Act.put, Nat.reduceAdd, List.setIfInBounds_toArray, List.set_cons_zero, List.set_cons_succ, h0, h1] at hK ⊢
        go_simp
        refine (asAgg (show Calls Tryz.prog 106 _ X (RetZ X (r / vd)) by rw [← HQ.out.1]; exact exactlyR_any _ _ _ _ _ z0 z1 (by have := HLL.out.1; omega) (by have := hvg0.out.2; omega) hvg0.out.1)).mono ?_
        rintro e V ⟨b9, A9, n9, c9, rfl, hz, hb⟩
        try go_wp2_with fail
        exact hK.out _ _ ⟨_, _, _, _, rfl, hz⟩ hb (fun b hb => by cases hb)
      refine Steps.cons (fun (v : Value) (X : World) => ∃ b A n c, v = .agg #[.bool b, .slice A n c] ∧ ZV X (.agg #[.bool b, .slice A n c]) (t)) [] rfl (by kernel_rfl) rfl (by kernel_rfl) (fun y X ex0 hf K hK => ?_) ?_
      · clear hf
        have ex := (Ext.drw (Ext.refl _)).trans ex0
        refine Box.mk ?_
        simp only [fill, Act.put, Nat.reduceAdd, List.setIfInBounds_toArray, List.set_cons_zero, List.set_cons_succ] at hK ⊢
        obtain ⟨bl, Al, nl, cl, k0, k1, kz⟩ := (PY.out.ext (by omega) ex)
        go_simp
        exact hK.out _ _ ⟨_, _, _, _, rfl, kz⟩ (Ext.refl _) (fun b hb => by cases hb)
      refine Steps.cons (fun (v : Value) (X : World) => ∃ b A n c, v = .agg #[.bool b, .slice A n c] ∧ ZV X (.agg #[.bool b, .slice A n c]) (vg)) [] rfl (by kernel_rfl) rfl (by kernel_rfl) (fun y X ex0 hf K hK => ?_) ?_
      · clear hf
        have ex := (Ext.drw (Ext.refl _)).trans ex0
        refine Box.mk ?_
        simp only [fill, Act.put, Nat.reduceAdd, List.setIfInBounds_toArray, List.set_cons_zero, List.set_cons_succ] at hK ⊢
        obtain ⟨bl, Al, nl, cl, k0, k1, kz⟩ := (I5.out.ext (by omega) ex)
        go_simp
        exact hK.out _ _ ⟨_, _, _, _, rfl, kz⟩ (Ext.refl _) (fun b hb => by cases hb)
      refine Steps.cons (fun (v : Value) (X : World) => ∃ b A n c, v = .agg #[.bool b, .slice A n c] ∧ ZV X (.agg #[.bool b, .slice A n c]) (t / vd)) [3, 4, 2] rfl (by kernel_rfl) rfl (by kernel_rfl) (fun y X ex0 hf K hK => ?_) ?_
      · have hh3 : ((fun (v : Value) (X : World) => ∃ b A n c, v = .agg #[.bool b, .slice A n c] ∧ ZV X (.agg #[.bool b, .slice A n c]) (t))) (y 3) X := hf.1
        refine Exists.elim hh3 (fun b3 hx3_0 => ?_)
        refine Exists.elim hx3_0 (fun A3 hx3_1 => ?_)
        refine Exists.elim hx3_1 (fun n3 hx3_2 => ?_)
        refine Exists.elim hx3_2 (fun c3 hx3_3 => ?_)
        have h3 := hx3_3.1
        have z3 := hx3_3.2
        clear hh3 hx3_0 hx3_1 hx3_2 hx3_3
        have hh4 : ((fun (v : Value) (X : World) => ∃ b A n c, v = .agg #[.bool b, .slice A n c] ∧ ZV X (.agg #[.bool b, .slice A n c]) (vg))) (y 4) X := hf.2.1
        refine Exists.elim hh4 (fun b4 hx4_0 => ?_)
        refine Exists.elim hx4_0 (fun A4 hx4_1 => ?_)
        refine Exists.elim hx4_1 (fun n4 hx4_2 => ?_)
        refine Exists.elim hx4_2 (fun c4 hx4_3 => ?_)
        have h4 := hx4_3.1
        have z4 := hx4_3.2
        clear hh4 hx4_0 hx4_1 hx4_2 hx4_3
        have hh2 : ((fun (v : Value) (X : World) => ∃ b A n c, v = .agg #[.bool b, .slice A n c] ∧ ZV X (.agg #[.bool b, .slice A n c]) (r / vd))) (y 2) X := hf.2.2.1
        refine Exists.elim hh2 (fun b2 hx2_0 => ?_)
        refine Exists.elim hx2_0 (fun A2 hx2_1 => ?_)
        refine Exists.elim hx2_1 (fun n2 hx2_2 => ?_)
        refine Exists.elim hx2_2 (fun c2 hx2_3 => ?_)
        have h2 := hx2_3.1
        have z2 := hx2_3.2
        clear hh2 hx2_0 hx2_1 hx2_2 hx2_3
        clear hf
        have ex := (Ext.drw (Ext.refl _)).trans ex0
        refine Box.mk ?_
        simp only [fill, Act.put, Nat.reduceAdd, List.setIfInBounds_toArray, List.set_cons_zero, List.set_cons_succ, h3, h4, h2] at hK ⊢
        go_simp
        refine (asAgg (show Calls Tryz.prog 106 _ X (RetZ X (t / vd)) by rw [← HQ.out.2]; exact exactlyR_any _ _ _ _ _ z3 z4 (by have := HLL.out.2; omega) (by have := hvg0.out.2; omega) hvg0.out.1)).mono ?_
        rintro e V ⟨b9, A9, n9, c9, rfl, hz, hb⟩
        try go_wp2_with fail
        exact hK.out _ _ ⟨_, _, _, _, rfl, hz⟩ hb (fun b hb => by cases hb)
      refine Steps.cons (fun (v : Value) (X : World) => ∃ b A n c b' A' n' c', v = .agg #[.bool b, .slice A n c, .bool b', .slice A' n' c'] ∧ ZV X (.agg #[.bool b, .slice A n c]) (r / vd) ∧ ZV X (.agg #[.bool b', .slice A' n' c']) (t / vd)) [2, 5] rfl (by kernel_rfl) rfl (by kernel_rfl) (fun y X ex0 hf K hK => ?_) ?_
      · have hh2 : ((fun (v : Value) (X : World) => ∃ b A n c, v = .agg #[.bool b, .slice A n c] ∧ ZV X (.agg #[.bool b, .slice A n c]) (r / vd))) (y 2) X := hf.1
        refine Exists.elim hh2 (fun b2 hx2_0 => ?_)
        refine Exists.elim hx2_0 (fun A2 hx2_1 => ?_)
        refine Exists.elim hx2_1 (fun n2 hx2_2 => ?_)
        refine Exists.elim hx2_2 (fun c2 hx2_3 => ?_)
        have h2 := hx2_3.1
        have z2 := hx2_3.2
        clear hh2 hx2_0 hx2_1 hx2_2 hx2_3
        have hh5 : ((fun (v : Value) (X : World) => ∃ b A n c, v = .agg #[.bool b, .slice A n c] ∧ ZV X (.agg #[.bool b, .slice A n c]) (t / vd))) (y 5) X := hf.2.1
        refine Exists.elim hh5 (fun b5 hx5_0 => ?_)
        refine Exists.elim hx5_0 (fun A5 hx5_1 => ?_)
        refine Exists.elim hx5_1 (fun n5 hx5_2 => ?_)
        refine Exists.elim hx5_2 (fun c5 hx5_3 => ?_)
        have h5 := hx5_3.1
        have z5 := hx5_3.2
        clear hh5 hx5_0 hx5_1 hx5_2 hx5_3
        clear hf
        have ex := (Ext.drw (Ext.refl _)).trans ex0
        refine Box.mk ?_
        simp only [fill, Act.put, Nat.reduceAdd, List.setIfInBounds_toArray, List.set_cons_zero, List.set_cons_succ, h2, h5] at hK ⊢
        go_simp
        exact hK.out _ _ ⟨_, _, _, _, _, _, _, _, rfl, z2, z5⟩ (Ext.refl _) (fun b hb => by cases hb)
      exact Steps.nil
    case done =>
      intro y X ex hf hlt hsep
      have hh0 : ((fun (v : Value) (X : World) => ∃ b A n c, v = .agg #[.bool b, .slice A n c] ∧ ZV X (.agg #[.bool b, .slice A n c]) (r))) (y 0) X := hf.1
      refine Exists.elim hh0 (fun b0 hx0_0 => ?_)
      refine Exists.elim hx0_0 (fun A0 hx0_1 => ?_)
      refine Exists.elim hx0_1 (fun n0 hx0_2 => ?_)
      refine Exists.elim hx0_2 (fun c0 hx0_3 => ?_)
      have h0 := hx0_3.1
      have z0 := hx0_3.2
      clear hh0 hx0_0 hx0_1 hx0_2 hx0_3
      have hh1 : ((fun (v : Value) (X : World) => ∃ b A n c, v = .agg #[.bool b, .slice A n c] ∧ ZV X (.agg #[.bool b, .slice A n c]) (vg))) (y 1) X := hf.2.1
      refine Exists.elim hh1 (fun b1 hx1_0 => ?_)
      refine Exists.elim hx1_0 (fun A1 hx1_1 => ?_)
      refine Exists.elim hx1_1 (fun n1 hx1_2 => ?_)
      refine Exists.elim hx1_2 (fun c1 hx1_3 => ?_)
      have h1 := hx1_3.1
      have z1 := hx1_3.2
      clear hh1 hx1_0 hx1_1 hx1_2 hx1_3
      have hh2 : ((fun (v : Value) (X : World) => ∃ b A n c, v = .agg #[.bool b, .slice A n c] ∧ ZV X (.agg #[.bool b, .slice A n c]) (r / vd))) (y 2) X := hf.2.2.1
      refine Exists.elim hh2 (fun b2 hx2_0 => ?_)
      refine Exists.elim hx2_0 (fun A2 hx2_1 => ?_)
      refine Exists.elim hx2_1 (fun n2 hx2_2 => ?_)
      refine Exists.elim hx2_2 (fun c2 hx2_3 => ?_)
      have h2 := hx2_3.1
      have z2 := hx2_3.2
      clear hh2 hx2_0 hx2_1 hx2_2 hx2_3
      have hh3 : ((fun (v : Value) (X : World) => ∃ b A n c, v = .agg #[.bool b, .slice A n c] ∧ ZV X (.agg #[.bool b, .slice A n c]) (t))) (y 3) X := hf.2.2.2.1
      refine Exists.elim hh3 (fun b3 hx3_0 => ?_)
      refine Exists.elim hx3_0 (fun A3 hx3_1 => ?_)
      refine Exists.elim hx3_1 (fun n3 hx3_2 => ?_)
      refine Exists.elim hx3_2 (fun c3 hx3_3 => ?_)
      have h3 := hx3_3.1
      have z3 := hx3_3.2
      clear hh3 hx3_0 hx3_1 hx3_2 hx3_3
      have hh4 : ((fun (v : Value) (X : World) => ∃ b A n c, v = .agg #[.bool b, .slice A n c] ∧ ZV X (.agg #[.bool b, .slice A n c]) (vg))) (y 4) X := hf.2.2.2.2.1
      refine Exists.elim hh4 (fun b4 hx4_0 => ?_)
      refine Exists.elim hx4_0 (fun A4 hx4_1 => ?_)
      refine Exists.elim hx4_1 (fun n4 hx4_2 => ?_)
      refine Exists.elim hx4_2 (fun c4 hx4_3 => ?_)
      have h4 := hx4_3.1
      have z4 := hx4_3.2
      clear hh4 hx4_0 hx4_1 hx4_2 hx4_3
      have hh5 : ((fun (v : Value) (X : World) => ∃ b A n c, v = .agg #[.bool b, .slice A n c] ∧ ZV X (.agg #[.bool b, .slice A n c]) (t / vd))) (y 5) X := hf.2.2.2.2.2.1
      refine Exists.elim hh5 (fun b5 hx5_0 => ?_)
      refine Exists.elim hx5_0 (fun A5 hx5_1 => ?_)
      refine Exists.elim hx5_1 (fun n5 hx5_2 => ?_)
      refine Exists.elim hx5_2 (fun c5 hx5_3 => ?_)
      have h5 := hx5_3.1
      have z5 := hx5_3.2
      clear hh5 hx5_0 hx5_1 hx5_2 hx5_3
      have hh6 : ((fun (v : Value) (X : World) => ∃ b A n c b' A' n' c', v = .agg #[.bool b, .slice A n c, .bool b', .slice A' n' c'] ∧ ZV X (.agg #[.bool b, .slice A n c]) (r / vd) ∧ ZV X (.agg #[.bool b', .slice A' n' c']) (t / vd))) (y 6) X := hf.2.2.2.2.2.2.1
      refine Exists.elim hh6 (fun b6 hx6_0 => ?_)
      refine Exists.elim hx6_0 (fun A6 hx6_1 => ?_)
      refine Exists.elim hx6_1 (fun n6 hx6_2 => ?_)
      refine Exists.elim hx6_2 (fun c6 hx6_3 => ?_)
      refine Exists.elim hx6_3 (fun bb6 hx6_4 => ?_)
      refine Exists.elim hx6_4 (fun AA6 hx6_5 => ?_)
      refine Exists.elim hx6_5 (fun nn6 hx6_6 => ?_)
      refine Exists.elim hx6_6 (fun cc6 hx6_7 => ?_)
      have h6 := hx6_7.1
      have z6 := hx6_7.2.1
      have y6 := hx6_7.2.2
      clear hh6 hx6_0 hx6_1 hx6_2 hx6_3 hx6_4 hx6_5 hx6_6 hx6_7
      clear hf
      clear hsep hlt
      refine Box.mk ?_
      simp only [List.drop_succ_cons, List.drop_zero, fill, Act.put, Nat.reduceAdd, List.setIfInBounds_toArray, List.set_cons_zero, List.set_cons_succ, h0, h1, h2, h3, h4, h5, h6]
      clear h0 h1 h2 h3 h4 h5 h6
      have r4 := R4.out.ext ex
      obtain ⟨_, _, _, _, k40, k41, k42, k43, k44, k45, k46, k47⟩ := put4_walk r4 (.bool b6) (.slice A6 n6 c6) (.bool bb6)
      obtain ⟨W', hW'⟩ : ∃ W', W' = put4 X (w.heap.size + 1 + 1) (.bool b6) (.slice A6 n6 c6) (.bool bb6) (.slice AA6 nn6 cc6) := ⟨_, rfl⟩
      obtain ⟨f0, f1, f2, f3⟩ := put4_cells r4 (.bool b6) (.slice A6 n6 c6) (.bool bb6) (.slice AA6 nn6 cc6)
      have hz1 := (z6).put4 r4 (.bool b6) (.slice A6 n6 c6) (.bool bb6) (.slice AA6 nn6 cc6)
      rw [← hW'] at hz1
      have hz2 := (y6).put4 r4 (.bool b6) (.slice A6 n6 c6) (.bool bb6) (.slice AA6 nn6 cc6)
      rw [← hW'] at hz2
      have hbf : Below w.heap.size w W' := by rw [hW']; exact put4_below (Ext.below (E2.out.trans ex)) (by omega) (.bool b6) (.slice A6 n6 c6) (.bool bb6) (.slice AA6 nn6 cc6)
      rw [← hW'] at f0 f1 f2 f3
      unfold put4 at hW'
      have HG := Lib.hid (And.intro hz1 (And.intro hz2 (And.intro hbf (And.intro f0 (And.intro f1 (And.intro f2 f3))))))
      have HW' := Lib.hid hW'
      clear hz1 hz2 hbf f0 f1 f2 f3 hW' ex z0 z1 z2 z3 z4 z5 z6 y6 r4
      go_wp2_with fail
      refine NoPanic.normal ?_
      go_wp2
      rw [← HW'.out]
      obtain ⟨hz1, hz2, hbf, f0, f1, f2, f3⟩ := HG.out
      exact bodyPost_ret (v := .agg #[.bool b6, .slice A6 n6 c6, .bool bb6, .slice AA6 nn6 cc6]) (by simp [results, Tryz.results79, go_sem, f0, f1, f2, f3]) rfl ⟨_, _, _, _, _, _, _, _, rfl, hz1, hz2, hbf⟩
set_option maxHeartbeats 800000 in
set_option maxRecDepth 100000 in
theorem qminus_any (vx vy : Int) (v : Value) (w : World) (hf : FV w v vx vy)  :
    Calls Tryz.prog 90 #[v] w (RetF w (-vx) vy) := by
  obtain ⟨p1, P1, m1, d1, p2, P2, m2, d2, rfl, hz1, hz2⟩ := hf
  obtain ⟨W1, hW1⟩ : ∃ W1, W1 = (w.alloc (.cells #[.bool p1, .slice P1 m1 d1, .bool p2, .slice P2 m2 d2] 55)).alloc (.cells #[.bool false, .slice none 0 0, .bool false, .slice none 0 0] 55) := ⟨_, rfl⟩
  have e1 : Ext w W1 := by rw [hW1]; exact ((Ext.refl w).alc _).alc _
  have i2 : HF W1 w.heap.size vx vy := by rw [hW1]; exact (HF.new w p1 P1 m1 d1 p2 P2 m2 d2 55 hz1 hz2).ext ((Ext.refl _).alc _)
  have r4 : FB W1 (w.heap.size + 1) := by
    have := FB.new (w.alloc (.cells #[.bool p1, .slice P1 m1 d1, .bool p2, .slice P2 m2 d2] 55)) false none 0 0 false none 0 0 55
    rw [World.size_alloc] at this
    rw [hW1]; exact this
  have I2 := Lib.hid i2; have R4 := Lib.hid r4; have E1 := Lib.hid e1; have HW1 := Lib.hid hW1
  clear i2 r4 e1 hW1 hz1 hz2
  go_enter Tryz.func90, Tryz.ntmps90
  go_upto_region 1 with fail
  rw [← HW1.out]
  clear HW1
  have lg := R4.out.lt
  refine wp_region_noPanic ?_
  refine wp_pool 6 [some 3, some 4, some 5, some 6, some 7, some 8] [] [] [(fun (v : Value) (_ : World) => v = .pointer (some ⟨w.heap.size, 0, none⟩)), (fun (v : Value) (X : World) => ∃ b A n c, v = .agg #[.bool b, .slice A n c] ∧ ZV X (.agg #[.bool b, .slice A n c]) (vx)), (fun (v : Value) (X : World) => ∃ b A n c, v = .agg #[.bool b, .slice A n c] ∧ ZV X (.agg #[.bool b, .slice A n c]) (-vx)), (fun (v : Value) (_ : World) => v = .pointer (some ⟨w.heap.size, 2, none⟩)), (fun (v : Value) (X : World) => ∃ b A n c, v = .agg #[.bool b, .slice A n c] ∧ ZV X (.agg #[.bool b, .slice A n c]) (vy)), (fun (v : Value) (X : World) => ∃ b A n c b' A' n' c', v = .agg #[.bool b, .slice A n c, .bool b', .slice A' n' c'] ∧ ZV X (.agg #[.bool b, .slice A n c]) (-vx) ∧ ZV X (.agg #[.bool b', .slice A' n' c']) (vy))] [noF, noF, noF, noF, noF, noF] (by kernel_rfl) (by kernel_rfl) (by kernel_rfl) (by kernel_rfl) (by kernel_rfl) (by kernel_rfl) (by kernel_rfl) (by kernel_rfl) (fun _ _ _ _ h => h) ⟨Stays.pure _, (fun _ _ _ e ⟨b, A, n, c, h1, h2⟩ => ⟨b, A, n, c, h1, h2.ext e⟩), (fun _ _ _ e ⟨b, A, n, c, h1, h2⟩ => ⟨b, A, n, c, h1, h2.ext e⟩), Stays.pure _, (fun _ _ _ e ⟨b, A, n, c, h1, h2⟩ => ⟨b, A, n, c, h1, h2.ext e⟩), (fun _ _ _ e ⟨b, A, n, c, b', A', n', c', h1, h2, h3⟩ => ⟨b, A, n, c, b', A', n', c', h1, h2.ext e, h3.ext e⟩), True.intro⟩ ?steps ?done
  case steps =>
    simp only [List.take_succ_cons, List.take_zero]
    refine Steps.cons (fun (v : Value) (_ : World) => v = .pointer (some ⟨w.heap.size, 0, none⟩)) [] rfl (by kernel_rfl) rfl (by kernel_rfl) (fun y X ex0 hf K hK => ?_) ?_
    · clear hf
      have ex := (Ext.drw (Ext.refl _)).trans ex0
      refine Box.mk ?_
      simp only [fill, Act.put, Nat.reduceAdd, List.setIfInBounds_toArray, List.set_cons_zero, List.set_cons_succ] at hK ⊢
      go_simp
      exact hK.out _ _ rfl (Ext.refl _) (fun b hb => by cases hb)
    refine Steps.cons (fun (v : Value) (X : World) => ∃ b A n c, v = .agg #[.bool b, .slice A n c] ∧ ZV X (.agg #[.bool b, .slice A n c]) (vx)) [0] rfl (by kernel_rfl) rfl (by kernel_rfl) (fun y X ex0 hf K hK => ?_) ?_
    · have h0 : ((fun (v : Value) (_ : World) => v = .pointer (some ⟨w.heap.size, 0, none⟩))) (y 0) X := hf.1
      clear hf
      have ex := (Ext.drw (Ext.refl _)).trans ex0
      refine Box.mk ?_
      simp only [fill, Act.put, Nat.reduceAdd, List.setIfInBounds_toArray, List.set_cons_zero, List.set_cons_succ, h0] at hK ⊢
      obtain ⟨bl, Al, nl, cl, k0, k1, kz⟩ := (I2.out.1.ext (by omega) ex)
      go_simp
      exact hK.out _ _ ⟨_, _, _, _, rfl, kz⟩ (Ext.refl _) (fun b hb => by cases hb)
    refine Steps.cons (fun (v : Value) (X : World) => ∃ b A n c, v = .agg #[.bool b, .slice A n c] ∧ ZV X (.agg #[.bool b, .slice A n c]) (-vx)) [1] rfl (by kernel_rfl) rfl (by kernel_rfl) (fun y X ex0 hf K hK => ?_) ?_
    · have hh1 : ((fun (v : Value) (X : World) => ∃ b A n c, v = .agg #[.bool b, .slice A n c] ∧ ZV X (.agg #[.bool b, .slice A n c]) (vx))) (y 1) X := hf.1
      refine Exists.elim hh1 (fun b1 hx1_0 => ?_)
      refine Exists.elim hx1_0 (fun A1 hx1_1 => ?_)
      refine Exists.elim hx1_1 (fun n1 hx1_2 => ?_)
      refine Exists.elim hx1_2 (fun c1 hx1_3 => ?_)
      have h1 := hx1_3.1
      have z1 := hx1_3.2
      clear hh1 hx1_0 hx1_1 hx1_2 hx1_3
      clear hf
      have ex := (Ext.drw (Ext.refl _)).trans ex0
      refine Box.mk ?_
      simp only [fill, Act.put, Nat.reduceAdd, List.setIfInBounds_toArray, List.set_cons_zero, List.set_cons_succ, h1] at hK ⊢
      go_simp
      refine (asAgg (minusR_any _ _ _ z1)).mono ?_
      rintro e V ⟨b9, A9, n9, c9, rfl, hz, hb⟩
      try go_wp2_with fail
      exact hK.out _ _ ⟨_, _, _, _, rfl, hz⟩ hb (fun b hb => by cases hb)
    refine Steps.cons (fun (v : Value) (_ : World) => v = .pointer (some ⟨w.heap.size, 2, none⟩)) [] rfl (by kernel_rfl) rfl (by kernel_rfl) (fun y X ex0 hf K hK => ?_) ?_
    · clear hf
      have ex := (Ext.drw (Ext.refl _)).trans ex0
      refine Box.mk ?_
      simp only [fill, Act.put, Nat.reduceAdd, List.setIfInBounds_toArray, List.set_cons_zero, List.set_cons_succ] at hK ⊢
      go_simp
      exact hK.out _ _ rfl (Ext.refl _) (fun b hb => by cases hb)
    refine Steps.cons (fun (v : Value) (X : World) => ∃ b A n c, v = .agg #[.bool b, .slice A n c] ∧ ZV X (.agg #[.bool b, .slice A n c]) (vy)) [3] rfl (by kernel_rfl) rfl (by kernel_rfl) (fun y X ex0 hf K hK => ?_) ?_
    · have h3 : ((fun (v : Value) (_ : World) => v = .pointer (some ⟨w.heap.size, 2, none⟩))) (y 3) X := hf.1
      clear hf
      have ex := (Ext.drw (Ext.refl _)).trans ex0
      refine Box.mk ?_
      simp only [fill, Act.put, Nat.reduceAdd, List.setIfInBounds_toArray, List.set_cons_zero, List.set_cons_succ, h3] at hK ⊢
      obtain ⟨bl, Al, nl, cl, k0, k1, kz⟩ := (I2.out.2.ext (by omega) ex)
      go_simp
      exact hK.out _ _ ⟨_, _, _, _, rfl, kz⟩ (Ext.refl _) (fun b hb => by cases hb)
    refine Steps.cons (fun (v : Value) (X : World) => ∃ b A n c b' A' n' c', v = .agg #[.bool b, .slice A n c, .bool b', .slice A' n' c'] ∧ ZV X (.agg #[.bool b, .slice A n c]) (-vx) ∧ ZV X (.agg #[.bool b', .slice A' n' c']) (vy)) [2, 4] rfl (by kernel_rfl) rfl (by kernel_rfl) (fun y X ex0 hf K hK => ?_) ?_
    · have hh2 : ((fun (v : Value) (X : World) => ∃ b A n c, v = .agg #[.bool b, .slice A n c] ∧ ZV X (.agg #[.bool b, .slice A n c]) (-vx))) (y 2) X := hf.1
      refine Exists.elim hh2 (fun b2 hx2_0 => ?_)
      refine Exists.elim hx2_0 (fun A2 hx2_1 => ?_)
      refine Exists.elim hx2_1 (fun n2 hx2_2 => ?_)
      refine Exists.elim hx2_2 (fun c2 hx2_3 => ?_)
      have h2 := hx2_3.1
      have z2 := hx2_3.2
      clear hh2 hx2_0 hx2_1 hx2_2 hx2_3
      have hh4 : ((fun (v : Value) (X : World) => ∃ b A n c, v = .agg #[.bool b, .slice A n c] ∧ ZV X (.agg #[.bool b, .slice A n c]) (vy))) (y 4) X := hf.2.1
      refine Exists.elim hh4 (fun b4 hx4_0 => ?_)
      refine Exists.elim hx4_0 (fun A4 hx4_1 => ?_)
      refine Exists.elim hx4_1 (fun n4 hx4_2 => ?_)
      refine Exists.elim hx4_2 (fun c4 hx4_3 => ?_)
      have h4 := hx4_3.1
      have z4 := hx4_3.2
      clear hh4 hx4_0 hx4_1 hx4_2 hx4_3
      clear hf
      have ex := (Ext.drw (Ext.refl _)).trans ex0
      refine Box.mk ?_
      simp only [fill, Act.put, Nat.reduceAdd, List.setIfInBounds_toArray, List.set_cons_zero, List.set_cons_succ, h2, h4] at hK ⊢
      go_simp
      exact hK.out _ _ ⟨_, _, _, _, _, _, _, _, rfl, z2, z4⟩ (Ext.refl _) (fun b hb => by cases hb)
    exact Steps.nil
  case done =>
    intro y X ex hf hlt hsep
    have h0 : ((fun (v : Value) (_ : World) => v = .pointer (some ⟨w.heap.size, 0, none⟩))) (y 0) X := hf.1
    have hh1 : ((fun (v : Value) (X : World) => ∃ b A n c, v = .agg #[.bool b, .slice A n c] ∧ ZV X (.agg #[.bool b, .slice A n c]) (vx))) (y 1) X := hf.2.1
    refine Exists.elim hh1 (fun b1 hx1_0 => ?_)
    refine Exists.elim hx1_0 (fun A1 hx1_1 => ?_)
    refine Exists.elim hx1_1 (fun n1 hx1_2 => ?_)
    refine Exists.elim hx1_2 (fun c1 hx1_3 => ?_)
    have h1 := hx1_3.1
    have z1 := hx1_3.2
    clear hh1 hx1_0 hx1_1 hx1_2 hx1_3
    have hh2 : ((fun (v : Value) (X : World) => ∃ b A n c, v = .agg #[.bool b, .slice A n c] ∧ ZV X (.agg #[.bool b, .slice A n c]) (-vx))) (y 2) X := hf.2.2.1
    refine Exists.elim hh2 (fun b2 hx2_0 => ?_)
    refine Exists.elim hx2_0 (fun A2 hx2_1 => ?_)
    refine Exists.elim hx2_1 (fun n2 hx2_2 => ?_)
    refine Exists.elim hx2_2 (fun c2 hx2_3 => ?_)
    have h2 := hx2_3.1
    have z2 := hx2_3.2
    clear hh2 hx2_0 hx2_1 hx2_2 hx2_3
    have h3 : ((fun (v : Value) (_ : World) => v = .pointer (some ⟨w.heap.size, 2, none⟩))) (y 3) X := hf.2.2.2.1
    have hh4 : ((fun (v : Value) (X : World) => ∃ b A n c, v = .agg #[.bool b, .slice A n c] ∧ ZV X (.agg #[.bool b, .slice A n c]) (vy))) (y 4) X := hf.2.2.2.2.1
    refine Exists.elim hh4 (fun b4 hx4_0 => ?_)
    refine Exists.elim hx4_0 (fun A4 hx4_1 => ?_)
    refine Exists.elim hx4_1 (fun n4 hx4_2 => ?_)
    refine Exists.elim hx4_2 (fun c4 hx4_3 => ?_)
    have h4 := hx4_3.1
    have z4 := hx4_3.2
    clear hh4 hx4_0 hx4_1 hx4_2 hx4_3
    have hh5 : ((fun (v : Value) (X : World) => ∃ b A n c b' A' n' c', v = .agg #[.bool b, .slice A n c, .bool b', .slice A' n' c'] ∧ ZV X (.agg #[.bool b, .slice A n c]) (-vx) ∧ ZV X (.agg #[.bool b', .slice A' n' c']) (vy))) (y 5) X := hf.2.2.2.2.2.1
    refine Exists.elim hh5 (fun b5 hx5_0 => ?_)
    refine Exists.elim hx5_0 (fun A5 hx5_1 => ?_)
    refine Exists.elim hx5_1 (fun n5 hx5_2 => ?_)
    refine Exists.elim hx5_2 (fun c5 hx5_3 => ?_)
    refine Exists.elim hx5_3 (fun bb5 hx5_4 => ?_)
    refine Exists.elim hx5_4 (fun AA5 hx5_5 => ?_)
    refine Exists.elim hx5_5 (fun nn5 hx5_6 => ?_)
    refine Exists.elim hx5_6 (fun cc5 hx5_7 => ?_)
    have h5 := hx5_7.1
    have z5 := hx5_7.2.1
    have y5 := hx5_7.2.2
    clear hh5 hx5_0 hx5_1 hx5_2 hx5_3 hx5_4 hx5_5 hx5_6 hx5_7
    clear hf
    clear hsep hlt
    refine Box.mk ?_
    simp only [List.drop_succ_cons, List.drop_zero, fill, Act.put, Nat.reduceAdd, List.setIfInBounds_toArray, List.set_cons_zero, List.set_cons_succ, h0, h1, h2, h3, h4, h5]
    clear h0 h1 h2 h3 h4 h5
    have r4 := R4.out.ext ex
    obtain ⟨_, _, _, _, k40, k41, k42, k43, k44, k45, k46, k47⟩ := put4_walk r4 (.bool b5) (.slice A5 n5 c5) (.bool bb5)
    obtain ⟨W', hW'⟩ : ∃ W', W' = put4 X (w.heap.size + 1) (.bool b5) (.slice A5 n5 c5) (.bool bb5) (.slice AA5 nn5 cc5) := ⟨_, rfl⟩
    obtain ⟨f0, f1, f2, f3⟩ := put4_cells r4 (.bool b5) (.slice A5 n5 c5) (.bool bb5) (.slice AA5 nn5 cc5)
    have hz1 := (z5).put4 r4 (.bool b5) (.slice A5 n5 c5) (.bool bb5) (.slice AA5 nn5 cc5)
    rw [← hW'] at hz1
    have hz2 := (y5).put4 r4 (.bool b5) (.slice A5 n5 c5) (.bool bb5) (.slice AA5 nn5 cc5)
    rw [← hW'] at hz2
    have hbf : Below w.heap.size w W' := by rw [hW']; exact put4_below (Ext.below (E1.out.trans ex)) (by omega) (.bool b5) (.slice A5 n5 c5) (.bool bb5) (.slice AA5 nn5 cc5)
    rw [← hW'] at f0 f1 f2 f3
    unfold put4 at hW'
    have HG := Lib.hid (And.intro hz1 (And.intro hz2 (And.intro hbf (And.intro f0 (And.intro f1 (And.intro f2 f3))))))
    have HW' := Lib.hid hW'
    clear hz1 hz2 hbf f0 f1 f2 f3 hW' ex z1 z2 z4 z5 y5 r4
    go_wp2_with fail
    refine NoPanic.normal ?_
    go_wp2
    rw [← HW'.out]
    obtain ⟨hz1, hz2, hbf, f0, f1, f2, f3⟩ := HG.out
    exact bodyPost_ret (v := .agg #[.bool b5, .slice A5 n5 c5, .bool bb5, .slice AA5 nn5 cc5]) (by simp [results, Tryz.results90, go_sem, f0, f1, f2, f3]) rfl ⟨_, _, _, _, _, _, _, _, rfl, hz1, hz2, hbf⟩
set_option maxHeartbeats 800000 in
set_option maxRecDepth 100000 in
theorem ofRat_any (vx vy : Int) (v : Value) (w : World) (hf : FV w v vx vy)  :
    Calls Tryz.prog 39 #[v] w (RetF w vx vy) := by
  obtain ⟨p1, P1, m1, d1, p2, P2, m2, d2, rfl, hz1, hz2⟩ := hf
  obtain ⟨W1, hW1⟩ : ∃ W1, W1 = (w.alloc (.cells #[.bool p1, .slice P1 m1 d1, .bool p2, .slice P2 m2 d2] 26)).alloc (.cells #[.bool false, .slice none 0 0, .bool false, .slice none 0 0] 55) := ⟨_, rfl⟩
  have e1 : Ext w W1 := by rw [hW1]; exact ((Ext.refl w).alc _).alc _
  have i2 : HF W1 w.heap.size vx vy := by rw [hW1]; exact (HF.new w p1 P1 m1 d1 p2 P2 m2 d2 26 hz1 hz2).ext ((Ext.refl _).alc _)
  have r4 : FB W1 (w.heap.size + 1) := by
    have := FB.new (w.alloc (.cells #[.bool p1, .slice P1 m1 d1, .bool p2, .slice P2 m2 d2] 26)) false none 0 0 false none 0 0 55
    rw [World.size_alloc] at this
    rw [hW1]; exact this
  have I2 := Lib.hid i2; have R4 := Lib.hid r4; have E1 := Lib.hid e1; have HW1 := Lib.hid hW1
  clear i2 r4 e1 hW1 hz1 hz2
  go_enter Tryz.func39, Tryz.ntmps39
  go_upto_region 1 with fail
  rw [← HW1.out]
  clear HW1
  have lg := R4.out.lt
  refine wp_region_noPanic ?_
  refine wp_pool 7 [some 3, some 4, some 5, some 6, some 7, some 8, some 9] [] [] [(fun (v : Value) (_ : World) => v = .pointer (some ⟨w.heap.size, 0, none⟩)), (fun (v : Value) (X : World) => ∃ b A n c, v = .agg #[.bool b, .slice A n c] ∧ ZV X (.agg #[.bool b, .slice A n c]) (vx)), (fun (v : Value) (X : World) => ∃ b A n c, v = .agg #[.bool b, .slice A n c] ∧ ZV X (.agg #[.bool b, .slice A n c]) (vx)), (fun (v : Value) (_ : World) => v = .pointer (some ⟨w.heap.size, 2, none⟩)), (fun (v : Value) (X : World) => ∃ b A n c, v = .agg #[.bool b, .slice A n c] ∧ ZV X (.agg #[.bool b, .slice A n c]) (vy)), (fun (v : Value) (X : World) => ∃ b A n c, v = .agg #[.bool b, .slice A n c] ∧ ZV X (.agg #[.bool b, .slice A n c]) (vy)), (fun (v : Value) (X : World) => ∃ b A n c b' A' n' c', v = .agg #[.bool b, .slice A n c, .bool b', .slice A' n' c'] ∧ ZV X (.agg #[.bool b, .slice A n c]) (vx) ∧ ZV X (.agg #[.bool b', .slice A' n' c']) (vy))] [noF, noF, noF, noF, noF, noF, noF] (by kernel_rfl) (by kernel_rfl) (by kernel_rfl) (by kernel_rfl) (by kernel_rfl) (by kernel_rfl) (by kernel_rfl) (by kernel_rfl) (fun _ _ _ _ h => h) ⟨Stays.pure _, (fun _ _ _ e ⟨b, A, n, c, h1, h2⟩ => ⟨b, A, n, c, h1, h2.ext e⟩), (fun _ _ _ e ⟨b, A, n, c, h1, h2⟩ => ⟨b, A, n, c, h1, h2.ext e⟩), Stays.pure _, (fun _ _ _ e ⟨b, A, n, c, h1, h2⟩ => ⟨b, A, n, c, h1, h2.ext e⟩), (fun _ _ _ e ⟨b, A, n, c, h1, h2⟩ => ⟨b, A, n, c, h1, h2.ext e⟩), (fun _ _ _ e ⟨b, A, n, c, b', A', n', c', h1, h2, h3⟩ => ⟨b, A, n, c, b', A', n', c', h1, h2.ext e, h3.ext e⟩), True.intro⟩ ?steps ?done
  case steps =>
    simp only [List.take_succ_cons, List.take_zero]
    refine Steps.cons (fun (v : Value) (_ : World) => v = .pointer (some ⟨w.heap.size, 0, none⟩)) [] rfl (by kernel_rfl) rfl (by kernel_rfl) (fun y X ex0 hf K hK => ?_) ?_
    · clear hf
      have ex := (Ext.drw (Ext.refl _)).trans ex0
      refine Box.mk ?_
      simp only [fill, Act.put, Nat.reduceAdd, List.setIfInBounds_toArray, List.set_cons_zero, List.set_cons_succ] at hK ⊢
      go_simp
      exact hK.out _ _ rfl (Ext.refl _) (fun b hb => by cases hb)
    refine Steps.cons (fun (v : Value) (X : World) => ∃ b A n c, v = .agg #[.bool b, .slice A n c] ∧ ZV X (.agg #[.bool b, .slice A n c]) (vx)) [0] rfl (by kernel_rfl) rfl (by kernel_rfl) (fun y X ex0 hf K hK => ?_) ?_
    · have h0 : ((fun (v : Value) (_ : World) => v = .pointer (some ⟨w.heap.size, 0, none⟩))) (y 0) X := hf.1
      clear hf
      have ex := (Ext.drw (Ext.refl _)).trans ex0
      refine Box.mk ?_
      simp only [fill, Act.put, Nat.reduceAdd, List.setIfInBounds_toArray, List.set_cons_zero, List.set_cons_succ, h0] at hK ⊢
      obtain ⟨bl, Al, nl, cl, k0, k1, kz⟩ := (I2.out.1.ext (by omega) ex)
      go_simp
      exact hK.out _ _ ⟨_, _, _, _, rfl, kz⟩ (Ext.refl _) (fun b hb => by cases hb)
    refine Steps.cons (fun (v : Value) (X : World) => ∃ b A n c, v = .agg #[.bool b, .slice A n c] ∧ ZV X (.agg #[.bool b, .slice A n c]) (vx)) [1] rfl (by kernel_rfl) rfl (by kernel_rfl) (fun y X ex0 hf K hK => ?_) ?_
    · have hh1 : ((fun (v : Value) (X : World) => ∃ b A n c, v = .agg #[.bool b, .slice A n c] ∧ ZV X (.agg #[.bool b, .slice A n c]) (vx))) (y 1) X := hf.1
      refine Exists.elim hh1 (fun b1 hx1_0 => ?_)
      refine Exists.elim hx1_0 (fun A1 hx1_1 => ?_)
      refine Exists.elim hx1_1 (fun n1 hx1_2 => ?_)
      refine Exists.elim hx1_2 (fun c1 hx1_3 => ?_)
      have h1 := hx1_3.1
      have z1 := hx1_3.2
      clear hh1 hx1_0 hx1_1 hx1_2 hx1_3
      clear hf
      have ex := (Ext.drw (Ext.refl _)).trans ex0
      refine Box.mk ?_
      simp only [fill, Act.put, Nat.reduceAdd, List.setIfInBounds_toArray, List.set_cons_zero, List.set_cons_succ, h1] at hK ⊢
      go_simp
      refine (asAgg ((of_any _ _ _ _ _).mono fun e w' ⟨he, hb⟩ => ⟨_, he, (z1).ext hb, hb⟩)).mono ?_
      rintro e V ⟨b9, A9, n9, c9, rfl, hz, hb⟩
      try go_wp2_with fail
      exact hK.out _ _ ⟨_, _, _, _, rfl, hz⟩ hb (fun b hb => by cases hb)
    refine Steps.cons (fun (v : Value) (_ : World) => v = .pointer (some ⟨w.heap.size, 2, none⟩)) [] rfl (by kernel_rfl) rfl (by kernel_rfl) (fun y X ex0 hf K hK => ?_) ?_
    · clear hf
      have ex := (Ext.drw (Ext.refl _)).trans ex0
      refine Box.mk ?_
      simp only [fill, Act.put, Nat.reduceAdd, List.setIfInBounds_toArray, List.set_cons_zero, List.set_cons_succ] at hK ⊢
      go_simp
      exact hK.out _ _ rfl (Ext.refl _) (fun b hb => by cases hb)
    refine Steps.cons (fun (v : Value) (X : World) => ∃ b A n c, v = .agg #[.bool b, .slice A n c] ∧ ZV X (.agg #[.bool b, .slice A n c]) (vy)) [3] rfl (by kernel_rfl) rfl (by kernel_rfl) (fun y X ex0 hf K hK => ?_) ?_
    · have h3 : ((fun (v : Value) (_ : World) => v = .pointer (some ⟨w.heap.size, 2, none⟩))) (y 3) X := hf.1
      clear hf
      have ex := (Ext.drw (Ext.refl _)).trans ex0
      refine Box.mk ?_
      simp only [fill, Act.put, Nat.reduceAdd, List.setIfInBounds_toArray, List.set_cons_zero, List.set_cons_succ, h3] at hK ⊢
      obtain ⟨bl, Al, nl, cl, k0, k1, kz⟩ := (I2.out.2.ext (by omega) ex)
      go_simp
      exact hK.out _ _ ⟨_, _, _, _, rfl, kz⟩ (Ext.refl _) (fun b hb => by cases hb)
    refine Steps.cons (fun (v : Value) (X : World) => ∃ b A n c, v = .agg #[.bool b, .slice A n c] ∧ ZV X (.agg #[.bool b, .slice A n c]) (vy)) [4, 2] rfl (by kernel_rfl) rfl (by kernel_rfl) (fun y X ex0 hf K hK => ?_) ?_
    · have hh4 : ((fun (v : Value) (X : World) => ∃ b A n c, v = .agg #[.bool b, .slice A n c] ∧ ZV X (.agg #[.bool b, .slice A n c]) (vy))) (y 4) X := hf.1
      refine Exists.elim hh4 (fun b4 hx4_0 => ?_)
      refine Exists.elim hx4_0 (fun A4 hx4_1 => ?_)
      refine Exists.elim hx4_1 (fun n4 hx4_2 => ?_)
      refine Exists.elim hx4_2 (fun c4 hx4_3 => ?_)
      have h4 := hx4_3.1
      have z4 := hx4_3.2
      clear hh4 hx4_0 hx4_1 hx4_2 hx4_3
      have hh2 : ((fun (v : Value) (X : World) => ∃ b A n c, v = .agg #[.bool b, .slice A n c] ∧ ZV X (.agg #[.bool b, .slice A n c]) (vx))) (y 2) X := hf.2.1
      refine Exists.elim hh2 (fun b2 hx2_0 => ?_)
      refine Exists.elim hx2_0 (fun A2 hx2_1 => ?_)
      refine Exists.elim hx2_1 (fun n2 hx2_2 => ?_)
      refine Exists.elim hx2_2 (fun c2 hx2_3 => ?_)
      have h2 := hx2_3.1
      have z2 := hx2_3.2
      clear hh2 hx2_0 hx2_1 hx2_2 hx2_3
      clear hf
      have ex := (Ext.drw (Ext.refl _)).trans ex0
      refine Box.mk ?_
      simp only [fill, Act.put, Nat.reduceAdd, List.setIfInBounds_toArray, List.set_cons_zero, List.set_cons_succ, h4, h2] at hK ⊢
      go_simp
      refine (asAgg ((of_any _ _ _ _ _).mono fun e w' ⟨he, hb⟩ => ⟨_, he, (z4).ext hb, hb⟩)).mono ?_
      rintro e V ⟨b9, A9, n9, c9, rfl, hz, hb⟩
      try go_wp2_with fail
      exact hK.out _ _ ⟨_, _, _, _, rfl, hz⟩ hb (fun b hb => by cases hb)
    refine Steps.cons (fun (v : Value) (X : World) => ∃ b A n c b' A' n' c', v = .agg #[.bool b, .slice A n c, .bool b', .slice A' n' c'] ∧ ZV X (.agg #[.bool b, .slice A n c]) (vx) ∧ ZV X (.agg #[.bool b', .slice A' n' c']) (vy)) [2, 5] rfl (by kernel_rfl) rfl (by kernel_rfl) (fun y X ex0 hf K hK => ?_) ?_
    · have hh2 : ((fun (v : Value) (X : World) => ∃ b A n c, v = .agg #[.bool b, .slice A n c] ∧ ZV X (.agg #[.bool b, .slice A n c]) (vx))) (y 2) X := hf.1
      refine Exists.elim hh2 (fun b2 hx2_0 => ?_)
      refine Exists.elim hx2_0 (fun A2 hx2_1 => ?_)
      refine Exists.elim hx2_1 (fun n2 hx2_2 => ?_)
      refine Exists.elim hx2_2 (fun c2 hx2_3 => ?_)
      have h2 := hx2_3.1
      have z2 := hx2_3.2
      clear hh2 hx2_0 hx2_1 hx2_2 hx2_3
      have hh5 : ((fun (v : Value) (X : World) => ∃ b A n c, v = .agg #[.bool b, .slice A n c] ∧ ZV X (.agg #[.bool b, .slice A n c]) (vy))) (y 5) X := hf.2.1
      refine Exists.elim hh5 (fun b5 hx5_0 => ?_)
      refine Exists.elim hx5_0 (fun A5 hx5_1 => ?_)
      refine Exists.elim hx5_1 (fun n5 hx5_2 => ?_)
      refine Exists.elim hx5_2 (fun c5 hx5_3 => ?_)
      have h5 := hx5_3.1
      have z5 := hx5_3.2
      clear hh5 hx5_0 hx5_1 hx5_2 hx5_3
      clear hf
      have ex := (Ext.drw (Ext.refl _)).trans ex0
      refine Box.mk ?_
      simp only [fill, Act.put, Nat.reduceAdd, List.setIfInBounds_toArray, List.set_cons_zero, List.set_cons_succ, h2, h5] at hK ⊢
      go_simp
      exact hK.out _ _ ⟨_, _, _, _, _, _, _, _, rfl, z2, z5⟩ (Ext.refl _) (fun b hb => by cases hb)
    exact Steps.nil
  case done =>
    intro y X ex hf hlt hsep
    have h0 : ((fun (v : Value) (_ : World) => v = .pointer (some ⟨w.heap.size, 0, none⟩))) (y 0) X := hf.1
    have hh1 : ((fun (v : Value) (X : World) => ∃ b A n c, v = .agg #[.bool b, .slice A n c] ∧ ZV X (.agg #[.bool b, .slice A n c]) (vx))) (y 1) X := hf.2.1
    refine Exists.elim hh1 (fun b1 hx1_0 => ?_)
    refine Exists.elim hx1_0 (fun A1 hx1_1 => ?_)
    refine Exists.elim hx1_1 (fun n1 hx1_2 => ?_)
    refine Exists.elim hx1_2 (fun c1 hx1_3 => ?_)
    have h1 := hx1_3.1
    have z1 := hx1_3.2
    clear hh1 hx1_0 hx1_1 hx1_2 hx1_3
    have hh2 : ((fun (v : Value) (X : World) => ∃ b A n c, v = .agg #[.bool b, .slice A n c] ∧ ZV X (.agg #[.bool b, .slice A n c]) (vx))) (y 2) X := hf.2.2.1
    refine Exists.elim hh2 (fun b2 hx2_0 => ?_)
    refine Exists.elim hx2_0 (fun A2 hx2_1 => ?_)
    refine Exists.elim hx2_1 (fun n2 hx2_2 => ?_)
    refine Exists.elim hx2_2 (fun c2 hx2_3 => ?_)
    have h2 := hx2_3.1
    have z2 := hx2_3.2
    clear hh2 hx2_0 hx2_1 hx2_2 hx2_3
    have h3 : ((fun (v : Value) (_ : World) => v = .pointer (some ⟨w.heap.size, 2, none⟩))) (y 3) X := hf.2.2.2.1
    have hh4 : ((fun (v : Value) (X : World) => ∃ b A n c, v = .agg #[.bool b, .slice A n c] ∧ ZV X (.agg #[.bool b, .slice A n c]) (vy))) (y 4) X := hf.2.2.2.2.1
    refine Exists.elim hh4 (fun b4 hx4_0 => ?_)
    refine Exists.elim hx4_0 (fun A4 hx4_1 => ?_)
    refine Exists.elim hx4_1 (fun n4 hx4_2 => ?_)
    refine Exists.elim hx4_2 (fun c4 hx4_3 => ?_)
    have h4 := hx4_3.1
    have z4 := hx4_3.2
    clear hh4 hx4_0 hx4_1 hx4_2 hx4_3
    have hh5 : ((fun (v : Value) (X : World) => ∃ b A n c, v = .agg #[.bool b, .slice A n c] ∧ ZV X (.agg #[.bool b, .slice A n c]) (vy))) (y 5) X := hf.2.2.2.2.2.1
    refine Exists.elim hh5 (fun b5 hx5_0 => ?_)
    refine Exists.elim hx5_0 (fun A5 hx5_1 => ?_)
    refine Exists.elim hx5_1 (fun n5 hx5_2 => ?_)
    refine Exists.elim hx5_2 (fun c5 hx5_3 => ?_)
    have h5 := hx5_3.1
    have z5 := hx5_3.2
    clear hh5 hx5_0 hx5_1 hx5_2 hx5_3
    have hh6 : ((fun (v : Value) (X : World) => ∃ b A n c b' A' n' c', v = .agg #[.bool b, .slice A n c, .bool b', .slice A' n' c'] ∧ ZV X (.agg #[.bool b, .slice A n c]) (vx) ∧ ZV X (.agg #[.bool b', .slice A' n' c']) (vy))) (y 6) X := hf.2.2.2.2.2.2.1
    refine Exists.elim hh6 (fun b6 hx6_0 => ?_)
    refine Exists.elim hx6_0 (fun A6 hx6_1 => ?_)
    refine Exists.elim hx6_1 (fun n6 hx6_2 => ?_)
    refine Exists.elim hx6_2 (fun c6 hx6_3 => ?_)
    refine Exists.elim hx6_3 (fun bb6 hx6_4 => ?_)
    refine Exists.elim hx6_4 (fun AA6 hx6_5 => ?_)
    refine Exists.elim hx6_5 (fun nn6 hx6_6 => ?_)
    refine Exists.elim hx6_6 (fun cc6 hx6_7 => ?_)
    have h6 := hx6_7.1
    have z6 := hx6_7.2.1
    have y6 := hx6_7.2.2
    clear hh6 hx6_0 hx6_1 hx6_2 hx6_3 hx6_4 hx6_5 hx6_6 hx6_7
    clear hf
    clear hsep hlt
    refine Box.mk ?_
    simp only [List.drop_succ_cons, List.drop_zero, fill, Act.put, Nat.reduceAdd, List.setIfInBounds_toArray, List.set_cons_zero, List.set_cons_succ, h0, h1, h2, h3, h4, h5, h6]
    clear h0 h1 h2 h3 h4 h5 h6
    have r4 := R4.out.ext ex
    obtain ⟨_, _, _, _, k40, k41, k42, k43, k44, k45, k46, k47⟩ := put4_walk r4 (.bool b6) (.slice A6 n6 c6) (.bool bb6)
    obtain ⟨W', hW'⟩ : ∃ W', W' = put4 X (w.heap.size + 1) (.bool b6) (.slice A6 n6 c6) (.bool bb6) (.slice AA6 nn6 cc6) := ⟨_, rfl⟩
    obtain ⟨f0, f1, f2, f3⟩ := put4_cells r4 (.bool b6) (.slice A6 n6 c6) (.bool bb6) (.slice AA6 nn6 cc6)
    have hz1 := (z6).put4 r4 (.bool b6) (.slice A6 n6 c6) (.bool bb6) (.slice AA6 nn6 cc6)
    rw [← hW'] at hz1
    have hz2 := (y6).put4 r4 (.bool b6) (.slice A6 n6 c6) (.bool bb6) (.slice AA6 nn6 cc6)
    rw [← hW'] at hz2
    have hbf : Below w.heap.size w W' := by rw [hW']; exact put4_below (Ext.below (E1.out.trans ex)) (by omega) (.bool b6) (.slice A6 n6 c6) (.bool bb6) (.slice AA6 nn6 cc6)
    rw [← hW'] at f0 f1 f2 f3
    unfold put4 at hW'
    have HG := Lib.hid (And.intro hz1 (And.intro hz2 (And.intro hbf (And.intro f0 (And.intro f1 (And.intro f2 f3))))))
    have HW' := Lib.hid hW'
    clear hz1 hz2 hbf f0 f1 f2 f3 hW' ex z1 z2 z4 z5 z6 y6 r4
    go_wp2_with fail
    refine NoPanic.normal ?_
    go_wp2
    rw [← HW'.out]
    obtain ⟨hz1, hz2, hbf, f0, f1, f2, f3⟩ := HG.out
    exact bodyPost_ret (v := .agg #[.bool b6, .slice A6 n6 c6, .bool bb6, .slice AA6 nn6 cc6]) (by simp [results, Tryz.results39, go_sem, f0, f1, f2, f3]) rfl ⟨_, _, _, _, _, _, _, _, rfl, hz1, hz2, hbf⟩
set_option maxHeartbeats 800000 in
set_option maxRecDepth 100000 in
theorem qtimes_any (vx vy ux uy : Int) (v v' : Value) (w : World) (hf : FV w v vx vy) (hg : FV w v' ux uy) (lf : Lf vx vy 300) (lg : Lf ux uy 300) (hy : vy ≠ 0) (hu : uy ≠ 0) :
    Calls Tryz.prog 44 #[v, v'] w (RetF w (vx * ux / nfg (vx * ux) (vy * uy)) (vy * uy / nfg (vx * ux) (vy * uy))) := by
  have LF := Lib.hid lf; have LG := Lib.hid lg
  clear lf lg
  obtain ⟨na, hna⟩ : ∃ na, na = vx * ux := ⟨_, rfl⟩
  obtain ⟨da, hda⟩ : ∃ da, da = vy * uy := ⟨_, rfl⟩
  obtain ⟨vn, hvn⟩ : ∃ vn, vn = na / nfg na da := ⟨_, rfl⟩
  obtain ⟨vd, hvd⟩ : ∃ vd, vd = da / nfg na da := ⟨_, rfl⟩
  rw [← hna, ← hda, ← hvn, ← hvd]
  have hd0 : da ≠ 0 := by rw [hda]; exact Int.mul_ne_zero hy hu
  have LNA := Lib.hid (show (dig na.natAbs).length ≤ 900 ∧ (dig da.natAbs).length ≤ 900 by rw [hna, hda]; exact ⟨Nat.le_trans (len_times LF.out.1 LG.out.1) (by omega), Nat.le_trans (len_times LF.out.2 LG.out.2) (by omega)⟩)
  have NF := Lib.hid (show ∀ W u u', ZV W u na → ZV W u' da → Calls Tryz.prog 79 #[u, u'] W (RetF W vn vd) from fun W u u' h k => by rw [hvn, hvd]; exact ratio_any na da u u' W 900 h k hd0 LNA.out.1 LNA.out.2 (by omega))
  have HNA := Lib.hid hna; have HDA := Lib.hid hda
  clear hna hda hvn hvd hd0
  obtain ⟨p1, P1, m1, d1, p2, P2, m2, d2, rfl, hz1, hz2⟩ := hf
  obtain ⟨p3, P3, m3, d3, p4, P4, m4, d4, rfl, hz3, hz4⟩ := hg
  obtain ⟨W1, hW1⟩ : ∃ W1, W1 = ((w.alloc (.cells #[.bool p1, .slice P1 m1 d1, .bool p2, .slice P2 m2 d2] 55)).alloc (.cells #[.bool p3, .slice P3 m3 d3, .bool p4, .slice P4 m4 d4] 55)).alloc (.cells #[.bool false, .slice none 0 0, .bool false, .slice none 0 0] 55) := ⟨_, rfl⟩
  have e1 : Ext w W1 := by rw [hW1]; exact (((Ext.refl w).alc _).alc _).alc _
  have i2 : HF W1 w.heap.size vx vy := by rw [hW1]; exact (HF.new w p1 P1 m1 d1 p2 P2 m2 d2 55 hz1 hz2).ext (((Ext.refl _).alc _).alc _)
  have i3 : HF W1 (w.heap.size + 1) ux uy := by
    have := HF.new (w.alloc (.cells #[.bool p1, .slice P1 m1 d1, .bool p2, .slice P2 m2 d2] 55)) p3 P3 m3 d3 p4 P4 m4 d4 55 (hz3.ext ((Ext.refl _).alc _)) (hz4.ext ((Ext.refl _).alc _))
    rw [World.size_alloc] at this
    rw [hW1]; exact this.ext ((Ext.refl _).alc _)
  have r4 : FB W1 (w.heap.size + 1 + 1) := by
    have := FB.new ((w.alloc (.cells #[.bool p1, .slice P1 m1 d1, .bool p2, .slice P2 m2 d2] 55)).alloc (.cells #[.bool p3, .slice P3 m3 d3, .bool p4, .slice P4 m4 d4] 55)) false none 0 0 false none 0 0 55
    rw [World.size_alloc, World.size_alloc] at this
    rw [hW1]; exact this
  have I2 := Lib.hid i2; have I3 := Lib.hid i3; have R4 := Lib.hid r4; have E1 := Lib.hid e1; have HW1 := Lib.hid hW1
  clear i2 i3 r4 e1 hW1 hz1 hz2 hz3 hz4
  go_enter Tryz.func44, Tryz.ntmps44
  go_upto_region 1 with fail
  rw [← HW1.out]
  clear HW1
  have lr := R4.out.lt
  have lf := LF.out; have lg := LG.out
  unfold Lf at lf lg
  refine wp_region_noPanic ?_
  refine wp_pool 11 [some 5, some 6, some 7, some 8, some 9, some 10, some 11, some 12, some 13, some 14, some 15] [] [] [(fun (v : Value) (_ : World) => v = .pointer (some ⟨w.heap.size, 0, none⟩)), (fun (v : Value) (X : World) => ∃ b A n c, v = .agg #[.bool b, .slice A n c] ∧ ZV X (.agg #[.bool b, .slice A n c]) (vx)), (fun (v : Value) (_ : World) => v = .pointer (some ⟨(w.heap.size + 1), 0, none⟩)), (fun (v : Value) (X : World) => ∃ b A n c, v = .agg #[.bool b, .slice A n c] ∧ ZV X (.agg #[.bool b, .slice A n c]) (ux)), (fun (v : Value) (X : World) => ∃ b A n c, v = .agg #[.bool b, .slice A n c] ∧ ZV X (.agg #[.bool b, .slice A n c]) (vx * ux)), (fun (v : Value) (_ : World) => v = .pointer (some ⟨w.heap.size, 2, none⟩)), (fun (v : Value) (X : World) => ∃ b A n c, v = .agg #[.bool b, .slice A n c] ∧ ZV X (.agg #[.bool b, .slice A n c]) (vy)), (fun (v : Value) (_ : World) => v = .pointer (some ⟨(w.heap.size + 1), 2, none⟩)), (fun (v : Value) (X : World) => ∃ b A n c, v = .agg #[.bool b, .slice A n c] ∧ ZV X (.agg #[.bool b, .slice A n c]) (uy)), (fun (v : Value) (X : World) => ∃ b A n c, v = .agg #[.bool b, .slice A n c] ∧ ZV X (.agg #[.bool b, .slice A n c]) (vy * uy)), (fun (v : Value) (X : World) => ∃ b A n c b' A' n' c', v = .agg #[.bool b, .slice A n c, .bool b', .slice A' n' c'] ∧ ZV X (.agg #[.bool b, .slice A n c]) (vn) ∧ ZV X (.agg #[.bool b', .slice A' n' c']) (vd))] [noF, noF, noF, noF, noF, noF, noF, noF, noF, noF, noF] (by kernel_rfl) (by kernel_rfl) (by kernel_rfl) (by kernel_rfl) (by kernel_rfl) (by kernel_rfl) (by kernel_rfl) (by kernel_rfl) (fun _ _ _ _ h => h) ⟨Stays.pure _, (fun _ _ _ e ⟨b, A, n, c, h1, h2⟩ => ⟨b, A, n, c, h1, h2.ext e⟩), Stays.pure _, (fun _ _ _ e ⟨b, A, n, c, h1, h2⟩ => ⟨b, A, n, c, h1, h2.ext e⟩), (fun _ _ _ e ⟨b, A, n, c, h1, h2⟩ => ⟨b, A, n, c, h1, h2.ext e⟩), Stays.pure _, (fun _ _ _ e ⟨b, A, n, c, h1, h2⟩ => ⟨b, A, n, c, h1, h2.ext e⟩), Stays.pure _, (fun _ _ _ e ⟨b, A, n, c, h1, h2⟩ => ⟨b, A, n, c, h1, h2.ext e⟩), (fun _ _ _ e ⟨b, A, n, c, h1, h2⟩ => ⟨b, A, n, c, h1, h2.ext e⟩), (fun _ _ _ e ⟨b, A, n, c, b', A', n', c', h1, h2, h3⟩ => ⟨b, A, n, c, b', A', n', c', h1, h2.ext e, h3.ext e⟩), True.intro⟩ ?steps ?done
  case steps =>
    simp only [List.take_succ_cons, List.take_zero]
    refine Steps.cons (fun (v : Value) (_ : World) => v = .pointer (some ⟨w.heap.size, 0, none⟩)) [] rfl (by kernel_rfl) rfl (by kernel_rfl) (fun y X ex0 hf K hK => ?_) ?_
    · clear hf
      have ex := (Ext.drw (Ext.refl _)).trans ex0
      refine Box.mk ?_
      simp only [fill, Act.put, Nat.reduceAdd, List.setIfInBounds_toArray, List.set_cons_zero, List.set_cons_succ] at hK ⊢
      go_simp
      exact hK.out _ _ rfl (Ext.refl _) (fun b hb => by cases hb)
    refine Steps.cons (fun (v : Value) (X : World) => ∃ b A n c, v = .agg #[.bool b, .slice A n c] ∧ ZV X (.agg #[.bool b, .slice A n c]) (vx)) [0] rfl (by kernel_rfl) rfl (by kernel_rfl) (fun y X ex0 hf K hK => ?_) ?_
    · have h0 : ((fun (v : Value) (_ : World) => v = .pointer (some ⟨w.heap.size, 0, none⟩))) (y 0) X := hf.1
      clear hf
      have ex := (Ext.drw (Ext.refl _)).trans ex0
      refine Box.mk ?_
      simp only [fill, Act.put, Nat.reduceAdd, List.setIfInBounds_toArray, List.set_cons_zero, List.set_cons_succ, h0] at hK ⊢
      obtain ⟨bl, Al, nl, cl, k0, k1, kz⟩ := (I2.out.1.ext (by omega) ex)
      go_simp
      exact hK.out _ _ ⟨_, _, _, _, rfl, kz⟩ (Ext.refl _) (fun b hb => by cases hb)
    refine Steps.cons (fun (v : Value) (_ : World) => v = .pointer (some ⟨(w.heap.size + 1), 0, none⟩)) [] rfl (by kernel_rfl) rfl (by kernel_rfl) (fun y X ex0 hf K hK => ?_) ?_
    · clear hf
      have ex := (Ext.drw (Ext.refl _)).trans ex0
      refine Box.mk ?_
      simp only [fill, Act.put, Nat.reduceAdd, List.setIfInBounds_toArray, List.set_cons_zero, List.set_cons_succ] at hK ⊢
      go_simp
      exact hK.out _ _ rfl (Ext.refl _) (fun b hb => by cases hb)
    refine Steps.cons (fun (v : Value) (X : World) => ∃ b A n c, v = .agg #[.bool b, .slice A n c] ∧ ZV X (.agg #[.bool b, .slice A n c]) (ux)) [2] rfl (by kernel_rfl) rfl (by kernel_rfl) (fun y X ex0 hf K hK => ?_) ?_
    · have h2 : ((fun (v : Value) (_ : World) => v = .pointer (some ⟨(w.heap.size + 1), 0, none⟩))) (y 2) X := hf.1
      clear hf
      have ex := (Ext.drw (Ext.refl _)).trans ex0
      refine Box.mk ?_
      simp only [fill, Act.put, Nat.reduceAdd, List.setIfInBounds_toArray, List.set_cons_zero, List.set_cons_succ, h2] at hK ⊢
      obtain ⟨bl, Al, nl, cl, k0, k1, kz⟩ := (I3.out.1.ext (by omega) ex)
      go_simp
      exact hK.out _ _ ⟨_, _, _, _, rfl, kz⟩ (Ext.refl _) (fun b hb => by cases hb)
    refine Steps.cons (fun (v : Value) (X : World) => ∃ b A n c, v = .agg #[.bool b, .slice A n c] ∧ ZV X (.agg #[.bool b, .slice A n c]) (vx * ux)) [1, 3] rfl (by kernel_rfl) rfl (by kernel_rfl) (fun y X ex0 hf K hK => ?_) ?_
    · have hh1 : ((fun (v : Value) (X : World) => ∃ b A n c, v = .agg #[.bool b, .slice A n c] ∧ ZV X (.agg #[.bool b, .slice A n c]) (vx))) (y 1) X := hf.1
      refine Exists.elim hh1 (fun b1 hx1_0 => ?_)
      refine Exists.elim hx1_0 (fun A1 hx1_1 => ?_)
      refine Exists.elim hx1_1 (fun n1 hx1_2 => ?_)
      refine Exists.elim hx1_2 (fun c1 hx1_3 => ?_)
      have h1 := hx1_3.1
      have z1 := hx1_3.2
      clear hh1 hx1_0 hx1_1 hx1_2 hx1_3
      have hh3 : ((fun (v : Value) (X : World) => ∃ b A n c, v = .agg #[.bool b, .slice A n c] ∧ ZV X (.agg #[.bool b, .slice A n c]) (ux))) (y 3) X := hf.2.1
      refine Exists.elim hh3 (fun b3 hx3_0 => ?_)
      refine Exists.elim hx3_0 (fun A3 hx3_1 => ?_)
      refine Exists.elim hx3_1 (fun n3 hx3_2 => ?_)
      refine Exists.elim hx3_2 (fun c3 hx3_3 => ?_)
      have h3 := hx3_3.1
      have z3 := hx3_3.2
      clear hh3 hx3_0 hx3_1 hx3_2 hx3_3
      clear hf
      have ex := (Ext.drw (Ext.refl _)).trans ex0
      refine Box.mk ?_
      simp only [fill, Act.put, Nat.reduceAdd, List.setIfInBounds_toArray, List.set_cons_zero, List.set_cons_succ, h1, h3] at hK ⊢
      go_simp
      refine (asAgg (timesRZ_any _ _ _ _ _ z1 z3 (by omega) (by omega))).mono ?_
      rintro e V ⟨b9, A9, n9, c9, rfl, hz, hb⟩
      try go_wp2_with fail
      exact hK.out _ _ ⟨_, _, _, _, rfl, hz⟩ hb (fun b hb => by cases hb)
    refine Steps.cons (fun (v : Value) (_ : World) => v = .pointer (some ⟨w.heap.size, 2, none⟩)) [] rfl (by kernel_rfl) rfl (by kernel_rfl) (fun y X ex0 hf K hK => ?_) ?_
    · clear hf
      have ex := (Ext.drw (Ext.refl _)).trans ex0
      refine Box.mk ?_
      simp only [fill, Act.put, Nat.reduceAdd, List.setIfInBounds_toArray, List.set_cons_zero, List.set_cons_succ] at hK ⊢
      go_simp
      exact hK.out _ _ rfl (Ext.refl _) (fun b hb => by cases hb)
    refine Steps.cons (fun (v : Value) (X : World) => ∃ b A n c, v = .agg #[.bool b, .slice A n c] ∧ ZV X (.agg #[.bool b, .slice A n c]) (vy)) [5] rfl (by kernel_rfl) rfl (by kernel_rfl) (fun y X ex0 hf K hK => ?_) ?_
    · have h5 : ((fun (v : Value) (_ : World) => v = .pointer (some ⟨w.heap.size, 2, none⟩))) (y 5) X := hf.1
      clear hf
      have ex := (Ext.drw (Ext.refl _)).trans ex0
      refine Box.mk ?_
      simp only [fill, Act.put, Nat.reduceAdd, List.setIfInBounds_toArray, List.set_cons_zero, List.set_cons_succ, h5] at hK ⊢
      obtain ⟨bl, Al, nl, cl, k0, k1, kz⟩ := (I2.out.2.ext (by omega) ex)
      go_simp
      exact hK.out _ _ ⟨_, _, _, _, rfl, kz⟩ (Ext.refl _) (fun b hb => by cases hb)
    refine Steps.cons (fun (v : Value) (_ : World) => v = .pointer (some ⟨(w.heap.size + 1), 2, none⟩)) [] rfl (by kernel_rfl) rfl (by kernel_rfl) (fun y X ex0 hf K hK => ?_) ?_
    · clear hf
      have ex := (Ext.drw (Ext.refl _)).trans ex0
      refine Box.mk ?_
      simp only [fill, Act.put, Nat.reduceAdd, List.setIfInBounds_toArray, List.set_cons_zero, List.set_cons_succ] at hK ⊢
      go_simp
      exact hK.out _ _ rfl (Ext.refl _) (fun b hb => by cases hb)
    refine Steps.cons (fun (v : Value) (X : World) => ∃ b A n c, v = .agg #[.bool b, .slice A n c] ∧ ZV X (.agg #[.bool b, .slice A n c]) (uy)) [7] rfl (by kernel_rfl) rfl (by kernel_rfl) (fun y X ex0 hf K hK => ?_) ?_
    · have h7 : ((fun (v : Value) (_ : World) => v = .pointer (some ⟨(w.heap.size + 1), 2, none⟩))) (y 7) X := hf.1
      clear hf
      have ex := (Ext.drw (Ext.refl _)).trans ex0
      refine Box.mk ?_
      simp only [fill, Act.put, Nat.reduceAdd, List.setIfInBounds_toArray, List.set_cons_zero, List.set_cons_succ, h7] at hK ⊢
      obtain ⟨bl, Al, nl, cl, k0, k1, kz⟩ := (I3.out.2.ext (by omega) ex)
      go_simp
      exact hK.out _ _ ⟨_, _, _, _, rfl, kz⟩ (Ext.refl _) (fun b hb => by cases hb)
    refine Steps.cons (fun (v : Value) (X : World) => ∃ b A n c, v = .agg #[.bool b, .slice A n c] ∧ ZV X (.agg #[.bool b, .slice A n c]) (vy * uy)) [6, 8, 4] rfl (by kernel_rfl) rfl (by kernel_rfl) (fun y X ex0 hf K hK => ?_) ?_
    · have hh6 : ((fun (v : Value) (X : World) => ∃ b A n c, v = .agg #[.bool b, .slice A n c] ∧ ZV X (.agg #[.bool b, .slice A n c]) (vy))) (y 6) X := hf.1
      refine Exists.elim hh6 (fun b6 hx6_0 => ?_)
      refine Exists.elim hx6_0 (fun A6 hx6_1 => ?_)
      refine Exists.elim hx6_1 (fun n6 hx6_2 => ?_)
      refine Exists.elim hx6_2 (fun c6 hx6_3 => ?_)
      have h6 := hx6_3.1
      have z6 := hx6_3.2
      clear hh6 hx6_0 hx6_1 hx6_2 hx6_3
      have hh8 : ((fun (v : Value) (X : World) => ∃ b A n c, v = .agg #[.bool b, .slice A n c] ∧ ZV X (.agg #[.bool b, .slice A n c]) (uy))) (y 8) X := hf.2.1
      refine Exists.elim hh8 (fun b8 hx8_0 => ?_)
      refine Exists.elim hx8_0 (fun A8 hx8_1 => ?_)
      refine Exists.elim hx8_1 (fun n8 hx8_2 => ?_)
      refine Exists.elim hx8_2 (fun c8 hx8_3 => ?_)
      have h8 := hx8_3.1
      have z8 := hx8_3.2
      clear hh8 hx8_0 hx8_1 hx8_2 hx8_3
      have hh4 : ((fun (v : Value) (X : World) => ∃ b A n c, v = .agg #[.bool b, .slice A n c] ∧ ZV X (.agg #[.bool b, .slice A n c]) (vx * ux))) (y 4) X := hf.2.2.1
      refine Exists.elim hh4 (fun b4 hx4_0 => ?_)
      refine Exists.elim hx4_0 (fun A4 hx4_1 => ?_)
      refine Exists.elim hx4_1 (fun n4 hx4_2 => ?_)
      refine Exists.elim hx4_2 (fun c4 hx4_3 => ?_)
      have h4 := hx4_3.1
      have z4 := hx4_3.2
      clear hh4 hx4_0 hx4_1 hx4_2 hx4_3
      clear hf
      have ex := (Ext.drw (Ext.refl _)).trans ex0
      refine Box.mk ?_
      simp only [fill, Act.put, Nat.reduceAdd, List.setIfInBounds_toArray, List.set_cons_zero, List.set_cons_succ, h6, h8, h4] at hK ⊢
      go_simp
      refine (asAgg (timesRZ_any _ _ _ _ _ z6 z8 (by omega) (by omega))).mono ?_
      rintro e V ⟨b9, A9, n9, c9, rfl, hz, hb⟩
      try go_wp2_with fail
      exact hK.out _ _ ⟨_, _, _, _, rfl, hz⟩ hb (fun b hb => by cases hb)
    refine Steps.cons (fun (v : Value) (X : World) => ∃ b A n c b' A' n' c', v = .agg #[.bool b, .slice A n c, .bool b', .slice A' n' c'] ∧ ZV X (.agg #[.bool b, .slice A n c]) (vn) ∧ ZV X (.agg #[.bool b', .slice A' n' c']) (vd)) [4, 9] rfl (by kernel_rfl) rfl (by kernel_rfl) (fun y X ex0 hf K hK => ?_) ?_
    · have hh4 : ((fun (v : Value) (X : World) => ∃ b A n c, v = .agg #[.bool b, .slice A n c] ∧ ZV X (.agg #[.bool b, .slice A n c]) (vx * ux))) (y 4) X := hf.1
      refine Exists.elim hh4 (fun b4 hx4_0 => ?_)
      refine Exists.elim hx4_0 (fun A4 hx4_1 => ?_)
      refine Exists.elim hx4_1 (fun n4 hx4_2 => ?_)
      refine Exists.elim hx4_2 (fun c4 hx4_3 => ?_)
      have h4 := hx4_3.1
      have z4 := hx4_3.2
      clear hh4 hx4_0 hx4_1 hx4_2 hx4_3
      have hh9 : ((fun (v : Value) (X : World) => ∃ b A n c, v = .agg #[.bool b, .slice A n c] ∧ ZV X (.agg #[.bool b, .slice A n c]) (vy * uy))) (y 9) X := hf.2.1
      refine Exists.elim hh9 (fun b9 hx9_0 => ?_)
      refine Exists.elim hx9_0 (fun A9 hx9_1 => ?_)
      refine Exists.elim hx9_1 (fun n9 hx9_2 => ?_)
      refine Exists.elim hx9_2 (fun c9 hx9_3 => ?_)
      have h9 := hx9_3.1
      have z9 := hx9_3.2
      clear hh9 hx9_0 hx9_1 hx9_2 hx9_3
      clear hf
      have ex := (Ext.drw (Ext.refl _)).trans ex0
      refine Box.mk ?_
      simp only [fill, Act.put, Nat.reduceAdd, List.setIfInBounds_toArray, List.set_cons_zero, List.set_cons_succ, h4, h9] at hK ⊢
      go_simp
      refine (NF.out _ _ _ (by rw [HNA.out]; exact z4) (by rw [HDA.out]; exact z9)).mono ?_
      rintro e V ⟨b9, A9, n9, c9, b8, A8, n8, c8, rfl, hz, hy, hb⟩
      try go_wp2_with fail
      exact hK.out _ _ ⟨_, _, _, _, _, _, _, _, rfl, hz, hy⟩ hb (fun b hb => by cases hb)
    exact Steps.nil
  case done =>
    intro y X ex hf hlt hsep
    have h0 : ((fun (v : Value) (_ : World) => v = .pointer (some ⟨w.heap.size, 0, none⟩))) (y 0) X := hf.1
    have hh1 : ((fun (v : Value) (X : World) => ∃ b A n c, v = .agg #[.bool b, .slice A n c] ∧ ZV X (.agg #[.bool b, .slice A n c]) (vx))) (y 1) X := hf.2.1
    refine Exists.elim hh1 (fun b1 hx1_0 => ?_)
    refine Exists.elim hx1_0 (fun A1 hx1_1 => ?_)
    refine Exists.elim hx1_1 (fun n1 hx1_2 => ?_)
    refine Exists.elim hx1_2 (fun c1 hx1_3 => ?_)
    have h1 := hx1_3.1
    have z1 := hx1_3.2
    clear hh1 hx1_0 hx1_1 hx1_2 hx1_3
    have h2 : ((fun (v : Value) (_ : World) => v = .pointer (some ⟨(w.heap.size + 1), 0, none⟩))) (y 2) X := hf.2.2.1
    have hh3 : ((fun (v : Value) (X : World) => ∃ b A n c, v = .agg #[.bool b, .slice A n c] ∧ ZV X (.agg #[.bool b, .slice A n c]) (ux))) (y 3) X := hf.2.2.2.1
    refine Exists.elim hh3 (fun b3 hx3_0 => ?_)
    refine Exists.elim hx3_0 (fun A3 hx3_1 => ?_)
    refine Exists.elim hx3_1 (fun n3 hx3_2 => ?_)
    refine Exists.elim hx3_2 (fun c3 hx3_3 => ?_)
    have h3 := hx3_3.1
    have z3 := hx3_3.2
    clear hh3 hx3_0 hx3_1 hx3_2 hx3_3
    have hh4 : ((fun (v : Value) (X : World) => ∃ b A n c, v = .agg #[.bool b, .slice A n c] ∧ ZV X (.agg #[.bool b, .slice A n c]) (vx * ux))) (y 4) X := hf.2.2.2.2.1
    refine Exists.elim hh4 (fun b4 hx4_0 => ?_)
    refine Exists.elim hx4_0 (fun A4 hx4_1 => ?_)
    refine Exists.elim hx4_1 (fun n4 hx4_2 => ?_)
    refine Exists.elim hx4_2 (fun c4 hx4_3 => ?_)
    have h4 := hx4_3.1
    have z4 := hx4_3.2
    clear hh4 hx4_0 hx4_1 hx4_2 hx4_3
    have h5 : ((fun (v : Value) (_ : World) => v = .pointer (some ⟨w.heap.size, 2, none⟩))) (y 5) X := hf.2.2.2.2.2.1
    have hh6 : ((fun (v : Value) (X : World) => ∃ b A n c, v = .agg #[.bool b, .slice A n c] ∧ ZV X (.agg #[.bool b, .slice A n c]) (vy))) (y 6) X := hf.2.2.2.2.2.2.1
    refine Exists.elim hh6 (fun b6 hx6_0 => ?_)
    refine Exists.elim hx6_0 (fun A6 hx6_1 => ?_)
    refine Exists.elim hx6_1 (fun n6 hx6_2 => ?_)
    refine Exists.elim hx6_2 (fun c6 hx6_3 => ?_)
    have h6 := hx6_3.1
    have z6 := hx6_3.2
    clear hh6 hx6_0 hx6_1 hx6_2 hx6_3
    have h7 : ((fun (v : Value) (_ : World) => v = .pointer (some ⟨(w.heap.size + 1), 2, none⟩))) (y 7) X := hf.2.2.2.2.2.2.2.1
    have hh8 : ((fun (v : Value) (X : World) => ∃ b A n c, v = .agg #[.bool b, .slice A n c] ∧ ZV X (.agg #[.bool b, .slice A n c]) (uy))) (y 8) X := hf.2.2.2.2.2.2.2.2.1
    refine Exists.elim hh8 (fun b8 hx8_0 => ?_)
    refine Exists.elim hx8_0 (fun A8 hx8_1 => ?_)
    refine Exists.elim hx8_1 (fun n8 hx8_2 => ?_)
    refine Exists.elim hx8_2 (fun c8 hx8_3 => ?_)
    have h8 := hx8_3.1
    have z8 := hx8_3.2
    clear hh8 hx8_0 hx8_1 hx8_2 hx8_3
    have hh9 : ((fun (v : Value) (X : World) => ∃ b A n c, v = .agg #[.bool b, .slice A n c] ∧ ZV X (.agg #[.bool b, .slice A n c]) (vy * uy))) (y 9) X := hf.2.2.2.2.2.2.2.2.2.1
    refine Exists.elim hh9 (fun b9 hx9_0 => ?_)
    refine Exists.elim hx9_0 (fun A9 hx9_1 => ?_)
    refine Exists.elim hx9_1 (fun n9 hx9_2 => ?_)
    refine Exists.elim hx9_2 (fun c9 hx9_3 => ?_)
    have h9 := hx9_3.1
    have z9 := hx9_3.2
    clear hh9 hx9_0 hx9_1 hx9_2 hx9_3
    have hh10 : ((fun (v : Value) (X : World) => ∃ b A n c b' A' n' c', v = .agg #[.bool b, .slice A n c, .bool b', .slice A' n' c'] ∧ ZV X (.agg #[.bool b, .slice A n c]) (vn) ∧ ZV X (.agg #[.bool b', .slice A' n' c']) (vd))) (y 10) X := hf.2.2.2.2.2.2.2.2.2.2.1
    refine Exists.elim hh10 (fun b10 hx10_0 => ?_)
    refine Exists.elim hx10_0 (fun A10 hx10_1 => ?_)
    refine Exists.elim hx10_1 (fun n10 hx10_2 => ?_)
    refine Exists.elim hx10_2 (fun c10 hx10_3 => ?_)
    refine Exists.elim hx10_3 (fun bb10 hx10_4 => ?_)
    refine Exists.elim hx10_4 (fun AA10 hx10_5 => ?_)
    refine Exists.elim hx10_5 (fun nn10 hx10_6 => ?_)
    refine Exists.elim hx10_6 (fun cc10 hx10_7 => ?_)
    have h10 := hx10_7.1
    have z10 := hx10_7.2.1
    have y10 := hx10_7.2.2
    clear hh10 hx10_0 hx10_1 hx10_2 hx10_3 hx10_4 hx10_5 hx10_6 hx10_7
    clear hf
    clear hsep hlt
    refine Box.mk ?_
    simp only [List.drop_succ_cons, List.drop_zero, fill, Act.put, Nat.reduceAdd, List.setIfInBounds_toArray, List.set_cons_zero, List.set_cons_succ, h0, h1, h2, h3, h4, h5, h6, h7, h8, h9, h10]
    clear h0 h1 h2 h3 h4 h5 h6 h7 h8 h9 h10
    have r4 := R4.out.ext ex
    clear lf lg
    obtain ⟨_, _, _, _, k40, k41, k42, k43, k44, k45, k46, k47⟩ := put4_walk r4 (.bool b10) (.slice A10 n10 c10) (.bool bb10)
    obtain ⟨W', hW'⟩ : ∃ W', W' = put4 X (w.heap.size + 1 + 1) (.bool b10) (.slice A10 n10 c10) (.bool bb10) (.slice AA10 nn10 cc10) := ⟨_, rfl⟩
    obtain ⟨f0, f1, f2, f3⟩ := put4_cells r4 (.bool b10) (.slice A10 n10 c10) (.bool bb10) (.slice AA10 nn10 cc10)
    have hz1 := (z10).put4 r4 (.bool b10) (.slice A10 n10 c10) (.bool bb10) (.slice AA10 nn10 cc10)
    rw [← hW'] at hz1
    have hz2 := (y10).put4 r4 (.bool b10) (.slice A10 n10 c10) (.bool bb10) (.slice AA10 nn10 cc10)
    rw [← hW'] at hz2
    have hbf : Below w.heap.size w W' := by rw [hW']; exact put4_below (Ext.below (E1.out.trans ex)) (by omega) (.bool b10) (.slice A10 n10 c10) (.bool bb10) (.slice AA10 nn10 cc10)
    rw [← hW'] at f0 f1 f2 f3
    unfold put4 at hW'
    have HG := Lib.hid (And.intro hz1 (And.intro hz2 (And.intro hbf (And.intro f0 (And.intro f1 (And.intro f2 f3))))))
    have HW' := Lib.hid hW'
    clear hz1 hz2 hbf f0 f1 f2 f3 hW' ex z1 z3 z4 z6 z8 z9 z10 y10 r4
    go_wp2_with fail
    refine NoPanic.normal ?_
    go_wp2
    rw [← HW'.out]
    obtain ⟨hz1, hz2, hbf, f0, f1, f2, f3⟩ := HG.out
    exact bodyPost_ret (v := .agg #[.bool b10, .slice A10 n10 c10, .bool bb10, .slice AA10 nn10 cc10]) (by simp [results, Tryz.results44, go_sem, f0, f1, f2, f3]) rfl ⟨_, _, _, _, _, _, _, _, rfl, hz1, hz2, hbf⟩
set_option maxHeartbeats 800000 in
set_option maxRecDepth 100000 in
theorem qover_any (vx vy ux uy : Int) (v v' : Value) (w : World) (hf : FV w v vx vy) (hg : FV w v' ux uy) (lf : Lf vx vy 300) (lg : Lf ux uy 300) (hy : vy ≠ 0) (hu : ux ≠ 0) :
    Calls Tryz.prog 61 #[v, v'] w (RetF w (vx * uy / nfg (vx * uy) (vy * ux)) (vy * ux / nfg (vx * uy) (vy * ux))) := by
  have LF := Lib.hid lf; have LG := Lib.hid lg
  clear lf lg
  obtain ⟨na, hna⟩ : ∃ na, na = vx * uy := ⟨_, rfl⟩
  obtain ⟨da, hda⟩ : ∃ da, da = vy * ux := ⟨_, rfl⟩
  obtain ⟨vn, hvn⟩ : ∃ vn, vn = na / nfg na da := ⟨_, rfl⟩
  obtain ⟨vd, hvd⟩ : ∃ vd, vd = da / nfg na da := ⟨_, rfl⟩
  rw [← hna, ← hda, ← hvn, ← hvd]
  have hd0 : da ≠ 0 := by rw [hda]; exact Int.mul_ne_zero hy hu
  have LNA := Lib.hid (show (dig na.natAbs).length ≤ 900 ∧ (dig da.natAbs).length ≤ 900 by rw [hna, hda]; exact ⟨Nat.le_trans (len_times LF.out.1 LG.out.2) (by omega), Nat.le_trans (len_times LF.out.2 LG.out.1) (by omega)⟩)
  have NF := Lib.hid (show ∀ W u u', ZV W u na → ZV W u' da → Calls Tryz.prog 79 #[u, u'] W (RetF W vn vd) from fun W u u' h k => by rw [hvn, hvd]; exact ratio_any na da u u' W 900 h k hd0 LNA.out.1 LNA.out.2 (by omega))
  have HNA := Lib.hid hna; have HDA := Lib.hid hda
  clear hna hda hvn hvd hd0
  obtain ⟨p1, P1, m1, d1, p2, P2, m2, d2, rfl, hz1, hz2⟩ := hf
  obtain ⟨p3, P3, m3, d3, p4, P4, m4, d4, rfl, hz3, hz4⟩ := hg
  obtain ⟨W1, hW1⟩ : ∃ W1, W1 = ((w.alloc (.cells #[.bool p1, .slice P1 m1 d1, .bool p2, .slice P2 m2 d2] 55)).alloc (.cells #[.bool p3, .slice P3 m3 d3, .bool p4, .slice P4 m4 d4] 55)).alloc (.cells #[.bool false, .slice none 0 0, .bool false, .slice none 0 0] 55) := ⟨_, rfl⟩
  have e1 : Ext w W1 := by rw [hW1]; exact (((Ext.refl w).alc _).alc _).alc _
  have i2 : HF W1 w.heap.size vx vy := by rw [hW1]; exact (HF.new w p1 P1 m1 d1 p2 P2 m2 d2 55 hz1 hz2).ext (((Ext.refl _).alc _).alc _)
  have i3 : HF W1 (w.heap.size + 1) ux uy := by
    have := HF.new (w.alloc (.cells #[.bool p1, .slice P1 m1 d1, .bool p2, .slice P2 m2 d2] 55)) p3 P3 m3 d3 p4 P4 m4 d4 55 (hz3.ext ((Ext.refl _).alc _)) (hz4.ext ((Ext.refl _).alc _))
    rw [World.size_alloc] at this
    rw [hW1]; exact this.ext ((Ext.refl _).alc _)
  have r4 : FB W1 (w.heap.size + 1 + 1) := by
    have := FB.new ((w.alloc (.cells #[.bool p1, .slice P1 m1 d1, .bool p2, .slice P2 m2 d2] 55)).alloc (.cells #[.bool p3, .slice P3 m3 d3, .bool p4, .slice P4 m4 d4] 55)) false none 0 0 false none 0 0 55
    rw [World.size_alloc, World.size_alloc] at this
    rw [hW1]; exact this
  have I2 := Lib.hid i2; have I3 := Lib.hid i3; have R4 := Lib.hid r4; have E1 := Lib.hid e1; have HW1 := Lib.hid hW1
  clear i2 i3 r4 e1 hW1 hz1 hz2 hz3 hz4
  go_enter Tryz.func61, Tryz.ntmps61
  go_upto_region 1 with fail
  rw [← HW1.out]
  clear HW1
  have lr := R4.out.lt
  have lf := LF.out; have lg := LG.out
  unfold Lf at lf lg
  refine wp_region_noPanic ?_
  refine wp_pool 11 [some 5, some 6, some 7, some 8, some 9, some 10, some 11, some 12, some 13, some 14, some 15] [] [] [(fun (v : Value) (_ : World) => v = .pointer (some ⟨w.heap.size, 0, none⟩)), (fun (v : Value) (X : World) => ∃ b A n c, v = .agg #[.bool b, .slice A n c] ∧ ZV X (.agg #[.bool b, .slice A n c]) (vx)), (fun (v : Value) (_ : World) => v = .pointer (some ⟨(w.heap.size + 1), 2, none⟩)), (fun (v : Value) (X : World) => ∃ b A n c, v = .agg #[.bool b, .slice A n c] ∧ ZV X (.agg #[.bool b, .slice A n c]) (uy)), (fun (v : Value) (X : World) => ∃ b A n c, v = .agg #[.bool b, .slice A n c] ∧ ZV X (.agg #[.bool b, .slice A n c]) (vx * uy)), (fun (v : Value) (_ : World) => v = .pointer (some ⟨w.heap.size, 2, none⟩)), (fun (v : Value) (X : World) => ∃ b A n c, v = .agg #[.bool b, .slice A n c] ∧ ZV X (.agg #[.bool b, .slice A n c]) (vy)), (fun (v : Value) (_ : World) => v = .pointer (some ⟨(w.heap.size + 1), 0, none⟩)), (fun (v : Value) (X : World) => ∃ b A n c, v = .agg #[.bool b, .slice A n c] ∧ ZV X (.agg #[.bool b, .slice A n c]) (ux)), (fun (v : Value) (X : World) => ∃ b A n c, v = .agg #[.bool b, .slice A n c] ∧ ZV X (.agg #[.bool b, .slice A n c]) (vy * ux)), (fun (v : Value) (X : World) => ∃ b A n c b' A' n' c', v = .agg #[.bool b, .slice A n c, .bool b', .slice A' n' c'] ∧ ZV X (.agg #[.bool b, .slice A n c]) (vn) ∧ ZV X (.agg #[.bool b', .slice A' n' c']) (vd))] [noF, noF, noF, noF, noF, noF, noF, noF, noF, noF, noF] (by kernel_rfl) (by kernel_rfl) (by kernel_rfl) (by kernel_rfl) (by kernel_rfl) (by kernel_rfl) (by kernel_rfl) (by kernel_rfl) (fun _ _ _ _ h => h) ⟨Stays.pure _, (fun _ _ _ e ⟨b, A, n, c, h1, h2⟩ => ⟨b, A, n, c, h1, h2.ext e⟩), Stays.pure _, (fun _ _ _ e ⟨b, A, n, c, h1, h2⟩ => ⟨b, A, n, c, h1, h2.ext e⟩), (fun _ _ _ e ⟨b, A, n, c, h1, h2⟩ => ⟨b, A, n, c, h1, h2.ext e⟩), Stays.pure _, (fun _ _ _ e ⟨b, A, n, c, h1, h2⟩ => ⟨b, A, n, c, h1, h2.ext e⟩), Stays.pure _, (fun _ _ _ e ⟨b, A, n, c, h1, h2⟩ => ⟨b, A, n, c, h1, h2.ext e⟩), (fun _ _ _ e ⟨b, A, n, c, h1, h2⟩ => ⟨b, A, n, c, h1, h2.ext e⟩), (fun _ _ _ e ⟨b, A, n, c, b', A', n', c', h1, h2, h3⟩ => ⟨b, A, n, c, b', A', n', c', h1, h2.ext e, h3.ext e⟩), True.intro⟩ ?steps ?done
  case steps =>
    simp only [List.take_succ_cons, List.take_zero]
    refine Steps.cons (fun (v : Value) (_ : World) => v = .pointer (some ⟨w.heap.size, 0, none⟩)) [] rfl (by kernel_rfl) rfl (by kernel_rfl) (fun y X ex0 hf K hK => ?_) ?_
    · clear hf
      have ex := (Ext.drw (Ext.refl _)).trans ex0
      refine Box.mk ?_
      simp only [fill, Act.put, Nat.reduceAdd, List.setIfInBounds_toArray, List.set_cons_zero, List.set_cons_succ] at hK ⊢
      go_simp
      exact hK.out _ _ rfl (Ext.refl _) (fun b hb => by cases hb)
    refine Steps.cons (fun (v : Value) (X : World) => ∃ b A n c, v = .agg #[.bool b, .slice A n c] ∧ ZV X (.agg #[.bool b, .slice A n c]) (vx)) [0] rfl (by kernel_rfl) rfl (by kernel_rfl) (fun y X ex0 hf K hK => ?_) ?_
    · have h0 : ((fun (v : Value) (_ : World) => v = .pointer (some ⟨w.heap.size, 0, none⟩))) (y 0) X := hf.1
      clear hf
      have ex := (Ext.drw (Ext.refl _)).trans ex0
      refine Box.mk ?_
      simp only [fill, Act.put, Nat.reduceAdd, List.setIfInBounds_toArray, List.set_cons_zero, List.set_cons_succ, h0] at hK ⊢
      obtain ⟨bl, Al, nl, cl, k0, k1, kz⟩ := (I2.out.1.ext (by omega) ex)
      go_simp
      exact hK.out _ _ ⟨_, _, _, _, rfl, kz⟩ (Ext.refl _) (fun b hb => by cases hb)
    refine Steps.cons (fun (v : Value) (_ : World) => v = .pointer (some ⟨(w.heap.size + 1), 2, none⟩)) [] rfl (by kernel_rfl) rfl (by kernel_rfl) (fun y X ex0 hf K hK => ?_) ?_
    · clear hf
      have ex := (Ext.drw (Ext.refl _)).trans ex0
      refine Box.mk ?_
      simp only [fill, Act.put, Nat.reduceAdd, List.setIfInBounds_toArray, List.set_cons_zero, List.set_cons_succ] at hK ⊢
      go_simp
      exact hK.out _ _ rfl (Ext.refl _) (fun b hb => by cases hb)
    refine Steps.cons (fun (v : Value) (X : World) => ∃ b A n c, v = .agg #[.bool b, .slice A n c] ∧ ZV X (.agg #[.bool b, .slice A n c]) (uy)) [2] rfl (by kernel_rfl) rfl (by kernel_rfl) (fun y X ex0 hf K hK => ?_) ?_
    · have h2 : ((fun (v : Value) (_ : World) => v = .pointer (some ⟨(w.heap.size + 1), 2, none⟩))) (y 2) X := hf.1
      clear hf
      have ex := (Ext.drw (Ext.refl _)).trans ex0
      refine Box.mk ?_
      simp only [fill, Act.put, Nat.reduceAdd, List.setIfInBounds_toArray, List.set_cons_zero, List.set_cons_succ, h2] at hK ⊢
      obtain ⟨bl, Al, nl, cl, k0, k1, kz⟩ := (I3.out.2.ext (by omega) ex)
      go_simp
      exact hK.out _ _ ⟨_, _, _, _, rfl, kz⟩ (Ext.refl _) (fun b hb => by cases hb)
    refine Steps.cons (fun (v : Value) (X : World) => ∃ b A n c, v = .agg #[.bool b, .slice A n c] ∧ ZV X (.agg #[.bool b, .slice A n c]) (vx * uy)) [1, 3] rfl (by kernel_rfl) rfl (by kernel_rfl) (fun y X ex0 hf K hK => ?_) ?_
    · have hh1 : ((fun (v : Value) (X : World) => ∃ b A n c, v = .agg #[.bool b, .slice A n c] ∧ ZV X (.agg #[.bool b, .slice A n c]) (vx))) (y 1) X := hf.1
      refine Exists.elim hh1 (fun b1 hx1_0 => ?_)
      refine Exists.elim hx1_0 (fun A1 hx1_1 => ?_)
      refine Exists.elim hx1_1 (fun n1 hx1_2 => ?_)
      refine Exists.elim hx1_2 (fun c1 hx1_3 => ?_)
      have h1 := hx1_3.1
      have z1 := hx1_3.2
      clear hh1 hx1_0 hx1_1 hx1_2 hx1_3
      have hh3 : ((fun (v : Value) (X : World) => ∃ b A n c, v = .agg #[.bool b, .slice A n c] ∧ ZV X (.agg #[.bool b, .slice A n c]) (uy))) (y 3) X := hf.2.1
      refine Exists.elim hh3 (fun b3 hx3_0 => ?_)
      refine Exists.elim hx3_0 (fun A3 hx3_1 => ?_)
      refine Exists.elim hx3_1 (fun n3 hx3_2 => ?_)
      refine Exists.elim hx3_2 (fun c3 hx3_3 => ?_)
      have h3 := hx3_3.1
      have z3 := hx3_3.2
      clear hh3 hx3_0 hx3_1 hx3_2 hx3_3
      clear hf
      have ex := (Ext.drw (Ext.refl _)).trans ex0
      refine Box.mk ?_
      simp only [fill, Act.put, Nat.reduceAdd, List.setIfInBounds_toArray, List.set_cons_zero, List.set_cons_succ, h1, h3] at hK ⊢
      go_simp
      refine (asAgg (timesRZ_any _ _ _ _ _ z1 z3 (by omega) (by omega))).mono ?_
      rintro e V ⟨b9, A9, n9, c9, rfl, hz, hb⟩
      try go_wp2_with fail
      exact hK.out _ _ ⟨_, _, _, _, rfl, hz⟩ hb (fun b hb => by cases hb)
    refine Steps.cons (fun (v : Value) (_ : World) => v = .pointer (some ⟨w.heap.size, 2, none⟩)) [] rfl (by kernel_rfl) rfl (by kernel_rfl) (fun y X ex0 hf K hK => ?_) ?_
    · clear hf
      have ex := (Ext.drw (Ext.refl _)).trans ex0
      refine Box.mk ?_
      simp only [fill, Act.put, Nat.reduceAdd, List.setIfInBounds_toArray, List.set_cons_zero, List.set_cons_succ] at hK ⊢
      go_simp
      exact hK.out _ _ rfl (Ext.refl _) (fun b hb => by cases hb)
    refine Steps.cons (fun (v : Value) (X : World) => ∃ b A n c, v = .agg #[.bool b, .slice A n c] ∧ ZV X (.agg #[.bool b, .slice A n c]) (vy)) [5] rfl (by kernel_rfl) rfl (by kernel_rfl) (fun y X ex0 hf K hK => ?_) ?_
    · have h5 : ((fun (v : Value) (_ : World) => v = .pointer (some ⟨w.heap.size, 2, none⟩))) (y 5) X := hf.1
      clear hf
      have ex := (Ext.drw (Ext.refl _)).trans ex0
      refine Box.mk ?_
      simp only [fill, Act.put, Nat.reduceAdd, List.setIfInBounds_toArray, List.set_cons_zero, List.set_cons_succ, h5] at hK ⊢
      obtain ⟨bl, Al, nl, cl, k0, k1, kz⟩ := (I2.out.2.ext (by omega) ex)
      go_simp
      exact hK.out _ _ ⟨_, _, _, _, rfl, kz⟩ (Ext.refl _) (fun b hb => by cases hb)
    refine Steps.cons (fun (v : Value) (_ : World) => v = .pointer (some ⟨(w.heap.size + 1), 0, none⟩)) [] rfl (by kernel_rfl) rfl (by kernel_rfl) (fun y X ex0 hf K hK => ?_) ?_
    · clear hf
      have ex := (Ext.drw (Ext.refl _)).trans ex0
      refine Box.mk ?_
      simp only [fill, Act.put, Nat.reduceAdd, List.setIfInBounds_toArray, List.set_cons_zero, List.set_cons_succ] at hK ⊢
      go_simp
      exact hK.out _ _ rfl (Ext.refl _) (fun b hb => by cases hb)
    refine Steps.cons (fun (v : Value) (X : World) => ∃ b A n c, v = .agg #[.bool b, .slice A n c] ∧ ZV X (.agg #[.bool b, .slice A n c]) (ux)) [7] rfl (by kernel_rfl) rfl (by kernel_rfl) (fun y X ex0 hf K hK => ?_) ?_
    · have h7 : ((fun (v : Value) (_ : World) => v = .pointer (some ⟨(w.heap.size + 1), 0, none⟩))) (y 7) X := hf.1
      clear hf
      have ex := (Ext.drw (Ext.refl _)).trans ex0
      refine Box.mk ?_
      simp only [fill, Act.put, Nat.reduceAdd, List.setIfInBounds_toArray, List.set_cons_zero, List.set_cons_succ, h7] at hK ⊢
      obtain ⟨bl, Al, nl, cl, k0, k1, kz⟩ := (I3.out.1.ext (by omega) ex)
      go_simp
      exact hK.out _ _ ⟨_, _, _, _, rfl, kz⟩ (Ext.refl _) (fun b hb => by cases hb)
    refine Steps.cons (fun (v : Value) (X : World) => ∃ b A n c, v = .agg #[.bool b, .slice A n c] ∧ ZV X (.agg #[.bool b, .slice A n c]) (vy * ux)) [6, 8, 4] rfl (by kernel_rfl) rfl (by kernel_rfl) (fun y X ex0 hf K hK => ?_) ?_
    · have hh6 : ((fun (v : Value) (X : World) => ∃ b A n c, v = .agg #[.bool b, .slice A n c] ∧ ZV X (.agg #[.bool b, .slice A n c]) (vy))) (y 6) X := hf.1
      refine Exists.elim hh6 (fun b6 hx6_0 => ?_)
      refine Exists.elim hx6_0 (fun A6 hx6_1 => ?_)
      refine Exists.elim hx6_1 (fun n6 hx6_2 => ?_)
      refine Exists.elim hx6_2 (fun c6 hx6_3 => ?_)
      have h6 := hx6_3.1
      have z6 := hx6_3.2
      clear hh6 hx6_0 hx6_1 hx6_2 hx6_3
      have hh8 : ((fun (v : Value) (X : World) => ∃ b A n c, v = .agg #[.bool b, .slice A n c] ∧ ZV X (.agg #[.bool b, .slice A n c]) (ux))) (y 8) X := hf.2.1
      refine Exists.elim hh8 (fun b8 hx8_0 => ?_)
      refine Exists.elim hx8_0 (fun A8 hx8_1 => ?_)
      refine Exists.elim hx8_1 (fun n8 hx8_2 => ?_)
      refine Exists.elim hx8_2 (fun c8 hx8_3 => ?_)
      have h8 := hx8_3.1
      have z8 := hx8_3.2
      clear hh8 hx8_0 hx8_1 hx8_2 hx8_3
      have hh4 : ((fun (v : Value) (X : World) => ∃ b A n c, v = .agg #[.bool b, .slice A n c] ∧ ZV X (.agg #[.bool b, .slice A n c]) (vx * uy))) (y 4) X := hf.2.2.1
      refine Exists.elim hh4 (fun b4 hx4_0 => ?_)
      refine Exists.elim hx4_0 (fun A4 hx4_1 => ?_)
      refine Exists.elim hx4_1 (fun n4 hx4_2 => ?_)
      refine Exists.elim hx4_2 (fun c4 hx4_3 => ?_)
      have h4 := hx4_3.1
      have z4 := hx4_3.2
      clear hh4 hx4_0 hx4_1 hx4_2 hx4_3
      clear hf
      have ex := (Ext.drw (Ext.refl _)).trans ex0
      refine Box.mk ?_
      simp only [fill, Act.put, Nat.reduceAdd, List.setIfInBounds_toArray, List.set_cons_zero, List.set_cons_succ, h6, h8, h4] at hK ⊢
      go_simp
      refine (asAgg (timesRZ_any _ _ _ _ _ z6 z8 (by omega) (by omega))).mono ?_
      rintro e V ⟨b9, A9, n9, c9, rfl, hz, hb⟩
      try go_wp2_with fail
      exact hK.out _ _ ⟨_, _, _, _, rfl, hz⟩ hb (fun b hb => by cases hb)
    refine Steps.cons (fun (v : Value) (X : World) => ∃ b A n c b' A' n' c', v = .agg #[.bool b, .slice A n c, .bool b', .slice A' n' c'] ∧ ZV X (.agg #[.bool b, .slice A n c]) (vn) ∧ ZV X (.agg #[.bool b', .slice A' n' c']) (vd)) [4, 9] rfl (by kernel_rfl) rfl (by kernel_rfl) (fun y X ex0 hf K hK => ?_) ?_
    · have hh4 : ((fun (v : Value) (X : World) => ∃ b A n c, v = .agg #[.bool b, .slice A n c] ∧ ZV X (.agg #[.bool b, .slice A n c]) (vx * uy))) (y 4) X := hf.1
      refine Exists.elim hh4 (fun b4 hx4_0 => ?_)
      refine Exists.elim hx4_0 (fun A4 hx4_1 => ?_)
      refine Exists.elim hx4_1 (fun n4 hx4_2 => ?_)
      refine Exists.elim hx4_2 (fun c4 hx4_3 => ?_)
      have h4 := hx4_3.1
      have z4 := hx4_3.2
      clear hh4 hx4_0 hx4_1 hx4_2 hx4_3
      have hh9 : ((fun (v : Value) (X : World) => ∃ b A n c, v = .agg #[.bool b, .slice A n c] ∧ ZV X (.agg #[.bool b, .slice A n c]) (vy * ux))) (y 9) X := hf.2.1
      refine Exists.elim hh9 (fun b9 hx9_0 => ?_)
      refine Exists.elim hx9_0 (fun A9 hx9_1 => ?_)
      refine Exists.elim hx9_1 (fun n9 hx9_2 => ?_)
      refine Exists.elim hx9_2 (fun c9 hx9_3 => ?_)
      have h9 := hx9_3.1
      have z9 := hx9_3.2
      clear hh9 hx9_0 hx9_1 hx9_2 hx9_3
      clear hf
      have ex := (Ext.drw (Ext.refl _)).trans ex0
      refine Box.mk ?_
      simp only [fill, Act.put, Nat.reduceAdd, List.setIfInBounds_toArray, List.set_cons_zero, List.set_cons_succ, h4, h9] at hK ⊢
      go_simp
      refine (NF.out _ _ _ (by rw [HNA.out]; exact z4) (by rw [HDA.out]; exact z9)).mono ?_
      rintro e V ⟨b9, A9, n9, c9, b8, A8, n8, c8, rfl, hz, hy, hb⟩
      try go_wp2_with fail
      exact hK.out _ _ ⟨_, _, _, _, _, _, _, _, rfl, hz, hy⟩ hb (fun b hb => by cases hb)
    exact Steps.nil
  case done =>
    intro y X ex hf hlt hsep
    have h0 : ((fun (v : Value) (_ : World) => v = .pointer (some ⟨w.heap.size, 0, none⟩))) (y 0) X := hf.1
    have hh1 : ((fun (v : Value) (X : World) => ∃ b A n c, v = .agg #[.bool b, .slice A n c] ∧ ZV X (.agg #[.bool b, .slice A n c]) (vx))) (y 1) X := hf.2.1
    refine Exists.elim hh1 (fun b1 hx1_0 => ?_)
    refine Exists.elim hx1_0 (fun A1 hx1_1 => ?_)
    refine Exists.elim hx1_1 (fun n1 hx1_2 => ?_)
    refine Exists.elim hx1_2 (fun c1 hx1_3 => ?_)
    have h1 := hx1_3.1
    have z1 := hx1_3.2
    clear hh1 hx1_0 hx1_1 hx1_2 hx1_3
    have h2 : ((fun (v : Value) (_ : World) => v = .pointer (some ⟨(w.heap.size + 1), 2, none⟩))) (y 2) X := hf.2.2.1
    have hh3 : ((fun (v : Value) (X : World) => ∃ b A n c, v = .agg #[.bool b, .slice A n c] ∧ ZV X (.agg #[.bool b, .slice A n c]) (uy))) (y 3) X := hf.2.2.2.1
    refine Exists.elim hh3 (fun b3 hx3_0 => ?_)
    refine Exists.elim hx3_0 (fun A3 hx3_1 => ?_)
    refine Exists.elim hx3_1 (fun n3 hx3_2 => ?_)
    refine Exists.elim hx3_2 (fun c3 hx3_3 => ?_)
    have h3 := hx3_3.1
    have z3 := hx3_3.2
    clear hh3 hx3_0 hx3_1 hx3_2 hx3_3
    have hh4 : ((fun (v : Value) (X : World) => ∃ b A n c, v = .agg #[.bool b, .slice A n c] ∧ ZV X (.agg #[.bool b, .slice A n c]) (vx * uy))) (y 4) X := hf.2.2.2.2.1
    refine Exists.elim hh4 (fun b4 hx4_0 => ?_)
    refine Exists.elim hx4_0 (fun A4 hx4_1 => ?_)
    refine Exists.elim hx4_1 (fun n4 hx4_2 => ?_)
    refine Exists.elim hx4_2 (fun c4 hx4_3 => ?_)
    have h4 := hx4_3.1
    have z4 := hx4_3.2
    clear hh4 hx4_0 hx4_1 hx4_2 hx4_3
    have h5 : ((fun (v : Value) (_ : World) => v = .pointer (some ⟨w.heap.size, 2, none⟩))) (y 5) X := hf.2.2.2.2.2.1
    have hh6 : ((fun (v : Value) (X : World) => ∃ b A n c, v = .agg #[.bool b, .slice A n c] ∧ ZV X (.agg #[.bool b, .slice A n c]) (vy))) (y 6) X := hf.2.2.2.2.2.2.1
    refine Exists.elim hh6 (fun b6 hx6_0 => ?_)
    refine Exists.elim hx6_0 (fun A6 hx6_1 => ?_)
    refine Exists.elim hx6_1 (fun n6 hx6_2 => ?_)
    refine Exists.elim hx6_2 (fun c6 hx6_3 => ?_)
    have h6 := hx6_3.1
    have z6 := hx6_3.2
    clear hh6 hx6_0 hx6_1 hx6_2 hx6_3
    have h7 : ((fun (v : Value) (_ : World) => v = .pointer (some ⟨(w.heap.size + 1), 0, none⟩))) (y 7) X := hf.2.2.2.2.2.2.2.1
    have hh8 : ((fun (v : Value) (X : World) => ∃ b A n c, v = .agg #[.bool b, .slice A n c] ∧ ZV X (.agg #[.bool b, .slice A n c]) (ux))) (y 8) X := hf.2.2.2.2.2.2.2.2.1
    refine Exists.elim hh8 (fun b8 hx8_0 => ?_)
    refine Exists.elim hx8_0 (fun A8 hx8_1 => ?_)
    refine Exists.elim hx8_1 (fun n8 hx8_2 => ?_)
    refine Exists.elim hx8_2 (fun c8 hx8_3 => ?_)
    have h8 := hx8_3.1
    have z8 := hx8_3.2
    clear hh8 hx8_0 hx8_1 hx8_2 hx8_3
    have hh9 : ((fun (v : Value) (X : World) => ∃ b A n c, v = .agg #[.bool b, .slice A n c] ∧ ZV X (.agg #[.bool b, .slice A n c]) (vy * ux))) (y 9) X := hf.2.2.2.2.2.2.2.2.2.1
    refine Exists.elim hh9 (fun b9 hx9_0 => ?_)
    refine Exists.elim hx9_0 (fun A9 hx9_1 => ?_)
    refine Exists.elim hx9_1 (fun n9 hx9_2 => ?_)
    refine Exists.elim hx9_2 (fun c9 hx9_3 => ?_)
    have h9 := hx9_3.1
    have z9 := hx9_3.2
    clear hh9 hx9_0 hx9_1 hx9_2 hx9_3
    have hh10 : ((fun (v : Value) (X : World) => ∃ b A n c b' A' n' c', v = .agg #[.bool b, .slice A n c, .bool b', .slice A' n' c'] ∧ ZV X (.agg #[.bool b, .slice A n c]) (vn) ∧ ZV X (.agg #[.bool b', .slice A' n' c']) (vd))) (y 10) X := hf.2.2.2.2.2.2.2.2.2.2.1
    refine Exists.elim hh10 (fun b10 hx10_0 => ?_)
    refine Exists.elim hx10_0 (fun A10 hx10_1 => ?_)
    refine Exists.elim hx10_1 (fun n10 hx10_2 => ?_)
    refine Exists.elim hx10_2 (fun c10 hx10_3 => ?_)
    refine Exists.elim hx10_3 (fun bb10 hx10_4 => ?_)
    refine Exists.elim hx10_4 (fun AA10 hx10_5 => ?_)
    refine Exists.elim hx10_5 (fun nn10 hx10_6 => ?_)
    refine Exists.elim hx10_6 (fun cc10 hx10_7 => ?_)
    have h10 := hx10_7.1
    have z10 := hx10_7.2.1
    have y10 := hx10_7.2.2
    clear hh10 hx10_0 hx10_1 hx10_2 hx10_3 hx10_4 hx10_5 hx10_6 hx10_7
    clear hf
    clear hsep hlt
    refine Box.mk ?_
    simp only [List.drop_succ_cons, List.drop_zero, fill, Act.put, Nat.reduceAdd, List.setIfInBounds_toArray, List.set_cons_zero, List.set_cons_succ, h0, h1, h2, h3, h4, h5, h6, h7, h8, h9, h10]
    clear h0 h1 h2 h3 h4 h5 h6 h7 h8 h9 h10
    have r4 := R4.out.ext ex
    clear lf lg
    obtain ⟨_, _, _, _, k40, k41, k42, k43, k44, k45, k46, k47⟩ := put4_walk r4 (.bool b10) (.slice A10 n10 c10) (.bool bb10)
    obtain ⟨W', hW'⟩ : ∃ W', W' = put4 X (w.heap.size + 1 + 1) (.bool b10) (.slice A10 n10 c10) (.bool bb10) (.slice AA10 nn10 cc10) := ⟨_, rfl⟩
    obtain ⟨f0, f1, f2, f3⟩ := put4_cells r4 (.bool b10) (.slice A10 n10 c10) (.bool bb10) (.slice AA10 nn10 cc10)
    have hz1 := (z10).put4 r4 (.bool b10) (.slice A10 n10 c10) (.bool bb10) (.slice AA10 nn10 cc10)
    rw [← hW'] at hz1
    have hz2 := (y10).put4 r4 (.bool b10) (.slice A10 n10 c10) (.bool bb10) (.slice AA10 nn10 cc10)
    rw [← hW'] at hz2
    have hbf : Below w.heap.size w W' := by rw [hW']; exact put4_below (Ext.below (E1.out.trans ex)) (by omega) (.bool b10) (.slice A10 n10 c10) (.bool bb10) (.slice AA10 nn10 cc10)
    rw [← hW'] at f0 f1 f2 f3
    unfold put4 at hW'
    have HG := Lib.hid (And.intro hz1 (And.intro hz2 (And.intro hbf (And.intro f0 (And.intro f1 (And.intro f2 f3))))))
    have HW' := Lib.hid hW'
    clear hz1 hz2 hbf f0 f1 f2 f3 hW' ex z1 z3 z4 z6 z8 z9 z10 y10 r4
    go_wp2_with fail
    refine NoPanic.normal ?_
    go_wp2
    rw [← HW'.out]
    obtain ⟨hz1, hz2, hbf, f0, f1, f2, f3⟩ := HG.out
    exact bodyPost_ret (v := .agg #[.bool b10, .slice A10 n10 c10, .bool bb10, .slice AA10 nn10 cc10]) (by simp [results, Tryz.results61, go_sem, f0, f1, f2, f3]) rfl ⟨_, _, _, _, _, _, _, _, rfl, hz1, hz2, hbf⟩
set_option maxHeartbeats 800000 in
set_option maxRecDepth 100000 in
theorem qplus_any (vx vy ux uy : Int) (v v' : Value) (w : World) (hf : FV w v vx vy) (hg : FV w v' ux uy) (lf : Lf vx vy 300) (lg : Lf ux uy 300) (hy : vy ≠ 0) (hu : uy ≠ 0) :
    Calls Tryz.prog 53 #[v, v'] w (RetF w ((vx * uy + ux * vy) / nfg (vx * uy + ux * vy) (vy * uy)) (vy * uy / nfg (vx * uy + ux * vy) (vy * uy))) := by
  have LF := Lib.hid lf; have LG := Lib.hid lg
  clear lf lg
  obtain ⟨na, hna⟩ : ∃ na, na = vx * uy + ux * vy := ⟨_, rfl⟩
  obtain ⟨da, hda⟩ : ∃ da, da = vy * uy := ⟨_, rfl⟩
  obtain ⟨vn, hvn⟩ : ∃ vn, vn = na / nfg na da := ⟨_, rfl⟩
  obtain ⟨vd, hvd⟩ : ∃ vd, vd = da / nfg na da := ⟨_, rfl⟩
  rw [← hna, ← hda, ← hvn, ← hvd]
  have hd0 : da ≠ 0 := by rw [hda]; exact Int.mul_ne_zero hy hu
  have LNA := Lib.hid (show (dig na.natAbs).length ≤ 900 ∧ (dig da.natAbs).length ≤ 900 by rw [hna, hda]; exact ⟨Nat.le_trans (len_addZ (k := 600) (Nat.le_trans (len_times LF.out.1 LG.out.2) (by omega)) (Nat.le_trans (len_times LG.out.1 LF.out.2) (by omega))) (by omega), Nat.le_trans (len_times LF.out.2 LG.out.2) (by omega)⟩)
  have NF := Lib.hid (show ∀ W u u', ZV W u na → ZV W u' da → Calls Tryz.prog 79 #[u, u'] W (RetF W vn vd) from fun W u u' h k => by rw [hvn, hvd]; exact ratio_any na da u u' W 900 h k hd0 LNA.out.1 LNA.out.2 (by omega))
  have HNA := Lib.hid hna; have HDA := Lib.hid hda
  clear hna hda hvn hvd hd0
  obtain ⟨p1, P1, m1, d1, p2, P2, m2, d2, rfl, hz1, hz2⟩ := hf
  obtain ⟨p3, P3, m3, d3, p4, P4, m4, d4, rfl, hz3, hz4⟩ := hg
  obtain ⟨W1, hW1⟩ : ∃ W1, W1 = ((w.alloc (.cells #[.bool p1, .slice P1 m1 d1, .bool p2, .slice P2 m2 d2] 55)).alloc (.cells #[.bool p3, .slice P3 m3 d3, .bool p4, .slice P4 m4 d4] 55)).alloc (.cells #[.bool false, .slice none 0 0, .bool false, .slice none 0 0] 55) := ⟨_, rfl⟩
  have e1 : Ext w W1 := by rw [hW1]; exact (((Ext.refl w).alc _).alc _).alc _
  have i2 : HF W1 w.heap.size vx vy := by rw [hW1]; exact (HF.new w p1 P1 m1 d1 p2 P2 m2 d2 55 hz1 hz2).ext (((Ext.refl _).alc _).alc _)
  have i3 : HF W1 (w.heap.size + 1) ux uy := by
    have := HF.new (w.alloc (.cells #[.bool p1, .slice P1 m1 d1, .bool p2, .slice P2 m2 d2] 55)) p3 P3 m3 d3 p4 P4 m4 d4 55 (hz3.ext ((Ext.refl _).alc _)) (hz4.ext ((Ext.refl _).alc _))
    rw [World.size_alloc] at this
    rw [hW1]; exact this.ext ((Ext.refl _).alc _)
  have r4 : FB W1 (w.heap.size + 1 + 1) := by
    have := FB.new ((w.alloc (.cells #[.bool p1, .slice P1 m1 d1, .bool p2, .slice P2 m2 d2] 55)).alloc (.cells #[.bool p3, .slice P3 m3 d3, .bool p4, .slice P4 m4 d4] 55)) false none 0 0 false none 0 0 55
    rw [World.size_alloc, World.size_alloc] at this
    rw [hW1]; exact this
  have I2 := Lib.hid i2; have I3 := Lib.hid i3; have R4 := Lib.hid r4; have E1 := Lib.hid e1; have HW1 := Lib.hid hW1
  clear i2 i3 r4 e1 hW1 hz1 hz2 hz3 hz4
  go_enter Tryz.func53, Tryz.ntmps53
  go_upto_region 1 with fail
  rw [← HW1.out]
  clear HW1
  have lr := R4.out.lt
  have lf := LF.out; have lg := LG.out
  unfold Lf at lf lg
  refine wp_region_noPanic ?_
  refine wp_pool 17 [some 5, some 6, some 7, some 8, some 9, some 10, some 11, some 12, some 13, some 14, some 15, some 16, some 17, some 18, some 19, some 20, some 21] [] [] [(fun (v : Value) (_ : World) => v = .pointer (some ⟨w.heap.size, 0, none⟩)), (fun (v : Value) (X : World) => ∃ b A n c, v = .agg #[.bool b, .slice A n c] ∧ ZV X (.agg #[.bool b, .slice A n c]) (vx)), (fun (v : Value) (_ : World) => v = .pointer (some ⟨(w.heap.size + 1), 2, none⟩)), (fun (v : Value) (X : World) => ∃ b A n c, v = .agg #[.bool b, .slice A n c] ∧ ZV X (.agg #[.bool b, .slice A n c]) (uy)), (fun (v : Value) (X : World) => ∃ b A n c, v = .agg #[.bool b, .slice A n c] ∧ ZV X (.agg #[.bool b, .slice A n c]) (vx * uy)), (fun (v : Value) (_ : World) => v = .pointer (some ⟨(w.heap.size + 1), 0, none⟩)), (fun (v : Value) (X : World) => ∃ b A n c, v = .agg #[.bool b, .slice A n c] ∧ ZV X (.agg #[.bool b, .slice A n c]) (ux)), (fun (v : Value) (_ : World) => v = .pointer (some ⟨w.heap.size, 2, none⟩)), (fun (v : Value) (X : World) => ∃ b A n c, v = .agg #[.bool b, .slice A n c] ∧ ZV X (.agg #[.bool b, .slice A n c]) (vy)), (fun (v : Value) (X : World) => ∃ b A n c, v = .agg #[.bool b, .slice A n c] ∧ ZV X (.agg #[.bool b, .slice A n c]) (ux * vy)), (fun (v : Value) (X : World) => ∃ b A n c, v = .agg #[.bool b, .slice A n c] ∧ ZV X (.agg #[.bool b, .slice A n c]) (vx * uy + ux * vy)), (fun (v : Value) (_ : World) => v = .pointer (some ⟨w.heap.size, 2, none⟩)), (fun (v : Value) (X : World) => ∃ b A n c, v = .agg #[.bool b, .slice A n c] ∧ ZV X (.agg #[.bool b, .slice A n c]) (vy)), (fun (v : Value) (_ : World) => v = .pointer (some ⟨(w.heap.size + 1), 2, none⟩)), (fun (v : Value) (X : World) => ∃ b A n c, v = .agg #[.bool b, .slice A n c] ∧ ZV X (.agg #[.bool b, .slice A n c]) (uy)), (fun (v : Value) (X : World) => ∃ b A n c, v = .agg #[.bool b, .slice A n c] ∧ ZV X (.agg #[.bool b, .slice A n c]) (vy * uy)), (fun (v : Value) (X : World) => ∃ b A n c b' A' n' c', v = .agg #[.bool b, .slice A n c, .bool b', .slice A' n' c'] ∧ ZV X (.agg #[.bool b, .slice A n c]) (vn) ∧ ZV X (.agg #[.bool b', .slice A' n' c']) (vd))] [noF, noF, noF, noF, noF, noF, noF, noF, noF, noF, noF, noF, noF, noF, noF, noF, noF] (by kernel_rfl) (by kernel_rfl) (by kernel_rfl) (by kernel_rfl) (by kernel_rfl) (by kernel_rfl) (by kernel_rfl) (by kernel_rfl) (fun _ _ _ _ h => h) ⟨Stays.pure _, (fun _ _ _ e ⟨b, A, n, c, h1, h2⟩ => ⟨b, A, n, c, h1, h2.ext e⟩), Stays.pure _, (fun _ _ _ e ⟨b, A, n, c, h1, h2⟩ => ⟨b, A, n, c, h1, h2.ext e⟩), (fun _ _ _ e ⟨b, A, n, c, h1, h2⟩ => ⟨b, A, n, c, h1, h2.ext e⟩), Stays.pure _, (fun _ _ _ e ⟨b, A, n, c, h1, h2⟩ => ⟨b, A, n, c, h1, h2.ext e⟩), Stays.pure _, (fun _ _ _ e ⟨b, A, n, c, h1, h2⟩ => ⟨b, A, n, c, h1, h2.ext e⟩), (fun _ _ _ e ⟨b, A, n, c, h1, h2⟩ => ⟨b, A, n, c, h1, h2.ext e⟩), (fun _ _ _ e ⟨b, A, n, c, h1, h2⟩ => ⟨b, A, n, c, h1, h2.ext e⟩), Stays.pure _, (fun _ _ _ e ⟨b, A, n, c, h1, h2⟩ => ⟨b, A, n, c, h1, h2.ext e⟩), Stays.pure _, (fun _ _ _ e ⟨b, A, n, c, h1, h2⟩ => ⟨b, A, n, c, h1, h2.ext e⟩), (fun _ _ _ e ⟨b, A, n, c, h1, h2⟩ => ⟨b, A, n, c, h1, h2.ext e⟩), (fun _ _ _ e ⟨b, A, n, c, b', A', n', c', h1, h2, h3⟩ => ⟨b, A, n, c, b', A', n', c', h1, h2.ext e, h3.ext e⟩), True.intro⟩ ?steps ?done
  case steps =>
    simp only [List.take_succ_cons, List.take_zero]
    refine Steps.cons (fun (v : Value) (_ : World) => v = .pointer (some ⟨w.heap.size, 0, none⟩)) [] rfl (by kernel_rfl) rfl (by kernel_rfl) (fun y X ex0 hf K hK => ?_) ?_
    · clear hf
      have ex := (Ext.drw (Ext.refl _)).trans ex0
      refine Box.mk ?_
      simp only [fill, Act.put, Nat.reduceAdd, List.setIfInBounds_toArray, List.set_cons_zero, List.set_cons_succ] at hK ⊢
      go_simp
      exact hK.out _ _ rfl (Ext.refl _) (fun b hb => by cases hb)
    refine Steps.cons (fun (v : Value) (X : World) => ∃ b A n c, v = .agg #[.bool b, .slice A n c] ∧ ZV X (.agg #[.bool b, .slice A n c]) (vx)) [0] rfl (by kernel_rfl) rfl (by kernel_rfl) (fun y X ex0 hf K hK => ?_) ?_
    · have h0 : ((fun (v : Value) (_ : World) => v = .pointer (some ⟨w.heap.size, 0, none⟩))) (y 0) X := hf.1
      clear hf
      have ex := (Ext.drw (Ext.refl _)).trans ex0
      refine Box.mk ?_
      simp only [fill, Act.put, Nat.reduceAdd, List.setIfInBounds_toArray, List.set_cons_zero, List.set_cons_succ, h0] at hK ⊢
      obtain ⟨bl, Al, nl, cl, k0, k1, kz⟩ := (I2.out.1.ext (by omega) ex)
      go_simp
      exact hK.out _ _ ⟨_, _, _, _, rfl, kz⟩ (Ext.refl _) (fun b hb => by cases hb)
    refine Steps.cons (fun (v : Value) (_ : World) => v = .pointer (some ⟨(w.heap.size + 1), 2, none⟩)) [] rfl (by kernel_rfl) rfl (by kernel_rfl) (fun y X ex0 hf K hK => ?_) ?_
    · clear hf
      have ex := (Ext.drw (Ext.refl _)).trans ex0
      refine Box.mk ?_
      simp only [fill, Act.put, Nat.reduceAdd, List.setIfInBounds_toArray, List.set_cons_zero, List.set_cons_succ] at hK ⊢
      go_simp
      exact hK.out _ _ rfl (Ext.refl _) (fun b hb => by cases hb)
    refine Steps.cons (fun (v : Value) (X : World) => ∃ b A n c, v = .agg #[.bool b, .slice A n c] ∧ ZV X (.agg #[.bool b, .slice A n c]) (uy)) [2] rfl (by kernel_rfl) rfl (by kernel_rfl) (fun y X ex0 hf K hK => ?_) ?_
    · have h2 : ((fun (v : Value) (_ : World) => v = .pointer (some ⟨(w.heap.size + 1), 2, none⟩))) (y 2) X := hf.1
      clear hf
      have ex := (Ext.drw (Ext.refl _)).trans ex0
      refine Box.mk ?_
      simp only [fill, Act.put, Nat.reduceAdd, List.setIfInBounds_toArray, List.set_cons_zero, List.set_cons_succ, h2] at hK ⊢
      obtain ⟨bl, Al, nl, cl, k0, k1, kz⟩ := (I3.out.2.ext (by omega) ex)
      go_simp
      exact hK.out _ _ ⟨_, _, _, _, rfl, kz⟩ (Ext.refl _) (fun b hb => by cases hb)
    refine Steps.cons (fun (v : Value) (X : World) => ∃ b A n c, v = .agg #[.bool b, .slice A n c] ∧ ZV X (.agg #[.bool b, .slice A n c]) (vx * uy)) [1, 3] rfl (by kernel_rfl) rfl (by kernel_rfl) (fun y X ex0 hf K hK => ?_) ?_
    · have hh1 : ((fun (v : Value) (X : World) => ∃ b A n c, v = .agg #[.bool b, .slice A n c] ∧ ZV X (.agg #[.bool b, .slice A n c]) (vx))) (y 1) X := hf.1
      refine Exists.elim hh1 (fun b1 hx1_0 => ?_)
      refine Exists.elim hx1_0 (fun A1 hx1_1 => ?_)
      refine Exists.elim hx1_1 (fun n1 hx1_2 => ?_)
      refine Exists.elim hx1_2 (fun c1 hx1_3 => ?_)
      have h1 := hx1_3.1
      have z1 := hx1_3.2
      clear hh1 hx1_0 hx1_1 hx1_2 hx1_3
      have hh3 : ((fun (v : Value) (X : World) => ∃ b A n c, v = .agg #[.bool b, .slice A n c] ∧ ZV X (.agg #[.bool b, .slice A n c]) (uy))) (y 3) X := hf.2.1
      refine Exists.elim hh3 (fun b3 hx3_0 => ?_)
      refine Exists.elim hx3_0 (fun A3 hx3_1 => ?_)
      refine Exists.elim hx3_1 (fun n3 hx3_2 => ?_)
      refine Exists.elim hx3_2 (fun c3 hx3_3 => ?_)
      have h3 := hx3_3.1
      have z3 := hx3_3.2
      clear hh3 hx3_0 hx3_1 hx3_2 hx3_3
      clear hf
      have ex := (Ext.drw (Ext.refl _)).trans ex0
      refine Box.mk ?_
      simp only [fill, Act.put, Nat.reduceAdd, List.setIfInBounds_toArray, List.set_cons_zero, List.set_cons_succ, h1, h3] at hK ⊢
      go_simp
      refine (asAgg (timesRZ_any _ _ _ _ _ z1 z3 (by omega) (by omega))).mono ?_
      rintro e V ⟨b9, A9, n9, c9, rfl, hz, hb⟩
      try go_wp2_with fail
      exact hK.out _ _ ⟨_, _, _, _, rfl, hz⟩ hb (fun b hb => by cases hb)
    refine Steps.cons (fun (v : Value) (_ : World) => v = .pointer (some ⟨(w.heap.size + 1), 0, none⟩)) [] rfl (by kernel_rfl) rfl (by kernel_rfl) (fun y X ex0 hf K hK => ?_) ?_
    · clear hf
      have ex := (Ext.drw (Ext.refl _)).trans ex0
      refine Box.mk ?_
      simp only [fill, Act.put, Nat.reduceAdd, List.setIfInBounds_toArray, List.set_cons_zero, List.set_cons_succ] at hK ⊢
      go_simp
      exact hK.out _ _ rfl (Ext.refl _) (fun b hb => by cases hb)
    refine Steps.cons (fun (v : Value) (X : World) => ∃ b A n c, v = .agg #[.bool b, .slice A n c] ∧ ZV X (.agg #[.bool b, .slice A n c]) (ux)) [5] rfl (by kernel_rfl) rfl (by kernel_rfl) (fun y X ex0 hf K hK => ?_) ?_
    · have h5 : ((fun (v : Value) (_ : World) => v = .pointer (some ⟨(w.heap.size + 1), 0, none⟩))) (y 5) X := hf.1
      clear hf
      have ex := (Ext.drw (Ext.refl _)).trans ex0
      refine Box.mk ?_
      simp only [fill, Act.put, Nat.reduceAdd, List.setIfInBounds_toArray, List.set_cons_zero, List.set_cons_succ, h5] at hK ⊢
      obtain ⟨bl, Al, nl, cl, k0, k1, kz⟩ := (I3.out.1.ext (by omega) ex)
      go_simp
      exact hK.out _ _ ⟨_, _, _, _, rfl, kz⟩ (Ext.refl _) (fun b hb => by cases hb)
    refine Steps.cons (fun (v : Value) (_ : World) => v = .pointer (some ⟨w.heap.size, 2, none⟩)) [] rfl (by kernel_rfl) rfl (by kernel_rfl) (fun y X ex0 hf K hK => ?_) ?_
    · clear hf
      have ex := (Ext.drw (Ext.refl _)).trans ex0
      refine Box.mk ?_
      simp only [fill, Act.put, Nat.reduceAdd, List.setIfInBounds_toArray, List.set_cons_zero, List.set_cons_succ] at hK ⊢
      go_simp
      exact hK.out _ _ rfl (Ext.refl _) (fun b hb => by cases hb)
    refine Steps.cons (fun (v : Value) (X : World) => ∃ b A n c, v = .agg #[.bool b, .slice A n c] ∧ ZV X (.agg #[.bool b, .slice A n c]) (vy)) [7] rfl (by kernel_rfl) rfl (by kernel_rfl) (fun y X ex0 hf K hK => ?_) ?_
    · have h7 : ((fun (v : Value) (_ : World) => v = .pointer (some ⟨w.heap.size, 2, none⟩))) (y 7) X := hf.1
      clear hf
      have ex := (Ext.drw (Ext.refl _)).trans ex0
      refine Box.mk ?_
      simp only [fill, Act.put, Nat.reduceAdd, List.setIfInBounds_toArray, List.set_cons_zero, List.set_cons_succ, h7] at hK ⊢
      obtain ⟨bl, Al, nl, cl, k0, k1, kz⟩ := (I2.out.2.ext (by omega) ex)
      go_simp
      exact hK.out _ _ ⟨_, _, _, _, rfl, kz⟩ (Ext.refl _) (fun b hb => by cases hb)
    refine Steps.cons (fun (v : Value) (X : World) => ∃ b A n c, v = .agg #[.bool b, .slice A n c] ∧ ZV X (.agg #[.bool b, .slice A n c]) (ux * vy)) [6, 8, 4] rfl (by kernel_rfl) rfl (by kernel_rfl) (fun y X ex0 hf K hK => ?_) ?_
    · have hh6 : ((fun (v : Value) (X : World) => ∃ b A n c, v = .agg #[.bool b, .slice A n c] ∧ ZV X (.agg #[.bool b, .slice A n c]) (ux))) (y 6) X := hf.1
      refine Exists.elim hh6 (fun b6 hx6_0 => ?_)
      refine Exists.elim hx6_0 (fun A6 hx6_1 => ?_)
      refine Exists.elim hx6_1 (fun n6 hx6_2 => ?_)
      refine Exists.elim hx6_2 (fun c6 hx6_3 => ?_)
      have h6 := hx6_3.1
      have z6 := hx6_3.2
      clear hh6 hx6_0 hx6_1 hx6_2 hx6_3
      have hh8 : ((fun (v : Value) (X : World) => ∃ b A n c, v = .agg #[.bool b, .slice A n c] ∧ ZV X (.agg #[.bool b, .slice A n c]) (vy))) (y 8) X := hf.2.1
      refine Exists.elim hh8 (fun b8 hx8_0 => ?_)
      refine Exists.elim hx8_0 (fun A8 hx8_1 => ?_)
      refine Exists.elim hx8_1 (fun n8 hx8_2 => ?_)
      refine Exists.elim hx8_2 (fun c8 hx8_3 => ?_)
      have h8 := hx8_3.1
      have z8 := hx8_3.2
      clear hh8 hx8_0 hx8_1 hx8_2 hx8_3
      have hh4 : ((fun (v : Value) (X : World) => ∃ b A n c, v = .agg #[.bool b, .slice A n c] ∧ ZV X (.agg #[.bool b, .slice A n c]) (vx * uy))) (y 4) X := hf.2.2.1
      refine Exists.elim hh4 (fun b4 hx4_0 => ?_)
      refine Exists.elim hx4_0 (fun A4 hx4_1 => ?_)
      refine Exists.elim hx4_1 (fun n4 hx4_2 => ?_)
      refine Exists.elim hx4_2 (fun c4 hx4_3 => ?_)
      have h4 := hx4_3.1
      have z4 := hx4_3.2
      clear hh4 hx4_0 hx4_1 hx4_2 hx4_3
      clear hf
      have ex := (Ext.drw (Ext.refl _)).trans ex0
      refine Box.mk ?_
      simp only [fill, Act.put, Nat.reduceAdd, List.setIfInBounds_toArray, List.set_cons_zero, List.set_cons_succ, h6, h8, h4] at hK ⊢
      go_simp
      refine (asAgg (timesRZ_any _ _ _ _ _ z6 z8 (by omega) (by omega))).mono ?_
      rintro e V ⟨b9, A9, n9, c9, rfl, hz, hb⟩
      try go_wp2_with fail
      exact hK.out _ _ ⟨_, _, _, _, rfl, hz⟩ hb (fun b hb => by cases hb)
    refine Steps.cons (fun (v : Value) (X : World) => ∃ b A n c, v = .agg #[.bool b, .slice A n c] ∧ ZV X (.agg #[.bool b, .slice A n c]) (vx * uy + ux * vy)) [4, 9] rfl (by kernel_rfl) rfl (by kernel_rfl) (fun y X ex0 hf K hK => ?_) ?_
    · have hh4 : ((fun (v : Value) (X : World) => ∃ b A n c, v = .agg #[.bool b, .slice A n c] ∧ ZV X (.agg #[.bool b, .slice A n c]) (vx * uy))) (y 4) X := hf.1
      refine Exists.elim hh4 (fun b4 hx4_0 => ?_)
      refine Exists.elim hx4_0 (fun A4 hx4_1 => ?_)
      refine Exists.elim hx4_1 (fun n4 hx4_2 => ?_)
      refine Exists.elim hx4_2 (fun c4 hx4_3 => ?_)
      have h4 := hx4_3.1
      have z4 := hx4_3.2
      clear hh4 hx4_0 hx4_1 hx4_2 hx4_3
      have hh9 : ((fun (v : Value) (X : World) => ∃ b A n c, v = .agg #[.bool b, .slice A n c] ∧ ZV X (.agg #[.bool b, .slice A n c]) (ux * vy))) (y 9) X := hf.2.1
      refine Exists.elim hh9 (fun b9 hx9_0 => ?_)
      refine Exists.elim hx9_0 (fun A9 hx9_1 => ?_)
      refine Exists.elim hx9_1 (fun n9 hx9_2 => ?_)
      refine Exists.elim hx9_2 (fun c9 hx9_3 => ?_)
      have h9 := hx9_3.1
      have z9 := hx9_3.2
      clear hh9 hx9_0 hx9_1 hx9_2 hx9_3
      clear hf
      have ex := (Ext.drw (Ext.refl _)).trans ex0
      refine Box.mk ?_
      simp only [fill, Act.put, Nat.reduceAdd, List.setIfInBounds_toArray, List.set_cons_zero, List.set_cons_succ, h4, h9] at hK ⊢
      go_simp
      refine (asAgg (plusRZ_any _ _ _ _ _ z4 z9 (by have := len_times (x := vx) (y := uy) lf.1 lg.2; omega) (by have := len_times (x := ux) (y := vy) lg.1 lf.2; omega))).mono ?_
      rintro e V ⟨b9, A9, n9, c9, rfl, hz, hb⟩
      try go_wp2_with fail
      exact hK.out _ _ ⟨_, _, _, _, rfl, hz⟩ hb (fun b hb => by cases hb)
    refine Steps.cons (fun (v : Value) (_ : World) => v = .pointer (some ⟨w.heap.size, 2, none⟩)) [] rfl (by kernel_rfl) rfl (by kernel_rfl) (fun y X ex0 hf K hK => ?_) ?_
    · clear hf
      have ex := (Ext.drw (Ext.refl _)).trans ex0
      refine Box.mk ?_
      simp only [fill, Act.put, Nat.reduceAdd, List.setIfInBounds_toArray, List.set_cons_zero, List.set_cons_succ] at hK ⊢
      go_simp
      exact hK.out _ _ rfl (Ext.refl _) (fun b hb => by cases hb)
    refine Steps.cons (fun (v : Value) (X : World) => ∃ b A n c, v = .agg #[.bool b, .slice A n c] ∧ ZV X (.agg #[.bool b, .slice A n c]) (vy)) [11] rfl (by kernel_rfl) rfl (by kernel_rfl) (fun y X ex0 hf K hK => ?_) ?_
    · have h11 : ((fun (v : Value) (_ : World) => v = .pointer (some ⟨w.heap.size, 2, none⟩))) (y 11) X := hf.1
      clear hf
      have ex := (Ext.drw (Ext.refl _)).trans ex0
      refine Box.mk ?_
      simp only [fill, Act.put, Nat.reduceAdd, List.setIfInBounds_toArray, List.set_cons_zero, List.set_cons_succ, h11] at hK ⊢
      obtain ⟨bl, Al, nl, cl, k0, k1, kz⟩ := (I2.out.2.ext (by omega) ex)
      go_simp
      exact hK.out _ _ ⟨_, _, _, _, rfl, kz⟩ (Ext.refl _) (fun b hb => by cases hb)
    refine Steps.cons (fun (v : Value) (_ : World) => v = .pointer (some ⟨(w.heap.size + 1), 2, none⟩)) [] rfl (by kernel_rfl) rfl (by kernel_rfl) (fun y X ex0 hf K hK => ?_) ?_
    · clear hf
      have ex := (Ext.drw (Ext.refl _)).trans ex0
      refine Box.mk ?_
      simp only [fill, Act.put, Nat.reduceAdd, List.setIfInBounds_toArray, List.set_cons_zero, List.set_cons_succ] at hK ⊢
      go_simp
      exact hK.out _ _ rfl (Ext.refl _) (fun b hb => by cases hb)
    refine Steps.cons (fun (v : Value) (X : World) => ∃ b A n c, v = .agg #[.bool b, .slice A n c] ∧ ZV X (.agg #[.bool b, .slice A n c]) (uy)) [13] rfl (by kernel_rfl) rfl (by kernel_rfl) (fun y X ex0 hf K hK => ?_) ?_
    · have h13 : ((fun (v : Value) (_ : World) => v = .pointer (some ⟨(w.heap.size + 1), 2, none⟩))) (y 13) X := hf.1
      clear hf
      have ex := (Ext.drw (Ext.refl _)).trans ex0
      refine Box.mk ?_
      simp only [fill, Act.put, Nat.reduceAdd, List.setIfInBounds_toArray, List.set_cons_zero, List.set_cons_succ, h13] at hK ⊢
      obtain ⟨bl, Al, nl, cl, k0, k1, kz⟩ := (I3.out.2.ext (by omega) ex)
      go_simp
      exact hK.out _ _ ⟨_, _, _, _, rfl, kz⟩ (Ext.refl _) (fun b hb => by cases hb)
    refine Steps.cons (fun (v : Value) (X : World) => ∃ b A n c, v = .agg #[.bool b, .slice A n c] ∧ ZV X (.agg #[.bool b, .slice A n c]) (vy * uy)) [12, 14, 10] rfl (by kernel_rfl) rfl (by kernel_rfl) (fun y X ex0 hf K hK => ?_) ?_
    · have hh12 : ((fun (v : Value) (X : World) => ∃ b A n c, v = .agg #[.bool b, .slice A n c] ∧ ZV X (.agg #[.bool b, .slice A n c]) (vy))) (y 12) X := hf.1
      refine Exists.elim hh12 (fun b12 hx12_0 => ?_)
      refine Exists.elim hx12_0 (fun A12 hx12_1 => ?_)
      refine Exists.elim hx12_1 (fun n12 hx12_2 => ?_)
      refine Exists.elim hx12_2 (fun c12 hx12_3 => ?_)
      have h12 := hx12_3.1
      have z12 := hx12_3.2
      clear hh12 hx12_0 hx12_1 hx12_2 hx12_3
      have hh14 : ((fun (v : Value) (X : World) => ∃ b A n c, v = .agg #[.bool b, .slice A n c] ∧ ZV X (.agg #[.bool b, .slice A n c]) (uy))) (y 14) X := hf.2.1
      refine Exists.elim hh14 (fun b14 hx14_0 => ?_)
      refine Exists.elim hx14_0 (fun A14 hx14_1 => ?_)
      refine Exists.elim hx14_1 (fun n14 hx14_2 => ?_)
      refine Exists.elim hx14_2 (fun c14 hx14_3 => ?_)
      have h14 := hx14_3.1
      have z14 := hx14_3.2
      clear hh14 hx14_0 hx14_1 hx14_2 hx14_3
      have hh10 : ((fun (v : Value) (X : World) => ∃ b A n c, v = .agg #[.bool b, .slice A n c] ∧ ZV X (.agg #[.bool b, .slice A n c]) (vx * uy + ux * vy))) (y 10) X := hf.2.2.1
      refine Exists.elim hh10 (fun b10 hx10_0 => ?_)
      refine Exists.elim hx10_0 (fun A10 hx10_1 => ?_)
      refine Exists.elim hx10_1 (fun n10 hx10_2 => ?_)
      refine Exists.elim hx10_2 (fun c10 hx10_3 => ?_)
      have h10 := hx10_3.1
      have z10 := hx10_3.2
      clear hh10 hx10_0 hx10_1 hx10_2 hx10_3
      clear hf
      have ex := (Ext.drw (Ext.refl _)).trans ex0
      refine Box.mk ?_
      simp only [fill, Act.put, Nat.reduceAdd, List.setIfInBounds_toArray, List.set_cons_zero, List.set_cons_succ, h12, h14, h10] at hK ⊢
      go_simp
      refine (asAgg (timesRZ_any _ _ _ _ _ z12 z14 (by omega) (by omega))).mono ?_
      rintro e V ⟨b9, A9, n9, c9, rfl, hz, hb⟩
      try go_wp2_with fail
      exact hK.out _ _ ⟨_, _, _, _, rfl, hz⟩ hb (fun b hb => by cases hb)
    refine Steps.cons (fun (v : Value) (X : World) => ∃ b A n c b' A' n' c', v = .agg #[.bool b, .slice A n c, .bool b', .slice A' n' c'] ∧ ZV X (.agg #[.bool b, .slice A n c]) (vn) ∧ ZV X (.agg #[.bool b', .slice A' n' c']) (vd)) [10, 15] rfl (by kernel_rfl) rfl (by kernel_rfl) (fun y X ex0 hf K hK => ?_) ?_
    · have hh10 : ((fun (v : Value) (X : World) => ∃ b A n c, v = .agg #[.bool b, .slice A n c] ∧ ZV X (.agg #[.bool b, .slice A n c]) (vx * uy + ux * vy))) (y 10) X := hf.1
      refine Exists.elim hh10 (fun b10 hx10_0 => ?_)
      refine Exists.elim hx10_0 (fun A10 hx10_1 => ?_)
      refine Exists.elim hx10_1 (fun n10 hx10_2 => ?_)
      refine Exists.elim hx10_2 (fun c10 hx10_3 => ?_)
      have h10 := hx10_3.1
      have z10 := hx10_3.2
      clear hh10 hx10_0 hx10_1 hx10_2 hx10_3
      have hh15 : ((fun (v : Value) (X : World) => ∃ b A n c, v = .agg #[.bool b, .slice A n c] ∧ ZV X (.agg #[.bool b, .slice A n c]) (vy * uy))) (y 15) X := hf.2.1
      refine Exists.elim hh15 (fun b15 hx15_0 => ?_)
      refine Exists.elim hx15_0 (fun A15 hx15_1 => ?_)
      refine Exists.elim hx15_1 (fun n15 hx15_2 => ?_)
      refine Exists.elim hx15_2 (fun c15 hx15_3 => ?_)
      have h15 := hx15_3.1
      have z15 := hx15_3.2
      clear hh15 hx15_0 hx15_1 hx15_2 hx15_3
      clear hf
      have ex := (Ext.drw (Ext.refl _)).trans ex0
      refine Box.mk ?_
      simp only [fill, Act.put, Nat.reduceAdd, List.setIfInBounds_toArray, List.set_cons_zero, List.set_cons_succ, h10, h15] at hK ⊢
      go_simp
      refine (NF.out _ _ _ (by rw [HNA.out]; exact z10) (by rw [HDA.out]; exact z15)).mono ?_
      rintro e V ⟨b9, A9, n9, c9, b8, A8, n8, c8, rfl, hz, hy, hb⟩
      try go_wp2_with fail
      exact hK.out _ _ ⟨_, _, _, _, _, _, _, _, rfl, hz, hy⟩ hb (fun b hb => by cases hb)
    exact Steps.nil
  case done =>
    intro y X ex hf hlt hsep
    have h0 : ((fun (v : Value) (_ : World) => v = .pointer (some ⟨w.heap.size, 0, none⟩))) (y 0) X := hf.1
    have hh1 : ((fun (v : Value) (X : World) => ∃ b A n c, v = .agg #[.bool b, .slice A n c] ∧ ZV X (.agg #[.bool b, .slice A n c]) (vx))) (y 1) X := hf.2.1
    refine Exists.elim hh1 (fun b1 hx1_0 => ?_)
    refine Exists.elim hx1_0 (fun A1 hx1_1 => ?_)
    refine Exists.elim hx1_1 (fun n1 hx1_2 => ?_)
    refine Exists.elim hx1_2 (fun c1 hx1_3 => ?_)
    have h1 := hx1_3.1
    have z1 := hx1_3.2
    clear hh1 hx1_0 hx1_1 hx1_2 hx1_3
    have h2 : ((fun (v : Value) (_ : World) => v = .pointer (some ⟨(w.heap.size + 1), 2, none⟩))) (y 2) X := hf.2.2.1
    have hh3 : ((fun (v : Value) (X : World) => ∃ b A n c, v = .agg #[.bool b, .slice A n c] ∧ ZV X (.agg #[.bool b, .slice A n c]) (uy))) (y 3) X := hf.2.2.2.1
    refine Exists.elim hh3 (fun b3 hx3_0 => ?_)
    refine Exists.elim hx3_0 (fun A3 hx3_1 => ?_)
    refine Exists.elim hx3_1 (fun n3 hx3_2 => ?_)
    refine Exists.elim hx3_2 (fun c3 hx3_3 => ?_)
    have h3 := hx3_3.1
    have z3 := hx3_3.2
    clear hh3 hx3_0 hx3_1 hx3_2 hx3_3
    have hh4 : ((fun (v : Value) (X : World) => ∃ b A n c, v = .agg #[.bool b, .slice A n c] ∧ ZV X (.agg #[.bool b, .slice A n c]) (vx * uy))) (y 4) X := hf.2.2.2.2.1
    refine Exists.elim hh4 (fun b4 hx4_0 => ?_)
    refine Exists.elim hx4_0 (fun A4 hx4_1 => ?_)
    refine Exists.elim hx4_1 (fun n4 hx4_2 => ?_)
    refine Exists.elim hx4_2 (fun c4 hx4_3 => ?_)
    have h4 := hx4_3.1
    have z4 := hx4_3.2
    clear hh4 hx4_0 hx4_1 hx4_2 hx4_3
    have h5 : ((fun (v : Value) (_ : World) => v = .pointer (some ⟨(w.heap.size + 1), 0, none⟩))) (y 5) X := hf.2.2.2.2.2.1
    have hh6 : ((fun (v : Value) (X : World) => ∃ b A n c, v = .agg #[.bool b, .slice A n c] ∧ ZV X (.agg #[.bool b, .slice A n c]) (ux))) (y 6) X := hf.2.2.2.2.2.2.1
    refine Exists.elim hh6 (fun b6 hx6_0 => ?_)
    refine Exists.elim hx6_0 (fun A6 hx6_1 => ?_)
    refine Exists.elim hx6_1 (fun n6 hx6_2 => ?_)
    refine Exists.elim hx6_2 (fun c6 hx6_3 => ?_)
    have h6 := hx6_3.1
    have z6 := hx6_3.2
    clear hh6 hx6_0 hx6_1 hx6_2 hx6_3
    have h7 : ((fun (v : Value) (_ : World) => v = .pointer (some ⟨w.heap.size, 2, none⟩))) (y 7) X := hf.2.2.2.2.2.2.2.1
    have hh8 : ((fun (v : Value) (X : World) => ∃ b A n c, v = .agg #[.bool b, .slice A n c] ∧ ZV X (.agg #[.bool b, .slice A n c]) (vy))) (y 8) X := hf.2.2.2.2.2.2.2.2.1
    refine Exists.elim hh8 (fun b8 hx8_0 => ?_)
    refine Exists.elim hx8_0 (fun A8 hx8_1 => ?_)
    refine Exists.elim hx8_1 (fun n8 hx8_2 => ?_)
    refine Exists.elim hx8_2 (fun c8 hx8_3 => ?_)
    have h8 := hx8_3.1
    have z8 := hx8_3.2
    clear hh8 hx8_0 hx8_1 hx8_2 hx8_3
    have hh9 : ((fun (v : Value) (X : World) => ∃ b A n c, v = .agg #[.bool b, .slice A n c] ∧ ZV X (.agg #[.bool b, .slice A n c]) (ux * vy))) (y 9) X := hf.2.2.2.2.2.2.2.2.2.1
    refine Exists.elim hh9 (fun b9 hx9_0 => ?_)
    refine Exists.elim hx9_0 (fun A9 hx9_1 => ?_)
    refine Exists.elim hx9_1 (fun n9 hx9_2 => ?_)
    refine Exists.elim hx9_2 (fun c9 hx9_3 => ?_)
    have h9 := hx9_3.1
    have z9 := hx9_3.2
    clear hh9 hx9_0 hx9_1 hx9_2 hx9_3
    have hh10 : ((fun (v : Value) (X : World) => ∃ b A n c, v = .agg #[.bool b, .slice A n c] ∧ ZV X (.agg #[.bool b, .slice A n c]) (vx * uy + ux * vy))) (y 10) X := hf.2.2.2.2.2.2.2.2.2.2.1
    refine Exists.elim hh10 (fun b10 hx10_0 => ?_)
    refine Exists.elim hx10_0 (fun A10 hx10_1 => ?_)
    refine Exists.elim hx10_1 (fun n10 hx10_2 => ?_)
    refine Exists.elim hx10_2 (fun c10 hx10_3 => ?_)
    have h10 := hx10_3.1
    have z10 := hx10_3.2
    clear hh10 hx10_0 hx10_1 hx10_2 hx10_3
    have h11 : ((fun (v : Value) (_ : World) => v = .pointer (some ⟨w.heap.size, 2, none⟩))) (y 11) X := hf.2.2.2.2.2.2.2.2.2.2.2.1
    have hh12 : ((fun (v : Value) (X : World) => ∃ b A n c, v = .agg #[.bool b, .slice A n c] ∧ ZV X (.agg #[.bool b, .slice A n c]) (vy))) (y 12) X := hf.2.2.2.2.2.2.2.2.2.2.2.2.1
    refine Exists.elim hh12 (fun b12 hx12_0 => ?_)
    refine Exists.elim hx12_0 (fun A12 hx12_1 => ?_)
    refine Exists.elim hx12_1 (fun n12 hx12_2 => ?_)
    refine Exists.elim hx12_2 (fun c12 hx12_3 => ?_)
    have h12 := hx12_3.1
    have z12 := hx12_3.2
    clear hh12 hx12_0 hx12_1 hx12_2 hx12_3
    have h13 : ((fun (v : Value) (_ : World) => v = .pointer (some ⟨(w.heap.size + 1), 2, none⟩))) (y 13) X := hf.2.2.2.2.2.2.2.2.2.2.2.2.2.1
    have hh14 : ((fun (v : Value) (X : World) => ∃ b A n c, v = .agg #[.bool b, .slice A n c] ∧ ZV X (.agg #[.bool b, .slice A n c]) (uy))) (y 14) X := hf.2.2.2.2.2.2.2.2.2.2.2.2.2.2.1
    refine Exists.elim hh14 (fun b14 hx14_0 => ?_)
    refine Exists.elim hx14_0 (fun A14 hx14_1 => ?_)
    refine Exists.elim hx14_1 (fun n14 hx14_2 => ?_)
    refine Exists.elim hx14_2 (fun c14 hx14_3 => ?_)
    have h14 := hx14_3.1
    have z14 := hx14_3.2
    clear hh14 hx14_0 hx14_1 hx14_2 hx14_3
    have hh15 : ((fun (v : Value) (X : World) => ∃ b A n c, v = .agg #[.bool b, .slice A n c] ∧ ZV X (.agg #[.bool b, .slice A n c]) (vy * uy))) (y 15) X := hf.2.2.2.2.2.2.2.2.2.2.2.2.2.2.2.1
    refine Exists.elim hh15 (fun b15 hx15_0 => ?_)
    refine Exists.elim hx15_0 (fun A15 hx15_1 => ?_)
    refine Exists.elim hx15_1 (fun n15 hx15_2 => ?_)
    refine Exists.elim hx15_2 (fun c15 hx15_3 => ?_)
    have h15 := hx15_3.1
    have z15 := hx15_3.2
    clear hh15 hx15_0 hx15_1 hx15_2 hx15_3
    have hh16 : ((fun (v : Value) (X : World) => ∃ b A n c b' A' n' c', v = .agg #[.bool b, .slice A n c, .bool b', .slice A' n' c'] ∧ ZV X (.agg #[.bool b, .slice A n c]) (vn) ∧ ZV X (.agg #[.bool b', .slice A' n' c']) (vd))) (y 16) X := hf.2.2.2.2.2.2.2.2.2.2.2.2.2.2.2.2.1
    refine Exists.elim hh16 (fun b16 hx16_0 => ?_)
    refine Exists.elim hx16_0 (fun A16 hx16_1 => ?_)
    refine Exists.elim hx16_1 (fun n16 hx16_2 => ?_)
    refine Exists.elim hx16_2 (fun c16 hx16_3 => ?_)
    refine Exists.elim hx16_3 (fun bb16 hx16_4 => ?_)
    refine Exists.elim hx16_4 (fun AA16 hx16_5 => ?_)
    refine Exists.elim hx16_5 (fun nn16 hx16_6 => ?_)
    refine Exists.elim hx16_6 (fun cc16 hx16_7 => ?_)
    have h16 := hx16_7.1
    have z16 := hx16_7.2.1
    have y16 := hx16_7.2.2
    clear hh16 hx16_0 hx16_1 hx16_2 hx16_3 hx16_4 hx16_5 hx16_6 hx16_7
    clear hf
    clear hsep hlt
    refine Box.mk ?_
    simp only [List.drop_succ_cons, List.drop_zero, fill, Act.put, Nat.reduceAdd, List.setIfInBounds_toArray, List.set_cons_zero, List.set_cons_succ, h0, h1, h2, h3, h4, h5, h6, h7, h8, h9, h10, h11, h12, h13, h14, h15, h16]
    clear h0 h1 h2 h3 h4 h5 h6 h7 h8 h9 h10 h11 h12 h13 h14 h15 h16
    have r4 := R4.out.ext ex
    clear lf lg
    obtain ⟨_, _, _, _, k40, k41, k42, k43, k44, k45, k46, k47⟩ := put4_walk r4 (.bool b16) (.slice A16 n16 c16) (.bool bb16)
    obtain ⟨W', hW'⟩ : ∃ W', W' = put4 X (w.heap.size + 1 + 1) (.bool b16) (.slice A16 n16 c16) (.bool bb16) (.slice AA16 nn16 cc16) := ⟨_, rfl⟩
    obtain ⟨f0, f1, f2, f3⟩ := put4_cells r4 (.bool b16) (.slice A16 n16 c16) (.bool bb16) (.slice AA16 nn16 cc16)
    have hz1 := (z16).put4 r4 (.bool b16) (.slice A16 n16 c16) (.bool bb16) (.slice AA16 nn16 cc16)
    rw [← hW'] at hz1
    have hz2 := (y16).put4 r4 (.bool b16) (.slice A16 n16 c16) (.bool bb16) (.slice AA16 nn16 cc16)
    rw [← hW'] at hz2
    have hbf : Below w.heap.size w W' := by rw [hW']; exact put4_below (Ext.below (E1.out.trans ex)) (by omega) (.bool b16) (.slice A16 n16 c16) (.bool bb16) (.slice AA16 nn16 cc16)
    rw [← hW'] at f0 f1 f2 f3
    unfold put4 at hW'
    have HG := Lib.hid (And.intro hz1 (And.intro hz2 (And.intro hbf (And.intro f0 (And.intro f1 (And.intro f2 f3))))))
    have HW' := Lib.hid hW'
    clear hz1 hz2 hbf f0 f1 f2 f3 hW' ex z1 z3 z4 z6 z8 z9 z10 z12 z14 z15 z16 y16 r4
    go_wp2_with fail
    refine NoPanic.normal ?_
    go_wp2
    rw [← HW'.out]
    obtain ⟨hz1, hz2, hbf, f0, f1, f2, f3⟩ := HG.out
    exact bodyPost_ret (v := .agg #[.bool b16, .slice A16 n16 c16, .bool bb16, .slice AA16 nn16 cc16]) (by simp [results, Tryz.results53, go_sem, f0, f1, f2, f3]) rfl ⟨_, _, _, _, _, _, _, _, rfl, hz1, hz2, hbf⟩
set_option maxHeartbeats 800000 in
set_option maxRecDepth 100000 in
theorem qless_any (vx vy ux uy : Int) (v v' : Value) (w : World) (hf : FV w v vx vy) (hg : FV w v' ux uy) (lf : Lf vx vy 300) (lg : Lf ux uy 300) (hy : vy ≠ 0) (hu : uy ≠ 0) :
    Calls Tryz.prog 55 #[v, v'] w (RetF w ((vx * uy + -ux * vy) / nfg (vx * uy + -ux * vy) (vy * uy)) (vy * uy / nfg (vx * uy + -ux * vy) (vy * uy))) := by
  have LF := Lib.hid lf; have LG := Lib.hid lg
  clear lf lg
  obtain ⟨vn, hvn⟩ : ∃ vn, vn = (vx * uy + -ux * vy) / nfg (vx * uy + -ux * vy) (vy * uy) := ⟨_, rfl⟩
  obtain ⟨vd, hvd⟩ : ∃ vd, vd = vy * uy / nfg (vx * uy + -ux * vy) (vy * uy) := ⟨_, rfl⟩
  rw [← hvn, ← hvd]
  have NF := Lib.hid (show ∀ W u u', FV W u vx vy → FV W u' (-ux) uy → Calls Tryz.prog 53 #[u, u'] W (RetF W vn vd) from fun W u u' h k => by rw [hvn, hvd]; exact qplus_any vx vy (-ux) uy u u' W h k LF.out ⟨by rw [Int.natAbs_neg]; exact LG.out.1, LG.out.2⟩ hy hu)
  clear hvn hvd
  obtain ⟨p1, P1, m1, d1, p2, P2, m2, d2, rfl, hz1, hz2⟩ := hf
  obtain ⟨p3, P3, m3, d3, p4, P4, m4, d4, rfl, hz3, hz4⟩ := hg
  obtain ⟨W1, hW1⟩ : ∃ W1, W1 = ((w.alloc (.cells #[.bool p1, .slice P1 m1 d1, .bool p2, .slice P2 m2 d2] 55)).alloc (.cells #[.bool p3, .slice P3 m3 d3, .bool p4, .slice P4 m4 d4] 55)).alloc (.cells #[.bool false, .slice none 0 0, .bool false, .slice none 0 0] 55) := ⟨_, rfl⟩
  have e1 : Ext w W1 := by rw [hW1]; exact (((Ext.refl w).alc _).alc _).alc _
  have i2 : HF W1 w.heap.size vx vy := by rw [hW1]; exact (HF.new w p1 P1 m1 d1 p2 P2 m2 d2 55 hz1 hz2).ext (((Ext.refl _).alc _).alc _)
  have i3 : HF W1 (w.heap.size + 1) ux uy := by
    have := HF.new (w.alloc (.cells #[.bool p1, .slice P1 m1 d1, .bool p2, .slice P2 m2 d2] 55)) p3 P3 m3 d3 p4 P4 m4 d4 55 (hz3.ext ((Ext.refl _).alc _)) (hz4.ext ((Ext.refl _).alc _))
    rw [World.size_alloc] at this
    rw [hW1]; exact this.ext ((Ext.refl _).alc _)
  have r4 : FB W1 (w.heap.size + 1 + 1) := by
    have := FB.new ((w.alloc (.cells #[.bool p1, .slice P1 m1 d1, .bool p2, .slice P2 m2 d2] 55)).alloc (.cells #[.bool p3, .slice P3 m3 d3, .bool p4, .slice P4 m4 d4] 55)) false none 0 0 false none 0 0 55
    rw [World.size_alloc, World.size_alloc] at this
    rw [hW1]; exact this
  have I2 := Lib.hid i2; have I3 := Lib.hid i3; have R4 := Lib.hid r4; have E1 := Lib.hid e1; have HW1 := Lib.hid hW1
  clear i2 i3 r4 e1 hW1 hz1 hz2 hz3 hz4
  go_enter Tryz.func55, Tryz.ntmps55
  go_upto_region 1 with fail
  rw [← HW1.out]
  clear HW1
  have lr := R4.out.lt
  have lf := LF.out; have lg := LG.out
  unfold Lf at lf lg
  refine wp_region_noPanic ?_
  refine wp_pool 4 [some 5, some 6, some 7, some 8] [] [] [(fun (v : Value) (X : World) => ∃ b A n c b' A' n' c', v = .agg #[.bool b, .slice A n c, .bool b', .slice A' n' c'] ∧ ZV X (.agg #[.bool b, .slice A n c]) (vx) ∧ ZV X (.agg #[.bool b', .slice A' n' c']) (vy)), (fun (v : Value) (X : World) => ∃ b A n c b' A' n' c', v = .agg #[.bool b, .slice A n c, .bool b', .slice A' n' c'] ∧ ZV X (.agg #[.bool b, .slice A n c]) (ux) ∧ ZV X (.agg #[.bool b', .slice A' n' c']) (uy)), (fun (v : Value) (X : World) => ∃ b A n c b' A' n' c', v = .agg #[.bool b, .slice A n c, .bool b', .slice A' n' c'] ∧ ZV X (.agg #[.bool b, .slice A n c]) (-ux) ∧ ZV X (.agg #[.bool b', .slice A' n' c']) (uy)), (fun (v : Value) (X : World) => ∃ b A n c b' A' n' c', v = .agg #[.bool b, .slice A n c, .bool b', .slice A' n' c'] ∧ ZV X (.agg #[.bool b, .slice A n c]) (vn) ∧ ZV X (.agg #[.bool b', .slice A' n' c']) (vd))] [noF, noF, noF, noF] (by kernel_rfl) (by kernel_rfl) (by kernel_rfl) (by kernel_rfl) (by kernel_rfl) (by kernel_rfl) (by kernel_rfl) (by kernel_rfl) (fun _ _ _ _ h => h) ⟨(fun _ _ _ e ⟨b, A, n, c, b', A', n', c', h1, h2, h3⟩ => ⟨b, A, n, c, b', A', n', c', h1, h2.ext e, h3.ext e⟩), (fun _ _ _ e ⟨b, A, n, c, b', A', n', c', h1, h2, h3⟩ => ⟨b, A, n, c, b', A', n', c', h1, h2.ext e, h3.ext e⟩), (fun _ _ _ e ⟨b, A, n, c, b', A', n', c', h1, h2, h3⟩ => ⟨b, A, n, c, b', A', n', c', h1, h2.ext e, h3.ext e⟩), (fun _ _ _ e ⟨b, A, n, c, b', A', n', c', h1, h2, h3⟩ => ⟨b, A, n, c, b', A', n', c', h1, h2.ext e, h3.ext e⟩), True.intro⟩ ?steps ?done
  case steps =>
    simp only [List.take_succ_cons, List.take_zero]
    refine Steps.cons (fun (v : Value) (X : World) => ∃ b A n c b' A' n' c', v = .agg #[.bool b, .slice A n c, .bool b', .slice A' n' c'] ∧ ZV X (.agg #[.bool b, .slice A n c]) (vx) ∧ ZV X (.agg #[.bool b', .slice A' n' c']) (vy)) [] rfl (by kernel_rfl) rfl (by kernel_rfl) (fun y X ex0 hf K hK => ?_) ?_
    · clear hf
      have ex := (Ext.drw (Ext.refl _)).trans ex0
      refine Box.mk ?_
      simp only [fill, Act.put, Nat.reduceAdd, List.setIfInBounds_toArray, List.set_cons_zero, List.set_cons_succ] at hK ⊢
      obtain ⟨⟨bl, Al, nl, cl, k0, k1, kz⟩, ⟨bm, Am, nm, cm, k2, k3, ky⟩⟩ := (I2.out.ext ex)
      go_simp
      exact hK.out _ _ ⟨_, _, _, _, _, _, _, _, rfl, kz, ky⟩ (Ext.refl _) (fun b hb => by cases hb)
    refine Steps.cons (fun (v : Value) (X : World) => ∃ b A n c b' A' n' c', v = .agg #[.bool b, .slice A n c, .bool b', .slice A' n' c'] ∧ ZV X (.agg #[.bool b, .slice A n c]) (ux) ∧ ZV X (.agg #[.bool b', .slice A' n' c']) (uy)) [] rfl (by kernel_rfl) rfl (by kernel_rfl) (fun y X ex0 hf K hK => ?_) ?_
    · clear hf
      have ex := (Ext.drw (Ext.refl _)).trans ex0
      refine Box.mk ?_
      simp only [fill, Act.put, Nat.reduceAdd, List.setIfInBounds_toArray, List.set_cons_zero, List.set_cons_succ] at hK ⊢
      obtain ⟨⟨bl, Al, nl, cl, k0, k1, kz⟩, ⟨bm, Am, nm, cm, k2, k3, ky⟩⟩ := (I3.out.ext ex)
      go_simp
      exact hK.out _ _ ⟨_, _, _, _, _, _, _, _, rfl, kz, ky⟩ (Ext.refl _) (fun b hb => by cases hb)
    refine Steps.cons (fun (v : Value) (X : World) => ∃ b A n c b' A' n' c', v = .agg #[.bool b, .slice A n c, .bool b', .slice A' n' c'] ∧ ZV X (.agg #[.bool b, .slice A n c]) (-ux) ∧ ZV X (.agg #[.bool b', .slice A' n' c']) (uy)) [1] rfl (by kernel_rfl) rfl (by kernel_rfl) (fun y X ex0 hf K hK => ?_) ?_
    · have hh1 : ((fun (v : Value) (X : World) => ∃ b A n c b' A' n' c', v = .agg #[.bool b, .slice A n c, .bool b', .slice A' n' c'] ∧ ZV X (.agg #[.bool b, .slice A n c]) (ux) ∧ ZV X (.agg #[.bool b', .slice A' n' c']) (uy))) (y 1) X := hf.1
      refine Exists.elim hh1 (fun b1 hx1_0 => ?_)
      refine Exists.elim hx1_0 (fun A1 hx1_1 => ?_)
      refine Exists.elim hx1_1 (fun n1 hx1_2 => ?_)
      refine Exists.elim hx1_2 (fun c1 hx1_3 => ?_)
      refine Exists.elim hx1_3 (fun bb1 hx1_4 => ?_)
      refine Exists.elim hx1_4 (fun AA1 hx1_5 => ?_)
      refine Exists.elim hx1_5 (fun nn1 hx1_6 => ?_)
      refine Exists.elim hx1_6 (fun cc1 hx1_7 => ?_)
      have h1 := hx1_7.1
      have z1 := hx1_7.2.1
      have y1 := hx1_7.2.2
      clear hh1 hx1_0 hx1_1 hx1_2 hx1_3 hx1_4 hx1_5 hx1_6 hx1_7
      clear hf
      have ex := (Ext.drw (Ext.refl _)).trans ex0
      refine Box.mk ?_
      simp only [fill, Act.put, Nat.reduceAdd, List.setIfInBounds_toArray, List.set_cons_zero, List.set_cons_succ, h1] at hK ⊢
      go_simp
      refine (qminus_any _ _ _ _ (fv_mk z1 y1)).mono ?_
      rintro e V ⟨b9, A9, n9, c9, b8, A8, n8, c8, rfl, hz, hy, hb⟩
      try go_wp2_with fail
      exact hK.out _ _ ⟨_, _, _, _, _, _, _, _, rfl, hz, hy⟩ hb (fun b hb => by cases hb)
    refine Steps.cons (fun (v : Value) (X : World) => ∃ b A n c b' A' n' c', v = .agg #[.bool b, .slice A n c, .bool b', .slice A' n' c'] ∧ ZV X (.agg #[.bool b, .slice A n c]) (vn) ∧ ZV X (.agg #[.bool b', .slice A' n' c']) (vd)) [0, 2] rfl (by kernel_rfl) rfl (by kernel_rfl) (fun y X ex0 hf K hK => ?_) ?_
    · have hh0 : ((fun (v : Value) (X : World) => ∃ b A n c b' A' n' c', v = .agg #[.bool b, .slice A n c, .bool b', .slice A' n' c'] ∧ ZV X (.agg #[.bool b, .slice A n c]) (vx) ∧ ZV X (.agg #[.bool b', .slice A' n' c']) (vy))) (y 0) X := hf.1
      refine Exists.elim hh0 (fun b0 hx0_0 => ?_)
      refine Exists.elim hx0_0 (fun A0 hx0_1 => ?_)
      refine Exists.elim hx0_1 (fun n0 hx0_2 => ?_)
      refine Exists.elim hx0_2 (fun c0 hx0_3 => ?_)
      refine Exists.elim hx0_3 (fun bb0 hx0_4 => ?_)
      refine Exists.elim hx0_4 (fun AA0 hx0_5 => ?_)
      refine Exists.elim hx0_5 (fun nn0 hx0_6 => ?_)
      refine Exists.elim hx0_6 (fun cc0 hx0_7 => ?_)
      have h0 := hx0_7.1
      have z0 := hx0_7.2.1
      have y0 := hx0_7.2.2
      clear hh0 hx0_0 hx0_1 hx0_2 hx0_3 hx0_4 hx0_5 hx0_6 hx0_7
      have hh2 : ((fun (v : Value) (X : World) => ∃ b A n c b' A' n' c', v = .agg #[.bool b, .slice A n c, .bool b', .slice A' n' c'] ∧ ZV X (.agg #[.bool b, .slice A n c]) (-ux) ∧ ZV X (.agg #[.bool b', .slice A' n' c']) (uy))) (y 2) X := hf.2.1
      refine Exists.elim hh2 (fun b2 hx2_0 => ?_)
      refine Exists.elim hx2_0 (fun A2 hx2_1 => ?_)
      refine Exists.elim hx2_1 (fun n2 hx2_2 => ?_)
      refine Exists.elim hx2_2 (fun c2 hx2_3 => ?_)
      refine Exists.elim hx2_3 (fun bb2 hx2_4 => ?_)
      refine Exists.elim hx2_4 (fun AA2 hx2_5 => ?_)
      refine Exists.elim hx2_5 (fun nn2 hx2_6 => ?_)
      refine Exists.elim hx2_6 (fun cc2 hx2_7 => ?_)
      have h2 := hx2_7.1
      have z2 := hx2_7.2.1
      have y2 := hx2_7.2.2
      clear hh2 hx2_0 hx2_1 hx2_2 hx2_3 hx2_4 hx2_5 hx2_6 hx2_7
      clear hf
      have ex := (Ext.drw (Ext.refl _)).trans ex0
      refine Box.mk ?_
      simp only [fill, Act.put, Nat.reduceAdd, List.setIfInBounds_toArray, List.set_cons_zero, List.set_cons_succ, h0, h2] at hK ⊢
      go_simp
      refine (NF.out _ _ _ (fv_mk z0 y0) (fv_mk z2 y2)).mono ?_
      rintro e V ⟨b9, A9, n9, c9, b8, A8, n8, c8, rfl, hz, hy, hb⟩
      try go_wp2_with fail
      exact hK.out _ _ ⟨_, _, _, _, _, _, _, _, rfl, hz, hy⟩ hb (fun b hb => by cases hb)
    exact Steps.nil
  case done =>
    intro y X ex hf hlt hsep
    have hh0 : ((fun (v : Value) (X : World) => ∃ b A n c b' A' n' c', v = .agg #[.bool b, .slice A n c, .bool b', .slice A' n' c'] ∧ ZV X (.agg #[.bool b, .slice A n c]) (vx) ∧ ZV X (.agg #[.bool b', .slice A' n' c']) (vy))) (y 0) X := hf.1
    refine Exists.elim hh0 (fun b0 hx0_0 => ?_)
    refine Exists.elim hx0_0 (fun A0 hx0_1 => ?_)
    refine Exists.elim hx0_1 (fun n0 hx0_2 => ?_)
    refine Exists.elim hx0_2 (fun c0 hx0_3 => ?_)
    refine Exists.elim hx0_3 (fun bb0 hx0_4 => ?_)
    refine Exists.elim hx0_4 (fun AA0 hx0_5 => ?_)
    refine Exists.elim hx0_5 (fun nn0 hx0_6 => ?_)
    refine Exists.elim hx0_6 (fun cc0 hx0_7 => ?_)
    have h0 := hx0_7.1
    have z0 := hx0_7.2.1
    have y0 := hx0_7.2.2
    clear hh0 hx0_0 hx0_1 hx0_2 hx0_3 hx0_4 hx0_5 hx0_6 hx0_7
    have hh1 : ((fun (v : Value) (X : World) => ∃ b A n c b' A' n' c', v = .agg #[.bool b, .slice A n c, .bool b', .slice A' n' c'] ∧ ZV X (.agg #[.bool b, .slice A n c]) (ux) ∧ ZV X (.agg #[.bool b', .slice A' n' c']) (uy))) (y 1) X := hf.2.1
    refine Exists.elim hh1 (fun b1 hx1_0 => ?_)
    refine Exists.elim hx1_0 (fun A1 hx1_1 => ?_)
    refine Exists.elim hx1_1 (fun n1 hx1_2 => ?_)
    refine Exists.elim hx1_2 (fun c1 hx1_3 => ?_)
    refine Exists.elim hx1_3 (fun bb1 hx1_4 => ?_)
    refine Exists.elim hx1_4 (fun AA1 hx1_5 => ?_)
    refine Exists.elim hx1_5 (fun nn1 hx1_6 => ?_)
    refine Exists.elim hx1_6 (fun cc1 hx1_7 => ?_)
    have h1 := hx1_7.1
    have z1 := hx1_7.2.1
    have y1 := hx1_7.2.2
    clear hh1 hx1_0 hx1_1 hx1_2 hx1_3 hx1_4 hx1_5 hx1_6 hx1_7
    have hh2 : ((fun (v : Value) (X : World) => ∃ b A n c b' A' n' c', v = .agg #[.bool b, .slice A n c, .bool b', .slice A' n' c'] ∧ ZV X (.agg #[.bool b, .slice A n c]) (-ux) ∧ ZV X (.agg #[.bool b', .slice A' n' c']) (uy))) (y 2) X := hf.2.2.1
    refine Exists.elim hh2 (fun b2 hx2_0 => ?_)
    refine Exists.elim hx2_0 (fun A2 hx2_1 => ?_)
    refine Exists.elim hx2_1 (fun n2 hx2_2 => ?_)
    refine Exists.elim hx2_2 (fun c2 hx2_3 => ?_)
    refine Exists.elim hx2_3 (fun bb2 hx2_4 => ?_)
    refine Exists.elim hx2_4 (fun AA2 hx2_5 => ?_)
    refine Exists.elim hx2_5 (fun nn2 hx2_6 => ?_)
    refine Exists.elim hx2_6 (fun cc2 hx2_7 => ?_)
    have h2 := hx2_7.1
    have z2 := hx2_7.2.1
    have y2 := hx2_7.2.2
    clear hh2 hx2_0 hx2_1 hx2_2 hx2_3 hx2_4 hx2_5 hx2_6 hx2_7
    have hh3 : ((fun (v : Value) (X : World) => ∃ b A n c b' A' n' c', v = .agg #[.bool b, .slice A n c, .bool b', .slice A' n' c'] ∧ ZV X (.agg #[.bool b, .slice A n c]) (vn) ∧ ZV X (.agg #[.bool b', .slice A' n' c']) (vd))) (y 3) X := hf.2.2.2.1
    refine Exists.elim hh3 (fun b3 hx3_0 => ?_)
    refine Exists.elim hx3_0 (fun A3 hx3_1 => ?_)
    refine Exists.elim hx3_1 (fun n3 hx3_2 => ?_)
    refine Exists.elim hx3_2 (fun c3 hx3_3 => ?_)
    refine Exists.elim hx3_3 (fun bb3 hx3_4 => ?_)
    refine Exists.elim hx3_4 (fun AA3 hx3_5 => ?_)
    refine Exists.elim hx3_5 (fun nn3 hx3_6 => ?_)
    refine Exists.elim hx3_6 (fun cc3 hx3_7 => ?_)
    have h3 := hx3_7.1
    have z3 := hx3_7.2.1
    have y3 := hx3_7.2.2
    clear hh3 hx3_0 hx3_1 hx3_2 hx3_3 hx3_4 hx3_5 hx3_6 hx3_7
    clear hf
    clear hsep hlt
    refine Box.mk ?_
    simp only [List.drop_succ_cons, List.drop_zero, fill, Act.put, Nat.reduceAdd, List.setIfInBounds_toArray, List.set_cons_zero, List.set_cons_succ, h0, h1, h2, h3]
    clear h0 h1 h2 h3
    have r4 := R4.out.ext ex
    clear lf lg
    obtain ⟨_, _, _, _, k40, k41, k42, k43, k44, k45, k46, k47⟩ := put4_walk r4 (.bool b3) (.slice A3 n3 c3) (.bool bb3)
    obtain ⟨W', hW'⟩ : ∃ W', W' = put4 X (w.heap.size + 1 + 1) (.bool b3) (.slice A3 n3 c3) (.bool bb3) (.slice AA3 nn3 cc3) := ⟨_, rfl⟩
    obtain ⟨f0, f1, f2, f3⟩ := put4_cells r4 (.bool b3) (.slice A3 n3 c3) (.bool bb3) (.slice AA3 nn3 cc3)
    have hz1 := (z3).put4 r4 (.bool b3) (.slice A3 n3 c3) (.bool bb3) (.slice AA3 nn3 cc3)
    rw [← hW'] at hz1
    have hz2 := (y3).put4 r4 (.bool b3) (.slice A3 n3 c3) (.bool bb3) (.slice AA3 nn3 cc3)
    rw [← hW'] at hz2
    have hbf : Below w.heap.size w W' := by rw [hW']; exact put4_below (Ext.below (E1.out.trans ex)) (by omega) (.bool b3) (.slice A3 n3 c3) (.bool bb3) (.slice AA3 nn3 cc3)
    rw [← hW'] at f0 f1 f2 f3
    unfold put4 at hW'
    have HG := Lib.hid (And.intro hz1 (And.intro hz2 (And.intro hbf (And.intro f0 (And.intro f1 (And.intro f2 f3))))))
    have HW' := Lib.hid hW'
    clear hz1 hz2 hbf f0 f1 f2 f3 hW' ex z0 y0 z1 y1 z2 y2 z3 y3 r4
    go_wp2_with fail
    refine NoPanic.normal ?_
    go_wp2
    rw [← HW'.out]
    obtain ⟨hz1, hz2, hbf, f0, f1, f2, f3⟩ := HG.out
    exact bodyPost_ret (v := .agg #[.bool b3, .slice A3 n3 c3, .bool bb3, .slice AA3 nn3 cc3]) (by simp [results, Tryz.results55, go_sem, f0, f1, f2, f3]) rfl ⟨_, _, _, _, _, _, _, _, rfl, hz1, hz2, hbf⟩
end Go.Proofs.YtmlopkkbgpfdnabGreat
