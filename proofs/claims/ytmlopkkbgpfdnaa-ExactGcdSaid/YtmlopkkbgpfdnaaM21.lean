/- Walks of the reference: Ext. -/
import Derived.Test.YtmlopkkbgpfdnaaM20
namespace Go.Proofs.Ytmlopkkbgpfdnaa
open Go.RowKit

theorem zv_signed {w : World} {A : Option Addr} {n c x : Nat} (h : Wd w (.slice A n c) (dig x)) : ZV w (.agg #[.bool (false && decide (0 < n)), .slice A n c]) (x : Int) :=
  ZV.mk (by rw [Bool.false_and]; exact (decide_eq_false (by omega)).symm) (by rw [Int.natAbs_natCast]; exact h)
theorem len_diff {g m : Int} (h1 : (dig g.natAbs).length ≤ 256) (h2 : (dig m.natAbs).length ≤ 512) : (dig (g - m).natAbs).length ≤ 999999 :=
  Nat.le_trans (len_mono (show (g - m).natAbs ≤ g.natAbs + m.natAbs by omega)) (len_sum h1 h2)
theorem inverseR_u (r t : Int) (u u' : Value) (W : World) (hx : ZV W u r) (hy : ZV W u' t) (ht : 0 < t) (hc : Int.gcd r t = 1) (lx : (dig r.natAbs).length ≤ 300) (ly : (dig t.natAbs).length ≤ 300) :
    Calls Try.prog 71 #[u, u'] W fun e w' => ∃ b A n c x, e = .returned (.agg #[.bool b, .slice A n c]) ∧ ZV w' (.agg #[.bool b, .slice A n c]) x ∧ (0 ≤ x ∧ x < t ∧ t ∣ 1 - r * x) ∧ Ext W w' := by
  refine (inverseR_any r t u u' W hx hy ht hc lx ly).mono ?_
  rintro e w' ⟨x, h0, h1, h2, v, rfl, hr, hb⟩
  obtain ⟨A, n, c, rfl, -, -, -⟩ := hr.open_
  exact ⟨_, _, _, _, x, rfl, hr, ⟨h0, h1, h2⟩, hb⟩

set_option maxHeartbeats 800000 in
set_option maxRecDepth 100000 in
theorem refExt_noa (p q : Bool) (A A' : Option Addr) (n c n' c' : Nat) (l l' : List Nat) (w : World) (hx : Wd w (.slice A n c) l) (hy : Wd w (.slice A' n' c') l') (hno : vld p l = false) :
    Calls Try.prog 33 #[.agg #[.bool p, .slice A n c], .agg #[.bool q, .slice A' n' c']] w (RetExt w 0 0 0 2) := by
  obtain ⟨W0, hW0, hH1, hH2, hR3, hR4, hR5, hb0, z0⟩ := five_ext 24 w p q A A' n c n' c' l l' hx hy
  have Hno := Lib.hid hno; clear hno
  have HW0 := Lib.hid hW0; clear hW0
  have HF := Lib.hid (And.intro hH1 (And.intro hH2 (And.intro hR3 (And.intro hR4 (And.intro hR5 (And.intro hb0 z0))))))
  clear hH1 hH2 hR3 hR4 hR5 hb0 z0 hx hy
  go_enter Try.func33, Try.ntmps33
  go_wp2_with fail
  rw [← HW0.out]
  obtain ⟨hH1, hH2, hR3, hR4, hR5, hb0, z0⟩ := HF.out
  clear HF
  have j0 := hH2.c0; have j1 := hH2.c1
  refine (validR_any p A n c l _ hH1.w).mono ?_
  rintro e W1 ⟨rfl, x1⟩
  replace x1 : Ext W0 W1 := x1
  rw [Hno.out]
  have x12 := x1
  clear HW0 j0 j1
  obtain ⟨W', hW', ⟨f1, f2, f3, f4, f5, f6⟩, hzv, hbf, T, U⟩ := three_res (hR3.ext x12) (hR4.ext x12) (hR5.ext x12) (show w.heap.size + 1 + 1 + 1 ≠ w.heap.size + 1 + 1 by omega) (show w.heap.size + 1 + 1 + 1 + 1 ≠ w.heap.size + 1 + 1 by omega) (show w.heap.size + 1 + 1 + 1 + 1 ≠ w.heap.size + 1 + 1 + 1 by omega) false none 0 0 false none 0 0 false none 0 0 (hb0.trans x12) (by omega) (by omega) (by omega)
  obtain ⟨_, _, _, _, g30, g31, g32, g33⟩ := ((hR3.ext x12)).facts
  obtain ⟨_, _, _, _, g40, g41, g42, g43⟩ := T.facts
  obtain ⟨_, _, _, _, g50, g51, g52, g53⟩ := U.facts
  have HG := Lib.hid (And.intro (zv_zero' W') (And.intro hbf (And.intro f1 (And.intro f2 (And.intro f3 (And.intro f4 (And.intro f5 f6)))))))
  have HW' := Lib.hid hW'
  clear hbf f1 f2 f3 f4 f5 f6 hW' T U hzv hH1 hH2 hR3 hR4 hR5 hb0 x1 x12
  go_wp2
  rw [← HW'.out]
  obtain ⟨hz, hbf, f1, f2, f3, f4, f5, f6⟩ := HG.out
  exact bodyPost_ret (v := .tuple #[.agg #[.bool false, .slice none 0 0], .agg #[.bool false, .slice none 0 0], .agg #[.bool false, .slice none 0 0], .int .i64 2]) (by simp [results, Try.results33, go_sem, f1, f2, f3, f4, f5, f6]) rfl ⟨_, _, _, _, _, _, _, _, _, _, _, _, rfl, hz, hz, hz, hbf⟩
set_option maxHeartbeats 800000 in
set_option maxRecDepth 100000 in
theorem refExt_nob (p q : Bool) (A A' : Option Addr) (n c n' c' : Nat) (l l' : List Nat) (w : World) (hx : Wd w (.slice A n c) l) (hy : Wd w (.slice A' n' c') l') (hya : vld p l = true) (hno : vld q l' = false) :
    Calls Try.prog 33 #[.agg #[.bool p, .slice A n c], .agg #[.bool q, .slice A' n' c']] w (RetExt w 0 0 0 2) := by
  obtain ⟨W0, hW0, hH1, hH2, hR3, hR4, hR5, hb0, z0⟩ := five_ext 24 w p q A A' n c n' c' l l' hx hy
  have Hno := Lib.hid hno; have Hya := Lib.hid hya; clear hno hya
  have HW0 := Lib.hid hW0; clear hW0
  have HF := Lib.hid (And.intro hH1 (And.intro hH2 (And.intro hR3 (And.intro hR4 (And.intro hR5 (And.intro hb0 z0))))))
  clear hH1 hH2 hR3 hR4 hR5 hb0 z0 hx hy
  go_enter Try.func33, Try.ntmps33
  go_wp2_with fail
  rw [← HW0.out]
  obtain ⟨hH1, hH2, hR3, hR4, hR5, hb0, z0⟩ := HF.out
  clear HF
  have j0 := hH2.c0; have j1 := hH2.c1
  refine (validR_any p A n c l _ hH1.w).mono ?_
  rintro e W1 ⟨rfl, x1⟩
  replace x1 : Ext W0 W1 := x1
  rw [Hya.out]
  have k20 := (hH2.ext x1).c0
  have k21 := (hH2.ext x1).c1
  have VB := Lib.hid (validR_any q A' n' c' l' W1 (hH2.ext x1).w)
  have HFF := Lib.hid (And.intro hH1 (And.intro hH2 (And.intro hR3 (And.intro hR4 (And.intro hR5 (And.intro hb0 (And.intro z0 x1)))))))
  clear hH1 hH2 hR3 hR4 hR5 hb0 z0 x1 j0 j1 HW0
  go_wp2_with fail
  refine VB.out.mono ?_
  rintro e W2 ⟨rfl, x2⟩
  replace x2 : Ext W1 W2 := x2
  obtain ⟨hH1, hH2, hR3, hR4, hR5, hb0, z0, x1⟩ := HFF.out
  clear HFF VB k20 k21
  rw [Hno.out]
  have x12 := x1.trans x2
  obtain ⟨W', hW', ⟨f1, f2, f3, f4, f5, f6⟩, hzv, hbf, T, U⟩ := three_res (hR3.ext x12) (hR4.ext x12) (hR5.ext x12) (show w.heap.size + 1 + 1 + 1 ≠ w.heap.size + 1 + 1 by omega) (show w.heap.size + 1 + 1 + 1 + 1 ≠ w.heap.size + 1 + 1 by omega) (show w.heap.size + 1 + 1 + 1 + 1 ≠ w.heap.size + 1 + 1 + 1 by omega) false none 0 0 false none 0 0 false none 0 0 (hb0.trans x12) (by omega) (by omega) (by omega)
  obtain ⟨_, _, _, _, g30, g31, g32, g33⟩ := ((hR3.ext x12)).facts
  obtain ⟨_, _, _, _, g40, g41, g42, g43⟩ := T.facts
  obtain ⟨_, _, _, _, g50, g51, g52, g53⟩ := U.facts
  have HG := Lib.hid (And.intro (zv_zero' W') (And.intro hbf (And.intro f1 (And.intro f2 (And.intro f3 (And.intro f4 (And.intro f5 f6)))))))
  have HW' := Lib.hid hW'
  clear hbf f1 f2 f3 f4 f5 f6 hW' T U hzv hH1 hH2 hR3 hR4 hR5 hb0 x1 x2 x12
  go_wp2
  rw [← HW'.out]
  obtain ⟨hz, hbf, f1, f2, f3, f4, f5, f6⟩ := HG.out
  exact bodyPost_ret (v := .tuple #[.agg #[.bool false, .slice none 0 0], .agg #[.bool false, .slice none 0 0], .agg #[.bool false, .slice none 0 0], .int .i64 2]) (by simp [results, Try.results33, go_sem, f1, f2, f3, f4, f5, f6]) rfl ⟨_, _, _, _, _, _, _, _, _, _, _, _, rfl, hz, hz, hz, hbf⟩
set_option maxHeartbeats 800000 in
set_option maxRecDepth 100000 in
theorem refExt_zero (p q : Bool) (A A' : Option Addr) (n c n' c' : Nat) (l l' : List Nat) (w : World) (hx : Wd w (.slice A n c) l) (hy : Wd w (.slice A' n' c') l') (hp : vld p l = true) (hq : vld q l' = true) (h0 : numOf q l' = 0) :
    Calls Try.prog 33 #[.agg #[.bool p, .slice A n c], .agg #[.bool q, .slice A' n' c']] w (RetExt w ((numOf p l).natAbs : Int) (numOf p l).sign 0 0) := by
  obtain ⟨W0, hW0, hH1, hH2, hR3, hR4, hR5, hb0, z0⟩ := five_ext 24 w p q A A' n c n' c' l l' hx hy
  have zx := vld_zv hx hp
  have zy := vld_zv hy hq
  have lx : (dig (numOf p l).natAbs).length ≤ 256 := by rw [vld_dig hx.ok hp]; exact vld_len hp
  have ly : (dig (numOf q l').natAbs).length ≤ 256 := by rw [vld_dig hy.ok hq]; exact vld_len hq
  obtain ⟨r, hr⟩ : ∃ r, r = numOf p l := ⟨_, rfl⟩
  obtain ⟨t, ht⟩ : ∃ t, t = numOf q l' := ⟨_, rfl⟩
  rw [← hr] at zx lx ⊢
  rw [← ht] at zy ly h0
  try rw [← ht]
  clear hr ht
  have px : HZ W0 w.heap.size r := ⟨p, A, n, c, hH1.c0, hH1.c1, zx.ext hb0⟩
  have py : HZ W0 (w.heap.size + 1) t := ⟨q, A', n', c', hH2.c0, hH2.c1, zy.ext hb0⟩
  have Hya := Lib.hid hp; have Hyb := Lib.hid hq; clear hp hq
  have PX0 := Lib.hid px; clear px
  have PY0 := Lib.hid py; clear py zx zy
  have HLL := Lib.hid (And.intro lx ly); clear lx ly
  have HW0 := Lib.hid hW0; clear hW0
  have HF := Lib.hid (And.intro hH1 (And.intro hH2 (And.intro hR3 (And.intro hR4 (And.intro hR5 (And.intro hb0 z0))))))
  clear hH1 hH2 hR3 hR4 hR5 hb0 z0 hx hy
  go_enter Try.func33, Try.ntmps33
  go_wp2_with fail
  rw [← HW0.out]
  obtain ⟨hH1, hH2, hR3, hR4, hR5, hb0, z0⟩ := HF.out
  clear HF
  have j0 := hH2.c0; have j1 := hH2.c1
  refine (validR_any p A n c l _ hH1.w).mono ?_
  rintro e W1 ⟨rfl, x1⟩
  replace x1 : Ext W0 W1 := x1
  rw [Hya.out]
  have k20 := (hH2.ext x1).c0
  have k21 := (hH2.ext x1).c1
  have VB := Lib.hid (validR_any q A' n' c' l' W1 (hH2.ext x1).w)
  have HFF := Lib.hid (And.intro hH1 (And.intro hH2 (And.intro hR3 (And.intro hR4 (And.intro hR5 (And.intro hb0 (And.intro z0 x1)))))))
  clear hH1 hH2 hR3 hR4 hR5 hb0 z0 x1 j0 j1 HW0
  go_wp2_with fail
  refine VB.out.mono ?_
  rintro e W2 ⟨rfl, x2⟩
  replace x2 : Ext W1 W2 := x2
  obtain ⟨hH1, hH2, hR3, hR4, hR5, hb0, z0, x1⟩ := HFF.out
  clear HFF VB k20 k21
  rw [Hyb.out]
  have x12 := x1.trans x2
  have PX := Lib.hid (PX0.out.ext (by omega) x12)
  have PY := Lib.hid (PY0.out.ext (by omega) x12)
  have R3 := Lib.hid (hR3.ext x12)
  have R4 := Lib.hid (hR4.ext x12)
  have R5 := Lib.hid (hR5.ext x12)
  have E1 := Lib.hid (hb0.trans x12)
  have y1 := x12.size
  clear hH1 hH2 hR3 hR4 hR5 hb0 x1 x2 x12 PX0 PY0
  go_upto_region 3 with fail
  refine wp_region_noPanic ?_
  refine wp_pool 6 [some 25, some 26, some 27, some 28, some 8, some 9] [] [4, 5] [(fun (v : Value) (X : World) => ∃ b A n c, v = .agg #[.bool b, .slice A n c] ∧ ZV X (.agg #[.bool b, .slice A n c]) (r)), (fun (v : Value) (X : World) => ∃ b A n c, v = .agg #[.bool b, .slice A n c] ∧ ZV X (.agg #[.bool b, .slice A n c]) (r)), (fun (v : Value) (X : World) => ∃ b A n c, v = .agg #[.bool b, .slice A n c] ∧ ZV X (.agg #[.bool b, .slice A n c]) (t)), (fun (v : Value) (X : World) => ∃ b A n c, v = .agg #[.bool b, .slice A n c] ∧ ZV X (.agg #[.bool b, .slice A n c]) (t)), (fun (v : Value) (X : World) => ∃ g, v = .pointer (some ⟨g, 0, none⟩) ∧ W2.heap.size ≤ g ∧ RB X g), (fun (v : Value) (X : World) => ∃ g, v = .pointer (some ⟨g, 0, none⟩) ∧ W2.heap.size ≤ g ∧ RB X g)] [noF, noF, noF, noF, ptrF, ptrF] (by kernel_rfl) (by kernel_rfl) (by kernel_rfl) (by kernel_rfl) (by kernel_rfl) (by kernel_rfl) (by kernel_rfl) (by kernel_rfl) (fun _ _ _ _ h => h) ⟨(fun _ _ _ e ⟨b, A, n, c, h1, h2⟩ => ⟨b, A, n, c, h1, h2.ext e⟩), (fun _ _ _ e ⟨b, A, n, c, h1, h2⟩ => ⟨b, A, n, c, h1, h2.ext e⟩), (fun _ _ _ e ⟨b, A, n, c, h1, h2⟩ => ⟨b, A, n, c, h1, h2.ext e⟩), (fun _ _ _ e ⟨b, A, n, c, h1, h2⟩ => ⟨b, A, n, c, h1, h2.ext e⟩), (fun _ _ _ e ⟨g, h1, h2, h3⟩ => ⟨g, h1, h2, h3.ext e⟩), (fun _ _ _ e ⟨g, h1, h2, h3⟩ => ⟨g, h1, h2, h3.ext e⟩), True.intro⟩ ?steps ?done
  case steps =>
    simp only [List.take_succ_cons, List.take_zero]
    refine Steps.cons (fun (v : Value) (X : World) => ∃ b A n c, v = .agg #[.bool b, .slice A n c] ∧ ZV X (.agg #[.bool b, .slice A n c]) (r)) [] rfl (by kernel_rfl) rfl (by kernel_rfl) (fun y X ex0 hf K hK => ?_) ?_
    · clear hf
      have ex := (Ext.drw (Ext.refl _)).trans ex0
      refine Box.mk ?_
      simp only [fill, Act.put, Nat.reduceAdd, List.setIfInBounds_toArray, List.set_cons_zero, List.set_cons_succ] at hK ⊢
      obtain ⟨bl, Al, nl, cl, k0, k1, kz⟩ := (PX.out.ext (by omega) ex)
      go_simp
      exact hK.out _ _ ⟨_, _, _, _, rfl, kz⟩ (Ext.refl _) (fun b hb => by cases hb)
    refine Steps.cons (fun (v : Value) (X : World) => ∃ b A n c, v = .agg #[.bool b, .slice A n c] ∧ ZV X (.agg #[.bool b, .slice A n c]) (r)) [0] rfl (by kernel_rfl) rfl (by kernel_rfl) (fun y X ex0 hf K hK => ?_) ?_
    · have hh0 : ((fun (v : Value) (X : World) => ∃ b A n c, v = .agg #[.bool b, .slice A n c] ∧ ZV X (.agg #[.bool b, .slice A n c]) (r))) (y 0) X := hf.1
      refine Exists.elim hh0 (fun b0 hx0_0 => ?_)
      refine Exists.elim hx0_0 (fun A0 hx0_1 => ?_)
      refine Exists.elim hx0_1 (fun n0 hx0_2 => ?_)
      refine Exists.elim hx0_2 (fun c0 hx0_3 => ?_)
      have h0 := hx0_3.1
      have z0 := hx0_3.2
      clear hh0 hx0_0 hx0_1 hx0_2 hx0_3
      clear hf
      have ex := (Ext.drw (Ext.refl _)).trans ex0
      refine Box.mk ?_
      simp only [fill, Act.put, Nat.reduceAdd, List.setIfInBounds_toArray, List.set_cons_zero, List.set_cons_succ, h0] at hK ⊢
      go_simp
      refine (asAgg ((of_any _ _ _ _ _).mono fun e w' ⟨he, hb⟩ => ⟨_, he, (z0).ext hb, hb⟩)).mono ?_
      rintro e V ⟨b9, A9, n9, c9, rfl, hz, hb⟩
      try go_wp2_with fail
      exact hK.out _ _ ⟨_, _, _, _, rfl, hz⟩ hb (fun b hb => by cases hb)
    refine Steps.cons (fun (v : Value) (X : World) => ∃ b A n c, v = .agg #[.bool b, .slice A n c] ∧ ZV X (.agg #[.bool b, .slice A n c]) (t)) [] rfl (by kernel_rfl) rfl (by kernel_rfl) (fun y X ex0 hf K hK => ?_) ?_
    · clear hf
      have ex := (Ext.drw (Ext.refl _)).trans ex0
      refine Box.mk ?_
      simp only [fill, Act.put, Nat.reduceAdd, List.setIfInBounds_toArray, List.set_cons_zero, List.set_cons_succ] at hK ⊢
      obtain ⟨bl, Al, nl, cl, k0, k1, kz⟩ := (PY.out.ext (by omega) ex)
      go_simp
      exact hK.out _ _ ⟨_, _, _, _, rfl, kz⟩ (Ext.refl _) (fun b hb => by cases hb)
    refine Steps.cons (fun (v : Value) (X : World) => ∃ b A n c, v = .agg #[.bool b, .slice A n c] ∧ ZV X (.agg #[.bool b, .slice A n c]) (t)) [2, 1] rfl (by kernel_rfl) rfl (by kernel_rfl) (fun y X ex0 hf K hK => ?_) ?_
    · have hh2 : ((fun (v : Value) (X : World) => ∃ b A n c, v = .agg #[.bool b, .slice A n c] ∧ ZV X (.agg #[.bool b, .slice A n c]) (t))) (y 2) X := hf.1
      refine Exists.elim hh2 (fun b2 hx2_0 => ?_)
      refine Exists.elim hx2_0 (fun A2 hx2_1 => ?_)
      refine Exists.elim hx2_1 (fun n2 hx2_2 => ?_)
      refine Exists.elim hx2_2 (fun c2 hx2_3 => ?_)
      have h2 := hx2_3.1
      have z2 := hx2_3.2
      clear hh2 hx2_0 hx2_1 hx2_2 hx2_3
      have hh1 : ((fun (v : Value) (X : World) => ∃ b A n c, v = .agg #[.bool b, .slice A n c] ∧ ZV X (.agg #[.bool b, .slice A n c]) (r))) (y 1) X := hf.2.1
      refine Exists.elim hh1 (fun b1 hx1_0 => ?_)
      refine Exists.elim hx1_0 (fun A1 hx1_1 => ?_)
      refine Exists.elim hx1_1 (fun n1 hx1_2 => ?_)
      refine Exists.elim hx1_2 (fun c1 hx1_3 => ?_)
      have h1 := hx1_3.1
      have z1 := hx1_3.2
      clear hh1 hx1_0 hx1_1 hx1_2 hx1_3
      clear hf
      have ex := (Ext.drw (Ext.refl _)).trans ex0
      refine Box.mk ?_
      simp only [fill, Act.put, Nat.reduceAdd, List.setIfInBounds_toArray, List.set_cons_zero, List.set_cons_succ, h2, h1] at hK ⊢
      go_simp
      refine (asAgg ((of_any _ _ _ _ _).mono fun e w' ⟨he, hb⟩ => ⟨_, he, (z2).ext hb, hb⟩)).mono ?_
      rintro e V ⟨b9, A9, n9, c9, rfl, hz, hb⟩
      try go_wp2_with fail
      exact hK.out _ _ ⟨_, _, _, _, rfl, hz⟩ hb (fun b hb => by cases hb)
    refine Steps.cons (fun (v : Value) (X : World) => ∃ g, v = .pointer (some ⟨g, 0, none⟩) ∧ W2.heap.size ≤ g ∧ RB X g) [] rfl (by kernel_rfl) rfl (by kernel_rfl) (fun y X ex0 hf K hK => ?_) ?_
    · clear hf
      have ex := (Ext.drw (Ext.refl _)).trans ex0
      refine Box.mk ?_
      simp only [fill, Act.put, Nat.reduceAdd, List.setIfInBounds_toArray, List.set_cons_zero, List.set_cons_succ] at hK ⊢
      go_simp
      exact hK.out _ _ ⟨X.heap.size, rfl, ex.size, RB.c1 X false none 0 0 34⟩ (Ext.alc (Ext.refl X) (.cells #[.bool false, .slice none 0 0] 34)) (New.ptr (Nat.le_refl _) (by simp))
    refine Steps.cons (fun (v : Value) (X : World) => ∃ g, v = .pointer (some ⟨g, 0, none⟩) ∧ W2.heap.size ≤ g ∧ RB X g) [] rfl (by kernel_rfl) rfl (by kernel_rfl) (fun y X ex0 hf K hK => ?_) ?_
    · clear hf
      have ex := (Ext.drw (Ext.refl _)).trans ex0
      refine Box.mk ?_
      simp only [fill, Act.put, Nat.reduceAdd, List.setIfInBounds_toArray, List.set_cons_zero, List.set_cons_succ] at hK ⊢
      go_simp
      exact hK.out _ _ ⟨X.heap.size, rfl, ex.size, RB.c1 X false none 0 0 34⟩ (Ext.alc (Ext.refl X) (.cells #[.bool false, .slice none 0 0] 34)) (New.ptr (Nat.le_refl _) (by simp))
    exact Steps.nil
  case done =>
    intro y X ex hf hlt hsep
    have hh0 : ((fun (v : Value) (X : World) => ∃ b A n c, v = .agg #[.bool b, .slice A n c] ∧ ZV X (.agg #[.bool b, .slice A n c]) (r))) (y 0) X := hf.1
    refine Exists.elim hh0 (fun b0 hx0_0 => ?_)
    refine Exists.elim hx0_0 (fun A0 hx0_1 => ?_)
    refine Exists.elim hx0_1 (fun n0 hx0_2 => ?_)
    refine Exists.elim hx0_2 (fun c0 hx0_3 => ?_)
    have h0 := hx0_3.1
    have z0 := hx0_3.2
    clear hh0 hx0_0 hx0_1 hx0_2 hx0_3
    have hh1 : ((fun (v : Value) (X : World) => ∃ b A n c, v = .agg #[.bool b, .slice A n c] ∧ ZV X (.agg #[.bool b, .slice A n c]) (r))) (y 1) X := hf.2.1
    refine Exists.elim hh1 (fun b1 hx1_0 => ?_)
    refine Exists.elim hx1_0 (fun A1 hx1_1 => ?_)
    refine Exists.elim hx1_1 (fun n1 hx1_2 => ?_)
    refine Exists.elim hx1_2 (fun c1 hx1_3 => ?_)
    have h1 := hx1_3.1
    have z1 := hx1_3.2
    clear hh1 hx1_0 hx1_1 hx1_2 hx1_3
    have hh2 : ((fun (v : Value) (X : World) => ∃ b A n c, v = .agg #[.bool b, .slice A n c] ∧ ZV X (.agg #[.bool b, .slice A n c]) (t))) (y 2) X := hf.2.2.1
    refine Exists.elim hh2 (fun b2 hx2_0 => ?_)
    refine Exists.elim hx2_0 (fun A2 hx2_1 => ?_)
    refine Exists.elim hx2_1 (fun n2 hx2_2 => ?_)
    refine Exists.elim hx2_2 (fun c2 hx2_3 => ?_)
    have h2 := hx2_3.1
    have z2 := hx2_3.2
    clear hh2 hx2_0 hx2_1 hx2_2 hx2_3
    have hh3 : ((fun (v : Value) (X : World) => ∃ b A n c, v = .agg #[.bool b, .slice A n c] ∧ ZV X (.agg #[.bool b, .slice A n c]) (t))) (y 3) X := hf.2.2.2.1
    refine Exists.elim hh3 (fun b3 hx3_0 => ?_)
    refine Exists.elim hx3_0 (fun A3 hx3_1 => ?_)
    refine Exists.elim hx3_1 (fun n3 hx3_2 => ?_)
    refine Exists.elim hx3_2 (fun c3 hx3_3 => ?_)
    have h3 := hx3_3.1
    have z3 := hx3_3.2
    clear hh3 hx3_0 hx3_1 hx3_2 hx3_3
    have hh4 : ((fun (v : Value) (X : World) => ∃ g, v = .pointer (some ⟨g, 0, none⟩) ∧ W2.heap.size ≤ g ∧ RB X g)) (y 4) X := hf.2.2.2.2.1
    refine Exists.elim hh4 (fun g4 hx4_0 => ?_)
    have h4 := hx4_0.1
    have z4 := hx4_0.2.1
    have q4 := hx4_0.2.2
    clear hh4 hx4_0
    have hh5 : ((fun (v : Value) (X : World) => ∃ g, v = .pointer (some ⟨g, 0, none⟩) ∧ W2.heap.size ≤ g ∧ RB X g)) (y 5) X := hf.2.2.2.2.2.1
    refine Exists.elim hh5 (fun g5 hx5_0 => ?_)
    have h5 := hx5_0.1
    have z5 := hx5_0.2.1
    have q5 := hx5_0.2.2
    clear hh5 hx5_0
    clear hf
    have n4_5 : g4 ≠ g5 := sep_ne (hsep 4 5 (by decide) (by decide) (by decide) (by decide)) h4 h5
    clear hsep hlt
    refine Box.mk ?_
    simp only [List.drop_succ_cons, List.drop_zero, fill, Act.put, Nat.reduceAdd, List.setIfInBounds_toArray, List.set_cons_zero, List.set_cons_succ, h0, h1, h2, h3, h4, h5]
    clear h0 h1 h2 h3 h4 h5
    have y3 := R3.out.ext ex
    have y4 := R4.out.ext ex
    have y5 := R5.out.ext ex
    have l3 := y3.lt
    have l4 := y4.lt
    have l5 := y5.lt
    obtain ⟨W', hW', m1, m2, m3, m4, m5, m6, -, -, -⟩ := two_putH q4 q5 (Ne.symm n4_5) b1 A1 n1 c1 b3 A3 n3 c3 z1 z3 (Ext.below (E1.out.trans ex)) (by omega) (by omega)
    have r3 := m6 _ y3 (by omega) (by omega)
    have r4 := m6 _ y4 (by omega) (by omega)
    have r5 := m6 _ y5 (by omega) (by omega)
    obtain ⟨_, _, _, _, g30, g31, g32, g33⟩ := q4.facts
    have T := q5.far q4 (Ne.symm n4_5) (.bool b1) (.slice A1 n1 c1)
    obtain ⟨_, _, _, _, g50, g51, g52, g53⟩ := T.facts
    have HM := Lib.hid (And.intro m1 (And.intro m2 (And.intro r3 (And.intro r4 (And.intro r5 m5)))))
    have HW' := Lib.hid hW'
    clear hW' m1 m2 m3 m4 m5 m6 r3 r4 r5 T y3 y4 y5 ex z0 z1 z2 z3 l3 l4 l5 R3 R4 R5 PX PY q4 q5 n4_5
    go_wp2_with fail
    refine NoPanic.normal ?_
    go_upto_region 4 with fail
    rw [← HW'.out]
    clear g30 g31 g32 g33 g50 g51 g52 g53 HW'
    have lx4 := HM.out.1.lt
    have ly4 := HM.out.2.1.lt
    obtain ⟨b8, A8, n8, c8, k0, k1, kz⟩ := HM.out.1
    obtain ⟨b9, A9, n9, c9, j0, j1, jz⟩ := HM.out.2.1
    have HC := Lib.hid (commonR_any r t _ _ _ kz jz (by have := HLL.out; omega) (by have := HLL.out; omega))
    clear kz jz
    obtain ⟨g, hg⟩ : ∃ g : Int, g = ((Int.gcd r t : Nat) : Int) := ⟨_, rfl⟩
    rw [← hg] at HC
    go_wp2_with fail
    refine (asAgg HC.out).mono ?_
    rintro e w3 ⟨b10, A10, n10, c10, rfl, hz, x3⟩
    replace x3 : Ext W' w3 := x3
    have HZ3 := Lib.hid hz; have X3 := Lib.hid x3
    clear hz x3 k0 k1 j0 j1 HC
    go_upto_region 5 with fail
    obtain ⟨W3, hW3⟩ : ∃ W3, W3 = w3.alloc (Obj.cells #[.bool b10, .slice A10 n10 c10] 34) := ⟨_, rfl⟩
    have e3 : Ext W' W3 := by rw [hW3]; exact X3.out.alc _
    have i10 : HZ W3 w3.heap.size g := by rw [hW3]; exact HZ.lit w3 b10 A10 n10 c10 34 HZ3.out
    rw [← hW3]
    obtain ⟨g10, hg10⟩ : ∃ k, k = w3.heap.size := ⟨_, rfl⟩
    rw [← hg10] at i10 ⊢
    have H8 := Lib.hid (HM.out.1.ext lx4 e3)
    have H9 := Lib.hid (HM.out.2.1.ext ly4 e3)
    have H10 := Lib.hid i10
    have R3 := Lib.hid (HM.out.2.2.1.ext e3)
    have R4 := Lib.hid (HM.out.2.2.2.1.ext e3)
    have R5 := Lib.hid (HM.out.2.2.2.2.1.ext e3)
    have E3 : Hid (Ext w W3) := Lib.hid (Ext.trans HM.out.2.2.2.2.2 e3)
    have lx5 : g4 < W3.heap.size := H8.out.lt
    have ly5 : g5 < W3.heap.size := H9.out.lt
    have lg5 : g10 < W3.heap.size := H10.out.lt
    have l30 := R3.out.lt
    have l40 := R4.out.lt
    have l50 := R5.out.lt
    have HG := Lib.hid hg
    clear e3 i10 hW3 hg10 HM HZ3 X3 lx4 ly4 hg
    obtain ⟨b9, A9, n9, c9, j0, j1, jz⟩ := H9.out
    have JZ := Lib.hid jz; clear jz
    go_wp2_with fail
    refine (zeroR_any t _ _ JZ.out).mono ?_
    rintro e W4 ⟨rfl, x4⟩
    replace x4 : Ext W3 W4 := x4
    have H8 := Lib.hid (H8.out.ext lx5 x4)
    have H9 := Lib.hid (H9.out.ext ly5 x4)
    have H10 := Lib.hid (H10.out.ext lg5 x4)
    have R3 := Lib.hid (R3.out.ext x4)
    have R4 := Lib.hid (R4.out.ext x4)
    have R5 := Lib.hid (R5.out.ext x4)
    have E4 : Hid (Ext w W4) := Lib.hid (E3.out.trans x4)
    have lx5 : g4 < W4.heap.size := H8.out.lt
    have ly5 : g5 < W4.heap.size := H9.out.lt
    have lg5 : g10 < W4.heap.size := H10.out.lt
    have l30 := R3.out.lt
    have l40 := R4.out.lt
    have l50 := R5.out.lt
    have lgL : (dig g.natAbs).length ≤ 256 := by rw [HG.out]; exact gcd_len HLL.out.1 HLL.out.2
    clear x4 JZ j0 j1
    subst h0
    rw [show decide ((0 : Int) = 0) = true from rfl]
    have hs1 := sign_bd r
    have hgr : g = (r.natAbs : Int) := by rw [HG.out, Int.gcd_zero_right]
    go_upto_region 6 with fail
    refine wp_region_noPanic ?_
    refine wp_pool 7 [some 34, some 35, some 36, some 37, some 38, some 39, some 40] [(6, 0)] [] [(fun (v : Value) (X : World) => ∃ b A n c, v = .agg #[.bool b, .slice A n c] ∧ ZV X (.agg #[.bool b, .slice A n c]) (g)), (fun (v : Value) (X : World) => ∃ b A n c, v = .agg #[.bool b, .slice A n c] ∧ ZV X (.agg #[.bool b, .slice A n c]) (g)), (fun (v : Value) (X : World) => ∃ b A n c, v = .agg #[.bool b, .slice A n c] ∧ ZV X (.agg #[.bool b, .slice A n c]) (r)), (fun (v : Value) (_ : World) => v = .int .i64 r.sign), (fun (v : Value) (X : World) => ∃ b A n c, v = .agg #[.bool b, .slice A n c] ∧ ZV X (.agg #[.bool b, .slice A n c]) (r.sign)), (fun (v : Value) (X : World) => ∃ b A n c, v = .agg #[.bool b, .slice A n c] ∧ ZV X (.agg #[.bool b, .slice A n c]) (r.sign)), (fun (v : Value) (_ : World) => v = .agg #[.bool false, .slice none 0 0])] [noF, noF, noF, noF, noF, noF, noF] (by kernel_rfl) (by kernel_rfl) (by kernel_rfl) (by kernel_rfl) (by kernel_rfl) (by kernel_rfl) (by kernel_rfl) (by kernel_rfl) (fun _ _ _ _ h => h) ⟨(fun _ _ _ e ⟨b, A, n, c, h1, h2⟩ => ⟨b, A, n, c, h1, h2.ext e⟩), (fun _ _ _ e ⟨b, A, n, c, h1, h2⟩ => ⟨b, A, n, c, h1, h2.ext e⟩), (fun _ _ _ e ⟨b, A, n, c, h1, h2⟩ => ⟨b, A, n, c, h1, h2.ext e⟩), Stays.pure _, (fun _ _ _ e ⟨b, A, n, c, h1, h2⟩ => ⟨b, A, n, c, h1, h2.ext e⟩), (fun _ _ _ e ⟨b, A, n, c, h1, h2⟩ => ⟨b, A, n, c, h1, h2.ext e⟩), Stays.pure _, True.intro⟩ ?steps ?done
    case steps =>
      simp only [List.take_succ_cons, List.take_zero]
      refine Steps.cons (fun (v : Value) (X : World) => ∃ b A n c, v = .agg #[.bool b, .slice A n c] ∧ ZV X (.agg #[.bool b, .slice A n c]) (g)) [] rfl (by kernel_rfl) rfl (by kernel_rfl) (fun y X ex0 hf K hK => ?_) ?_
      · clear hf
        have ex := (Ext.drw (Ext.refl _)).trans ex0
        refine Box.mk ?_
        simp only [fill, Act.put, Nat.reduceAdd, List.setIfInBounds_toArray, List.set_cons_zero, List.set_cons_succ] at hK ⊢
        obtain ⟨bl, Al, nl, cl, k0, k1, kz⟩ := (H10.out.ext (by omega) ex)
        go_simp
        exact hK.out _ _ ⟨_, _, _, _, rfl, kz⟩ (Ext.refl _) (fun b hb => by cases hb)
      refine Steps.cons (fun (v : Value) (X : World) => ∃ b A n c, v = .agg #[.bool b, .slice A n c] ∧ ZV X (.agg #[.bool b, .slice A n c]) (g)) [0] rfl (by kernel_rfl) rfl (by kernel_rfl) (fun y X ex0 hf K hK => ?_) ?_
      · have hh0 : ((fun (v : Value) (X : World) => ∃ b A n c, v = .agg #[.bool b, .slice A n c] ∧ ZV X (.agg #[.bool b, .slice A n c]) (g))) (y 0) X := hf.1
        refine Exists.elim hh0 (fun b0 hx0_0 => ?_)
        refine Exists.elim hx0_0 (fun A0 hx0_1 => ?_)
        refine Exists.elim hx0_1 (fun n0 hx0_2 => ?_)
        refine Exists.elim hx0_2 (fun c0 hx0_3 => ?_)
        have h0 := hx0_3.1
        have z0 := hx0_3.2
        clear hh0 hx0_0 hx0_1 hx0_2 hx0_3
        clear hf
        have ex := (Ext.drw (Ext.refl _)).trans ex0
        refine Box.mk ?_
        simp only [fill, Act.put, Nat.reduceAdd, List.setIfInBounds_toArray, List.set_cons_zero, List.set_cons_succ, h0] at hK ⊢
        go_simp
        refine (asAgg ((int_any _ _ _ _ _).mono fun e w' ⟨he, hb⟩ => ⟨_, he, (z0).ext hb, hb⟩)).mono ?_
        rintro e V ⟨b9, A9, n9, c9, rfl, hz, hb⟩
        try go_wp2_with fail
        exact hK.out _ _ ⟨_, _, _, _, rfl, hz⟩ hb (fun b hb => by cases hb)
      refine Steps.cons (fun (v : Value) (X : World) => ∃ b A n c, v = .agg #[.bool b, .slice A n c] ∧ ZV X (.agg #[.bool b, .slice A n c]) (r)) [] rfl (by kernel_rfl) rfl (by kernel_rfl) (fun y X ex0 hf K hK => ?_) ?_
      · clear hf
        have ex := (Ext.drw (Ext.refl _)).trans ex0
        refine Box.mk ?_
        simp only [fill, Act.put, Nat.reduceAdd, List.setIfInBounds_toArray, List.set_cons_zero, List.set_cons_succ] at hK ⊢
        obtain ⟨bl, Al, nl, cl, k0, k1, kz⟩ := (H8.out.ext (by omega) ex)
        go_simp
        exact hK.out _ _ ⟨_, _, _, _, rfl, kz⟩ (Ext.refl _) (fun b hb => by cases hb)
      refine Steps.cons (fun (v : Value) (_ : World) => v = .int .i64 r.sign) [2, 1] rfl (by kernel_rfl) rfl (by kernel_rfl) (fun y X ex0 hf K hK => ?_) ?_
      · have hh2 : ((fun (v : Value) (X : World) => ∃ b A n c, v = .agg #[.bool b, .slice A n c] ∧ ZV X (.agg #[.bool b, .slice A n c]) (r))) (y 2) X := hf.1
        refine Exists.elim hh2 (fun b2 hx2_0 => ?_)
        refine Exists.elim hx2_0 (fun A2 hx2_1 => ?_)
        refine Exists.elim hx2_1 (fun n2 hx2_2 => ?_)
        refine Exists.elim hx2_2 (fun c2 hx2_3 => ?_)
        have h2 := hx2_3.1
        have z2 := hx2_3.2
        clear hh2 hx2_0 hx2_1 hx2_2 hx2_3
        have hh1 : ((fun (v : Value) (X : World) => ∃ b A n c, v = .agg #[.bool b, .slice A n c] ∧ ZV X (.agg #[.bool b, .slice A n c]) (g))) (y 1) X := hf.2.1
        refine Exists.elim hh1 (fun b1 hx1_0 => ?_)
        refine Exists.elim hx1_0 (fun A1 hx1_1 => ?_)
        refine Exists.elim hx1_1 (fun n1 hx1_2 => ?_)
        refine Exists.elim hx1_2 (fun c1 hx1_3 => ?_)
        have h1 := hx1_3.1
        have z1 := hx1_3.2
        clear hh1 hx1_0 hx1_1 hx1_2 hx1_3
        clear hf
        have ex := (Ext.drw (Ext.refl _)).trans ex0
        refine Box.mk ?_
        simp only [fill, Act.put, Nat.reduceAdd, List.setIfInBounds_toArray, List.set_cons_zero, List.set_cons_succ, h2, h1] at hK ⊢
        go_simp
        refine (signR_any r _ _ z2).mono ?_
        rintro e V ⟨rfl, hb⟩
        try go_wp2_with fail
        exact hK.out _ _ rfl hb (fun b hb => by cases hb)
      refine Steps.cons (fun (v : Value) (X : World) => ∃ b A n c, v = .agg #[.bool b, .slice A n c] ∧ ZV X (.agg #[.bool b, .slice A n c]) (r.sign)) [3] rfl (by kernel_rfl) rfl (by kernel_rfl) (fun y X ex0 hf K hK => ?_) ?_
      · have h3 : ((fun (v : Value) (_ : World) => v = .int .i64 r.sign)) (y 3) X := hf.1
        clear hf
        have ex := (Ext.drw (Ext.refl _)).trans ex0
        refine Box.mk ?_
        simp only [fill, Act.put, Nat.reduceAdd, List.setIfInBounds_toArray, List.set_cons_zero, List.set_cons_succ, h3] at hK ⊢
        go_simp
        refine (asAgg (wholeR_any r.sign _ (by omega) (by omega))).mono ?_
        rintro e V ⟨b9, A9, n9, c9, rfl, hz, hb⟩
        try go_wp2_with fail
        exact hK.out _ _ ⟨_, _, _, _, rfl, hz⟩ hb (fun b hb => by cases hb)
      refine Steps.cons (fun (v : Value) (X : World) => ∃ b A n c, v = .agg #[.bool b, .slice A n c] ∧ ZV X (.agg #[.bool b, .slice A n c]) (r.sign)) [4] rfl (by kernel_rfl) rfl (by kernel_rfl) (fun y X ex0 hf K hK => ?_) ?_
      · have hh4 : ((fun (v : Value) (X : World) => ∃ b A n c, v = .agg #[.bool b, .slice A n c] ∧ ZV X (.agg #[.bool b, .slice A n c]) (r.sign))) (y 4) X := hf.1
        refine Exists.elim hh4 (fun b4 hx4_0 => ?_)
        refine Exists.elim hx4_0 (fun A4 hx4_1 => ?_)
        refine Exists.elim hx4_1 (fun n4 hx4_2 => ?_)
        refine Exists.elim hx4_2 (fun c4 hx4_3 => ?_)
        have h4 := hx4_3.1
        have z4 := hx4_3.2
        clear hh4 hx4_0 hx4_1 hx4_2 hx4_3
        clear hf
        have ex := (Ext.drw (Ext.refl _)).trans ex0
        refine Box.mk ?_
        simp only [fill, Act.put, Nat.reduceAdd, List.setIfInBounds_toArray, List.set_cons_zero, List.set_cons_succ, h4] at hK ⊢
        go_simp
        refine (asAgg ((int_any _ _ _ _ _).mono fun e w' ⟨he, hb⟩ => ⟨_, he, (z4).ext hb, hb⟩)).mono ?_
        rintro e V ⟨b9, A9, n9, c9, rfl, hz, hb⟩
        try go_wp2_with fail
        exact hK.out _ _ ⟨_, _, _, _, rfl, hz⟩ hb (fun b hb => by cases hb)
      refine Steps.flw (fun (v : Value) (_ : World) => v = .agg #[.bool false, .slice none 0 0]) [] rfl (by kernel_rfl) (by kernel_rfl) (fun _ => rfl) (fun y X ex0 hf => ?_) ?_
      · clear hf
        simp only [fill, Act.put, Nat.reduceAdd, List.setIfInBounds_toArray, List.set_cons_zero, List.set_cons_succ]
        exact ⟨_, ⟨by rfl, fun w => by go_simp⟩, rfl⟩
      exact Steps.nil
    case done =>
      intro y X ex hf hlt hsep
      have hh0 : ((fun (v : Value) (X : World) => ∃ b A n c, v = .agg #[.bool b, .slice A n c] ∧ ZV X (.agg #[.bool b, .slice A n c]) (g))) (y 0) X := hf.1
      refine Exists.elim hh0 (fun b0 hx0_0 => ?_)
      refine Exists.elim hx0_0 (fun A0 hx0_1 => ?_)
      refine Exists.elim hx0_1 (fun n0 hx0_2 => ?_)
      refine Exists.elim hx0_2 (fun c0 hx0_3 => ?_)
      have h0 := hx0_3.1
      have z0 := hx0_3.2
      clear hh0 hx0_0 hx0_1 hx0_2 hx0_3
      have hh1 : ((fun (v : Value) (X : World) => ∃ b A n c, v = .agg #[.bool b, .slice A n c] ∧ ZV X (.agg #[.bool b, .slice A n c]) (g))) (y 1) X := hf.2.1
      refine Exists.elim hh1 (fun b1 hx1_0 => ?_)
      refine Exists.elim hx1_0 (fun A1 hx1_1 => ?_)
      refine Exists.elim hx1_1 (fun n1 hx1_2 => ?_)
      refine Exists.elim hx1_2 (fun c1 hx1_3 => ?_)
      have h1 := hx1_3.1
      have z1 := hx1_3.2
      clear hh1 hx1_0 hx1_1 hx1_2 hx1_3
      have hh2 : ((fun (v : Value) (X : World) => ∃ b A n c, v = .agg #[.bool b, .slice A n c] ∧ ZV X (.agg #[.bool b, .slice A n c]) (r))) (y 2) X := hf.2.2.1
      refine Exists.elim hh2 (fun b2 hx2_0 => ?_)
      refine Exists.elim hx2_0 (fun A2 hx2_1 => ?_)
      refine Exists.elim hx2_1 (fun n2 hx2_2 => ?_)
      refine Exists.elim hx2_2 (fun c2 hx2_3 => ?_)
      have h2 := hx2_3.1
      have z2 := hx2_3.2
      clear hh2 hx2_0 hx2_1 hx2_2 hx2_3
      have h3 : ((fun (v : Value) (_ : World) => v = .int .i64 r.sign)) (y 3) X := hf.2.2.2.1
      have hh4 : ((fun (v : Value) (X : World) => ∃ b A n c, v = .agg #[.bool b, .slice A n c] ∧ ZV X (.agg #[.bool b, .slice A n c]) (r.sign))) (y 4) X := hf.2.2.2.2.1
      refine Exists.elim hh4 (fun b4 hx4_0 => ?_)
      refine Exists.elim hx4_0 (fun A4 hx4_1 => ?_)
      refine Exists.elim hx4_1 (fun n4 hx4_2 => ?_)
      refine Exists.elim hx4_2 (fun c4 hx4_3 => ?_)
      have h4 := hx4_3.1
      have z4 := hx4_3.2
      clear hh4 hx4_0 hx4_1 hx4_2 hx4_3
      have hh5 : ((fun (v : Value) (X : World) => ∃ b A n c, v = .agg #[.bool b, .slice A n c] ∧ ZV X (.agg #[.bool b, .slice A n c]) (r.sign))) (y 5) X := hf.2.2.2.2.2.1
      refine Exists.elim hh5 (fun b5 hx5_0 => ?_)
      refine Exists.elim hx5_0 (fun A5 hx5_1 => ?_)
      refine Exists.elim hx5_1 (fun n5 hx5_2 => ?_)
      refine Exists.elim hx5_2 (fun c5 hx5_3 => ?_)
      have h5 := hx5_3.1
      have z5 := hx5_3.2
      clear hh5 hx5_0 hx5_1 hx5_2 hx5_3
      have h6 : ((fun (v : Value) (_ : World) => v = .agg #[.bool false, .slice none 0 0])) (y 6) X := hf.2.2.2.2.2.2.1
      clear hf
      clear hsep hlt
      refine Box.mk ?_
      simp only [List.drop_succ_cons, List.drop_zero, fill, Act.put, Nat.reduceAdd, List.setIfInBounds_toArray, List.set_cons_zero, List.set_cons_succ, h0, h1, h2, h3, h4, h5, h6]
      clear h0 h1 h2 h3 h4 h5 h6
      have y3 := R3.out.ext ex
      have y4 := R4.out.ext ex
      have y5 := R5.out.ext ex
      obtain ⟨W', hW', ⟨f1, f2, f3, f4, f5, f6⟩, hzv, hbf, T, U⟩ := three_res y3 y4 y5 (show w.heap.size + 1 + 1 + 1 ≠ w.heap.size + 1 + 1 by omega) (show w.heap.size + 1 + 1 + 1 + 1 ≠ w.heap.size + 1 + 1 by omega) (show w.heap.size + 1 + 1 + 1 + 1 ≠ w.heap.size + 1 + 1 + 1 by omega) b1 A1 n1 c1 b5 A5 n5 c5 false none 0 0 (Ext.below (E4.out.trans ex)) (by omega) (by omega) (by omega)
      obtain ⟨_, _, _, _, g30, g31, g32, g33⟩ := (y3).facts
      obtain ⟨_, _, _, _, g40, g41, g42, g43⟩ := T.facts
      obtain ⟨_, _, _, _, g50, g51, g52, g53⟩ := U.facts
      have HG2 := Lib.hid (And.intro (hzv _ _ z1) (And.intro (hzv _ _ z5) (And.intro (zv_zero' W') (And.intro hbf (And.intro f1 (And.intro f2 (And.intro f3 (And.intro f4 (And.intro f5 f6)))))))))
      have HW' := Lib.hid hW'
      clear hbf f1 f2 f3 f4 f5 f6 hW' T U hzv z0 z1 z2 z4 z5 y3 y4 y5 ex R3 R4 R5 E3 E4 H8 H9 H10
      go_wp2_with fail
      refine NoPanic.normal ?_
      go_wp2
      rw [← HW'.out]
      obtain ⟨hz1, hz2, hz3, hbf, f1, f2, f3, f4, f5, f6⟩ := HG2.out
      rw [hgr] at hz1
      exact bodyPost_ret (v := .tuple #[.agg #[.bool b1, .slice A1 n1 c1], .agg #[.bool b5, .slice A5 n5 c5], .agg #[.bool false, .slice none 0 0], .int .i64 0]) (by simp [results, Try.results33, go_sem, f1, f2, f3, f4, f5, f6]) rfl ⟨_, _, _, _, _, _, _, _, _, _, _, _, rfl, hz1, hz2, hz3, hbf⟩
set_option maxHeartbeats 800000 in
set_option maxRecDepth 100000 in
theorem refExt_yes (p q : Bool) (A A' : Option Addr) (n c n' c' : Nat) (l l' : List Nat) (w : World) (hx : Wd w (.slice A n c) l) (hy : Wd w (.slice A' n' c') l') (hp : vld p l = true) (hq : vld q l' = true) (h0 : numOf q l' ≠ 0) :
    Calls Try.prog 33 #[.agg #[.bool p, .slice A n c], .agg #[.bool q, .slice A' n' c']] w fun e w' => ∃ g x y, IsExt (numOf p l) (numOf q l') g x y ∧ RetExt w g x y 0 e w' := by
  obtain ⟨W0, hW0, hH1, hH2, hR3, hR4, hR5, hb0, z0⟩ := five_ext 24 w p q A A' n c n' c' l l' hx hy
  have zx := vld_zv hx hp
  have zy := vld_zv hy hq
  have lx : (dig (numOf p l).natAbs).length ≤ 256 := by rw [vld_dig hx.ok hp]; exact vld_len hp
  have ly : (dig (numOf q l').natAbs).length ≤ 256 := by rw [vld_dig hy.ok hq]; exact vld_len hq
  obtain ⟨r, hr⟩ : ∃ r, r = numOf p l := ⟨_, rfl⟩
  obtain ⟨t, ht⟩ : ∃ t, t = numOf q l' := ⟨_, rfl⟩
  rw [← hr] at zx lx ⊢
  rw [← ht] at zy ly h0
  try rw [← ht]
  clear hr ht
  have px : HZ W0 w.heap.size r := ⟨p, A, n, c, hH1.c0, hH1.c1, zx.ext hb0⟩
  have py : HZ W0 (w.heap.size + 1) t := ⟨q, A', n', c', hH2.c0, hH2.c1, zy.ext hb0⟩
  have Hya := Lib.hid hp; have Hyb := Lib.hid hq; clear hp hq
  have PX0 := Lib.hid px; clear px
  have PY0 := Lib.hid py; clear py zx zy
  have HLL := Lib.hid (And.intro lx ly); clear lx ly
  have HW0 := Lib.hid hW0; clear hW0
  have HF := Lib.hid (And.intro hH1 (And.intro hH2 (And.intro hR3 (And.intro hR4 (And.intro hR5 (And.intro hb0 z0))))))
  clear hH1 hH2 hR3 hR4 hR5 hb0 z0 hx hy
  go_enter Try.func33, Try.ntmps33
  go_wp2_with fail
  rw [← HW0.out]
  obtain ⟨hH1, hH2, hR3, hR4, hR5, hb0, z0⟩ := HF.out
  clear HF
  have j0 := hH2.c0; have j1 := hH2.c1
  refine (validR_any p A n c l _ hH1.w).mono ?_
  rintro e W1 ⟨rfl, x1⟩
  replace x1 : Ext W0 W1 := x1
  rw [Hya.out]
  have k20 := (hH2.ext x1).c0
  have k21 := (hH2.ext x1).c1
  have VB := Lib.hid (validR_any q A' n' c' l' W1 (hH2.ext x1).w)
  have HFF := Lib.hid (And.intro hH1 (And.intro hH2 (And.intro hR3 (And.intro hR4 (And.intro hR5 (And.intro hb0 (And.intro z0 x1)))))))
  clear hH1 hH2 hR3 hR4 hR5 hb0 z0 x1 j0 j1 HW0
  go_wp2_with fail
  refine VB.out.mono ?_
  rintro e W2 ⟨rfl, x2⟩
  replace x2 : Ext W1 W2 := x2
  obtain ⟨hH1, hH2, hR3, hR4, hR5, hb0, z0, x1⟩ := HFF.out
  clear HFF VB k20 k21
  rw [Hyb.out]
  have x12 := x1.trans x2
  have PX := Lib.hid (PX0.out.ext (by omega) x12)
  have PY := Lib.hid (PY0.out.ext (by omega) x12)
  have R3 := Lib.hid (hR3.ext x12)
  have R4 := Lib.hid (hR4.ext x12)
  have R5 := Lib.hid (hR5.ext x12)
  have E1 := Lib.hid (hb0.trans x12)
  have y1 := x12.size
  clear hH1 hH2 hR3 hR4 hR5 hb0 x1 x2 x12 PX0 PY0
  go_upto_region 3 with fail
  refine wp_region_noPanic ?_
  refine wp_pool 6 [some 25, some 26, some 27, some 28, some 8, some 9] [] [4, 5] [(fun (v : Value) (X : World) => ∃ b A n c, v = .agg #[.bool b, .slice A n c] ∧ ZV X (.agg #[.bool b, .slice A n c]) (r)), (fun (v : Value) (X : World) => ∃ b A n c, v = .agg #[.bool b, .slice A n c] ∧ ZV X (.agg #[.bool b, .slice A n c]) (r)), (fun (v : Value) (X : World) => ∃ b A n c, v = .agg #[.bool b, .slice A n c] ∧ ZV X (.agg #[.bool b, .slice A n c]) (t)), (fun (v : Value) (X : World) => ∃ b A n c, v = .agg #[.bool b, .slice A n c] ∧ ZV X (.agg #[.bool b, .slice A n c]) (t)), (fun (v : Value) (X : World) => ∃ g, v = .pointer (some ⟨g, 0, none⟩) ∧ W2.heap.size ≤ g ∧ RB X g), (fun (v : Value) (X : World) => ∃ g, v = .pointer (some ⟨g, 0, none⟩) ∧ W2.heap.size ≤ g ∧ RB X g)] [noF, noF, noF, noF, ptrF, ptrF] (by kernel_rfl) (by kernel_rfl) (by kernel_rfl) (by kernel_rfl) (by kernel_rfl) (by kernel_rfl) (by kernel_rfl) (by kernel_rfl) (fun _ _ _ _ h => h) ⟨(fun _ _ _ e ⟨b, A, n, c, h1, h2⟩ => ⟨b, A, n, c, h1, h2.ext e⟩), (fun _ _ _ e ⟨b, A, n, c, h1, h2⟩ => ⟨b, A, n, c, h1, h2.ext e⟩), (fun _ _ _ e ⟨b, A, n, c, h1, h2⟩ => ⟨b, A, n, c, h1, h2.ext e⟩), (fun _ _ _ e ⟨b, A, n, c, h1, h2⟩ => ⟨b, A, n, c, h1, h2.ext e⟩), (fun _ _ _ e ⟨g, h1, h2, h3⟩ => ⟨g, h1, h2, h3.ext e⟩), (fun _ _ _ e ⟨g, h1, h2, h3⟩ => ⟨g, h1, h2, h3.ext e⟩), True.intro⟩ ?steps ?done
  case steps =>
    simp only [List.take_succ_cons, List.take_zero]
    refine Steps.cons (fun (v : Value) (X : World) => ∃ b A n c, v = .agg #[.bool b, .slice A n c] ∧ ZV X (.agg #[.bool b, .slice A n c]) (r)) [] rfl (by kernel_rfl) rfl (by kernel_rfl) (fun y X ex0 hf K hK => ?_) ?_
    · clear hf
      have ex := (Ext.drw (Ext.refl _)).trans ex0
      refine Box.mk ?_
      simp only [fill, Act.put, Nat.reduceAdd, List.setIfInBounds_toArray, List.set_cons_zero, List.set_cons_succ] at hK ⊢
      obtain ⟨bl, Al, nl, cl, k0, k1, kz⟩ := (PX.out.ext (by omega) ex)
      go_simp
      exact hK.out _ _ ⟨_, _, _, _, rfl, kz⟩ (Ext.refl _) (fun b hb => by cases hb)
    refine Steps.cons (fun (v : Value) (X : World) => ∃ b A n c, v = .agg #[.bool b, .slice A n c] ∧ ZV X (.agg #[.bool b, .slice A n c]) (r)) [0] rfl (by kernel_rfl) rfl (by kernel_rfl) (fun y X ex0 hf K hK => ?_) ?_
    · have hh0 : ((fun (v : Value) (X : World) => ∃ b A n c, v = .agg #[.bool b, .slice A n c] ∧ ZV X (.agg #[.bool b, .slice A n c]) (r))) (y 0) X := hf.1
      refine Exists.elim hh0 (fun b0 hx0_0 => ?_)
      refine Exists.elim hx0_0 (fun A0 hx0_1 => ?_)
      refine Exists.elim hx0_1 (fun n0 hx0_2 => ?_)
      refine Exists.elim hx0_2 (fun c0 hx0_3 => ?_)
      have h0 := hx0_3.1
      have z0 := hx0_3.2
      clear hh0 hx0_0 hx0_1 hx0_2 hx0_3
      clear hf
      have ex := (Ext.drw (Ext.refl _)).trans ex0
      refine Box.mk ?_
      simp only [fill, Act.put, Nat.reduceAdd, List.setIfInBounds_toArray, List.set_cons_zero, List.set_cons_succ, h0] at hK ⊢
      go_simp
      refine (asAgg ((of_any _ _ _ _ _).mono fun e w' ⟨he, hb⟩ => ⟨_, he, (z0).ext hb, hb⟩)).mono ?_
      rintro e V ⟨b9, A9, n9, c9, rfl, hz, hb⟩
      try go_wp2_with fail
      exact hK.out _ _ ⟨_, _, _, _, rfl, hz⟩ hb (fun b hb => by cases hb)
    refine Steps.cons (fun (v : Value) (X : World) => ∃ b A n c, v = .agg #[.bool b, .slice A n c] ∧ ZV X (.agg #[.bool b, .slice A n c]) (t)) [] rfl (by kernel_rfl) rfl (by kernel_rfl) (fun y X ex0 hf K hK => ?_) ?_
    · clear hf
      have ex := (Ext.drw (Ext.refl _)).trans ex0
      refine Box.mk ?_
      simp only [fill, Act.put, Nat.reduceAdd, List.setIfInBounds_toArray, List.set_cons_zero, List.set_cons_succ] at hK ⊢
      obtain ⟨bl, Al, nl, cl, k0, k1, kz⟩ := (PY.out.ext (by omega) ex)
      go_simp
      exact hK.out _ _ ⟨_, _, _, _, rfl, kz⟩ (Ext.refl _) (fun b hb => by cases hb)
    refine Steps.cons (fun (v : Value) (X : World) => ∃ b A n c, v = .agg #[.bool b, .slice A n c] ∧ ZV X (.agg #[.bool b, .slice A n c]) (t)) [2, 1] rfl (by kernel_rfl) rfl (by kernel_rfl) (fun y X ex0 hf K hK => ?_) ?_
    · have hh2 : ((fun (v : Value) (X : World) => ∃ b A n c, v = .agg #[.bool b, .slice A n c] ∧ ZV X (.agg #[.bool b, .slice A n c]) (t))) (y 2) X := hf.1
      refine Exists.elim hh2 (fun b2 hx2_0 => ?_)
      refine Exists.elim hx2_0 (fun A2 hx2_1 => ?_)
      refine Exists.elim hx2_1 (fun n2 hx2_2 => ?_)
      refine Exists.elim hx2_2 (fun c2 hx2_3 => ?_)
      have h2 := hx2_3.1
      have z2 := hx2_3.2
      clear hh2 hx2_0 hx2_1 hx2_2 hx2_3
      have hh1 : ((fun (v : Value) (X : World) => ∃ b A n c, v = .agg #[.bool b, .slice A n c] ∧ ZV X (.agg #[.bool b, .slice A n c]) (r))) (y 1) X := hf.2.1
      refine Exists.elim hh1 (fun b1 hx1_0 => ?_)
      refine Exists.elim hx1_0 (fun A1 hx1_1 => ?_)
      refine Exists.elim hx1_1 (fun n1 hx1_2 => ?_)
      refine Exists.elim hx1_2 (fun c1 hx1_3 => ?_)
      have h1 := hx1_3.1
      have z1 := hx1_3.2
      clear hh1 hx1_0 hx1_1 hx1_2 hx1_3
      clear hf
      have ex := (Ext.drw (Ext.refl _)).trans ex0
      refine Box.mk ?_
      simp only [fill, Act.put, Nat.reduceAdd, List.setIfInBounds_toArray, List.set_cons_zero, List.set_cons_succ, h2, h1] at hK ⊢
      go_simp
      refine (asAgg ((of_any _ _ _ _ _).mono fun e w' ⟨he, hb⟩ => ⟨_, he, (z2).ext hb, hb⟩)).mono ?_
      rintro e V ⟨b9, A9, n9, c9, rfl, hz, hb⟩
      try go_wp2_with fail
      exact hK.out _ _ ⟨_, _, _, _, rfl, hz⟩ hb (fun b hb => by cases hb)
    refine Steps.cons (fun (v : Value) (X : World) => ∃ g, v = .pointer (some ⟨g, 0, none⟩) ∧ W2.heap.size ≤ g ∧ RB X g) [] rfl (by kernel_rfl) rfl (by kernel_rfl) (fun y X ex0 hf K hK => ?_) ?_
    · clear hf
      have ex := (Ext.drw (Ext.refl _)).trans ex0
      refine Box.mk ?_
      simp only [fill, Act.put, Nat.reduceAdd, List.setIfInBounds_toArray, List.set_cons_zero, List.set_cons_succ] at hK ⊢
      go_simp
      exact hK.out _ _ ⟨X.heap.size, rfl, ex.size, RB.c1 X false none 0 0 34⟩ (Ext.alc (Ext.refl X) (.cells #[.bool false, .slice none 0 0] 34)) (New.ptr (Nat.le_refl _) (by simp))
    refine Steps.cons (fun (v : Value) (X : World) => ∃ g, v = .pointer (some ⟨g, 0, none⟩) ∧ W2.heap.size ≤ g ∧ RB X g) [] rfl (by kernel_rfl) rfl (by kernel_rfl) (fun y X ex0 hf K hK => ?_) ?_
    · clear hf
      have ex := (Ext.drw (Ext.refl _)).trans ex0
      refine Box.mk ?_
      simp only [fill, Act.put, Nat.reduceAdd, List.setIfInBounds_toArray, List.set_cons_zero, List.set_cons_succ] at hK ⊢
      go_simp
      exact hK.out _ _ ⟨X.heap.size, rfl, ex.size, RB.c1 X false none 0 0 34⟩ (Ext.alc (Ext.refl X) (.cells #[.bool false, .slice none 0 0] 34)) (New.ptr (Nat.le_refl _) (by simp))
    exact Steps.nil
  case done =>
    intro y X ex hf hlt hsep
    have hh0 : ((fun (v : Value) (X : World) => ∃ b A n c, v = .agg #[.bool b, .slice A n c] ∧ ZV X (.agg #[.bool b, .slice A n c]) (r))) (y 0) X := hf.1
    refine Exists.elim hh0 (fun b0 hx0_0 => ?_)
    refine Exists.elim hx0_0 (fun A0 hx0_1 => ?_)
    refine Exists.elim hx0_1 (fun n0 hx0_2 => ?_)
    refine Exists.elim hx0_2 (fun c0 hx0_3 => ?_)
    have h0 := hx0_3.1
    have z0 := hx0_3.2
    clear hh0 hx0_0 hx0_1 hx0_2 hx0_3
    have hh1 : ((fun (v : Value) (X : World) => ∃ b A n c, v = .agg #[.bool b, .slice A n c] ∧ ZV X (.agg #[.bool b, .slice A n c]) (r))) (y 1) X := hf.2.1
    refine Exists.elim hh1 (fun b1 hx1_0 => ?_)
    refine Exists.elim hx1_0 (fun A1 hx1_1 => ?_)
    refine Exists.elim hx1_1 (fun n1 hx1_2 => ?_)
    refine Exists.elim hx1_2 (fun c1 hx1_3 => ?_)
    have h1 := hx1_3.1
    have z1 := hx1_3.2
    clear hh1 hx1_0 hx1_1 hx1_2 hx1_3
    have hh2 : ((fun (v : Value) (X : World) => ∃ b A n c, v = .agg #[.bool b, .slice A n c] ∧ ZV X (.agg #[.bool b, .slice A n c]) (t))) (y 2) X := hf.2.2.1
    refine Exists.elim hh2 (fun b2 hx2_0 => ?_)
    refine Exists.elim hx2_0 (fun A2 hx2_1 => ?_)
    refine Exists.elim hx2_1 (fun n2 hx2_2 => ?_)
    refine Exists.elim hx2_2 (fun c2 hx2_3 => ?_)
    have h2 := hx2_3.1
    have z2 := hx2_3.2
    clear hh2 hx2_0 hx2_1 hx2_2 hx2_3
    have hh3 : ((fun (v : Value) (X : World) => ∃ b A n c, v = .agg #[.bool b, .slice A n c] ∧ ZV X (.agg #[.bool b, .slice A n c]) (t))) (y 3) X := hf.2.2.2.1
    refine Exists.elim hh3 (fun b3 hx3_0 => ?_)
    refine Exists.elim hx3_0 (fun A3 hx3_1 => ?_)
    refine Exists.elim hx3_1 (fun n3 hx3_2 => ?_)
    refine Exists.elim hx3_2 (fun c3 hx3_3 => ?_)
    have h3 := hx3_3.1
    have z3 := hx3_3.2
    clear hh3 hx3_0 hx3_1 hx3_2 hx3_3
    have hh4 : ((fun (v : Value) (X : World) => ∃ g, v = .pointer (some ⟨g, 0, none⟩) ∧ W2.heap.size ≤ g ∧ RB X g)) (y 4) X := hf.2.2.2.2.1
    refine Exists.elim hh4 (fun g4 hx4_0 => ?_)
    have h4 := hx4_0.1
    have z4 := hx4_0.2.1
    have q4 := hx4_0.2.2
    clear hh4 hx4_0
    have hh5 : ((fun (v : Value) (X : World) => ∃ g, v = .pointer (some ⟨g, 0, none⟩) ∧ W2.heap.size ≤ g ∧ RB X g)) (y 5) X := hf.2.2.2.2.2.1
    refine Exists.elim hh5 (fun g5 hx5_0 => ?_)
    have h5 := hx5_0.1
    have z5 := hx5_0.2.1
    have q5 := hx5_0.2.2
    clear hh5 hx5_0
    clear hf
    have n4_5 : g4 ≠ g5 := sep_ne (hsep 4 5 (by decide) (by decide) (by decide) (by decide)) h4 h5
    clear hsep hlt
    refine Box.mk ?_
    simp only [List.drop_succ_cons, List.drop_zero, fill, Act.put, Nat.reduceAdd, List.setIfInBounds_toArray, List.set_cons_zero, List.set_cons_succ, h0, h1, h2, h3, h4, h5]
    clear h0 h1 h2 h3 h4 h5
    have y3 := R3.out.ext ex
    have y4 := R4.out.ext ex
    have y5 := R5.out.ext ex
    have l3 := y3.lt
    have l4 := y4.lt
    have l5 := y5.lt
    obtain ⟨W', hW', m1, m2, m3, m4, m5, m6, -, -, -⟩ := two_putH q4 q5 (Ne.symm n4_5) b1 A1 n1 c1 b3 A3 n3 c3 z1 z3 (Ext.below (E1.out.trans ex)) (by omega) (by omega)
    have r3 := m6 _ y3 (by omega) (by omega)
    have r4 := m6 _ y4 (by omega) (by omega)
    have r5 := m6 _ y5 (by omega) (by omega)
    obtain ⟨_, _, _, _, g30, g31, g32, g33⟩ := q4.facts
    have T := q5.far q4 (Ne.symm n4_5) (.bool b1) (.slice A1 n1 c1)
    obtain ⟨_, _, _, _, g50, g51, g52, g53⟩ := T.facts
    have HM := Lib.hid (And.intro m1 (And.intro m2 (And.intro r3 (And.intro r4 (And.intro r5 m5)))))
    have HW' := Lib.hid hW'
    clear hW' m1 m2 m3 m4 m5 m6 r3 r4 r5 T y3 y4 y5 ex z0 z1 z2 z3 l3 l4 l5 R3 R4 R5 PX PY q4 q5 n4_5
    go_wp2_with fail
    refine NoPanic.normal ?_
    go_upto_region 4 with fail
    rw [← HW'.out]
    clear g30 g31 g32 g33 g50 g51 g52 g53 HW'
    have lx4 := HM.out.1.lt
    have ly4 := HM.out.2.1.lt
    obtain ⟨b8, A8, n8, c8, k0, k1, kz⟩ := HM.out.1
    obtain ⟨b9, A9, n9, c9, j0, j1, jz⟩ := HM.out.2.1
    have HC := Lib.hid (commonR_any r t _ _ _ kz jz (by have := HLL.out; omega) (by have := HLL.out; omega))
    clear kz jz
    obtain ⟨g, hg⟩ : ∃ g : Int, g = ((Int.gcd r t : Nat) : Int) := ⟨_, rfl⟩
    rw [← hg] at HC
    go_wp2_with fail
    refine (asAgg HC.out).mono ?_
    rintro e w3 ⟨b10, A10, n10, c10, rfl, hz, x3⟩
    replace x3 : Ext W' w3 := x3
    have HZ3 := Lib.hid hz; have X3 := Lib.hid x3
    clear hz x3 k0 k1 j0 j1 HC
    go_upto_region 5 with fail
    obtain ⟨W3, hW3⟩ : ∃ W3, W3 = w3.alloc (Obj.cells #[.bool b10, .slice A10 n10 c10] 34) := ⟨_, rfl⟩
    have e3 : Ext W' W3 := by rw [hW3]; exact X3.out.alc _
    have i10 : HZ W3 w3.heap.size g := by rw [hW3]; exact HZ.lit w3 b10 A10 n10 c10 34 HZ3.out
    rw [← hW3]
    obtain ⟨g10, hg10⟩ : ∃ k, k = w3.heap.size := ⟨_, rfl⟩
    rw [← hg10] at i10 ⊢
    have H8 := Lib.hid (HM.out.1.ext lx4 e3)
    have H9 := Lib.hid (HM.out.2.1.ext ly4 e3)
    have H10 := Lib.hid i10
    have R3 := Lib.hid (HM.out.2.2.1.ext e3)
    have R4 := Lib.hid (HM.out.2.2.2.1.ext e3)
    have R5 := Lib.hid (HM.out.2.2.2.2.1.ext e3)
    have E3 : Hid (Ext w W3) := Lib.hid (Ext.trans HM.out.2.2.2.2.2 e3)
    have lx5 : g4 < W3.heap.size := H8.out.lt
    have ly5 : g5 < W3.heap.size := H9.out.lt
    have lg5 : g10 < W3.heap.size := H10.out.lt
    have l30 := R3.out.lt
    have l40 := R4.out.lt
    have l50 := R5.out.lt
    have HG := Lib.hid hg
    clear e3 i10 hW3 hg10 HM HZ3 X3 lx4 ly4 hg
    obtain ⟨b9, A9, n9, c9, j0, j1, jz⟩ := H9.out
    have JZ := Lib.hid jz; clear jz
    go_wp2_with fail
    refine (zeroR_any t _ _ JZ.out).mono ?_
    rintro e W4 ⟨rfl, x4⟩
    replace x4 : Ext W3 W4 := x4
    have H8 := Lib.hid (H8.out.ext lx5 x4)
    have H9 := Lib.hid (H9.out.ext ly5 x4)
    have H10 := Lib.hid (H10.out.ext lg5 x4)
    have R3 := Lib.hid (R3.out.ext x4)
    have R4 := Lib.hid (R4.out.ext x4)
    have R5 := Lib.hid (R5.out.ext x4)
    have E4 : Hid (Ext w W4) := Lib.hid (E3.out.trans x4)
    have lx5 : g4 < W4.heap.size := H8.out.lt
    have ly5 : g5 < W4.heap.size := H9.out.lt
    have lg5 : g10 < W4.heap.size := H10.out.lt
    have l30 := R3.out.lt
    have l40 := R4.out.lt
    have l50 := R5.out.lt
    have lgL : (dig g.natAbs).length ≤ 256 := by rw [HG.out]; exact gcd_len HLL.out.1 HLL.out.2
    clear x4 JZ j0 j1
    have hd : decide (t = 0) = false := by simp [h0]
    rw [hd]
    have hgp : 0 < Int.gcd r t := Int.gcd_pos_iff.2 (.inr h0)
    have hg0 : g ≠ 0 := by rw [HG.out]; omega
    obtain ⟨m, hm⟩ : ∃ m : Int, m = (t.natAbs : Int) / g := ⟨_, rfl⟩
    have hgt : g.natAbs ≤ t.natAbs := by rw [HG.out, Int.natAbs_natCast]; exact Nat.le_of_dvd (by omega) (Int.gcd_dvd_natAbs_right ..)
    have hm0 : 0 < m := by rw [hm]; exact Int.ediv_pos_of_pos_of_dvd (by omega) (by rw [HG.out]; omega) (by rw [HG.out]; exact Int.natCast_dvd_natCast.2 (Int.gcd_dvd_natAbs_right ..))
    have hmt : m.natAbs ≤ t.natAbs := by rw [hm]; have := Int.natAbs_ediv_le_natAbs (t.natAbs : Int) g; rwa [Int.natAbs_natCast] at this
    have hco : Int.gcd (r / g) m = 1 := by rw [hm]; exact gcd_parts h0 HG.out
    obtain ⟨r1, hr1⟩ : ∃ r1 : Int, r1 = r / g := ⟨_, rfl⟩
    rw [← hr1] at hco
    have hrr : r1.natAbs ≤ r.natAbs := by rw [hr1]; exact Int.natAbs_ediv_le_natAbs r g
    have HM := Lib.hid (And.intro hm (And.intro hco hr1))
    have hm0h := Lib.hid hm0
    have lm : (dig m.natAbs).length ≤ 256 := Nat.le_trans (len_mono hmt) HLL.out.2
    have lr1 : (dig r1.natAbs).length ≤ 256 := Nat.le_trans (len_mono hrr) HLL.out.1
    have LL := Lib.hid (And.intro lm lr1)
    clear hd hgp hm hgt hm0 hmt hco hr1 hrr lm lr1
    go_upto_region 7 with fail
    refine wp_region_noPanic ?_
    refine wp_pool 6 [some 41, some 42, some 43, some 44, some 45, some 11] [] [5] [(fun (v : Value) (_ : World) => v = .pointer (some ⟨g5, 1, none⟩)), (fun (v : Value) (X : World) => ∃ A n c, v = .slice A n c ∧ Wd X (.slice A n c) (dig t.natAbs)), (fun (v : Value) (X : World) => ∃ b A n c, v = .agg #[.bool b, .slice A n c] ∧ ZV X (.agg #[.bool b, .slice A n c]) ((t.natAbs : Int))), (fun (v : Value) (X : World) => ∃ b A n c, v = .agg #[.bool b, .slice A n c] ∧ ZV X (.agg #[.bool b, .slice A n c]) (g)), (fun (v : Value) (X : World) => ∃ b A n c, v = .agg #[.bool b, .slice A n c] ∧ ZV X (.agg #[.bool b, .slice A n c]) ((t.natAbs : Int) / g)), (fun (v : Value) (X : World) => ∃ g, v = .pointer (some ⟨g, 0, none⟩) ∧ W4.heap.size ≤ g ∧ RB X g)] [noF, noF, noF, noF, noF, ptrF] (by kernel_rfl) (by kernel_rfl) (by kernel_rfl) (by kernel_rfl) (by kernel_rfl) (by kernel_rfl) (by kernel_rfl) (by kernel_rfl) (fun _ _ _ _ h => h) ⟨Stays.pure _, (fun _ _ _ e ⟨A, n, c, h1, h2⟩ => ⟨A, n, c, h1, h2.below e⟩), (fun _ _ _ e ⟨b, A, n, c, h1, h2⟩ => ⟨b, A, n, c, h1, h2.ext e⟩), (fun _ _ _ e ⟨b, A, n, c, h1, h2⟩ => ⟨b, A, n, c, h1, h2.ext e⟩), (fun _ _ _ e ⟨b, A, n, c, h1, h2⟩ => ⟨b, A, n, c, h1, h2.ext e⟩), (fun _ _ _ e ⟨g, h1, h2, h3⟩ => ⟨g, h1, h2, h3.ext e⟩), True.intro⟩ ?steps ?done
    case steps =>
      simp only [List.take_succ_cons, List.take_zero]
      refine Steps.cons (fun (v : Value) (_ : World) => v = .pointer (some ⟨g5, 1, none⟩)) [] rfl (by kernel_rfl) rfl (by kernel_rfl) (fun y X ex0 hf K hK => ?_) ?_
      · clear hf
        have ex := (Ext.drw (Ext.refl _)).trans ex0
        refine Box.mk ?_
        simp only [fill, Act.put, Nat.reduceAdd, List.setIfInBounds_toArray, List.set_cons_zero, List.set_cons_succ] at hK ⊢
        go_simp
        exact hK.out _ _ rfl (Ext.refl _) (fun b hb => by cases hb)
      refine Steps.cons (fun (v : Value) (X : World) => ∃ A n c, v = .slice A n c ∧ Wd X (.slice A n c) (dig t.natAbs)) [0] rfl (by kernel_rfl) rfl (by kernel_rfl) (fun y X ex0 hf K hK => ?_) ?_
      · have h0 : ((fun (v : Value) (_ : World) => v = .pointer (some ⟨g5, 1, none⟩))) (y 0) X := hf.1
        clear hf
        have ex := (Ext.drw (Ext.refl _)).trans ex0
        refine Box.mk ?_
        simp only [fill, Act.put, Nat.reduceAdd, List.setIfInBounds_toArray, List.set_cons_zero, List.set_cons_succ, h0] at hK ⊢
        obtain ⟨bl, Al, nl, cl, k0, k1, kz⟩ := (H9.out.ext (by omega) ex)
        have kw := kz.words.2
        go_simp
        exact hK.out _ _ ⟨_, _, _, rfl, kw⟩ (Ext.refl _) (fun b hb => by cases hb)
      refine Steps.cons (fun (v : Value) (X : World) => ∃ b A n c, v = .agg #[.bool b, .slice A n c] ∧ ZV X (.agg #[.bool b, .slice A n c]) ((t.natAbs : Int))) [1] rfl (by kernel_rfl) rfl (by kernel_rfl) (fun y X ex0 hf K hK => ?_) ?_
      · have hh1 : ((fun (v : Value) (X : World) => ∃ A n c, v = .slice A n c ∧ Wd X (.slice A n c) (dig t.natAbs))) (y 1) X := hf.1
        refine Exists.elim hh1 (fun A1 hx1_0 => ?_)
        refine Exists.elim hx1_0 (fun n1 hx1_1 => ?_)
        refine Exists.elim hx1_1 (fun c1 hx1_2 => ?_)
        have h1 := hx1_2.1
        have z1 := hx1_2.2
        clear hh1 hx1_0 hx1_1 hx1_2
        clear hf
        have ex := (Ext.drw (Ext.refl _)).trans ex0
        refine Box.mk ?_
        simp only [fill, Act.put, Nat.reduceAdd, List.setIfInBounds_toArray, List.set_cons_zero, List.set_cons_succ, h1] at hK ⊢
        go_simp
        refine (asAgg ((signedR_any false _ _ _ _ (Wd.n_le z1)).mono fun e w' ⟨he, hb⟩ => ⟨_, he, zv_signed (z1.below hb), hb⟩)).mono ?_
        rintro e V ⟨b9, A9, n9, c9, rfl, hz, hb⟩
        try go_wp2_with fail
        exact hK.out _ _ ⟨_, _, _, _, rfl, hz⟩ hb (fun b hb => by cases hb)
      refine Steps.cons (fun (v : Value) (X : World) => ∃ b A n c, v = .agg #[.bool b, .slice A n c] ∧ ZV X (.agg #[.bool b, .slice A n c]) (g)) [] rfl (by kernel_rfl) rfl (by kernel_rfl) (fun y X ex0 hf K hK => ?_) ?_
      · clear hf
        have ex := (Ext.drw (Ext.refl _)).trans ex0
        refine Box.mk ?_
        simp only [fill, Act.put, Nat.reduceAdd, List.setIfInBounds_toArray, List.set_cons_zero, List.set_cons_succ] at hK ⊢
        obtain ⟨bl, Al, nl, cl, k0, k1, kz⟩ := (H10.out.ext (by omega) ex)
        go_simp
        exact hK.out _ _ ⟨_, _, _, _, rfl, kz⟩ (Ext.refl _) (fun b hb => by cases hb)
      refine Steps.cons (fun (v : Value) (X : World) => ∃ b A n c, v = .agg #[.bool b, .slice A n c] ∧ ZV X (.agg #[.bool b, .slice A n c]) ((t.natAbs : Int) / g)) [2, 3] rfl (by kernel_rfl) rfl (by kernel_rfl) (fun y X ex0 hf K hK => ?_) ?_
      · have hh2 : ((fun (v : Value) (X : World) => ∃ b A n c, v = .agg #[.bool b, .slice A n c] ∧ ZV X (.agg #[.bool b, .slice A n c]) ((t.natAbs : Int)))) (y 2) X := hf.1
        refine Exists.elim hh2 (fun b2 hx2_0 => ?_)
        refine Exists.elim hx2_0 (fun A2 hx2_1 => ?_)
        refine Exists.elim hx2_1 (fun n2 hx2_2 => ?_)
        refine Exists.elim hx2_2 (fun c2 hx2_3 => ?_)
        have h2 := hx2_3.1
        have z2 := hx2_3.2
        clear hh2 hx2_0 hx2_1 hx2_2 hx2_3
        have hh3 : ((fun (v : Value) (X : World) => ∃ b A n c, v = .agg #[.bool b, .slice A n c] ∧ ZV X (.agg #[.bool b, .slice A n c]) (g))) (y 3) X := hf.2.1
        refine Exists.elim hh3 (fun b3 hx3_0 => ?_)
        refine Exists.elim hx3_0 (fun A3 hx3_1 => ?_)
        refine Exists.elim hx3_1 (fun n3 hx3_2 => ?_)
        refine Exists.elim hx3_2 (fun c3 hx3_3 => ?_)
        have h3 := hx3_3.1
        have z3 := hx3_3.2
        clear hh3 hx3_0 hx3_1 hx3_2 hx3_3
        clear hf
        have ex := (Ext.drw (Ext.refl _)).trans ex0
        refine Box.mk ?_
        simp only [fill, Act.put, Nat.reduceAdd, List.setIfInBounds_toArray, List.set_cons_zero, List.set_cons_succ, h2, h3] at hK ⊢
        go_simp
        refine (asAgg (exactlyR_any _ _ _ _ _ z2 z3 (by rw [Int.natAbs_natCast]; have := HLL.out; omega) (by omega) hg0)).mono ?_
        rintro e V ⟨b9, A9, n9, c9, rfl, hz, hb⟩
        try go_wp2_with fail
        exact hK.out _ _ ⟨_, _, _, _, rfl, hz⟩ hb (fun b hb => by cases hb)
      refine Steps.cons (fun (v : Value) (X : World) => ∃ g, v = .pointer (some ⟨g, 0, none⟩) ∧ W4.heap.size ≤ g ∧ RB X g) [] rfl (by kernel_rfl) rfl (by kernel_rfl) (fun y X ex0 hf K hK => ?_) ?_
      · clear hf
        have ex := (Ext.drw (Ext.refl _)).trans ex0
        refine Box.mk ?_
        simp only [fill, Act.put, Nat.reduceAdd, List.setIfInBounds_toArray, List.set_cons_zero, List.set_cons_succ] at hK ⊢
        go_simp
        exact hK.out _ _ ⟨X.heap.size, rfl, ex.size, RB.c1 X false none 0 0 34⟩ (Ext.alc (Ext.refl X) (.cells #[.bool false, .slice none 0 0] 34)) (New.ptr (Nat.le_refl _) (by simp))
      exact Steps.nil
    case done =>
      intro y X ex hf hlt hsep
      have h0 : ((fun (v : Value) (_ : World) => v = .pointer (some ⟨g5, 1, none⟩))) (y 0) X := hf.1
      have hh1 : ((fun (v : Value) (X : World) => ∃ A n c, v = .slice A n c ∧ Wd X (.slice A n c) (dig t.natAbs))) (y 1) X := hf.2.1
      refine Exists.elim hh1 (fun A1 hx1_0 => ?_)
      refine Exists.elim hx1_0 (fun n1 hx1_1 => ?_)
      refine Exists.elim hx1_1 (fun c1 hx1_2 => ?_)
      have h1 := hx1_2.1
      have z1 := hx1_2.2
      clear hh1 hx1_0 hx1_1 hx1_2
      have hh2 : ((fun (v : Value) (X : World) => ∃ b A n c, v = .agg #[.bool b, .slice A n c] ∧ ZV X (.agg #[.bool b, .slice A n c]) ((t.natAbs : Int)))) (y 2) X := hf.2.2.1
      refine Exists.elim hh2 (fun b2 hx2_0 => ?_)
      refine Exists.elim hx2_0 (fun A2 hx2_1 => ?_)
      refine Exists.elim hx2_1 (fun n2 hx2_2 => ?_)
      refine Exists.elim hx2_2 (fun c2 hx2_3 => ?_)
      have h2 := hx2_3.1
      have z2 := hx2_3.2
      clear hh2 hx2_0 hx2_1 hx2_2 hx2_3
      have hh3 : ((fun (v : Value) (X : World) => ∃ b A n c, v = .agg #[.bool b, .slice A n c] ∧ ZV X (.agg #[.bool b, .slice A n c]) (g))) (y 3) X := hf.2.2.2.1
      refine Exists.elim hh3 (fun b3 hx3_0 => ?_)
      refine Exists.elim hx3_0 (fun A3 hx3_1 => ?_)
      refine Exists.elim hx3_1 (fun n3 hx3_2 => ?_)
      refine Exists.elim hx3_2 (fun c3 hx3_3 => ?_)
      have h3 := hx3_3.1
      have z3 := hx3_3.2
      clear hh3 hx3_0 hx3_1 hx3_2 hx3_3
      have hh4 : ((fun (v : Value) (X : World) => ∃ b A n c, v = .agg #[.bool b, .slice A n c] ∧ ZV X (.agg #[.bool b, .slice A n c]) ((t.natAbs : Int) / g))) (y 4) X := hf.2.2.2.2.1
      refine Exists.elim hh4 (fun b4 hx4_0 => ?_)
      refine Exists.elim hx4_0 (fun A4 hx4_1 => ?_)
      refine Exists.elim hx4_1 (fun n4 hx4_2 => ?_)
      refine Exists.elim hx4_2 (fun c4 hx4_3 => ?_)
      have h4 := hx4_3.1
      have z4 := hx4_3.2
      clear hh4 hx4_0 hx4_1 hx4_2 hx4_3
      have hh5 : ((fun (v : Value) (X : World) => ∃ g, v = .pointer (some ⟨g, 0, none⟩) ∧ W4.heap.size ≤ g ∧ RB X g)) (y 5) X := hf.2.2.2.2.2.1
      refine Exists.elim hh5 (fun gk5 hx5_0 => ?_)
      have h5 := hx5_0.1
      have z5 := hx5_0.2.1
      have q5 := hx5_0.2.2
      clear hh5 hx5_0
      clear hf
      clear hsep hlt
      refine Box.mk ?_
      simp only [List.drop_succ_cons, List.drop_zero, fill, Act.put, Nat.reduceAdd, List.setIfInBounds_toArray, List.set_cons_zero, List.set_cons_succ, h0, h1, h2, h3, h4, h5]
      clear h0 h1 h2 h3 h4 h5
      obtain ⟨_, _, _, _, g30, g31, g32, g33⟩ := q5.facts
      obtain ⟨W5, hW5⟩ : ∃ W5, W5 = (X.setCell ⟨gk5, 0, none⟩ (.bool b4)).setCell ⟨gk5, 1, none⟩ (.slice A4 n4 c4) := ⟨_, rfl⟩
      have e9 : Ext w W5 := by rw [hW5]; exact below_set2 (Ext.below (E4.out.trans ex)) (by have := E4.out.size; omega) _ _
      have H8 := Lib.hid (show HZ W5 g4 _ by rw [hW5]; exact (H8.out.ext (by omega) ex).far q5 (by omega) _ _)
      have H9 := Lib.hid (show HZ W5 g5 _ by rw [hW5]; exact (H9.out.ext (by omega) ex).far q5 (by omega) _ _)
      have H10 := Lib.hid (show HZ W5 g10 _ by rw [hW5]; exact (H10.out.ext (by omega) ex).far q5 (by omega) _ _)
      have R3 := Lib.hid (show RB W5 _ by rw [hW5]; exact (R3.out.ext ex).far q5 (by omega) _ _)
      have R4 := Lib.hid (show RB W5 _ by rw [hW5]; exact (R4.out.ext ex).far q5 (by omega) _ _)
      have R5 := Lib.hid (show RB W5 _ by rw [hW5]; exact (R5.out.ext ex).far q5 (by omega) _ _)
      have HN5 := Lib.hid (show HZ W5 gk5 _ by rw [hW5]; exact HZ.put q5 z4)
      have E25 : Hid (Ext w W5) := Lib.hid e9
      have HW5 := Lib.hid hW5
      have l5_0 : g4 < W5.heap.size := H8.out.lt
      have l5_1 : g5 < W5.heap.size := H9.out.lt
      have l5_2 : g10 < W5.heap.size := H10.out.lt
      have lr5_0 := R3.out.lt
      have lr5_1 := R4.out.lt
      have lr5_2 := R5.out.lt
      have ln5 := HN5.out.lt
      clear hW5 e9 ex q5 z1 z2 z3 z4
      go_wp2_with fail
      refine NoPanic.normal ?_
      go_upto_region 8 with fail
      rw [← HW5.out]
      clear g30 g31 g32 g33 HW5
      rw [← HM.out.1] at HN5
      refine wp_region_noPanic ?_
      refine wp_pool 6 [some 46, some 47, some 48, some 49, some 50, some 12] [] [5] [(fun (v : Value) (X : World) => ∃ b A n c, v = .agg #[.bool b, .slice A n c] ∧ ZV X (.agg #[.bool b, .slice A n c]) (r)), (fun (v : Value) (X : World) => ∃ b A n c, v = .agg #[.bool b, .slice A n c] ∧ ZV X (.agg #[.bool b, .slice A n c]) (g)), (fun (v : Value) (X : World) => ∃ b A n c, v = .agg #[.bool b, .slice A n c] ∧ ZV X (.agg #[.bool b, .slice A n c]) (r1)), (fun (v : Value) (X : World) => ∃ b A n c, v = .agg #[.bool b, .slice A n c] ∧ ZV X (.agg #[.bool b, .slice A n c]) (m)), (fun (v : Value) (X : World) => ∃ b A n c x, v = .agg #[.bool b, .slice A n c] ∧ ZV X (.agg #[.bool b, .slice A n c]) x ∧ 0 ≤ x ∧ x < m ∧ m ∣ 1 - r1 * x), (fun (v : Value) (X : World) => ∃ g, v = .pointer (some ⟨g, 0, none⟩) ∧ W5.heap.size ≤ g ∧ RB X g)] [noF, noF, noF, noF, noF, ptrF] (by kernel_rfl) (by kernel_rfl) (by kernel_rfl) (by kernel_rfl) (by kernel_rfl) (by kernel_rfl) (by kernel_rfl) (by kernel_rfl) (fun _ _ _ _ h => h) ⟨(fun _ _ _ e ⟨b, A, n, c, h1, h2⟩ => ⟨b, A, n, c, h1, h2.ext e⟩), (fun _ _ _ e ⟨b, A, n, c, h1, h2⟩ => ⟨b, A, n, c, h1, h2.ext e⟩), (fun _ _ _ e ⟨b, A, n, c, h1, h2⟩ => ⟨b, A, n, c, h1, h2.ext e⟩), (fun _ _ _ e ⟨b, A, n, c, h1, h2⟩ => ⟨b, A, n, c, h1, h2.ext e⟩), (fun _ _ _ e ⟨b, A, n, c, x, h1, h2, h3⟩ => ⟨b, A, n, c, x, h1, h2.ext e, h3⟩), (fun _ _ _ e ⟨g, h1, h2, h3⟩ => ⟨g, h1, h2, h3.ext e⟩), True.intro⟩ ?steps ?done
      case steps =>
        simp only [List.take_succ_cons, List.take_zero]
        refine Steps.cons (fun (v : Value) (X : World) => ∃ b A n c, v = .agg #[.bool b, .slice A n c] ∧ ZV X (.agg #[.bool b, .slice A n c]) (r)) [] rfl (by kernel_rfl) rfl (by kernel_rfl) (fun y X ex0 hf K hK => ?_) ?_
        · clear hf
          have ex := (Ext.drw (Ext.refl _)).trans ex0
          refine Box.mk ?_
          simp only [fill, Act.put, Nat.reduceAdd, List.setIfInBounds_toArray, List.set_cons_zero, List.set_cons_succ] at hK ⊢
          obtain ⟨bl, Al, nl, cl, k0, k1, kz⟩ := (H8.out.ext (by omega) ex)
          go_simp
          exact hK.out _ _ ⟨_, _, _, _, rfl, kz⟩ (Ext.refl _) (fun b hb => by cases hb)
        refine Steps.cons (fun (v : Value) (X : World) => ∃ b A n c, v = .agg #[.bool b, .slice A n c] ∧ ZV X (.agg #[.bool b, .slice A n c]) (g)) [] rfl (by kernel_rfl) rfl (by kernel_rfl) (fun y X ex0 hf K hK => ?_) ?_
        · clear hf
          have ex := (Ext.drw (Ext.refl _)).trans ex0
          refine Box.mk ?_
          simp only [fill, Act.put, Nat.reduceAdd, List.setIfInBounds_toArray, List.set_cons_zero, List.set_cons_succ] at hK ⊢
          obtain ⟨bl, Al, nl, cl, k0, k1, kz⟩ := (H10.out.ext (by omega) ex)
          go_simp
          exact hK.out _ _ ⟨_, _, _, _, rfl, kz⟩ (Ext.refl _) (fun b hb => by cases hb)
        refine Steps.cons (fun (v : Value) (X : World) => ∃ b A n c, v = .agg #[.bool b, .slice A n c] ∧ ZV X (.agg #[.bool b, .slice A n c]) (r1)) [0, 1] rfl (by kernel_rfl) rfl (by kernel_rfl) (fun y X ex0 hf K hK => ?_) ?_
        · have hh0 : ((fun (v : Value) (X : World) => ∃ b A n c, v = .agg #[.bool b, .slice A n c] ∧ ZV X (.agg #[.bool b, .slice A n c]) (r))) (y 0) X := hf.1
          refine Exists.elim hh0 (fun b0 hx0_0 => ?_)
          refine Exists.elim hx0_0 (fun A0 hx0_1 => ?_)
          refine Exists.elim hx0_1 (fun n0 hx0_2 => ?_)
          refine Exists.elim hx0_2 (fun c0 hx0_3 => ?_)
          have h0 := hx0_3.1
          have z0 := hx0_3.2
          clear hh0 hx0_0 hx0_1 hx0_2 hx0_3
          have hh1 : ((fun (v : Value) (X : World) => ∃ b A n c, v = .agg #[.bool b, .slice A n c] ∧ ZV X (.agg #[.bool b, .slice A n c]) (g))) (y 1) X := hf.2.1
          refine Exists.elim hh1 (fun b1 hx1_0 => ?_)
          refine Exists.elim hx1_0 (fun A1 hx1_1 => ?_)
          refine Exists.elim hx1_1 (fun n1 hx1_2 => ?_)
          refine Exists.elim hx1_2 (fun c1 hx1_3 => ?_)
          have h1 := hx1_3.1
          have z1 := hx1_3.2
          clear hh1 hx1_0 hx1_1 hx1_2 hx1_3
          clear hf
          have ex := (Ext.drw (Ext.refl _)).trans ex0
          refine Box.mk ?_
          simp only [fill, Act.put, Nat.reduceAdd, List.setIfInBounds_toArray, List.set_cons_zero, List.set_cons_succ, h0, h1] at hK ⊢
          go_simp
          refine (asAgg (show Calls Try.prog 69 _ X (RetZ X r1) by rw [HM.out.2.2]; exact exactlyR_any _ _ _ _ _ z0 z1 (by have := HLL.out; omega) (by omega) hg0)).mono ?_
          rintro e V ⟨b9, A9, n9, c9, rfl, hz, hb⟩
          try go_wp2_with fail
          exact hK.out _ _ ⟨_, _, _, _, rfl, hz⟩ hb (fun b hb => by cases hb)
        refine Steps.cons (fun (v : Value) (X : World) => ∃ b A n c, v = .agg #[.bool b, .slice A n c] ∧ ZV X (.agg #[.bool b, .slice A n c]) (m)) [] rfl (by kernel_rfl) rfl (by kernel_rfl) (fun y X ex0 hf K hK => ?_) ?_
        · clear hf
          have ex := (Ext.drw (Ext.refl _)).trans ex0
          refine Box.mk ?_
          simp only [fill, Act.put, Nat.reduceAdd, List.setIfInBounds_toArray, List.set_cons_zero, List.set_cons_succ] at hK ⊢
          obtain ⟨bl, Al, nl, cl, k0, k1, kz⟩ := (HN5.out.ext (by omega) ex)
          go_simp
          exact hK.out _ _ ⟨_, _, _, _, rfl, kz⟩ (Ext.refl _) (fun b hb => by cases hb)
        refine Steps.cons (fun (v : Value) (X : World) => ∃ b A n c x, v = .agg #[.bool b, .slice A n c] ∧ ZV X (.agg #[.bool b, .slice A n c]) x ∧ 0 ≤ x ∧ x < m ∧ m ∣ 1 - r1 * x) [2, 3] rfl (by kernel_rfl) rfl (by kernel_rfl) (fun y X ex0 hf K hK => ?_) ?_
        · have hh2 : ((fun (v : Value) (X : World) => ∃ b A n c, v = .agg #[.bool b, .slice A n c] ∧ ZV X (.agg #[.bool b, .slice A n c]) (r1))) (y 2) X := hf.1
          refine Exists.elim hh2 (fun b2 hx2_0 => ?_)
          refine Exists.elim hx2_0 (fun A2 hx2_1 => ?_)
          refine Exists.elim hx2_1 (fun n2 hx2_2 => ?_)
          refine Exists.elim hx2_2 (fun c2 hx2_3 => ?_)
          have h2 := hx2_3.1
          have z2 := hx2_3.2
          clear hh2 hx2_0 hx2_1 hx2_2 hx2_3
          have hh3 : ((fun (v : Value) (X : World) => ∃ b A n c, v = .agg #[.bool b, .slice A n c] ∧ ZV X (.agg #[.bool b, .slice A n c]) (m))) (y 3) X := hf.2.1
          refine Exists.elim hh3 (fun b3 hx3_0 => ?_)
          refine Exists.elim hx3_0 (fun A3 hx3_1 => ?_)
          refine Exists.elim hx3_1 (fun n3 hx3_2 => ?_)
          refine Exists.elim hx3_2 (fun c3 hx3_3 => ?_)
          have h3 := hx3_3.1
          have z3 := hx3_3.2
          clear hh3 hx3_0 hx3_1 hx3_2 hx3_3
          clear hf
          have ex := (Ext.drw (Ext.refl _)).trans ex0
          refine Box.mk ?_
          simp only [fill, Act.put, Nat.reduceAdd, List.setIfInBounds_toArray, List.set_cons_zero, List.set_cons_succ, h2, h3] at hK ⊢
          go_simp
          refine (inverseR_u _ _ _ _ _ z2 z3 hm0h.out HM.out.2.1 (by have := LL.out; omega) (by have := LL.out; omega)).mono ?_
          rintro e V ⟨b9, A9, n9, c9, x, rfl, hrz, hq, hb⟩
          try go_wp2_with fail
          exact hK.out _ _ ⟨_, _, _, _, x, rfl, hrz, hq⟩ hb (fun b hb => by cases hb)
        refine Steps.cons (fun (v : Value) (X : World) => ∃ g, v = .pointer (some ⟨g, 0, none⟩) ∧ W5.heap.size ≤ g ∧ RB X g) [] rfl (by kernel_rfl) rfl (by kernel_rfl) (fun y X ex0 hf K hK => ?_) ?_
        · clear hf
          have ex := (Ext.drw (Ext.refl _)).trans ex0
          refine Box.mk ?_
          simp only [fill, Act.put, Nat.reduceAdd, List.setIfInBounds_toArray, List.set_cons_zero, List.set_cons_succ] at hK ⊢
          go_simp
          exact hK.out _ _ ⟨X.heap.size, rfl, ex.size, RB.c1 X false none 0 0 34⟩ (Ext.alc (Ext.refl X) (.cells #[.bool false, .slice none 0 0] 34)) (New.ptr (Nat.le_refl _) (by simp))
        exact Steps.nil
      case done =>
        intro y X ex hf hlt hsep
        have hh0 : ((fun (v : Value) (X : World) => ∃ b A n c, v = .agg #[.bool b, .slice A n c] ∧ ZV X (.agg #[.bool b, .slice A n c]) (r))) (y 0) X := hf.1
        refine Exists.elim hh0 (fun b0 hx0_0 => ?_)
        refine Exists.elim hx0_0 (fun A0 hx0_1 => ?_)
        refine Exists.elim hx0_1 (fun n0 hx0_2 => ?_)
        refine Exists.elim hx0_2 (fun c0 hx0_3 => ?_)
        have h0 := hx0_3.1
        have z0 := hx0_3.2
        clear hh0 hx0_0 hx0_1 hx0_2 hx0_3
        have hh1 : ((fun (v : Value) (X : World) => ∃ b A n c, v = .agg #[.bool b, .slice A n c] ∧ ZV X (.agg #[.bool b, .slice A n c]) (g))) (y 1) X := hf.2.1
        refine Exists.elim hh1 (fun b1 hx1_0 => ?_)
        refine Exists.elim hx1_0 (fun A1 hx1_1 => ?_)
        refine Exists.elim hx1_1 (fun n1 hx1_2 => ?_)
        refine Exists.elim hx1_2 (fun c1 hx1_3 => ?_)
        have h1 := hx1_3.1
        have z1 := hx1_3.2
        clear hh1 hx1_0 hx1_1 hx1_2 hx1_3
        have hh2 : ((fun (v : Value) (X : World) => ∃ b A n c, v = .agg #[.bool b, .slice A n c] ∧ ZV X (.agg #[.bool b, .slice A n c]) (r1))) (y 2) X := hf.2.2.1
        refine Exists.elim hh2 (fun b2 hx2_0 => ?_)
        refine Exists.elim hx2_0 (fun A2 hx2_1 => ?_)
        refine Exists.elim hx2_1 (fun n2 hx2_2 => ?_)
        refine Exists.elim hx2_2 (fun c2 hx2_3 => ?_)
        have h2 := hx2_3.1
        have z2 := hx2_3.2
        clear hh2 hx2_0 hx2_1 hx2_2 hx2_3
        have hh3 : ((fun (v : Value) (X : World) => ∃ b A n c, v = .agg #[.bool b, .slice A n c] ∧ ZV X (.agg #[.bool b, .slice A n c]) (m))) (y 3) X := hf.2.2.2.1
        refine Exists.elim hh3 (fun b3 hx3_0 => ?_)
        refine Exists.elim hx3_0 (fun A3 hx3_1 => ?_)
        refine Exists.elim hx3_1 (fun n3 hx3_2 => ?_)
        refine Exists.elim hx3_2 (fun c3 hx3_3 => ?_)
        have h3 := hx3_3.1
        have z3 := hx3_3.2
        clear hh3 hx3_0 hx3_1 hx3_2 hx3_3
        have hh4 : ((fun (v : Value) (X : World) => ∃ b A n c x, v = .agg #[.bool b, .slice A n c] ∧ ZV X (.agg #[.bool b, .slice A n c]) x ∧ 0 ≤ x ∧ x < m ∧ m ∣ 1 - r1 * x)) (y 4) X := hf.2.2.2.2.1
        refine Exists.elim hh4 (fun b4 hx4_0 => ?_)
        refine Exists.elim hx4_0 (fun A4 hx4_1 => ?_)
        refine Exists.elim hx4_1 (fun n4 hx4_2 => ?_)
        refine Exists.elim hx4_2 (fun c4 hx4_3 => ?_)
        refine Exists.elim hx4_3 (fun x4 hx4_4 => ?_)
        have h4 := hx4_4.1
        have z4 := hx4_4.2.1
        have q4 := hx4_4.2.2
        clear hh4 hx4_0 hx4_1 hx4_2 hx4_3 hx4_4
        have hh5 : ((fun (v : Value) (X : World) => ∃ g, v = .pointer (some ⟨g, 0, none⟩) ∧ W5.heap.size ≤ g ∧ RB X g)) (y 5) X := hf.2.2.2.2.2.1
        refine Exists.elim hh5 (fun gm5 hx5_0 => ?_)
        have h5 := hx5_0.1
        have z5 := hx5_0.2.1
        have q5 := hx5_0.2.2
        clear hh5 hx5_0
        clear hf
        clear hsep hlt
        refine Box.mk ?_
        simp only [List.drop_succ_cons, List.drop_zero, fill, Act.put, Nat.reduceAdd, List.setIfInBounds_toArray, List.set_cons_zero, List.set_cons_succ, h0, h1, h2, h3, h4, h5]
        clear h0 h1 h2 h3 h4 h5
        obtain ⟨_, _, _, _, g30, g31, g32, g33⟩ := q5.facts
        obtain ⟨W6, hW6⟩ : ∃ W6, W6 = (X.setCell ⟨gm5, 0, none⟩ (.bool b4)).setCell ⟨gm5, 1, none⟩ (.slice A4 n4 c4) := ⟨_, rfl⟩
        have e9 : Ext w W6 := by rw [hW6]; exact below_set2 (Ext.below (E25.out.trans ex)) (by have := E25.out.size; omega) _ _
        have H8 := Lib.hid (show HZ W6 g4 _ by rw [hW6]; exact (H8.out.ext (by omega) ex).far q5 (by omega) _ _)
        have H9 := Lib.hid (show HZ W6 g5 _ by rw [hW6]; exact (H9.out.ext (by omega) ex).far q5 (by omega) _ _)
        have H10 := Lib.hid (show HZ W6 g10 _ by rw [hW6]; exact (H10.out.ext (by omega) ex).far q5 (by omega) _ _)
        have HN5 := Lib.hid (show HZ W6 gk5 _ by rw [hW6]; exact (HN5.out.ext (by omega) ex).far q5 (by omega) _ _)
        have R3 := Lib.hid (show RB W6 _ by rw [hW6]; exact (R3.out.ext ex).far q5 (by omega) _ _)
        have R4 := Lib.hid (show RB W6 _ by rw [hW6]; exact (R4.out.ext ex).far q5 (by omega) _ _)
        have R5 := Lib.hid (show RB W6 _ by rw [hW6]; exact (R5.out.ext ex).far q5 (by omega) _ _)
        have HN6 := Lib.hid (show HZ W6 gm5 _ by rw [hW6]; exact HZ.put q5 z4)
        have E26 : Hid (Ext w W6) := Lib.hid e9
        have HW6 := Lib.hid hW6
        have l5_0 : g4 < W6.heap.size := H8.out.lt
        have l5_1 : g5 < W6.heap.size := H9.out.lt
        have l5_2 : g10 < W6.heap.size := H10.out.lt
        have l5_3 : gk5 < W6.heap.size := HN5.out.lt
        have lr5_0 := R3.out.lt
        have lr5_1 := R4.out.lt
        have lr5_2 := R5.out.lt
        have ln6 := HN6.out.lt
        clear hW6 e9 ex q5 z0 z1 z2 z3 z4
        have hie := ext_ref h0 HG.out HM.out.1 q4.1 q4.2.1 (by rw [← HM.out.2.2]; exact q4.2.2)
        obtain ⟨lgx, lxx, lyy⟩ := ext_lens h0 hie HLL.out.1 HLL.out.2 (by omega)
        have HIE := Lib.hid hie
        have LG := Lib.hid (And.intro lgx (And.intro lxx lyy))
        obtain ⟨yv, hyv⟩ : ∃ yv, yv = (g - r * x4) / t := ⟨_, rfl⟩
        rw [← hyv] at HIE LG
        have HYV := Lib.hid hyv
        clear hie lgx lxx lyy hyv q4
        go_wp2_with fail
        refine NoPanic.normal ?_
        go_upto_region 9 with fail
        rw [← HW6.out]
        clear g30 g31 g32 g33 HW6
        have lm : (dig (r * x4).natAbs).length ≤ 512 := len_times HLL.out.1 LG.out.2.1
        have ln : (dig (g - r * x4).natAbs).length ≤ 999999 := len_diff LG.out.1 lm
        refine wp_region_noPanic ?_
        refine wp_pool 8 [some 51, some 52, some 53, some 54, some 55, some 56, some 57, some 13] [] [7] [(fun (v : Value) (X : World) => ∃ b A n c, v = .agg #[.bool b, .slice A n c] ∧ ZV X (.agg #[.bool b, .slice A n c]) (g)), (fun (v : Value) (X : World) => ∃ b A n c, v = .agg #[.bool b, .slice A n c] ∧ ZV X (.agg #[.bool b, .slice A n c]) (r)), (fun (v : Value) (X : World) => ∃ b A n c, v = .agg #[.bool b, .slice A n c] ∧ ZV X (.agg #[.bool b, .slice A n c]) (x4)), (fun (v : Value) (X : World) => ∃ b A n c, v = .agg #[.bool b, .slice A n c] ∧ ZV X (.agg #[.bool b, .slice A n c]) (r * x4)), (fun (v : Value) (X : World) => ∃ b A n c, v = .agg #[.bool b, .slice A n c] ∧ ZV X (.agg #[.bool b, .slice A n c]) (g - r * x4)), (fun (v : Value) (X : World) => ∃ b A n c, v = .agg #[.bool b, .slice A n c] ∧ ZV X (.agg #[.bool b, .slice A n c]) (t)), (fun (v : Value) (X : World) => ∃ b A n c, v = .agg #[.bool b, .slice A n c] ∧ ZV X (.agg #[.bool b, .slice A n c]) (yv)), (fun (v : Value) (X : World) => ∃ g, v = .pointer (some ⟨g, 0, none⟩) ∧ W6.heap.size ≤ g ∧ RB X g)] [noF, noF, noF, noF, noF, noF, noF, ptrF] (by kernel_rfl) (by kernel_rfl) (by kernel_rfl) (by kernel_rfl) (by kernel_rfl) (by kernel_rfl) (by kernel_rfl) (by kernel_rfl) (fun _ _ _ _ h => h) ⟨(fun _ _ _ e ⟨b, A, n, c, h1, h2⟩ => ⟨b, A, n, c, h1, h2.ext e⟩), (fun _ _ _ e ⟨b, A, n, c, h1, h2⟩ => ⟨b, A, n, c, h1, h2.ext e⟩), (fun _ _ _ e ⟨b, A, n, c, h1, h2⟩ => ⟨b, A, n, c, h1, h2.ext e⟩), (fun _ _ _ e ⟨b, A, n, c, h1, h2⟩ => ⟨b, A, n, c, h1, h2.ext e⟩), (fun _ _ _ e ⟨b, A, n, c, h1, h2⟩ => ⟨b, A, n, c, h1, h2.ext e⟩), (fun _ _ _ e ⟨b, A, n, c, h1, h2⟩ => ⟨b, A, n, c, h1, h2.ext e⟩), (fun _ _ _ e ⟨b, A, n, c, h1, h2⟩ => ⟨b, A, n, c, h1, h2.ext e⟩), (fun _ _ _ e ⟨g, h1, h2, h3⟩ => ⟨g, h1, h2, h3.ext e⟩), True.intro⟩ ?steps ?done
        case steps =>
          simp only [List.take_succ_cons, List.take_zero]
          refine Steps.cons (fun (v : Value) (X : World) => ∃ b A n c, v = .agg #[.bool b, .slice A n c] ∧ ZV X (.agg #[.bool b, .slice A n c]) (g)) [] rfl (by kernel_rfl) rfl (by kernel_rfl) (fun y X ex0 hf K hK => ?_) ?_
          · clear hf
            have ex := (Ext.drw (Ext.refl _)).trans ex0
            refine Box.mk ?_
            simp only [fill, Act.put, Nat.reduceAdd, List.setIfInBounds_toArray, List.set_cons_zero, List.set_cons_succ] at hK ⊢
            obtain ⟨bl, Al, nl, cl, k0, k1, kz⟩ := (H10.out.ext (by omega) ex)
            go_simp
            exact hK.out _ _ ⟨_, _, _, _, rfl, kz⟩ (Ext.refl _) (fun b hb => by cases hb)
          refine Steps.cons (fun (v : Value) (X : World) => ∃ b A n c, v = .agg #[.bool b, .slice A n c] ∧ ZV X (.agg #[.bool b, .slice A n c]) (r)) [] rfl (by kernel_rfl) rfl (by kernel_rfl) (fun y X ex0 hf K hK => ?_) ?_
          · clear hf
            have ex := (Ext.drw (Ext.refl _)).trans ex0
            refine Box.mk ?_
            simp only [fill, Act.put, Nat.reduceAdd, List.setIfInBounds_toArray, List.set_cons_zero, List.set_cons_succ] at hK ⊢
            obtain ⟨bl, Al, nl, cl, k0, k1, kz⟩ := (H8.out.ext (by omega) ex)
            go_simp
            exact hK.out _ _ ⟨_, _, _, _, rfl, kz⟩ (Ext.refl _) (fun b hb => by cases hb)
          refine Steps.cons (fun (v : Value) (X : World) => ∃ b A n c, v = .agg #[.bool b, .slice A n c] ∧ ZV X (.agg #[.bool b, .slice A n c]) (x4)) [] rfl (by kernel_rfl) rfl (by kernel_rfl) (fun y X ex0 hf K hK => ?_) ?_
          · clear hf
            have ex := (Ext.drw (Ext.refl _)).trans ex0
            refine Box.mk ?_
            simp only [fill, Act.put, Nat.reduceAdd, List.setIfInBounds_toArray, List.set_cons_zero, List.set_cons_succ] at hK ⊢
            obtain ⟨bl, Al, nl, cl, k0, k1, kz⟩ := (HN6.out.ext (by omega) ex)
            go_simp
            exact hK.out _ _ ⟨_, _, _, _, rfl, kz⟩ (Ext.refl _) (fun b hb => by cases hb)
          refine Steps.cons (fun (v : Value) (X : World) => ∃ b A n c, v = .agg #[.bool b, .slice A n c] ∧ ZV X (.agg #[.bool b, .slice A n c]) (r * x4)) [1, 2] rfl (by kernel_rfl) rfl (by kernel_rfl) (fun y X ex0 hf K hK => ?_) ?_
          · have hh1 : ((fun (v : Value) (X : World) => ∃ b A n c, v = .agg #[.bool b, .slice A n c] ∧ ZV X (.agg #[.bool b, .slice A n c]) (r))) (y 1) X := hf.1
            refine Exists.elim hh1 (fun b1 hx1_0 => ?_)
            refine Exists.elim hx1_0 (fun A1 hx1_1 => ?_)
            refine Exists.elim hx1_1 (fun n1 hx1_2 => ?_)
            refine Exists.elim hx1_2 (fun c1 hx1_3 => ?_)
            have h1 := hx1_3.1
            have z1 := hx1_3.2
            clear hh1 hx1_0 hx1_1 hx1_2 hx1_3
            have hh2 : ((fun (v : Value) (X : World) => ∃ b A n c, v = .agg #[.bool b, .slice A n c] ∧ ZV X (.agg #[.bool b, .slice A n c]) (x4))) (y 2) X := hf.2.1
            refine Exists.elim hh2 (fun b2 hx2_0 => ?_)
            refine Exists.elim hx2_0 (fun A2 hx2_1 => ?_)
            refine Exists.elim hx2_1 (fun n2 hx2_2 => ?_)
            refine Exists.elim hx2_2 (fun c2 hx2_3 => ?_)
            have h2 := hx2_3.1
            have z2 := hx2_3.2
            clear hh2 hx2_0 hx2_1 hx2_2 hx2_3
            clear hf
            have ex := (Ext.drw (Ext.refl _)).trans ex0
            refine Box.mk ?_
            simp only [fill, Act.put, Nat.reduceAdd, List.setIfInBounds_toArray, List.set_cons_zero, List.set_cons_succ, h1, h2] at hK ⊢
            go_simp
            refine (asAgg (timesRZ_any _ _ _ _ _ z1 z2 (by have := HLL.out; omega) (by have := LG.out; omega))).mono ?_
            rintro e V ⟨b9, A9, n9, c9, rfl, hz, hb⟩
            try go_wp2_with fail
            exact hK.out _ _ ⟨_, _, _, _, rfl, hz⟩ hb (fun b hb => by cases hb)
          refine Steps.cons (fun (v : Value) (X : World) => ∃ b A n c, v = .agg #[.bool b, .slice A n c] ∧ ZV X (.agg #[.bool b, .slice A n c]) (g - r * x4)) [0, 3] rfl (by kernel_rfl) rfl (by kernel_rfl) (fun y X ex0 hf K hK => ?_) ?_
          · have hh0 : ((fun (v : Value) (X : World) => ∃ b A n c, v = .agg #[.bool b, .slice A n c] ∧ ZV X (.agg #[.bool b, .slice A n c]) (g))) (y 0) X := hf.1
            refine Exists.elim hh0 (fun b0 hx0_0 => ?_)
            refine Exists.elim hx0_0 (fun A0 hx0_1 => ?_)
            refine Exists.elim hx0_1 (fun n0 hx0_2 => ?_)
            refine Exists.elim hx0_2 (fun c0 hx0_3 => ?_)
            have h0 := hx0_3.1
            have z0 := hx0_3.2
            clear hh0 hx0_0 hx0_1 hx0_2 hx0_3
            have hh3 : ((fun (v : Value) (X : World) => ∃ b A n c, v = .agg #[.bool b, .slice A n c] ∧ ZV X (.agg #[.bool b, .slice A n c]) (r * x4))) (y 3) X := hf.2.1
            refine Exists.elim hh3 (fun b3 hx3_0 => ?_)
            refine Exists.elim hx3_0 (fun A3 hx3_1 => ?_)
            refine Exists.elim hx3_1 (fun n3 hx3_2 => ?_)
            refine Exists.elim hx3_2 (fun c3 hx3_3 => ?_)
            have h3 := hx3_3.1
            have z3 := hx3_3.2
            clear hh3 hx3_0 hx3_1 hx3_2 hx3_3
            clear hf
            have ex := (Ext.drw (Ext.refl _)).trans ex0
            refine Box.mk ?_
            simp only [fill, Act.put, Nat.reduceAdd, List.setIfInBounds_toArray, List.set_cons_zero, List.set_cons_succ, h0, h3] at hK ⊢
            go_simp
            refine (asAgg (lessRZ_any _ _ _ _ _ z0 z3 (by omega) (by omega))).mono ?_
            rintro e V ⟨b9, A9, n9, c9, rfl, hz, hb⟩
            try go_wp2_with fail
            exact hK.out _ _ ⟨_, _, _, _, rfl, hz⟩ hb (fun b hb => by cases hb)
          refine Steps.cons (fun (v : Value) (X : World) => ∃ b A n c, v = .agg #[.bool b, .slice A n c] ∧ ZV X (.agg #[.bool b, .slice A n c]) (t)) [] rfl (by kernel_rfl) rfl (by kernel_rfl) (fun y X ex0 hf K hK => ?_) ?_
          · clear hf
            have ex := (Ext.drw (Ext.refl _)).trans ex0
            refine Box.mk ?_
            simp only [fill, Act.put, Nat.reduceAdd, List.setIfInBounds_toArray, List.set_cons_zero, List.set_cons_succ] at hK ⊢
            obtain ⟨bl, Al, nl, cl, k0, k1, kz⟩ := (H9.out.ext (by omega) ex)
            go_simp
            exact hK.out _ _ ⟨_, _, _, _, rfl, kz⟩ (Ext.refl _) (fun b hb => by cases hb)
          refine Steps.cons (fun (v : Value) (X : World) => ∃ b A n c, v = .agg #[.bool b, .slice A n c] ∧ ZV X (.agg #[.bool b, .slice A n c]) (yv)) [4, 5] rfl (by kernel_rfl) rfl (by kernel_rfl) (fun y X ex0 hf K hK => ?_) ?_
          · have hh4 : ((fun (v : Value) (X : World) => ∃ b A n c, v = .agg #[.bool b, .slice A n c] ∧ ZV X (.agg #[.bool b, .slice A n c]) (g - r * x4))) (y 4) X := hf.1
            refine Exists.elim hh4 (fun b4 hx4_0 => ?_)
            refine Exists.elim hx4_0 (fun A4 hx4_1 => ?_)
            refine Exists.elim hx4_1 (fun n4 hx4_2 => ?_)
            refine Exists.elim hx4_2 (fun c4 hx4_3 => ?_)
            have h4 := hx4_3.1
            have z4 := hx4_3.2
            clear hh4 hx4_0 hx4_1 hx4_2 hx4_3
            have hh5 : ((fun (v : Value) (X : World) => ∃ b A n c, v = .agg #[.bool b, .slice A n c] ∧ ZV X (.agg #[.bool b, .slice A n c]) (t))) (y 5) X := hf.2.1
            refine Exists.elim hh5 (fun b5 hx5_0 => ?_)
            refine Exists.elim hx5_0 (fun A5 hx5_1 => ?_)
            refine Exists.elim hx5_1 (fun n5 hx5_2 => ?_)
            refine Exists.elim hx5_2 (fun c5 hx5_3 => ?_)
            have h5 := hx5_3.1
            have z5 := hx5_3.2
            clear hh5 hx5_0 hx5_1 hx5_2 hx5_3
            clear hf
            have ex := (Ext.drw (Ext.refl _)).trans ex0
            refine Box.mk ?_
            simp only [fill, Act.put, Nat.reduceAdd, List.setIfInBounds_toArray, List.set_cons_zero, List.set_cons_succ, h4, h5] at hK ⊢
            go_simp
            refine (asAgg (show Calls Try.prog 69 _ X (RetZ X yv) by rw [HYV.out]; exact exactlyR_any _ _ _ _ _ z4 z5 ln (by have := HLL.out; omega) h0)).mono ?_
            rintro e V ⟨b9, A9, n9, c9, rfl, hz, hb⟩
            try go_wp2_with fail
            exact hK.out _ _ ⟨_, _, _, _, rfl, hz⟩ hb (fun b hb => by cases hb)
          refine Steps.cons (fun (v : Value) (X : World) => ∃ g, v = .pointer (some ⟨g, 0, none⟩) ∧ W6.heap.size ≤ g ∧ RB X g) [] rfl (by kernel_rfl) rfl (by kernel_rfl) (fun y X ex0 hf K hK => ?_) ?_
          · clear hf
            have ex := (Ext.drw (Ext.refl _)).trans ex0
            refine Box.mk ?_
            simp only [fill, Act.put, Nat.reduceAdd, List.setIfInBounds_toArray, List.set_cons_zero, List.set_cons_succ] at hK ⊢
            go_simp
            exact hK.out _ _ ⟨X.heap.size, rfl, ex.size, RB.c1 X false none 0 0 34⟩ (Ext.alc (Ext.refl X) (.cells #[.bool false, .slice none 0 0] 34)) (New.ptr (Nat.le_refl _) (by simp))
          exact Steps.nil
        case done =>
          intro y X ex hf hlt hsep
          have hh0 : ((fun (v : Value) (X : World) => ∃ b A n c, v = .agg #[.bool b, .slice A n c] ∧ ZV X (.agg #[.bool b, .slice A n c]) (g))) (y 0) X := hf.1
          refine Exists.elim hh0 (fun b0 hx0_0 => ?_)
          refine Exists.elim hx0_0 (fun A0 hx0_1 => ?_)
          refine Exists.elim hx0_1 (fun n0 hx0_2 => ?_)
          refine Exists.elim hx0_2 (fun c0 hx0_3 => ?_)
          have h0 := hx0_3.1
          have z0 := hx0_3.2
          clear hh0 hx0_0 hx0_1 hx0_2 hx0_3
          have hh1 : ((fun (v : Value) (X : World) => ∃ b A n c, v = .agg #[.bool b, .slice A n c] ∧ ZV X (.agg #[.bool b, .slice A n c]) (r))) (y 1) X := hf.2.1
          refine Exists.elim hh1 (fun b1 hx1_0 => ?_)
          refine Exists.elim hx1_0 (fun A1 hx1_1 => ?_)
          refine Exists.elim hx1_1 (fun n1 hx1_2 => ?_)
          refine Exists.elim hx1_2 (fun c1 hx1_3 => ?_)
          have h1 := hx1_3.1
          have z1 := hx1_3.2
          clear hh1 hx1_0 hx1_1 hx1_2 hx1_3
          have hh2 : ((fun (v : Value) (X : World) => ∃ b A n c, v = .agg #[.bool b, .slice A n c] ∧ ZV X (.agg #[.bool b, .slice A n c]) (x4))) (y 2) X := hf.2.2.1
          refine Exists.elim hh2 (fun b2 hx2_0 => ?_)
          refine Exists.elim hx2_0 (fun A2 hx2_1 => ?_)
          refine Exists.elim hx2_1 (fun n2 hx2_2 => ?_)
          refine Exists.elim hx2_2 (fun c2 hx2_3 => ?_)
          have h2 := hx2_3.1
          have z2 := hx2_3.2
          clear hh2 hx2_0 hx2_1 hx2_2 hx2_3
          have hh3 : ((fun (v : Value) (X : World) => ∃ b A n c, v = .agg #[.bool b, .slice A n c] ∧ ZV X (.agg #[.bool b, .slice A n c]) (r * x4))) (y 3) X := hf.2.2.2.1
          refine Exists.elim hh3 (fun b3 hx3_0 => ?_)
          refine Exists.elim hx3_0 (fun A3 hx3_1 => ?_)
          refine Exists.elim hx3_1 (fun n3 hx3_2 => ?_)
          refine Exists.elim hx3_2 (fun c3 hx3_3 => ?_)
          have h3 := hx3_3.1
          have z3 := hx3_3.2
          clear hh3 hx3_0 hx3_1 hx3_2 hx3_3
          have hh4 : ((fun (v : Value) (X : World) => ∃ b A n c, v = .agg #[.bool b, .slice A n c] ∧ ZV X (.agg #[.bool b, .slice A n c]) (g - r * x4))) (y 4) X := hf.2.2.2.2.1
          refine Exists.elim hh4 (fun b4 hx4_0 => ?_)
          refine Exists.elim hx4_0 (fun A4 hx4_1 => ?_)
          refine Exists.elim hx4_1 (fun n4 hx4_2 => ?_)
          refine Exists.elim hx4_2 (fun c4 hx4_3 => ?_)
          have h4 := hx4_3.1
          have z4 := hx4_3.2
          clear hh4 hx4_0 hx4_1 hx4_2 hx4_3
          have hh5 : ((fun (v : Value) (X : World) => ∃ b A n c, v = .agg #[.bool b, .slice A n c] ∧ ZV X (.agg #[.bool b, .slice A n c]) (t))) (y 5) X := hf.2.2.2.2.2.1
          refine Exists.elim hh5 (fun b5 hx5_0 => ?_)
          refine Exists.elim hx5_0 (fun A5 hx5_1 => ?_)
          refine Exists.elim hx5_1 (fun n5 hx5_2 => ?_)
          refine Exists.elim hx5_2 (fun c5 hx5_3 => ?_)
          have h5 := hx5_3.1
          have z5 := hx5_3.2
          clear hh5 hx5_0 hx5_1 hx5_2 hx5_3
          have hh6 : ((fun (v : Value) (X : World) => ∃ b A n c, v = .agg #[.bool b, .slice A n c] ∧ ZV X (.agg #[.bool b, .slice A n c]) (yv))) (y 6) X := hf.2.2.2.2.2.2.1
          refine Exists.elim hh6 (fun b6 hx6_0 => ?_)
          refine Exists.elim hx6_0 (fun A6 hx6_1 => ?_)
          refine Exists.elim hx6_1 (fun n6 hx6_2 => ?_)
          refine Exists.elim hx6_2 (fun c6 hx6_3 => ?_)
          have h6 := hx6_3.1
          have z6 := hx6_3.2
          clear hh6 hx6_0 hx6_1 hx6_2 hx6_3
          have hh7 : ((fun (v : Value) (X : World) => ∃ g, v = .pointer (some ⟨g, 0, none⟩) ∧ W6.heap.size ≤ g ∧ RB X g)) (y 7) X := hf.2.2.2.2.2.2.2.1
          refine Exists.elim hh7 (fun gk7 hx7_0 => ?_)
          have h7 := hx7_0.1
          have z7 := hx7_0.2.1
          have q7 := hx7_0.2.2
          clear hh7 hx7_0
          clear hf
          clear hsep hlt
          refine Box.mk ?_
          simp only [List.drop_succ_cons, List.drop_zero, fill, Act.put, Nat.reduceAdd, List.setIfInBounds_toArray, List.set_cons_zero, List.set_cons_succ, h0, h1, h2, h3, h4, h5, h6, h7]
          clear h0 h1 h2 h3 h4 h5 h6 h7
          obtain ⟨_, _, _, _, g30, g31, g32, g33⟩ := q7.facts
          obtain ⟨W7, hW7⟩ : ∃ W7, W7 = (X.setCell ⟨gk7, 0, none⟩ (.bool b6)).setCell ⟨gk7, 1, none⟩ (.slice A6 n6 c6) := ⟨_, rfl⟩
          have e9 : Ext w W7 := by rw [hW7]; exact below_set2 (Ext.below (E26.out.trans ex)) (by have := E26.out.size; omega) _ _
          have H10 := Lib.hid (show HZ W7 g10 _ by rw [hW7]; exact (H10.out.ext (by omega) ex).far q7 (by omega) _ _)
          have HN6 := Lib.hid (show HZ W7 gm5 _ by rw [hW7]; exact (HN6.out.ext (by omega) ex).far q7 (by omega) _ _)
          have R3 := Lib.hid (show RB W7 _ by rw [hW7]; exact (R3.out.ext ex).far q7 (by omega) _ _)
          have R4 := Lib.hid (show RB W7 _ by rw [hW7]; exact (R4.out.ext ex).far q7 (by omega) _ _)
          have R5 := Lib.hid (show RB W7 _ by rw [hW7]; exact (R5.out.ext ex).far q7 (by omega) _ _)
          have HN7 := Lib.hid (show HZ W7 gk7 _ by rw [hW7]; exact HZ.put q7 z6)
          have E27 : Hid (Ext w W7) := Lib.hid e9
          have HW7 := Lib.hid hW7
          have l7_0 : g10 < W7.heap.size := H10.out.lt
          have l7_1 : gm5 < W7.heap.size := HN6.out.lt
          have lr7_0 := R3.out.lt
          have lr7_1 := R4.out.lt
          have lr7_2 := R5.out.lt
          have ln7 := HN7.out.lt
          clear hW7 e9 ex q7 z0 z1 z2 z3 z4 z5 z6
          go_wp2_with fail
          refine NoPanic.normal ?_
          go_upto_region 10 with fail
          rw [← HW7.out]
          clear g30 g31 g32 g33 HW7 lm ln
          refine wp_region_noPanic ?_
          refine wp_pool 6 [some 58, some 59, some 60, some 61, some 62, some 63] [] [] [(fun (v : Value) (X : World) => ∃ b A n c, v = .agg #[.bool b, .slice A n c] ∧ ZV X (.agg #[.bool b, .slice A n c]) (g)), (fun (v : Value) (X : World) => ∃ b A n c, v = .agg #[.bool b, .slice A n c] ∧ ZV X (.agg #[.bool b, .slice A n c]) (g)), (fun (v : Value) (X : World) => ∃ b A n c, v = .agg #[.bool b, .slice A n c] ∧ ZV X (.agg #[.bool b, .slice A n c]) (x4)), (fun (v : Value) (X : World) => ∃ b A n c, v = .agg #[.bool b, .slice A n c] ∧ ZV X (.agg #[.bool b, .slice A n c]) (x4)), (fun (v : Value) (X : World) => ∃ b A n c, v = .agg #[.bool b, .slice A n c] ∧ ZV X (.agg #[.bool b, .slice A n c]) (yv)), (fun (v : Value) (X : World) => ∃ b A n c, v = .agg #[.bool b, .slice A n c] ∧ ZV X (.agg #[.bool b, .slice A n c]) (yv))] [noF, noF, noF, noF, noF, noF] (by kernel_rfl) (by kernel_rfl) (by kernel_rfl) (by kernel_rfl) (by kernel_rfl) (by kernel_rfl) (by kernel_rfl) (by kernel_rfl) (fun _ _ _ _ h => h) ⟨(fun _ _ _ e ⟨b, A, n, c, h1, h2⟩ => ⟨b, A, n, c, h1, h2.ext e⟩), (fun _ _ _ e ⟨b, A, n, c, h1, h2⟩ => ⟨b, A, n, c, h1, h2.ext e⟩), (fun _ _ _ e ⟨b, A, n, c, h1, h2⟩ => ⟨b, A, n, c, h1, h2.ext e⟩), (fun _ _ _ e ⟨b, A, n, c, h1, h2⟩ => ⟨b, A, n, c, h1, h2.ext e⟩), (fun _ _ _ e ⟨b, A, n, c, h1, h2⟩ => ⟨b, A, n, c, h1, h2.ext e⟩), (fun _ _ _ e ⟨b, A, n, c, h1, h2⟩ => ⟨b, A, n, c, h1, h2.ext e⟩), True.intro⟩ ?steps ?done
          case steps =>
            simp only [List.take_succ_cons, List.take_zero]
            refine Steps.cons (fun (v : Value) (X : World) => ∃ b A n c, v = .agg #[.bool b, .slice A n c] ∧ ZV X (.agg #[.bool b, .slice A n c]) (g)) [] rfl (by kernel_rfl) rfl (by kernel_rfl) (fun y X ex0 hf K hK => ?_) ?_
            · clear hf
              have ex := (Ext.drw (Ext.refl _)).trans ex0
              refine Box.mk ?_
              simp only [fill, Act.put, Nat.reduceAdd, List.setIfInBounds_toArray, List.set_cons_zero, List.set_cons_succ] at hK ⊢
              obtain ⟨bl, Al, nl, cl, k0, k1, kz⟩ := (H10.out.ext (by omega) ex)
              go_simp
              exact hK.out _ _ ⟨_, _, _, _, rfl, kz⟩ (Ext.refl _) (fun b hb => by cases hb)
            refine Steps.cons (fun (v : Value) (X : World) => ∃ b A n c, v = .agg #[.bool b, .slice A n c] ∧ ZV X (.agg #[.bool b, .slice A n c]) (g)) [0] rfl (by kernel_rfl) rfl (by kernel_rfl) (fun y X ex0 hf K hK => ?_) ?_
            · have hh0 : ((fun (v : Value) (X : World) => ∃ b A n c, v = .agg #[.bool b, .slice A n c] ∧ ZV X (.agg #[.bool b, .slice A n c]) (g))) (y 0) X := hf.1
              refine Exists.elim hh0 (fun b0 hx0_0 => ?_)
              refine Exists.elim hx0_0 (fun A0 hx0_1 => ?_)
              refine Exists.elim hx0_1 (fun n0 hx0_2 => ?_)
              refine Exists.elim hx0_2 (fun c0 hx0_3 => ?_)
              have h0 := hx0_3.1
              have z0 := hx0_3.2
              clear hh0 hx0_0 hx0_1 hx0_2 hx0_3
              clear hf
              have ex := (Ext.drw (Ext.refl _)).trans ex0
              refine Box.mk ?_
              simp only [fill, Act.put, Nat.reduceAdd, List.setIfInBounds_toArray, List.set_cons_zero, List.set_cons_succ, h0] at hK ⊢
              go_simp
              refine (asAgg ((int_any _ _ _ _ _).mono fun e w' ⟨he, hb⟩ => ⟨_, he, (z0).ext hb, hb⟩)).mono ?_
              rintro e V ⟨b9, A9, n9, c9, rfl, hz, hb⟩
              try go_wp2_with fail
              exact hK.out _ _ ⟨_, _, _, _, rfl, hz⟩ hb (fun b hb => by cases hb)
            refine Steps.cons (fun (v : Value) (X : World) => ∃ b A n c, v = .agg #[.bool b, .slice A n c] ∧ ZV X (.agg #[.bool b, .slice A n c]) (x4)) [] rfl (by kernel_rfl) rfl (by kernel_rfl) (fun y X ex0 hf K hK => ?_) ?_
            · clear hf
              have ex := (Ext.drw (Ext.refl _)).trans ex0
              refine Box.mk ?_
              simp only [fill, Act.put, Nat.reduceAdd, List.setIfInBounds_toArray, List.set_cons_zero, List.set_cons_succ] at hK ⊢
              obtain ⟨bl, Al, nl, cl, k0, k1, kz⟩ := (HN6.out.ext (by omega) ex)
              go_simp
              exact hK.out _ _ ⟨_, _, _, _, rfl, kz⟩ (Ext.refl _) (fun b hb => by cases hb)
            refine Steps.cons (fun (v : Value) (X : World) => ∃ b A n c, v = .agg #[.bool b, .slice A n c] ∧ ZV X (.agg #[.bool b, .slice A n c]) (x4)) [2, 1] rfl (by kernel_rfl) rfl (by kernel_rfl) (fun y X ex0 hf K hK => ?_) ?_
            · have hh2 : ((fun (v : Value) (X : World) => ∃ b A n c, v = .agg #[.bool b, .slice A n c] ∧ ZV X (.agg #[.bool b, .slice A n c]) (x4))) (y 2) X := hf.1
              refine Exists.elim hh2 (fun b2 hx2_0 => ?_)
              refine Exists.elim hx2_0 (fun A2 hx2_1 => ?_)
              refine Exists.elim hx2_1 (fun n2 hx2_2 => ?_)
              refine Exists.elim hx2_2 (fun c2 hx2_3 => ?_)
              have h2 := hx2_3.1
              have z2 := hx2_3.2
              clear hh2 hx2_0 hx2_1 hx2_2 hx2_3
              have hh1 : ((fun (v : Value) (X : World) => ∃ b A n c, v = .agg #[.bool b, .slice A n c] ∧ ZV X (.agg #[.bool b, .slice A n c]) (g))) (y 1) X := hf.2.1
              refine Exists.elim hh1 (fun b1 hx1_0 => ?_)
              refine Exists.elim hx1_0 (fun A1 hx1_1 => ?_)
              refine Exists.elim hx1_1 (fun n1 hx1_2 => ?_)
              refine Exists.elim hx1_2 (fun c1 hx1_3 => ?_)
              have h1 := hx1_3.1
              have z1 := hx1_3.2
              clear hh1 hx1_0 hx1_1 hx1_2 hx1_3
              clear hf
              have ex := (Ext.drw (Ext.refl _)).trans ex0
              refine Box.mk ?_
              simp only [fill, Act.put, Nat.reduceAdd, List.setIfInBounds_toArray, List.set_cons_zero, List.set_cons_succ, h2, h1] at hK ⊢
              go_simp
              refine (asAgg ((int_any _ _ _ _ _).mono fun e w' ⟨he, hb⟩ => ⟨_, he, (z2).ext hb, hb⟩)).mono ?_
              rintro e V ⟨b9, A9, n9, c9, rfl, hz, hb⟩
              try go_wp2_with fail
              exact hK.out _ _ ⟨_, _, _, _, rfl, hz⟩ hb (fun b hb => by cases hb)
            refine Steps.cons (fun (v : Value) (X : World) => ∃ b A n c, v = .agg #[.bool b, .slice A n c] ∧ ZV X (.agg #[.bool b, .slice A n c]) (yv)) [] rfl (by kernel_rfl) rfl (by kernel_rfl) (fun y X ex0 hf K hK => ?_) ?_
            · clear hf
              have ex := (Ext.drw (Ext.refl _)).trans ex0
              refine Box.mk ?_
              simp only [fill, Act.put, Nat.reduceAdd, List.setIfInBounds_toArray, List.set_cons_zero, List.set_cons_succ] at hK ⊢
              obtain ⟨bl, Al, nl, cl, k0, k1, kz⟩ := (HN7.out.ext (by omega) ex)
              go_simp
              exact hK.out _ _ ⟨_, _, _, _, rfl, kz⟩ (Ext.refl _) (fun b hb => by cases hb)
            refine Steps.cons (fun (v : Value) (X : World) => ∃ b A n c, v = .agg #[.bool b, .slice A n c] ∧ ZV X (.agg #[.bool b, .slice A n c]) (yv)) [4, 3] rfl (by kernel_rfl) rfl (by kernel_rfl) (fun y X ex0 hf K hK => ?_) ?_
            · have hh4 : ((fun (v : Value) (X : World) => ∃ b A n c, v = .agg #[.bool b, .slice A n c] ∧ ZV X (.agg #[.bool b, .slice A n c]) (yv))) (y 4) X := hf.1
              refine Exists.elim hh4 (fun b4 hx4_0 => ?_)
              refine Exists.elim hx4_0 (fun A4 hx4_1 => ?_)
              refine Exists.elim hx4_1 (fun n4 hx4_2 => ?_)
              refine Exists.elim hx4_2 (fun c4 hx4_3 => ?_)
              have h4 := hx4_3.1
              have z4 := hx4_3.2
              clear hh4 hx4_0 hx4_1 hx4_2 hx4_3
              have hh3 : ((fun (v : Value) (X : World) => ∃ b A n c, v = .agg #[.bool b, .slice A n c] ∧ ZV X (.agg #[.bool b, .slice A n c]) (x4))) (y 3) X := hf.2.1
              refine Exists.elim hh3 (fun b3 hx3_0 => ?_)
              refine Exists.elim hx3_0 (fun A3 hx3_1 => ?_)
              refine Exists.elim hx3_1 (fun n3 hx3_2 => ?_)
              refine Exists.elim hx3_2 (fun c3 hx3_3 => ?_)
              have h3 := hx3_3.1
              have z3 := hx3_3.2
              clear hh3 hx3_0 hx3_1 hx3_2 hx3_3
              clear hf
              have ex := (Ext.drw (Ext.refl _)).trans ex0
              refine Box.mk ?_
              simp only [fill, Act.put, Nat.reduceAdd, List.setIfInBounds_toArray, List.set_cons_zero, List.set_cons_succ, h4, h3] at hK ⊢
              go_simp
              refine (asAgg ((int_any _ _ _ _ _).mono fun e w' ⟨he, hb⟩ => ⟨_, he, (z4).ext hb, hb⟩)).mono ?_
              rintro e V ⟨b9, A9, n9, c9, rfl, hz, hb⟩
              try go_wp2_with fail
              exact hK.out _ _ ⟨_, _, _, _, rfl, hz⟩ hb (fun b hb => by cases hb)
            exact Steps.nil
          case done =>
            intro y X ex hf hlt hsep
            have hh0 : ((fun (v : Value) (X : World) => ∃ b A n c, v = .agg #[.bool b, .slice A n c] ∧ ZV X (.agg #[.bool b, .slice A n c]) (g))) (y 0) X := hf.1
            refine Exists.elim hh0 (fun b0 hx0_0 => ?_)
            refine Exists.elim hx0_0 (fun A0 hx0_1 => ?_)
            refine Exists.elim hx0_1 (fun n0 hx0_2 => ?_)
            refine Exists.elim hx0_2 (fun c0 hx0_3 => ?_)
            have h0 := hx0_3.1
            have z0 := hx0_3.2
            clear hh0 hx0_0 hx0_1 hx0_2 hx0_3
            have hh1 : ((fun (v : Value) (X : World) => ∃ b A n c, v = .agg #[.bool b, .slice A n c] ∧ ZV X (.agg #[.bool b, .slice A n c]) (g))) (y 1) X := hf.2.1
            refine Exists.elim hh1 (fun b1 hx1_0 => ?_)
            refine Exists.elim hx1_0 (fun A1 hx1_1 => ?_)
            refine Exists.elim hx1_1 (fun n1 hx1_2 => ?_)
            refine Exists.elim hx1_2 (fun c1 hx1_3 => ?_)
            have h1 := hx1_3.1
            have z1 := hx1_3.2
            clear hh1 hx1_0 hx1_1 hx1_2 hx1_3
            have hh2 : ((fun (v : Value) (X : World) => ∃ b A n c, v = .agg #[.bool b, .slice A n c] ∧ ZV X (.agg #[.bool b, .slice A n c]) (x4))) (y 2) X := hf.2.2.1
            refine Exists.elim hh2 (fun b2 hx2_0 => ?_)
            refine Exists.elim hx2_0 (fun A2 hx2_1 => ?_)
            refine Exists.elim hx2_1 (fun n2 hx2_2 => ?_)
            refine Exists.elim hx2_2 (fun c2 hx2_3 => ?_)
            have h2 := hx2_3.1
            have z2 := hx2_3.2
            clear hh2 hx2_0 hx2_1 hx2_2 hx2_3
            have hh3 : ((fun (v : Value) (X : World) => ∃ b A n c, v = .agg #[.bool b, .slice A n c] ∧ ZV X (.agg #[.bool b, .slice A n c]) (x4))) (y 3) X := hf.2.2.2.1
            refine Exists.elim hh3 (fun b3 hx3_0 => ?_)
            refine Exists.elim hx3_0 (fun A3 hx3_1 => ?_)
            refine Exists.elim hx3_1 (fun n3 hx3_2 => ?_)
            refine Exists.elim hx3_2 (fun c3 hx3_3 => ?_)
            have h3 := hx3_3.1
            have z3 := hx3_3.2
            clear hh3 hx3_0 hx3_1 hx3_2 hx3_3
            have hh4 : ((fun (v : Value) (X : World) => ∃ b A n c, v = .agg #[.bool b, .slice A n c] ∧ ZV X (.agg #[.bool b, .slice A n c]) (yv))) (y 4) X := hf.2.2.2.2.1
            refine Exists.elim hh4 (fun b4 hx4_0 => ?_)
            refine Exists.elim hx4_0 (fun A4 hx4_1 => ?_)
            refine Exists.elim hx4_1 (fun n4 hx4_2 => ?_)
            refine Exists.elim hx4_2 (fun c4 hx4_3 => ?_)
            have h4 := hx4_3.1
            have z4 := hx4_3.2
            clear hh4 hx4_0 hx4_1 hx4_2 hx4_3
            have hh5 : ((fun (v : Value) (X : World) => ∃ b A n c, v = .agg #[.bool b, .slice A n c] ∧ ZV X (.agg #[.bool b, .slice A n c]) (yv))) (y 5) X := hf.2.2.2.2.2.1
            refine Exists.elim hh5 (fun b5 hx5_0 => ?_)
            refine Exists.elim hx5_0 (fun A5 hx5_1 => ?_)
            refine Exists.elim hx5_1 (fun n5 hx5_2 => ?_)
            refine Exists.elim hx5_2 (fun c5 hx5_3 => ?_)
            have h5 := hx5_3.1
            have z5 := hx5_3.2
            clear hh5 hx5_0 hx5_1 hx5_2 hx5_3
            clear hf
            clear hsep hlt
            refine Box.mk ?_
            simp only [List.drop_succ_cons, List.drop_zero, fill, Act.put, Nat.reduceAdd, List.setIfInBounds_toArray, List.set_cons_zero, List.set_cons_succ, h0, h1, h2, h3, h4, h5]
            clear h0 h1 h2 h3 h4 h5
            have y3 := R3.out.ext ex
            have y4 := R4.out.ext ex
            have y5 := R5.out.ext ex
            obtain ⟨W', hW', ⟨f1, f2, f3, f4, f5, f6⟩, hzv, hbf, T, U⟩ := three_res y3 y4 y5 (show w.heap.size + 1 + 1 + 1 ≠ w.heap.size + 1 + 1 by omega) (show w.heap.size + 1 + 1 + 1 + 1 ≠ w.heap.size + 1 + 1 by omega) (show w.heap.size + 1 + 1 + 1 + 1 ≠ w.heap.size + 1 + 1 + 1 by omega) b1 A1 n1 c1 b3 A3 n3 c3 b5 A5 n5 c5 (Ext.below (E27.out.trans ex)) (by omega) (by omega) (by omega)
            obtain ⟨_, _, _, _, g30, g31, g32, g33⟩ := (y3).facts
            obtain ⟨_, _, _, _, g40, g41, g42, g43⟩ := T.facts
            obtain ⟨_, _, _, _, g50, g51, g52, g53⟩ := U.facts
            have HG2 := Lib.hid (And.intro (hzv _ _ z1) (And.intro (hzv _ _ z3) (And.intro (hzv _ _ z5) (And.intro hbf (And.intro f1 (And.intro f2 (And.intro f3 (And.intro f4 (And.intro f5 f6)))))))))
            have HW' := Lib.hid hW'
            clear hbf f1 f2 f3 f4 f5 f6 hW' T U hzv z0 z1 z2 z3 z4 z5 y3 y4 y5 ex
            go_wp2_with fail
            refine NoPanic.normal ?_
            go_wp2
            rw [← HW'.out]
            obtain ⟨hz1, hz2, hz3, hbf, f1, f2, f3, f4, f5, f6⟩ := HG2.out
            exact bodyPost_ret (v := .tuple #[.agg #[.bool b1, .slice A1 n1 c1], .agg #[.bool b3, .slice A3 n3 c3], .agg #[.bool b5, .slice A5 n5 c5], .int .i64 0]) (by simp [results, Try.results33, go_sem, f1, f2, f3, f4, f5, f6]) rfl ⟨_, _, _, HIE.out, _, _, _, _, _, _, _, _, _, _, _, _, rfl, hz1, hz2, hz3, hbf⟩
/-- the reference's Ext -/
theorem refExt_u (p q : Bool) (A A' : Option Addr) (n c n' c' : Nat) (l l' : List Nat) (w : World) (hx : Wd w (.slice A n c) l) (hy : Wd w (.slice A' n' c') l') :
    Calls Try.prog 33 #[.agg #[.bool p, .slice A n c], .agg #[.bool q, .slice A' n' c']] w fun e w' => ∃ g x y er, ExtIs p q l l' g x y er ∧ RetExt w g x y er e w' := by
  by_cases h : (vld p l && vld q l') = true
  · have h' := h
    simp at h'
    by_cases h0 : numOf q l' = 0
    · exact (refExt_zero p q A A' n c n' c' l l' w hx hy h'.1 h'.2 h0).mono fun e w' k => ⟨_, _, _, _, .inr (.inl ⟨h, h0, rfl, rfl, rfl, rfl⟩), k⟩
    · exact (refExt_yes p q A A' n c n' c' l l' w hx hy h'.1 h'.2 h0).mono fun e w' ⟨g, x, y, hi, k⟩ => ⟨_, _, _, _, .inr (.inr ⟨h, h0, hi, rfl⟩), k⟩
  · have h : (vld p l && vld q l') = false := by simpa using h
    by_cases hp : vld p l = true
    · have hq : vld q l' = false := by rw [hp] at h; simpa using h
      exact (refExt_nob p q A A' n c n' c' l l' w hx hy hp hq).mono fun e w' k => ⟨_, _, _, _, .inl ⟨h, rfl, rfl, rfl, rfl⟩, k⟩
    · exact (refExt_noa p q A A' n c n' c' l l' w hx hy (by simpa using hp)).mono fun e w' k => ⟨_, _, _, _, .inl ⟨h, rfl, rfl, rfl, rfl⟩, k⟩
end Go.Proofs.Ytmlopkkbgpfdnaa
