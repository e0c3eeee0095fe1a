/- Walks: exact.Ext. -/
import Derived.Test.YtmlopkkbgpfdnaaM15
import Derived.Test.YtmlopkkbgpfdnaaM16
import Derived.RegionTactic
import Derived.ChangeAlike
namespace Go.Proofs.Ytmlopkkbgpfdnaa
open Go.RowKit

set_option maxHeartbeats 800000 in
set_option maxRecDepth 100000 in
theorem exactExt_no (p q : Bool) (A A' : Option Addr) (n c n' c' : Nat) (l l' : List Nat) (w : World) (hx : Wd w (.slice A n c) l) (hy : Wd w (.slice A' n' c') l') (hno : (vld p l && vld q l') = false) :
    Calls Try.prog 32 #[.agg #[.bool p, .slice A n c], .agg #[.bool q, .slice A' n' c']] w (RetExt w 0 0 0 2) := by
  obtain ⟨W0, hW0, hH1, hH2, hR3, hR4, hR5, hb0, z0⟩ := five_ext 24 w p q A A' n c n' c' l l' hx hy
  have Hno := Lib.hid hno; clear hno
  have HW0 := Lib.hid hW0; clear hW0
  have HF := Lib.hid (And.intro hH1 (And.intro hH2 (And.intro hR3 (And.intro hR4 (And.intro hR5 (And.intro hb0 z0))))))
  clear hH1 hH2 hR3 hR4 hR5 hb0 z0 hx hy
  go_enter Try.func32, Try.ntmps32
  go_wp2_with fail
  rw [← HW0.out]
  obtain ⟨hH1, hH2, hR3, hR4, hR5, hb0, z0⟩ := HF.out
  clear HF
  obtain ⟨WA, hWA⟩ : ∃ WA, WA = W0.alloc (Obj.cells #[.bool p, .slice A n c, .bool q, .slice A' n' c'] 24) := ⟨_, rfl⟩
  have eA : Ext W0 WA := by rw [hWA]; exact (Ext.refl _).alc _
  have h5 : WA.heap[w.heap.size + 1 + 1 + 1 + 1 + 1]? = some (.cells #[.bool p, .slice A n c, .bool q, .slice A' n' c'] 24 (0, 0)) := by
    have := heap_alloc_new W0 (Obj.cells #[.bool p, .slice A n c, .bool q, .slice A' n' c'] 24)
    rw [z0] at this
    rw [hWA]; exact this
  rw [← hWA]
  clear hWA
  refine (allValid_two p q A A' n c n' c' l l' w _ _ h5 (hH1.ext eA).w (hH2.ext eA).w).mono ?_
  rintro e W1 ⟨rfl, hb1⟩
  replace hb1 : Ext WA W1 := hb1
  rw [Hno.out]
  have x1 := eA.trans hb1
  obtain ⟨W', hW', ⟨f1, f2, f3, f4, f5, f6⟩, hzv, hbf, T, U⟩ := three_res (hR3.ext x1) (hR4.ext x1) (hR5.ext x1) (show w.heap.size + 1 + 1 + 1 ≠ w.heap.size + 1 + 1 by omega) (show w.heap.size + 1 + 1 + 1 + 1 ≠ w.heap.size + 1 + 1 by omega) (show w.heap.size + 1 + 1 + 1 + 1 ≠ w.heap.size + 1 + 1 + 1 by omega) false none 0 0 false none 0 0 false none 0 0 (hb0.trans x1) (by omega) (by omega) (by omega)
  obtain ⟨_, _, _, _, g30, g31, g32, g33⟩ := ((hR3.ext x1)).facts
  obtain ⟨_, _, _, _, g40, g41, g42, g43⟩ := T.facts
  obtain ⟨_, _, _, _, g50, g51, g52, g53⟩ := U.facts
  have HG := Lib.hid (And.intro (zv_zero' W') (And.intro hbf (And.intro f1 (And.intro f2 (And.intro f3 (And.intro f4 (And.intro f5 f6)))))))
  have HW' := Lib.hid hW'
  clear hbf f1 f2 f3 f4 f5 f6 hW' T U hzv hb1 hH1 hH2 hR3 hR4 hR5 hb0 h5 eA x1 HW0
  go_wp2
  rw [← HW'.out]
  obtain ⟨hz, hbf, f1, f2, f3, f4, f5, f6⟩ := HG.out
  exact bodyPost_ret (v := .tuple #[.agg #[.bool false, .slice none 0 0], .agg #[.bool false, .slice none 0 0], .agg #[.bool false, .slice none 0 0], .int .i64 2]) (by simp [results, Try.results32, go_sem, f1, f2, f3, f4, f5, f6]) rfl ⟨_, _, _, _, _, _, _, _, _, _, _, _, rfl, hz, hz, hz, hbf⟩
set_option maxHeartbeats 800000 in
set_option maxRecDepth 100000 in
theorem exactExt_zero (p q : Bool) (A A' : Option Addr) (n c n' c' : Nat) (l l' : List Nat) (w : World) (hx : Wd w (.slice A n c) l) (hy : Wd w (.slice A' n' c') l') (hp : vld p l = true) (hq : vld q l' = true) (h0 : numOf q l' = 0) :
    Calls Try.prog 32 #[.agg #[.bool p, .slice A n c], .agg #[.bool q, .slice A' n' c']] w (RetExt w ((numOf p l).natAbs : Int) (numOf p l).sign 0 0) := by
  obtain ⟨W0, hW0, hH1, hH2, hR3, hR4, hR5, hb0, z0⟩ := five_ext 24 w p q A A' n c n' c' l l' hx hy
  have zx := vld_zv hx hp
  have zy := vld_zv hy hq
  have lx : (dig (numOf p l).natAbs).length ≤ 256 := by rw [vld_dig hx.ok hp]; exact vld_len hp
  have ly : (dig (numOf q l').natAbs).length ≤ 256 := by rw [vld_dig hy.ok hq]; exact vld_len hq
  obtain ⟨r, hr⟩ : ∃ r, r = numOf p l := ⟨_, rfl⟩
  obtain ⟨t, ht⟩ : ∃ t, t = numOf q l' := ⟨_, rfl⟩
  rw [← hr] at zx lx ⊢
  rw [← ht] at zy ly h0
  try rw [← ht]
  clear hr ht
  have hyes : (vld p l && vld q l') = true := by rw [hp, hq]; rfl
  have px : HZ W0 w.heap.size r := ⟨p, A, n, c, hH1.c0, hH1.c1, zx.ext hb0⟩
  have py : HZ W0 (w.heap.size + 1) t := ⟨q, A', n', c', hH2.c0, hH2.c1, zy.ext hb0⟩
  have Hyes := Lib.hid hyes; clear hyes hp hq
  have PX0 := Lib.hid px; clear px
  have PY0 := Lib.hid py; clear py zx zy
  have HLL := Lib.hid (And.intro lx ly); clear lx ly
  have HW0 := Lib.hid hW0; clear hW0
  have HF := Lib.hid (And.intro hH1 (And.intro hH2 (And.intro hR3 (And.intro hR4 (And.intro hR5 (And.intro hb0 z0))))))
  clear hH1 hH2 hR3 hR4 hR5 hb0 z0 hx hy
  go_enter Try.func32, Try.ntmps32
  go_wp2_with fail
  rw [← HW0.out]
  obtain ⟨hH1, hH2, hR3, hR4, hR5, hb0, z0⟩ := HF.out
  clear HF
  obtain ⟨WA, hWA⟩ : ∃ WA, WA = W0.alloc (Obj.cells #[.bool p, .slice A n c, .bool q, .slice A' n' c'] 24) := ⟨_, rfl⟩
  have eA : Ext W0 WA := by rw [hWA]; exact (Ext.refl _).alc _
  have h5 : WA.heap[w.heap.size + 1 + 1 + 1 + 1 + 1]? = some (.cells #[.bool p, .slice A n c, .bool q, .slice A' n' c'] 24 (0, 0)) := by
    have := heap_alloc_new W0 (Obj.cells #[.bool p, .slice A n c, .bool q, .slice A' n' c'] 24)
    rw [z0] at this
    rw [hWA]; exact this
  rw [← hWA]
  clear hWA
  refine (allValid_two p q A A' n c n' c' l l' w _ _ h5 (hH1.ext eA).w (hH2.ext eA).w).mono ?_
  rintro e W1 ⟨rfl, hb1⟩
  replace hb1 : Ext WA W1 := hb1
  rw [Hyes.out]
  have x1 := eA.trans hb1
  have PX := Lib.hid (PX0.out.ext (by omega) x1)
  have PY := Lib.hid (PY0.out.ext (by omega) x1)
  have R3 := Lib.hid (hR3.ext x1)
  have R4 := Lib.hid (hR4.ext x1)
  have R5 := Lib.hid (hR5.ext x1)
  have E1 := Lib.hid (hb0.trans x1)
  have y1 := x1.size
  clear hH1 hH2 hR3 hR4 hR5 hb0 h5 eA x1 hb1 HW0 PX0 PY0
  go_upto_region 3 with fail
  refine wp_region_noPanic ?_
  refine wp_pool 6 [some 21, some 22, some 23, some 24, some 8, some 9] [] [4, 5] [(fun (v : Value) (X : World) => ∃ b A n c, v = .agg #[.bool b, .slice A n c] ∧ ZV X (.agg #[.bool b, .slice A n c]) (r)), (fun (v : Value) (X : World) => ∃ b A n c, v = .agg #[.bool b, .slice A n c] ∧ ZV X (.agg #[.bool b, .slice A n c]) (r)), (fun (v : Value) (X : World) => ∃ b A n c, v = .agg #[.bool b, .slice A n c] ∧ ZV X (.agg #[.bool b, .slice A n c]) (t)), (fun (v : Value) (X : World) => ∃ b A n c, v = .agg #[.bool b, .slice A n c] ∧ ZV X (.agg #[.bool b, .slice A n c]) (t)), (fun (v : Value) (X : World) => ∃ g, v = .pointer (some ⟨g, 0, none⟩) ∧ W1.heap.size ≤ g ∧ RB X g), (fun (v : Value) (X : World) => ∃ g, v = .pointer (some ⟨g, 0, none⟩) ∧ W1.heap.size ≤ g ∧ RB X g)] [noF, noF, noF, noF, ptrF, ptrF] (by kernel_rfl) (by kernel_rfl) (by kernel_rfl) (by kernel_rfl) (by kernel_rfl) (by kernel_rfl) (by kernel_rfl) (by kernel_rfl) (fun _ _ _ _ h => h) ⟨(fun _ _ _ e ⟨b, A, n, c, h1, h2⟩ => ⟨b, A, n, c, h1, h2.ext e⟩), (fun _ _ _ e ⟨b, A, n, c, h1, h2⟩ => ⟨b, A, n, c, h1, h2.ext e⟩), (fun _ _ _ e ⟨b, A, n, c, h1, h2⟩ => ⟨b, A, n, c, h1, h2.ext e⟩), (fun _ _ _ e ⟨b, A, n, c, h1, h2⟩ => ⟨b, A, n, c, h1, h2.ext e⟩), (fun _ _ _ e ⟨g, h1, h2, h3⟩ => ⟨g, h1, h2, h3.ext e⟩), (fun _ _ _ e ⟨g, h1, h2, h3⟩ => ⟨g, h1, h2, h3.ext e⟩), True.intro⟩ ?steps ?done
  case steps =>
    simp only [List.take_succ_cons, List.take_zero]
    refine Steps.cons (fun (v : Value) (X : World) => ∃ b A n c, v = .agg #[.bool b, .slice A n c] ∧ ZV X (.agg #[.bool b, .slice A n c]) (r)) [] rfl (by kernel_rfl) rfl (by kernel_rfl) (fun y X ex0 hf K hK => ?_) ?_
    · clear hf
      have ex := (Ext.drw (Ext.refl _)).trans ex0
      refine Box.mk ?_
      simp only [fill, Act.put, Nat.reduceAdd, List.setIfInBounds_toArray, List.set_cons_zero, List.set_cons_succ] at hK ⊢
      obtain ⟨bl, Al, nl, cl, k0, k1, kz⟩ := (PX.out.ext (by omega) ex)
      go_simp
      exact hK.out _ _ ⟨_, _, _, _, rfl, kz⟩ (Ext.refl _) (fun b hb => by cases hb)
    refine Steps.cons (fun (v : Value) (X : World) => ∃ b A n c, v = .agg #[.bool b, .slice A n c] ∧ ZV X (.agg #[.bool b, .slice A n c]) (r)) [0] rfl (by kernel_rfl) rfl (by kernel_rfl) (fun y X ex0 hf K hK => ?_) ?_
    · have hh0 : ((fun (v : Value) (X : World) => ∃ b A n c, v = .agg #[.bool b, .slice A n c] ∧ ZV X (.agg #[.bool b, .slice A n c]) (r))) (y 0) X := hf.1
      refine Exists.elim hh0 (fun b0 hx0_0 => ?_)
      refine Exists.elim hx0_0 (fun A0 hx0_1 => ?_)
      refine Exists.elim hx0_1 (fun n0 hx0_2 => ?_)
      refine Exists.elim hx0_2 (fun c0 hx0_3 => ?_)
      have h0 := hx0_3.1
      have z0 := hx0_3.2
      clear hh0 hx0_0 hx0_1 hx0_2 hx0_3
      clear hf
      have ex := (Ext.drw (Ext.refl _)).trans ex0
      refine Box.mk ?_
      simp only [fill, Act.put, Nat.reduceAdd, List.setIfInBounds_toArray, List.set_cons_zero, List.set_cons_succ, h0] at hK ⊢
      go_simp
      refine (asAgg ((wholeOf_any _ _ _ _ _).mono fun e w' ⟨he, hb⟩ => ⟨_, he, (z0).ext hb, hb⟩)).mono ?_
      rintro e V ⟨b9, A9, n9, c9, rfl, hz, hb⟩
      try go_wp2_with fail
      exact hK.out _ _ ⟨_, _, _, _, rfl, hz⟩ hb (fun b hb => by cases hb)
    refine Steps.cons (fun (v : Value) (X : World) => ∃ b A n c, v = .agg #[.bool b, .slice A n c] ∧ ZV X (.agg #[.bool b, .slice A n c]) (t)) [] rfl (by kernel_rfl) rfl (by kernel_rfl) (fun y X ex0 hf K hK => ?_) ?_
    · clear hf
      have ex := (Ext.drw (Ext.refl _)).trans ex0
      refine Box.mk ?_
      simp only [fill, Act.put, Nat.reduceAdd, List.setIfInBounds_toArray, List.set_cons_zero, List.set_cons_succ] at hK ⊢
      obtain ⟨bl, Al, nl, cl, k0, k1, kz⟩ := (PY.out.ext (by omega) ex)
      go_simp
      exact hK.out _ _ ⟨_, _, _, _, rfl, kz⟩ (Ext.refl _) (fun b hb => by cases hb)
    refine Steps.cons (fun (v : Value) (X : World) => ∃ b A n c, v = .agg #[.bool b, .slice A n c] ∧ ZV X (.agg #[.bool b, .slice A n c]) (t)) [2, 1] rfl (by kernel_rfl) rfl (by kernel_rfl) (fun y X ex0 hf K hK => ?_) ?_
    · have hh2 : ((fun (v : Value) (X : World) => ∃ b A n c, v = .agg #[.bool b, .slice A n c] ∧ ZV X (.agg #[.bool b, .slice A n c]) (t))) (y 2) X := hf.1
      refine Exists.elim hh2 (fun b2 hx2_0 => ?_)
      refine Exists.elim hx2_0 (fun A2 hx2_1 => ?_)
      refine Exists.elim hx2_1 (fun n2 hx2_2 => ?_)
      refine Exists.elim hx2_2 (fun c2 hx2_3 => ?_)
      have h2 := hx2_3.1
      have z2 := hx2_3.2
      clear hh2 hx2_0 hx2_1 hx2_2 hx2_3
      have hh1 : ((fun (v : Value) (X : World) => ∃ b A n c, v = .agg #[.bool b, .slice A n c] ∧ ZV X (.agg #[.bool b, .slice A n c]) (r))) (y 1) X := hf.2.1
      refine Exists.elim hh1 (fun b1 hx1_0 => ?_)
      refine Exists.elim hx1_0 (fun A1 hx1_1 => ?_)
      refine Exists.elim hx1_1 (fun n1 hx1_2 => ?_)
      refine Exists.elim hx1_2 (fun c1 hx1_3 => ?_)
      have h1 := hx1_3.1
      have z1 := hx1_3.2
      clear hh1 hx1_0 hx1_1 hx1_2 hx1_3
      clear hf
      have ex := (Ext.drw (Ext.refl _)).trans ex0
      refine Box.mk ?_
      simp only [fill, Act.put, Nat.reduceAdd, List.setIfInBounds_toArray, List.set_cons_zero, List.set_cons_succ, h2, h1] at hK ⊢
      go_simp
      refine (asAgg ((wholeOf_any _ _ _ _ _).mono fun e w' ⟨he, hb⟩ => ⟨_, he, (z2).ext hb, hb⟩)).mono ?_
      rintro e V ⟨b9, A9, n9, c9, rfl, hz, hb⟩
      try go_wp2_with fail
      exact hK.out _ _ ⟨_, _, _, _, rfl, hz⟩ hb (fun b hb => by cases hb)
    refine Steps.cons (fun (v : Value) (X : World) => ∃ g, v = .pointer (some ⟨g, 0, none⟩) ∧ W1.heap.size ≤ g ∧ RB X g) [] rfl (by kernel_rfl) rfl (by kernel_rfl) (fun y X ex0 hf K hK => ?_) ?_
    · clear hf
      have ex := (Ext.drw (Ext.refl _)).trans ex0
      refine Box.mk ?_
      simp only [fill, Act.put, Nat.reduceAdd, List.setIfInBounds_toArray, List.set_cons_zero, List.set_cons_succ] at hK ⊢
      go_simp
      exact hK.out _ _ ⟨X.heap.size, rfl, ex.size, RB.c1 X false none 0 0 60⟩ (Ext.alc (Ext.refl X) (.cells #[.bool false, .slice none 0 0] 60)) (New.ptr (Nat.le_refl _) (by simp))
    refine Steps.cons (fun (v : Value) (X : World) => ∃ g, v = .pointer (some ⟨g, 0, none⟩) ∧ W1.heap.size ≤ g ∧ RB X g) [] rfl (by kernel_rfl) rfl (by kernel_rfl) (fun y X ex0 hf K hK => ?_) ?_
    · clear hf
      have ex := (Ext.drw (Ext.refl _)).trans ex0
      refine Box.mk ?_
      simp only [fill, Act.put, Nat.reduceAdd, List.setIfInBounds_toArray, List.set_cons_zero, List.set_cons_succ] at hK ⊢
      go_simp
      exact hK.out _ _ ⟨X.heap.size, rfl, ex.size, RB.c1 X false none 0 0 60⟩ (Ext.alc (Ext.refl X) (.cells #[.bool false, .slice none 0 0] 60)) (New.ptr (Nat.le_refl _) (by simp))
    exact Steps.nil
  case done =>
    intro y X ex hf hlt hsep
    have hh0 : ((fun (v : Value) (X : World) => ∃ b A n c, v = .agg #[.bool b, .slice A n c] ∧ ZV X (.agg #[.bool b, .slice A n c]) (r))) (y 0) X := hf.1
    refine Exists.elim hh0 (fun b0 hx0_0 => ?_)
    refine Exists.elim hx0_0 (fun A0 hx0_1 => ?_)
    refine Exists.elim hx0_1 (fun n0 hx0_2 => ?_)
    refine Exists.elim hx0_2 (fun c0 hx0_3 => ?_)
    have h0 := hx0_3.1
    have z0 := hx0_3.2
    clear hh0 hx0_0 hx0_1 hx0_2 hx0_3
    have hh1 : ((fun (v : Value) (X : World) => ∃ b A n c, v = .agg #[.bool b, .slice A n c] ∧ ZV X (.agg #[.bool b, .slice A n c]) (r))) (y 1) X := hf.2.1
    refine Exists.elim hh1 (fun b1 hx1_0 => ?_)
    refine Exists.elim hx1_0 (fun A1 hx1_1 => ?_)
    refine Exists.elim hx1_1 (fun n1 hx1_2 => ?_)
    refine Exists.elim hx1_2 (fun c1 hx1_3 => ?_)
    have h1 := hx1_3.1
    have z1 := hx1_3.2
    clear hh1 hx1_0 hx1_1 hx1_2 hx1_3
    have hh2 : ((fun (v : Value) (X : World) => ∃ b A n c, v = .agg #[.bool b, .slice A n c] ∧ ZV X (.agg #[.bool b, .slice A n c]) (t))) (y 2) X := hf.2.2.1
    refine Exists.elim hh2 (fun b2 hx2_0 => ?_)
    refine Exists.elim hx2_0 (fun A2 hx2_1 => ?_)
    refine Exists.elim hx2_1 (fun n2 hx2_2 => ?_)
    refine Exists.elim hx2_2 (fun c2 hx2_3 => ?_)
    have h2 := hx2_3.1
    have z2 := hx2_3.2
    clear hh2 hx2_0 hx2_1 hx2_2 hx2_3
    have hh3 : ((fun (v : Value) (X : World) => ∃ b A n c, v = .agg #[.bool b, .slice A n c] ∧ ZV X (.agg #[.bool b, .slice A n c]) (t))) (y 3) X := hf.2.2.2.1
    refine Exists.elim hh3 (fun b3 hx3_0 => ?_)
    refine Exists.elim hx3_0 (fun A3 hx3_1 => ?_)
    refine Exists.elim hx3_1 (fun n3 hx3_2 => ?_)
    refine Exists.elim hx3_2 (fun c3 hx3_3 => ?_)
    have h3 := hx3_3.1
    have z3 := hx3_3.2
    clear hh3 hx3_0 hx3_1 hx3_2 hx3_3
    have hh4 : ((fun (v : Value) (X : World) => ∃ g, v = .pointer (some ⟨g, 0, none⟩) ∧ W1.heap.size ≤ g ∧ RB X g)) (y 4) X := hf.2.2.2.2.1
    refine Exists.elim hh4 (fun g4 hx4_0 => ?_)
    have h4 := hx4_0.1
    have z4 := hx4_0.2.1
    have q4 := hx4_0.2.2
    clear hh4 hx4_0
    have hh5 : ((fun (v : Value) (X : World) => ∃ g, v = .pointer (some ⟨g, 0, none⟩) ∧ W1.heap.size ≤ g ∧ RB X g)) (y 5) X := hf.2.2.2.2.2.1
    refine Exists.elim hh5 (fun g5 hx5_0 => ?_)
    have h5 := hx5_0.1
    have z5 := hx5_0.2.1
    have q5 := hx5_0.2.2
    clear hh5 hx5_0
    clear hf
    have n4_5 : g4 ≠ g5 := sep_ne (hsep 4 5 (by decide) (by decide) (by decide) (by decide)) h4 h5
    clear hsep hlt
    refine Box.mk ?_
    simp only [List.drop_succ_cons, List.drop_zero, fill, Act.put, Nat.reduceAdd, List.setIfInBounds_toArray, List.set_cons_zero, List.set_cons_succ, h0, h1, h2, h3, h4, h5]
    clear h0 h1 h2 h3 h4 h5
    have y3 := R3.out.ext ex
    have y4 := R4.out.ext ex
    have y5 := R5.out.ext ex
    have l3 := y3.lt
    have l4 := y4.lt
    have l5 := y5.lt
    obtain ⟨W', hW', m1, m2, m3, m4, m5, m6, -, -, -⟩ := two_putH q4 q5 (Ne.symm n4_5) b1 A1 n1 c1 b3 A3 n3 c3 z1 z3 (Ext.below (E1.out.trans ex)) (by omega) (by omega)
    have r3 := m6 _ y3 (by omega) (by omega)
    have r4 := m6 _ y4 (by omega) (by omega)
    have r5 := m6 _ y5 (by omega) (by omega)
    obtain ⟨_, _, _, _, g30, g31, g32, g33⟩ := q4.facts
    have T := q5.far q4 (Ne.symm n4_5) (.bool b1) (.slice A1 n1 c1)
    obtain ⟨_, _, _, _, g50, g51, g52, g53⟩ := T.facts
    have HM := Lib.hid (And.intro m1 (And.intro m2 (And.intro r3 (And.intro r4 (And.intro r5 m5)))))
    have HW' := Lib.hid hW'
    clear hW' m1 m2 m3 m4 m5 m6 r3 r4 r5 T y3 y4 y5 ex z0 z1 z2 z3 l3 l4 l5 R3 R4 R5 PX PY q4 q5 n4_5
    go_wp2_with fail
    refine NoPanic.normal ?_
    go_upto_region 4 with fail
    rw [← HW'.out]
    clear g30 g31 g32 g33 g50 g51 g52 g53 HW'
    have lx4 := HM.out.1.lt
    have ly4 := HM.out.2.1.lt
    obtain ⟨b9, A9, n9, c9, j0, j1, jz⟩ := HM.out.2.1
    have JZ := Lib.hid jz; clear jz
    go_wp2_with fail
    refine (signZ_any t _ _ JZ.out).mono ?_
    rintro e W3 ⟨rfl, x3⟩
    replace x3 : Ext W' W3 := x3
    have H8 := Lib.hid (HM.out.1.ext lx4 x3)
    have H9 := Lib.hid (HM.out.2.1.ext ly4 x3)
    have R3 := Lib.hid (HM.out.2.2.1.ext x3)
    have R4 := Lib.hid (HM.out.2.2.2.1.ext x3)
    have R5 := Lib.hid (HM.out.2.2.2.2.1.ext x3)
    have E3 : Hid (Ext w W3) := Lib.hid (Ext.trans HM.out.2.2.2.2.2 x3)
    have lx5 : g4 < W3.heap.size := H8.out.lt
    have ly5 : g5 < W3.heap.size := H9.out.lt
    have l30 := R3.out.lt
    have l40 := R4.out.lt
    have l50 := R5.out.lt
    clear x3 HM JZ j0 j1
    subst h0
    rw [show Int.sign 0 = 0 from rfl]
    have hs1 := sign_bd r
    go_upto_region 5 with fail
    refine wp_region_noPanic ?_
    refine wp_pool 7 [some 28, some 29, some 30, some 31, some 32, some 33, some 34] [(6, 0)] [] [(fun (v : Value) (X : World) => ∃ b A n c, v = .agg #[.bool b, .slice A n c] ∧ ZV X (.agg #[.bool b, .slice A n c]) (r)), (fun (v : Value) (X : World) => ∃ b A n c, v = .agg #[.bool b, .slice A n c] ∧ ZV X (.agg #[.bool b, .slice A n c]) ((r.natAbs : Int))), (fun (v : Value) (X : World) => ∃ b A n c, v = .agg #[.bool b, .slice A n c] ∧ ZV X (.agg #[.bool b, .slice A n c]) ((r.natAbs : Int))), (fun (v : Value) (X : World) => ∃ b A n c, v = .agg #[.bool b, .slice A n c] ∧ ZV X (.agg #[.bool b, .slice A n c]) (r)), (fun (v : Value) (_ : World) => v = .int .i64 r.sign), (fun (v : Value) (X : World) => ∃ b A n c, v = .agg #[.bool b, .slice A n c] ∧ ZV X (.agg #[.bool b, .slice A n c]) (r.sign)), (fun (v : Value) (_ : World) => v = .agg #[.bool false, .slice none 0 0])] [noF, noF, noF, noF, noF, noF, noF] (by kernel_rfl) (by kernel_rfl) (by kernel_rfl) (by kernel_rfl) (by kernel_rfl) (by kernel_rfl) (by kernel_rfl) (by kernel_rfl) (fun _ _ _ _ h => h) ⟨(fun _ _ _ e ⟨b, A, n, c, h1, h2⟩ => ⟨b, A, n, c, h1, h2.ext e⟩), (fun _ _ _ e ⟨b, A, n, c, h1, h2⟩ => ⟨b, A, n, c, h1, h2.ext e⟩), (fun _ _ _ e ⟨b, A, n, c, h1, h2⟩ => ⟨b, A, n, c, h1, h2.ext e⟩), (fun _ _ _ e ⟨b, A, n, c, h1, h2⟩ => ⟨b, A, n, c, h1, h2.ext e⟩), Stays.pure _, (fun _ _ _ e ⟨b, A, n, c, h1, h2⟩ => ⟨b, A, n, c, h1, h2.ext e⟩), Stays.pure _, True.intro⟩ ?steps ?done
    case steps =>
      simp only [List.take_succ_cons, List.take_zero]
      refine Steps.cons (fun (v : Value) (X : World) => ∃ b A n c, v = .agg #[.bool b, .slice A n c] ∧ ZV X (.agg #[.bool b, .slice A n c]) (r)) [] rfl (by kernel_rfl) rfl (by kernel_rfl) (fun y X ex0 hf K hK => ?_) ?_
      · clear hf
        have ex := (Ext.drw (Ext.refl _)).trans ex0
        refine Box.mk ?_
        simp only [fill, Act.put, Nat.reduceAdd, List.setIfInBounds_toArray, List.set_cons_zero, List.set_cons_succ] at hK ⊢
        obtain ⟨bl, Al, nl, cl, k0, k1, kz⟩ := (H8.out.ext (by omega) ex)
        go_simp
        exact hK.out _ _ ⟨_, _, _, _, rfl, kz⟩ (Ext.refl _) (fun b hb => by cases hb)
      refine Steps.cons (fun (v : Value) (X : World) => ∃ b A n c, v = .agg #[.bool b, .slice A n c] ∧ ZV X (.agg #[.bool b, .slice A n c]) ((r.natAbs : Int))) [0] rfl (by kernel_rfl) rfl (by kernel_rfl) (fun y X ex0 hf K hK => ?_) ?_
      · have hh0 : ((fun (v : Value) (X : World) => ∃ b A n c, v = .agg #[.bool b, .slice A n c] ∧ ZV X (.agg #[.bool b, .slice A n c]) (r))) (y 0) X := hf.1
        refine Exists.elim hh0 (fun b0 hx0_0 => ?_)
        refine Exists.elim hx0_0 (fun A0 hx0_1 => ?_)
        refine Exists.elim hx0_1 (fun n0 hx0_2 => ?_)
        refine Exists.elim hx0_2 (fun c0 hx0_3 => ?_)
        have h0 := hx0_3.1
        have z0 := hx0_3.2
        clear hh0 hx0_0 hx0_1 hx0_2 hx0_3
        clear hf
        have ex := (Ext.drw (Ext.refl _)).trans ex0
        refine Box.mk ?_
        simp only [fill, Act.put, Nat.reduceAdd, List.setIfInBounds_toArray, List.set_cons_zero, List.set_cons_succ, h0] at hK ⊢
        go_simp
        refine (asAgg (absoluteZ_any _ _ _ z0)).mono ?_
        rintro e V ⟨b9, A9, n9, c9, rfl, hz, hb⟩
        try go_wp2_with fail
        exact hK.out _ _ ⟨_, _, _, _, rfl, hz⟩ hb (fun b hb => by cases hb)
      refine Steps.cons (fun (v : Value) (X : World) => ∃ b A n c, v = .agg #[.bool b, .slice A n c] ∧ ZV X (.agg #[.bool b, .slice A n c]) ((r.natAbs : Int))) [1] rfl (by kernel_rfl) rfl (by kernel_rfl) (fun y X ex0 hf K hK => ?_) ?_
      · have hh1 : ((fun (v : Value) (X : World) => ∃ b A n c, v = .agg #[.bool b, .slice A n c] ∧ ZV X (.agg #[.bool b, .slice A n c]) ((r.natAbs : Int)))) (y 1) X := hf.1
        refine Exists.elim hh1 (fun b1 hx1_0 => ?_)
        refine Exists.elim hx1_0 (fun A1 hx1_1 => ?_)
        refine Exists.elim hx1_1 (fun n1 hx1_2 => ?_)
        refine Exists.elim hx1_2 (fun c1 hx1_3 => ?_)
        have h1 := hx1_3.1
        have z1 := hx1_3.2
        clear hh1 hx1_0 hx1_1 hx1_2 hx1_3
        clear hf
        have ex := (Ext.drw (Ext.refl _)).trans ex0
        refine Box.mk ?_
        simp only [fill, Act.put, Nat.reduceAdd, List.setIfInBounds_toArray, List.set_cons_zero, List.set_cons_succ, h1] at hK ⊢
        go_simp
        refine (asAgg (intOf_any _ _ _ z1 (by rw [Int.natAbs_natCast]; have := HLL.out.1; omega))).mono ?_
        rintro e V ⟨b9, A9, n9, c9, rfl, hz, hb⟩
        try go_wp2_with fail
        exact hK.out _ _ ⟨_, _, _, _, rfl, hz⟩ hb (fun b hb => by cases hb)
      refine Steps.cons (fun (v : Value) (X : World) => ∃ b A n c, v = .agg #[.bool b, .slice A n c] ∧ ZV X (.agg #[.bool b, .slice A n c]) (r)) [] rfl (by kernel_rfl) rfl (by kernel_rfl) (fun y X ex0 hf K hK => ?_) ?_
      · clear hf
        have ex := (Ext.drw (Ext.refl _)).trans ex0
        refine Box.mk ?_
        simp only [fill, Act.put, Nat.reduceAdd, List.setIfInBounds_toArray, List.set_cons_zero, List.set_cons_succ] at hK ⊢
        obtain ⟨bl, Al, nl, cl, k0, k1, kz⟩ := (H8.out.ext (by omega) ex)
        go_simp
        exact hK.out _ _ ⟨_, _, _, _, rfl, kz⟩ (Ext.refl _) (fun b hb => by cases hb)
      refine Steps.cons (fun (v : Value) (_ : World) => v = .int .i64 r.sign) [3, 2] rfl (by kernel_rfl) rfl (by kernel_rfl) (fun y X ex0 hf K hK => ?_) ?_
      · have hh3 : ((fun (v : Value) (X : World) => ∃ b A n c, v = .agg #[.bool b, .slice A n c] ∧ ZV X (.agg #[.bool b, .slice A n c]) (r))) (y 3) X := hf.1
        refine Exists.elim hh3 (fun b3 hx3_0 => ?_)
        refine Exists.elim hx3_0 (fun A3 hx3_1 => ?_)
        refine Exists.elim hx3_1 (fun n3 hx3_2 => ?_)
        refine Exists.elim hx3_2 (fun c3 hx3_3 => ?_)
        have h3 := hx3_3.1
        have z3 := hx3_3.2
        clear hh3 hx3_0 hx3_1 hx3_2 hx3_3
        have hh2 : ((fun (v : Value) (X : World) => ∃ b A n c, v = .agg #[.bool b, .slice A n c] ∧ ZV X (.agg #[.bool b, .slice A n c]) ((r.natAbs : Int)))) (y 2) X := hf.2.1
        refine Exists.elim hh2 (fun b2 hx2_0 => ?_)
        refine Exists.elim hx2_0 (fun A2 hx2_1 => ?_)
        refine Exists.elim hx2_1 (fun n2 hx2_2 => ?_)
        refine Exists.elim hx2_2 (fun c2 hx2_3 => ?_)
        have h2 := hx2_3.1
        have z2 := hx2_3.2
        clear hh2 hx2_0 hx2_1 hx2_2 hx2_3
        clear hf
        have ex := (Ext.drw (Ext.refl _)).trans ex0
        refine Box.mk ?_
        simp only [fill, Act.put, Nat.reduceAdd, List.setIfInBounds_toArray, List.set_cons_zero, List.set_cons_succ, h3, h2] at hK ⊢
        go_simp
        refine (signZ_any r _ _ z3).mono ?_
        rintro e V ⟨rfl, hb⟩
        try go_wp2_with fail
        exact hK.out _ _ rfl hb (fun b hb => by cases hb)
      refine Steps.cons (fun (v : Value) (X : World) => ∃ b A n c, v = .agg #[.bool b, .slice A n c] ∧ ZV X (.agg #[.bool b, .slice A n c]) (r.sign)) [4] rfl (by kernel_rfl) rfl (by kernel_rfl) (fun y X ex0 hf K hK => ?_) ?_
      · have h4 : ((fun (v : Value) (_ : World) => v = .int .i64 r.sign)) (y 4) X := hf.1
        clear hf
        have ex := (Ext.drw (Ext.refl _)).trans ex0
        refine Box.mk ?_
        simp only [fill, Act.put, Nat.reduceAdd, List.setIfInBounds_toArray, List.set_cons_zero, List.set_cons_succ, h4] at hK ⊢
        go_simp
        refine (asAgg (fromInt_any r.sign _ (by omega) (by omega))).mono ?_
        rintro e V ⟨b9, A9, n9, c9, rfl, hz, hb⟩
        try go_wp2_with fail
        exact hK.out _ _ ⟨_, _, _, _, rfl, hz⟩ hb (fun b hb => by cases hb)
      refine Steps.flw (fun (v : Value) (_ : World) => v = .agg #[.bool false, .slice none 0 0]) [] rfl (by kernel_rfl) (by kernel_rfl) (fun _ => rfl) (fun y X ex0 hf => ?_) ?_
      · clear hf
        simp only [fill, Act.put, Nat.reduceAdd, List.setIfInBounds_toArray, List.set_cons_zero, List.set_cons_succ]
        exact ⟨_, ⟨by rfl, fun w => by go_simp⟩, rfl⟩
      exact Steps.nil
    case done =>
      intro y X ex hf hlt hsep
      have hh0 : ((fun (v : Value) (X : World) => ∃ b A n c, v = .agg #[.bool b, .slice A n c] ∧ ZV X (.agg #[.bool b, .slice A n c]) (r))) (y 0) X := hf.1
      refine Exists.elim hh0 (fun b0 hx0_0 => ?_)
      refine Exists.elim hx0_0 (fun A0 hx0_1 => ?_)
      refine Exists.elim hx0_1 (fun n0 hx0_2 => ?_)
      refine Exists.elim hx0_2 (fun c0 hx0_3 => ?_)
      have h0 := hx0_3.1
      have z0 := hx0_3.2
      clear hh0 hx0_0 hx0_1 hx0_2 hx0_3
      have hh1 : ((fun (v : Value) (X : World) => ∃ b A n c, v = .agg #[.bool b, .slice A n c] ∧ ZV X (.agg #[.bool b, .slice A n c]) ((r.natAbs : Int)))) (y 1) X := hf.2.1
      refine Exists.elim hh1 (fun b1 hx1_0 => ?_)
      refine Exists.elim hx1_0 (fun A1 hx1_1 => ?_)
      refine Exists.elim hx1_1 (fun n1 hx1_2 => ?_)
      refine Exists.elim hx1_2 (fun c1 hx1_3 => ?_)
      have h1 := hx1_3.1
      have z1 := hx1_3.2
      clear hh1 hx1_0 hx1_1 hx1_2 hx1_3
      have hh2 : ((fun (v : Value) (X : World) => ∃ b A n c, v = .agg #[.bool b, .slice A n c] ∧ ZV X (.agg #[.bool b, .slice A n c]) ((r.natAbs : Int)))) (y 2) X := hf.2.2.1
      refine Exists.elim hh2 (fun b2 hx2_0 => ?_)
      refine Exists.elim hx2_0 (fun A2 hx2_1 => ?_)
      refine Exists.elim hx2_1 (fun n2 hx2_2 => ?_)
      refine Exists.elim hx2_2 (fun c2 hx2_3 => ?_)
      have h2 := hx2_3.1
      have z2 := hx2_3.2
      clear hh2 hx2_0 hx2_1 hx2_2 hx2_3
      have hh3 : ((fun (v : Value) (X : World) => ∃ b A n c, v = .agg #[.bool b, .slice A n c] ∧ ZV X (.agg #[.bool b, .slice A n c]) (r))) (y 3) X := hf.2.2.2.1
      refine Exists.elim hh3 (fun b3 hx3_0 => ?_)
      refine Exists.elim hx3_0 (fun A3 hx3_1 => ?_)
      refine Exists.elim hx3_1 (fun n3 hx3_2 => ?_)
      refine Exists.elim hx3_2 (fun c3 hx3_3 => ?_)
      have h3 := hx3_3.1
      have z3 := hx3_3.2
      clear hh3 hx3_0 hx3_1 hx3_2 hx3_3
      have h4 : ((fun (v : Value) (_ : World) => v = .int .i64 r.sign)) (y 4) X := hf.2.2.2.2.1
      have hh5 : ((fun (v : Value) (X : World) => ∃ b A n c, v = .agg #[.bool b, .slice A n c] ∧ ZV X (.agg #[.bool b, .slice A n c]) (r.sign))) (y 5) X := hf.2.2.2.2.2.1
      refine Exists.elim hh5 (fun b5 hx5_0 => ?_)
      refine Exists.elim hx5_0 (fun A5 hx5_1 => ?_)
      refine Exists.elim hx5_1 (fun n5 hx5_2 => ?_)
      refine Exists.elim hx5_2 (fun c5 hx5_3 => ?_)
      have h5 := hx5_3.1
      have z5 := hx5_3.2
      clear hh5 hx5_0 hx5_1 hx5_2 hx5_3
      have h6 : ((fun (v : Value) (_ : World) => v = .agg #[.bool false, .slice none 0 0])) (y 6) X := hf.2.2.2.2.2.2.1
      clear hf
      clear hsep hlt
      refine Box.mk ?_
      simp only [List.drop_succ_cons, List.drop_zero, fill, Act.put, Nat.reduceAdd, List.setIfInBounds_toArray, List.set_cons_zero, List.set_cons_succ, h0, h1, h2, h3, h4, h5, h6]
      clear h0 h1 h2 h3 h4 h5 h6
      have y3 := R3.out.ext ex
      have y4 := R4.out.ext ex
      have y5 := R5.out.ext ex
      obtain ⟨W', hW', ⟨f1, f2, f3, f4, f5, f6⟩, hzv, hbf, T, U⟩ := three_res y3 y4 y5 (show w.heap.size + 1 + 1 + 1 ≠ w.heap.size + 1 + 1 by omega) (show w.heap.size + 1 + 1 + 1 + 1 ≠ w.heap.size + 1 + 1 by omega) (show w.heap.size + 1 + 1 + 1 + 1 ≠ w.heap.size + 1 + 1 + 1 by omega) b2 A2 n2 c2 b5 A5 n5 c5 false none 0 0 (Ext.below (E3.out.trans ex)) (by omega) (by omega) (by omega)
      obtain ⟨_, _, _, _, g30, g31, g32, g33⟩ := (y3).facts
      obtain ⟨_, _, _, _, g40, g41, g42, g43⟩ := T.facts
      obtain ⟨_, _, _, _, g50, g51, g52, g53⟩ := U.facts
      have HG := Lib.hid (And.intro (hzv _ _ z2) (And.intro (hzv _ _ z5) (And.intro (zv_zero' W') (And.intro hbf (And.intro f1 (And.intro f2 (And.intro f3 (And.intro f4 (And.intro f5 f6)))))))))
      have HW' := Lib.hid hW'
      clear hbf f1 f2 f3 f4 f5 f6 hW' T U hzv z0 z1 z2 z3 z5 y3 y4 y5 ex R3 R4 R5 E3 H8 H9
      go_wp2_with fail
      refine NoPanic.normal ?_
      go_wp2
      rw [← HW'.out]
      obtain ⟨hz1, hz2, hz3, hbf, f1, f2, f3, f4, f5, f6⟩ := HG.out
      exact bodyPost_ret (v := .tuple #[.agg #[.bool b2, .slice A2 n2 c2], .agg #[.bool b5, .slice A5 n5 c5], .agg #[.bool false, .slice none 0 0], .int .i64 0]) (by simp [results, Try.results32, go_sem, f1, f2, f3, f4, f5, f6]) rfl ⟨_, _, _, _, _, _, _, _, _, _, _, _, rfl, hz1, hz2, hz3, hbf⟩
set_option maxHeartbeats 800000 in
set_option maxRecDepth 100000 in
theorem exactExt_yes (p q : Bool) (A A' : Option Addr) (n c n' c' : Nat) (l l' : List Nat) (w : World) (hx : Wd w (.slice A n c) l) (hy : Wd w (.slice A' n' c') l') (hp : vld p l = true) (hq : vld q l' = true) (h0 : numOf q l' ≠ 0) :
    Calls Try.prog 32 #[.agg #[.bool p, .slice A n c], .agg #[.bool q, .slice A' n' c']] w fun e w' => ∃ g x y, IsExt (numOf p l) (numOf q l') g x y ∧ RetExt w g x y 0 e w' := by
  obtain ⟨W0, hW0, hH1, hH2, hR3, hR4, hR5, hb0, z0⟩ := five_ext 24 w p q A A' n c n' c' l l' hx hy
  have zx := vld_zv hx hp
  have zy := vld_zv hy hq
  have lx : (dig (numOf p l).natAbs).length ≤ 256 := by rw [vld_dig hx.ok hp]; exact vld_len hp
  have ly : (dig (numOf q l').natAbs).length ≤ 256 := by rw [vld_dig hy.ok hq]; exact vld_len hq
  obtain ⟨r, hr⟩ : ∃ r, r = numOf p l := ⟨_, rfl⟩
  obtain ⟨t, ht⟩ : ∃ t, t = numOf q l' := ⟨_, rfl⟩
  rw [← hr] at zx lx ⊢
  rw [← ht] at zy ly h0
  try rw [← ht]
  clear hr ht
  have hyes : (vld p l && vld q l') = true := by rw [hp, hq]; rfl
  have px : HZ W0 w.heap.size r := ⟨p, A, n, c, hH1.c0, hH1.c1, zx.ext hb0⟩
  have py : HZ W0 (w.heap.size + 1) t := ⟨q, A', n', c', hH2.c0, hH2.c1, zy.ext hb0⟩
  have Hyes := Lib.hid hyes; clear hyes hp hq
  have PX0 := Lib.hid px; clear px
  have PY0 := Lib.hid py; clear py zx zy
  have HLL := Lib.hid (And.intro lx ly); clear lx ly
  have HW0 := Lib.hid hW0; clear hW0
  have HF := Lib.hid (And.intro hH1 (And.intro hH2 (And.intro hR3 (And.intro hR4 (And.intro hR5 (And.intro hb0 z0))))))
  clear hH1 hH2 hR3 hR4 hR5 hb0 z0 hx hy
  go_enter Try.func32, Try.ntmps32
  go_wp2_with fail
  rw [← HW0.out]
  obtain ⟨hH1, hH2, hR3, hR4, hR5, hb0, z0⟩ := HF.out
  clear HF
  obtain ⟨WA, hWA⟩ : ∃ WA, WA = W0.alloc (Obj.cells #[.bool p, .slice A n c, .bool q, .slice A' n' c'] 24) := ⟨_, rfl⟩
  have eA : Ext W0 WA := by rw [hWA]; exact (Ext.refl _).alc _
  have h5 : WA.heap[w.heap.size + 1 + 1 + 1 + 1 + 1]? = some (.cells #[.bool p, .slice A n c, .bool q, .slice A' n' c'] 24 (0, 0)) := by
    have := heap_alloc_new W0 (Obj.cells #[.bool p, .slice A n c, .bool q, .slice A' n' c'] 24)
    rw [z0] at this
    rw [hWA]; exact this
  rw [← hWA]
  clear hWA
  refine (allValid_two p q A A' n c n' c' l l' w _ _ h5 (hH1.ext eA).w (hH2.ext eA).w).mono ?_
  rintro e W1 ⟨rfl, hb1⟩
  replace hb1 : Ext WA W1 := hb1
  rw [Hyes.out]
  have x1 := eA.trans hb1
  have PX := Lib.hid (PX0.out.ext (by omega) x1)
  have PY := Lib.hid (PY0.out.ext (by omega) x1)
  have R3 := Lib.hid (hR3.ext x1)
  have R4 := Lib.hid (hR4.ext x1)
  have R5 := Lib.hid (hR5.ext x1)
  have E1 := Lib.hid (hb0.trans x1)
  have y1 := x1.size
  clear hH1 hH2 hR3 hR4 hR5 hb0 h5 eA x1 hb1 HW0 PX0 PY0
  go_upto_region 3 with fail
  refine wp_region_noPanic ?_
  refine wp_pool 6 [some 21, some 22, some 23, some 24, some 8, some 9] [] [4, 5] [(fun (v : Value) (X : World) => ∃ b A n c, v = .agg #[.bool b, .slice A n c] ∧ ZV X (.agg #[.bool b, .slice A n c]) (r)), (fun (v : Value) (X : World) => ∃ b A n c, v = .agg #[.bool b, .slice A n c] ∧ ZV X (.agg #[.bool b, .slice A n c]) (r)), (fun (v : Value) (X : World) => ∃ b A n c, v = .agg #[.bool b, .slice A n c] ∧ ZV X (.agg #[.bool b, .slice A n c]) (t)), (fun (v : Value) (X : World) => ∃ b A n c, v = .agg #[.bool b, .slice A n c] ∧ ZV X (.agg #[.bool b, .slice A n c]) (t)), (fun (v : Value) (X : World) => ∃ g, v = .pointer (some ⟨g, 0, none⟩) ∧ W1.heap.size ≤ g ∧ RB X g), (fun (v : Value) (X : World) => ∃ g, v = .pointer (some ⟨g, 0, none⟩) ∧ W1.heap.size ≤ g ∧ RB X g)] [noF, noF, noF, noF, ptrF, ptrF] (by kernel_rfl) (by kernel_rfl) (by kernel_rfl) (by kernel_rfl) (by kernel_rfl) (by kernel_rfl) (by kernel_rfl) (by kernel_rfl) (fun _ _ _ _ h => h) ⟨(fun _ _ _ e ⟨b, A, n, c, h1, h2⟩ => ⟨b, A, n, c, h1, h2.ext e⟩), (fun _ _ _ e ⟨b, A, n, c, h1, h2⟩ => ⟨b, A, n, c, h1, h2.ext e⟩), (fun _ _ _ e ⟨b, A, n, c, h1, h2⟩ => ⟨b, A, n, c, h1, h2.ext e⟩), (fun _ _ _ e ⟨b, A, n, c, h1, h2⟩ => ⟨b, A, n, c, h1, h2.ext e⟩), (fun _ _ _ e ⟨g, h1, h2, h3⟩ => ⟨g, h1, h2, h3.ext e⟩), (fun _ _ _ e ⟨g, h1, h2, h3⟩ => ⟨g, h1, h2, h3.ext e⟩), True.intro⟩ ?steps ?done
  case steps =>
    simp only [List.take_succ_cons, List.take_zero]
    refine Steps.cons (fun (v : Value) (X : World) => ∃ b A n c, v = .agg #[.bool b, .slice A n c] ∧ ZV X (.agg #[.bool b, .slice A n c]) (r)) [] rfl (by kernel_rfl) rfl (by kernel_rfl) (fun y X ex0 hf K hK => ?_) ?_
    · clear hf
      have ex := (Ext.drw (Ext.refl _)).trans ex0
      refine Box.mk ?_
      simp only [fill, Act.put, Nat.reduceAdd, List.setIfInBounds_toArray, List.set_cons_zero, List.set_cons_succ] at hK ⊢
      obtain ⟨bl, Al, nl, cl, k0, k1, kz⟩ := (PX.out.ext (by omega) ex)
      go_simp
      exact hK.out _ _ ⟨_, _, _, _, rfl, kz⟩ (Ext.refl _) (fun b hb => by cases hb)
    refine Steps.cons (fun (v : Value) (X : World) => ∃ b A n c, v = .agg #[.bool b, .slice A n c] ∧ ZV X (.agg #[.bool b, .slice A n c]) (r)) [0] rfl (by kernel_rfl) rfl (by kernel_rfl) (fun y X ex0 hf K hK => ?_) ?_
    · have hh0 : ((fun (v : Value) (X : World) => ∃ b A n c, v = .agg #[.bool b, .slice A n c] ∧ ZV X (.agg #[.bool b, .slice A n c]) (r))) (y 0) X := hf.1
      refine Exists.elim hh0 (fun b0 hx0_0 => ?_)
      refine Exists.elim hx0_0 (fun A0 hx0_1 => ?_)
      refine Exists.elim hx0_1 (fun n0 hx0_2 => ?_)
      refine Exists.elim hx0_2 (fun c0 hx0_3 => ?_)
      have h0 := hx0_3.1
      have z0 := hx0_3.2
      clear hh0 hx0_0 hx0_1 hx0_2 hx0_3
      clear hf
      have ex := (Ext.drw (Ext.refl _)).trans ex0
      refine Box.mk ?_
      simp only [fill, Act.put, Nat.reduceAdd, List.setIfInBounds_toArray, List.set_cons_zero, List.set_cons_succ, h0] at hK ⊢
      go_simp
      refine (asAgg ((wholeOf_any _ _ _ _ _).mono fun e w' ⟨he, hb⟩ => ⟨_, he, (z0).ext hb, hb⟩)).mono ?_
      rintro e V ⟨b9, A9, n9, c9, rfl, hz, hb⟩
      try go_wp2_with fail
      exact hK.out _ _ ⟨_, _, _, _, rfl, hz⟩ hb (fun b hb => by cases hb)
    refine Steps.cons (fun (v : Value) (X : World) => ∃ b A n c, v = .agg #[.bool b, .slice A n c] ∧ ZV X (.agg #[.bool b, .slice A n c]) (t)) [] rfl (by kernel_rfl) rfl (by kernel_rfl) (fun y X ex0 hf K hK => ?_) ?_
    · clear hf
      have ex := (Ext.drw (Ext.refl _)).trans ex0
      refine Box.mk ?_
      simp only [fill, Act.put, Nat.reduceAdd, List.setIfInBounds_toArray, List.set_cons_zero, List.set_cons_succ] at hK ⊢
      obtain ⟨bl, Al, nl, cl, k0, k1, kz⟩ := (PY.out.ext (by omega) ex)
      go_simp
      exact hK.out _ _ ⟨_, _, _, _, rfl, kz⟩ (Ext.refl _) (fun b hb => by cases hb)
    refine Steps.cons (fun (v : Value) (X : World) => ∃ b A n c, v = .agg #[.bool b, .slice A n c] ∧ ZV X (.agg #[.bool b, .slice A n c]) (t)) [2, 1] rfl (by kernel_rfl) rfl (by kernel_rfl) (fun y X ex0 hf K hK => ?_) ?_
    · have hh2 : ((fun (v : Value) (X : World) => ∃ b A n c, v = .agg #[.bool b, .slice A n c] ∧ ZV X (.agg #[.bool b, .slice A n c]) (t))) (y 2) X := hf.1
      refine Exists.elim hh2 (fun b2 hx2_0 => ?_)
      refine Exists.elim hx2_0 (fun A2 hx2_1 => ?_)
      refine Exists.elim hx2_1 (fun n2 hx2_2 => ?_)
      refine Exists.elim hx2_2 (fun c2 hx2_3 => ?_)
      have h2 := hx2_3.1
      have z2 := hx2_3.2
      clear hh2 hx2_0 hx2_1 hx2_2 hx2_3
      have hh1 : ((fun (v : Value) (X : World) => ∃ b A n c, v = .agg #[.bool b, .slice A n c] ∧ ZV X (.agg #[.bool b, .slice A n c]) (r))) (y 1) X := hf.2.1
      refine Exists.elim hh1 (fun b1 hx1_0 => ?_)
      refine Exists.elim hx1_0 (fun A1 hx1_1 => ?_)
      refine Exists.elim hx1_1 (fun n1 hx1_2 => ?_)
      refine Exists.elim hx1_2 (fun c1 hx1_3 => ?_)
      have h1 := hx1_3.1
      have z1 := hx1_3.2
      clear hh1 hx1_0 hx1_1 hx1_2 hx1_3
      clear hf
      have ex := (Ext.drw (Ext.refl _)).trans ex0
      refine Box.mk ?_
      simp only [fill, Act.put, Nat.reduceAdd, List.setIfInBounds_toArray, List.set_cons_zero, List.set_cons_succ, h2, h1] at hK ⊢
      go_simp
      refine (asAgg ((wholeOf_any _ _ _ _ _).mono fun e w' ⟨he, hb⟩ => ⟨_, he, (z2).ext hb, hb⟩)).mono ?_
      rintro e V ⟨b9, A9, n9, c9, rfl, hz, hb⟩
      try go_wp2_with fail
      exact hK.out _ _ ⟨_, _, _, _, rfl, hz⟩ hb (fun b hb => by cases hb)
    refine Steps.cons (fun (v : Value) (X : World) => ∃ g, v = .pointer (some ⟨g, 0, none⟩) ∧ W1.heap.size ≤ g ∧ RB X g) [] rfl (by kernel_rfl) rfl (by kernel_rfl) (fun y X ex0 hf K hK => ?_) ?_
    · clear hf
      have ex := (Ext.drw (Ext.refl _)).trans ex0
      refine Box.mk ?_
      simp only [fill, Act.put, Nat.reduceAdd, List.setIfInBounds_toArray, List.set_cons_zero, List.set_cons_succ] at hK ⊢
      go_simp
      exact hK.out _ _ ⟨X.heap.size, rfl, ex.size, RB.c1 X false none 0 0 60⟩ (Ext.alc (Ext.refl X) (.cells #[.bool false, .slice none 0 0] 60)) (New.ptr (Nat.le_refl _) (by simp))
    refine Steps.cons (fun (v : Value) (X : World) => ∃ g, v = .pointer (some ⟨g, 0, none⟩) ∧ W1.heap.size ≤ g ∧ RB X g) [] rfl (by kernel_rfl) rfl (by kernel_rfl) (fun y X ex0 hf K hK => ?_) ?_
    · clear hf
      have ex := (Ext.drw (Ext.refl _)).trans ex0
      refine Box.mk ?_
      simp only [fill, Act.put, Nat.reduceAdd, List.setIfInBounds_toArray, List.set_cons_zero, List.set_cons_succ] at hK ⊢
      go_simp
      exact hK.out _ _ ⟨X.heap.size, rfl, ex.size, RB.c1 X false none 0 0 60⟩ (Ext.alc (Ext.refl X) (.cells #[.bool false, .slice none 0 0] 60)) (New.ptr (Nat.le_refl _) (by simp))
    exact Steps.nil
  case done =>
    intro y X ex hf hlt hsep
    have hh0 : ((fun (v : Value) (X : World) => ∃ b A n c, v = .agg #[.bool b, .slice A n c] ∧ ZV X (.agg #[.bool b, .slice A n c]) (r))) (y 0) X := hf.1
    refine Exists.elim hh0 (fun b0 hx0_0 => ?_)
    refine Exists.elim hx0_0 (fun A0 hx0_1 => ?_)
    refine Exists.elim hx0_1 (fun n0 hx0_2 => ?_)
    refine Exists.elim hx0_2 (fun c0 hx0_3 => ?_)
    have h0 := hx0_3.1
    have z0 := hx0_3.2
    clear hh0 hx0_0 hx0_1 hx0_2 hx0_3
    have hh1 : ((fun (v : Value) (X : World) => ∃ b A n c, v = .agg #[.bool b, .slice A n c] ∧ ZV X (.agg #[.bool b, .slice A n c]) (r))) (y 1) X := hf.2.1
    refine Exists.elim hh1 (fun b1 hx1_0 => ?_)
    refine Exists.elim hx1_0 (fun A1 hx1_1 => ?_)
    refine Exists.elim hx1_1 (fun n1 hx1_2 => ?_)
    refine Exists.elim hx1_2 (fun c1 hx1_3 => ?_)
    have h1 := hx1_3.1
    have z1 := hx1_3.2
    clear hh1 hx1_0 hx1_1 hx1_2 hx1_3
    have hh2 : ((fun (v : Value) (X : World) => ∃ b A n c, v = .agg #[.bool b, .slice A n c] ∧ ZV X (.agg #[.bool b, .slice A n c]) (t))) (y 2) X := hf.2.2.1
    refine Exists.elim hh2 (fun b2 hx2_0 => ?_)
    refine Exists.elim hx2_0 (fun A2 hx2_1 => ?_)
    refine Exists.elim hx2_1 (fun n2 hx2_2 => ?_)
    refine Exists.elim hx2_2 (fun c2 hx2_3 => ?_)
    have h2 := hx2_3.1
    have z2 := hx2_3.2
    clear hh2 hx2_0 hx2_1 hx2_2 hx2_3
    have hh3 : ((fun (v : Value) (X : World) => ∃ b A n c, v = .agg #[.bool b, .slice A n c] ∧ ZV X (.agg #[.bool b, .slice A n c]) (t))) (y 3) X := hf.2.2.2.1
    refine Exists.elim hh3 (fun b3 hx3_0 => ?_)
    refine Exists.elim hx3_0 (fun A3 hx3_1 => ?_)
    refine Exists.elim hx3_1 (fun n3 hx3_2 => ?_)
    refine Exists.elim hx3_2 (fun c3 hx3_3 => ?_)
    have h3 := hx3_3.1
    have z3 := hx3_3.2
    clear hh3 hx3_0 hx3_1 hx3_2 hx3_3
    have hh4 : ((fun (v : Value) (X : World) => ∃ g, v = .pointer (some ⟨g, 0, none⟩) ∧ W1.heap.size ≤ g ∧ RB X g)) (y 4) X := hf.2.2.2.2.1
    refine Exists.elim hh4 (fun g4 hx4_0 => ?_)
    have h4 := hx4_0.1
    have z4 := hx4_0.2.1
    have q4 := hx4_0.2.2
    clear hh4 hx4_0
    have hh5 : ((fun (v : Value) (X : World) => ∃ g, v = .pointer (some ⟨g, 0, none⟩) ∧ W1.heap.size ≤ g ∧ RB X g)) (y 5) X := hf.2.2.2.2.2.1
    refine Exists.elim hh5 (fun g5 hx5_0 => ?_)
    have h5 := hx5_0.1
    have z5 := hx5_0.2.1
    have q5 := hx5_0.2.2
    clear hh5 hx5_0
    clear hf
    have n4_5 : g4 ≠ g5 := sep_ne (hsep 4 5 (by decide) (by decide) (by decide) (by decide)) h4 h5
    clear hsep hlt
    refine Box.mk ?_
    simp only [List.drop_succ_cons, List.drop_zero, fill, Act.put, Nat.reduceAdd, List.setIfInBounds_toArray, List.set_cons_zero, List.set_cons_succ, h0, h1, h2, h3, h4, h5]
    clear h0 h1 h2 h3 h4 h5
    have y3 := R3.out.ext ex
    have y4 := R4.out.ext ex
    have y5 := R5.out.ext ex
    have l3 := y3.lt
    have l4 := y4.lt
    have l5 := y5.lt
    obtain ⟨W', hW', m1, m2, m3, m4, m5, m6, -, -, -⟩ := two_putH q4 q5 (Ne.symm n4_5) b1 A1 n1 c1 b3 A3 n3 c3 z1 z3 (Ext.below (E1.out.trans ex)) (by omega) (by omega)
    have r3 := m6 _ y3 (by omega) (by omega)
    have r4 := m6 _ y4 (by omega) (by omega)
    have r5 := m6 _ y5 (by omega) (by omega)
    obtain ⟨_, _, _, _, g30, g31, g32, g33⟩ := q4.facts
    have T := q5.far q4 (Ne.symm n4_5) (.bool b1) (.slice A1 n1 c1)
    obtain ⟨_, _, _, _, g50, g51, g52, g53⟩ := T.facts
    have HM := Lib.hid (And.intro m1 (And.intro m2 (And.intro r3 (And.intro r4 (And.intro r5 m5)))))
    have HW' := Lib.hid hW'
    clear hW' m1 m2 m3 m4 m5 m6 r3 r4 r5 T y3 y4 y5 ex z0 z1 z2 z3 l3 l4 l5 R3 R4 R5 PX PY q4 q5 n4_5
    go_wp2_with fail
    refine NoPanic.normal ?_
    go_upto_region 4 with fail
    rw [← HW'.out]
    clear g30 g31 g32 g33 g50 g51 g52 g53 HW'
    have lx4 := HM.out.1.lt
    have ly4 := HM.out.2.1.lt
    obtain ⟨b9, A9, n9, c9, j0, j1, jz⟩ := HM.out.2.1
    have JZ := Lib.hid jz; clear jz
    go_wp2_with fail
    refine (signZ_any t _ _ JZ.out).mono ?_
    rintro e W3 ⟨rfl, x3⟩
    replace x3 : Ext W' W3 := x3
    have H8 := Lib.hid (HM.out.1.ext lx4 x3)
    have H9 := Lib.hid (HM.out.2.1.ext ly4 x3)
    have R3 := Lib.hid (HM.out.2.2.1.ext x3)
    have R4 := Lib.hid (HM.out.2.2.2.1.ext x3)
    have R5 := Lib.hid (HM.out.2.2.2.2.1.ext x3)
    have E3 : Hid (Ext w W3) := Lib.hid (Ext.trans HM.out.2.2.2.2.2 x3)
    have lx5 : g4 < W3.heap.size := H8.out.lt
    have ly5 : g5 < W3.heap.size := H9.out.lt
    have l30 := R3.out.lt
    have l40 := R4.out.lt
    have l50 := R5.out.lt
    clear x3 HM JZ j0 j1
    obtain ⟨sv, hsv⟩ : ∃ s, s = t.sign := ⟨_, rfl⟩
    have hsv0 : (sv == 0) = false := by
      have : sv ≠ 0 := by rw [hsv]; exact fun h => h0 (Int.sign_eq_zero_iff_zero.1 h)
      simpa using this
    rw [← hsv]
    clear hsv
    go_upto_region 6 with fail
    obtain ⟨b8, A8, n8, c8, k0, k1, kz⟩ := H8.out
    obtain ⟨b9, A9, n9, c9, j0, j1, jz⟩ := H9.out
    have KZ := Lib.hid kz; have JZ := Lib.hid jz; clear kz jz hsv0
    go_wp2_with fail
    refine (extended_any r t _ _ _ 256 KZ.out JZ.out h0 HLL.out.1 HLL.out.2 (by omega) (by omega)).mono ?_
    rintro e w4 ⟨g, x, yv, hie, h⟩
    obtain ⟨b10, A10, n10, c10, b11, A11, n11, c11, rfl, hz1, hz2, x4⟩ := zz_shape h
    replace x4 : Ext W3 w4 := x4
    clear h k0 k1 j0 j1 KZ JZ
    have HIE := Lib.hid hie
    obtain ⟨lg, lxx, lyy⟩ := ext_lens h0 hie HLL.out.1 HLL.out.2 (by omega)
    have hy := ext_y h0 hie
    clear hie
    have HZ1 := Lib.hid hz1; have HZ2 := Lib.hid hz2; have X4 := Lib.hid x4; clear hz1 hz2 x4
    have LG := Lib.hid (And.intro lg (And.intro lxx lyy)); clear lg lxx lyy
    have HY := Lib.hid hy; clear hy
    go_upto_region 7 with fail
    obtain ⟨W5, hW5⟩ : ∃ W5, W5 = (w4.alloc (Obj.cells #[.bool b10, .slice A10 n10 c10] 60)).alloc (Obj.cells #[.bool b11, .slice A11 n11 c11] 60) := ⟨_, rfl⟩
    have e5 : Ext W3 W5 := by rw [hW5]; exact (X4.out.alc _).alc _
    obtain ⟨i7, i8⟩ := hz_new w4 b10 A10 n10 c10 b11 A11 n11 c11 60 HZ1.out HZ2.out
    rw [← hW5] at i7 i8 ⊢
    have l7 := i7.lt
    have l8 := i8.lt
    have I7 := Lib.hid i7; have I8 := Lib.hid i8; clear i7 i8 hW5
    have H85 := Lib.hid (H8.out.ext lx5 e5)
    have H95 := Lib.hid (H9.out.ext ly5 e5)
    have lx6 : g4 < W5.heap.size := H85.out.lt
    have ly6 : g5 < W5.heap.size := H95.out.lt
    have Q3 := Lib.hid (R3.out.ext e5)
    have Q4 := Lib.hid (R4.out.ext e5)
    have Q5 := Lib.hid (R5.out.ext e5)
    have E5 : Hid (Ext w W5) := Lib.hid (E3.out.trans e5)
    have l31 := Q3.out.lt
    have l41 := Q4.out.lt
    have l51 := Q5.out.lt
    obtain ⟨g7, hg7⟩ : ∃ k, k = w4.heap.size := ⟨_, rfl⟩
    rw [← hg7] at I7 I8 l7 l8 ⊢
    clear hg7 e5 H8 H9 R3 R4 R5 E3 X4 HZ1 HZ2 lx5 ly5 l30 l40 l50
    have lm : (dig (r * x).natAbs).length ≤ 512 := len_times HLL.out.1 LG.out.2.1
    have ln : (dig (g - r * x).natAbs).length ≤ 999999 := by
      have h1 : (g - r * x).natAbs ≤ g.natAbs + (r * x).natAbs := by omega
      exact Nat.le_trans (len_mono h1) (len_sum LG.out.1 lm)
    refine wp_region_noPanic ?_
    refine wp_pool 8 [some 41, some 42, some 43, some 44, some 45, some 46, some 47, some 12] [] [7] [(fun (v : Value) (X : World) => ∃ b A n c, v = .agg #[.bool b, .slice A n c] ∧ ZV X (.agg #[.bool b, .slice A n c]) (g)), (fun (v : Value) (X : World) => ∃ b A n c, v = .agg #[.bool b, .slice A n c] ∧ ZV X (.agg #[.bool b, .slice A n c]) (r)), (fun (v : Value) (X : World) => ∃ b A n c, v = .agg #[.bool b, .slice A n c] ∧ ZV X (.agg #[.bool b, .slice A n c]) (x)), (fun (v : Value) (X : World) => ∃ b A n c, v = .agg #[.bool b, .slice A n c] ∧ ZV X (.agg #[.bool b, .slice A n c]) (r * x)), (fun (v : Value) (X : World) => ∃ b A n c, v = .agg #[.bool b, .slice A n c] ∧ ZV X (.agg #[.bool b, .slice A n c]) (g - r * x)), (fun (v : Value) (X : World) => ∃ b A n c, v = .agg #[.bool b, .slice A n c] ∧ ZV X (.agg #[.bool b, .slice A n c]) (t)), (fun (v : Value) (X : World) => ∃ b A n c, v = .agg #[.bool b, .slice A n c] ∧ ZV X (.agg #[.bool b, .slice A n c]) ((g - r * x) / t)), (fun (v : Value) (X : World) => ∃ g, v = .pointer (some ⟨g, 0, none⟩) ∧ W5.heap.size ≤ g ∧ RB X g)] [noF, noF, noF, noF, noF, noF, noF, ptrF] (by kernel_rfl) (by kernel_rfl) (by kernel_rfl) (by kernel_rfl) (by kernel_rfl) (by kernel_rfl) (by kernel_rfl) (by kernel_rfl) (fun _ _ _ _ h => h) ⟨(fun _ _ _ e ⟨b, A, n, c, h1, h2⟩ => ⟨b, A, n, c, h1, h2.ext e⟩), (fun _ _ _ e ⟨b, A, n, c, h1, h2⟩ => ⟨b, A, n, c, h1, h2.ext e⟩), (fun _ _ _ e ⟨b, A, n, c, h1, h2⟩ => ⟨b, A, n, c, h1, h2.ext e⟩), (fun _ _ _ e ⟨b, A, n, c, h1, h2⟩ => ⟨b, A, n, c, h1, h2.ext e⟩), (fun _ _ _ e ⟨b, A, n, c, h1, h2⟩ => ⟨b, A, n, c, h1, h2.ext e⟩), (fun _ _ _ e ⟨b, A, n, c, h1, h2⟩ => ⟨b, A, n, c, h1, h2.ext e⟩), (fun _ _ _ e ⟨b, A, n, c, h1, h2⟩ => ⟨b, A, n, c, h1, h2.ext e⟩), (fun _ _ _ e ⟨g, h1, h2, h3⟩ => ⟨g, h1, h2, h3.ext e⟩), True.intro⟩ ?steps ?done
    case steps =>
      simp only [List.take_succ_cons, List.take_zero]
      refine Steps.cons (fun (v : Value) (X : World) => ∃ b A n c, v = .agg #[.bool b, .slice A n c] ∧ ZV X (.agg #[.bool b, .slice A n c]) (g)) [] rfl (by kernel_rfl) rfl (by kernel_rfl) (fun y X ex0 hf K hK => ?_) ?_
      · clear hf
        have ex := (Ext.drw (Ext.refl _)).trans ex0
        refine Box.mk ?_
        simp only [fill, Act.put, Nat.reduceAdd, List.setIfInBounds_toArray, List.set_cons_zero, List.set_cons_succ] at hK ⊢
        obtain ⟨bl, Al, nl, cl, k0, k1, kz⟩ := (I7.out.ext (by omega) ex)
        go_simp
        exact hK.out _ _ ⟨_, _, _, _, rfl, kz⟩ (Ext.refl _) (fun b hb => by cases hb)
      refine Steps.cons (fun (v : Value) (X : World) => ∃ b A n c, v = .agg #[.bool b, .slice A n c] ∧ ZV X (.agg #[.bool b, .slice A n c]) (r)) [] rfl (by kernel_rfl) rfl (by kernel_rfl) (fun y X ex0 hf K hK => ?_) ?_
      · clear hf
        have ex := (Ext.drw (Ext.refl _)).trans ex0
        refine Box.mk ?_
        simp only [fill, Act.put, Nat.reduceAdd, List.setIfInBounds_toArray, List.set_cons_zero, List.set_cons_succ] at hK ⊢
        obtain ⟨bl, Al, nl, cl, k0, k1, kz⟩ := (H85.out.ext (by omega) ex)
        go_simp
        exact hK.out _ _ ⟨_, _, _, _, rfl, kz⟩ (Ext.refl _) (fun b hb => by cases hb)
      refine Steps.cons (fun (v : Value) (X : World) => ∃ b A n c, v = .agg #[.bool b, .slice A n c] ∧ ZV X (.agg #[.bool b, .slice A n c]) (x)) [] rfl (by kernel_rfl) rfl (by kernel_rfl) (fun y X ex0 hf K hK => ?_) ?_
      · clear hf
        have ex := (Ext.drw (Ext.refl _)).trans ex0
        refine Box.mk ?_
        simp only [fill, Act.put, Nat.reduceAdd, List.setIfInBounds_toArray, List.set_cons_zero, List.set_cons_succ] at hK ⊢
        obtain ⟨bl, Al, nl, cl, k0, k1, kz⟩ := (I8.out.ext (by omega) ex)
        go_simp
        exact hK.out _ _ ⟨_, _, _, _, rfl, kz⟩ (Ext.refl _) (fun b hb => by cases hb)
      refine Steps.cons (fun (v : Value) (X : World) => ∃ b A n c, v = .agg #[.bool b, .slice A n c] ∧ ZV X (.agg #[.bool b, .slice A n c]) (r * x)) [1, 2] rfl (by kernel_rfl) rfl (by kernel_rfl) (fun y X ex0 hf K hK => ?_) ?_
      · have hh1 : ((fun (v : Value) (X : World) => ∃ b A n c, v = .agg #[.bool b, .slice A n c] ∧ ZV X (.agg #[.bool b, .slice A n c]) (r))) (y 1) X := hf.1
        refine Exists.elim hh1 (fun b1 hx1_0 => ?_)
        refine Exists.elim hx1_0 (fun A1 hx1_1 => ?_)
        refine Exists.elim hx1_1 (fun n1 hx1_2 => ?_)
        refine Exists.elim hx1_2 (fun c1 hx1_3 => ?_)
        have h1 := hx1_3.1
        have z1 := hx1_3.2
        clear hh1 hx1_0 hx1_1 hx1_2 hx1_3
        have hh2 : ((fun (v : Value) (X : World) => ∃ b A n c, v = .agg #[.bool b, .slice A n c] ∧ ZV X (.agg #[.bool b, .slice A n c]) (x))) (y 2) X := hf.2.1
        refine Exists.elim hh2 (fun b2 hx2_0 => ?_)
        refine Exists.elim hx2_0 (fun A2 hx2_1 => ?_)
        refine Exists.elim hx2_1 (fun n2 hx2_2 => ?_)
        refine Exists.elim hx2_2 (fun c2 hx2_3 => ?_)
        have h2 := hx2_3.1
        have z2 := hx2_3.2
        clear hh2 hx2_0 hx2_1 hx2_2 hx2_3
        clear hf
        have ex := (Ext.drw (Ext.refl _)).trans ex0
        refine Box.mk ?_
        simp only [fill, Act.put, Nat.reduceAdd, List.setIfInBounds_toArray, List.set_cons_zero, List.set_cons_succ, h1, h2] at hK ⊢
        go_simp
        refine (asAgg (timesZ_any _ _ _ _ _ z1 z2 (by have := HLL.out.1; omega) (by have := LG.out.2.1; omega))).mono ?_
        rintro e V ⟨b9, A9, n9, c9, rfl, hz, hb⟩
        try go_wp2_with fail
        exact hK.out _ _ ⟨_, _, _, _, rfl, hz⟩ hb (fun b hb => by cases hb)
      refine Steps.cons (fun (v : Value) (X : World) => ∃ b A n c, v = .agg #[.bool b, .slice A n c] ∧ ZV X (.agg #[.bool b, .slice A n c]) (g - r * x)) [0, 3] rfl (by kernel_rfl) rfl (by kernel_rfl) (fun y X ex0 hf K hK => ?_) ?_
      · have hh0 : ((fun (v : Value) (X : World) => ∃ b A n c, v = .agg #[.bool b, .slice A n c] ∧ ZV X (.agg #[.bool b, .slice A n c]) (g))) (y 0) X := hf.1
        refine Exists.elim hh0 (fun b0 hx0_0 => ?_)
        refine Exists.elim hx0_0 (fun A0 hx0_1 => ?_)
        refine Exists.elim hx0_1 (fun n0 hx0_2 => ?_)
        refine Exists.elim hx0_2 (fun c0 hx0_3 => ?_)
        have h0 := hx0_3.1
        have z0 := hx0_3.2
        clear hh0 hx0_0 hx0_1 hx0_2 hx0_3
        have hh3 : ((fun (v : Value) (X : World) => ∃ b A n c, v = .agg #[.bool b, .slice A n c] ∧ ZV X (.agg #[.bool b, .slice A n c]) (r * x))) (y 3) X := hf.2.1
        refine Exists.elim hh3 (fun b3 hx3_0 => ?_)
        refine Exists.elim hx3_0 (fun A3 hx3_1 => ?_)
        refine Exists.elim hx3_1 (fun n3 hx3_2 => ?_)
        refine Exists.elim hx3_2 (fun c3 hx3_3 => ?_)
        have h3 := hx3_3.1
        have z3 := hx3_3.2
        clear hh3 hx3_0 hx3_1 hx3_2 hx3_3
        clear hf
        have ex := (Ext.drw (Ext.refl _)).trans ex0
        refine Box.mk ?_
        simp only [fill, Act.put, Nat.reduceAdd, List.setIfInBounds_toArray, List.set_cons_zero, List.set_cons_succ, h0, h3] at hK ⊢
        go_simp
        refine (asAgg (minusZ_any _ _ _ _ _ z0 z3 (by have := LG.out.1; omega) (by omega))).mono ?_
        rintro e V ⟨b9, A9, n9, c9, rfl, hz, hb⟩
        try go_wp2_with fail
        exact hK.out _ _ ⟨_, _, _, _, rfl, hz⟩ hb (fun b hb => by cases hb)
      refine Steps.cons (fun (v : Value) (X : World) => ∃ b A n c, v = .agg #[.bool b, .slice A n c] ∧ ZV X (.agg #[.bool b, .slice A n c]) (t)) [] rfl (by kernel_rfl) rfl (by kernel_rfl) (fun y X ex0 hf K hK => ?_) ?_
      · clear hf
        have ex := (Ext.drw (Ext.refl _)).trans ex0
        refine Box.mk ?_
        simp only [fill, Act.put, Nat.reduceAdd, List.setIfInBounds_toArray, List.set_cons_zero, List.set_cons_succ] at hK ⊢
        obtain ⟨bl, Al, nl, cl, k0, k1, kz⟩ := (H95.out.ext (by omega) ex)
        go_simp
        exact hK.out _ _ ⟨_, _, _, _, rfl, kz⟩ (Ext.refl _) (fun b hb => by cases hb)
      refine Steps.cons (fun (v : Value) (X : World) => ∃ b A n c, v = .agg #[.bool b, .slice A n c] ∧ ZV X (.agg #[.bool b, .slice A n c]) ((g - r * x) / t)) [4, 5] rfl (by kernel_rfl) rfl (by kernel_rfl) (fun y X ex0 hf K hK => ?_) ?_
      · have hh4 : ((fun (v : Value) (X : World) => ∃ b A n c, v = .agg #[.bool b, .slice A n c] ∧ ZV X (.agg #[.bool b, .slice A n c]) (g - r * x))) (y 4) X := hf.1
        refine Exists.elim hh4 (fun b4 hx4_0 => ?_)
        refine Exists.elim hx4_0 (fun A4 hx4_1 => ?_)
        refine Exists.elim hx4_1 (fun n4 hx4_2 => ?_)
        refine Exists.elim hx4_2 (fun c4 hx4_3 => ?_)
        have h4 := hx4_3.1
        have z4 := hx4_3.2
        clear hh4 hx4_0 hx4_1 hx4_2 hx4_3
        have hh5 : ((fun (v : Value) (X : World) => ∃ b A n c, v = .agg #[.bool b, .slice A n c] ∧ ZV X (.agg #[.bool b, .slice A n c]) (t))) (y 5) X := hf.2.1
        refine Exists.elim hh5 (fun b5 hx5_0 => ?_)
        refine Exists.elim hx5_0 (fun A5 hx5_1 => ?_)
        refine Exists.elim hx5_1 (fun n5 hx5_2 => ?_)
        refine Exists.elim hx5_2 (fun c5 hx5_3 => ?_)
        have h5 := hx5_3.1
        have z5 := hx5_3.2
        clear hh5 hx5_0 hx5_1 hx5_2 hx5_3
        clear hf
        have ex := (Ext.drw (Ext.refl _)).trans ex0
        refine Box.mk ?_
        simp only [fill, Act.put, Nat.reduceAdd, List.setIfInBounds_toArray, List.set_cons_zero, List.set_cons_succ, h4, h5] at hK ⊢
        go_simp
        refine (asAgg (overZ_any _ _ _ _ _ z4 z5 ln (by have := HLL.out.2; omega) h0)).mono ?_
        rintro e V ⟨b9, A9, n9, c9, rfl, hz, hb⟩
        try go_wp2_with fail
        exact hK.out _ _ ⟨_, _, _, _, rfl, hz⟩ hb (fun b hb => by cases hb)
      refine Steps.cons (fun (v : Value) (X : World) => ∃ g, v = .pointer (some ⟨g, 0, none⟩) ∧ W5.heap.size ≤ g ∧ RB X g) [] rfl (by kernel_rfl) rfl (by kernel_rfl) (fun y X ex0 hf K hK => ?_) ?_
      · clear hf
        have ex := (Ext.drw (Ext.refl _)).trans ex0
        refine Box.mk ?_
        simp only [fill, Act.put, Nat.reduceAdd, List.setIfInBounds_toArray, List.set_cons_zero, List.set_cons_succ] at hK ⊢
        go_simp
        exact hK.out _ _ ⟨X.heap.size, rfl, ex.size, RB.c1 X false none 0 0 60⟩ (Ext.alc (Ext.refl X) (.cells #[.bool false, .slice none 0 0] 60)) (New.ptr (Nat.le_refl _) (by simp))
      exact Steps.nil
    case done =>
      intro y X ex hf hlt hsep
      have hh0 : ((fun (v : Value) (X : World) => ∃ b A n c, v = .agg #[.bool b, .slice A n c] ∧ ZV X (.agg #[.bool b, .slice A n c]) (g))) (y 0) X := hf.1
      refine Exists.elim hh0 (fun b0 hx0_0 => ?_)
      refine Exists.elim hx0_0 (fun A0 hx0_1 => ?_)
      refine Exists.elim hx0_1 (fun n0 hx0_2 => ?_)
      refine Exists.elim hx0_2 (fun c0 hx0_3 => ?_)
      have h0 := hx0_3.1
      have z0 := hx0_3.2
      clear hh0 hx0_0 hx0_1 hx0_2 hx0_3
      have hh1 : ((fun (v : Value) (X : World) => ∃ b A n c, v = .agg #[.bool b, .slice A n c] ∧ ZV X (.agg #[.bool b, .slice A n c]) (r))) (y 1) X := hf.2.1
      refine Exists.elim hh1 (fun b1 hx1_0 => ?_)
      refine Exists.elim hx1_0 (fun A1 hx1_1 => ?_)
      refine Exists.elim hx1_1 (fun n1 hx1_2 => ?_)
      refine Exists.elim hx1_2 (fun c1 hx1_3 => ?_)
      have h1 := hx1_3.1
      have z1 := hx1_3.2
      clear hh1 hx1_0 hx1_1 hx1_2 hx1_3
      have hh2 : ((fun (v : Value) (X : World) => ∃ b A n c, v = .agg #[.bool b, .slice A n c] ∧ ZV X (.agg #[.bool b, .slice A n c]) (x))) (y 2) X := hf.2.2.1
      refine Exists.elim hh2 (fun b2 hx2_0 => ?_)
      refine Exists.elim hx2_0 (fun A2 hx2_1 => ?_)
      refine Exists.elim hx2_1 (fun n2 hx2_2 => ?_)
      refine Exists.elim hx2_2 (fun c2 hx2_3 => ?_)
      have h2 := hx2_3.1
      have z2 := hx2_3.2
      clear hh2 hx2_0 hx2_1 hx2_2 hx2_3
      have hh3 : ((fun (v : Value) (X : World) => ∃ b A n c, v = .agg #[.bool b, .slice A n c] ∧ ZV X (.agg #[.bool b, .slice A n c]) (r * x))) (y 3) X := hf.2.2.2.1
      refine Exists.elim hh3 (fun b3 hx3_0 => ?_)
      refine Exists.elim hx3_0 (fun A3 hx3_1 => ?_)
      refine Exists.elim hx3_1 (fun n3 hx3_2 => ?_)
      refine Exists.elim hx3_2 (fun c3 hx3_3 => ?_)
      have h3 := hx3_3.1
      have z3 := hx3_3.2
      clear hh3 hx3_0 hx3_1 hx3_2 hx3_3
      have hh4 : ((fun (v : Value) (X : World) => ∃ b A n c, v = .agg #[.bool b, .slice A n c] ∧ ZV X (.agg #[.bool b, .slice A n c]) (g - r * x))) (y 4) X := hf.2.2.2.2.1
      refine Exists.elim hh4 (fun b4 hx4_0 => ?_)
      refine Exists.elim hx4_0 (fun A4 hx4_1 => ?_)
      refine Exists.elim hx4_1 (fun n4 hx4_2 => ?_)
      refine Exists.elim hx4_2 (fun c4 hx4_3 => ?_)
      have h4 := hx4_3.1
      have z4 := hx4_3.2
      clear hh4 hx4_0 hx4_1 hx4_2 hx4_3
      have hh5 : ((fun (v : Value) (X : World) => ∃ b A n c, v = .agg #[.bool b, .slice A n c] ∧ ZV X (.agg #[.bool b, .slice A n c]) (t))) (y 5) X := hf.2.2.2.2.2.1
      refine Exists.elim hh5 (fun b5 hx5_0 => ?_)
      refine Exists.elim hx5_0 (fun A5 hx5_1 => ?_)
      refine Exists.elim hx5_1 (fun n5 hx5_2 => ?_)
      refine Exists.elim hx5_2 (fun c5 hx5_3 => ?_)
      have h5 := hx5_3.1
      have z5 := hx5_3.2
      clear hh5 hx5_0 hx5_1 hx5_2 hx5_3
      have hh6 : ((fun (v : Value) (X : World) => ∃ b A n c, v = .agg #[.bool b, .slice A n c] ∧ ZV X (.agg #[.bool b, .slice A n c]) ((g - r * x) / t))) (y 6) X := hf.2.2.2.2.2.2.1
      refine Exists.elim hh6 (fun b6 hx6_0 => ?_)
      refine Exists.elim hx6_0 (fun A6 hx6_1 => ?_)
      refine Exists.elim hx6_1 (fun n6 hx6_2 => ?_)
      refine Exists.elim hx6_2 (fun c6 hx6_3 => ?_)
      have h6 := hx6_3.1
      have z6 := hx6_3.2
      clear hh6 hx6_0 hx6_1 hx6_2 hx6_3
      have hh7 : ((fun (v : Value) (X : World) => ∃ g, v = .pointer (some ⟨g, 0, none⟩) ∧ W5.heap.size ≤ g ∧ RB X g)) (y 7) X := hf.2.2.2.2.2.2.2.1
      refine Exists.elim hh7 (fun gg7 hx7_0 => ?_)
      have h7 := hx7_0.1
      have z7 := hx7_0.2.1
      have q7 := hx7_0.2.2
      clear hh7 hx7_0
      clear hf
      clear hsep hlt
      refine Box.mk ?_
      simp only [List.drop_succ_cons, List.drop_zero, fill, Act.put, Nat.reduceAdd, List.setIfInBounds_toArray, List.set_cons_zero, List.set_cons_succ, h0, h1, h2, h3, h4, h5, h6, h7]
      clear h0 h1 h2 h3 h4 h5 h6 h7
      obtain ⟨_, _, _, _, g30, g31, g32, g33⟩ := q7.facts
      have y3 := Q3.out.ext ex
      have y4 := Q4.out.ext ex
      have y5 := Q5.out.ext ex
      have i7 := I7.out.ext l7 ex
      have i8 := I8.out.ext l8 ex
      have l7x := i7.lt
      have l8x := i8.lt
      obtain ⟨W9, hW9⟩ : ∃ W9, W9 = (X.setCell ⟨gg7, 0, none⟩ (.bool b6)).setCell ⟨gg7, 1, none⟩ (.slice A6 n6 c6) := ⟨_, rfl⟩
      have e9 : Ext w W9 := by rw [hW9]; exact below_set2 (Ext.below (E5.out.trans ex)) (by have := E5.out.size; omega) _ _
      have k12 : HZ W9 gg7 ((g - r * x) / t) := by rw [hW9]; exact HZ.put q7 z6
      have k10 : HZ W9 g7 g := by rw [hW9]; exact i7.far q7 (by omega) _ _
      have k11 : HZ W9 (g7 + 1) x := by rw [hW9]; exact i8.far q7 (by omega) _ _
      have s3 : RB W9 (w.heap.size + 1 + 1) := by rw [hW9]; exact y3.far q7 (by omega) _ _
      have s4 : RB W9 (w.heap.size + 1 + 1 + 1) := by rw [hW9]; exact y4.far q7 (by omega) _ _
      have s5 : RB W9 (w.heap.size + 1 + 1 + 1 + 1) := by rw [hW9]; exact y5.far q7 (by omega) _ _
      rw [HY.out] at k12
      have HK := Lib.hid (And.intro k10 (And.intro k11 (And.intro k12 (And.intro s3 (And.intro s4 (And.intro s5 e9))))))
      have HW9 := Lib.hid hW9
      clear hW9 k10 k11 k12 s3 s4 s5 e9 y3 y4 y5 i7 i8 ex z0 z1 z2 z3 z4 z5 z6 q7 Q3 Q4 Q5 I7 I8 H85 H95 E5 lm ln
      go_wp2_with fail
      refine NoPanic.normal ?_
      go_upto_region 8 with fail
      rw [← HW9.out]
      clear g30 g31 g32 g33 HW9
      have l10 := HK.out.1.lt
      have l11 := HK.out.2.1.lt
      have l12 := HK.out.2.2.1.lt
      refine wp_region_noPanic ?_
      refine wp_pool 6 [some 48, some 49, some 50, some 51, some 52, some 53] [] [] [(fun (v : Value) (X : World) => ∃ b A n c, v = .agg #[.bool b, .slice A n c] ∧ ZV X (.agg #[.bool b, .slice A n c]) (g)), (fun (v : Value) (X : World) => ∃ b A n c, v = .agg #[.bool b, .slice A n c] ∧ ZV X (.agg #[.bool b, .slice A n c]) (g)), (fun (v : Value) (X : World) => ∃ b A n c, v = .agg #[.bool b, .slice A n c] ∧ ZV X (.agg #[.bool b, .slice A n c]) (x)), (fun (v : Value) (X : World) => ∃ b A n c, v = .agg #[.bool b, .slice A n c] ∧ ZV X (.agg #[.bool b, .slice A n c]) (x)), (fun (v : Value) (X : World) => ∃ b A n c, v = .agg #[.bool b, .slice A n c] ∧ ZV X (.agg #[.bool b, .slice A n c]) (yv)), (fun (v : Value) (X : World) => ∃ b A n c, v = .agg #[.bool b, .slice A n c] ∧ ZV X (.agg #[.bool b, .slice A n c]) (yv))] [noF, noF, noF, noF, noF, noF] (by kernel_rfl) (by kernel_rfl) (by kernel_rfl) (by kernel_rfl) (by kernel_rfl) (by kernel_rfl) (by kernel_rfl) (by kernel_rfl) (fun _ _ _ _ h => h) ⟨(fun _ _ _ e ⟨b, A, n, c, h1, h2⟩ => ⟨b, A, n, c, h1, h2.ext e⟩), (fun _ _ _ e ⟨b, A, n, c, h1, h2⟩ => ⟨b, A, n, c, h1, h2.ext e⟩), (fun _ _ _ e ⟨b, A, n, c, h1, h2⟩ => ⟨b, A, n, c, h1, h2.ext e⟩), (fun _ _ _ e ⟨b, A, n, c, h1, h2⟩ => ⟨b, A, n, c, h1, h2.ext e⟩), (fun _ _ _ e ⟨b, A, n, c, h1, h2⟩ => ⟨b, A, n, c, h1, h2.ext e⟩), (fun _ _ _ e ⟨b, A, n, c, h1, h2⟩ => ⟨b, A, n, c, h1, h2.ext e⟩), True.intro⟩ ?steps ?done
      case steps =>
        simp only [List.take_succ_cons, List.take_zero]
        refine Steps.cons (fun (v : Value) (X : World) => ∃ b A n c, v = .agg #[.bool b, .slice A n c] ∧ ZV X (.agg #[.bool b, .slice A n c]) (g)) [] rfl (by kernel_rfl) rfl (by kernel_rfl) (fun y X ex0 hf K hK => ?_) ?_
        · clear hf
          have ex := (Ext.drw (Ext.refl _)).trans ex0
          refine Box.mk ?_
          simp only [fill, Act.put, Nat.reduceAdd, List.setIfInBounds_toArray, List.set_cons_zero, List.set_cons_succ] at hK ⊢
          obtain ⟨bl, Al, nl, cl, k0, k1, kz⟩ := (HK.out.1.ext (by omega) ex)
          go_simp
          exact hK.out _ _ ⟨_, _, _, _, rfl, kz⟩ (Ext.refl _) (fun b hb => by cases hb)
        refine Steps.cons (fun (v : Value) (X : World) => ∃ b A n c, v = .agg #[.bool b, .slice A n c] ∧ ZV X (.agg #[.bool b, .slice A n c]) (g)) [0] rfl (by kernel_rfl) rfl (by kernel_rfl) (fun y X ex0 hf K hK => ?_) ?_
        · have hh0 : ((fun (v : Value) (X : World) => ∃ b A n c, v = .agg #[.bool b, .slice A n c] ∧ ZV X (.agg #[.bool b, .slice A n c]) (g))) (y 0) X := hf.1
          refine Exists.elim hh0 (fun b0 hx0_0 => ?_)
          refine Exists.elim hx0_0 (fun A0 hx0_1 => ?_)
          refine Exists.elim hx0_1 (fun n0 hx0_2 => ?_)
          refine Exists.elim hx0_2 (fun c0 hx0_3 => ?_)
          have h0 := hx0_3.1
          have z0 := hx0_3.2
          clear hh0 hx0_0 hx0_1 hx0_2 hx0_3
          clear hf
          have ex := (Ext.drw (Ext.refl _)).trans ex0
          refine Box.mk ?_
          simp only [fill, Act.put, Nat.reduceAdd, List.setIfInBounds_toArray, List.set_cons_zero, List.set_cons_succ, h0] at hK ⊢
          go_simp
          refine (asAgg (intOf_any _ _ _ z0 (by have := LG.out.1; omega))).mono ?_
          rintro e V ⟨b9, A9, n9, c9, rfl, hz, hb⟩
          try go_wp2_with fail
          exact hK.out _ _ ⟨_, _, _, _, rfl, hz⟩ hb (fun b hb => by cases hb)
        refine Steps.cons (fun (v : Value) (X : World) => ∃ b A n c, v = .agg #[.bool b, .slice A n c] ∧ ZV X (.agg #[.bool b, .slice A n c]) (x)) [] rfl (by kernel_rfl) rfl (by kernel_rfl) (fun y X ex0 hf K hK => ?_) ?_
        · clear hf
          have ex := (Ext.drw (Ext.refl _)).trans ex0
          refine Box.mk ?_
          simp only [fill, Act.put, Nat.reduceAdd, List.setIfInBounds_toArray, List.set_cons_zero, List.set_cons_succ] at hK ⊢
          obtain ⟨bl, Al, nl, cl, k0, k1, kz⟩ := (HK.out.2.1.ext (by omega) ex)
          go_simp
          exact hK.out _ _ ⟨_, _, _, _, rfl, kz⟩ (Ext.refl _) (fun b hb => by cases hb)
        refine Steps.cons (fun (v : Value) (X : World) => ∃ b A n c, v = .agg #[.bool b, .slice A n c] ∧ ZV X (.agg #[.bool b, .slice A n c]) (x)) [2, 1] rfl (by kernel_rfl) rfl (by kernel_rfl) (fun y X ex0 hf K hK => ?_) ?_
        · have hh2 : ((fun (v : Value) (X : World) => ∃ b A n c, v = .agg #[.bool b, .slice A n c] ∧ ZV X (.agg #[.bool b, .slice A n c]) (x))) (y 2) X := hf.1
          refine Exists.elim hh2 (fun b2 hx2_0 => ?_)
          refine Exists.elim hx2_0 (fun A2 hx2_1 => ?_)
          refine Exists.elim hx2_1 (fun n2 hx2_2 => ?_)
          refine Exists.elim hx2_2 (fun c2 hx2_3 => ?_)
          have h2 := hx2_3.1
          have z2 := hx2_3.2
          clear hh2 hx2_0 hx2_1 hx2_2 hx2_3
          have hh1 : ((fun (v : Value) (X : World) => ∃ b A n c, v = .agg #[.bool b, .slice A n c] ∧ ZV X (.agg #[.bool b, .slice A n c]) (g))) (y 1) X := hf.2.1
          refine Exists.elim hh1 (fun b1 hx1_0 => ?_)
          refine Exists.elim hx1_0 (fun A1 hx1_1 => ?_)
          refine Exists.elim hx1_1 (fun n1 hx1_2 => ?_)
          refine Exists.elim hx1_2 (fun c1 hx1_3 => ?_)
          have h1 := hx1_3.1
          have z1 := hx1_3.2
          clear hh1 hx1_0 hx1_1 hx1_2 hx1_3
          clear hf
          have ex := (Ext.drw (Ext.refl _)).trans ex0
          refine Box.mk ?_
          simp only [fill, Act.put, Nat.reduceAdd, List.setIfInBounds_toArray, List.set_cons_zero, List.set_cons_succ, h2, h1] at hK ⊢
          go_simp
          refine (asAgg (intOf_any _ _ _ z2 (by have := LG.out.2.1; omega))).mono ?_
          rintro e V ⟨b9, A9, n9, c9, rfl, hz, hb⟩
          try go_wp2_with fail
          exact hK.out _ _ ⟨_, _, _, _, rfl, hz⟩ hb (fun b hb => by cases hb)
        refine Steps.cons (fun (v : Value) (X : World) => ∃ b A n c, v = .agg #[.bool b, .slice A n c] ∧ ZV X (.agg #[.bool b, .slice A n c]) (yv)) [] rfl (by kernel_rfl) rfl (by kernel_rfl) (fun y X ex0 hf K hK => ?_) ?_
        · clear hf
          have ex := (Ext.drw (Ext.refl _)).trans ex0
          refine Box.mk ?_
          simp only [fill, Act.put, Nat.reduceAdd, List.setIfInBounds_toArray, List.set_cons_zero, List.set_cons_succ] at hK ⊢
          obtain ⟨bl, Al, nl, cl, k0, k1, kz⟩ := (HK.out.2.2.1.ext (by omega) ex)
          go_simp
          exact hK.out _ _ ⟨_, _, _, _, rfl, kz⟩ (Ext.refl _) (fun b hb => by cases hb)
        refine Steps.cons (fun (v : Value) (X : World) => ∃ b A n c, v = .agg #[.bool b, .slice A n c] ∧ ZV X (.agg #[.bool b, .slice A n c]) (yv)) [4, 3] rfl (by kernel_rfl) rfl (by kernel_rfl) (fun y X ex0 hf K hK => ?_) ?_
        · have hh4 : ((fun (v : Value) (X : World) => ∃ b A n c, v = .agg #[.bool b, .slice A n c] ∧ ZV X (.agg #[.bool b, .slice A n c]) (yv))) (y 4) X := hf.1
          refine Exists.elim hh4 (fun b4 hx4_0 => ?_)
          refine Exists.elim hx4_0 (fun A4 hx4_1 => ?_)
          refine Exists.elim hx4_1 (fun n4 hx4_2 => ?_)
          refine Exists.elim hx4_2 (fun c4 hx4_3 => ?_)
          have h4 := hx4_3.1
          have z4 := hx4_3.2
          clear hh4 hx4_0 hx4_1 hx4_2 hx4_3
          have hh3 : ((fun (v : Value) (X : World) => ∃ b A n c, v = .agg #[.bool b, .slice A n c] ∧ ZV X (.agg #[.bool b, .slice A n c]) (x))) (y 3) X := hf.2.1
          refine Exists.elim hh3 (fun b3 hx3_0 => ?_)
          refine Exists.elim hx3_0 (fun A3 hx3_1 => ?_)
          refine Exists.elim hx3_1 (fun n3 hx3_2 => ?_)
          refine Exists.elim hx3_2 (fun c3 hx3_3 => ?_)
          have h3 := hx3_3.1
          have z3 := hx3_3.2
          clear hh3 hx3_0 hx3_1 hx3_2 hx3_3
          clear hf
          have ex := (Ext.drw (Ext.refl _)).trans ex0
          refine Box.mk ?_
          simp only [fill, Act.put, Nat.reduceAdd, List.setIfInBounds_toArray, List.set_cons_zero, List.set_cons_succ, h4, h3] at hK ⊢
          go_simp
          refine (asAgg (intOf_any _ _ _ z4 (by have := LG.out.2.2; omega))).mono ?_
          rintro e V ⟨b9, A9, n9, c9, rfl, hz, hb⟩
          try go_wp2_with fail
          exact hK.out _ _ ⟨_, _, _, _, rfl, hz⟩ hb (fun b hb => by cases hb)
        exact Steps.nil
      case done =>
        intro y X ex hf hlt hsep
        have hh0 : ((fun (v : Value) (X : World) => ∃ b A n c, v = .agg #[.bool b, .slice A n c] ∧ ZV X (.agg #[.bool b, .slice A n c]) (g))) (y 0) X := hf.1
        refine Exists.elim hh0 (fun b0 hx0_0 => ?_)
        refine Exists.elim hx0_0 (fun A0 hx0_1 => ?_)
        refine Exists.elim hx0_1 (fun n0 hx0_2 => ?_)
        refine Exists.elim hx0_2 (fun c0 hx0_3 => ?_)
        have h0 := hx0_3.1
        have z0 := hx0_3.2
        clear hh0 hx0_0 hx0_1 hx0_2 hx0_3
        have hh1 : ((fun (v : Value) (X : World) => ∃ b A n c, v = .agg #[.bool b, .slice A n c] ∧ ZV X (.agg #[.bool b, .slice A n c]) (g))) (y 1) X := hf.2.1
        refine Exists.elim hh1 (fun b1 hx1_0 => ?_)
        refine Exists.elim hx1_0 (fun A1 hx1_1 => ?_)
        refine Exists.elim hx1_1 (fun n1 hx1_2 => ?_)
        refine Exists.elim hx1_2 (fun c1 hx1_3 => ?_)
        have h1 := hx1_3.1
        have z1 := hx1_3.2
        clear hh1 hx1_0 hx1_1 hx1_2 hx1_3
        have hh2 : ((fun (v : Value) (X : World) => ∃ b A n c, v = .agg #[.bool b, .slice A n c] ∧ ZV X (.agg #[.bool b, .slice A n c]) (x))) (y 2) X := hf.2.2.1
        refine Exists.elim hh2 (fun b2 hx2_0 => ?_)
        refine Exists.elim hx2_0 (fun A2 hx2_1 => ?_)
        refine Exists.elim hx2_1 (fun n2 hx2_2 => ?_)
        refine Exists.elim hx2_2 (fun c2 hx2_3 => ?_)
        have h2 := hx2_3.1
        have z2 := hx2_3.2
        clear hh2 hx2_0 hx2_1 hx2_2 hx2_3
        have hh3 : ((fun (v : Value) (X : World) => ∃ b A n c, v = .agg #[.bool b, .slice A n c] ∧ ZV X (.agg #[.bool b, .slice A n c]) (x))) (y 3) X := hf.2.2.2.1
        refine Exists.elim hh3 (fun b3 hx3_0 => ?_)
        refine Exists.elim hx3_0 (fun A3 hx3_1 => ?_)
        refine Exists.elim hx3_1 (fun n3 hx3_2 => ?_)
        refine Exists.elim hx3_2 (fun c3 hx3_3 => ?_)
        have h3 := hx3_3.1
        have z3 := hx3_3.2
        clear hh3 hx3_0 hx3_1 hx3_2 hx3_3
        have hh4 : ((fun (v : Value) (X : World) => ∃ b A n c, v = .agg #[.bool b, .slice A n c] ∧ ZV X (.agg #[.bool b, .slice A n c]) (yv))) (y 4) X := hf.2.2.2.2.1
        refine Exists.elim hh4 (fun b4 hx4_0 => ?_)
        refine Exists.elim hx4_0 (fun A4 hx4_1 => ?_)
        refine Exists.elim hx4_1 (fun n4 hx4_2 => ?_)
        refine Exists.elim hx4_2 (fun c4 hx4_3 => ?_)
        have h4 := hx4_3.1
        have z4 := hx4_3.2
        clear hh4 hx4_0 hx4_1 hx4_2 hx4_3
        have hh5 : ((fun (v : Value) (X : World) => ∃ b A n c, v = .agg #[.bool b, .slice A n c] ∧ ZV X (.agg #[.bool b, .slice A n c]) (yv))) (y 5) X := hf.2.2.2.2.2.1
        refine Exists.elim hh5 (fun b5 hx5_0 => ?_)
        refine Exists.elim hx5_0 (fun A5 hx5_1 => ?_)
        refine Exists.elim hx5_1 (fun n5 hx5_2 => ?_)
        refine Exists.elim hx5_2 (fun c5 hx5_3 => ?_)
        have h5 := hx5_3.1
        have z5 := hx5_3.2
        clear hh5 hx5_0 hx5_1 hx5_2 hx5_3
        clear hf
        clear hsep hlt
        refine Box.mk ?_
        simp only [List.drop_succ_cons, List.drop_zero, fill, Act.put, Nat.reduceAdd, List.setIfInBounds_toArray, List.set_cons_zero, List.set_cons_succ, h0, h1, h2, h3, h4, h5]
        clear h0 h1 h2 h3 h4 h5
        have y3 := HK.out.2.2.2.1.ext ex
        have y4 := HK.out.2.2.2.2.1.ext ex
        have y5 := HK.out.2.2.2.2.2.1.ext ex
        obtain ⟨W', hW', ⟨f1, f2, f3, f4, f5, f6⟩, hzv, hbf, T, U⟩ := three_res y3 y4 y5 (show w.heap.size + 1 + 1 + 1 ≠ w.heap.size + 1 + 1 by omega) (show w.heap.size + 1 + 1 + 1 + 1 ≠ w.heap.size + 1 + 1 by omega) (show w.heap.size + 1 + 1 + 1 + 1 ≠ w.heap.size + 1 + 1 + 1 by omega) b1 A1 n1 c1 b3 A3 n3 c3 b5 A5 n5 c5 (Ext.below (HK.out.2.2.2.2.2.2.trans ex)) (by omega) (by omega) (by omega)
        obtain ⟨_, _, _, _, g30, g31, g32, g33⟩ := (y3).facts
        obtain ⟨_, _, _, _, g40, g41, g42, g43⟩ := T.facts
        obtain ⟨_, _, _, _, g50, g51, g52, g53⟩ := U.facts
        have HG := Lib.hid (And.intro (hzv _ _ z1) (And.intro (hzv _ _ z3) (And.intro (hzv _ _ z5) (And.intro hbf (And.intro f1 (And.intro f2 (And.intro f3 (And.intro f4 (And.intro f5 f6)))))))))
        have HW' := Lib.hid hW'
        clear hbf f1 f2 f3 f4 f5 f6 hW' T U hzv z0 z1 z2 z3 z4 z5 y3 y4 y5 ex HK
        go_wp2_with fail
        refine NoPanic.normal ?_
        go_wp2
        rw [← HW'.out]
        obtain ⟨hz1, hz2, hz3, hbf, f1, f2, f3, f4, f5, f6⟩ := HG.out
        exact bodyPost_ret (v := .tuple #[.agg #[.bool b1, .slice A1 n1 c1], .agg #[.bool b3, .slice A3 n3 c3], .agg #[.bool b5, .slice A5 n5 c5], .int .i64 0]) (by simp [results, Try.results32, go_sem, f1, f2, f3, f4, f5, f6]) rfl ⟨_, _, _, HIE.out, _, _, _, _, _, _, _, _, _, _, _, _, rfl, hz1, hz2, hz3, hbf⟩
/-- exact.Ext -/
theorem exactExt_u (p q : Bool) (A A' : Option Addr) (n c n' c' : Nat) (l l' : List Nat) (w : World) (hx : Wd w (.slice A n c) l) (hy : Wd w (.slice A' n' c') l') :
    Calls Try.prog 32 #[.agg #[.bool p, .slice A n c], .agg #[.bool q, .slice A' n' c']] w fun e w' => ∃ g x y er, ExtIs p q l l' g x y er ∧ RetExt w g x y er e w' := by
  by_cases h : (vld p l && vld q l') = true
  · have h' := h
    simp at h'
    by_cases h0 : numOf q l' = 0
    · exact (exactExt_zero p q A A' n c n' c' l l' w hx hy h'.1 h'.2 h0).mono fun e w' k => ⟨_, _, _, _, .inr (.inl ⟨h, h0, rfl, rfl, rfl, rfl⟩), k⟩
    · exact (exactExt_yes p q A A' n c n' c' l l' w hx hy h'.1 h'.2 h0).mono fun e w' ⟨g, x, y, hi, k⟩ => ⟨_, _, _, _, .inr (.inr ⟨h, h0, hi, rfl⟩), k⟩
  · have h : (vld p l && vld q l') = false := by simpa using h
    exact (exactExt_no p q A A' n c n' c' l l' w hx hy h).mono fun e w' k => ⟨_, _, _, _, .inl ⟨h, rfl, rfl, rfl, rfl⟩, k⟩
end Go.Proofs.Ytmlopkkbgpfdnaa
