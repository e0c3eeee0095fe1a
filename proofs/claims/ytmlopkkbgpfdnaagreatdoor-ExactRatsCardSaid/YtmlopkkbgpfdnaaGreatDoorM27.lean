/- Walks: the law ExactRats. -/
import Derived.Test.YtmlopkkbgpfdnaaGreatDoorM26
namespace Go.Proofs.YtmlopkkbgpfdnaaGreatDoor
open Go.RowKit

set_option maxHeartbeats 4000000 in
set_option maxRecDepth 100000 in
theorem exactRats_walk (p q : Bool) (A A' : Option Addr) (n c n' c' : Nat) (l l' : List Nat) (w : World) (hx : Wd w (.slice A n c) l) (hy : Wd w (.slice A' n' c') l') (htab : Tab w) : Calls Tryz.prog 3 #[.agg #[.bool p, .slice A n c], .agg #[.bool q, .slice A' n' c']] w fun e w' => e = .returned (.bool true) ∧ Below w.heap.size w w' := by
  obtain ⟨W0, hW0⟩ : ∃ W0, W0 = (w.alloc (Obj.cells #[.bool p, .slice A n c] 24)).alloc (Obj.cells #[.bool q, .slice A' n' c'] 24) := ⟨_, rfl⟩
  have e0 : Ext w W0 := by rw [hW0]; exact ((Ext.refl w).alc _).alc _
  obtain ⟨Wm, hWm⟩ : ∃ W, W = w.alloc (Obj.cells #[.bool p, .slice A n c] 24) := ⟨_, rfl⟩
  have hs : Wm.heap.size = w.heap.size + 1 := by rw [hWm]; simp
  have m0 : Wm.cell? ⟨w.heap.size, 0, none⟩ = some (.bool p) := by rw [hWm, World.cell?_alloc_new]; rfl
  have m1 : Wm.cell? ⟨w.heap.size, 1, none⟩ = some (.slice A n c) := by rw [hWm, World.cell?_alloc_new]; rfl
  have xm : Ext Wm W0 := by rw [hW0, ← hWm]; exact (Ext.refl _).alc _
  have k0 := keepAt xm (by omega) m0
  have k1 := keepAt xm (by omega) m1
  have k2 : W0.cell? ⟨w.heap.size + 1, 0, none⟩ = some (.bool q) := by rw [hW0, ← hWm, ← hs, World.cell?_alloc_new]; rfl
  have k3 : W0.cell? ⟨w.heap.size + 1, 1, none⟩ = some (.slice A' n' c') := by rw [hW0, ← hWm, ← hs, World.cell?_alloc_new]; rfl
  have s0 : W0.heap.size = w.heap.size + 1 + 1 := by rw [hW0]; simp
  clear hs m0 m1 xm hWm
  obtain ⟨vx, hvx⟩ : ∃ v, v = nX p q l l' := ⟨_, rfl⟩
  obtain ⟨vy, hvy⟩ : ∃ v, v = nY p q l l' := ⟨_, rfl⟩
  obtain ⟨er, her⟩ : ∃ v, v = nE p q l l' := ⟨_, rfl⟩
  obtain ⟨vb, hvb⟩ : ∃ v, v = vldR p q l l' := ⟨_, rfl⟩
  have HVB := Lib.hid hvb
  have NA := Lib.hid (newRat_u p q A A' n c n' c' l l' W0 (hx.below e0) (hy.below e0))
  have NB := Lib.hid (fun X (e : Ext W0 X) => refNewRat_u p q A A' n c n' c' l l' X ((hx.below e0).below e) ((hy.below e0).below e))
  rw [← hvx, ← hvy, ← her] at NA NB
  have HX := Lib.hid (And.intro (hx.below e0) (hy.below e0))
  have HT := Lib.hid htab; have E0 := Lib.hid e0; have HW0 := Lib.hid hW0
  clear hvx hvy her hvb hx hy htab e0 hW0
  go_enter Tryz.func3, Tryz.ntmps3
  go_upto_region 1 with fail
  rw [← HW0.out]
  clear HW0
  go_wp2_with fail
  refine NA.out.mono ?_
  rintro e W1 ⟨b1, B1, m1, d1, b1', B1', m1', d1', rfl, y1, y1', x1⟩
  replace x1 : Ext W0 W1 := x1
  obtain ⟨W2, hW2⟩ : ∃ W2, W2 = W1.alloc (Obj.cells #[.bool b1, .slice B1 m1 d1, .bool b1', .slice B1' m1' d1'] 26) := ⟨_, rfl⟩
  have x2 : Ext W1 W2 := by rw [hW2]; exact (Ext.refl _).alc _
  have F2 : HF W2 W1.heap.size vx vy := by rw [hW2]; exact HF.new W1 b1 B1 m1 d1 b1' B1' m1' d1' 26 y1 y1'
  have k0 := keepAt (x1.trans x2) (by omega) k0; have k1 := keepAt (x1.trans x2) (by omega) k1
  have k2 := keepAt (x1.trans x2) (by omega) k2; have k3 := keepAt (x1.trans x2) (by omega) k3
  have X2 := Lib.hid (x1.trans x2)
  have F2_ := Lib.hid F2
  have z2 := (x1.trans x2).size
  have HW2 := Lib.hid hW2
  have q0 := k0; have q1 := k1; have q2 := k2; have q3 := k3
  rw [hW2] at q0 q1 q2 q3
  clear x1 x2 F2 y1 y1' hW2 NA
  go_wp2_with fail
  rw [← HW2.out]
  refine (NB.out W2 X2.out).mono ?_
  rintro e W3 ⟨b2, B2, m2, d2, b2', B2', m2', d2', rfl, y2, y2', x3⟩
  replace x3 : Ext W2 W3 := x3
  obtain ⟨W4, hW4⟩ : ∃ W4, W4 = W3.alloc (Obj.cells #[.bool b2, .slice B2 m2 d2, .bool b2', .slice B2' m2' d2'] 26) := ⟨_, rfl⟩
  have x4 : Ext W3 W4 := by rw [hW4]; exact (Ext.refl _).alc _
  have G4 : HF W4 W3.heap.size vx vy := by rw [hW4]; exact HF.new W3 b2 B2 m2 d2 b2' B2' m2' d2' 26 y2 y2'
  have k0 := keepAt (x3.trans x4) (by omega) k0; have k1 := keepAt (x3.trans x4) (by omega) k1
  have k2 := keepAt (x3.trans x4) (by omega) k2; have k3 := keepAt (x3.trans x4) (by omega) k3
  obtain ⟨W5, hW5⟩ : ∃ W5, W5 = W4.alloc (Obj.cells #[.bool p, .slice A n c, .bool q, .slice A' n' c'] 26) := ⟨_, rfl⟩
  have x5 : Ext W4 W5 := by rw [hW5]; exact (Ext.refl _).alc _
  have s4 : W4.heap.size = W3.heap.size + 1 := by rw [hW4]; simp
  have X5 := Lib.hid (X2.out.trans (x3.trans (x4.trans x5)))
  have r5 : RW W5 (W3.heap.size + 1) p q A n c A' n' c' l l' := by
    rw [← s4, hW5]
    exact RW.new 26 (HX.out.1.below (X2.out.trans (x3.trans x4))) (HX.out.2.below (X2.out.trans (x3.trans x4)))
  have R5 := Lib.hid r5
  have F5 := Lib.hid (F2_.out.ext (x3.trans (x4.trans x5)))
  have G5 := Lib.hid (G4.ext x5)
  have LT := Lib.hid (show W3.heap.size + 1 < W5.heap.size by rw [hW5]; simp; omega)
  rw [hW4] at k0 k1 k2 k3 hW5
  have HW5 := Lib.hid hW5
  clear q0 q1 q2 q3 x3 x4 x5 y2 y2' hW4 hW5 G4 s4 r5 F2_ NB HW2
  have VA := Lib.hid (fun X (e : Ext W5 X) => validRat_any p q A A' n c n' c' l l' X (R5.out.w1.below e) (R5.out.w2.below e))
  have VC := Lib.hid (fun X (e : Ext W5 X) => validRatR_any p q A A' n c n' c' l l' X (R5.out.w1.below e) (R5.out.w2.below e))
  rw [← HVB.out] at VA VC
  go_upto_region 4 with fail
  rw [← HW5.out]
  clear HW5 k0 k1 k2 k3
  refine wp_region_noPanic ?_
  refine wp_pool 20 [some 37, some 38, some 39, some 40, some 41, some 42, some 43, some 44, some 45, some 46, some 47, some 48, some 49, some 50, some 51, some 52, some 53, some 54, some 55, some 56] [] [] [(fun (v : Value) (X : World) => ∃ b A n c b' A' n' c', v = .agg #[.bool b, .slice A n c, .bool b', .slice A' n' c'] ∧ ZV X (.agg #[.bool b, .slice A n c]) (vx) ∧ ZV X (.agg #[.bool b', .slice A' n' c']) (vy)), (fun (v : Value) (X : World) => ∃ b A n c b' A' n' c', v = .agg #[.bool b, .slice A n c, .bool b', .slice A' n' c'] ∧ ZV X (.agg #[.bool b, .slice A n c]) (vx) ∧ ZV X (.agg #[.bool b', .slice A' n' c']) (vy)), (fun (v : Value) (_ : World) => v = .bool true), (fun (v : Value) (_ : World) => v = .bool false), (fun (v : Value) (_ : World) => v = .bool false), (fun (v : Value) (_ : World) => v = (.int .i64 er)), (fun (v : Value) (_ : World) => v = (.int .i64 er)), (fun (v : Value) (_ : World) => v = .bool false), (fun (v : Value) (_ : World) => v = .bool false), (fun (v : Value) (_ : World) => v = .bool false), (fun (v : Value) (_ : World) => v = .agg #[.bool p, .slice A n c, .bool q, .slice A' n' c']), (fun (v : Value) (_ : World) => v = .bool vb), (fun (v : Value) (_ : World) => v = .agg #[.bool p, .slice A n c, .bool q, .slice A' n' c']), (fun (v : Value) (_ : World) => v = .bool vb), (fun (v : Value) (_ : World) => v = .bool false), (fun (v : Value) (_ : World) => v = .bool false), (fun (v : Value) (_ : World) => v = .bool false), (fun (v : Value) (_ : World) => v = .bool true), (fun (v : Value) (_ : World) => v = .bool false), (fun (v : Value) (_ : World) => v = .bool false)] [noF, noF, noF, noF, noF, noF, noF, noF, noF, noF, noF, noF, noF, noF, noF, noF, noF, noF, noF, noF] (by kernel_rfl) (by kernel_rfl) (by kernel_rfl) (by kernel_rfl) (by kernel_rfl) (by kernel_rfl) (by kernel_rfl) (by kernel_rfl) (fun _ _ _ _ h => h) ⟨(fun _ _ _ e ⟨b, A, n, c, b', A', n', c', h1, h2, h3⟩ => ⟨b, A, n, c, b', A', n', c', h1, h2.ext e, h3.ext e⟩), (fun _ _ _ e ⟨b, A, n, c, b', A', n', c', h1, h2, h3⟩ => ⟨b, A, n, c, b', A', n', c', h1, h2.ext e, h3.ext e⟩), Stays.pure _, Stays.pure _, Stays.pure _, Stays.pure _, Stays.pure _, Stays.pure _, Stays.pure _, Stays.pure _, Stays.pure _, Stays.pure _, Stays.pure _, Stays.pure _, Stays.pure _, Stays.pure _, Stays.pure _, Stays.pure _, Stays.pure _, Stays.pure _, True.intro⟩ ?steps ?done
  case steps =>
    simp only [List.take_succ_cons, List.take_zero]
    refine Steps.cons (fun (v : Value) (X : World) => ∃ b A n c b' A' n' c', v = .agg #[.bool b, .slice A n c, .bool b', .slice A' n' c'] ∧ ZV X (.agg #[.bool b, .slice A n c]) (vx) ∧ ZV X (.agg #[.bool b', .slice A' n' c']) (vy)) [] rfl (by kernel_rfl) rfl (by kernel_rfl) (fun y X ex0 hf K hK => ?_) ?_
    · clear hf
      have ex := (Ext.drw (Ext.refl _)).trans ex0
      refine Box.mk ?_
      simp only [fill, Act.put, Nat.reduceAdd, List.setIfInBounds_toArray, List.set_cons_zero, List.set_cons_succ] at hK ⊢
      obtain ⟨⟨bl, Al, nl, cl, k0, k1, kz⟩, ⟨bm, Am, nm, cm, k2, k3, ky⟩⟩ := (F5.out.ext ex)
      go_simp
      exact hK.out _ _ ⟨_, _, _, _, _, _, _, _, rfl, kz, ky⟩ (Ext.refl _) (fun b hb => by cases hb)
    refine Steps.cons (fun (v : Value) (X : World) => ∃ b A n c b' A' n' c', v = .agg #[.bool b, .slice A n c, .bool b', .slice A' n' c'] ∧ ZV X (.agg #[.bool b, .slice A n c]) (vx) ∧ ZV X (.agg #[.bool b', .slice A' n' c']) (vy)) [] rfl (by kernel_rfl) rfl (by kernel_rfl) (fun y X ex0 hf K hK => ?_) ?_
    · clear hf
      have ex := (Ext.drw (Ext.refl _)).trans ex0
      refine Box.mk ?_
      simp only [fill, Act.put, Nat.reduceAdd, List.setIfInBounds_toArray, List.set_cons_zero, List.set_cons_succ] at hK ⊢
      obtain ⟨⟨bl, Al, nl, cl, k0, k1, kz⟩, ⟨bm, Am, nm, cm, k2, k3, ky⟩⟩ := (G5.out.ext ex)
      go_simp
      exact hK.out _ _ ⟨_, _, _, _, _, _, _, _, rfl, kz, ky⟩ (Ext.refl _) (fun b hb => by cases hb)
    refine Steps.cons (fun (v : Value) (_ : World) => v = .bool true) [0, 1] rfl (by kernel_rfl) rfl (by kernel_rfl) (fun y X ex0 hf K hK => ?_) ?_
    · obtain ⟨b0, A0, n0, c0, bb0, AA0, nn0, cc0, h0, z0, y0⟩ : ((fun (v : Value) (X : World) => ∃ b A n c b' A' n' c', v = .agg #[.bool b, .slice A n c, .bool b', .slice A' n' c'] ∧ ZV X (.agg #[.bool b, .slice A n c]) (vx) ∧ ZV X (.agg #[.bool b', .slice A' n' c']) (vy))) (y 0) X := hf.1
      obtain ⟨b1, A1, n1, c1, bb1, AA1, nn1, cc1, h1, z1, y1⟩ : ((fun (v : Value) (X : World) => ∃ b A n c b' A' n' c', v = .agg #[.bool b, .slice A n c, .bool b', .slice A' n' c'] ∧ ZV X (.agg #[.bool b, .slice A n c]) (vx) ∧ ZV X (.agg #[.bool b', .slice A' n' c']) (vy))) (y 1) X := hf.2.1
      clear hf
      have ex := (Ext.drw (Ext.refl _)).trans ex0
      refine Box.mk ?_
      simp only [fill, Act.put, Nat.reduceAdd, List.setIfInBounds_toArray, List.set_cons_zero, List.set_cons_succ, h0, h1] at hK ⊢
      go_simp
      refine (sameRat_true vx vy _ _ X (fv_mk z0 y0) (fv_mk z1 y1)).mono ?_
      rintro e V ⟨rfl, hb⟩
      try go_wp2_with fail
      exact hK.out _ _ rfl hb (fun b hb => by cases hb)
    refine Steps.cons (fun (v : Value) (_ : World) => v = .bool false) [2] rfl (by kernel_rfl) rfl (by kernel_rfl) (fun y X ex0 hf K hK => ?_) ?_
    · have h2 : ((fun (v : Value) (_ : World) => v = .bool true)) (y 2) X := hf.1
      clear hf
      have ex := (Ext.drw (Ext.refl _)).trans ex0
      refine Box.mk ?_
      simp only [fill, Act.put, Nat.reduceAdd, List.setIfInBounds_toArray, List.set_cons_zero, List.set_cons_succ, h2] at hK ⊢
      go_simp
      exact hK.out _ _ rfl (Ext.refl _) (fun b hb => by cases hb)
    refine Steps.cons (fun (v : Value) (_ : World) => v = .bool false) [3, 2] rfl (by kernel_rfl) rfl (by kernel_rfl) (fun y X ex0 hf K hK => ?_) ?_
    · have h3 : ((fun (v : Value) (_ : World) => v = .bool false)) (y 3) X := hf.1
      have h2 : ((fun (v : Value) (_ : World) => v = .bool true)) (y 2) X := hf.2.1
      clear hf
      have ex := (Ext.drw (Ext.refl _)).trans ex0
      refine Box.mk ?_
      simp only [fill, Act.put, Nat.reduceAdd, List.setIfInBounds_toArray, List.set_cons_zero, List.set_cons_succ, h3, h2] at hK ⊢
      go_simp
      exact hK.out _ _ rfl (Ext.refl _) (fun b hb => by cases hb)
    refine Steps.cons (fun (v : Value) (_ : World) => v = (.int .i64 er)) [4] rfl (by kernel_rfl) rfl (by kernel_rfl) (fun y X ex0 hf K hK => ?_) ?_
    · have h4 : ((fun (v : Value) (_ : World) => v = .bool false)) (y 4) X := hf.1
      clear hf
      have ex := (Ext.drw (Ext.refl _)).trans ex0
      refine Box.mk ?_
      simp only [fill, Act.put, Nat.reduceAdd, List.setIfInBounds_toArray, List.set_cons_zero, List.set_cons_succ, h4] at hK ⊢
      go_simp
      exact hK.out _ _ rfl (Ext.refl _) (fun b hb => by cases hb)
    refine Steps.cons (fun (v : Value) (_ : World) => v = (.int .i64 er)) [4] rfl (by kernel_rfl) rfl (by kernel_rfl) (fun y X ex0 hf K hK => ?_) ?_
    · have h4 : ((fun (v : Value) (_ : World) => v = .bool false)) (y 4) X := hf.1
      clear hf
      have ex := (Ext.drw (Ext.refl _)).trans ex0
      refine Box.mk ?_
      simp only [fill, Act.put, Nat.reduceAdd, List.setIfInBounds_toArray, List.set_cons_zero, List.set_cons_succ, h4] at hK ⊢
      go_simp
      exact hK.out _ _ rfl (Ext.refl _) (fun b hb => by cases hb)
    refine Steps.cons (fun (v : Value) (_ : World) => v = .bool false) [5, 6, 4] rfl (by kernel_rfl) rfl (by kernel_rfl) (fun y X ex0 hf K hK => ?_) ?_
    · have h5 : ((fun (v : Value) (_ : World) => v = (.int .i64 er))) (y 5) X := hf.1
      have h6 : ((fun (v : Value) (_ : World) => v = (.int .i64 er))) (y 6) X := hf.2.1
      have h4 : ((fun (v : Value) (_ : World) => v = .bool false)) (y 4) X := hf.2.2.1
      clear hf
      have ex := (Ext.drw (Ext.refl _)).trans ex0
      refine Box.mk ?_
      simp only [fill, Act.put, Nat.reduceAdd, List.setIfInBounds_toArray, List.set_cons_zero, List.set_cons_succ, h5, h6, h4] at hK ⊢
      go_simp
      exact hK.out _ _ rfl (Ext.refl _) (fun b hb => by cases hb)
    refine Steps.cons (fun (v : Value) (_ : World) => v = .bool false) [4, 7] rfl (by kernel_rfl) rfl (by kernel_rfl) (fun y X ex0 hf K hK => ?_) ?_
    · have h4 : ((fun (v : Value) (_ : World) => v = .bool false)) (y 4) X := hf.1
      have h7 : ((fun (v : Value) (_ : World) => v = .bool false)) (y 7) X := hf.2.1
      clear hf
      have ex := (Ext.drw (Ext.refl _)).trans ex0
      refine Box.mk ?_
      simp only [fill, Act.put, Nat.reduceAdd, List.setIfInBounds_toArray, List.set_cons_zero, List.set_cons_succ, h4, h7] at hK ⊢
      go_simp
      exact hK.out _ _ rfl (Ext.refl _) (fun b hb => by cases hb)
    refine Steps.cons (fun (v : Value) (_ : World) => v = .bool false) [8, 4] rfl (by kernel_rfl) rfl (by kernel_rfl) (fun y X ex0 hf K hK => ?_) ?_
    · have h8 : ((fun (v : Value) (_ : World) => v = .bool false)) (y 8) X := hf.1
      have h4 : ((fun (v : Value) (_ : World) => v = .bool false)) (y 4) X := hf.2.1
      clear hf
      have ex := (Ext.drw (Ext.refl _)).trans ex0
      refine Box.mk ?_
      simp only [fill, Act.put, Nat.reduceAdd, List.setIfInBounds_toArray, List.set_cons_zero, List.set_cons_succ, h8, h4] at hK ⊢
      go_simp
      exact hK.out _ _ rfl (Ext.refl _) (fun b hb => by cases hb)
    refine Steps.cons (fun (v : Value) (_ : World) => v = .agg #[.bool p, .slice A n c, .bool q, .slice A' n' c']) [9] rfl (by kernel_rfl) rfl (by kernel_rfl) (fun y X ex0 hf K hK => ?_) ?_
    · have h9 : ((fun (v : Value) (_ : World) => v = .bool false)) (y 9) X := hf.1
      clear hf
      have ex := (Ext.drw (Ext.refl _)).trans ex0
      refine Box.mk ?_
      simp only [fill, Act.put, Nat.reduceAdd, List.setIfInBounds_toArray, List.set_cons_zero, List.set_cons_succ, h9] at hK ⊢
      have k0 := keepAt ex LT.out R5.out.k0; have k1 := keepAt ex LT.out R5.out.k1; have k2 := keepAt ex LT.out R5.out.k2; have k3 := keepAt ex LT.out R5.out.k3
      go_simp
      exact hK.out _ _ rfl (Ext.refl _) (fun b hb => by cases hb)
    refine Steps.cons (fun (v : Value) (_ : World) => v = .bool vb) [10, 9] rfl (by kernel_rfl) rfl (by kernel_rfl) (fun y X ex0 hf K hK => ?_) ?_
    · have h10 : ((fun (v : Value) (_ : World) => v = .agg #[.bool p, .slice A n c, .bool q, .slice A' n' c'])) (y 10) X := hf.1
      have h9 : ((fun (v : Value) (_ : World) => v = .bool false)) (y 9) X := hf.2.1
      clear hf
      have ex := (Ext.drw (Ext.refl _)).trans ex0
      refine Box.mk ?_
      simp only [fill, Act.put, Nat.reduceAdd, List.setIfInBounds_toArray, List.set_cons_zero, List.set_cons_succ, h10, h9] at hK ⊢
      go_simp
      refine (VA.out X ex).mono ?_
      rintro e V ⟨rfl, hb⟩
      try go_wp2_with fail
      exact hK.out _ _ rfl hb (fun b hb => by cases hb)
    refine Steps.cons (fun (v : Value) (_ : World) => v = .agg #[.bool p, .slice A n c, .bool q, .slice A' n' c']) [9] rfl (by kernel_rfl) rfl (by kernel_rfl) (fun y X ex0 hf K hK => ?_) ?_
    · have h9 : ((fun (v : Value) (_ : World) => v = .bool false)) (y 9) X := hf.1
      clear hf
      have ex := (Ext.drw (Ext.refl _)).trans ex0
      refine Box.mk ?_
      simp only [fill, Act.put, Nat.reduceAdd, List.setIfInBounds_toArray, List.set_cons_zero, List.set_cons_succ, h9] at hK ⊢
      have k0 := keepAt ex LT.out R5.out.k0; have k1 := keepAt ex LT.out R5.out.k1; have k2 := keepAt ex LT.out R5.out.k2; have k3 := keepAt ex LT.out R5.out.k3
      go_simp
      exact hK.out _ _ rfl (Ext.refl _) (fun b hb => by cases hb)
    refine Steps.cons (fun (v : Value) (_ : World) => v = .bool vb) [12, 11, 9] rfl (by kernel_rfl) rfl (by kernel_rfl) (fun y X ex0 hf K hK => ?_) ?_
    · have h12 : ((fun (v : Value) (_ : World) => v = .agg #[.bool p, .slice A n c, .bool q, .slice A' n' c'])) (y 12) X := hf.1
      have h11 : ((fun (v : Value) (_ : World) => v = .bool vb)) (y 11) X := hf.2.1
      have h9 : ((fun (v : Value) (_ : World) => v = .bool false)) (y 9) X := hf.2.2.1
      clear hf
      have ex := (Ext.drw (Ext.refl _)).trans ex0
      refine Box.mk ?_
      simp only [fill, Act.put, Nat.reduceAdd, List.setIfInBounds_toArray, List.set_cons_zero, List.set_cons_succ, h12, h11, h9] at hK ⊢
      go_simp
      refine (VC.out X ex).mono ?_
      rintro e V ⟨rfl, hb⟩
      try go_wp2_with fail
      exact hK.out _ _ rfl hb (fun b hb => by cases hb)
    refine Steps.cons (fun (v : Value) (_ : World) => v = .bool false) [11, 13, 9] rfl (by kernel_rfl) rfl (by kernel_rfl) (fun y X ex0 hf K hK => ?_) ?_
    · have h11 : ((fun (v : Value) (_ : World) => v = .bool vb)) (y 11) X := hf.1
      have h13 : ((fun (v : Value) (_ : World) => v = .bool vb)) (y 13) X := hf.2.1
      have h9 : ((fun (v : Value) (_ : World) => v = .bool false)) (y 9) X := hf.2.2.1
      clear hf
      have ex := (Ext.drw (Ext.refl _)).trans ex0
      refine Box.mk ?_
      simp only [fill, Act.put, Nat.reduceAdd, List.setIfInBounds_toArray, List.set_cons_zero, List.set_cons_succ, h11, h13, h9] at hK ⊢
      go_simp
      exact hK.out _ _ rfl (Ext.refl _) (fun b hb => by cases hb)
    refine Steps.cons (fun (v : Value) (_ : World) => v = .bool false) [9, 14] rfl (by kernel_rfl) rfl (by kernel_rfl) (fun y X ex0 hf K hK => ?_) ?_
    · have h9 : ((fun (v : Value) (_ : World) => v = .bool false)) (y 9) X := hf.1
      have h14 : ((fun (v : Value) (_ : World) => v = .bool false)) (y 14) X := hf.2.1
      clear hf
      have ex := (Ext.drw (Ext.refl _)).trans ex0
      refine Box.mk ?_
      simp only [fill, Act.put, Nat.reduceAdd, List.setIfInBounds_toArray, List.set_cons_zero, List.set_cons_succ, h9, h14] at hK ⊢
      go_simp
      exact hK.out _ _ rfl (Ext.refl _) (fun b hb => by cases hb)
    refine Steps.cons (fun (v : Value) (_ : World) => v = .bool false) [15, 13] rfl (by kernel_rfl) rfl (by kernel_rfl) (fun y X ex0 hf K hK => ?_) ?_
    · have h15 : ((fun (v : Value) (_ : World) => v = .bool false)) (y 15) X := hf.1
      have h13 : ((fun (v : Value) (_ : World) => v = .bool vb)) (y 13) X := hf.2.1
      clear hf
      have ex := (Ext.drw (Ext.refl _)).trans ex0
      refine Box.mk ?_
      simp only [fill, Act.put, Nat.reduceAdd, List.setIfInBounds_toArray, List.set_cons_zero, List.set_cons_succ, h15, h13] at hK ⊢
      go_simp
      exact hK.out _ _ rfl (Ext.refl _) (fun b hb => by cases hb)
    refine Steps.cons (fun (v : Value) (_ : World) => v = .bool true) [16] rfl (by kernel_rfl) rfl (by kernel_rfl) (fun y X ex0 hf K hK => ?_) ?_
    · have h16 : ((fun (v : Value) (_ : World) => v = .bool false)) (y 16) X := hf.1
      clear hf
      have ex := (Ext.drw (Ext.refl _)).trans ex0
      refine Box.mk ?_
      simp only [fill, Act.put, Nat.reduceAdd, List.setIfInBounds_toArray, List.set_cons_zero, List.set_cons_succ, h16] at hK ⊢
      go_simp
      refine (awake_any X).mono ?_
      rintro e V ⟨rfl, hb⟩
      try go_wp2_with fail
      exact hK.out _ _ rfl hb (fun b hb => by cases hb)
    refine Steps.cons (fun (v : Value) (_ : World) => v = .bool false) [17, 16] rfl (by kernel_rfl) rfl (by kernel_rfl) (fun y X ex0 hf K hK => ?_) ?_
    · have h17 : ((fun (v : Value) (_ : World) => v = .bool true)) (y 17) X := hf.1
      have h16 : ((fun (v : Value) (_ : World) => v = .bool false)) (y 16) X := hf.2.1
      clear hf
      have ex := (Ext.drw (Ext.refl _)).trans ex0
      refine Box.mk ?_
      simp only [fill, Act.put, Nat.reduceAdd, List.setIfInBounds_toArray, List.set_cons_zero, List.set_cons_succ, h17, h16] at hK ⊢
      go_simp
      exact hK.out _ _ rfl (Ext.refl _) (fun b hb => by cases hb)
    refine Steps.cons (fun (v : Value) (_ : World) => v = .bool false) [16, 18] rfl (by kernel_rfl) rfl (by kernel_rfl) (fun y X ex0 hf K hK => ?_) ?_
    · have h16 : ((fun (v : Value) (_ : World) => v = .bool false)) (y 16) X := hf.1
      have h18 : ((fun (v : Value) (_ : World) => v = .bool false)) (y 18) X := hf.2.1
      clear hf
      have ex := (Ext.drw (Ext.refl _)).trans ex0
      refine Box.mk ?_
      simp only [fill, Act.put, Nat.reduceAdd, List.setIfInBounds_toArray, List.set_cons_zero, List.set_cons_succ, h16, h18] at hK ⊢
      go_simp
      exact hK.out _ _ rfl (Ext.refl _) (fun b hb => by cases hb)
    exact Steps.nil
  case done =>
    intro y X ex hf hlt hsep
    obtain ⟨b0, A0, n0, c0, bb0, AA0, nn0, cc0, h0, z0, y0⟩ : ((fun (v : Value) (X : World) => ∃ b A n c b' A' n' c', v = .agg #[.bool b, .slice A n c, .bool b', .slice A' n' c'] ∧ ZV X (.agg #[.bool b, .slice A n c]) (vx) ∧ ZV X (.agg #[.bool b', .slice A' n' c']) (vy))) (y 0) X := hf.1
    obtain ⟨b1, A1, n1, c1, bb1, AA1, nn1, cc1, h1, z1, y1⟩ : ((fun (v : Value) (X : World) => ∃ b A n c b' A' n' c', v = .agg #[.bool b, .slice A n c, .bool b', .slice A' n' c'] ∧ ZV X (.agg #[.bool b, .slice A n c]) (vx) ∧ ZV X (.agg #[.bool b', .slice A' n' c']) (vy))) (y 1) X := hf.2.1
    have h2 : ((fun (v : Value) (_ : World) => v = .bool true)) (y 2) X := hf.2.2.1
    have h3 : ((fun (v : Value) (_ : World) => v = .bool false)) (y 3) X := hf.2.2.2.1
    have h4 : ((fun (v : Value) (_ : World) => v = .bool false)) (y 4) X := hf.2.2.2.2.1
    have h5 : ((fun (v : Value) (_ : World) => v = (.int .i64 er))) (y 5) X := hf.2.2.2.2.2.1
    have h6 : ((fun (v : Value) (_ : World) => v = (.int .i64 er))) (y 6) X := hf.2.2.2.2.2.2.1
    have h7 : ((fun (v : Value) (_ : World) => v = .bool false)) (y 7) X := hf.2.2.2.2.2.2.2.1
    have h8 : ((fun (v : Value) (_ : World) => v = .bool false)) (y 8) X := hf.2.2.2.2.2.2.2.2.1
    have h9 : ((fun (v : Value) (_ : World) => v = .bool false)) (y 9) X := hf.2.2.2.2.2.2.2.2.2.1
    have h10 : ((fun (v : Value) (_ : World) => v = .agg #[.bool p, .slice A n c, .bool q, .slice A' n' c'])) (y 10) X := hf.2.2.2.2.2.2.2.2.2.2.1
    have h11 : ((fun (v : Value) (_ : World) => v = .bool vb)) (y 11) X := hf.2.2.2.2.2.2.2.2.2.2.2.1
    have h12 : ((fun (v : Value) (_ : World) => v = .agg #[.bool p, .slice A n c, .bool q, .slice A' n' c'])) (y 12) X := hf.2.2.2.2.2.2.2.2.2.2.2.2.1
    have h13 : ((fun (v : Value) (_ : World) => v = .bool vb)) (y 13) X := hf.2.2.2.2.2.2.2.2.2.2.2.2.2.1
    have h14 : ((fun (v : Value) (_ : World) => v = .bool false)) (y 14) X := hf.2.2.2.2.2.2.2.2.2.2.2.2.2.2.1
    have h15 : ((fun (v : Value) (_ : World) => v = .bool false)) (y 15) X := hf.2.2.2.2.2.2.2.2.2.2.2.2.2.2.2.1
    have h16 : ((fun (v : Value) (_ : World) => v = .bool false)) (y 16) X := hf.2.2.2.2.2.2.2.2.2.2.2.2.2.2.2.2.1
    have h17 : ((fun (v : Value) (_ : World) => v = .bool true)) (y 17) X := hf.2.2.2.2.2.2.2.2.2.2.2.2.2.2.2.2.2.1
    have h18 : ((fun (v : Value) (_ : World) => v = .bool false)) (y 18) X := hf.2.2.2.2.2.2.2.2.2.2.2.2.2.2.2.2.2.2.1
    have h19 : ((fun (v : Value) (_ : World) => v = .bool false)) (y 19) X := hf.2.2.2.2.2.2.2.2.2.2.2.2.2.2.2.2.2.2.2.1
    clear hf
    clear hsep hlt
    refine Box.mk ?_
    simp only [List.drop_succ_cons, List.drop_zero, fill, Act.put, Nat.reduceAdd, List.setIfInBounds_toArray, List.set_cons_zero, List.set_cons_succ, h0, h1, h2, h3, h4, h5, h6, h7, h8, h9, h10, h11, h12, h13, h14, h15, h16, h17, h18, h19]
    clear h0 h1 h2 h3 h4 h5 h6 h7 h8 h9 h10 h11 h12 h13 h14 h15 h16 h17 h18 h19
    have EX := Lib.hid ex; clear ex
    go_wp2_with fail
    refine NoPanic.normal ?_
    go_upto_region 6 with fail
    clear z0 y0 z1 y1 VA VC
    obtain ⟨⟨b9, A9, n9, c9, j0, j1, jz⟩, ⟨b8, A8, n8, c8, i0, i1, iz⟩⟩ := F5.out.ext EX.out
    have g0 := keepAt EX.out LT.out R5.out.k0
    have g1 := keepAt EX.out LT.out R5.out.k1
    have g2 := keepAt EX.out LT.out R5.out.k2
    have g3 := keepAt EX.out LT.out R5.out.k3
    go_wp2_with fail
    obtain ⟨W7, hW7⟩ : ∃ W7, W7 = X.alloc (Obj.cells #[.bool b9, .slice A9 n9 c9, .bool b8, .slice A8 n8 c8, .bool p, .slice A n c, .bool q, .slice A' n' c'] 26) := ⟨_, rfl⟩
    have x7 : Ext X W7 := by rw [hW7]; exact (Ext.refl _).alc _
    obtain ⟨g, hg⟩ : ∃ g, g = X.heap.size := ⟨_, rfl⟩
    have hi : ∀ k, k < 2 → ∃ (P Q : Bool) (A1 A2 : Option Addr) (n1 c1 n2 c2 : Nat) (L L' : List Nat), W7.cell? ⟨g, k * 4, none⟩ = some (.bool P) ∧ W7.cell? ⟨g, k * 4 + 1, none⟩ = some (.slice A1 n1 c1) ∧ W7.cell? ⟨g, k * 4 + 2, none⟩ = some (.bool Q) ∧ W7.cell? ⟨g, k * 4 + 3, none⟩ = some (.slice A2 n2 c2) ∧ Wd W7 (.slice A1 n1 c1) L ∧ Wd W7 (.slice A2 n2 c2) L' := by
      intro k hk
      rcases (show k = 0 ∨ k = 1 by omega) with rfl | rfl
      · exact ⟨b9, b8, A9, A8, n9, c9, n8, c8, _, _, by rw [hW7, hg, World.cell?_alloc_new]; rfl, by rw [hW7, hg, World.cell?_alloc_new]; rfl, by rw [hW7, hg, World.cell?_alloc_new]; rfl, by rw [hW7, hg, World.cell?_alloc_new]; rfl, (jz.ext x7).words.2, (iz.ext x7).words.2⟩
      · exact ⟨p, q, A, A', n, c, n', c', _, _, by rw [hW7, hg, World.cell?_alloc_new]; rfl, by rw [hW7, hg, World.cell?_alloc_new]; rfl, by rw [hW7, hg, World.cell?_alloc_new]; rfl, by rw [hW7, hg, World.cell?_alloc_new]; rfl, (R5.out.w1.below EX.out).below x7, (R5.out.w2.below EX.out).below x7⟩
    have HI := Lib.hid hi
    have lg : g < W7.heap.size := by rw [hg, hW7]; simp
    have LG := Lib.hid lg
    have E7 := Lib.hid (E0.out.trans (X5.out.trans (EX.out.trans x7)))
    rw [← hW7, ← hg]
    clear hi lg x7 hW7 hg jz iz j0 j1 i0 i1 g0 g1 g2 g3 F5 G5 R5 LT EX HX
    go_loopw [61] (fun i wr => ∃ k : Nat, i = .int .i64 k ∧ k ≤ 2 ∧ Hid (Ext W7 wr)) (fun i _ => 2 - (intOf i).toNat)
    case atStart => exact ⟨0, rfl, Nat.zero_le _, Lib.hid (Ext.refl _)⟩
    case round =>
      obtain ⟨k, rfl, hk, hbel⟩ := hrel
      by_cases hlt : k < 2
      · obtain ⟨P, Q, A1, A2, n1, c1, n2, c2, L, L', q0, q1, q2, q3, w1, w2⟩ := HI.out k hlt
        have q0 := keepAt hbel.out LG.out q0; have q1 := keepAt hbel.out LG.out q1; have q2 := keepAt hbel.out LG.out q2; have q3 := keepAt hbel.out LG.out q3
        obtain ⟨Wa, hWa⟩ : ∃ Wa, Wa = wr.alloc (Obj.cells #[.bool P, .slice A1 n1 c1, .bool Q, .slice A2 n2 c2] 26) := ⟨_, rfl⟩
        have xa : Ext wr Wa := by rw [hWa]; exact (Ext.refl _).alc _
        have a0 : Wa.cell? ⟨wr.heap.size, 0, none⟩ = some (.bool P) := by rw [hWa, World.cell?_alloc_new]; rfl
        have a1 : Wa.cell? ⟨wr.heap.size, 1, none⟩ = some (.slice A1 n1 c1) := by rw [hWa, World.cell?_alloc_new]; rfl
        have a2 : Wa.cell? ⟨wr.heap.size, 2, none⟩ = some (.bool Q) := by rw [hWa, World.cell?_alloc_new]; rfl
        have a3 : Wa.cell? ⟨wr.heap.size, 3, none⟩ = some (.slice A2 n2 c2) := by rw [hWa, World.cell?_alloc_new]; rfl
        have la : wr.heap.size < Wa.heap.size := by rw [hWa]; simp
        have wx := (w1.below hbel.out).below xa
        have wy := (w2.below hbel.out).below xa
        have EA := Lib.hid (hbel.out.trans xa)
        have ta : Tab Wa := tab_below HT.out (Ext.below (E7.out.trans EA.out))
        obtain ⟨S, hS⟩ : ∃ S, S = rS P Q L L' := ⟨_, rfl⟩
        obtain ⟨E, hE⟩ : ∃ E, E = rE P Q L L' := ⟨_, rfl⟩
        obtain ⟨Z, hZ⟩ : ∃ Z, Z = rZ P Q L L' := ⟨_, rfl⟩
        have C1 := Lib.hid (ratPrint_w P Q A1 A2 n1 c1 n2 c2 L L' Wa wx wy ta)
        have C2 := Lib.hid (fun Y (e : Ext Wa Y) => refRatPrint_w P Q A1 A2 n1 c1 n2 c2 L L' Y (wx.below e) (wy.below e) (tab_below ta (Ext.below e)))
        have C3 := Lib.hid (fun Y (e : Ext Wa Y) => ratFloor_w P Q A1 A2 n1 c1 n2 c2 L L' Y (wx.below e) (wy.below e))
        have C4 := Lib.hid (fun Y (e : Ext Wa Y) => refRatFloor_w P Q A1 A2 n1 c1 n2 c2 L L' Y (wx.below e) (wy.below e))
        have C5 := Lib.hid (fun Y => back_any P Q A1 A2 n1 c1 n2 c2 L L' Wa wx wy Y)
        rw [← hS] at C1 C2 C5
        rw [← hE] at C1 C2 C3 C4
        rw [← hZ] at C3 C4
        have WX := Lib.hid (And.intro wx wy)
        have HE := Lib.hid hE; have HWa := Lib.hid hWa
        clear hS hE hZ wx wy ta w1 w2 xa hWa
        go_wp2_with fail
        rw [← HWa.out]
        refine C1.out.mono ?_
        rintro e Wb ⟨rfl, xb⟩
        replace xb : Ext Wa Wb := xb
        have a0 := keepAt xb la a0; have a1 := keepAt xb la a1; have a2 := keepAt xb la a2; have a3 := keepAt xb la a3
        have lb := xb.size
        have XB := Lib.hid xb
        clear xb C1 HWa q0 q1 q2 q3
        go_wp2_with fail
        refine (C2.out Wb XB.out).mono ?_
        rintro e Wc ⟨rfl, xc⟩
        replace xc : Ext Wb Wc := xc
        have a0 := keepAt xc (by omega) a0; have a1 := keepAt xc (by omega) a1; have a2 := keepAt xc (by omega) a2; have a3 := keepAt xc (by omega) a3
        have lc := xc.size
        have XC := Lib.hid (XB.out.trans xc)
        clear xc C2 XB
        go_wp2_with fail
        refine (C3.out Wc XC.out).mono ?_
        rintro e Wd' ⟨b3, A3, n3, c3, rfl, z3, xd⟩
        replace xd : Ext Wc Wd' := xd
        obtain ⟨We, hWe⟩ : ∃ We, We = Wd'.alloc (Obj.cells #[.bool b3, .slice A3 n3 c3] 24) := ⟨_, rfl⟩
        have xe : Ext Wd' We := by rw [hWe]; exact (Ext.refl _).alc _
        have d0 : We.cell? ⟨Wd'.heap.size, 0, none⟩ = some (.bool b3) := by rw [hWe, World.cell?_alloc_new]; rfl
        have d1 : We.cell? ⟨Wd'.heap.size, 1, none⟩ = some (.slice A3 n3 c3) := by rw [hWe, World.cell?_alloc_new]; rfl
        have ld : Wd'.heap.size < We.heap.size := by rw [hWe]; simp
        have a0 := keepAt (xd.trans xe) (by omega) a0; have a1 := keepAt (xd.trans xe) (by omega) a1; have a2 := keepAt (xd.trans xe) (by omega) a2; have a3 := keepAt (xd.trans xe) (by omega) a3
        have le := (xd.trans xe).size
        have XE := Lib.hid (XC.out.trans (xd.trans xe))
        have Z3 := Lib.hid (z3.ext xe)
        have o0 := a0; have o1 := a1; have o2 := a2; have o3 := a3
        rw [hWe] at o0 o1 o2 o3
        have HWe := Lib.hid hWe
        clear xd xe z3 hWe C3 XC
        go_wp2_with fail
        rw [← HWe.out]
        refine (C4.out We XE.out).mono ?_
        rintro e Wf ⟨b4, A4, n4, c4, rfl, z4, xf⟩
        replace xf : Ext We Wf := xf
        obtain ⟨Wg, hWg⟩ : ∃ Wg, Wg = Wf.alloc (Obj.cells #[.bool b4, .slice A4 n4 c4] 24) := ⟨_, rfl⟩
        have xg : Ext Wf Wg := by rw [hWg]; exact (Ext.refl _).alc _
        have f0 : Wg.cell? ⟨Wf.heap.size, 0, none⟩ = some (.bool b4) := by rw [hWg, World.cell?_alloc_new]; rfl
        have f1 : Wg.cell? ⟨Wf.heap.size, 1, none⟩ = some (.slice A4 n4 c4) := by rw [hWg, World.cell?_alloc_new]; rfl
        have lf : Wf.heap.size < Wg.heap.size := by rw [hWg]; simp
        have a0 := keepAt (xf.trans xg) (by omega) a0; have a1 := keepAt (xf.trans xg) (by omega) a1; have a2 := keepAt (xf.trans xg) (by omega) a2; have a3 := keepAt (xf.trans xg) (by omega) a3
        have d0 := keepAt (xf.trans xg) ld d0; have d1 := keepAt (xf.trans xg) ld d1
        have lg := (xf.trans xg).size
        have XG := Lib.hid (XE.out.trans (xf.trans xg))
        have Z3 := Lib.hid (Z3.out.ext (xf.trans xg)); have Z4 := Lib.hid (z4.ext xg)
        have HWg := Lib.hid hWg
        clear xf xg z4 hWg C4 XE HWe o0 o1 o2 o3
        go_wp2_with fail
        rw [← HWg.out]
        refine (C5.out Wg).mono ?_
        rintro e Wh ⟨b5, A5, n5, c5, b6, A6, n6, c6, K, x, y, rfl, y5, y6, hk5, xh⟩
        replace xh : Ext Wg Wh := xh
        obtain ⟨Wi, hWi⟩ : ∃ Wi, Wi = Wh.alloc (Obj.cells #[.bool b5, .slice A5 n5 c5, .bool b6, .slice A6 n6 c6] 26) := ⟨_, rfl⟩
        have xi : Ext Wh Wi := by rw [hWi]; exact (Ext.refl _).alc _
        have i0 : Wi.cell? ⟨Wh.heap.size, 0, none⟩ = some (.bool b5) := by rw [hWi, World.cell?_alloc_new]; rfl
        have i1 : Wi.cell? ⟨Wh.heap.size, 1, none⟩ = some (.slice A5 n5 c5) := by rw [hWi, World.cell?_alloc_new]; rfl
        have i2 : Wi.cell? ⟨Wh.heap.size, 2, none⟩ = some (.bool b6) := by rw [hWi, World.cell?_alloc_new]; rfl
        have i3 : Wi.cell? ⟨Wh.heap.size, 3, none⟩ = some (.slice A6 n6 c6) := by rw [hWi, World.cell?_alloc_new]; rfl
        have li : Wh.heap.size < Wi.heap.size := by rw [hWi]; simp
        have a0 := keepAt (xh.trans xi) (by omega) a0; have a1 := keepAt (xh.trans xi) (by omega) a1; have a2 := keepAt (xh.trans xi) (by omega) a2; have a3 := keepAt (xh.trans xi) (by omega) a3
        have d0 := keepAt (xh.trans xi) (by omega) d0; have d1 := keepAt (xh.trans xi) (by omega) d1
        have f0 := keepAt (xh.trans xi) lf f0; have f1 := keepAt (xh.trans xi) lf f1
        have lh := (xh.trans xi).size
        have XI := Lib.hid (XG.out.trans (xh.trans xi))
        have SR := Lib.hid (sameR_yes Z _ _ Wi (Z3.out.ext (xh.trans xi)) (Z4.out.ext (xh.trans xi)))
        have Y5 := Lib.hid (And.intro (y5.ext xi) (y6.ext xi))
        have HK := Lib.hid hk5
        have m0 := d0; have m1 := d1; have m2 := f0; have m3 := f1
        rw [hWi] at m0 m1 m2 m3
        have HWi := Lib.hid hWi
        clear xh xi y5 y6 hk5 hWi C5 XG Z3 Z4 HWg d0 d1 f0 f1
        by_cases hv : vldR P Q L L' = true
        · have hE0 : E = 0 := by rw [HE.out]; unfold rE; rw [if_pos hv]
          obtain ⟨hK0, hx, hy⟩ := HK.out hv
          obtain ⟨v1, v2, -, -⟩ := vldR_parts hv
          have SA := Lib.hid (fun Y (e : Ext Wi Y) => sameRat_true (numOf P L) (numOf Q L') _ _ Y (fv_mk (vld_zv ((WX.out.1.below XI.out).below e) v1) (vld_zv ((WX.out.2.below XI.out).below e) v2)) (fv_mk (by rw [← hx]; exact Y5.out.1.ext e) (by rw [← hy]; exact Y5.out.2.ext e)))
          subst hE0 hK0
          clear hx hy v1 v2 hv HE HK Y5 WX
          go_wp2_with fail
          rw [← HWi.out]
          refine SR.out.mono ?_
          rintro e Wj ⟨rfl, xj⟩
          replace xj : Ext Wi Wj := xj
          have a0 := keepAt xj (by omega) a0; have a1 := keepAt xj (by omega) a1; have a2 := keepAt xj (by omega) a2; have a3 := keepAt xj (by omega) a3
          have i0 := keepAt xj li i0; have i1 := keepAt xj li i1; have i2 := keepAt xj li i2; have i3 := keepAt xj li i3
          have XJ := Lib.hid xj
          clear SR HWi xj m0 m1 m2 m3
          go_wp2_with fail
          refine (SA.out Wj XJ.out).mono ?_
          rintro e Wk ⟨rfl, xk⟩
          replace xk : Ext Wj Wk := xk
          have EK := Lib.hid (EA.out.trans (XI.out.trans (XJ.out.trans xk)))
          clear xk SA
          go_wp2
          go_roundw
          case rel => exact ⟨k + 1, by go_num, by omega, EK⟩
          case measure => simp [intOf]; omega
        · have hE2 : E = 2 := by rw [HE.out]; unfold rE; rw [if_neg hv]
          subst hE2
          clear hv HE HK Y5 WX
          go_wp2_with fail
          rw [← HWi.out]
          refine SR.out.mono ?_
          rintro e Wj ⟨rfl, xj⟩
          replace xj : Ext Wi Wj := xj
          have EK := Lib.hid (EA.out.trans (XI.out.trans xj))
          clear SR HWi xj m0 m1 m2 m3
          go_wp2
          go_roundw
          case rel => exact ⟨k + 1, by go_num, by omega, EK⟩
          case measure => simp [intOf]; omega
      · go_wp2
        go_ret
        exact ⟨rfl, Ext.below (E7.out.trans hbel.out)⟩
end Go.Proofs.YtmlopkkbgpfdnaaGreatDoor
