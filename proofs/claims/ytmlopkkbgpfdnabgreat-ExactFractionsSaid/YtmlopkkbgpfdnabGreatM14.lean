/- Walks: combineRats with an operation. -/
import Derived.Test.YtmlopkkbgpfdnabGreatM11
namespace Go.Proofs.YtmlopkkbgpfdnabGreat
open Go.RowKit

set_option maxHeartbeats 800000 in
set_option maxRecDepth 100000 in
theorem combineRats30_fit (p q p2 q2 : Bool) (A A' A2 A2' : Option Addr) (n c n' c' n2 c2 n2' c2' : Nat) (l l' k k' : List Nat) (w : World) (hx : Wd w (.slice A n c) l) (hy : Wd w (.slice A' n' c') l') (hx2 : Wd w (.slice A2 n2 c2) k) (hy2 : Wd w (.slice A2' n2' c2') k') (vn vd : Int) (hp : vldR p q l l' = true) (hq : vldR p2 q2 k k' = true)
    (hop : ∀ W u u', FV W u (numOf p l) (numOf q l') → FV W u' (numOf p2 k) (numOf q2 k') → Calls Tryz.prog 54 #[u, u'] W (RetF W vn vd)) (hfit : (dig vn.natAbs).length ≤ 256 ∧ (dig vd.natAbs).length ≤ 256) :
    Calls Tryz.prog 50 #[.agg #[.bool p, .slice A n c, .bool q, .slice A' n' c'], .agg #[.bool p2, .slice A2 n2 c2, .bool q2, .slice A2' n2' c2'], .func (.func 54) #[] #[]] w (RetR w vn vd 0) := by
  obtain ⟨W0, hW0, h1, h2, r4, e0, s0⟩ := three_fb p q p2 q2 A A' A2 A2' n c n' c' n2 c2 n2' c2' l l' k k' w hx hy hx2 hy2
  obtain ⟨W1, hW1⟩ : ∃ W1, W1 = W0.alloc (Obj.cells #[.bool p, .slice A n c, .bool q, .slice A' n' c', .bool p2, .slice A2 n2 c2, .bool q2, .slice A2' n2' c2'] 26) := ⟨_, rfl⟩
  have e1 : Ext W0 W1 := by rw [hW1]; exact (Ext.refl _).alc _
  have hs : W1.heap[w.heap.size + 1 + 1 + 1]? = some (.cells #[.bool p, .slice A n c, .bool q, .slice A' n' c', .bool p2, .slice A2 n2 c2, .bool q2, .slice A2' n2' c2'] 26 (0, 0)) := by
    have := heap_alloc_new W0 (Obj.cells #[.bool p, .slice A n c, .bool q, .slice A' n' c', .bool p2, .slice A2 n2 c2, .bool q2, .slice A2' n2' c2'] 26)
    rw [s0] at this
    rw [hW1]; exact this
  have AV := Lib.hid (allValidRats_two p q p2 q2 A A' A2 A2' n c n' c' n2 c2 n2' c2' l l' k k' w W1 _ (h1.ext e1).w1 (h1.ext e1).w2 (h2.ext e1).w1 (h2.ext e1).w2 hs)
  have HWA := Lib.hid hW1
  have H1 := Lib.hid (h1.ext e1); have H2 := Lib.hid (h2.ext e1); have R4 := Lib.hid (r4.ext e1); have E1 := Lib.hid (e0.trans e1); have HW0 := Lib.hid hW0
  have z1 : w.heap.size + 1 + 1 + 1 ≤ W1.heap.size := by have := e1.size; omega
  obtain ⟨hv1, hv2, hv3, hv4⟩ := vldR_parts hp
  obtain ⟨hu1, hu2, hu3, hu4⟩ := vldR_parts hq
  have f1 := Lib.hid ((h1.ext e1).hf hv1 hv2)
  have f2 := Lib.hid ((h2.ext e1).hf hu1 hu2)
  have hyes : (vldR p q l l' && vldR p2 q2 k k') = true := by rw [hp, hq]; rfl
  clear hv1 hv2 hv3 hv4 hu1 hu2 hu3 hu4
  obtain ⟨vx, hvx⟩ : ∃ z, z = numOf p l := ⟨_, rfl⟩
  obtain ⟨vy, hvy⟩ : ∃ z, z = numOf q l' := ⟨_, rfl⟩
  obtain ⟨ux, hux⟩ : ∃ z, z = numOf p2 k := ⟨_, rfl⟩
  obtain ⟨uy, huy⟩ : ∃ z, z = numOf q2 k' := ⟨_, rfl⟩
  rw [← hvx, ← hvy] at f1
  rw [← hux, ← huy] at f2
  rw [← hvx, ← hvy, ← hux, ← huy] at hop
  have HOP := Lib.hid hop
  clear hvx hvy hux huy hop
  have HFIT := Lib.hid hfit; clear hfit
  clear h1 h2 r4 e0 e1 s0 hs hW0 hW1 hx hy hx2 hy2
  go_enter Tryz.func50, Tryz.ntmps50
  go_wp2_with fail
  rw [← HW0.out, ← HWA.out]
  refine AV.out.mono ?_
  rintro e W2 ⟨rfl, x2⟩
  replace x2 : Ext W1 W2 := x2
  clear AV HW0 HWA
  rw [hyes]
  have F1 := Lib.hid (f1.out.ext x2); have F2 := Lib.hid (f2.out.ext x2); have R4 := Lib.hid (R4.out.ext x2); have E2 := Lib.hid (E1.out.trans x2)
  have lr := R4.out.lt
  clear x2 hyes H1 H2 f1 f2 E1 hp hq z1
  go_upto_region 3 with fail
  refine wp_region_noPanic ?_
  refine wp_pool 7 [some 15, some 16, some 17, some 18, some 19, some 20, some 8] [] [6] [(fun (v : Value) (_ : World) => v = .func (.func 54) #[] #[]), (RF2 (vx) (vy)), (RF2 (vx) (vy)), (RF2 (ux) (uy)), (RF2 (ux) (uy)), (RF2 (vn) (vd)), (fun (v : Value) (X : World) => ∃ g, v = .pointer (some ⟨g, 0, none⟩) ∧ W2.heap.size ≤ g ∧ FB X g)] [noF, noF, noF, noF, noF, noF, ptrF] (by kernel_rfl) (by kernel_rfl) (by kernel_rfl) (by kernel_rfl) (by kernel_rfl) (by kernel_rfl) (by kernel_rfl) (by kernel_rfl) (fun _ _ _ _ h => h) ⟨Stays.pure _, (fun _ _ _ e ⟨b, A, n, c, b', A', n', c', h1, h2, h3⟩ => ⟨b, A, n, c, b', A', n', c', h1, h2.ext e, h3.ext e⟩), (fun _ _ _ e ⟨b, A, n, c, b', A', n', c', h1, h2, h3⟩ => ⟨b, A, n, c, b', A', n', c', h1, h2.ext e, h3.ext e⟩), (fun _ _ _ e ⟨b, A, n, c, b', A', n', c', h1, h2, h3⟩ => ⟨b, A, n, c, b', A', n', c', h1, h2.ext e, h3.ext e⟩), (fun _ _ _ e ⟨b, A, n, c, b', A', n', c', h1, h2, h3⟩ => ⟨b, A, n, c, b', A', n', c', h1, h2.ext e, h3.ext e⟩), (fun _ _ _ e ⟨b, A, n, c, b', A', n', c', h1, h2, h3⟩ => ⟨b, A, n, c, b', A', n', c', h1, h2.ext e, h3.ext e⟩), (fun _ _ _ e ⟨g, h1, h2, h3⟩ => ⟨g, h1, h2, h3.ext e⟩), True.intro⟩ ?steps ?done
  case steps =>
    simp only [List.take_succ_cons, List.take_zero]
    refine Steps.cons (fun (v : Value) (_ : World) => v = .func (.func 54) #[] #[]) [] rfl (by kernel_rfl) rfl (by kernel_rfl) (fun y X ex0 hf K hK => ?_) ?_
    · clear hf
      have ex := (Ext.drw (Ext.refl _)).trans ex0
      refine Box.mk ?_
      simp only [fill, Act.put, Nat.reduceAdd, List.setIfInBounds_toArray, List.set_cons_zero, List.set_cons_succ] at hK ⊢
      go_simp
      exact hK.out _ _ rfl (Ext.refl _) (fun b hb => by cases hb)
    refine Steps.cons (RF2 (vx) (vy)) [] rfl (by kernel_rfl) rfl (by kernel_rfl) (fun y X ex0 hf K hK => ?_) ?_
    · clear hf
      have ex := (Ext.drw (Ext.refl _)).trans ex0
      refine Box.mk ?_
      simp only [fill, Act.put, Nat.reduceAdd, List.setIfInBounds_toArray, List.set_cons_zero, List.set_cons_succ] at hK ⊢
      obtain ⟨⟨bl, Al, nl, cl, k0, k1, kz⟩, ⟨bm, Am, nm, cm, k2, k3, ky⟩⟩ := (F1.out.ext ex)
      go_simp
      exact hK.out _ _ ⟨_, _, _, _, _, _, _, _, rfl, kz, ky⟩ (Ext.refl _) (fun b hb => by cases hb)
    refine Steps.cons (RF2 (vx) (vy)) [1] rfl (by kernel_rfl) rfl (by kernel_rfl) (fun y X ex0 hf K hK => ?_) ?_
    · obtain ⟨b1, A1, n1, c1, bb1, AA1, nn1, cc1, h1, z1, y1⟩ : ((RF2 (vx) (vy))) (y 1) X := hf.1
      clear hf
      have ex := (Ext.drw (Ext.refl _)).trans ex0
      refine Box.mk ?_
      simp only [fill, Act.put, Nat.reduceAdd, List.setIfInBounds_toArray, List.set_cons_zero, List.set_cons_succ, h1] at hK ⊢
      go_simp
      refine (fractionOf_any _ _ _ _ (fv_mk z1 y1)).mono ?_
      rintro e V ⟨b9, A9, n9, c9, b8, A8, n8, c8, rfl, hz, hy, hb⟩
      try go_wp2_with fail
      exact hK.out _ _ ⟨_, _, _, _, _, _, _, _, rfl, hz, hy⟩ hb (fun b hb => by cases hb)
    refine Steps.cons (RF2 (ux) (uy)) [] rfl (by kernel_rfl) rfl (by kernel_rfl) (fun y X ex0 hf K hK => ?_) ?_
    · clear hf
      have ex := (Ext.drw (Ext.refl _)).trans ex0
      refine Box.mk ?_
      simp only [fill, Act.put, Nat.reduceAdd, List.setIfInBounds_toArray, List.set_cons_zero, List.set_cons_succ] at hK ⊢
      obtain ⟨⟨bl, Al, nl, cl, k0, k1, kz⟩, ⟨bm, Am, nm, cm, k2, k3, ky⟩⟩ := (F2.out.ext ex)
      go_simp
      exact hK.out _ _ ⟨_, _, _, _, _, _, _, _, rfl, kz, ky⟩ (Ext.refl _) (fun b hb => by cases hb)
    refine Steps.cons (RF2 (ux) (uy)) [3, 2] rfl (by kernel_rfl) rfl (by kernel_rfl) (fun y X ex0 hf K hK => ?_) ?_
    · obtain ⟨b3, A3, n3, c3, bb3, AA3, nn3, cc3, h3, z3, y3⟩ : ((RF2 (ux) (uy))) (y 3) X := hf.1
      obtain ⟨b2, A2, n2, c2, bb2, AA2, nn2, cc2, h2, z2, y2⟩ : ((RF2 (vx) (vy))) (y 2) X := hf.2.1
      clear hf
      have ex := (Ext.drw (Ext.refl _)).trans ex0
      refine Box.mk ?_
      simp only [fill, Act.put, Nat.reduceAdd, List.setIfInBounds_toArray, List.set_cons_zero, List.set_cons_succ, h3, h2] at hK ⊢
      go_simp
      refine (fractionOf_any _ _ _ _ (fv_mk z3 y3)).mono ?_
      rintro e V ⟨b9, A9, n9, c9, b8, A8, n8, c8, rfl, hz, hy, hb⟩
      try go_wp2_with fail
      exact hK.out _ _ ⟨_, _, _, _, _, _, _, _, rfl, hz, hy⟩ hb (fun b hb => by cases hb)
    refine Steps.cons (RF2 (vn) (vd)) [0, 2, 4] rfl (by kernel_rfl) rfl (by kernel_rfl) (fun y X ex0 hf K hK => ?_) ?_
    · have h0 : ((fun (v : Value) (_ : World) => v = .func (.func 54) #[] #[])) (y 0) X := hf.1
      obtain ⟨b2, A2, n2, c2, bb2, AA2, nn2, cc2, h2, z2, y2⟩ : ((RF2 (vx) (vy))) (y 2) X := hf.2.1
      obtain ⟨b4, A4, n4, c4, bb4, AA4, nn4, cc4, h4, z4, y4⟩ : ((RF2 (ux) (uy))) (y 4) X := hf.2.2.1
      clear hf
      have ex := (Ext.drw (Ext.refl _)).trans ex0
      refine Box.mk ?_
      simp only [fill, Act.put, Nat.reduceAdd, List.setIfInBounds_toArray, List.set_cons_zero, List.set_cons_succ, h0, h2, h4] at hK ⊢
      go_simp
      refine (HOP.out _ _ _ (fv_mk z2 y2) (fv_mk z4 y4)).mono ?_
      rintro e V ⟨b9, A9, n9, c9, b8, A8, n8, c8, rfl, hz, hy, hb⟩
      try go_wp2_with fail
      exact hK.out _ _ ⟨_, _, _, _, _, _, _, _, rfl, hz, hy⟩ hb (fun b hb => by cases hb)
    refine Steps.cons (fun (v : Value) (X : World) => ∃ g, v = .pointer (some ⟨g, 0, none⟩) ∧ W2.heap.size ≤ g ∧ FB X g) [] rfl (by kernel_rfl) rfl (by kernel_rfl) (fun y X ex0 hf K hK => ?_) ?_
    · clear hf
      have ex := (Ext.drw (Ext.refl _)).trans ex0
      refine Box.mk ?_
      simp only [fill, Act.put, Nat.reduceAdd, List.setIfInBounds_toArray, List.set_cons_zero, List.set_cons_succ] at hK ⊢
      go_simp
      exact hK.out _ _ ⟨X.heap.size, rfl, ex.size, FB.new X false none 0 0 false none 0 0 72⟩ (Ext.alc (Ext.refl X) (.cells #[.bool false, .slice none 0 0, .bool false, .slice none 0 0] 72)) (New.ptr (Nat.le_refl _) (by simp))
    exact Steps.nil
  case done =>
    intro y X ex hf hlt hsep
    have h0 : ((fun (v : Value) (_ : World) => v = .func (.func 54) #[] #[])) (y 0) X := hf.1
    obtain ⟨b1, A1, n1, c1, bb1, AA1, nn1, cc1, h1, z1, y1⟩ : ((RF2 (vx) (vy))) (y 1) X := hf.2.1
    obtain ⟨b2, A2, n2, c2, bb2, AA2, nn2, cc2, h2, z2, y2⟩ : ((RF2 (vx) (vy))) (y 2) X := hf.2.2.1
    obtain ⟨b3, A3, n3, c3, bb3, AA3, nn3, cc3, h3, z3, y3⟩ : ((RF2 (ux) (uy))) (y 3) X := hf.2.2.2.1
    obtain ⟨b4, A4, n4, c4, bb4, AA4, nn4, cc4, h4, z4, y4⟩ : ((RF2 (ux) (uy))) (y 4) X := hf.2.2.2.2.1
    obtain ⟨b5, A5, n5, c5, bb5, AA5, nn5, cc5, h5, z5, y5⟩ : ((RF2 (vn) (vd))) (y 5) X := hf.2.2.2.2.2.1
    obtain ⟨g6, h6, z6, q6⟩ : ((fun (v : Value) (X : World) => ∃ g, v = .pointer (some ⟨g, 0, none⟩) ∧ W2.heap.size ≤ g ∧ FB X g)) (y 6) X := hf.2.2.2.2.2.2.1
    clear hf
    clear hsep hlt
    refine Box.mk ?_
    simp only [List.drop_succ_cons, List.drop_zero, fill, Act.put, Nat.reduceAdd, List.setIfInBounds_toArray, List.set_cons_zero, List.set_cons_succ, h0, h1, h2, h3, h4, h5, h6]
    clear h0 h1 h2 h3 h4 h5 h6
    obtain ⟨_, _, _, _, k40, k41, k42, k43, k44, k45, k46, k47⟩ := put4_walk q6 (.bool b5) (.slice A5 n5 c5) (.bool bb5)
    obtain ⟨W3, hW3⟩ : ∃ W3, W3 = put4 X g6 (.bool b5) (.slice A5 n5 c5) (.bool bb5) (.slice AA5 nn5 cc5) := ⟨_, rfl⟩
    have i8 : HF W3 g6 vn vd := by rw [hW3]; exact HF.put q6 z5 y5
    have r4 : FB W3 (w.heap.size + 1 + 1) := by rw [hW3]; exact (R4.out.ext ex).put4 (by have := z6; omega)
    have e3 : Ext w W3 := by rw [hW3]; exact put4_below (Ext.below (E2.out.trans ex)) (by have := E2.out.size; omega) _ _ _ _
    unfold put4 at hW3
    have I8 := Lib.hid i8; have R4 := Lib.hid r4; have E3 := Lib.hid e3; have HW3 := Lib.hid hW3
    clear i8 r4 e3 hW3 ex q6 z1 y1 z2 y2 z3 y3 z4 y4 z5 y5 F1 F2 E2
    go_wp2_with fail
    refine NoPanic.normal ?_
    go_upto_region 4 with fail
    rw [← HW3.out]
    clear k40 k41 k42 k43 k44 k45 k46 k47 HW3
    have l8 := I8.out.lt
    obtain ⟨b9, A9, n9, c9, j0, j1, jz⟩ := I8.out.1
    have FT := Lib.hid (fits_any vn _ _ jz)
    clear jz
    obtain ⟨fn1, hfn1⟩ : ∃ b, b = decide ((dig vn.natAbs).length ≤ 256) := ⟨_, rfl⟩
    rw [← hfn1] at FT
    have HF1 := Lib.hid hfn1; clear hfn1
    go_wp2_with fail
    refine FT.out.mono ?_
    rintro e W4 ⟨rfl, x4⟩
    replace x4 : Ext W3 W4 := x4
    have I8b := Lib.hid (I8.out.ext x4); have R4 := Lib.hid (R4.out.ext x4); have E4 := Lib.hid (E3.out.trans x4)
    clear x4 j0 j1 FT
    have hb1 : fn1 = true := by rw [HF1.out]; exact decide_eq_true HFIT.out.1
    subst hb1
    obtain ⟨b9, A9, n9, c9, j0, j1, jz⟩ := I8b.out.2
    have FT := Lib.hid (fits_any vd _ _ jz)
    clear jz
    obtain ⟨fn2, hfn2⟩ : ∃ b, b = decide ((dig vd.natAbs).length ≤ 256) := ⟨_, rfl⟩
    rw [← hfn2] at FT
    have HF2 := Lib.hid hfn2; clear hfn2
    go_wp2_with fail
    refine FT.out.mono ?_
    rintro e W5 ⟨rfl, x5⟩
    replace x5 : Ext W4 W5 := x5
    have I8c := Lib.hid (I8b.out.ext x5); have R4 := Lib.hid (R4.out.ext x5); have E5 := Lib.hid (E4.out.trans x5)
    clear x5 j0 j1 FT
    have hb2 : fn2 = true := by rw [HF2.out]; exact decide_eq_true HFIT.out.2
    subst hb2
    go_upto_region 6 with fail
    obtain ⟨⟨b9, A9, n9, c9, j0, j1, jz⟩, ⟨b8, A8, n8, c8, i0, i1, iz⟩⟩ := I8c.out
    have RO := Lib.hid (ratOf_any vn vd _ _ (fv_mk jz iz) (by have := HFIT.out.1; omega) (by have := HFIT.out.2; omega))
    clear jz iz
    go_wp2_with fail
    refine RO.out.mono ?_
    rintro e W6 ⟨b, B, m, d, b', B', m', d', rfl, y1, y2, x6⟩
    replace x6 : Ext W5 W6 := x6
    have r4 := R4.out.ext x6
    obtain ⟨_, _, _, _, k40, k41, k42, k43, k44, k45, k46, k47⟩ := put4_walk r4 (.bool b) (.slice B m d) (.bool b')
    obtain ⟨W', hW'⟩ : ∃ W', W' = put4 W6 (w.heap.size + 1 + 1) (.bool b) (.slice B m d) (.bool b') (.slice B' m' d') := ⟨_, rfl⟩
    obtain ⟨f0, f1, f2, f3⟩ := put4_cells r4 (.bool b) (.slice B m d) (.bool b') (.slice B' m' d')
    have hz1 := (y1).put4 r4 (.bool b) (.slice B m d) (.bool b') (.slice B' m' d')
    rw [← hW'] at hz1
    have hz2 := (y2).put4 r4 (.bool b) (.slice B m d) (.bool b') (.slice B' m' d')
    rw [← hW'] at hz2
    have hbf : Below w.heap.size w W' := by rw [hW']; exact put4_below (Ext.below (E5.out.trans x6)) (by omega) (.bool b) (.slice B m d) (.bool b') (.slice B' m' d')
    rw [← hW'] at f0 f1 f2 f3
    unfold put4 at hW'
    have HG := Lib.hid (And.intro hz1 (And.intro hz2 (And.intro hbf (And.intro f0 (And.intro f1 (And.intro f2 f3))))))
    have HW' := Lib.hid hW'
    clear hz1 hz2 hbf f0 f1 f2 f3 hW'
    clear x6 r4 y1 y2 RO j0 j1 i0 i1
    go_wp2
    rw [← HW'.out]
    obtain ⟨hz1, hz2, hbf, f0, f1, f2, f3⟩ := HG.out
    exact bodyPost_ret (v := .tuple #[.agg #[.bool b, .slice B m d, .bool b', .slice B' m' d'], .int .i64 0]) (by simp [results, Tryz.results50, go_sem, f0, f1, f2, f3]) rfl ⟨_, _, _, _, _, _, _, _, rfl, hz1, hz2, hbf⟩
set_option maxHeartbeats 800000 in
set_option maxRecDepth 100000 in
theorem combineRats30_big (p q p2 q2 : Bool) (A A' A2 A2' : Option Addr) (n c n' c' n2 c2 n2' c2' : Nat) (l l' k k' : List Nat) (w : World) (hx : Wd w (.slice A n c) l) (hy : Wd w (.slice A' n' c') l') (hx2 : Wd w (.slice A2 n2 c2) k) (hy2 : Wd w (.slice A2' n2' c2') k') (vn vd : Int) (hp : vldR p q l l' = true) (hq : vldR p2 q2 k k' = true)
    (hop : ∀ W u u', FV W u (numOf p l) (numOf q l') → FV W u' (numOf p2 k) (numOf q2 k') → Calls Tryz.prog 54 #[u, u'] W (RetF W vn vd)) (hbig : ¬ ((dig vn.natAbs).length ≤ 256 ∧ (dig vd.natAbs).length ≤ 256)) :
    Calls Tryz.prog 50 #[.agg #[.bool p, .slice A n c, .bool q, .slice A' n' c'], .agg #[.bool p2, .slice A2 n2 c2, .bool q2, .slice A2' n2' c2'], .func (.func 54) #[] #[]] w (RetR w 0 0 5) := by
  obtain ⟨W0, hW0, h1, h2, r4, e0, s0⟩ := three_fb p q p2 q2 A A' A2 A2' n c n' c' n2 c2 n2' c2' l l' k k' w hx hy hx2 hy2
  obtain ⟨W1, hW1⟩ : ∃ W1, W1 = W0.alloc (Obj.cells #[.bool p, .slice A n c, .bool q, .slice A' n' c', .bool p2, .slice A2 n2 c2, .bool q2, .slice A2' n2' c2'] 26) := ⟨_, rfl⟩
  have e1 : Ext W0 W1 := by rw [hW1]; exact (Ext.refl _).alc _
  have hs : W1.heap[w.heap.size + 1 + 1 + 1]? = some (.cells #[.bool p, .slice A n c, .bool q, .slice A' n' c', .bool p2, .slice A2 n2 c2, .bool q2, .slice A2' n2' c2'] 26 (0, 0)) := by
    have := heap_alloc_new W0 (Obj.cells #[.bool p, .slice A n c, .bool q, .slice A' n' c', .bool p2, .slice A2 n2 c2, .bool q2, .slice A2' n2' c2'] 26)
    rw [s0] at this
    rw [hW1]; exact this
  have AV := Lib.hid (allValidRats_two p q p2 q2 A A' A2 A2' n c n' c' n2 c2 n2' c2' l l' k k' w W1 _ (h1.ext e1).w1 (h1.ext e1).w2 (h2.ext e1).w1 (h2.ext e1).w2 hs)
  have HWA := Lib.hid hW1
  have H1 := Lib.hid (h1.ext e1); have H2 := Lib.hid (h2.ext e1); have R4 := Lib.hid (r4.ext e1); have E1 := Lib.hid (e0.trans e1); have HW0 := Lib.hid hW0
  have z1 : w.heap.size + 1 + 1 + 1 ≤ W1.heap.size := by have := e1.size; omega
  obtain ⟨hv1, hv2, hv3, hv4⟩ := vldR_parts hp
  obtain ⟨hu1, hu2, hu3, hu4⟩ := vldR_parts hq
  have f1 := Lib.hid ((h1.ext e1).hf hv1 hv2)
  have f2 := Lib.hid ((h2.ext e1).hf hu1 hu2)
  have hyes : (vldR p q l l' && vldR p2 q2 k k') = true := by rw [hp, hq]; rfl
  clear hv1 hv2 hv3 hv4 hu1 hu2 hu3 hu4
  obtain ⟨vx, hvx⟩ : ∃ z, z = numOf p l := ⟨_, rfl⟩
  obtain ⟨vy, hvy⟩ : ∃ z, z = numOf q l' := ⟨_, rfl⟩
  obtain ⟨ux, hux⟩ : ∃ z, z = numOf p2 k := ⟨_, rfl⟩
  obtain ⟨uy, huy⟩ : ∃ z, z = numOf q2 k' := ⟨_, rfl⟩
  rw [← hvx, ← hvy] at f1
  rw [← hux, ← huy] at f2
  rw [← hvx, ← hvy, ← hux, ← huy] at hop
  have HOP := Lib.hid hop
  clear hvx hvy hux huy hop
  have HBIG := Lib.hid hbig; clear hbig
  clear h1 h2 r4 e0 e1 s0 hs hW0 hW1 hx hy hx2 hy2
  go_enter Tryz.func50, Tryz.ntmps50
  go_wp2_with fail
  rw [← HW0.out, ← HWA.out]
  refine AV.out.mono ?_
  rintro e W2 ⟨rfl, x2⟩
  replace x2 : Ext W1 W2 := x2
  clear AV HW0 HWA
  rw [hyes]
  have F1 := Lib.hid (f1.out.ext x2); have F2 := Lib.hid (f2.out.ext x2); have R4 := Lib.hid (R4.out.ext x2); have E2 := Lib.hid (E1.out.trans x2)
  have lr := R4.out.lt
  clear x2 hyes H1 H2 f1 f2 E1 hp hq z1
  go_upto_region 3 with fail
  refine wp_region_noPanic ?_
  refine wp_pool 7 [some 15, some 16, some 17, some 18, some 19, some 20, some 8] [] [6] [(fun (v : Value) (_ : World) => v = .func (.func 54) #[] #[]), (RF2 (vx) (vy)), (RF2 (vx) (vy)), (RF2 (ux) (uy)), (RF2 (ux) (uy)), (RF2 (vn) (vd)), (fun (v : Value) (X : World) => ∃ g, v = .pointer (some ⟨g, 0, none⟩) ∧ W2.heap.size ≤ g ∧ FB X g)] [noF, noF, noF, noF, noF, noF, ptrF] (by kernel_rfl) (by kernel_rfl) (by kernel_rfl) (by kernel_rfl) (by kernel_rfl) (by kernel_rfl) (by kernel_rfl) (by kernel_rfl) (fun _ _ _ _ h => h) ⟨Stays.pure _, (fun _ _ _ e ⟨b, A, n, c, b', A', n', c', h1, h2, h3⟩ => ⟨b, A, n, c, b', A', n', c', h1, h2.ext e, h3.ext e⟩), (fun _ _ _ e ⟨b, A, n, c, b', A', n', c', h1, h2, h3⟩ => ⟨b, A, n, c, b', A', n', c', h1, h2.ext e, h3.ext e⟩), (fun _ _ _ e ⟨b, A, n, c, b', A', n', c', h1, h2, h3⟩ => ⟨b, A, n, c, b', A', n', c', h1, h2.ext e, h3.ext e⟩), (fun _ _ _ e ⟨b, A, n, c, b', A', n', c', h1, h2, h3⟩ => ⟨b, A, n, c, b', A', n', c', h1, h2.ext e, h3.ext e⟩), (fun _ _ _ e ⟨b, A, n, c, b', A', n', c', h1, h2, h3⟩ => ⟨b, A, n, c, b', A', n', c', h1, h2.ext e, h3.ext e⟩), (fun _ _ _ e ⟨g, h1, h2, h3⟩ => ⟨g, h1, h2, h3.ext e⟩), True.intro⟩ ?steps ?done
  case steps =>
    simp only [List.take_succ_cons, List.take_zero]
    refine Steps.cons (fun (v : Value) (_ : World) => v = .func (.func 54) #[] #[]) [] rfl (by kernel_rfl) rfl (by kernel_rfl) (fun y X ex0 hf K hK => ?_) ?_
    · clear hf
      have ex := (Ext.drw (Ext.refl _)).trans ex0
      refine Box.mk ?_
      simp only [fill, Act.put, Nat.reduceAdd, List.setIfInBounds_toArray, List.set_cons_zero, List.set_cons_succ] at hK ⊢
      go_simp
      exact hK.out _ _ rfl (Ext.refl _) (fun b hb => by cases hb)
    refine Steps.cons (RF2 (vx) (vy)) [] rfl (by kernel_rfl) rfl (by kernel_rfl) (fun y X ex0 hf K hK => ?_) ?_
    · clear hf
      have ex := (Ext.drw (Ext.refl _)).trans ex0
      refine Box.mk ?_
      simp only [fill, Act.put, Nat.reduceAdd, List.setIfInBounds_toArray, List.set_cons_zero, List.set_cons_succ] at hK ⊢
      obtain ⟨⟨bl, Al, nl, cl, k0, k1, kz⟩, ⟨bm, Am, nm, cm, k2, k3, ky⟩⟩ := (F1.out.ext ex)
      go_simp
      exact hK.out _ _ ⟨_, _, _, _, _, _, _, _, rfl, kz, ky⟩ (Ext.refl _) (fun b hb => by cases hb)
    refine Steps.cons (RF2 (vx) (vy)) [1] rfl (by kernel_rfl) rfl (by kernel_rfl) (fun y X ex0 hf K hK => ?_) ?_
    · obtain ⟨b1, A1, n1, c1, bb1, AA1, nn1, cc1, h1, z1, y1⟩ : ((RF2 (vx) (vy))) (y 1) X := hf.1
      clear hf
      have ex := (Ext.drw (Ext.refl _)).trans ex0
      refine Box.mk ?_
      simp only [fill, Act.put, Nat.reduceAdd, List.setIfInBounds_toArray, List.set_cons_zero, List.set_cons_succ, h1] at hK ⊢
      go_simp
      refine (fractionOf_any _ _ _ _ (fv_mk z1 y1)).mono ?_
      rintro e V ⟨b9, A9, n9, c9, b8, A8, n8, c8, rfl, hz, hy, hb⟩
      try go_wp2_with fail
      exact hK.out _ _ ⟨_, _, _, _, _, _, _, _, rfl, hz, hy⟩ hb (fun b hb => by cases hb)
    refine Steps.cons (RF2 (ux) (uy)) [] rfl (by kernel_rfl) rfl (by kernel_rfl) (fun y X ex0 hf K hK => ?_) ?_
    · clear hf
      have ex := (Ext.drw (Ext.refl _)).trans ex0
      refine Box.mk ?_
      simp only [fill, Act.put, Nat.reduceAdd, List.setIfInBounds_toArray, List.set_cons_zero, List.set_cons_succ] at hK ⊢
      obtain ⟨⟨bl, Al, nl, cl, k0, k1, kz⟩, ⟨bm, Am, nm, cm, k2, k3, ky⟩⟩ := (F2.out.ext ex)
      go_simp
      exact hK.out _ _ ⟨_, _, _, _, _, _, _, _, rfl, kz, ky⟩ (Ext.refl _) (fun b hb => by cases hb)
    refine Steps.cons (RF2 (ux) (uy)) [3, 2] rfl (by kernel_rfl) rfl (by kernel_rfl) (fun y X ex0 hf K hK => ?_) ?_
    · obtain ⟨b3, A3, n3, c3, bb3, AA3, nn3, cc3, h3, z3, y3⟩ : ((RF2 (ux) (uy))) (y 3) X := hf.1
      obtain ⟨b2, A2, n2, c2, bb2, AA2, nn2, cc2, h2, z2, y2⟩ : ((RF2 (vx) (vy))) (y 2) X := hf.2.1
      clear hf
      have ex := (Ext.drw (Ext.refl _)).trans ex0
      refine Box.mk ?_
      simp only [fill, Act.put, Nat.reduceAdd, List.setIfInBounds_toArray, List.set_cons_zero, List.set_cons_succ, h3, h2] at hK ⊢
      go_simp
      refine (fractionOf_any _ _ _ _ (fv_mk z3 y3)).mono ?_
      rintro e V ⟨b9, A9, n9, c9, b8, A8, n8, c8, rfl, hz, hy, hb⟩
      try go_wp2_with fail
      exact hK.out _ _ ⟨_, _, _, _, _, _, _, _, rfl, hz, hy⟩ hb (fun b hb => by cases hb)
    refine Steps.cons (RF2 (vn) (vd)) [0, 2, 4] rfl (by kernel_rfl) rfl (by kernel_rfl) (fun y X ex0 hf K hK => ?_) ?_
    · have h0 : ((fun (v : Value) (_ : World) => v = .func (.func 54) #[] #[])) (y 0) X := hf.1
      obtain ⟨b2, A2, n2, c2, bb2, AA2, nn2, cc2, h2, z2, y2⟩ : ((RF2 (vx) (vy))) (y 2) X := hf.2.1
      obtain ⟨b4, A4, n4, c4, bb4, AA4, nn4, cc4, h4, z4, y4⟩ : ((RF2 (ux) (uy))) (y 4) X := hf.2.2.1
      clear hf
      have ex := (Ext.drw (Ext.refl _)).trans ex0
      refine Box.mk ?_
      simp only [fill, Act.put, Nat.reduceAdd, List.setIfInBounds_toArray, List.set_cons_zero, List.set_cons_succ, h0, h2, h4] at hK ⊢
      go_simp
      refine (HOP.out _ _ _ (fv_mk z2 y2) (fv_mk z4 y4)).mono ?_
      rintro e V ⟨b9, A9, n9, c9, b8, A8, n8, c8, rfl, hz, hy, hb⟩
      try go_wp2_with fail
      exact hK.out _ _ ⟨_, _, _, _, _, _, _, _, rfl, hz, hy⟩ hb (fun b hb => by cases hb)
    refine Steps.cons (fun (v : Value) (X : World) => ∃ g, v = .pointer (some ⟨g, 0, none⟩) ∧ W2.heap.size ≤ g ∧ FB X g) [] rfl (by kernel_rfl) rfl (by kernel_rfl) (fun y X ex0 hf K hK => ?_) ?_
    · clear hf
      have ex := (Ext.drw (Ext.refl _)).trans ex0
      refine Box.mk ?_
      simp only [fill, Act.put, Nat.reduceAdd, List.setIfInBounds_toArray, List.set_cons_zero, List.set_cons_succ] at hK ⊢
      go_simp
      exact hK.out _ _ ⟨X.heap.size, rfl, ex.size, FB.new X false none 0 0 false none 0 0 72⟩ (Ext.alc (Ext.refl X) (.cells #[.bool false, .slice none 0 0, .bool false, .slice none 0 0] 72)) (New.ptr (Nat.le_refl _) (by simp))
    exact Steps.nil
  case done =>
    intro y X ex hf hlt hsep
    have h0 : ((fun (v : Value) (_ : World) => v = .func (.func 54) #[] #[])) (y 0) X := hf.1
    obtain ⟨b1, A1, n1, c1, bb1, AA1, nn1, cc1, h1, z1, y1⟩ : ((RF2 (vx) (vy))) (y 1) X := hf.2.1
    obtain ⟨b2, A2, n2, c2, bb2, AA2, nn2, cc2, h2, z2, y2⟩ : ((RF2 (vx) (vy))) (y 2) X := hf.2.2.1
    obtain ⟨b3, A3, n3, c3, bb3, AA3, nn3, cc3, h3, z3, y3⟩ : ((RF2 (ux) (uy))) (y 3) X := hf.2.2.2.1
    obtain ⟨b4, A4, n4, c4, bb4, AA4, nn4, cc4, h4, z4, y4⟩ : ((RF2 (ux) (uy))) (y 4) X := hf.2.2.2.2.1
    obtain ⟨b5, A5, n5, c5, bb5, AA5, nn5, cc5, h5, z5, y5⟩ : ((RF2 (vn) (vd))) (y 5) X := hf.2.2.2.2.2.1
    obtain ⟨g6, h6, z6, q6⟩ : ((fun (v : Value) (X : World) => ∃ g, v = .pointer (some ⟨g, 0, none⟩) ∧ W2.heap.size ≤ g ∧ FB X g)) (y 6) X := hf.2.2.2.2.2.2.1
    clear hf
    clear hsep hlt
    refine Box.mk ?_
    simp only [List.drop_succ_cons, List.drop_zero, fill, Act.put, Nat.reduceAdd, List.setIfInBounds_toArray, List.set_cons_zero, List.set_cons_succ, h0, h1, h2, h3, h4, h5, h6]
    clear h0 h1 h2 h3 h4 h5 h6
    obtain ⟨_, _, _, _, k40, k41, k42, k43, k44, k45, k46, k47⟩ := put4_walk q6 (.bool b5) (.slice A5 n5 c5) (.bool bb5)
    obtain ⟨W3, hW3⟩ : ∃ W3, W3 = put4 X g6 (.bool b5) (.slice A5 n5 c5) (.bool bb5) (.slice AA5 nn5 cc5) := ⟨_, rfl⟩
    have i8 : HF W3 g6 vn vd := by rw [hW3]; exact HF.put q6 z5 y5
    have r4 : FB W3 (w.heap.size + 1 + 1) := by rw [hW3]; exact (R4.out.ext ex).put4 (by have := z6; omega)
    have e3 : Ext w W3 := by rw [hW3]; exact put4_below (Ext.below (E2.out.trans ex)) (by have := E2.out.size; omega) _ _ _ _
    unfold put4 at hW3
    have I8 := Lib.hid i8; have R4 := Lib.hid r4; have E3 := Lib.hid e3; have HW3 := Lib.hid hW3
    clear i8 r4 e3 hW3 ex q6 z1 y1 z2 y2 z3 y3 z4 y4 z5 y5 F1 F2 E2
    go_wp2_with fail
    refine NoPanic.normal ?_
    go_upto_region 4 with fail
    rw [← HW3.out]
    clear k40 k41 k42 k43 k44 k45 k46 k47 HW3
    have l8 := I8.out.lt
    obtain ⟨b9, A9, n9, c9, j0, j1, jz⟩ := I8.out.1
    have FT := Lib.hid (fits_any vn _ _ jz)
    clear jz
    obtain ⟨fn1, hfn1⟩ : ∃ b, b = decide ((dig vn.natAbs).length ≤ 256) := ⟨_, rfl⟩
    rw [← hfn1] at FT
    have HF1 := Lib.hid hfn1; clear hfn1
    go_wp2_with fail
    refine FT.out.mono ?_
    rintro e W4 ⟨rfl, x4⟩
    replace x4 : Ext W3 W4 := x4
    have I8b := Lib.hid (I8.out.ext x4); have R4 := Lib.hid (R4.out.ext x4); have E4 := Lib.hid (E3.out.trans x4)
    clear x4 j0 j1 FT
    by_cases hb1 : fn1 = true
    · subst hb1
      obtain ⟨b9, A9, n9, c9, j0, j1, jz⟩ := I8b.out.2
      have FT := Lib.hid (fits_any vd _ _ jz)
      clear jz
      obtain ⟨fn2, hfn2⟩ : ∃ b, b = decide ((dig vd.natAbs).length ≤ 256) := ⟨_, rfl⟩
      rw [← hfn2] at FT
      have HF2 := Lib.hid hfn2; clear hfn2
      go_wp2_with fail
      refine FT.out.mono ?_
      rintro e W5 ⟨rfl, x5⟩
      replace x5 : Ext W4 W5 := x5
      have I8c := Lib.hid (I8b.out.ext x5); have R4 := Lib.hid (R4.out.ext x5); have E5 := Lib.hid (E4.out.trans x5)
      clear x5 j0 j1 FT
      have hb2 : fn2 = false := by
        rw [HF2.out]; refine decide_eq_false fun h => HBIG.out ⟨?_, h⟩
        exact of_decide_eq_true HF1.out.symm
      subst hb2
      have r4 := R4.out
      obtain ⟨_, _, _, _, k40, k41, k42, k43, k44, k45, k46, k47⟩ := put4_walk r4 (.bool false) (.slice none 0 0) (.bool false)
      obtain ⟨W', hW'⟩ : ∃ W', W' = put4 W5 (w.heap.size + 1 + 1) (.bool false) (.slice none 0 0) (.bool false) (.slice none 0 0) := ⟨_, rfl⟩
      obtain ⟨f0, f1, f2, f3⟩ := put4_cells r4 (.bool false) (.slice none 0 0) (.bool false) (.slice none 0 0)
      have hz1 := ((ZV.zero W5)).put4 r4 (.bool false) (.slice none 0 0) (.bool false) (.slice none 0 0)
      rw [← hW'] at hz1
      have hz2 := ((ZV.zero W5)).put4 r4 (.bool false) (.slice none 0 0) (.bool false) (.slice none 0 0)
      rw [← hW'] at hz2
      have hbf : Below w.heap.size w W' := by rw [hW']; exact put4_below (Ext.below E5.out) (by omega) (.bool false) (.slice none 0 0) (.bool false) (.slice none 0 0)
      rw [← hW'] at f0 f1 f2 f3
      unfold put4 at hW'
      have HG := Lib.hid (And.intro hz1 (And.intro hz2 (And.intro hbf (And.intro f0 (And.intro f1 (And.intro f2 f3))))))
      have HW' := Lib.hid hW'
      clear hz1 hz2 hbf f0 f1 f2 f3 hW'
      clear r4
      go_wp2
      rw [← HW'.out]
      obtain ⟨hz1, hz2, hbf, f0, f1, f2, f3⟩ := HG.out
      exact bodyPost_ret (v := .tuple #[.agg #[.bool false, .slice none 0 0, .bool false, .slice none 0 0], .int .i64 5]) (by simp [results, Tryz.results50, go_sem, f0, f1, f2, f3]) rfl ⟨_, _, _, _, _, _, _, _, rfl, hz1, hz2, hbf⟩
    · have hb1 : fn1 = false := by simpa using hb1
      subst hb1
      have r4 := R4.out
      obtain ⟨_, _, _, _, k40, k41, k42, k43, k44, k45, k46, k47⟩ := put4_walk r4 (.bool false) (.slice none 0 0) (.bool false)
      obtain ⟨W', hW'⟩ : ∃ W', W' = put4 W4 (w.heap.size + 1 + 1) (.bool false) (.slice none 0 0) (.bool false) (.slice none 0 0) := ⟨_, rfl⟩
      obtain ⟨f0, f1, f2, f3⟩ := put4_cells r4 (.bool false) (.slice none 0 0) (.bool false) (.slice none 0 0)
      have hz1 := ((ZV.zero W4)).put4 r4 (.bool false) (.slice none 0 0) (.bool false) (.slice none 0 0)
      rw [← hW'] at hz1
      have hz2 := ((ZV.zero W4)).put4 r4 (.bool false) (.slice none 0 0) (.bool false) (.slice none 0 0)
      rw [← hW'] at hz2
      have hbf : Below w.heap.size w W' := by rw [hW']; exact put4_below (Ext.below E4.out) (by omega) (.bool false) (.slice none 0 0) (.bool false) (.slice none 0 0)
      rw [← hW'] at f0 f1 f2 f3
      unfold put4 at hW'
      have HG := Lib.hid (And.intro hz1 (And.intro hz2 (And.intro hbf (And.intro f0 (And.intro f1 (And.intro f2 f3))))))
      have HW' := Lib.hid hW'
      clear hz1 hz2 hbf f0 f1 f2 f3 hW'
      clear r4
      go_wp2
      rw [← HW'.out]
      obtain ⟨hz1, hz2, hbf, f0, f1, f2, f3⟩ := HG.out
      exact bodyPost_ret (v := .tuple #[.agg #[.bool false, .slice none 0 0, .bool false, .slice none 0 0], .int .i64 5]) (by simp [results, Tryz.results50, go_sem, f0, f1, f2, f3]) rfl ⟨_, _, _, _, _, _, _, _, rfl, hz1, hz2, hbf⟩
end Go.Proofs.YtmlopkkbgpfdnabGreat
