/- Walks of the reference: RatAdd, RatSub, RatMul, RatDiv. -/
import Derived.Test.YtmlopkkbgpfdnabGreatM22
namespace Go.Proofs.YtmlopkkbgpfdnabGreat
open Go.RowKit

set_option maxHeartbeats 800000 in
set_option maxRecDepth 100000 in
theorem refRatAdd_noa (p q p2 q2 : Bool) (A A' A2 A2' : Option Addr) (n c n' c' n2 c2 n2' c2' : Nat) (l l' k k' : List Nat) (w : World) (hx : Wd w (.slice A n c) l) (hy : Wd w (.slice A' n' c') l') (hx2 : Wd w (.slice A2 n2 c2) k) (hy2 : Wd w (.slice A2' n2' c2') k') (hp : vldR p q l l' = false) :
    Calls Tryz.prog 13 #[.agg #[.bool p, .slice A n c, .bool q, .slice A' n' c'], .agg #[.bool p2, .slice A2 n2 c2, .bool q2, .slice A2' n2' c2']] w (RetR w 0 0 2) := by
  obtain ⟨W0, hW0, h1, h2, r4, e0, s0⟩ := three_fb p q p2 q2 A A' A2 A2' n c n' c' n2 c2 n2' c2' l l' k k' w hx hy hx2 hy2
  have V1 := Lib.hid (validRatR_any p q A A' n c n' c' l l' W0 h1.w1 h1.w2)
  have H1 := Lib.hid h1; have H2 := Lib.hid h2; have R4 := Lib.hid r4; have E0 := Lib.hid e0; have HW0 := Lib.hid hW0
  have z0 : w.heap.size + 1 + 1 + 1 ≤ W0.heap.size := by omega
  rw [hp] at V1
  clear h1 h2 r4 e0 s0 hW0 hx hy hx2 hy2
  go_enter Tryz.func13, Tryz.ntmps13
  go_upto_region 1 with fail
  rw [← HW0.out]
  clear HW0
  have k0 := H1.out.k0; have k1 := H1.out.k1; have k2 := H1.out.k2; have k3 := H1.out.k3
  go_wp2_with fail
  refine V1.out.mono ?_
  rintro e W1 ⟨rfl, x1⟩
  replace x1 : Ext W0 W1 := x1
  have H1 := Lib.hid (H1.out.ext x1); have H2 := Lib.hid (H2.out.ext x1); have R4 := Lib.hid (R4.out.ext x1); have E1 := Lib.hid (E0.out.trans x1)
  clear x1 V1 k0 k1 k2 k3 E0
  have r4 := R4.out
  obtain ⟨_, _, _, _, k40, k41, k42, k43, k44, k45, k46, k47⟩ := put4_walk r4 (.bool false) (.slice none 0 0) (.bool false)
  obtain ⟨W', hW'⟩ : ∃ W', W' = put4 W1 (w.heap.size + 1 + 1) (.bool false) (.slice none 0 0) (.bool false) (.slice none 0 0) := ⟨_, rfl⟩
  obtain ⟨f0, f1, f2, f3⟩ := put4_cells r4 (.bool false) (.slice none 0 0) (.bool false) (.slice none 0 0)
  have hz1 := ((ZV.zero W1)).put4 r4 (.bool false) (.slice none 0 0) (.bool false) (.slice none 0 0)
  rw [← hW'] at hz1
  have hz2 := ((ZV.zero W1)).put4 r4 (.bool false) (.slice none 0 0) (.bool false) (.slice none 0 0)
  rw [← hW'] at hz2
  have hbf : Below w.heap.size w W' := by rw [hW']; exact put4_below (Ext.below E1.out) (by omega) (.bool false) (.slice none 0 0) (.bool false) (.slice none 0 0)
  rw [← hW'] at f0 f1 f2 f3
  unfold put4 at hW'
  have HG := Lib.hid (And.intro hz1 (And.intro hz2 (And.intro hbf (And.intro f0 (And.intro f1 (And.intro f2 f3))))))
  have HW' := Lib.hid hW'
  clear hz1 hz2 hbf f0 f1 f2 f3 hW'
  clear r4
  go_wp2
  rw [← HW'.out]
  obtain ⟨hz1, hz2, hbf, f0, f1, f2, f3⟩ := HG.out
  exact bodyPost_ret (v := .tuple #[.agg #[.bool false, .slice none 0 0, .bool false, .slice none 0 0], .int .i64 2]) (by simp [results, Tryz.results13, go_sem, f0, f1, f2, f3]) rfl ⟨_, _, _, _, _, _, _, _, rfl, hz1, hz2, hbf⟩
set_option maxHeartbeats 800000 in
set_option maxRecDepth 100000 in
theorem refRatAdd_nob (p q p2 q2 : Bool) (A A' A2 A2' : Option Addr) (n c n' c' n2 c2 n2' c2' : Nat) (l l' k k' : List Nat) (w : World) (hx : Wd w (.slice A n c) l) (hy : Wd w (.slice A' n' c') l') (hx2 : Wd w (.slice A2 n2 c2) k) (hy2 : Wd w (.slice A2' n2' c2') k') (hp : vldR p q l l' = true) (hq : vldR p2 q2 k k' = false) :
    Calls Tryz.prog 13 #[.agg #[.bool p, .slice A n c, .bool q, .slice A' n' c'], .agg #[.bool p2, .slice A2 n2 c2, .bool q2, .slice A2' n2' c2']] w (RetR w 0 0 2) := by
  obtain ⟨W0, hW0, h1, h2, r4, e0, s0⟩ := three_fb p q p2 q2 A A' A2 A2' n c n' c' n2 c2 n2' c2' l l' k k' w hx hy hx2 hy2
  have V1 := Lib.hid (validRatR_any p q A A' n c n' c' l l' W0 h1.w1 h1.w2)
  have H1 := Lib.hid h1; have H2 := Lib.hid h2; have R4 := Lib.hid r4; have E0 := Lib.hid e0; have HW0 := Lib.hid hW0
  have z0 : w.heap.size + 1 + 1 + 1 ≤ W0.heap.size := by omega
  rw [hp] at V1
  clear h1 h2 r4 e0 s0 hW0 hx hy hx2 hy2
  go_enter Tryz.func13, Tryz.ntmps13
  go_upto_region 1 with fail
  rw [← HW0.out]
  clear HW0
  have k0 := H1.out.k0; have k1 := H1.out.k1; have k2 := H1.out.k2; have k3 := H1.out.k3
  go_wp2_with fail
  refine V1.out.mono ?_
  rintro e W1 ⟨rfl, x1⟩
  replace x1 : Ext W0 W1 := x1
  have H1 := Lib.hid (H1.out.ext x1); have H2 := Lib.hid (H2.out.ext x1); have R4 := Lib.hid (R4.out.ext x1); have E1 := Lib.hid (E0.out.trans x1)
  clear x1 V1 k0 k1 k2 k3 E0
  have V2 := Lib.hid (validRatR_any p2 q2 A2 A2' n2 c2 n2' c2' k k' W1 H2.out.w1 H2.out.w2)
  have k0 := H2.out.k0; have k1 := H2.out.k1; have k2 := H2.out.k2; have k3 := H2.out.k3
  rw [hq] at V2
  go_wp2_with fail
  refine V2.out.mono ?_
  rintro e W2 ⟨rfl, x2⟩
  replace x2 : Ext W1 W2 := x2
  have H1 := Lib.hid (H1.out.ext x2); have H2 := Lib.hid (H2.out.ext x2); have R4 := Lib.hid (R4.out.ext x2); have E2 := Lib.hid (E1.out.trans x2)
  clear x2 V2 k0 k1 k2 k3 E1
  have r4 := R4.out
  obtain ⟨_, _, _, _, k40, k41, k42, k43, k44, k45, k46, k47⟩ := put4_walk r4 (.bool false) (.slice none 0 0) (.bool false)
  obtain ⟨W', hW'⟩ : ∃ W', W' = put4 W2 (w.heap.size + 1 + 1) (.bool false) (.slice none 0 0) (.bool false) (.slice none 0 0) := ⟨_, rfl⟩
  obtain ⟨f0, f1, f2, f3⟩ := put4_cells r4 (.bool false) (.slice none 0 0) (.bool false) (.slice none 0 0)
  have hz1 := ((ZV.zero W2)).put4 r4 (.bool false) (.slice none 0 0) (.bool false) (.slice none 0 0)
  rw [← hW'] at hz1
  have hz2 := ((ZV.zero W2)).put4 r4 (.bool false) (.slice none 0 0) (.bool false) (.slice none 0 0)
  rw [← hW'] at hz2
  have hbf : Below w.heap.size w W' := by rw [hW']; exact put4_below (Ext.below E2.out) (by omega) (.bool false) (.slice none 0 0) (.bool false) (.slice none 0 0)
  rw [← hW'] at f0 f1 f2 f3
  unfold put4 at hW'
  have HG := Lib.hid (And.intro hz1 (And.intro hz2 (And.intro hbf (And.intro f0 (And.intro f1 (And.intro f2 f3))))))
  have HW' := Lib.hid hW'
  clear hz1 hz2 hbf f0 f1 f2 f3 hW'
  clear r4
  go_wp2
  rw [← HW'.out]
  obtain ⟨hz1, hz2, hbf, f0, f1, f2, f3⟩ := HG.out
  exact bodyPost_ret (v := .tuple #[.agg #[.bool false, .slice none 0 0, .bool false, .slice none 0 0], .int .i64 2]) (by simp [results, Tryz.results13, go_sem, f0, f1, f2, f3]) rfl ⟨_, _, _, _, _, _, _, _, rfl, hz1, hz2, hbf⟩
set_option maxHeartbeats 800000 in
set_option maxRecDepth 100000 in
theorem refRatAdd_yes (p q p2 q2 : Bool) (A A' A2 A2' : Option Addr) (n c n' c' n2 c2 n2' c2' : Nat) (l l' k k' : List Nat) (w : World) (hx : Wd w (.slice A n c) l) (hy : Wd w (.slice A' n' c') l') (hx2 : Wd w (.slice A2 n2 c2) k) (hy2 : Wd w (.slice A2' n2' c2') k') (rx ry re : Int) (hp : vldR p q l l' = true) (hq : vldR p2 q2 k k' = true) (hra : RA true ((numOf p l * numOf q2 k' + numOf p2 k * numOf q l') / nfg ((numOf p l * numOf q2 k' + numOf p2 k * numOf q l')) ((numOf q l' * numOf q2 k'))) ((numOf q l' * numOf q2 k') / nfg ((numOf p l * numOf q2 k' + numOf p2 k * numOf q l')) ((numOf q l' * numOf q2 k'))) rx ry re) :
    Calls Tryz.prog 13 #[.agg #[.bool p, .slice A n c, .bool q, .slice A' n' c'], .agg #[.bool p2, .slice A2 n2 c2, .bool q2, .slice A2' n2' c2']] w (RetR w rx ry re) := by
  obtain ⟨W0, hW0, h1, h2, r4, e0, s0⟩ := three_fb p q p2 q2 A A' A2 A2' n c n' c' n2 c2 n2' c2' l l' k k' w hx hy hx2 hy2
  have V1 := Lib.hid (validRatR_any p q A A' n c n' c' l l' W0 h1.w1 h1.w2)
  have H1 := Lib.hid h1; have H2 := Lib.hid h2; have R4 := Lib.hid r4; have E0 := Lib.hid e0; have HW0 := Lib.hid hW0
  have zz0 : w.heap.size + 1 + 1 + 1 ≤ W0.heap.size := by omega
  rw [hp] at V1
  obtain ⟨hv1, hv2, hv3, hv4⟩ := vldR_parts hp
  obtain ⟨hu1, hu2, hu3, hu4⟩ := vldR_parts hq
  obtain ⟨a1, a2⟩ := vldR_lens hp hx.ok hy.ok
  obtain ⟨b1, b2⟩ := vldR_lens hq hx2.ok hy2.ok
  obtain ⟨N, hN⟩ : ∃ N, N = (numOf p l * numOf q2 k' + numOf p2 k * numOf q l') / nfg ((numOf p l * numOf q2 k' + numOf p2 k * numOf q l')) ((numOf q l' * numOf q2 k')) := ⟨_, rfl⟩
  obtain ⟨D, hD⟩ : ∃ D, D = (numOf q l' * numOf q2 k') / nfg ((numOf p l * numOf q2 k' + numOf p2 k * numOf q l')) ((numOf q l' * numOf q2 k')) := ⟨_, rfl⟩
  have HVU := Lib.hid (And.intro hv1 (And.intro hv2 (And.intro hu1 hu2)))
  rw [← hN, ← hD] at hra
  have RT := Lib.hid (fun W v (f : FV W v N D) => ratioR_any N D rx ry re v W f hra)
  have QT := Lib.hid (show ∀ W u u', FV W u (numOf p l) (numOf q l') → FV W u' (numOf p2 k) (numOf q2 k') → Calls Tryz.prog 53 #[u, u'] W (RetF W N D) from fun W u u' f g => by rw [hN, hD]; exact qplus_any _ _ _ _ u u' W f g a2 b2 a1 b1)
  have HQ := Lib.hid hq
  clear hv1 hv2 hv3 hv4 hu1 hu2 hu3 hu4 a1 a2 b1 b2 hN hD hra
  clear h1 h2 r4 e0 s0 hW0 hx hy hx2 hy2
  go_enter Tryz.func13, Tryz.ntmps13
  go_upto_region 1 with fail
  rw [← HW0.out]
  clear HW0
  have k0 := H1.out.k0; have k1 := H1.out.k1; have k2 := H1.out.k2; have k3 := H1.out.k3
  go_wp2_with fail
  refine V1.out.mono ?_
  rintro e W1 ⟨rfl, x1⟩
  replace x1 : Ext W0 W1 := x1
  have H1 := Lib.hid (H1.out.ext x1); have H2 := Lib.hid (H2.out.ext x1); have R4 := Lib.hid (R4.out.ext x1); have E1 := Lib.hid (E0.out.trans x1)
  clear x1 V1 k0 k1 k2 k3 E0
  have V2 := Lib.hid (validRatR_any p2 q2 A2 A2' n2 c2 n2' c2' k k' W1 H2.out.w1 H2.out.w2)
  have k0 := H2.out.k0; have k1 := H2.out.k1; have k2 := H2.out.k2; have k3 := H2.out.k3
  rw [HQ.out] at V2
  go_wp2_with fail
  refine V2.out.mono ?_
  rintro e W2 ⟨rfl, x2⟩
  replace x2 : Ext W1 W2 := x2
  have H1 := Lib.hid (H1.out.ext x2); have H2 := Lib.hid (H2.out.ext x2); have R4 := Lib.hid (R4.out.ext x2); have E2 := Lib.hid (E1.out.trans x2)
  clear x2 V2 k0 k1 k2 k3 E1
  have F1 := H1.out.hf HVU.out.1 HVU.out.2.1
  have F2 := H2.out.hf HVU.out.2.2.1 HVU.out.2.2.2
  obtain ⟨vx, hvx⟩ : ∃ z, z = numOf p l := ⟨_, rfl⟩
  obtain ⟨vy, hvy⟩ : ∃ z, z = numOf q l' := ⟨_, rfl⟩
  obtain ⟨ux, hux⟩ : ∃ z, z = numOf p2 k := ⟨_, rfl⟩
  obtain ⟨uy, huy⟩ : ∃ z, z = numOf q2 k' := ⟨_, rfl⟩
  rw [← hvx, ← hvy] at F1 QT
  rw [← hux, ← huy] at F2 QT
  replace F1 := Lib.hid F1; replace F2 := Lib.hid F2
  clear hvx hvy hux huy HVU HQ
  have lr := R4.out.lt
  go_upto_region 3 with fail
  refine wp_region_noPanic ?_
  refine wp_pool 8 [some 15, some 16, some 17, some 18, some 19, some 20, some 21, some 22] [] [] [(RF2 (vx) (vy)), (RF2 (vx) (vy)), (RF2 (ux) (uy)), (RF2 (ux) (uy)), (RF2 (N) (D)), (fun (v : Value) (X : World) => ∃ b A n c b' A' n' c', v = .tuple #[.agg #[.bool b, .slice A n c, .bool b', .slice A' n' c'], .int .i64 re] ∧ ZV X (.agg #[.bool b, .slice A n c]) (rx) ∧ ZV X (.agg #[.bool b', .slice A' n' c']) (ry)), (RF2 (rx) (ry)), (fun (v : Value) (_ : World) => v = .int .i64 re)] [noF, noF, noF, noF, noF, noF, noF, noF] (by kernel_rfl) (by kernel_rfl) (by kernel_rfl) (by kernel_rfl) (by kernel_rfl) (by kernel_rfl) (by kernel_rfl) (by kernel_rfl) (fun _ _ _ _ h => h) ⟨(fun _ _ _ e ⟨b, A, n, c, b', A', n', c', h1, h2, h3⟩ => ⟨b, A, n, c, b', A', n', c', h1, h2.ext e, h3.ext e⟩), (fun _ _ _ e ⟨b, A, n, c, b', A', n', c', h1, h2, h3⟩ => ⟨b, A, n, c, b', A', n', c', h1, h2.ext e, h3.ext e⟩), (fun _ _ _ e ⟨b, A, n, c, b', A', n', c', h1, h2, h3⟩ => ⟨b, A, n, c, b', A', n', c', h1, h2.ext e, h3.ext e⟩), (fun _ _ _ e ⟨b, A, n, c, b', A', n', c', h1, h2, h3⟩ => ⟨b, A, n, c, b', A', n', c', h1, h2.ext e, h3.ext e⟩), (fun _ _ _ e ⟨b, A, n, c, b', A', n', c', h1, h2, h3⟩ => ⟨b, A, n, c, b', A', n', c', h1, h2.ext e, h3.ext e⟩), (fun _ _ _ e ⟨b, A, n, c, b', A', n', c', h1, h2, h3⟩ => ⟨b, A, n, c, b', A', n', c', h1, h2.ext e, h3.ext e⟩), (fun _ _ _ e ⟨b, A, n, c, b', A', n', c', h1, h2, h3⟩ => ⟨b, A, n, c, b', A', n', c', h1, h2.ext e, h3.ext e⟩), Stays.pure _, True.intro⟩ ?steps ?done
  case steps =>
    simp only [List.take_succ_cons, List.take_zero]
    refine Steps.cons (RF2 (vx) (vy)) [] rfl (by kernel_rfl) rfl (by kernel_rfl) (fun y X ex0 hf K hK => ?_) ?_
    · clear hf
      have ex := (Ext.drw (Ext.refl _)).trans ex0
      refine Box.mk ?_
      simp only [fill, Act.put, Nat.reduceAdd, List.setIfInBounds_toArray, List.set_cons_zero, List.set_cons_succ] at hK ⊢
      obtain ⟨⟨bl, Al, nl, cl, k0, k1, kz⟩, ⟨bm, Am, nm, cm, k2, k3, ky⟩⟩ := (F1.out.ext ex)
      go_simp
      exact hK.out _ _ ⟨_, _, _, _, _, _, _, _, rfl, kz, ky⟩ (Ext.refl _) (fun b hb => by cases hb)
    refine Steps.cons (RF2 (vx) (vy)) [0] rfl (by kernel_rfl) rfl (by kernel_rfl) (fun y X ex0 hf K hK => ?_) ?_
    · obtain ⟨b0, A0, n0, c0, bb0, AA0, nn0, cc0, h0, z0, y0⟩ : ((RF2 (vx) (vy))) (y 0) X := hf.1
      clear hf
      have ex := (Ext.drw (Ext.refl _)).trans ex0
      refine Box.mk ?_
      simp only [fill, Act.put, Nat.reduceAdd, List.setIfInBounds_toArray, List.set_cons_zero, List.set_cons_succ, h0] at hK ⊢
      go_simp
      refine (ofRat_any _ _ _ _ (fv_mk z0 y0)).mono ?_
      rintro e V ⟨b9, A9, n9, c9, b8, A8, n8, c8, rfl, hz, hy, hb⟩
      try go_wp2_with fail
      exact hK.out _ _ ⟨_, _, _, _, _, _, _, _, rfl, hz, hy⟩ hb (fun b hb => by cases hb)
    refine Steps.cons (RF2 (ux) (uy)) [] rfl (by kernel_rfl) rfl (by kernel_rfl) (fun y X ex0 hf K hK => ?_) ?_
    · clear hf
      have ex := (Ext.drw (Ext.refl _)).trans ex0
      refine Box.mk ?_
      simp only [fill, Act.put, Nat.reduceAdd, List.setIfInBounds_toArray, List.set_cons_zero, List.set_cons_succ] at hK ⊢
      obtain ⟨⟨bl, Al, nl, cl, k0, k1, kz⟩, ⟨bm, Am, nm, cm, k2, k3, ky⟩⟩ := (F2.out.ext ex)
      go_simp
      exact hK.out _ _ ⟨_, _, _, _, _, _, _, _, rfl, kz, ky⟩ (Ext.refl _) (fun b hb => by cases hb)
    refine Steps.cons (RF2 (ux) (uy)) [2, 1] rfl (by kernel_rfl) rfl (by kernel_rfl) (fun y X ex0 hf K hK => ?_) ?_
    · obtain ⟨b2, A2, n2, c2, bb2, AA2, nn2, cc2, h2, z2, y2⟩ : ((RF2 (ux) (uy))) (y 2) X := hf.1
      obtain ⟨b1, A1, n1, c1, bb1, AA1, nn1, cc1, h1, z1, y1⟩ : ((RF2 (vx) (vy))) (y 1) X := hf.2.1
      clear hf
      have ex := (Ext.drw (Ext.refl _)).trans ex0
      refine Box.mk ?_
      simp only [fill, Act.put, Nat.reduceAdd, List.setIfInBounds_toArray, List.set_cons_zero, List.set_cons_succ, h2, h1] at hK ⊢
      go_simp
      refine (ofRat_any _ _ _ _ (fv_mk z2 y2)).mono ?_
      rintro e V ⟨b9, A9, n9, c9, b8, A8, n8, c8, rfl, hz, hy, hb⟩
      try go_wp2_with fail
      exact hK.out _ _ ⟨_, _, _, _, _, _, _, _, rfl, hz, hy⟩ hb (fun b hb => by cases hb)
    refine Steps.cons (RF2 (N) (D)) [1, 3] rfl (by kernel_rfl) rfl (by kernel_rfl) (fun y X ex0 hf K hK => ?_) ?_
    · obtain ⟨b1, A1, n1, c1, bb1, AA1, nn1, cc1, h1, z1, y1⟩ : ((RF2 (vx) (vy))) (y 1) X := hf.1
      obtain ⟨b3, A3, n3, c3, bb3, AA3, nn3, cc3, h3, z3, y3⟩ : ((RF2 (ux) (uy))) (y 3) X := hf.2.1
      clear hf
      have ex := (Ext.drw (Ext.refl _)).trans ex0
      refine Box.mk ?_
      simp only [fill, Act.put, Nat.reduceAdd, List.setIfInBounds_toArray, List.set_cons_zero, List.set_cons_succ, h1, h3] at hK ⊢
      go_simp
      refine (QT.out _ _ _ (fv_mk z1 y1) (fv_mk z3 y3)).mono ?_
      rintro e V ⟨b9, A9, n9, c9, b8, A8, n8, c8, rfl, hz, hy, hb⟩
      try go_wp2_with fail
      exact hK.out _ _ ⟨_, _, _, _, _, _, _, _, rfl, hz, hy⟩ hb (fun b hb => by cases hb)
    refine Steps.cons (fun (v : Value) (X : World) => ∃ b A n c b' A' n' c', v = .tuple #[.agg #[.bool b, .slice A n c, .bool b', .slice A' n' c'], .int .i64 re] ∧ ZV X (.agg #[.bool b, .slice A n c]) (rx) ∧ ZV X (.agg #[.bool b', .slice A' n' c']) (ry)) [4] rfl (by kernel_rfl) rfl (by kernel_rfl) (fun y X ex0 hf K hK => ?_) ?_
    · obtain ⟨b4, A4, n4, c4, bb4, AA4, nn4, cc4, h4, z4, y4⟩ : ((RF2 (N) (D))) (y 4) X := hf.1
      clear hf
      have ex := (Ext.drw (Ext.refl _)).trans ex0
      refine Box.mk ?_
      simp only [fill, Act.put, Nat.reduceAdd, List.setIfInBounds_toArray, List.set_cons_zero, List.set_cons_succ, h4] at hK ⊢
      go_simp
      refine (RT.out _ _ (fv_mk z4 y4)).mono ?_
      rintro e V ⟨b9, A9, n9, c9, b8, A8, n8, c8, rfl, hz, hy, hb⟩
      try go_wp2_with fail
      exact hK.out _ _ ⟨_, _, _, _, _, _, _, _, rfl, hz, hy⟩ hb (fun b hb => by cases hb)
    refine Steps.cons (RF2 (rx) (ry)) [5] rfl (by kernel_rfl) rfl (by kernel_rfl) (fun y X ex0 hf K hK => ?_) ?_
    · obtain ⟨b5, A5, n5, c5, bb5, AA5, nn5, cc5, h5, z5, y5⟩ : ((fun (v : Value) (X : World) => ∃ b A n c b' A' n' c', v = .tuple #[.agg #[.bool b, .slice A n c, .bool b', .slice A' n' c'], .int .i64 re] ∧ ZV X (.agg #[.bool b, .slice A n c]) (rx) ∧ ZV X (.agg #[.bool b', .slice A' n' c']) (ry))) (y 5) X := hf.1
      clear hf
      have ex := (Ext.drw (Ext.refl _)).trans ex0
      refine Box.mk ?_
      simp only [fill, Act.put, Nat.reduceAdd, List.setIfInBounds_toArray, List.set_cons_zero, List.set_cons_succ, h5] at hK ⊢
      go_simp
      exact hK.out _ _ ⟨_, _, _, _, _, _, _, _, rfl, z5, y5⟩ (Ext.refl _) (fun b hb => by cases hb)
    refine Steps.cons (fun (v : Value) (_ : World) => v = .int .i64 re) [5] rfl (by kernel_rfl) rfl (by kernel_rfl) (fun y X ex0 hf K hK => ?_) ?_
    · obtain ⟨b5, A5, n5, c5, bb5, AA5, nn5, cc5, h5, z5, y5⟩ : ((fun (v : Value) (X : World) => ∃ b A n c b' A' n' c', v = .tuple #[.agg #[.bool b, .slice A n c, .bool b', .slice A' n' c'], .int .i64 re] ∧ ZV X (.agg #[.bool b, .slice A n c]) (rx) ∧ ZV X (.agg #[.bool b', .slice A' n' c']) (ry))) (y 5) X := hf.1
      clear hf
      have ex := (Ext.drw (Ext.refl _)).trans ex0
      refine Box.mk ?_
      simp only [fill, Act.put, Nat.reduceAdd, List.setIfInBounds_toArray, List.set_cons_zero, List.set_cons_succ, h5] at hK ⊢
      go_simp
      exact hK.out _ _ rfl (Ext.refl _) (fun b hb => by cases hb)
    exact Steps.nil
  case done =>
    intro y X ex hf hlt hsep
    obtain ⟨b0, A0, n0, c0, bb0, AA0, nn0, cc0, h0, z0, y0⟩ : ((RF2 (vx) (vy))) (y 0) X := hf.1
    obtain ⟨b1, A1, n1, c1, bb1, AA1, nn1, cc1, h1, z1, y1⟩ : ((RF2 (vx) (vy))) (y 1) X := hf.2.1
    obtain ⟨b2, A2, n2, c2, bb2, AA2, nn2, cc2, h2, z2, y2⟩ : ((RF2 (ux) (uy))) (y 2) X := hf.2.2.1
    obtain ⟨b3, A3, n3, c3, bb3, AA3, nn3, cc3, h3, z3, y3⟩ : ((RF2 (ux) (uy))) (y 3) X := hf.2.2.2.1
    obtain ⟨b4, A4, n4, c4, bb4, AA4, nn4, cc4, h4, z4, y4⟩ : ((RF2 (N) (D))) (y 4) X := hf.2.2.2.2.1
    obtain ⟨b5, A5, n5, c5, bb5, AA5, nn5, cc5, h5, z5, y5⟩ : ((fun (v : Value) (X : World) => ∃ b A n c b' A' n' c', v = .tuple #[.agg #[.bool b, .slice A n c, .bool b', .slice A' n' c'], .int .i64 re] ∧ ZV X (.agg #[.bool b, .slice A n c]) (rx) ∧ ZV X (.agg #[.bool b', .slice A' n' c']) (ry))) (y 5) X := hf.2.2.2.2.2.1
    obtain ⟨b6, A6, n6, c6, bb6, AA6, nn6, cc6, h6, z6, y6⟩ : ((RF2 (rx) (ry))) (y 6) X := hf.2.2.2.2.2.2.1
    have h7 : ((fun (v : Value) (_ : World) => v = .int .i64 re)) (y 7) X := hf.2.2.2.2.2.2.2.1
    clear hf
    clear hsep hlt
    refine Box.mk ?_
    simp only [List.drop_succ_cons, List.drop_zero, fill, Act.put, Nat.reduceAdd, List.setIfInBounds_toArray, List.set_cons_zero, List.set_cons_succ, h0, h1, h2, h3, h4, h5, h6, h7]
    clear h0 h1 h2 h3 h4 h5 h6 h7
    have r4 := R4.out.ext ex
    obtain ⟨_, _, _, _, k40, k41, k42, k43, k44, k45, k46, k47⟩ := put4_walk r4 (.bool b6) (.slice A6 n6 c6) (.bool bb6)
    obtain ⟨W', hW'⟩ : ∃ W', W' = put4 X (w.heap.size + 1 + 1) (.bool b6) (.slice A6 n6 c6) (.bool bb6) (.slice AA6 nn6 cc6) := ⟨_, rfl⟩
    obtain ⟨f0, f1, f2, f3⟩ := put4_cells r4 (.bool b6) (.slice A6 n6 c6) (.bool bb6) (.slice AA6 nn6 cc6)
    have hz1 := (z6).put4 r4 (.bool b6) (.slice A6 n6 c6) (.bool bb6) (.slice AA6 nn6 cc6)
    rw [← hW'] at hz1
    have hz2 := (y6).put4 r4 (.bool b6) (.slice A6 n6 c6) (.bool bb6) (.slice AA6 nn6 cc6)
    rw [← hW'] at hz2
    have hbf : Below w.heap.size w W' := by rw [hW']; exact put4_below (Ext.below (E2.out.trans ex)) (by omega) (.bool b6) (.slice A6 n6 c6) (.bool bb6) (.slice AA6 nn6 cc6)
    rw [← hW'] at f0 f1 f2 f3
    unfold put4 at hW'
    have HG := Lib.hid (And.intro hz1 (And.intro hz2 (And.intro hbf (And.intro f0 (And.intro f1 (And.intro f2 f3))))))
    have HW' := Lib.hid hW'
    clear hz1 hz2 hbf f0 f1 f2 f3 hW'
    clear ex r4 z0 y0 z1 y1 z2 y2 z3 y3 z4 y4 z5 y5 z6 y6
    go_wp2_with fail
    refine NoPanic.normal ?_
    go_wp2
    rw [← HW'.out]
    obtain ⟨hz1, hz2, hbf, f0, f1, f2, f3⟩ := HG.out
    exact bodyPost_ret (v := .tuple #[.agg #[.bool b6, .slice A6 n6 c6, .bool bb6, .slice AA6 nn6 cc6], .int .i64 re]) (by simp [results, Tryz.results13, go_sem, f0, f1, f2, f3]) rfl ⟨_, _, _, _, _, _, _, _, rfl, hz1, hz2, hbf⟩
theorem refRatAdd_u (p q p2 q2 : Bool) (A A' A2 A2' : Option Addr) (n c n' c' n2 c2 n2' c2' : Nat) (l l' k k' : List Nat) (w : World) (hx : Wd w (.slice A n c) l) (hy : Wd w (.slice A' n' c') l') (hx2 : Wd w (.slice A2 n2 c2) k) (hy2 : Wd w (.slice A2' n2' c2') k') (rx ry re : Int) (h : RA (vldR p q l l' && vldR p2 q2 k k') ((numOf p l * numOf q2 k' + numOf p2 k * numOf q l') / nfg ((numOf p l * numOf q2 k' + numOf p2 k * numOf q l')) ((numOf q l' * numOf q2 k'))) ((numOf q l' * numOf q2 k') / nfg ((numOf p l * numOf q2 k' + numOf p2 k * numOf q l')) ((numOf q l' * numOf q2 k'))) rx ry re) :
    Calls Tryz.prog 13 #[.agg #[.bool p, .slice A n c, .bool q, .slice A' n' c'], .agg #[.bool p2, .slice A2 n2 c2, .bool q2, .slice A2' n2' c2']] w (RetR w rx ry re) := by
  by_cases hp : vldR p q l l' = true
  · by_cases hq : vldR p2 q2 k k' = true
    · rw [hp, hq] at h
      exact refRatAdd_yes p q p2 q2 A A' A2 A2' n c n' c' n2 c2 n2' c2' l l' k k' w hx hy hx2 hy2 rx ry re hp hq h
    · have hq : vldR p2 q2 k k' = false := by simpa using hq
      rw [hp, hq] at h
      obtain ⟨rfl, rfl, rfl⟩ := RA.no h
      exact refRatAdd_nob p q p2 q2 A A' A2 A2' n c n' c' n2 c2 n2' c2' l l' k k' w hx hy hx2 hy2 hp hq
  · have hp : vldR p q l l' = false := by simpa using hp
    rw [hp] at h
    obtain ⟨rfl, rfl, rfl⟩ := RA.no h
    exact refRatAdd_noa p q p2 q2 A A' A2 A2' n c n' c' n2 c2 n2' c2' l l' k k' w hx hy hx2 hy2 hp
set_option maxHeartbeats 800000 in
set_option maxRecDepth 100000 in
theorem refRatSub_noa (p q p2 q2 : Bool) (A A' A2 A2' : Option Addr) (n c n' c' n2 c2 n2' c2' : Nat) (l l' k k' : List Nat) (w : World) (hx : Wd w (.slice A n c) l) (hy : Wd w (.slice A' n' c') l') (hx2 : Wd w (.slice A2 n2 c2) k) (hy2 : Wd w (.slice A2' n2' c2') k') (hp : vldR p q l l' = false) :
    Calls Tryz.prog 16 #[.agg #[.bool p, .slice A n c, .bool q, .slice A' n' c'], .agg #[.bool p2, .slice A2 n2 c2, .bool q2, .slice A2' n2' c2']] w (RetR w 0 0 2) := by
  obtain ⟨W0, hW0, h1, h2, r4, e0, s0⟩ := three_fb p q p2 q2 A A' A2 A2' n c n' c' n2 c2 n2' c2' l l' k k' w hx hy hx2 hy2
  have V1 := Lib.hid (validRatR_any p q A A' n c n' c' l l' W0 h1.w1 h1.w2)
  have H1 := Lib.hid h1; have H2 := Lib.hid h2; have R4 := Lib.hid r4; have E0 := Lib.hid e0; have HW0 := Lib.hid hW0
  have z0 : w.heap.size + 1 + 1 + 1 ≤ W0.heap.size := by omega
  rw [hp] at V1
  clear h1 h2 r4 e0 s0 hW0 hx hy hx2 hy2
  go_enter Tryz.func16, Tryz.ntmps16
  go_upto_region 1 with fail
  rw [← HW0.out]
  clear HW0
  have k0 := H1.out.k0; have k1 := H1.out.k1; have k2 := H1.out.k2; have k3 := H1.out.k3
  go_wp2_with fail
  refine V1.out.mono ?_
  rintro e W1 ⟨rfl, x1⟩
  replace x1 : Ext W0 W1 := x1
  have H1 := Lib.hid (H1.out.ext x1); have H2 := Lib.hid (H2.out.ext x1); have R4 := Lib.hid (R4.out.ext x1); have E1 := Lib.hid (E0.out.trans x1)
  clear x1 V1 k0 k1 k2 k3 E0
  have r4 := R4.out
  obtain ⟨_, _, _, _, k40, k41, k42, k43, k44, k45, k46, k47⟩ := put4_walk r4 (.bool false) (.slice none 0 0) (.bool false)
  obtain ⟨W', hW'⟩ : ∃ W', W' = put4 W1 (w.heap.size + 1 + 1) (.bool false) (.slice none 0 0) (.bool false) (.slice none 0 0) := ⟨_, rfl⟩
  obtain ⟨f0, f1, f2, f3⟩ := put4_cells r4 (.bool false) (.slice none 0 0) (.bool false) (.slice none 0 0)
  have hz1 := ((ZV.zero W1)).put4 r4 (.bool false) (.slice none 0 0) (.bool false) (.slice none 0 0)
  rw [← hW'] at hz1
  have hz2 := ((ZV.zero W1)).put4 r4 (.bool false) (.slice none 0 0) (.bool false) (.slice none 0 0)
  rw [← hW'] at hz2
  have hbf : Below w.heap.size w W' := by rw [hW']; exact put4_below (Ext.below E1.out) (by omega) (.bool false) (.slice none 0 0) (.bool false) (.slice none 0 0)
  rw [← hW'] at f0 f1 f2 f3
  unfold put4 at hW'
  have HG := Lib.hid (And.intro hz1 (And.intro hz2 (And.intro hbf (And.intro f0 (And.intro f1 (And.intro f2 f3))))))
  have HW' := Lib.hid hW'
  clear hz1 hz2 hbf f0 f1 f2 f3 hW'
  clear r4
  go_wp2
  rw [← HW'.out]
  obtain ⟨hz1, hz2, hbf, f0, f1, f2, f3⟩ := HG.out
  exact bodyPost_ret (v := .tuple #[.agg #[.bool false, .slice none 0 0, .bool false, .slice none 0 0], .int .i64 2]) (by simp [results, Tryz.results16, go_sem, f0, f1, f2, f3]) rfl ⟨_, _, _, _, _, _, _, _, rfl, hz1, hz2, hbf⟩
set_option maxHeartbeats 800000 in
set_option maxRecDepth 100000 in
theorem refRatSub_nob (p q p2 q2 : Bool) (A A' A2 A2' : Option Addr) (n c n' c' n2 c2 n2' c2' : Nat) (l l' k k' : List Nat) (w : World) (hx : Wd w (.slice A n c) l) (hy : Wd w (.slice A' n' c') l') (hx2 : Wd w (.slice A2 n2 c2) k) (hy2 : Wd w (.slice A2' n2' c2') k') (hp : vldR p q l l' = true) (hq : vldR p2 q2 k k' = false) :
    Calls Tryz.prog 16 #[.agg #[.bool p, .slice A n c, .bool q, .slice A' n' c'], .agg #[.bool p2, .slice A2 n2 c2, .bool q2, .slice A2' n2' c2']] w (RetR w 0 0 2) := by
  obtain ⟨W0, hW0, h1, h2, r4, e0, s0⟩ := three_fb p q p2 q2 A A' A2 A2' n c n' c' n2 c2 n2' c2' l l' k k' w hx hy hx2 hy2
  have V1 := Lib.hid (validRatR_any p q A A' n c n' c' l l' W0 h1.w1 h1.w2)
  have H1 := Lib.hid h1; have H2 := Lib.hid h2; have R4 := Lib.hid r4; have E0 := Lib.hid e0; have HW0 := Lib.hid hW0
  have z0 : w.heap.size + 1 + 1 + 1 ≤ W0.heap.size := by omega
  rw [hp] at V1
  clear h1 h2 r4 e0 s0 hW0 hx hy hx2 hy2
  go_enter Tryz.func16, Tryz.ntmps16
  go_upto_region 1 with fail
  rw [← HW0.out]
  clear HW0
  have k0 := H1.out.k0; have k1 := H1.out.k1; have k2 := H1.out.k2; have k3 := H1.out.k3
  go_wp2_with fail
  refine V1.out.mono ?_
  rintro e W1 ⟨rfl, x1⟩
  replace x1 : Ext W0 W1 := x1
  have H1 := Lib.hid (H1.out.ext x1); have H2 := Lib.hid (H2.out.ext x1); have R4 := Lib.hid (R4.out.ext x1); have E1 := Lib.hid (E0.out.trans x1)
  clear x1 V1 k0 k1 k2 k3 E0
  have V2 := Lib.hid (validRatR_any p2 q2 A2 A2' n2 c2 n2' c2' k k' W1 H2.out.w1 H2.out.w2)
  have k0 := H2.out.k0; have k1 := H2.out.k1; have k2 := H2.out.k2; have k3 := H2.out.k3
  rw [hq] at V2
  go_wp2_with fail
  refine V2.out.mono ?_
  rintro e W2 ⟨rfl, x2⟩
  replace x2 : Ext W1 W2 := x2
  have H1 := Lib.hid (H1.out.ext x2); have H2 := Lib.hid (H2.out.ext x2); have R4 := Lib.hid (R4.out.ext x2); have E2 := Lib.hid (E1.out.trans x2)
  clear x2 V2 k0 k1 k2 k3 E1
  have r4 := R4.out
  obtain ⟨_, _, _, _, k40, k41, k42, k43, k44, k45, k46, k47⟩ := put4_walk r4 (.bool false) (.slice none 0 0) (.bool false)
  obtain ⟨W', hW'⟩ : ∃ W', W' = put4 W2 (w.heap.size + 1 + 1) (.bool false) (.slice none 0 0) (.bool false) (.slice none 0 0) := ⟨_, rfl⟩
  obtain ⟨f0, f1, f2, f3⟩ := put4_cells r4 (.bool false) (.slice none 0 0) (.bool false) (.slice none 0 0)
  have hz1 := ((ZV.zero W2)).put4 r4 (.bool false) (.slice none 0 0) (.bool false) (.slice none 0 0)
  rw [← hW'] at hz1
  have hz2 := ((ZV.zero W2)).put4 r4 (.bool false) (.slice none 0 0) (.bool false) (.slice none 0 0)
  rw [← hW'] at hz2
  have hbf : Below w.heap.size w W' := by rw [hW']; exact put4_below (Ext.below E2.out) (by omega) (.bool false) (.slice none 0 0) (.bool false) (.slice none 0 0)
  rw [← hW'] at f0 f1 f2 f3
  unfold put4 at hW'
  have HG := Lib.hid (And.intro hz1 (And.intro hz2 (And.intro hbf (And.intro f0 (And.intro f1 (And.intro f2 f3))))))
  have HW' := Lib.hid hW'
  clear hz1 hz2 hbf f0 f1 f2 f3 hW'
  clear r4
  go_wp2
  rw [← HW'.out]
  obtain ⟨hz1, hz2, hbf, f0, f1, f2, f3⟩ := HG.out
  exact bodyPost_ret (v := .tuple #[.agg #[.bool false, .slice none 0 0, .bool false, .slice none 0 0], .int .i64 2]) (by simp [results, Tryz.results16, go_sem, f0, f1, f2, f3]) rfl ⟨_, _, _, _, _, _, _, _, rfl, hz1, hz2, hbf⟩
set_option maxHeartbeats 800000 in
set_option maxRecDepth 100000 in
theorem refRatSub_yes (p q p2 q2 : Bool) (A A' A2 A2' : Option Addr) (n c n' c' n2 c2 n2' c2' : Nat) (l l' k k' : List Nat) (w : World) (hx : Wd w (.slice A n c) l) (hy : Wd w (.slice A' n' c') l') (hx2 : Wd w (.slice A2 n2 c2) k) (hy2 : Wd w (.slice A2' n2' c2') k') (rx ry re : Int) (hp : vldR p q l l' = true) (hq : vldR p2 q2 k k' = true) (hra : RA true ((numOf p l * numOf q2 k' + -(numOf p2 k) * numOf q l') / nfg ((numOf p l * numOf q2 k' + -(numOf p2 k) * numOf q l')) ((numOf q l' * numOf q2 k'))) ((numOf q l' * numOf q2 k') / nfg ((numOf p l * numOf q2 k' + -(numOf p2 k) * numOf q l')) ((numOf q l' * numOf q2 k'))) rx ry re) :
    Calls Tryz.prog 16 #[.agg #[.bool p, .slice A n c, .bool q, .slice A' n' c'], .agg #[.bool p2, .slice A2 n2 c2, .bool q2, .slice A2' n2' c2']] w (RetR w rx ry re) := by
  obtain ⟨W0, hW0, h1, h2, r4, e0, s0⟩ := three_fb p q p2 q2 A A' A2 A2' n c n' c' n2 c2 n2' c2' l l' k k' w hx hy hx2 hy2
  have V1 := Lib.hid (validRatR_any p q A A' n c n' c' l l' W0 h1.w1 h1.w2)
  have H1 := Lib.hid h1; have H2 := Lib.hid h2; have R4 := Lib.hid r4; have E0 := Lib.hid e0; have HW0 := Lib.hid hW0
  have zz0 : w.heap.size + 1 + 1 + 1 ≤ W0.heap.size := by omega
  rw [hp] at V1
  obtain ⟨hv1, hv2, hv3, hv4⟩ := vldR_parts hp
  obtain ⟨hu1, hu2, hu3, hu4⟩ := vldR_parts hq
  obtain ⟨a1, a2⟩ := vldR_lens hp hx.ok hy.ok
  obtain ⟨b1, b2⟩ := vldR_lens hq hx2.ok hy2.ok
  obtain ⟨N, hN⟩ : ∃ N, N = (numOf p l * numOf q2 k' + -(numOf p2 k) * numOf q l') / nfg ((numOf p l * numOf q2 k' + -(numOf p2 k) * numOf q l')) ((numOf q l' * numOf q2 k')) := ⟨_, rfl⟩
  obtain ⟨D, hD⟩ : ∃ D, D = (numOf q l' * numOf q2 k') / nfg ((numOf p l * numOf q2 k' + -(numOf p2 k) * numOf q l')) ((numOf q l' * numOf q2 k')) := ⟨_, rfl⟩
  have HVU := Lib.hid (And.intro hv1 (And.intro hv2 (And.intro hu1 hu2)))
  rw [← hN, ← hD] at hra
  have RT := Lib.hid (fun W v (f : FV W v N D) => ratioR_any N D rx ry re v W f hra)
  have QT := Lib.hid (show ∀ W u u', FV W u (numOf p l) (numOf q l') → FV W u' (numOf p2 k) (numOf q2 k') → Calls Tryz.prog 55 #[u, u'] W (RetF W N D) from fun W u u' f g => by rw [hN, hD]; exact qless_any _ _ _ _ u u' W f g a2 b2 a1 b1)
  have HQ := Lib.hid hq
  clear hv1 hv2 hv3 hv4 hu1 hu2 hu3 hu4 a1 a2 b1 b2 hN hD hra
  clear h1 h2 r4 e0 s0 hW0 hx hy hx2 hy2
  go_enter Tryz.func16, Tryz.ntmps16
  go_upto_region 1 with fail
  rw [← HW0.out]
  clear HW0
  have k0 := H1.out.k0; have k1 := H1.out.k1; have k2 := H1.out.k2; have k3 := H1.out.k3
  go_wp2_with fail
  refine V1.out.mono ?_
  rintro e W1 ⟨rfl, x1⟩
  replace x1 : Ext W0 W1 := x1
  have H1 := Lib.hid (H1.out.ext x1); have H2 := Lib.hid (H2.out.ext x1); have R4 := Lib.hid (R4.out.ext x1); have E1 := Lib.hid (E0.out.trans x1)
  clear x1 V1 k0 k1 k2 k3 E0
  have V2 := Lib.hid (validRatR_any p2 q2 A2 A2' n2 c2 n2' c2' k k' W1 H2.out.w1 H2.out.w2)
  have k0 := H2.out.k0; have k1 := H2.out.k1; have k2 := H2.out.k2; have k3 := H2.out.k3
  rw [HQ.out] at V2
  go_wp2_with fail
  refine V2.out.mono ?_
  rintro e W2 ⟨rfl, x2⟩
  replace x2 : Ext W1 W2 := x2
  have H1 := Lib.hid (H1.out.ext x2); have H2 := Lib.hid (H2.out.ext x2); have R4 := Lib.hid (R4.out.ext x2); have E2 := Lib.hid (E1.out.trans x2)
  clear x2 V2 k0 k1 k2 k3 E1
  have F1 := H1.out.hf HVU.out.1 HVU.out.2.1
  have F2 := H2.out.hf HVU.out.2.2.1 HVU.out.2.2.2
  obtain ⟨vx, hvx⟩ : ∃ z, z = numOf p l := ⟨_, rfl⟩
  obtain ⟨vy, hvy⟩ : ∃ z, z = numOf q l' := ⟨_, rfl⟩
  obtain ⟨ux, hux⟩ : ∃ z, z = numOf p2 k := ⟨_, rfl⟩
  obtain ⟨uy, huy⟩ : ∃ z, z = numOf q2 k' := ⟨_, rfl⟩
  rw [← hvx, ← hvy] at F1 QT
  rw [← hux, ← huy] at F2 QT
  replace F1 := Lib.hid F1; replace F2 := Lib.hid F2
  clear hvx hvy hux huy HVU HQ
  have lr := R4.out.lt
  go_upto_region 3 with fail
  refine wp_region_noPanic ?_
  refine wp_pool 8 [some 15, some 16, some 17, some 18, some 19, some 20, some 21, some 22] [] [] [(RF2 (vx) (vy)), (RF2 (vx) (vy)), (RF2 (ux) (uy)), (RF2 (ux) (uy)), (RF2 (N) (D)), (fun (v : Value) (X : World) => ∃ b A n c b' A' n' c', v = .tuple #[.agg #[.bool b, .slice A n c, .bool b', .slice A' n' c'], .int .i64 re] ∧ ZV X (.agg #[.bool b, .slice A n c]) (rx) ∧ ZV X (.agg #[.bool b', .slice A' n' c']) (ry)), (RF2 (rx) (ry)), (fun (v : Value) (_ : World) => v = .int .i64 re)] [noF, noF, noF, noF, noF, noF, noF, noF] (by kernel_rfl) (by kernel_rfl) (by kernel_rfl) (by kernel_rfl) (by kernel_rfl) (by kernel_rfl) (by kernel_rfl) (by kernel_rfl) (fun _ _ _ _ h => h) ⟨(fun _ _ _ e ⟨b, A, n, c, b', A', n', c', h1, h2, h3⟩ => ⟨b, A, n, c, b', A', n', c', h1, h2.ext e, h3.ext e⟩), (fun _ _ _ e ⟨b, A, n, c, b', A', n', c', h1, h2, h3⟩ => ⟨b, A, n, c, b', A', n', c', h1, h2.ext e, h3.ext e⟩), (fun _ _ _ e ⟨b, A, n, c, b', A', n', c', h1, h2, h3⟩ => ⟨b, A, n, c, b', A', n', c', h1, h2.ext e, h3.ext e⟩), (fun _ _ _ e ⟨b, A, n, c, b', A', n', c', h1, h2, h3⟩ => ⟨b, A, n, c, b', A', n', c', h1, h2.ext e, h3.ext e⟩), (fun _ _ _ e ⟨b, A, n, c, b', A', n', c', h1, h2, h3⟩ => ⟨b, A, n, c, b', A', n', c', h1, h2.ext e, h3.ext e⟩), (fun _ _ _ e ⟨b, A, n, c, b', A', n', c', h1, h2, h3⟩ => ⟨b, A, n, c, b', A', n', c', h1, h2.ext e, h3.ext e⟩), (fun _ _ _ e ⟨b, A, n, c, b', A', n', c', h1, h2, h3⟩ => ⟨b, A, n, c, b', A', n', c', h1, h2.ext e, h3.ext e⟩), Stays.pure _, True.intro⟩ ?steps ?done
  case steps =>
    simp only [List.take_succ_cons, List.take_zero]
    refine Steps.cons (RF2 (vx) (vy)) [] rfl (by kernel_rfl) rfl (by kernel_rfl) (fun y X ex0 hf K hK => ?_) ?_
    · clear hf
      have ex := (Ext.drw (Ext.refl _)).trans ex0
      refine Box.mk ?_
      simp only [fill, Act.put, Nat.reduceAdd, List.setIfInBounds_toArray, List.set_cons_zero, List.set_cons_succ] at hK ⊢
      obtain ⟨⟨bl, Al, nl, cl, k0, k1, kz⟩, ⟨bm, Am, nm, cm, k2, k3, ky⟩⟩ := (F1.out.ext ex)
      go_simp
      exact hK.out _ _ ⟨_, _, _, _, _, _, _, _, rfl, kz, ky⟩ (Ext.refl _) (fun b hb => by cases hb)
    refine Steps.cons (RF2 (vx) (vy)) [0] rfl (by kernel_rfl) rfl (by kernel_rfl) (fun y X ex0 hf K hK => ?_) ?_
    · obtain ⟨b0, A0, n0, c0, bb0, AA0, nn0, cc0, h0, z0, y0⟩ : ((RF2 (vx) (vy))) (y 0) X := hf.1
      clear hf
      have ex := (Ext.drw (Ext.refl _)).trans ex0
      refine Box.mk ?_
      simp only [fill, Act.put, Nat.reduceAdd, List.setIfInBounds_toArray, List.set_cons_zero, List.set_cons_succ, h0] at hK ⊢
      go_simp
      refine (ofRat_any _ _ _ _ (fv_mk z0 y0)).mono ?_
      rintro e V ⟨b9, A9, n9, c9, b8, A8, n8, c8, rfl, hz, hy, hb⟩
      try go_wp2_with fail
      exact hK.out _ _ ⟨_, _, _, _, _, _, _, _, rfl, hz, hy⟩ hb (fun b hb => by cases hb)
    refine Steps.cons (RF2 (ux) (uy)) [] rfl (by kernel_rfl) rfl (by kernel_rfl) (fun y X ex0 hf K hK => ?_) ?_
    · clear hf
      have ex := (Ext.drw (Ext.refl _)).trans ex0
      refine Box.mk ?_
      simp only [fill, Act.put, Nat.reduceAdd, List.setIfInBounds_toArray, List.set_cons_zero, List.set_cons_succ] at hK ⊢
      obtain ⟨⟨bl, Al, nl, cl, k0, k1, kz⟩, ⟨bm, Am, nm, cm, k2, k3, ky⟩⟩ := (F2.out.ext ex)
      go_simp
      exact hK.out _ _ ⟨_, _, _, _, _, _, _, _, rfl, kz, ky⟩ (Ext.refl _) (fun b hb => by cases hb)
    refine Steps.cons (RF2 (ux) (uy)) [2, 1] rfl (by kernel_rfl) rfl (by kernel_rfl) (fun y X ex0 hf K hK => ?_) ?_
    · obtain ⟨b2, A2, n2, c2, bb2, AA2, nn2, cc2, h2, z2, y2⟩ : ((RF2 (ux) (uy))) (y 2) X := hf.1
      obtain ⟨b1, A1, n1, c1, bb1, AA1, nn1, cc1, h1, z1, y1⟩ : ((RF2 (vx) (vy))) (y 1) X := hf.2.1
      clear hf
      have ex := (Ext.drw (Ext.refl _)).trans ex0
      refine Box.mk ?_
      simp only [fill, Act.put, Nat.reduceAdd, List.setIfInBounds_toArray, List.set_cons_zero, List.set_cons_succ, h2, h1] at hK ⊢
      go_simp
      refine (ofRat_any _ _ _ _ (fv_mk z2 y2)).mono ?_
      rintro e V ⟨b9, A9, n9, c9, b8, A8, n8, c8, rfl, hz, hy, hb⟩
      try go_wp2_with fail
      exact hK.out _ _ ⟨_, _, _, _, _, _, _, _, rfl, hz, hy⟩ hb (fun b hb => by cases hb)
    refine Steps.cons (RF2 (N) (D)) [1, 3] rfl (by kernel_rfl) rfl (by kernel_rfl) (fun y X ex0 hf K hK => ?_) ?_
    · obtain ⟨b1, A1, n1, c1, bb1, AA1, nn1, cc1, h1, z1, y1⟩ : ((RF2 (vx) (vy))) (y 1) X := hf.1
      obtain ⟨b3, A3, n3, c3, bb3, AA3, nn3, cc3, h3, z3, y3⟩ : ((RF2 (ux) (uy))) (y 3) X := hf.2.1
      clear hf
      have ex := (Ext.drw (Ext.refl _)).trans ex0
      refine Box.mk ?_
      simp only [fill, Act.put, Nat.reduceAdd, List.setIfInBounds_toArray, List.set_cons_zero, List.set_cons_succ, h1, h3] at hK ⊢
      go_simp
      refine (QT.out _ _ _ (fv_mk z1 y1) (fv_mk z3 y3)).mono ?_
      rintro e V ⟨b9, A9, n9, c9, b8, A8, n8, c8, rfl, hz, hy, hb⟩
      try go_wp2_with fail
      exact hK.out _ _ ⟨_, _, _, _, _, _, _, _, rfl, hz, hy⟩ hb (fun b hb => by cases hb)
    refine Steps.cons (fun (v : Value) (X : World) => ∃ b A n c b' A' n' c', v = .tuple #[.agg #[.bool b, .slice A n c, .bool b', .slice A' n' c'], .int .i64 re] ∧ ZV X (.agg #[.bool b, .slice A n c]) (rx) ∧ ZV X (.agg #[.bool b', .slice A' n' c']) (ry)) [4] rfl (by kernel_rfl) rfl (by kernel_rfl) (fun y X ex0 hf K hK => ?_) ?_
    · obtain ⟨b4, A4, n4, c4, bb4, AA4, nn4, cc4, h4, z4, y4⟩ : ((RF2 (N) (D))) (y 4) X := hf.1
      clear hf
      have ex := (Ext.drw (Ext.refl _)).trans ex0
      refine Box.mk ?_
      simp only [fill, Act.put, Nat.reduceAdd, List.setIfInBounds_toArray, List.set_cons_zero, List.set_cons_succ, h4] at hK ⊢
      go_simp
      refine (RT.out _ _ (fv_mk z4 y4)).mono ?_
      rintro e V ⟨b9, A9, n9, c9, b8, A8, n8, c8, rfl, hz, hy, hb⟩
      try go_wp2_with fail
      exact hK.out _ _ ⟨_, _, _, _, _, _, _, _, rfl, hz, hy⟩ hb (fun b hb => by cases hb)
    refine Steps.cons (RF2 (rx) (ry)) [5] rfl (by kernel_rfl) rfl (by kernel_rfl) (fun y X ex0 hf K hK => ?_) ?_
    · obtain ⟨b5, A5, n5, c5, bb5, AA5, nn5, cc5, h5, z5, y5⟩ : ((fun (v : Value) (X : World) => ∃ b A n c b' A' n' c', v = .tuple #[.agg #[.bool b, .slice A n c, .bool b', .slice A' n' c'], .int .i64 re] ∧ ZV X (.agg #[.bool b, .slice A n c]) (rx) ∧ ZV X (.agg #[.bool b', .slice A' n' c']) (ry))) (y 5) X := hf.1
      clear hf
      have ex := (Ext.drw (Ext.refl _)).trans ex0
      refine Box.mk ?_
      simp only [fill, Act.put, Nat.reduceAdd, List.setIfInBounds_toArray, List.set_cons_zero, List.set_cons_succ, h5] at hK ⊢
      go_simp
      exact hK.out _ _ ⟨_, _, _, _, _, _, _, _, rfl, z5, y5⟩ (Ext.refl _) (fun b hb => by cases hb)
    refine Steps.cons (fun (v : Value) (_ : World) => v = .int .i64 re) [5] rfl (by kernel_rfl) rfl (by kernel_rfl) (fun y X ex0 hf K hK => ?_) ?_
    · obtain ⟨b5, A5, n5, c5, bb5, AA5, nn5, cc5, h5, z5, y5⟩ : ((fun (v : Value) (X : World) => ∃ b A n c b' A' n' c', v = .tuple #[.agg #[.bool b, .slice A n c, .bool b', .slice A' n' c'], .int .i64 re] ∧ ZV X (.agg #[.bool b, .slice A n c]) (rx) ∧ ZV X (.agg #[.bool b', .slice A' n' c']) (ry))) (y 5) X := hf.1
      clear hf
      have ex := (Ext.drw (Ext.refl _)).trans ex0
      refine Box.mk ?_
      simp only [fill, Act.put, Nat.reduceAdd, List.setIfInBounds_toArray, List.set_cons_zero, List.set_cons_succ, h5] at hK ⊢
      go_simp
      exact hK.out _ _ rfl (Ext.refl _) (fun b hb => by cases hb)
    exact Steps.nil
  case done =>
    intro y X ex hf hlt hsep
    obtain ⟨b0, A0, n0, c0, bb0, AA0, nn0, cc0, h0, z0, y0⟩ : ((RF2 (vx) (vy))) (y 0) X := hf.1
    obtain ⟨b1, A1, n1, c1, bb1, AA1, nn1, cc1, h1, z1, y1⟩ : ((RF2 (vx) (vy))) (y 1) X := hf.2.1
    obtain ⟨b2, A2, n2, c2, bb2, AA2, nn2, cc2, h2, z2, y2⟩ : ((RF2 (ux) (uy))) (y 2) X := hf.2.2.1
    obtain ⟨b3, A3, n3, c3, bb3, AA3, nn3, cc3, h3, z3, y3⟩ : ((RF2 (ux) (uy))) (y 3) X := hf.2.2.2.1
    obtain ⟨b4, A4, n4, c4, bb4, AA4, nn4, cc4, h4, z4, y4⟩ : ((RF2 (N) (D))) (y 4) X := hf.2.2.2.2.1
    obtain ⟨b5, A5, n5, c5, bb5, AA5, nn5, cc5, h5, z5, y5⟩ : ((fun (v : Value) (X : World) => ∃ b A n c b' A' n' c', v = .tuple #[.agg #[.bool b, .slice A n c, .bool b', .slice A' n' c'], .int .i64 re] ∧ ZV X (.agg #[.bool b, .slice A n c]) (rx) ∧ ZV X (.agg #[.bool b', .slice A' n' c']) (ry))) (y 5) X := hf.2.2.2.2.2.1
    obtain ⟨b6, A6, n6, c6, bb6, AA6, nn6, cc6, h6, z6, y6⟩ : ((RF2 (rx) (ry))) (y 6) X := hf.2.2.2.2.2.2.1
    have h7 : ((fun (v : Value) (_ : World) => v = .int .i64 re)) (y 7) X := hf.2.2.2.2.2.2.2.1
    clear hf
    clear hsep hlt
    refine Box.mk ?_
    simp only [List.drop_succ_cons, List.drop_zero, fill, Act.put, Nat.reduceAdd, List.setIfInBounds_toArray, List.set_cons_zero, List.set_cons_succ, h0, h1, h2, h3, h4, h5, h6, h7]
    clear h0 h1 h2 h3 h4 h5 h6 h7
    have r4 := R4.out.ext ex
    obtain ⟨_, _, _, _, k40, k41, k42, k43, k44, k45, k46, k47⟩ := put4_walk r4 (.bool b6) (.slice A6 n6 c6) (.bool bb6)
    obtain ⟨W', hW'⟩ : ∃ W', W' = put4 X (w.heap.size + 1 + 1) (.bool b6) (.slice A6 n6 c6) (.bool bb6) (.slice AA6 nn6 cc6) := ⟨_, rfl⟩
    obtain ⟨f0, f1, f2, f3⟩ := put4_cells r4 (.bool b6) (.slice A6 n6 c6) (.bool bb6) (.slice AA6 nn6 cc6)
    have hz1 := (z6).put4 r4 (.bool b6) (.slice A6 n6 c6) (.bool bb6) (.slice AA6 nn6 cc6)
    rw [← hW'] at hz1
    have hz2 := (y6).put4 r4 (.bool b6) (.slice A6 n6 c6) (.bool bb6) (.slice AA6 nn6 cc6)
    rw [← hW'] at hz2
    have hbf : Below w.heap.size w W' := by rw [hW']; exact put4_below (Ext.below (E2.out.trans ex)) (by omega) (.bool b6) (.slice A6 n6 c6) (.bool bb6) (.slice AA6 nn6 cc6)
    rw [← hW'] at f0 f1 f2 f3
    unfold put4 at hW'
    have HG := Lib.hid (And.intro hz1 (And.intro hz2 (And.intro hbf (And.intro f0 (And.intro f1 (And.intro f2 f3))))))
    have HW' := Lib.hid hW'
    clear hz1 hz2 hbf f0 f1 f2 f3 hW'
    clear ex r4 z0 y0 z1 y1 z2 y2 z3 y3 z4 y4 z5 y5 z6 y6
    go_wp2_with fail
    refine NoPanic.normal ?_
    go_wp2
    rw [← HW'.out]
    obtain ⟨hz1, hz2, hbf, f0, f1, f2, f3⟩ := HG.out
    exact bodyPost_ret (v := .tuple #[.agg #[.bool b6, .slice A6 n6 c6, .bool bb6, .slice AA6 nn6 cc6], .int .i64 re]) (by simp [results, Tryz.results16, go_sem, f0, f1, f2, f3]) rfl ⟨_, _, _, _, _, _, _, _, rfl, hz1, hz2, hbf⟩
theorem refRatSub_u (p q p2 q2 : Bool) (A A' A2 A2' : Option Addr) (n c n' c' n2 c2 n2' c2' : Nat) (l l' k k' : List Nat) (w : World) (hx : Wd w (.slice A n c) l) (hy : Wd w (.slice A' n' c') l') (hx2 : Wd w (.slice A2 n2 c2) k) (hy2 : Wd w (.slice A2' n2' c2') k') (rx ry re : Int) (h : RA (vldR p q l l' && vldR p2 q2 k k') ((numOf p l * numOf q2 k' + -(numOf p2 k) * numOf q l') / nfg ((numOf p l * numOf q2 k' + -(numOf p2 k) * numOf q l')) ((numOf q l' * numOf q2 k'))) ((numOf q l' * numOf q2 k') / nfg ((numOf p l * numOf q2 k' + -(numOf p2 k) * numOf q l')) ((numOf q l' * numOf q2 k'))) rx ry re) :
    Calls Tryz.prog 16 #[.agg #[.bool p, .slice A n c, .bool q, .slice A' n' c'], .agg #[.bool p2, .slice A2 n2 c2, .bool q2, .slice A2' n2' c2']] w (RetR w rx ry re) := by
  by_cases hp : vldR p q l l' = true
  · by_cases hq : vldR p2 q2 k k' = true
    · rw [hp, hq] at h
      exact refRatSub_yes p q p2 q2 A A' A2 A2' n c n' c' n2 c2 n2' c2' l l' k k' w hx hy hx2 hy2 rx ry re hp hq h
    · have hq : vldR p2 q2 k k' = false := by simpa using hq
      rw [hp, hq] at h
      obtain ⟨rfl, rfl, rfl⟩ := RA.no h
      exact refRatSub_nob p q p2 q2 A A' A2 A2' n c n' c' n2 c2 n2' c2' l l' k k' w hx hy hx2 hy2 hp hq
  · have hp : vldR p q l l' = false := by simpa using hp
    rw [hp] at h
    obtain ⟨rfl, rfl, rfl⟩ := RA.no h
    exact refRatSub_noa p q p2 q2 A A' A2 A2' n c n' c' n2 c2 n2' c2' l l' k k' w hx hy hx2 hy2 hp
set_option maxHeartbeats 800000 in
set_option maxRecDepth 100000 in
theorem refRatMul_noa (p q p2 q2 : Bool) (A A' A2 A2' : Option Addr) (n c n' c' n2 c2 n2' c2' : Nat) (l l' k k' : List Nat) (w : World) (hx : Wd w (.slice A n c) l) (hy : Wd w (.slice A' n' c') l') (hx2 : Wd w (.slice A2 n2 c2) k) (hy2 : Wd w (.slice A2' n2' c2') k') (hp : vldR p q l l' = false) :
    Calls Tryz.prog 18 #[.agg #[.bool p, .slice A n c, .bool q, .slice A' n' c'], .agg #[.bool p2, .slice A2 n2 c2, .bool q2, .slice A2' n2' c2']] w (RetR w 0 0 2) := by
  obtain ⟨W0, hW0, h1, h2, r4, e0, s0⟩ := three_fb p q p2 q2 A A' A2 A2' n c n' c' n2 c2 n2' c2' l l' k k' w hx hy hx2 hy2
  have V1 := Lib.hid (validRatR_any p q A A' n c n' c' l l' W0 h1.w1 h1.w2)
  have H1 := Lib.hid h1; have H2 := Lib.hid h2; have R4 := Lib.hid r4; have E0 := Lib.hid e0; have HW0 := Lib.hid hW0
  have z0 : w.heap.size + 1 + 1 + 1 ≤ W0.heap.size := by omega
  rw [hp] at V1
  clear h1 h2 r4 e0 s0 hW0 hx hy hx2 hy2
  go_enter Tryz.func18, Tryz.ntmps18
  go_upto_region 1 with fail
  rw [← HW0.out]
  clear HW0
  have k0 := H1.out.k0; have k1 := H1.out.k1; have k2 := H1.out.k2; have k3 := H1.out.k3
  go_wp2_with fail
  refine V1.out.mono ?_
  rintro e W1 ⟨rfl, x1⟩
  replace x1 : Ext W0 W1 := x1
  have H1 := Lib.hid (H1.out.ext x1); have H2 := Lib.hid (H2.out.ext x1); have R4 := Lib.hid (R4.out.ext x1); have E1 := Lib.hid (E0.out.trans x1)
  clear x1 V1 k0 k1 k2 k3 E0
  have r4 := R4.out
  obtain ⟨_, _, _, _, k40, k41, k42, k43, k44, k45, k46, k47⟩ := put4_walk r4 (.bool false) (.slice none 0 0) (.bool false)
  obtain ⟨W', hW'⟩ : ∃ W', W' = put4 W1 (w.heap.size + 1 + 1) (.bool false) (.slice none 0 0) (.bool false) (.slice none 0 0) := ⟨_, rfl⟩
  obtain ⟨f0, f1, f2, f3⟩ := put4_cells r4 (.bool false) (.slice none 0 0) (.bool false) (.slice none 0 0)
  have hz1 := ((ZV.zero W1)).put4 r4 (.bool false) (.slice none 0 0) (.bool false) (.slice none 0 0)
  rw [← hW'] at hz1
  have hz2 := ((ZV.zero W1)).put4 r4 (.bool false) (.slice none 0 0) (.bool false) (.slice none 0 0)
  rw [← hW'] at hz2
  have hbf : Below w.heap.size w W' := by rw [hW']; exact put4_below (Ext.below E1.out) (by omega) (.bool false) (.slice none 0 0) (.bool false) (.slice none 0 0)
  rw [← hW'] at f0 f1 f2 f3
  unfold put4 at hW'
  have HG := Lib.hid (And.intro hz1 (And.intro hz2 (And.intro hbf (And.intro f0 (And.intro f1 (And.intro f2 f3))))))
  have HW' := Lib.hid hW'
  clear hz1 hz2 hbf f0 f1 f2 f3 hW'
  clear r4
  go_wp2
  rw [← HW'.out]
  obtain ⟨hz1, hz2, hbf, f0, f1, f2, f3⟩ := HG.out
  exact bodyPost_ret (v := .tuple #[.agg #[.bool false, .slice none 0 0, .bool false, .slice none 0 0], .int .i64 2]) (by simp [results, Tryz.results18, go_sem, f0, f1, f2, f3]) rfl ⟨_, _, _, _, _, _, _, _, rfl, hz1, hz2, hbf⟩
set_option maxHeartbeats 800000 in
set_option maxRecDepth 100000 in
theorem refRatMul_nob (p q p2 q2 : Bool) (A A' A2 A2' : Option Addr) (n c n' c' n2 c2 n2' c2' : Nat) (l l' k k' : List Nat) (w : World) (hx : Wd w (.slice A n c) l) (hy : Wd w (.slice A' n' c') l') (hx2 : Wd w (.slice A2 n2 c2) k) (hy2 : Wd w (.slice A2' n2' c2') k') (hp : vldR p q l l' = true) (hq : vldR p2 q2 k k' = false) :
    Calls Tryz.prog 18 #[.agg #[.bool p, .slice A n c, .bool q, .slice A' n' c'], .agg #[.bool p2, .slice A2 n2 c2, .bool q2, .slice A2' n2' c2']] w (RetR w 0 0 2) := by
  obtain ⟨W0, hW0, h1, h2, r4, e0, s0⟩ := three_fb p q p2 q2 A A' A2 A2' n c n' c' n2 c2 n2' c2' l l' k k' w hx hy hx2 hy2
  have V1 := Lib.hid (validRatR_any p q A A' n c n' c' l l' W0 h1.w1 h1.w2)
  have H1 := Lib.hid h1; have H2 := Lib.hid h2; have R4 := Lib.hid r4; have E0 := Lib.hid e0; have HW0 := Lib.hid hW0
  have z0 : w.heap.size + 1 + 1 + 1 ≤ W0.heap.size := by omega
  rw [hp] at V1
  clear h1 h2 r4 e0 s0 hW0 hx hy hx2 hy2
  go_enter Tryz.func18, Tryz.ntmps18
  go_upto_region 1 with fail
  rw [← HW0.out]
  clear HW0
  have k0 := H1.out.k0; have k1 := H1.out.k1; have k2 := H1.out.k2; have k3 := H1.out.k3
  go_wp2_with fail
  refine V1.out.mono ?_
  rintro e W1 ⟨rfl, x1⟩
  replace x1 : Ext W0 W1 := x1
  have H1 := Lib.hid (H1.out.ext x1); have H2 := Lib.hid (H2.out.ext x1); have R4 := Lib.hid (R4.out.ext x1); have E1 := Lib.hid (E0.out.trans x1)
  clear x1 V1 k0 k1 k2 k3 E0
  have V2 := Lib.hid (validRatR_any p2 q2 A2 A2' n2 c2 n2' c2' k k' W1 H2.out.w1 H2.out.w2)
  have k0 := H2.out.k0; have k1 := H2.out.k1; have k2 := H2.out.k2; have k3 := H2.out.k3
  rw [hq] at V2
  go_wp2_with fail
  refine V2.out.mono ?_
  rintro e W2 ⟨rfl, x2⟩
  replace x2 : Ext W1 W2 := x2
  have H1 := Lib.hid (H1.out.ext x2); have H2 := Lib.hid (H2.out.ext x2); have R4 := Lib.hid (R4.out.ext x2); have E2 := Lib.hid (E1.out.trans x2)
  clear x2 V2 k0 k1 k2 k3 E1
  have r4 := R4.out
  obtain ⟨_, _, _, _, k40, k41, k42, k43, k44, k45, k46, k47⟩ := put4_walk r4 (.bool false) (.slice none 0 0) (.bool false)
  obtain ⟨W', hW'⟩ : ∃ W', W' = put4 W2 (w.heap.size + 1 + 1) (.bool false) (.slice none 0 0) (.bool false) (.slice none 0 0) := ⟨_, rfl⟩
  obtain ⟨f0, f1, f2, f3⟩ := put4_cells r4 (.bool false) (.slice none 0 0) (.bool false) (.slice none 0 0)
  have hz1 := ((ZV.zero W2)).put4 r4 (.bool false) (.slice none 0 0) (.bool false) (.slice none 0 0)
  rw [← hW'] at hz1
  have hz2 := ((ZV.zero W2)).put4 r4 (.bool false) (.slice none 0 0) (.bool false) (.slice none 0 0)
  rw [← hW'] at hz2
  have hbf : Below w.heap.size w W' := by rw [hW']; exact put4_below (Ext.below E2.out) (by omega) (.bool false) (.slice none 0 0) (.bool false) (.slice none 0 0)
  rw [← hW'] at f0 f1 f2 f3
  unfold put4 at hW'
  have HG := Lib.hid (And.intro hz1 (And.intro hz2 (And.intro hbf (And.intro f0 (And.intro f1 (And.intro f2 f3))))))
  have HW' := Lib.hid hW'
  clear hz1 hz2 hbf f0 f1 f2 f3 hW'
  clear r4
  go_wp2
  rw [← HW'.out]
  obtain ⟨hz1, hz2, hbf, f0, f1, f2, f3⟩ := HG.out
  exact bodyPost_ret (v := .tuple #[.agg #[.bool false, .slice none 0 0, .bool false, .slice none 0 0], .int .i64 2]) (by simp [results, Tryz.results18, go_sem, f0, f1, f2, f3]) rfl ⟨_, _, _, _, _, _, _, _, rfl, hz1, hz2, hbf⟩
set_option maxHeartbeats 800000 in
set_option maxRecDepth 100000 in
theorem refRatMul_yes (p q p2 q2 : Bool) (A A' A2 A2' : Option Addr) (n c n' c' n2 c2 n2' c2' : Nat) (l l' k k' : List Nat) (w : World) (hx : Wd w (.slice A n c) l) (hy : Wd w (.slice A' n' c') l') (hx2 : Wd w (.slice A2 n2 c2) k) (hy2 : Wd w (.slice A2' n2' c2') k') (rx ry re : Int) (hp : vldR p q l l' = true) (hq : vldR p2 q2 k k' = true) (hra : RA true ((numOf p l * numOf p2 k) / nfg ((numOf p l * numOf p2 k)) ((numOf q l' * numOf q2 k'))) ((numOf q l' * numOf q2 k') / nfg ((numOf p l * numOf p2 k)) ((numOf q l' * numOf q2 k'))) rx ry re) :
    Calls Tryz.prog 18 #[.agg #[.bool p, .slice A n c, .bool q, .slice A' n' c'], .agg #[.bool p2, .slice A2 n2 c2, .bool q2, .slice A2' n2' c2']] w (RetR w rx ry re) := by
  obtain ⟨W0, hW0, h1, h2, r4, e0, s0⟩ := three_fb p q p2 q2 A A' A2 A2' n c n' c' n2 c2 n2' c2' l l' k k' w hx hy hx2 hy2
  have V1 := Lib.hid (validRatR_any p q A A' n c n' c' l l' W0 h1.w1 h1.w2)
  have H1 := Lib.hid h1; have H2 := Lib.hid h2; have R4 := Lib.hid r4; have E0 := Lib.hid e0; have HW0 := Lib.hid hW0
  have zz0 : w.heap.size + 1 + 1 + 1 ≤ W0.heap.size := by omega
  rw [hp] at V1
  obtain ⟨hv1, hv2, hv3, hv4⟩ := vldR_parts hp
  obtain ⟨hu1, hu2, hu3, hu4⟩ := vldR_parts hq
  obtain ⟨a1, a2⟩ := vldR_lens hp hx.ok hy.ok
  obtain ⟨b1, b2⟩ := vldR_lens hq hx2.ok hy2.ok
  obtain ⟨N, hN⟩ : ∃ N, N = (numOf p l * numOf p2 k) / nfg ((numOf p l * numOf p2 k)) ((numOf q l' * numOf q2 k')) := ⟨_, rfl⟩
  obtain ⟨D, hD⟩ : ∃ D, D = (numOf q l' * numOf q2 k') / nfg ((numOf p l * numOf p2 k)) ((numOf q l' * numOf q2 k')) := ⟨_, rfl⟩
  have HVU := Lib.hid (And.intro hv1 (And.intro hv2 (And.intro hu1 hu2)))
  rw [← hN, ← hD] at hra
  have RT := Lib.hid (fun W v (f : FV W v N D) => ratioR_any N D rx ry re v W f hra)
  have QT := Lib.hid (show ∀ W u u', FV W u (numOf p l) (numOf q l') → FV W u' (numOf p2 k) (numOf q2 k') → Calls Tryz.prog 44 #[u, u'] W (RetF W N D) from fun W u u' f g => by rw [hN, hD]; exact qtimes_any _ _ _ _ u u' W f g a2 b2 a1 b1)
  have HQ := Lib.hid hq
  clear hv1 hv2 hv3 hv4 hu1 hu2 hu3 hu4 a1 a2 b1 b2 hN hD hra
  clear h1 h2 r4 e0 s0 hW0 hx hy hx2 hy2
  go_enter Tryz.func18, Tryz.ntmps18
  go_upto_region 1 with fail
  rw [← HW0.out]
  clear HW0
  have k0 := H1.out.k0; have k1 := H1.out.k1; have k2 := H1.out.k2; have k3 := H1.out.k3
  go_wp2_with fail
  refine V1.out.mono ?_
  rintro e W1 ⟨rfl, x1⟩
  replace x1 : Ext W0 W1 := x1
  have H1 := Lib.hid (H1.out.ext x1); have H2 := Lib.hid (H2.out.ext x1); have R4 := Lib.hid (R4.out.ext x1); have E1 := Lib.hid (E0.out.trans x1)
  clear x1 V1 k0 k1 k2 k3 E0
  have V2 := Lib.hid (validRatR_any p2 q2 A2 A2' n2 c2 n2' c2' k k' W1 H2.out.w1 H2.out.w2)
  have k0 := H2.out.k0; have k1 := H2.out.k1; have k2 := H2.out.k2; have k3 := H2.out.k3
  rw [HQ.out] at V2
  go_wp2_with fail
  refine V2.out.mono ?_
  rintro e W2 ⟨rfl, x2⟩
  replace x2 : Ext W1 W2 := x2
  have H1 := Lib.hid (H1.out.ext x2); have H2 := Lib.hid (H2.out.ext x2); have R4 := Lib.hid (R4.out.ext x2); have E2 := Lib.hid (E1.out.trans x2)
  clear x2 V2 k0 k1 k2 k3 E1
  have F1 := H1.out.hf HVU.out.1 HVU.out.2.1
  have F2 := H2.out.hf HVU.out.2.2.1 HVU.out.2.2.2
  obtain ⟨vx, hvx⟩ : ∃ z, z = numOf p l := ⟨_, rfl⟩
  obtain ⟨vy, hvy⟩ : ∃ z, z = numOf q l' := ⟨_, rfl⟩
  obtain ⟨ux, hux⟩ : ∃ z, z = numOf p2 k := ⟨_, rfl⟩
  obtain ⟨uy, huy⟩ : ∃ z, z = numOf q2 k' := ⟨_, rfl⟩
  rw [← hvx, ← hvy] at F1 QT
  rw [← hux, ← huy] at F2 QT
  replace F1 := Lib.hid F1; replace F2 := Lib.hid F2
  clear hvx hvy hux huy HVU HQ
  have lr := R4.out.lt
  go_upto_region 3 with fail
  refine wp_region_noPanic ?_
  refine wp_pool 8 [some 15, some 16, some 17, some 18, some 19, some 20, some 21, some 22] [] [] [(RF2 (vx) (vy)), (RF2 (vx) (vy)), (RF2 (ux) (uy)), (RF2 (ux) (uy)), (RF2 (N) (D)), (fun (v : Value) (X : World) => ∃ b A n c b' A' n' c', v = .tuple #[.agg #[.bool b, .slice A n c, .bool b', .slice A' n' c'], .int .i64 re] ∧ ZV X (.agg #[.bool b, .slice A n c]) (rx) ∧ ZV X (.agg #[.bool b', .slice A' n' c']) (ry)), (RF2 (rx) (ry)), (fun (v : Value) (_ : World) => v = .int .i64 re)] [noF, noF, noF, noF, noF, noF, noF, noF] (by kernel_rfl) (by kernel_rfl) (by kernel_rfl) (by kernel_rfl) (by kernel_rfl) (by kernel_rfl) (by kernel_rfl) (by kernel_rfl) (fun _ _ _ _ h => h) ⟨(fun _ _ _ e ⟨b, A, n, c, b', A', n', c', h1, h2, h3⟩ => ⟨b, A, n, c, b', A', n', c', h1, h2.ext e, h3.ext e⟩), (fun _ _ _ e ⟨b, A, n, c, b', A', n', c', h1, h2, h3⟩ => ⟨b, A, n, c, b', A', n', c', h1, h2.ext e, h3.ext e⟩), (fun _ _ _ e ⟨b, A, n, c, b', A', n', c', h1, h2, h3⟩ => ⟨b, A, n, c, b', A', n', c', h1, h2.ext e, h3.ext e⟩), (fun _ _ _ e ⟨b, A, n, c, b', A', n', c', h1, h2, h3⟩ => ⟨b, A, n, c, b', A', n', c', h1, h2.ext e, h3.ext e⟩), (fun _ _ _ e ⟨b, A, n, c, b', A', n', c', h1, h2, h3⟩ => ⟨b, A, n, c, b', A', n', c', h1, h2.ext e, h3.ext e⟩), (fun _ _ _ e ⟨b, A, n, c, b', A', n', c', h1, h2, h3⟩ => ⟨b, A, n, c, b', A', n', c', h1, h2.ext e, h3.ext e⟩), (fun _ _ _ e ⟨b, A, n, c, b', A', n', c', h1, h2, h3⟩ => ⟨b, A, n, c, b', A', n', c', h1, h2.ext e, h3.ext e⟩), Stays.pure _, True.intro⟩ ?steps ?done
  case steps =>
    simp only [List.take_succ_cons, List.take_zero]
    refine Steps.cons (RF2 (vx) (vy)) [] rfl (by kernel_rfl) rfl (by kernel_rfl) (fun y X ex0 hf K hK => ?_) ?_
    · clear hf
      have ex := (Ext.drw (Ext.refl _)).trans ex0
      refine Box.mk ?_
      simp only [fill, Act.put, Nat.reduceAdd, List.setIfInBounds_toArray, List.set_cons_zero, List.set_cons_succ] at hK ⊢
      obtain ⟨⟨bl, Al, nl, cl, k0, k1, kz⟩, ⟨bm, Am, nm, cm, k2, k3, ky⟩⟩ := (F1.out.ext ex)
      go_simp
      exact hK.out _ _ ⟨_, _, _, _, _, _, _, _, rfl, kz, ky⟩ (Ext.refl _) (fun b hb => by cases hb)
    refine Steps.cons (RF2 (vx) (vy)) [0] rfl (by kernel_rfl) rfl (by kernel_rfl) (fun y X ex0 hf K hK => ?_) ?_
    · obtain ⟨b0, A0, n0, c0, bb0, AA0, nn0, cc0, h0, z0, y0⟩ : ((RF2 (vx) (vy))) (y 0) X := hf.1
      clear hf
      have ex := (Ext.drw (Ext.refl _)).trans ex0
      refine Box.mk ?_
      simp only [fill, Act.put, Nat.reduceAdd, List.setIfInBounds_toArray, List.set_cons_zero, List.set_cons_succ, h0] at hK ⊢
      go_simp
      refine (ofRat_any _ _ _ _ (fv_mk z0 y0)).mono ?_
      rintro e V ⟨b9, A9, n9, c9, b8, A8, n8, c8, rfl, hz, hy, hb⟩
      try go_wp2_with fail
      exact hK.out _ _ ⟨_, _, _, _, _, _, _, _, rfl, hz, hy⟩ hb (fun b hb => by cases hb)
    refine Steps.cons (RF2 (ux) (uy)) [] rfl (by kernel_rfl) rfl (by kernel_rfl) (fun y X ex0 hf K hK => ?_) ?_
    · clear hf
      have ex := (Ext.drw (Ext.refl _)).trans ex0
      refine Box.mk ?_
      simp only [fill, Act.put, Nat.reduceAdd, List.setIfInBounds_toArray, List.set_cons_zero, List.set_cons_succ] at hK ⊢
      obtain ⟨⟨bl, Al, nl, cl, k0, k1, kz⟩, ⟨bm, Am, nm, cm, k2, k3, ky⟩⟩ := (F2.out.ext ex)
      go_simp
      exact hK.out _ _ ⟨_, _, _, _, _, _, _, _, rfl, kz, ky⟩ (Ext.refl _) (fun b hb => by cases hb)
    refine Steps.cons (RF2 (ux) (uy)) [2, 1] rfl (by kernel_rfl) rfl (by kernel_rfl) (fun y X ex0 hf K hK => ?_) ?_
    · obtain ⟨b2, A2, n2, c2, bb2, AA2, nn2, cc2, h2, z2, y2⟩ : ((RF2 (ux) (uy))) (y 2) X := hf.1
      obtain ⟨b1, A1, n1, c1, bb1, AA1, nn1, cc1, h1, z1, y1⟩ : ((RF2 (vx) (vy))) (y 1) X := hf.2.1
      clear hf
      have ex := (Ext.drw (Ext.refl _)).trans ex0
      refine Box.mk ?_
      simp only [fill, Act.put, Nat.reduceAdd, List.setIfInBounds_toArray, List.set_cons_zero, List.set_cons_succ, h2, h1] at hK ⊢
      go_simp
      refine (ofRat_any _ _ _ _ (fv_mk z2 y2)).mono ?_
      rintro e V ⟨b9, A9, n9, c9, b8, A8, n8, c8, rfl, hz, hy, hb⟩
      try go_wp2_with fail
      exact hK.out _ _ ⟨_, _, _, _, _, _, _, _, rfl, hz, hy⟩ hb (fun b hb => by cases hb)
    refine Steps.cons (RF2 (N) (D)) [1, 3] rfl (by kernel_rfl) rfl (by kernel_rfl) (fun y X ex0 hf K hK => ?_) ?_
    · obtain ⟨b1, A1, n1, c1, bb1, AA1, nn1, cc1, h1, z1, y1⟩ : ((RF2 (vx) (vy))) (y 1) X := hf.1
      obtain ⟨b3, A3, n3, c3, bb3, AA3, nn3, cc3, h3, z3, y3⟩ : ((RF2 (ux) (uy))) (y 3) X := hf.2.1
      clear hf
      have ex := (Ext.drw (Ext.refl _)).trans ex0
      refine Box.mk ?_
      simp only [fill, Act.put, Nat.reduceAdd, List.setIfInBounds_toArray, List.set_cons_zero, List.set_cons_succ, h1, h3] at hK ⊢
      go_simp
      refine (QT.out _ _ _ (fv_mk z1 y1) (fv_mk z3 y3)).mono ?_
      rintro e V ⟨b9, A9, n9, c9, b8, A8, n8, c8, rfl, hz, hy, hb⟩
      try go_wp2_with fail
      exact hK.out _ _ ⟨_, _, _, _, _, _, _, _, rfl, hz, hy⟩ hb (fun b hb => by cases hb)
    refine Steps.cons (fun (v : Value) (X : World) => ∃ b A n c b' A' n' c', v = .tuple #[.agg #[.bool b, .slice A n c, .bool b', .slice A' n' c'], .int .i64 re] ∧ ZV X (.agg #[.bool b, .slice A n c]) (rx) ∧ ZV X (.agg #[.bool b', .slice A' n' c']) (ry)) [4] rfl (by kernel_rfl) rfl (by kernel_rfl) (fun y X ex0 hf K hK => ?_) ?_
    · obtain ⟨b4, A4, n4, c4, bb4, AA4, nn4, cc4, h4, z4, y4⟩ : ((RF2 (N) (D))) (y 4) X := hf.1
      clear hf
      have ex := (Ext.drw (Ext.refl _)).trans ex0
      refine Box.mk ?_
      simp only [fill, Act.put, Nat.reduceAdd, List.setIfInBounds_toArray, List.set_cons_zero, List.set_cons_succ, h4] at hK ⊢
      go_simp
      refine (RT.out _ _ (fv_mk z4 y4)).mono ?_
      rintro e V ⟨b9, A9, n9, c9, b8, A8, n8, c8, rfl, hz, hy, hb⟩
      try go_wp2_with fail
      exact hK.out _ _ ⟨_, _, _, _, _, _, _, _, rfl, hz, hy⟩ hb (fun b hb => by cases hb)
    refine Steps.cons (RF2 (rx) (ry)) [5] rfl (by kernel_rfl) rfl (by kernel_rfl) (fun y X ex0 hf K hK => ?_) ?_
    · obtain ⟨b5, A5, n5, c5, bb5, AA5, nn5, cc5, h5, z5, y5⟩ : ((fun (v : Value) (X : World) => ∃ b A n c b' A' n' c', v = .tuple #[.agg #[.bool b, .slice A n c, .bool b', .slice A' n' c'], .int .i64 re] ∧ ZV X (.agg #[.bool b, .slice A n c]) (rx) ∧ ZV X (.agg #[.bool b', .slice A' n' c']) (ry))) (y 5) X := hf.1
      clear hf
      have ex := (Ext.drw (Ext.refl _)).trans ex0
      refine Box.mk ?_
      simp only [fill, Act.put, Nat.reduceAdd, List.setIfInBounds_toArray, List.set_cons_zero, List.set_cons_succ, h5] at hK ⊢
      go_simp
      exact hK.out _ _ ⟨_, _, _, _, _, _, _, _, rfl, z5, y5⟩ (Ext.refl _) (fun b hb => by cases hb)
    refine Steps.cons (fun (v : Value) (_ : World) => v = .int .i64 re) [5] rfl (by kernel_rfl) rfl (by kernel_rfl) (fun y X ex0 hf K hK => ?_) ?_
    · obtain ⟨b5, A5, n5, c5, bb5, AA5, nn5, cc5, h5, z5, y5⟩ : ((fun (v : Value) (X : World) => ∃ b A n c b' A' n' c', v = .tuple #[.agg #[.bool b, .slice A n c, .bool b', .slice A' n' c'], .int .i64 re] ∧ ZV X (.agg #[.bool b, .slice A n c]) (rx) ∧ ZV X (.agg #[.bool b', .slice A' n' c']) (ry))) (y 5) X := hf.1
      clear hf
      have ex := (Ext.drw (Ext.refl _)).trans ex0
      refine Box.mk ?_
      simp only [fill, Act.put, Nat.reduceAdd, List.setIfInBounds_toArray, List.set_cons_zero, List.set_cons_succ, h5] at hK ⊢
      go_simp
      exact hK.out _ _ rfl (Ext.refl _) (fun b hb => by cases hb)
    exact Steps.nil
  case done =>
    intro y X ex hf hlt hsep
    obtain ⟨b0, A0, n0, c0, bb0, AA0, nn0, cc0, h0, z0, y0⟩ : ((RF2 (vx) (vy))) (y 0) X := hf.1
    obtain ⟨b1, A1, n1, c1, bb1, AA1, nn1, cc1, h1, z1, y1⟩ : ((RF2 (vx) (vy))) (y 1) X := hf.2.1
    obtain ⟨b2, A2, n2, c2, bb2, AA2, nn2, cc2, h2, z2, y2⟩ : ((RF2 (ux) (uy))) (y 2) X := hf.2.2.1
    obtain ⟨b3, A3, n3, c3, bb3, AA3, nn3, cc3, h3, z3, y3⟩ : ((RF2 (ux) (uy))) (y 3) X := hf.2.2.2.1
    obtain ⟨b4, A4, n4, c4, bb4, AA4, nn4, cc4, h4, z4, y4⟩ : ((RF2 (N) (D))) (y 4) X := hf.2.2.2.2.1
    obtain ⟨b5, A5, n5, c5, bb5, AA5, nn5, cc5, h5, z5, y5⟩ : ((fun (v : Value) (X : World) => ∃ b A n c b' A' n' c', v = .tuple #[.agg #[.bool b, .slice A n c, .bool b', .slice A' n' c'], .int .i64 re] ∧ ZV X (.agg #[.bool b, .slice A n c]) (rx) ∧ ZV X (.agg #[.bool b', .slice A' n' c']) (ry))) (y 5) X := hf.2.2.2.2.2.1
    obtain ⟨b6, A6, n6, c6, bb6, AA6, nn6, cc6, h6, z6, y6⟩ : ((RF2 (rx) (ry))) (y 6) X := hf.2.2.2.2.2.2.1
    have h7 : ((fun (v : Value) (_ : World) => v = .int .i64 re)) (y 7) X := hf.2.2.2.2.2.2.2.1
    clear hf
    clear hsep hlt
    refine Box.mk ?_
    simp only [List.drop_succ_cons, List.drop_zero, fill, Act.put, Nat.reduceAdd, List.setIfInBounds_toArray, List.set_cons_zero, List.set_cons_succ, h0, h1, h2, h3, h4, h5, h6, h7]
    clear h0 h1 h2 h3 h4 h5 h6 h7
    have r4 := R4.out.ext ex
    obtain ⟨_, _, _, _, k40, k41, k42, k43, k44, k45, k46, k47⟩ := put4_walk r4 (.bool b6) (.slice A6 n6 c6) (.bool bb6)
    obtain ⟨W', hW'⟩ : ∃ W', W' = put4 X (w.heap.size + 1 + 1) (.bool b6) (.slice A6 n6 c6) (.bool bb6) (.slice AA6 nn6 cc6) := ⟨_, rfl⟩
    obtain ⟨f0, f1, f2, f3⟩ := put4_cells r4 (.bool b6) (.slice A6 n6 c6) (.bool bb6) (.slice AA6 nn6 cc6)
    have hz1 := (z6).put4 r4 (.bool b6) (.slice A6 n6 c6) (.bool bb6) (.slice AA6 nn6 cc6)
    rw [← hW'] at hz1
    have hz2 := (y6).put4 r4 (.bool b6) (.slice A6 n6 c6) (.bool bb6) (.slice AA6 nn6 cc6)
    rw [← hW'] at hz2
    have hbf : Below w.heap.size w W' := by rw [hW']; exact put4_below (Ext.below (E2.out.trans ex)) (by omega) (.bool b6) (.slice A6 n6 c6) (.bool bb6) (.slice AA6 nn6 cc6)
    rw [← hW'] at f0 f1 f2 f3
    unfold put4 at hW'
    have HG := Lib.hid (And.intro hz1 (And.intro hz2 (And.intro hbf (And.intro f0 (And.intro f1 (And.intro f2 f3))))))
    have HW' := Lib.hid hW'
    clear hz1 hz2 hbf f0 f1 f2 f3 hW'
    clear ex r4 z0 y0 z1 y1 z2 y2 z3 y3 z4 y4 z5 y5 z6 y6
    go_wp2_with fail
    refine NoPanic.normal ?_
    go_wp2
    rw [← HW'.out]
    obtain ⟨hz1, hz2, hbf, f0, f1, f2, f3⟩ := HG.out
    exact bodyPost_ret (v := .tuple #[.agg #[.bool b6, .slice A6 n6 c6, .bool bb6, .slice AA6 nn6 cc6], .int .i64 re]) (by simp [results, Tryz.results18, go_sem, f0, f1, f2, f3]) rfl ⟨_, _, _, _, _, _, _, _, rfl, hz1, hz2, hbf⟩
theorem refRatMul_u (p q p2 q2 : Bool) (A A' A2 A2' : Option Addr) (n c n' c' n2 c2 n2' c2' : Nat) (l l' k k' : List Nat) (w : World) (hx : Wd w (.slice A n c) l) (hy : Wd w (.slice A' n' c') l') (hx2 : Wd w (.slice A2 n2 c2) k) (hy2 : Wd w (.slice A2' n2' c2') k') (rx ry re : Int) (h : RA (vldR p q l l' && vldR p2 q2 k k') ((numOf p l * numOf p2 k) / nfg ((numOf p l * numOf p2 k)) ((numOf q l' * numOf q2 k'))) ((numOf q l' * numOf q2 k') / nfg ((numOf p l * numOf p2 k)) ((numOf q l' * numOf q2 k'))) rx ry re) :
    Calls Tryz.prog 18 #[.agg #[.bool p, .slice A n c, .bool q, .slice A' n' c'], .agg #[.bool p2, .slice A2 n2 c2, .bool q2, .slice A2' n2' c2']] w (RetR w rx ry re) := by
  by_cases hp : vldR p q l l' = true
  · by_cases hq : vldR p2 q2 k k' = true
    · rw [hp, hq] at h
      exact refRatMul_yes p q p2 q2 A A' A2 A2' n c n' c' n2 c2 n2' c2' l l' k k' w hx hy hx2 hy2 rx ry re hp hq h
    · have hq : vldR p2 q2 k k' = false := by simpa using hq
      rw [hp, hq] at h
      obtain ⟨rfl, rfl, rfl⟩ := RA.no h
      exact refRatMul_nob p q p2 q2 A A' A2 A2' n c n' c' n2 c2 n2' c2' l l' k k' w hx hy hx2 hy2 hp hq
  · have hp : vldR p q l l' = false := by simpa using hp
    rw [hp] at h
    obtain ⟨rfl, rfl, rfl⟩ := RA.no h
    exact refRatMul_noa p q p2 q2 A A' A2 A2' n c n' c' n2 c2 n2' c2' l l' k k' w hx hy hx2 hy2 hp
set_option maxHeartbeats 800000 in
set_option maxRecDepth 100000 in
theorem refRatDiv_noa (p q p2 q2 : Bool) (A A' A2 A2' : Option Addr) (n c n' c' n2 c2 n2' c2' : Nat) (l l' k k' : List Nat) (w : World) (hx : Wd w (.slice A n c) l) (hy : Wd w (.slice A' n' c') l') (hx2 : Wd w (.slice A2 n2 c2) k) (hy2 : Wd w (.slice A2' n2' c2') k') (hp : vldR p q l l' = false) :
    Calls Tryz.prog 20 #[.agg #[.bool p, .slice A n c, .bool q, .slice A' n' c'], .agg #[.bool p2, .slice A2 n2 c2, .bool q2, .slice A2' n2' c2']] w (RetR w 0 0 2) := by
  obtain ⟨W0, hW0, h1, h2, r4, e0, s0⟩ := three_fb p q p2 q2 A A' A2 A2' n c n' c' n2 c2 n2' c2' l l' k k' w hx hy hx2 hy2
  have V1 := Lib.hid (validRatR_any p q A A' n c n' c' l l' W0 h1.w1 h1.w2)
  have H1 := Lib.hid h1; have H2 := Lib.hid h2; have R4 := Lib.hid r4; have E0 := Lib.hid e0; have HW0 := Lib.hid hW0
  have z0 : w.heap.size + 1 + 1 + 1 ≤ W0.heap.size := by omega
  rw [hp] at V1
  clear h1 h2 r4 e0 s0 hW0 hx hy hx2 hy2
  go_enter Tryz.func20, Tryz.ntmps20
  go_upto_region 1 with fail
  rw [← HW0.out]
  clear HW0
  have k0 := H1.out.k0; have k1 := H1.out.k1; have k2 := H1.out.k2; have k3 := H1.out.k3
  go_wp2_with fail
  refine V1.out.mono ?_
  rintro e W1 ⟨rfl, x1⟩
  replace x1 : Ext W0 W1 := x1
  have H1 := Lib.hid (H1.out.ext x1); have H2 := Lib.hid (H2.out.ext x1); have R4 := Lib.hid (R4.out.ext x1); have E1 := Lib.hid (E0.out.trans x1)
  clear x1 V1 k0 k1 k2 k3 E0
  have r4 := R4.out
  obtain ⟨_, _, _, _, k40, k41, k42, k43, k44, k45, k46, k47⟩ := put4_walk r4 (.bool false) (.slice none 0 0) (.bool false)
  obtain ⟨W', hW'⟩ : ∃ W', W' = put4 W1 (w.heap.size + 1 + 1) (.bool false) (.slice none 0 0) (.bool false) (.slice none 0 0) := ⟨_, rfl⟩
  obtain ⟨f0, f1, f2, f3⟩ := put4_cells r4 (.bool false) (.slice none 0 0) (.bool false) (.slice none 0 0)
  have hz1 := ((ZV.zero W1)).put4 r4 (.bool false) (.slice none 0 0) (.bool false) (.slice none 0 0)
  rw [← hW'] at hz1
  have hz2 := ((ZV.zero W1)).put4 r4 (.bool false) (.slice none 0 0) (.bool false) (.slice none 0 0)
  rw [← hW'] at hz2
  have hbf : Below w.heap.size w W' := by rw [hW']; exact put4_below (Ext.below E1.out) (by omega) (.bool false) (.slice none 0 0) (.bool false) (.slice none 0 0)
  rw [← hW'] at f0 f1 f2 f3
  unfold put4 at hW'
  have HG := Lib.hid (And.intro hz1 (And.intro hz2 (And.intro hbf (And.intro f0 (And.intro f1 (And.intro f2 f3))))))
  have HW' := Lib.hid hW'
  clear hz1 hz2 hbf f0 f1 f2 f3 hW'
  clear r4
  go_wp2
  rw [← HW'.out]
  obtain ⟨hz1, hz2, hbf, f0, f1, f2, f3⟩ := HG.out
  exact bodyPost_ret (v := .tuple #[.agg #[.bool false, .slice none 0 0, .bool false, .slice none 0 0], .int .i64 2]) (by simp [results, Tryz.results20, go_sem, f0, f1, f2, f3]) rfl ⟨_, _, _, _, _, _, _, _, rfl, hz1, hz2, hbf⟩
set_option maxHeartbeats 800000 in
set_option maxRecDepth 100000 in
theorem refRatDiv_nob (p q p2 q2 : Bool) (A A' A2 A2' : Option Addr) (n c n' c' n2 c2 n2' c2' : Nat) (l l' k k' : List Nat) (w : World) (hx : Wd w (.slice A n c) l) (hy : Wd w (.slice A' n' c') l') (hx2 : Wd w (.slice A2 n2 c2) k) (hy2 : Wd w (.slice A2' n2' c2') k') (hp : vldR p q l l' = true) (hq : vldR p2 q2 k k' = false) :
    Calls Tryz.prog 20 #[.agg #[.bool p, .slice A n c, .bool q, .slice A' n' c'], .agg #[.bool p2, .slice A2 n2 c2, .bool q2, .slice A2' n2' c2']] w (RetR w 0 0 2) := by
  obtain ⟨W0, hW0, h1, h2, r4, e0, s0⟩ := three_fb p q p2 q2 A A' A2 A2' n c n' c' n2 c2 n2' c2' l l' k k' w hx hy hx2 hy2
  have V1 := Lib.hid (validRatR_any p q A A' n c n' c' l l' W0 h1.w1 h1.w2)
  have H1 := Lib.hid h1; have H2 := Lib.hid h2; have R4 := Lib.hid r4; have E0 := Lib.hid e0; have HW0 := Lib.hid hW0
  have z0 : w.heap.size + 1 + 1 + 1 ≤ W0.heap.size := by omega
  rw [hp] at V1
  clear h1 h2 r4 e0 s0 hW0 hx hy hx2 hy2
  go_enter Tryz.func20, Tryz.ntmps20
  go_upto_region 1 with fail
  rw [← HW0.out]
  clear HW0
  have k0 := H1.out.k0; have k1 := H1.out.k1; have k2 := H1.out.k2; have k3 := H1.out.k3
  go_wp2_with fail
  refine V1.out.mono ?_
  rintro e W1 ⟨rfl, x1⟩
  replace x1 : Ext W0 W1 := x1
  have H1 := Lib.hid (H1.out.ext x1); have H2 := Lib.hid (H2.out.ext x1); have R4 := Lib.hid (R4.out.ext x1); have E1 := Lib.hid (E0.out.trans x1)
  clear x1 V1 k0 k1 k2 k3 E0
  have V2 := Lib.hid (validRatR_any p2 q2 A2 A2' n2 c2 n2' c2' k k' W1 H2.out.w1 H2.out.w2)
  have k0 := H2.out.k0; have k1 := H2.out.k1; have k2 := H2.out.k2; have k3 := H2.out.k3
  rw [hq] at V2
  go_wp2_with fail
  refine V2.out.mono ?_
  rintro e W2 ⟨rfl, x2⟩
  replace x2 : Ext W1 W2 := x2
  have H1 := Lib.hid (H1.out.ext x2); have H2 := Lib.hid (H2.out.ext x2); have R4 := Lib.hid (R4.out.ext x2); have E2 := Lib.hid (E1.out.trans x2)
  clear x2 V2 k0 k1 k2 k3 E1
  have r4 := R4.out
  obtain ⟨_, _, _, _, k40, k41, k42, k43, k44, k45, k46, k47⟩ := put4_walk r4 (.bool false) (.slice none 0 0) (.bool false)
  obtain ⟨W', hW'⟩ : ∃ W', W' = put4 W2 (w.heap.size + 1 + 1) (.bool false) (.slice none 0 0) (.bool false) (.slice none 0 0) := ⟨_, rfl⟩
  obtain ⟨f0, f1, f2, f3⟩ := put4_cells r4 (.bool false) (.slice none 0 0) (.bool false) (.slice none 0 0)
  have hz1 := ((ZV.zero W2)).put4 r4 (.bool false) (.slice none 0 0) (.bool false) (.slice none 0 0)
  rw [← hW'] at hz1
  have hz2 := ((ZV.zero W2)).put4 r4 (.bool false) (.slice none 0 0) (.bool false) (.slice none 0 0)
  rw [← hW'] at hz2
  have hbf : Below w.heap.size w W' := by rw [hW']; exact put4_below (Ext.below E2.out) (by omega) (.bool false) (.slice none 0 0) (.bool false) (.slice none 0 0)
  rw [← hW'] at f0 f1 f2 f3
  unfold put4 at hW'
  have HG := Lib.hid (And.intro hz1 (And.intro hz2 (And.intro hbf (And.intro f0 (And.intro f1 (And.intro f2 f3))))))
  have HW' := Lib.hid hW'
  clear hz1 hz2 hbf f0 f1 f2 f3 hW'
  clear r4
  go_wp2
  rw [← HW'.out]
  obtain ⟨hz1, hz2, hbf, f0, f1, f2, f3⟩ := HG.out
  exact bodyPost_ret (v := .tuple #[.agg #[.bool false, .slice none 0 0, .bool false, .slice none 0 0], .int .i64 2]) (by simp [results, Tryz.results20, go_sem, f0, f1, f2, f3]) rfl ⟨_, _, _, _, _, _, _, _, rfl, hz1, hz2, hbf⟩
set_option maxHeartbeats 800000 in
set_option maxRecDepth 100000 in
theorem refRatDiv_zero (p q p2 q2 : Bool) (A A' A2 A2' : Option Addr) (n c n' c' n2 c2 n2' c2' : Nat) (l l' k k' : List Nat) (w : World) (hx : Wd w (.slice A n c) l) (hy : Wd w (.slice A' n' c') l') (hx2 : Wd w (.slice A2 n2 c2) k) (hy2 : Wd w (.slice A2' n2' c2') k') (hp : vldR p q l l' = true) (hq : vldR p2 q2 k k' = true) (h0 : numOf p2 k = 0) :
    Calls Tryz.prog 20 #[.agg #[.bool p, .slice A n c, .bool q, .slice A' n' c'], .agg #[.bool p2, .slice A2 n2 c2, .bool q2, .slice A2' n2' c2']] w (RetR w 0 0 4) := by
  obtain ⟨W0, hW0, h1, h2, r4, e0, s0⟩ := three_fb p q p2 q2 A A' A2 A2' n c n' c' n2 c2 n2' c2' l l' k k' w hx hy hx2 hy2
  have V1 := Lib.hid (validRatR_any p q A A' n c n' c' l l' W0 h1.w1 h1.w2)
  have H1 := Lib.hid h1; have H2 := Lib.hid h2; have R4 := Lib.hid r4; have E0 := Lib.hid e0; have HW0 := Lib.hid hW0
  have z0 : w.heap.size + 1 + 1 + 1 ≤ W0.heap.size := by omega
  rw [hp] at V1
  have hu1 := (vldR_parts hq).1
  have OF := Lib.hid (fun (W : World) (h : ZV W (.agg #[.bool p2, .slice A2 n2 c2]) 0) => (show Calls Tryz.prog 59 #[.agg #[.bool p2, .slice A2 n2 c2]] W fun e w' => e = .returned (.bool true) ∧ Ext W w' from zeroR_any 0 _ W h))
  clear h1 h2 r4 e0 s0 hW0 hx hy hx2 hy2
  go_enter Tryz.func20, Tryz.ntmps20
  go_upto_region 1 with fail
  rw [← HW0.out]
  clear HW0
  have k0 := H1.out.k0; have k1 := H1.out.k1; have k2 := H1.out.k2; have k3 := H1.out.k3
  go_wp2_with fail
  refine V1.out.mono ?_
  rintro e W1 ⟨rfl, x1⟩
  replace x1 : Ext W0 W1 := x1
  have H1 := Lib.hid (H1.out.ext x1); have H2 := Lib.hid (H2.out.ext x1); have R4 := Lib.hid (R4.out.ext x1); have E1 := Lib.hid (E0.out.trans x1)
  clear x1 V1 k0 k1 k2 k3 E0
  have V2 := Lib.hid (validRatR_any p2 q2 A2 A2' n2 c2 n2' c2' k k' W1 H2.out.w1 H2.out.w2)
  have k0 := H2.out.k0; have k1 := H2.out.k1; have k2 := H2.out.k2; have k3 := H2.out.k3
  rw [hq] at V2
  go_wp2_with fail
  refine V2.out.mono ?_
  rintro e W2 ⟨rfl, x2⟩
  replace x2 : Ext W1 W2 := x2
  have H1 := Lib.hid (H1.out.ext x2); have H2 := Lib.hid (H2.out.ext x2); have R4 := Lib.hid (R4.out.ext x2); have E2 := Lib.hid (E1.out.trans x2)
  clear x2 V2 k0 k1 k2 k3 E1
  have zc := Lib.hid (show ZV W2 (.agg #[.bool p2, .slice A2 n2 c2]) 0 by have := vld_zv H2.out.w1 hu1; rwa [h0] at this)
  clear hu1 h0
  go_upto_region 3 with fail
  have k0 := H2.out.k0; have k1 := H2.out.k1; have k2 := H2.out.k2; have k3 := H2.out.k3
  go_wp2_with fail
  refine (of_any p2 A2 n2 c2 _).mono ?_
  rintro e W3 ⟨rfl, x3⟩
  replace x3 : Ext W2 W3 := x3
  have ZC := Lib.hid (OF.out _ (zc.out.ext x3))
  have X3 := Lib.hid x3
  clear x3 k0 k1 k2 k3
  go_wp2_with fail
  refine ZC.out.mono ?_
  rintro e W4 ⟨rfl, x4⟩
  replace x4 : Ext W3 W4 := x4
  have x24 := X3.out.trans x4
  have R4 := Lib.hid (R4.out.ext x24); have E4 := Lib.hid (E2.out.trans x24)
  clear x4 x24 ZC X3
  have r4 := R4.out
  obtain ⟨_, _, _, _, k40, k41, k42, k43, k44, k45, k46, k47⟩ := put4_walk r4 (.bool false) (.slice none 0 0) (.bool false)
  obtain ⟨W', hW'⟩ : ∃ W', W' = put4 W4 (w.heap.size + 1 + 1) (.bool false) (.slice none 0 0) (.bool false) (.slice none 0 0) := ⟨_, rfl⟩
  obtain ⟨f0, f1, f2, f3⟩ := put4_cells r4 (.bool false) (.slice none 0 0) (.bool false) (.slice none 0 0)
  have hz1 := ((ZV.zero W4)).put4 r4 (.bool false) (.slice none 0 0) (.bool false) (.slice none 0 0)
  rw [← hW'] at hz1
  have hz2 := ((ZV.zero W4)).put4 r4 (.bool false) (.slice none 0 0) (.bool false) (.slice none 0 0)
  rw [← hW'] at hz2
  have hbf : Below w.heap.size w W' := by rw [hW']; exact put4_below (Ext.below E4.out) (by omega) (.bool false) (.slice none 0 0) (.bool false) (.slice none 0 0)
  rw [← hW'] at f0 f1 f2 f3
  unfold put4 at hW'
  have HG := Lib.hid (And.intro hz1 (And.intro hz2 (And.intro hbf (And.intro f0 (And.intro f1 (And.intro f2 f3))))))
  have HW' := Lib.hid hW'
  clear hz1 hz2 hbf f0 f1 f2 f3 hW'
  clear r4
  go_wp2
  rw [← HW'.out]
  obtain ⟨hz1, hz2, hbf, f0, f1, f2, f3⟩ := HG.out
  exact bodyPost_ret (v := .tuple #[.agg #[.bool false, .slice none 0 0, .bool false, .slice none 0 0], .int .i64 4]) (by simp [results, Tryz.results20, go_sem, f0, f1, f2, f3]) rfl ⟨_, _, _, _, _, _, _, _, rfl, hz1, hz2, hbf⟩
set_option maxHeartbeats 800000 in
set_option maxRecDepth 100000 in
theorem refRatDiv_yes (p q p2 q2 : Bool) (A A' A2 A2' : Option Addr) (n c n' c' n2 c2 n2' c2' : Nat) (l l' k k' : List Nat) (w : World) (hx : Wd w (.slice A n c) l) (hy : Wd w (.slice A' n' c') l') (hx2 : Wd w (.slice A2 n2 c2) k) (hy2 : Wd w (.slice A2' n2' c2') k') (rx ry re : Int) (hp : vldR p q l l' = true) (hq : vldR p2 q2 k k' = true) (h0 : numOf p2 k ≠ 0) (hra : RA true ((numOf p l * numOf q2 k') / nfg ((numOf p l * numOf q2 k')) ((numOf q l' * numOf p2 k))) ((numOf q l' * numOf p2 k) / nfg ((numOf p l * numOf q2 k')) ((numOf q l' * numOf p2 k))) rx ry re) :
    Calls Tryz.prog 20 #[.agg #[.bool p, .slice A n c, .bool q, .slice A' n' c'], .agg #[.bool p2, .slice A2 n2 c2, .bool q2, .slice A2' n2' c2']] w (RetR w rx ry re) := by
  obtain ⟨W0, hW0, h1, h2, r4, e0, s0⟩ := three_fb p q p2 q2 A A' A2 A2' n c n' c' n2 c2 n2' c2' l l' k k' w hx hy hx2 hy2
  have V1 := Lib.hid (validRatR_any p q A A' n c n' c' l l' W0 h1.w1 h1.w2)
  have H1 := Lib.hid h1; have H2 := Lib.hid h2; have R4 := Lib.hid r4; have E0 := Lib.hid e0; have HW0 := Lib.hid hW0
  have zz0 : w.heap.size + 1 + 1 + 1 ≤ W0.heap.size := by omega
  rw [hp] at V1
  obtain ⟨hv1, hv2, hv3, hv4⟩ := vldR_parts hp
  obtain ⟨hu1, hu2, hu3, hu4⟩ := vldR_parts hq
  obtain ⟨a1, a2⟩ := vldR_lens hp hx.ok hy.ok
  obtain ⟨b1, b2⟩ := vldR_lens hq hx2.ok hy2.ok
  obtain ⟨N, hN⟩ : ∃ N, N = (numOf p l * numOf q2 k') / nfg ((numOf p l * numOf q2 k')) ((numOf q l' * numOf p2 k)) := ⟨_, rfl⟩
  obtain ⟨D, hD⟩ : ∃ D, D = (numOf q l' * numOf p2 k) / nfg ((numOf p l * numOf q2 k')) ((numOf q l' * numOf p2 k)) := ⟨_, rfl⟩
  have HVU := Lib.hid (And.intro hv1 (And.intro hv2 (And.intro hu1 hu2)))
  rw [← hN, ← hD] at hra
  have RT := Lib.hid (fun W v (f : FV W v N D) => ratioR_any N D rx ry re v W f hra)
  have QT := Lib.hid (show ∀ W u u', FV W u (numOf p l) (numOf q l') → FV W u' (numOf p2 k) (numOf q2 k') → Calls Tryz.prog 61 #[u, u'] W (RetF W N D) from fun W u u' f g => by rw [hN, hD]; exact qover_any _ _ _ _ u u' W f g a2 b2 a1 h0)
  have HQ := Lib.hid hq
  have OF := Lib.hid (fun (W : World) (h : ZV W (.agg #[.bool p2, .slice A2 n2 c2]) (numOf p2 k)) => (show Calls Tryz.prog 59 #[.agg #[.bool p2, .slice A2 n2 c2]] W fun e w' => e = .returned (.bool false) ∧ Ext W w' by have := zeroR_any (numOf p2 k) _ W h; rwa [decide_eq_false h0] at this))
  clear hv1 hv2 hv3 hv4 hu1 hu2 hu3 hu4 a1 a2 b1 b2 hN hD hra
  clear h1 h2 r4 e0 s0 hW0 hx hy hx2 hy2
  go_enter Tryz.func20, Tryz.ntmps20
  go_upto_region 1 with fail
  rw [← HW0.out]
  clear HW0
  have k0 := H1.out.k0; have k1 := H1.out.k1; have k2 := H1.out.k2; have k3 := H1.out.k3
  go_wp2_with fail
  refine V1.out.mono ?_
  rintro e W1 ⟨rfl, x1⟩
  replace x1 : Ext W0 W1 := x1
  have H1 := Lib.hid (H1.out.ext x1); have H2 := Lib.hid (H2.out.ext x1); have R4 := Lib.hid (R4.out.ext x1); have E1 := Lib.hid (E0.out.trans x1)
  clear x1 V1 k0 k1 k2 k3 E0
  have V2 := Lib.hid (validRatR_any p2 q2 A2 A2' n2 c2 n2' c2' k k' W1 H2.out.w1 H2.out.w2)
  have k0 := H2.out.k0; have k1 := H2.out.k1; have k2 := H2.out.k2; have k3 := H2.out.k3
  rw [HQ.out] at V2
  go_wp2_with fail
  refine V2.out.mono ?_
  rintro e W2 ⟨rfl, x2⟩
  replace x2 : Ext W1 W2 := x2
  have H1 := Lib.hid (H1.out.ext x2); have H2 := Lib.hid (H2.out.ext x2); have R4 := Lib.hid (R4.out.ext x2); have E2 := Lib.hid (E1.out.trans x2)
  clear x2 V2 k0 k1 k2 k3 E1
  have zc := Lib.hid (vld_zv H2.out.w1 HVU.out.2.2.1)
  go_upto_region 3 with fail
  have k0 := H2.out.k0; have k1 := H2.out.k1; have k2 := H2.out.k2; have k3 := H2.out.k3
  go_wp2_with fail
  refine (of_any p2 A2 n2 c2 _).mono ?_
  rintro e W3 ⟨rfl, x3⟩
  replace x3 : Ext W2 W3 := x3
  have ZC := Lib.hid (OF.out _ (zc.out.ext x3))
  have X3 := Lib.hid x3
  clear x3 k0 k1 k2 k3
  go_wp2_with fail
  refine ZC.out.mono ?_
  rintro e W4 ⟨rfl, x4⟩
  replace x4 : Ext W3 W4 := x4
  have x24 := X3.out.trans x4
  have R4 := Lib.hid (R4.out.ext x24); have E4 := Lib.hid (E2.out.trans x24)
  have H1 := Lib.hid (H1.out.ext x24); have H2 := Lib.hid (H2.out.ext x24)
  clear x4 x24 ZC X3
  have F1 := H1.out.hf HVU.out.1 HVU.out.2.1
  have F2 := H2.out.hf HVU.out.2.2.1 HVU.out.2.2.2
  obtain ⟨vx, hvx⟩ : ∃ z, z = numOf p l := ⟨_, rfl⟩
  obtain ⟨vy, hvy⟩ : ∃ z, z = numOf q l' := ⟨_, rfl⟩
  obtain ⟨ux, hux⟩ : ∃ z, z = numOf p2 k := ⟨_, rfl⟩
  obtain ⟨uy, huy⟩ : ∃ z, z = numOf q2 k' := ⟨_, rfl⟩
  rw [← hvx, ← hvy] at F1 QT
  rw [← hux, ← huy] at F2 QT
  clear OF zc h0
  replace F1 := Lib.hid F1; replace F2 := Lib.hid F2
  clear hvx hvy hux huy HVU HQ
  have lr := R4.out.lt
  go_upto_region 5 with fail
  refine wp_region_noPanic ?_
  refine wp_pool 8 [some 20, some 21, some 22, some 23, some 24, some 25, some 26, some 27] [] [] [(RF2 (vx) (vy)), (RF2 (vx) (vy)), (RF2 (ux) (uy)), (RF2 (ux) (uy)), (RF2 (N) (D)), (fun (v : Value) (X : World) => ∃ b A n c b' A' n' c', v = .tuple #[.agg #[.bool b, .slice A n c, .bool b', .slice A' n' c'], .int .i64 re] ∧ ZV X (.agg #[.bool b, .slice A n c]) (rx) ∧ ZV X (.agg #[.bool b', .slice A' n' c']) (ry)), (RF2 (rx) (ry)), (fun (v : Value) (_ : World) => v = .int .i64 re)] [noF, noF, noF, noF, noF, noF, noF, noF] (by kernel_rfl) (by kernel_rfl) (by kernel_rfl) (by kernel_rfl) (by kernel_rfl) (by kernel_rfl) (by kernel_rfl) (by kernel_rfl) (fun _ _ _ _ h => h) ⟨(fun _ _ _ e ⟨b, A, n, c, b', A', n', c', h1, h2, h3⟩ => ⟨b, A, n, c, b', A', n', c', h1, h2.ext e, h3.ext e⟩), (fun _ _ _ e ⟨b, A, n, c, b', A', n', c', h1, h2, h3⟩ => ⟨b, A, n, c, b', A', n', c', h1, h2.ext e, h3.ext e⟩), (fun _ _ _ e ⟨b, A, n, c, b', A', n', c', h1, h2, h3⟩ => ⟨b, A, n, c, b', A', n', c', h1, h2.ext e, h3.ext e⟩), (fun _ _ _ e ⟨b, A, n, c, b', A', n', c', h1, h2, h3⟩ => ⟨b, A, n, c, b', A', n', c', h1, h2.ext e, h3.ext e⟩), (fun _ _ _ e ⟨b, A, n, c, b', A', n', c', h1, h2, h3⟩ => ⟨b, A, n, c, b', A', n', c', h1, h2.ext e, h3.ext e⟩), (fun _ _ _ e ⟨b, A, n, c, b', A', n', c', h1, h2, h3⟩ => ⟨b, A, n, c, b', A', n', c', h1, h2.ext e, h3.ext e⟩), (fun _ _ _ e ⟨b, A, n, c, b', A', n', c', h1, h2, h3⟩ => ⟨b, A, n, c, b', A', n', c', h1, h2.ext e, h3.ext e⟩), Stays.pure _, True.intro⟩ ?steps ?done
  case steps =>
    simp only [List.take_succ_cons, List.take_zero]
    refine Steps.cons (RF2 (vx) (vy)) [] rfl (by kernel_rfl) rfl (by kernel_rfl) (fun y X ex0 hf K hK => ?_) ?_
    · clear hf
      have ex := (Ext.drw (Ext.refl _)).trans ex0
      refine Box.mk ?_
      simp only [fill, Act.put, Nat.reduceAdd, List.setIfInBounds_toArray, List.set_cons_zero, List.set_cons_succ] at hK ⊢
      obtain ⟨⟨bl, Al, nl, cl, k0, k1, kz⟩, ⟨bm, Am, nm, cm, k2, k3, ky⟩⟩ := (F1.out.ext ex)
      go_simp
      exact hK.out _ _ ⟨_, _, _, _, _, _, _, _, rfl, kz, ky⟩ (Ext.refl _) (fun b hb => by cases hb)
    refine Steps.cons (RF2 (vx) (vy)) [0] rfl (by kernel_rfl) rfl (by kernel_rfl) (fun y X ex0 hf K hK => ?_) ?_
    · obtain ⟨b0, A0, n0, c0, bb0, AA0, nn0, cc0, h0, z0, y0⟩ : ((RF2 (vx) (vy))) (y 0) X := hf.1
      clear hf
      have ex := (Ext.drw (Ext.refl _)).trans ex0
      refine Box.mk ?_
      simp only [fill, Act.put, Nat.reduceAdd, List.setIfInBounds_toArray, List.set_cons_zero, List.set_cons_succ, h0] at hK ⊢
      go_simp
      refine (ofRat_any _ _ _ _ (fv_mk z0 y0)).mono ?_
      rintro e V ⟨b9, A9, n9, c9, b8, A8, n8, c8, rfl, hz, hy, hb⟩
      try go_wp2_with fail
      exact hK.out _ _ ⟨_, _, _, _, _, _, _, _, rfl, hz, hy⟩ hb (fun b hb => by cases hb)
    refine Steps.cons (RF2 (ux) (uy)) [] rfl (by kernel_rfl) rfl (by kernel_rfl) (fun y X ex0 hf K hK => ?_) ?_
    · clear hf
      have ex := (Ext.drw (Ext.refl _)).trans ex0
      refine Box.mk ?_
      simp only [fill, Act.put, Nat.reduceAdd, List.setIfInBounds_toArray, List.set_cons_zero, List.set_cons_succ] at hK ⊢
      obtain ⟨⟨bl, Al, nl, cl, k0, k1, kz⟩, ⟨bm, Am, nm, cm, k2, k3, ky⟩⟩ := (F2.out.ext ex)
      go_simp
      exact hK.out _ _ ⟨_, _, _, _, _, _, _, _, rfl, kz, ky⟩ (Ext.refl _) (fun b hb => by cases hb)
    refine Steps.cons (RF2 (ux) (uy)) [2, 1] rfl (by kernel_rfl) rfl (by kernel_rfl) (fun y X ex0 hf K hK => ?_) ?_
    · obtain ⟨b2, A2, n2, c2, bb2, AA2, nn2, cc2, h2, z2, y2⟩ : ((RF2 (ux) (uy))) (y 2) X := hf.1
      obtain ⟨b1, A1, n1, c1, bb1, AA1, nn1, cc1, h1, z1, y1⟩ : ((RF2 (vx) (vy))) (y 1) X := hf.2.1
      clear hf
      have ex := (Ext.drw (Ext.refl _)).trans ex0
      refine Box.mk ?_
      simp only [fill, Act.put, Nat.reduceAdd, List.setIfInBounds_toArray, List.set_cons_zero, List.set_cons_succ, h2, h1] at hK ⊢
      go_simp
      refine (ofRat_any _ _ _ _ (fv_mk z2 y2)).mono ?_
      rintro e V ⟨b9, A9, n9, c9, b8, A8, n8, c8, rfl, hz, hy, hb⟩
      try go_wp2_with fail
      exact hK.out _ _ ⟨_, _, _, _, _, _, _, _, rfl, hz, hy⟩ hb (fun b hb => by cases hb)
    refine Steps.cons (RF2 (N) (D)) [1, 3] rfl (by kernel_rfl) rfl (by kernel_rfl) (fun y X ex0 hf K hK => ?_) ?_
    · obtain ⟨b1, A1, n1, c1, bb1, AA1, nn1, cc1, h1, z1, y1⟩ : ((RF2 (vx) (vy))) (y 1) X := hf.1
      obtain ⟨b3, A3, n3, c3, bb3, AA3, nn3, cc3, h3, z3, y3⟩ : ((RF2 (ux) (uy))) (y 3) X := hf.2.1
      clear hf
      have ex := (Ext.drw (Ext.refl _)).trans ex0
      refine Box.mk ?_
      simp only [fill, Act.put, Nat.reduceAdd, List.setIfInBounds_toArray, List.set_cons_zero, List.set_cons_succ, h1, h3] at hK ⊢
      go_simp
      refine (QT.out _ _ _ (fv_mk z1 y1) (fv_mk z3 y3)).mono ?_
      rintro e V ⟨b9, A9, n9, c9, b8, A8, n8, c8, rfl, hz, hy, hb⟩
      try go_wp2_with fail
      exact hK.out _ _ ⟨_, _, _, _, _, _, _, _, rfl, hz, hy⟩ hb (fun b hb => by cases hb)
    refine Steps.cons (fun (v : Value) (X : World) => ∃ b A n c b' A' n' c', v = .tuple #[.agg #[.bool b, .slice A n c, .bool b', .slice A' n' c'], .int .i64 re] ∧ ZV X (.agg #[.bool b, .slice A n c]) (rx) ∧ ZV X (.agg #[.bool b', .slice A' n' c']) (ry)) [4] rfl (by kernel_rfl) rfl (by kernel_rfl) (fun y X ex0 hf K hK => ?_) ?_
    · obtain ⟨b4, A4, n4, c4, bb4, AA4, nn4, cc4, h4, z4, y4⟩ : ((RF2 (N) (D))) (y 4) X := hf.1
      clear hf
      have ex := (Ext.drw (Ext.refl _)).trans ex0
      refine Box.mk ?_
      simp only [fill, Act.put, Nat.reduceAdd, List.setIfInBounds_toArray, List.set_cons_zero, List.set_cons_succ, h4] at hK ⊢
      go_simp
      refine (RT.out _ _ (fv_mk z4 y4)).mono ?_
      rintro e V ⟨b9, A9, n9, c9, b8, A8, n8, c8, rfl, hz, hy, hb⟩
      try go_wp2_with fail
      exact hK.out _ _ ⟨_, _, _, _, _, _, _, _, rfl, hz, hy⟩ hb (fun b hb => by cases hb)
    refine Steps.cons (RF2 (rx) (ry)) [5] rfl (by kernel_rfl) rfl (by kernel_rfl) (fun y X ex0 hf K hK => ?_) ?_
    · obtain ⟨b5, A5, n5, c5, bb5, AA5, nn5, cc5, h5, z5, y5⟩ : ((fun (v : Value) (X : World) => ∃ b A n c b' A' n' c', v = .tuple #[.agg #[.bool b, .slice A n c, .bool b', .slice A' n' c'], .int .i64 re] ∧ ZV X (.agg #[.bool b, .slice A n c]) (rx) ∧ ZV X (.agg #[.bool b', .slice A' n' c']) (ry))) (y 5) X := hf.1
      clear hf
      have ex := (Ext.drw (Ext.refl _)).trans ex0
      refine Box.mk ?_
      simp only [fill, Act.put, Nat.reduceAdd, List.setIfInBounds_toArray, List.set_cons_zero, List.set_cons_succ, h5] at hK ⊢
      go_simp
      exact hK.out _ _ ⟨_, _, _, _, _, _, _, _, rfl, z5, y5⟩ (Ext.refl _) (fun b hb => by cases hb)
    refine Steps.cons (fun (v : Value) (_ : World) => v = .int .i64 re) [5] rfl (by kernel_rfl) rfl (by kernel_rfl) (fun y X ex0 hf K hK => ?_) ?_
    · obtain ⟨b5, A5, n5, c5, bb5, AA5, nn5, cc5, h5, z5, y5⟩ : ((fun (v : Value) (X : World) => ∃ b A n c b' A' n' c', v = .tuple #[.agg #[.bool b, .slice A n c, .bool b', .slice A' n' c'], .int .i64 re] ∧ ZV X (.agg #[.bool b, .slice A n c]) (rx) ∧ ZV X (.agg #[.bool b', .slice A' n' c']) (ry))) (y 5) X := hf.1
      clear hf
      have ex := (Ext.drw (Ext.refl _)).trans ex0
      refine Box.mk ?_
      simp only [fill, Act.put, Nat.reduceAdd, List.setIfInBounds_toArray, List.set_cons_zero, List.set_cons_succ, h5] at hK ⊢
      go_simp
      exact hK.out _ _ rfl (Ext.refl _) (fun b hb => by cases hb)
    exact Steps.nil
  case done =>
    intro y X ex hf hlt hsep
    obtain ⟨b0, A0, n0, c0, bb0, AA0, nn0, cc0, h0, z0, y0⟩ : ((RF2 (vx) (vy))) (y 0) X := hf.1
    obtain ⟨b1, A1, n1, c1, bb1, AA1, nn1, cc1, h1, z1, y1⟩ : ((RF2 (vx) (vy))) (y 1) X := hf.2.1
    obtain ⟨b2, A2, n2, c2, bb2, AA2, nn2, cc2, h2, z2, y2⟩ : ((RF2 (ux) (uy))) (y 2) X := hf.2.2.1
    obtain ⟨b3, A3, n3, c3, bb3, AA3, nn3, cc3, h3, z3, y3⟩ : ((RF2 (ux) (uy))) (y 3) X := hf.2.2.2.1
    obtain ⟨b4, A4, n4, c4, bb4, AA4, nn4, cc4, h4, z4, y4⟩ : ((RF2 (N) (D))) (y 4) X := hf.2.2.2.2.1
    obtain ⟨b5, A5, n5, c5, bb5, AA5, nn5, cc5, h5, z5, y5⟩ : ((fun (v : Value) (X : World) => ∃ b A n c b' A' n' c', v = .tuple #[.agg #[.bool b, .slice A n c, .bool b', .slice A' n' c'], .int .i64 re] ∧ ZV X (.agg #[.bool b, .slice A n c]) (rx) ∧ ZV X (.agg #[.bool b', .slice A' n' c']) (ry))) (y 5) X := hf.2.2.2.2.2.1
    obtain ⟨b6, A6, n6, c6, bb6, AA6, nn6, cc6, h6, z6, y6⟩ : ((RF2 (rx) (ry))) (y 6) X := hf.2.2.2.2.2.2.1
    have h7 : ((fun (v : Value) (_ : World) => v = .int .i64 re)) (y 7) X := hf.2.2.2.2.2.2.2.1
    clear hf
    clear hsep hlt
    refine Box.mk ?_
    simp only [List.drop_succ_cons, List.drop_zero, fill, Act.put, Nat.reduceAdd, List.setIfInBounds_toArray, List.set_cons_zero, List.set_cons_succ, h0, h1, h2, h3, h4, h5, h6, h7]
    clear h0 h1 h2 h3 h4 h5 h6 h7
    have r4 := R4.out.ext ex
    obtain ⟨_, _, _, _, k40, k41, k42, k43, k44, k45, k46, k47⟩ := put4_walk r4 (.bool b6) (.slice A6 n6 c6) (.bool bb6)
    obtain ⟨W', hW'⟩ : ∃ W', W' = put4 X (w.heap.size + 1 + 1) (.bool b6) (.slice A6 n6 c6) (.bool bb6) (.slice AA6 nn6 cc6) := ⟨_, rfl⟩
    obtain ⟨f0, f1, f2, f3⟩ := put4_cells r4 (.bool b6) (.slice A6 n6 c6) (.bool bb6) (.slice AA6 nn6 cc6)
    have hz1 := (z6).put4 r4 (.bool b6) (.slice A6 n6 c6) (.bool bb6) (.slice AA6 nn6 cc6)
    rw [← hW'] at hz1
    have hz2 := (y6).put4 r4 (.bool b6) (.slice A6 n6 c6) (.bool bb6) (.slice AA6 nn6 cc6)
    rw [← hW'] at hz2
    have hbf : Below w.heap.size w W' := by rw [hW']; exact put4_below (Ext.below (E4.out.trans ex)) (by omega) (.bool b6) (.slice A6 n6 c6) (.bool bb6) (.slice AA6 nn6 cc6)
    rw [← hW'] at f0 f1 f2 f3
    unfold put4 at hW'
    have HG := Lib.hid (And.intro hz1 (And.intro hz2 (And.intro hbf (And.intro f0 (And.intro f1 (And.intro f2 f3))))))
    have HW' := Lib.hid hW'
    clear hz1 hz2 hbf f0 f1 f2 f3 hW'
    clear ex r4 z0 y0 z1 y1 z2 y2 z3 y3 z4 y4 z5 y5 z6 y6
    go_wp2_with fail
    refine NoPanic.normal ?_
    go_wp2
    rw [← HW'.out]
    obtain ⟨hz1, hz2, hbf, f0, f1, f2, f3⟩ := HG.out
    exact bodyPost_ret (v := .tuple #[.agg #[.bool b6, .slice A6 n6 c6, .bool bb6, .slice AA6 nn6 cc6], .int .i64 re]) (by simp [results, Tryz.results20, go_sem, f0, f1, f2, f3]) rfl ⟨_, _, _, _, _, _, _, _, rfl, hz1, hz2, hbf⟩
theorem refRatDiv_u (p q p2 q2 : Bool) (A A' A2 A2' : Option Addr) (n c n' c' n2 c2 n2' c2' : Nat) (l l' k k' : List Nat) (w : World) (hx : Wd w (.slice A n c) l) (hy : Wd w (.slice A' n' c') l') (hx2 : Wd w (.slice A2 n2 c2) k) (hy2 : Wd w (.slice A2' n2' c2') k') (rx ry re : Int) (h : RD (vldR p q l l' && vldR p2 q2 k k') (numOf p2 k) ((numOf p l * numOf q2 k') / nfg ((numOf p l * numOf q2 k')) ((numOf q l' * numOf p2 k))) ((numOf q l' * numOf p2 k) / nfg ((numOf p l * numOf q2 k')) ((numOf q l' * numOf p2 k))) rx ry re) :
    Calls Tryz.prog 20 #[.agg #[.bool p, .slice A n c, .bool q, .slice A' n' c'], .agg #[.bool p2, .slice A2 n2 c2, .bool q2, .slice A2' n2' c2']] w (RetR w rx ry re) := by
  by_cases hp : vldR p q l l' = true
  · by_cases hq : vldR p2 q2 k k' = true
    · rw [hp, hq] at h
      rcases h with ⟨-, h0, rfl, rfl, rfl⟩ | ⟨h0, h⟩
      · exact refRatDiv_zero p q p2 q2 A A' A2 A2' n c n' c' n2 c2 n2' c2' l l' k k' w hx hy hx2 hy2 hp hq h0
      · exact refRatDiv_yes p q p2 q2 A A' A2 A2' n c n' c' n2 c2 n2' c2' l l' k k' w hx hy hx2 hy2 rx ry re hp hq (fun e => h0 ⟨rfl, e⟩) h
    · have hq : vldR p2 q2 k k' = false := by simpa using hq
      rw [hp, hq] at h
      rcases h with ⟨h, -⟩ | ⟨-, h⟩
      · cases h
      · obtain ⟨rfl, rfl, rfl⟩ := RA.no h
        exact refRatDiv_nob p q p2 q2 A A' A2 A2' n c n' c' n2 c2 n2' c2' l l' k k' w hx hy hx2 hy2 hp hq
  · have hp : vldR p q l l' = false := by simpa using hp
    rw [hp] at h
    rcases h with ⟨h, -⟩ | ⟨-, h⟩
    · cases h
    · obtain ⟨rfl, rfl, rfl⟩ := RA.no h
      exact refRatDiv_noa p q p2 q2 A A' A2 A2' n c n' c' n2 c2 n2' c2' l l' k k' w hx hy hx2 hy2 hp
end Go.Proofs.YtmlopkkbgpfdnabGreat
