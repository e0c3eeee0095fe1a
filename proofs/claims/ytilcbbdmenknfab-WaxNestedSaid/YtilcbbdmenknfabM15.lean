/- Walks: Prices. · A cloth of which the first 50 of each list are taken. · The law WaxNested. -/
import Derived.Test.YtilcbbdmenknfabM14
import Derived.Test.YtilcbbdmenknfabM11
namespace Go.Proofs.Ytilcbbdmenknfab
open Go.RowKit

set_option maxHeartbeats 4000000 in
set_option maxRecDepth 100000 in
theorem pricesS_any (c : Cl) (V : Value) (W : World) (hV : Kl W V c) :
    Calls Try.prog 4 #[V] W fun e W' => ∃ (F : Value) (er : Int), e = .returned (.tuple #[F, .int .i64 er]) ∧ Ext W W' ∧
      ((vCl c = false ∧ F = .slice none 0 0 ∧ er = 2) ∨ (vCl c = true ∧ er = 0 ∧ ∃ P, Prc c P ∧ Il W' F c.nb P)) := by
  have HV := Lib.hid hV
  obtain ⟨B, X, R, D, rfl, -, -, -, -⟩ := hV
  obtain ⟨w, hw⟩ : ∃ w, w = c.w := ⟨_, rfl⟩
  obtain ⟨h, hh⟩ : ∃ h, h = c.h := ⟨_, rfl⟩
  rw [← hw, ← hh] at HV ⊢
  have HWH := Lib.hid (And.intro hw hh)
  clear hw hh
  go_enter Try.func4, Try.ntmps4
  go_upto_region 1 with fail
  have bb := al1 W (.cells #[.int .i64 w, .int .i64 h, B, X, R, D] 29)
  obtain ⟨m0, m1, m2, m3, m4, m5, mz, -⟩ := six (heap_alloc_new W (.cells #[.int .i64 w, .int .i64 h, B, X, R, D] 29))
  generalize W.alloc (.cells #[.int .i64 w, .int .i64 h, B, X, R, D] 29) = W1 at *
  have HB : Hid (Ext W W1) := Lib.hid bb
  have HM := Lib.hid (And.intro m0 (And.intro m1 (And.intro m2 (And.intro m3 (And.intro m4 m5)))))
  clear bb
  go_wp2_with fail
  refine (isCloth_any c _ _ (HV.out.ext HB.out)).mono ?_
  rintro e w2 ⟨rfl, hx⟩
  have HX : Hid (Ext W1 w2) := Lib.hid hx
  clear hx m0 m1 m2 m3 m4 m5
  cases hv : vCl c
  · have HV0 := Lib.hid hv
    clear hv
    go_wp2
    refine bodyPost_ret (v := .tuple #[.slice none 0 0, .int .i64 2]) (by simp [results, Try.results4, go_sem]) rfl ⟨_, 2, rfl, HB.out.trans HX.out, .inl ⟨HV0.out, rfl, rfl⟩⟩
  · obtain ⟨P, hP⟩ := prc_ex hv
    have HP := Lib.hid hP
    have HVC := Lib.hid hv
    have hfacts := vCl_ok hv
    have hnb36 : c.nb ≤ 36 := by
      obtain ⟨⟨v1, v2⟩, ⟨v3, v4⟩, ⟨v5, -⟩, -⟩ := hfacts
      have h1 := (side_prod (show 0 ≤ c.w by omega) v2 (show 0 ≤ c.h by omega) v4).2
      omega
    have hbd : ∀ v, v < c.nb → -1000 ≤ P v ∧ P v ≤ 1000 := fun v hv2 => hP.bd hv hv2
    have HBD := Lib.hid hbd
    obtain ⟨nb, hnb⟩ : ∃ n, n = c.nb := ⟨_, rfl⟩
    have hwh : w * h = (nb : Int) := by rw [HWH.out.1, HWH.out.2, hnb]; exact hfacts.2.2.1.1.symm
    rw [← hnb] at hnb36
    have HNB := Lib.hid hnb
    have hm2 : ∀ w, (Instr.makeSlice 22 (.int .i64 (nb : Int)) (.int .i64 (nb : Int))).run Try.prog w = .ok (.slice (some ⟨w.heap.size, 0, none⟩) nb nb) (w.alloc (.cells (Array.ofFn fun _ : Fin nb => .int .i64 0) 3)) := fun w => make_one 22 3 _ 8 Try.underlying22 info3 rfl (by omega) nb (by omega) w
    have m0 := keepAt HX.out mz HM.out.1
    have m1 := keepAt HX.out mz HM.out.2.1
    have mz2 : W.heap.size < w2.heap.size := Nat.lt_of_lt_of_le mz HX.out.size
    have HM2 := Lib.hid (And.intro (keepAt HX.out mz HM.out.1) (And.intro (keepAt HX.out mz HM.out.2.1) (And.intro (keepAt HX.out mz HM.out.2.2.1) (And.intro (keepAt HX.out mz HM.out.2.2.2.1) (And.intro (keepAt HX.out mz HM.out.2.2.2.2.1) (keepAt HX.out mz HM.out.2.2.2.2.2))))))
    clear hv hP hfacts hbd hnb
    go_upto_region 4 with fail
    clear m0 m1
    obtain ⟨g, hg⟩ : ∃ g, g = w2.heap.size := ⟨_, rfl⟩
    have y1 : BI (w2.alloc (.cells (Array.ofFn fun _ : Fin nb => Value.int .i64 0) 3)) g nb (fun _ => 0) := by rw [hg]; exact heap_alloc_new w2 _
    have e1 : Ext w2 (w2.alloc (.cells (Array.ofFn fun _ : Fin nb => Value.int .i64 0) 3)) := Ext.alc (Ext.refl _) _
    have z1 : g < (w2.alloc (.cells (Array.ofFn fun _ : Fin nb => Value.int .i64 0) 3)).heap.size := by rw [hg]; simp
    rw [← hg]
    have hgw : w2.heap.size ≤ g := by omega
    have HY1 := Lib.hid (And.intro y1 e1)
    clear y1 e1 hg
    generalize w2.alloc (.cells (Array.ofFn fun _ : Fin nb => Value.int .i64 0) 3) = w3 at *
    have eX := HY1.out.2
    refine wp_region_noPanic ?_
    refine wp_region_held_drew (S := fun X => Ext w2 X) (by kernel_rfl) (Ext.drw eX) (fun _ => ?_)
    refine take_at 0 (some 14) (.agg #[.int .i64 w, .int .i64 h, B, X, R, D]) rfl rfl (by kernel_rfl) (by kernel_rfl) (by kernel_rfl) (fun _ _ _ h => h) (Or.inl ⟨by rfl, fun w' hSw => ?_⟩) (Ext.drw eX) ?_
    · have z0 := keepAt hSw mz2 HM2.out.1
      have z1 := keepAt hSw mz2 HM2.out.2.1
      have z2 := keepAt hSw mz2 HM2.out.2.2.1
      have z3 := keepAt hSw mz2 HM2.out.2.2.2.1
      have z4 := keepAt hSw mz2 HM2.out.2.2.2.2.1
      have z5 := keepAt hSw mz2 HM2.out.2.2.2.2.2
      try clear hSw
      go_simp
      all_goals (with_reducible rfl)
    try simp only [Act.put, List.setIfInBounds_toArray, List.set_cons_zero, List.set_cons_succ]
    refine take_at 1 (some 15) (.slice (some ⟨g, 0, none⟩) nb nb) rfl rfl (by kernel_rfl) (by kernel_rfl) (by kernel_rfl) (fun _ _ _ h => h) (Or.inl ⟨by rfl, fun w' hSw => ?_⟩) (Ext.drw eX) ?_
    · skip
      try clear hSw
      go_simp
      all_goals (with_reducible rfl)
    try simp only [Act.put, List.setIfInBounds_toArray, List.set_cons_zero, List.set_cons_succ]
    refine take_at 2 (some 16) (.agg #[.int .i64 w, .int .i64 h, B, X, R, D]) rfl rfl (by kernel_rfl) (by kernel_rfl) (by kernel_rfl) (fun _ _ _ h => h) (Or.inl ⟨by rfl, fun w' hSw => ?_⟩) (Ext.drw eX) ?_
    · have z0 := keepAt hSw mz2 HM2.out.1
      have z1 := keepAt hSw mz2 HM2.out.2.1
      have z2 := keepAt hSw mz2 HM2.out.2.2.1
      have z3 := keepAt hSw mz2 HM2.out.2.2.2.1
      have z4 := keepAt hSw mz2 HM2.out.2.2.2.2.1
      have z5 := keepAt hSw mz2 HM2.out.2.2.2.2.2
      try clear hSw
      go_simp
      all_goals (with_reducible rfl)
    try simp only [Act.put, List.setIfInBounds_toArray, List.set_cons_zero, List.set_cons_succ]
    refine take_at 4 (some 18) (.agg #[.int .i64 w, .int .i64 h, B, X, R, D]) rfl rfl (by kernel_rfl) (by kernel_rfl) (by kernel_rfl) (fun _ _ _ h => h) (Or.inl ⟨by rfl, fun w' hSw => ?_⟩) (Ext.drw eX) ?_
    · have z0 := keepAt hSw mz2 HM2.out.1
      have z1 := keepAt hSw mz2 HM2.out.2.1
      have z2 := keepAt hSw mz2 HM2.out.2.2.1
      have z3 := keepAt hSw mz2 HM2.out.2.2.2.1
      have z4 := keepAt hSw mz2 HM2.out.2.2.2.2.1
      have z5 := keepAt hSw mz2 HM2.out.2.2.2.2.2
      try clear hSw
      go_simp
      all_goals (with_reducible rfl)
    try simp only [Act.put, List.setIfInBounds_toArray, List.set_cons_zero, List.set_cons_succ]
    refine wpAnyH_ready (rs := [3]) (by kernel_rfl) (by simp) ?_
    refine AllReadyH.cons rfl (fun K hK => ?_) AllReadyH.nil
    go_simp
    refine (stageOf_any c (-5000) (.agg #[.int .i64 w, .int .i64 h, B, X, R, D]) _ (HV.out.ext (HB.out.trans (HX.out.trans (Ext.drw eX)))) HVC.out (by omega) (by omega)).mono ?_
    rintro e v3 ⟨g3, N3, M3, rfl, hg3, hG3, hM3, hb3⟩
    have e3 : Ext w2 v3 := (Ext.drw eX).trans hb3
    rw [← HNB.out] at hG3 ⊢
    have hG3b : Bl v3 (.slice (some ⟨g3, 0, none⟩) nb N3) nb (fun v => decide (-5000 ≤ P v)) := hG3.congr fun v hv => HP.out (-5000) (by omega) (by omega) M3 hM3 v (by rw [← HNB.out]; exact hv)
    try go_wp2_with fail
    refine hK.out _ _ e3 (fun _ => ?_)
    clear hK K
    try simp only [Act.put, List.setIfInBounds_toArray, List.set_cons_zero, List.set_cons_succ]
    have hne3 : g3 ≠ g := by have : w3.heap.size ≤ g3 := hg3; omega
    have HG3 : Hid (Bg g v3 (.slice (some ⟨g3, 0, none⟩) nb N3) nb (fun v => decide (-5000 ≤ P v))) := Lib.hid ⟨hG3b, fun A m c e b off e2 => by
      injection e with e; rw [← e] at e2; injection e2 with e2; injection e2 with e2; omega⟩
    have HBI3 := Lib.hid (HY1.out.1.ext ((Ext.drw (Ext.refl w3)).trans hb3))
    have zv3 : g < v3.heap.size := Bk.lt HBI3.out
    clear hG3 hM3 hG3b hg3
    refine wpAnyH_ready (rs := [5]) (by kernel_rfl) (by simp) ?_
    refine AllReadyH.cons rfl (fun K hK => ?_) AllReadyH.nil
    go_simp
    refine (stageOf_any c (5001) (.agg #[.int .i64 w, .int .i64 h, B, X, R, D]) _ (HV.out.ext (HB.out.trans (HX.out.trans (e3)))) HVC.out (by omega) (by omega)).mono ?_
    rintro e v5 ⟨g5, N5, M5, rfl, hg5, hG5, hM5, hb5⟩
    have e5 : Ext w2 v5 := (e3).trans hb5
    rw [← HNB.out] at hG5 ⊢
    have hG5b : Bl v5 (.slice (some ⟨g5, 0, none⟩) nb N5) nb (fun v => decide (5001 ≤ P v)) := hG5.congr fun v hv => HP.out (5001) (by omega) (by omega) M5 hM5 v (by rw [← HNB.out]; exact hv)
    try go_wp2_with fail
    refine hK.out _ _ e5 (fun _ => ?_)
    clear hK K
    try simp only [Act.put, List.setIfInBounds_toArray, List.set_cons_zero, List.set_cons_succ]
    have hne5 : g5 ≠ g := by omega
    have HG5 : Hid (Bg g v5 (.slice (some ⟨g5, 0, none⟩) nb N5) nb (fun v => decide (5001 ≤ P v))) := Lib.hid ⟨hG5b, fun A m c e b off e2 => by
      injection e with e; rw [← e] at e2; injection e2 with e2; injection e2 with e2; omega⟩
    have HBI5 := Lib.hid (HBI3.out.ext hb5)
    replace HG3 := Lib.hid (HG3.out.kp (Kp.of g hb5))
    clear hG5 hM5 hG5b hg5
    refine wpAnyH_ready (rs := [6]) (by kernel_rfl) (by simp) ?_
    refine AllReadyH.cons rfl (fun K hK => ?_) AllReadyH.nil
    go_simp
    refine (settle_any c P HVC.out HP.out 10001 (-5000) 5001 g nb (fun _ => 0) (.agg #[.int .i64 w, .int .i64 h, B, X, R, D]) _ _ w2 _ HNB.out (by omega) (by omega) (by omega) (by omega) (HV.out.ext (HB.out.trans HX.out)) e5 hgw HBI5.out HG3.out HG5.out).mono ?_
    rintro e v6 ⟨⟨r6, rfl⟩, hbi6, hk6⟩
    have e6 : Ext w2 v6 := hk6.ext e5 hgw
    try go_wp2_with fail
    refine hK.out _ _ e6 (fun _ => ?_)
    clear hK K
    try simp only [Act.put, List.setIfInBounds_toArray, List.set_cons_zero, List.set_cons_succ]
    have HB6 : Hid (BI v6 g nb P) := Lib.hid (Bk.congr hbi6 fun j hj => by
      have h1 := HBD.out j (by rw [← HNB.out]; exact hj)
      unfold setP; rw [if_pos (by omega)])
    refine wpAnyH_done (by kernel_rfl) ?_ _
    refine NoPanic.normal ?_
    have EX := Lib.hid (HB.out.trans (HX.out.trans e6))
    clear eX e3 e5 e6 hb3 hb5 hk6 hbi6
    go_wp2
    refine bodyPost_ret (v := .tuple #[.slice (some ⟨g, 0, none⟩) nb nb, .int .i64 0]) (by simp [results, Try.results4, go_sem]) rfl ⟨_, 0, rfl, EX.out, .inr ⟨HVC.out, rfl, P, HP.out, by rw [← HNB.out]; exact HB6.out.il (by omega)⟩⟩
end Go.Proofs.Ytilcbbdmenknfab
namespace Go.Proofs.Ytilcbbdmenknfab
open Go.RowKit

theorem vCl_cut (c : Cl) : vCl c.cut = vCl c := by
  unfold vCl Cl.cut
  dsimp only
  cases q1 : bw c.w 1 6
  · simp
  · cases q2 : bw c.h 1 6
    · simp
    · obtain ⟨w1, w2⟩ := bw_iff.1 q1
      obtain ⟨h1, h2⟩ := bw_iff.1 q2
      have a1 := (side_prod (show 0 ≤ c.w by omega) w2 (show 0 ≤ c.h by omega) h2).2
      have a2 := (side_prod (show 0 ≤ c.w - 1 by omega) (show c.w - 1 ≤ 5 by omega) (show 0 ≤ c.h by omega) h2).2
      have a3 := (side_prod (show 0 ≤ c.w by omega) w2 (show 0 ≤ c.h - 1 by omega) (show c.h - 1 ≤ 5 by omega)).2
      rw [okL_cut (by omega), okL_cut (by omega), okL_cut (by omega), okL_cut (by omega)]
theorem cut_same {c : Cl} (h : vCl c = true) : c.cut = c := by
  obtain ⟨⟨w1, w2⟩, ⟨h1, h2⟩, ⟨v5, -⟩, ⟨v7, -⟩, ⟨v9, -⟩, ⟨v11, -⟩⟩ := vCl_ok h
  have a1 := (side_prod (show 0 ≤ c.w by omega) w2 (show 0 ≤ c.h by omega) h2).2
  have a2 := (side_prod (show 0 ≤ c.w - 1 by omega) (show c.w - 1 ≤ 5 by omega) (show 0 ≤ c.h by omega) h2).2
  have a3 := (side_prod (show 0 ≤ c.w by omega) w2 (show 0 ≤ c.h - 1 by omega) (show c.h - 1 ≤ 5 by omega)).2
  have e1 : min c.nb 50 = c.nb := by omega
  have e2 : min c.nx 50 = c.nx := by omega
  have e3 : min c.nr 50 = c.nr := by omega
  have e4 : min c.nd 50 = c.nd := by omega
  unfold Cl.cut
  rw [e1, e2, e3, e4]
theorem vCl_nb {c : Cl} (h : vCl c = true) : c.nb ≤ 36 := by
  obtain ⟨⟨w1, w2⟩, ⟨h1, h2⟩, ⟨v5, -⟩, -⟩ := vCl_ok h
  have a1 := (side_prod (show 0 ≤ c.w by omega) w2 (show 0 ≤ c.h by omega) h2).2
  omega
end Go.Proofs.Ytilcbbdmenknfab
namespace Go.Proofs.Ytilcbbdmenknfab
open Go.RowKit

theorem lst_gst {G : Nw} {N s t : Nat} {L M : Nat → Bool} (h : Lst G N s t L) (k : Gst G N s t M) : ∀ v, v < N → L v = true → M v = true := fun v hv hl => k.2 L h.1 v hv hl

set_option maxHeartbeats 4000000 in
set_option maxRecDepth 100000 in
theorem waxNested_walk (c : Cl) (r0 : Int) (V : Value) (W : World) (hV : Kl W V c) :
    Calls Try.prog 3 #[V, .int .i64 r0] W fun e W' => e = .returned (.bool true) ∧ Ext W W' := by
  have HV := Lib.hid hV
  obtain ⟨B, X, R, D, rfl, -, -, -, -⟩ := hV
  obtain ⟨C, hC⟩ : ∃ C, C = c.cut := ⟨_, rfl⟩
  obtain ⟨w, hw⟩ : ∃ w, w = c.w := ⟨_, rfl⟩
  obtain ⟨h, hh⟩ : ∃ h, h = c.h := ⟨_, rfl⟩
  rw [← hw, ← hh] at HV ⊢
  have hcl : ∀ X1, Ext W X1 → Calls Try.prog 5 #[.agg #[.int .i64 w, .int .i64 h, B, X, R, D]] X1 fun e W' => ∃ U, e = .returned U ∧ Kl W' U C ∧ Ext X1 W' := fun X1 hX1 => by
    rw [hC]; exact cloth_any c _ X1 (HV.out.ext hX1)
  have HCL := Lib.hid hcl
  obtain ⟨iu, hiu⟩ : ∃ iu : Nat, IntKind.u64.wrap r0 = (iu : Int) := ⟨(r0 % 18446744073709551616).toNat, by rw [IntKind.wrap_u64]; omega⟩
  obtain ⟨p, hp⟩ : ∃ p : Nat, iu % 12001 = p := ⟨_, rfl⟩
  have hp2 : p < 12001 := by omega
  have hip : ((iu : Int)).tmod 12001 = p := by rw [Int.tmod_eq_emod_of_nonneg (by omega)]; omega
  have hwp : IntKind.u64.wrap (p : Int) = p := by rw [IntKind.wrap_u64]; omega
  have hwi : IntKind.i64.wrap (p : Int) = p := IntWalk.i64_in _ (by omega)
  obtain ⟨r, hr⟩ : ∃ r : Int, (p : Int) - 6000 = r := ⟨_, rfl⟩
  have hr1 : -6000 ≤ r ∧ r ≤ 6000 := by omega
  have hwr : IntKind.i64.wrap r = r := IntWalk.i64_in _ (by omega)
  have hwr1 : IntKind.i64.wrap (r + 1) = r + 1 := IntWalk.i64_in _ (by omega)
  clear hcl hC hw hh hp
  go_enter Try.func3, Try.ntmps3
  go_upto_region 2 with fail
  have bb := al1 W (.cells #[.int .i64 w, .int .i64 h, B, X, R, D] 24)
  obtain ⟨m0, m1, m2, m3, m4, m5, mz, -⟩ := six (heap_alloc_new W (.cells #[.int .i64 w, .int .i64 h, B, X, R, D] 24))
  generalize W.alloc (.cells #[.int .i64 w, .int .i64 h, B, X, R, D] 24) = W1 at *
  have HB : Hid (Ext W W1) := Lib.hid bb
  have HM := Lib.hid (And.intro m0 (And.intro m1 (And.intro m2 (And.intro m3 (And.intro m4 m5)))))
  clear bb hiu hip hwp hwi hr hwr
  go_wp2_with fail
  refine (HCL.out _ HB.out).mono ?_
  clear m0 m1 m2 m3 m4 m5
  rintro e x1 ⟨U1, rfl, hk, hx⟩
  have HK1 := Lib.hid hk
  have HX1 : Hid (Ext W1 x1) := Lib.hid hx
  clear hk hx
  go_wp2_with fail
  refine (pricesS_any C _ _ HK1.out).mono ?_
  rintro e y1 ⟨F1, er1, rfl, hx, hcase⟩
  have HY1 : Hid (Ext W1 y1) := Lib.hid (HX1.out.trans hx)
  clear hx
  cases hv : vCl C
  · rw [hv] at hcase
    have HV0 := Lib.hid hv
    clear hv
    obtain ⟨-, rfl, rfl⟩ | ⟨h9, -⟩ := hcase
    · have m0 := keepAt HY1.out mz HM.out.1
      have m1 := keepAt HY1.out mz HM.out.2.1
      have m2 := keepAt HY1.out mz HM.out.2.2.1
      have m3 := keepAt HY1.out mz HM.out.2.2.2.1
      have m4 := keepAt HY1.out mz HM.out.2.2.2.2.1
      have m5 := keepAt HY1.out mz HM.out.2.2.2.2.2
      go_wp2_with fail
      refine (HCL.out _ (HB.out.trans HY1.out)).mono ?_
      clear m0 m1 m2 m3 m4 m5
      rintro e x2 ⟨U2, rfl, hk, hx⟩
      have HK2 := Lib.hid hk
      have HX2 : Hid (Ext W1 x2) := Lib.hid (HY1.out.trans hx)
      clear hk hx
      go_wp2_with fail
      refine (labels_any C r U2 _ HK2.out).mono ?_
      rintro e y2 ⟨F2, G2, er2, rfl, hx, hcase⟩
      have HY2 : Hid (Ext W1 y2) := Lib.hid (HX2.out.trans hx)
      clear hx
      rw [HV0.out] at hcase
      obtain ⟨-, rfl, rfl, rfl⟩ | ⟨h9, -⟩ := hcase
      · have m0 := keepAt HY2.out mz HM.out.1
        have m1 := keepAt HY2.out mz HM.out.2.1
        have m2 := keepAt HY2.out mz HM.out.2.2.1
        have m3 := keepAt HY2.out mz HM.out.2.2.2.1
        have m4 := keepAt HY2.out mz HM.out.2.2.2.2.1
        have m5 := keepAt HY2.out mz HM.out.2.2.2.2.2
        go_wp2_with fail
        refine (HCL.out _ (HB.out.trans HY2.out)).mono ?_
        clear m0 m1 m2 m3 m4 m5
        rintro e x3 ⟨U3, rfl, hk, hx⟩
        have HK3 := Lib.hid hk
        have HX3 : Hid (Ext W1 x3) := Lib.hid (HY2.out.trans hx)
        clear hk hx
        go_wp2_with fail
        refine (labels_any C (r + 1) U3 _ HK3.out).mono ?_
        rintro e y3 ⟨F3, G3, er3, rfl, hx, hcase⟩
        have HY3 : Hid (Ext W1 y3) := Lib.hid (HX3.out.trans hx)
        clear hx
        rw [HV0.out] at hcase
        obtain ⟨-, rfl, rfl, rfl⟩ | ⟨h9, -⟩ := hcase
        · go_wp2_with fail
          refine (awake_any _).mono ?_
          rintro e w9 ⟨rfl, hx⟩
          have EF : Hid (Ext W w9) := Lib.hid (HB.out.trans (HY3.out.trans hx)); clear hx
          go_wp2
          go_ret
          exact ⟨rfl, EF.out⟩
        · simp at h9
      · simp at h9
    · simp at h9
  · have HVC := Lib.hid hv
    obtain ⟨h9, -⟩ | ⟨-, rfl, P, hP, hil⟩ := hcase
    · rw [hv] at h9; cases h9
    · have HP := Lib.hid hP
      have HF1 := Lib.hid hil
      have hnb36 := vCl_nb hv
      obtain ⟨nb, hnb⟩ : ∃ n, n = C.nb := ⟨_, rfl⟩
      rw [← hnb] at HF1 hil hnb36
      have HNB := Lib.hid hnb
      obtain ⟨A1, c1, rfl, hc1, hd1, -⟩ := hil
      clear hP hv hnb
      have m0 := keepAt HY1.out mz HM.out.1
      have m1 := keepAt HY1.out mz HM.out.2.1
      have m2 := keepAt HY1.out mz HM.out.2.2.1
      have m3 := keepAt HY1.out mz HM.out.2.2.2.1
      have m4 := keepAt HY1.out mz HM.out.2.2.2.2.1
      have m5 := keepAt HY1.out mz HM.out.2.2.2.2.2
      go_wp2_with fail
      refine (HCL.out _ (HB.out.trans HY1.out)).mono ?_
      clear m0 m1 m2 m3 m4 m5
      rintro e x2 ⟨U2, rfl, hk, hx⟩
      have HK2 := Lib.hid hk
      have HX2 : Hid (Ext W1 x2) := Lib.hid (HY1.out.trans hx)
      replace HF1 := Lib.hid ((HF1.out).ext hx)
      clear hk hx
      go_wp2_with fail
      refine (labels_any C r U2 _ HK2.out).mono ?_
      rintro e y2 ⟨F2, G2, er2, rfl, hx, hcase⟩
      have HY2 : Hid (Ext W1 y2) := Lib.hid (HX2.out.trans hx)
      replace HF1 := Lib.hid (HF1.out.ext hx)
      clear hx
      have hok2 : (vCl C && bw r (-10000) 10000) = true := by rw [HVC.out, bw_iff.2 ⟨by omega, by omega⟩]; rfl
      obtain ⟨h9, -⟩ | ⟨-, rfl, La, Ma, hFa, hGa, hLa, hMa⟩ := hcase
      · rw [hok2] at h9; cases h9
      · rw [← HNB.out] at hFa hGa
        have HFA := Lib.hid hFa; have HGA := Lib.hid hGa
        have HLM := Lib.hid (And.intro hLa hMa)
        obtain ⟨A2, c2, rfl, -, -, -⟩ := hFa
        obtain ⟨A3, c3, rfl, -, -, -⟩ := hGa
        clear hLa hMa hok2
        have m0 := keepAt HY2.out mz HM.out.1
        have m1 := keepAt HY2.out mz HM.out.2.1
        have m2 := keepAt HY2.out mz HM.out.2.2.1
        have m3 := keepAt HY2.out mz HM.out.2.2.2.1
        have m4 := keepAt HY2.out mz HM.out.2.2.2.2.1
        have m5 := keepAt HY2.out mz HM.out.2.2.2.2.2
        go_wp2_with fail
        refine (HCL.out _ (HB.out.trans HY2.out)).mono ?_
        clear m0 m1 m2 m3 m4 m5
        rintro e x3 ⟨U3, rfl, hk, hx⟩
        have HK3 := Lib.hid hk
        have HX3 : Hid (Ext W1 x3) := Lib.hid (HY2.out.trans hx)
        replace HF1 := Lib.hid ((HF1.out).ext hx)
        replace HFA := Lib.hid ((HFA.out).ext hx)
        replace HGA := Lib.hid ((HGA.out).ext hx)
        clear hk hx
        go_wp2_with fail
        refine (labels_any C (r + 1) U3 _ HK3.out).mono ?_
        rintro e y3 ⟨F3, G3, er3, rfl, hx, hcase⟩
        have HY3 : Hid (Ext W1 y3) := Lib.hid (HX3.out.trans hx)
        replace HF1 := Lib.hid (HF1.out.ext hx)
        replace HFA := Lib.hid (HFA.out.ext hx)
        replace HGA := Lib.hid (HGA.out.ext hx)
        clear hx
        have hok3 : (vCl C && bw (r + 1) (-10000) 10000) = true := by rw [HVC.out, bw_iff.2 ⟨by omega, by omega⟩]; rfl
        obtain ⟨h9, -⟩ | ⟨-, rfl, Lc, Mc_, hFc, hGc, hLc, hMc⟩ := hcase
        · rw [hok3] at h9; cases h9
        · rw [← HNB.out] at hGc
          have HGC := Lib.hid hGc
          have hb1 : ∀ v, v < nb → Ma v = decide (r ≤ P v) := fun v hv => HP.out r (by omega) (by omega) Ma HLM.out.2 v (by rw [← HNB.out]; exact hv)
          have hb2 : ∀ v, v < nb → La v = true → Ma v = true := fun v hv => lst_gst HLM.out.1 HLM.out.2 v (by rw [← HNB.out]; omega)
          have hb3 : ∀ v, v < nb → Mc_ v = true → La v = true := fun v hv => gst_mono HVC.out (show r < r + 1 by omega) HLM.out.1.1 hMc.1 v (by rw [← HNB.out]; exact hv)
          have HBB := Lib.hid (And.intro hb1 (And.intro hb2 hb3))
          obtain ⟨A4, c4, rfl, -, -, -⟩ := hFc
          obtain ⟨A5, c5, rfl, -, -, -⟩ := hGc
          clear hLc hMc hb1 hb2 hb3 hok3 hwr1
          go_wp2_with fail
          go_loopw [87] (fun i wr => ∃ k : Nat, i = .int .i64 k ∧ k ≤ nb ∧ wr = y3) (fun i _ => nb - (intOf i).toNat)
          case atStart => exact ⟨0, rfl, Nat.zero_le _, rfl⟩
          case round =>
            obtain ⟨k, rfl, hk, hwr9⟩ := hrel
            rw [hwr9]
            clear hwr9
            by_cases hlt : k < nb
            · obtain ⟨b1, o1, rfl, -, e1⟩ := Vl.at HF1.out (Ext.refl _) hlt
              obtain ⟨b2, o2, rfl, -, e2⟩ := Vl.at HFA.out (Ext.refl _) hlt
              obtain ⟨b3, o3, rfl, -, e3⟩ := Vl.at HGA.out (Ext.refl _) hlt
              obtain ⟨b5, o5, rfl, -, e5⟩ := Vl.at HGC.out (Ext.refl _) hlt
              have q1 := HBB.out.1 k hlt
              have q2 := HBB.out.2.1 k hlt
              have q3 := HBB.out.2.2 k hlt
              obtain ⟨z, hz⟩ : ∃ z, z = P k := ⟨_, rfl⟩
              rw [← hz] at e1 q1
              clear hz
              cases a : Mc_ k <;> cases b : La k <;> cases d : Ma k
              · rw [b] at e2; rw [d] at e3 q1; rw [a] at e5
                have HQ := Lib.hid (And.intro q2 q3)
                clear q2 q3 a b d HQ
                have hz : ¬ r ≤ z := of_decide_eq_false q1.symm
                clear q1
                go_wp2
                go_roundw
                case rel => exact ⟨k + 1, by go_num, by omega, by trivial⟩
                case measure => simp [intOf]; omega
              · rw [b] at e2; rw [d] at e3 q1; rw [a] at e5
                have HQ := Lib.hid (And.intro q2 q3)
                clear q2 q3 a b d HQ
                have hz : r ≤ z := of_decide_eq_true q1.symm
                clear q1
                go_wp2
                go_roundw
                case rel => exact ⟨k + 1, by go_num, by omega, by trivial⟩
                case measure => simp [intOf]; omega
              · rw [a] at q3; rw [b] at q2 q3; rw [d] at q2; simp at q2 q3
              · rw [b] at e2; rw [d] at e3 q1; rw [a] at e5
                have HQ := Lib.hid (And.intro q2 q3)
                clear q2 q3 a b d HQ
                have hz : r ≤ z := of_decide_eq_true q1.symm
                clear q1
                go_wp2
                go_roundw
                case rel => exact ⟨k + 1, by go_num, by omega, by trivial⟩
                case measure => simp [intOf]; omega
              · rw [a] at q3; rw [b] at q2 q3; rw [d] at q2; simp at q2 q3
              · rw [a] at q3; rw [b] at q2 q3; rw [d] at q2; simp at q2 q3
              · rw [a] at q3; rw [b] at q2 q3; rw [d] at q2; simp at q2 q3
              · rw [b] at e2; rw [d] at e3 q1; rw [a] at e5
                have HQ := Lib.hid (And.intro q2 q3)
                clear q2 q3 a b d HQ
                have hz : r ≤ z := of_decide_eq_true q1.symm
                clear q1
                go_wp2
                go_roundw
                case rel => exact ⟨k + 1, by go_num, by omega, by trivial⟩
                case measure => simp [intOf]; omega
            · obtain rfl : k = nb := by omega
              go_wp2_with fail
              refine (awake_any _).mono ?_
              rintro e w9 ⟨rfl, hx⟩
              have EF : Hid (Ext W w9) := Lib.hid (HB.out.trans (HY3.out.trans hx)); clear hx
              go_wp2
              go_ret
              exact ⟨rfl, EF.out⟩
end Go.Proofs.Ytilcbbdmenknfab
