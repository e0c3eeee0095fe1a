/- Energies and labellings of the program and of the reference are the same. · The law WaxLabels. -/
import Derived.Test.YtilcbbdmenknfaaM22
import Derived.Test.YtilcbbdmenknfaaM24
import Derived.Test.YtilcbbdmenknfaaM14
namespace Go.Proofs.Ytilcbbdmenknfaa
open Go.RowKit

theorem vCl_cut (c : Cl) : vCl c.cut = vCl c := by
  unfold vCl Cl.cut
  dsimp only
  cases q1 : bw c.w 1 6
  · simp
  · cases q2 : bw c.h 1 6
    · simp
    · obtain ⟨w1, w2⟩ := bw_iff.1 q1
      obtain ⟨h1, h2⟩ := bw_iff.1 q2
      have a1 := (side_prod (show 0 ≤ c.w by omega) w2 (show 0 ≤ c.h by omega) h2).2
      have a2 := (side_prod (show 0 ≤ c.w - 1 by omega) (show c.w - 1 ≤ 5 by omega) (show 0 ≤ c.h by omega) h2).2
      have a3 := (side_prod (show 0 ≤ c.w by omega) w2 (show 0 ≤ c.h - 1 by omega) (show c.h - 1 ≤ 5 by omega)).2
      rw [okL_cut (by omega), okL_cut (by omega), okL_cut (by omega), okL_cut (by omega)]
theorem cut_same {c : Cl} (h : vCl c = true) : c.cut = c := by
  obtain ⟨⟨w1, w2⟩, ⟨h1, h2⟩, ⟨v5, -⟩, ⟨v7, -⟩, ⟨v9, -⟩, ⟨v11, -⟩⟩ := vCl_ok h
  have a1 := (side_prod (show 0 ≤ c.w by omega) w2 (show 0 ≤ c.h by omega) h2).2
  have a2 := (side_prod (show 0 ≤ c.w - 1 by omega) (show c.w - 1 ≤ 5 by omega) (show 0 ≤ c.h by omega) h2).2
  have a3 := (side_prod (show 0 ≤ c.w by omega) w2 (show 0 ≤ c.h - 1 by omega) (show c.h - 1 ≤ 5 by omega)).2
  have e1 : min c.nb 50 = c.nb := by omega
  have e2 : min c.nx 50 = c.nx := by omega
  have e3 : min c.nr 50 = c.nr := by omega
  have e4 : min c.nd 50 = c.nd := by omega
  unfold Cl.cut
  rw [e1, e2, e3, e4]
theorem vCl_nb {c : Cl} (h : vCl c = true) : c.nb ≤ 36 := by
  obtain ⟨⟨w1, w2⟩, ⟨h1, h2⟩, ⟨v5, -⟩, -⟩ := vCl_ok h
  have a1 := (side_prod (show 0 ≤ c.w by omega) w2 (show 0 ≤ c.h by omega) h2).2
  omega
theorem energy_both (c : Cl) (ri : Int) (n : Nat) (l : Nat → Bool) : ∃ (v er : Int),
    (∀ V LV W, Kl W V c.cut → Bl W LV n l → Calls Try.prog 38 #[V, .int .i64 ri, LV] W fun e W' => e = .returned (.tuple #[.int .i64 v, .int .i64 er]) ∧ Ext W W') ∧
    (∀ V LV W, Kl W V c → Bl W LV n l → Calls Try.prog 40 #[V, .int .i64 ri, LV] W fun e W' => e = .returned (.tuple #[.int .i64 v, .int .i64 er]) ∧ Ext W W') := by
  cases hv : (vCl c && bw ri (-10000) 10000)
  · refine ⟨0, 2, fun V LV W hV hL => ?_, fun V LV W hV hL => ?_⟩
    · refine (energy_any _ ri n l V LV W hV hL).mono ?_
      rintro e w ⟨v, er, rfl, hx, ⟨-, rfl, rfl⟩ | ⟨h1, -⟩ | ⟨h1, -⟩⟩
      · exact ⟨rfl, hx⟩
      · rw [vCl_cut, hv] at h1; cases h1
      · rw [vCl_cut, hv] at h1; cases h1
    · refine (energyR_any _ ri n l V LV W hV hL).mono ?_
      rintro e w ⟨v, er, rfl, hx, ⟨-, rfl, rfl⟩ | ⟨h1, -⟩ | ⟨h1, -⟩⟩
      · exact ⟨rfl, hx⟩
      · rw [hv] at h1; cases h1
      · rw [hv] at h1; cases h1
  · have hc : c.cut = c := cut_same (by rw [Bool.and_eq_true] at hv; exact hv.1)
    rw [hc]
    by_cases hn : n = c.nb
    · refine ⟨c.en ri l, 0, fun V LV W hV hL => ?_, fun V LV W hV hL => ?_⟩
      · refine (energy_any _ ri n l V LV W hV hL).mono ?_
        rintro e w ⟨v, er, rfl, hx, ⟨h1, -⟩ | ⟨-, h1, -⟩ | ⟨-, -, rfl, rfl⟩⟩
        · rw [hv] at h1; cases h1
        · exact absurd hn h1
        · exact ⟨rfl, hx⟩
      · refine (energyR_any _ ri n l V LV W hV hL).mono ?_
        rintro e w ⟨v, er, rfl, hx, ⟨h1, -⟩ | ⟨-, h1, -⟩ | ⟨-, -, rfl, rfl⟩⟩
        · rw [hv] at h1; cases h1
        · exact absurd hn h1
        · exact ⟨rfl, hx⟩
    · refine ⟨0, 3, fun V LV W hV hL => ?_, fun V LV W hV hL => ?_⟩
      · refine (energy_any _ ri n l V LV W hV hL).mono ?_
        rintro e w ⟨v, er, rfl, hx, ⟨h1, -⟩ | ⟨-, -, rfl, rfl⟩ | ⟨-, h1, -⟩⟩
        · rw [hv] at h1; cases h1
        · exact ⟨rfl, hx⟩
        · exact absurd h1 hn
      · refine (energyR_any _ ri n l V LV W hV hL).mono ?_
        rintro e w ⟨v, er, rfl, hx, ⟨h1, -⟩ | ⟨-, -, rfl, rfl⟩ | ⟨-, h1, -⟩⟩
        · rw [hv] at h1; cases h1
        · exact ⟨rfl, hx⟩
        · exact absurd h1 hn

set_option maxHeartbeats 4000000 in
set_option maxRecDepth 100000 in
theorem labelsRS_any (c : Cl) (ri : Int) (V : Value) (W : World) (hV : Kl W V c) :
    Calls Try.prog 42 #[V, .int .i64 ri] W fun e W' => ∃ (F G : Value) (er : Int), e = .returned (.tuple #[F, G, .int .i64 er]) ∧ Ext W W' ∧
      (((vCl c && bw ri (-10000) 10000) = false ∧ F = .slice none 0 0 ∧ G = .slice none 0 0 ∧ er = 2) ∨
       ((vCl c && bw ri (-10000) 10000) = true ∧ er = 0 ∧ ∃ L M, Bl W' F c.nb L ∧ Bl W' G c.nb M ∧ Lst (c.nwa ri).nw (c.nb + 2) c.nb (c.nb + 1) L ∧ Gst (c.nwa ri).nw (c.nb + 2) c.nb (c.nb + 1) M)) := by
  have HV := Lib.hid hV
  obtain ⟨B, X, R, D, rfl, -, -, -, -⟩ := hV
  obtain ⟨w, hw⟩ : ∃ w, w = c.w := ⟨_, rfl⟩
  obtain ⟨h, hh⟩ : ∃ h, h = c.h := ⟨_, rfl⟩
  rw [← hw, ← hh] at HV ⊢
  clear hw hh
  go_enter Try.func42, Try.ntmps42
  go_upto_region 1 with fail
  have bb := al1 W (.cells #[.int .i64 w, .int .i64 h, B, X, R, D] 68)
  obtain ⟨m0, m1, m2, m3, m4, m5, mz, -⟩ := six (heap_alloc_new W (.cells #[.int .i64 w, .int .i64 h, B, X, R, D] 68))
  generalize W.alloc (.cells #[.int .i64 w, .int .i64 h, B, X, R, D] 68) = W1 at *
  have HB : Hid (Ext W W1) := Lib.hid bb
  have HM := Lib.hid (And.intro m0 (And.intro m1 (And.intro m2 (And.intro m3 (And.intro m4 m5)))))
  clear bb
  go_wp2_with fail
  refine (wovenR_any c _ _ (HV.out.ext HB.out)).mono ?_
  rintro e w2 ⟨rfl, hx⟩
  have HX : Hid (Ext W1 w2) := Lib.hid hx
  clear hx m0 m1 m2 m3 m4 m5
  cases hv : vCl c
  · have HV0 := Lib.hid hv
    clear hv
    go_wp2
    refine bodyPost_ret (v := .tuple #[.slice none 0 0, .slice none 0 0, .int .i64 2]) (by simp [results, Try.results42, go_sem]) rfl ⟨_, _, 2, rfl, HB.out.trans HX.out, .inl ⟨by rw [HV0.out]; rfl, rfl, rfl, rfl⟩⟩
  · have HVC := Lib.hid hv
    clear hv
    go_wp2_with fail
    refine (rise_any _ _).mono ?_
    rintro e w0 ⟨rfl, rfl⟩
    cases hq : bw ri (-10000) 10000
    · have HQ0 := Lib.hid hq
      clear hq
      go_wp2
      refine bodyPost_ret (v := .tuple #[.slice none 0 0, .slice none 0 0, .int .i64 2]) (by simp [results, Try.results42, go_sem]) rfl ⟨_, _, 2, rfl, HB.out.trans HX.out, .inl ⟨by rw [HQ0.out, Bool.and_false], rfl, rfl, rfl⟩⟩
    · obtain ⟨hr1, hr2⟩ := bw_iff.1 hq
      have HOK : Hid ((vCl c && bw ri (-10000) 10000) = true) := Lib.hid (by rw [HVC.out, hq]; rfl)
      clear hq
      have m0 := keepAt HX.out mz HM.out.1
      have m1 := keepAt HX.out mz HM.out.2.1
      have m2 := keepAt HX.out mz HM.out.2.2.1
      have m3 := keepAt HX.out mz HM.out.2.2.2.1
      have m4 := keepAt HX.out mz HM.out.2.2.2.2.1
      have m5 := keepAt HX.out mz HM.out.2.2.2.2.2
      go_wp2_with fail
      refine (labelsR_any c ri _ _ (HV.out.ext (HB.out.trans HX.out)) HVC.out (by omega) (by omega)).mono ?_
      clear m0 m1 m2 m3 m4 m5
      rintro e w3 ⟨F, G, L, M, rfl, hF, hG, hL, hM, hx⟩
      have HH := Lib.hid (And.intro hF (And.intro hG (And.intro hL hM)))
      have EX := Lib.hid (HB.out.trans (HX.out.trans hx))
      clear hF hG hL hM hx
      go_wp2
      refine bodyPost_ret (v := .tuple #[F, G, .int .i64 0]) (by simp [results, Try.results42, go_sem]) rfl ⟨_, _, 0, rfl, EX.out, .inr ⟨HOK.out, rfl, L, M, HH.out.1, HH.out.2.1, HH.out.2.2.1, HH.out.2.2.2⟩⟩

theorem labels_both (c : Cl) (ri : Int) : ∃ (n : Nat) (L M : Nat → Bool) (er : Int), n ≤ 36 ∧
    (∀ V W, Kl W V c.cut → Calls Try.prog 41 #[V, .int .i64 ri] W fun e W' => ∃ F G, e = .returned (.tuple #[F, G, .int .i64 er]) ∧ Bl W' F n L ∧ Bl W' G n M ∧ Ext W W') ∧
    (∀ V W, Kl W V c → Calls Try.prog 42 #[V, .int .i64 ri] W fun e W' => ∃ F G, e = .returned (.tuple #[F, G, .int .i64 er]) ∧ Bl W' F n L ∧ Bl W' G n M ∧ Ext W W') := by
  cases hv : (vCl c && bw ri (-10000) 10000)
  · refine ⟨0, fun _ => false, fun _ => false, 2, by omega, fun V W hV => ?_, fun V W hV => ?_⟩
    · refine (labels_any _ ri V W hV).mono ?_
      rintro e w ⟨F, G, er, rfl, hx, ⟨-, rfl, rfl, rfl⟩ | ⟨h1, -⟩⟩
      · exact ⟨_, _, rfl, bl_nil _ _, bl_nil _ _, hx⟩
      · rw [vCl_cut, hv] at h1; cases h1
    · refine (labelsRS_any _ ri V W hV).mono ?_
      rintro e w ⟨F, G, er, rfl, hx, ⟨-, rfl, rfl, rfl⟩ | ⟨h1, -⟩⟩
      · exact ⟨_, _, rfl, bl_nil _ _, bl_nil _ _, hx⟩
      · rw [hv] at h1; cases h1
  · have hvc : vCl c = true := by rw [Bool.and_eq_true] at hv; exact hv.1
    have hc : c.cut = c := cut_same hvc
    obtain ⟨L0, hL0⟩ : ∃ L0 : Nat → Bool, ∀ L, Lst (c.nwa ri).nw (c.nb + 2) c.nb (c.nb + 1) L → ∀ v, v < c.nb + 2 → L v = L0 v := by
      by_cases h : ∃ L, Lst (c.nwa ri).nw (c.nb + 2) c.nb (c.nb + 1) L
      · obtain ⟨L, hL⟩ := h
        exact ⟨L, fun M hM => lst_same hM hL⟩
      · exact ⟨fun _ => false, fun L hL => absurd ⟨L, hL⟩ h⟩
    obtain ⟨M0, hM0⟩ : ∃ L0 : Nat → Bool, ∀ L, Gst (c.nwa ri).nw (c.nb + 2) c.nb (c.nb + 1) L → ∀ v, v < c.nb + 2 → L v = L0 v := by
      by_cases h : ∃ L, Gst (c.nwa ri).nw (c.nb + 2) c.nb (c.nb + 1) L
      · obtain ⟨L, hL⟩ := h
        exact ⟨L, fun M hM => gst_same hM hL⟩
      · exact ⟨fun _ => false, fun L hL => absurd ⟨L, hL⟩ h⟩
    rw [hc]
    refine ⟨c.nb, L0, M0, 0, vCl_nb hvc, fun V W hV => ?_, fun V W hV => ?_⟩
    · refine (labels_any _ ri V W hV).mono ?_
      rintro e w ⟨F, G, er, rfl, hx, ⟨h1, -⟩ | ⟨-, rfl, L, M, hF, hG, hL, hM⟩⟩
      · rw [hv] at h1; cases h1
      · exact ⟨_, _, rfl, hF.congr fun j hj => hL0 L hL j (by omega), hG.congr fun j hj => hM0 M hM j (by omega), hx⟩
    · refine (labelsRS_any _ ri V W hV).mono ?_
      rintro e w ⟨F, G, er, rfl, hx, ⟨h1, -⟩ | ⟨-, rfl, L, M, hF, hG, hL, hM⟩⟩
      · rw [hv] at h1; cases h1
      · exact ⟨_, _, rfl, hF.congr fun j hj => hL0 L hL j (by omega), hG.congr fun j hj => hM0 M hM j (by omega), hx⟩
end Go.Proofs.Ytilcbbdmenknfaa
namespace Go.Proofs.Ytilcbbdmenknfaa
open Go.RowKit

set_option maxHeartbeats 4000000 in
set_option maxRecDepth 100000 in
theorem waxLabels_walk (c : Cl) (ri : Int) (nl_ : Nat) (l : Nat → Bool) (V LV : Value) (W : World) (hV : Kl W V c) (hL : Bl W LV nl_ l) :
    Calls Try.prog 11 #[V, .int .i64 ri, LV] W fun e W' => e = .returned (.bool true) ∧ Ext W W' := by
  obtain ⟨v1, er1, hp1, hr1⟩ := energy_both c ri nl_ l
  obtain ⟨n2, L2, M2, er2, hn2, hp2, hr2⟩ := labels_both c ri
  have HP1 := Lib.hid hp1; have HR1 := Lib.hid hr1; have HP2 := Lib.hid hp2; have HR2 := Lib.hid hr2
  have HV := Lib.hid hV; have HA := Lib.hid hL
  obtain ⟨A1, cLa, rfl, hc1, hd1, -⟩ := hL
  obtain ⟨B, X, R, D, rfl, -, -, -, -⟩ := hV
  obtain ⟨C, hC⟩ : ∃ C, C = c.cut := ⟨_, rfl⟩
  rw [← hC] at HP1 HP2
  obtain ⟨w, hw⟩ : ∃ w, w = c.w := ⟨_, rfl⟩
  obtain ⟨h, hh⟩ : ∃ h, h = c.h := ⟨_, rfl⟩
  rw [← hw, ← hh] at HV ⊢
  have hcl : ∀ X1, Ext W X1 → Calls Try.prog 39 #[.agg #[.int .i64 w, .int .i64 h, B, X, R, D]] X1 fun e W' => ∃ U, e = .returned U ∧ Kl W' U C ∧ Ext X1 W' := fun X1 hX1 => by
    rw [hC]; exact cloth_any c _ X1 (HV.out.ext hX1)
  have HCL := Lib.hid hcl
  clear hcl hC hp1 hr1 hp2 hr2 hw hh
  go_enter Try.func11, Try.ntmps11
  go_upto_region 1 with fail
  have bb := al1 W (.cells #[.int .i64 w, .int .i64 h, B, X, R, D] 68)
  obtain ⟨m0, m1, m2, m3, m4, m5, mz, -⟩ := six (heap_alloc_new W (.cells #[.int .i64 w, .int .i64 h, B, X, R, D] 68))
  generalize W.alloc (.cells #[.int .i64 w, .int .i64 h, B, X, R, D] 68) = W1 at *
  have HB : Hid (Ext W W1) := Lib.hid bb
  have HM := Lib.hid (And.intro m0 (And.intro m1 (And.intro m2 (And.intro m3 (And.intro m4 m5)))))
  clear bb
  go_wp2_with fail
  refine (HCL.out _ HB.out).mono ?_
  clear m0 m1 m2 m3 m4 m5
  rintro e x1 ⟨U1, rfl, hk, hx⟩
  have HK1 := Lib.hid hk
  have HX1 : Hid (Ext W1 x1) := Lib.hid hx
  clear hk hx
  go_wp2_with fail
  refine (HP1.out _ _ _ HK1.out (HA.out.ext (HB.out.trans HX1.out))).mono ?_
  rintro e y1 ⟨rfl, hx⟩
  have HY1 : Hid (Ext W1 y1) := Lib.hid (HX1.out.trans hx)
  clear hx
  have m0 := keepAt HY1.out mz HM.out.1
  have m1 := keepAt HY1.out mz HM.out.2.1
  have m2 := keepAt HY1.out mz HM.out.2.2.1
  have m3 := keepAt HY1.out mz HM.out.2.2.2.1
  have m4 := keepAt HY1.out mz HM.out.2.2.2.2.1
  have m5 := keepAt HY1.out mz HM.out.2.2.2.2.2
  go_wp2_with fail
  refine (HR1.out _ _ _ (HV.out.ext (HB.out.trans HY1.out)) (HA.out.ext (HB.out.trans HY1.out))).mono ?_
  clear m0 m1 m2 m3 m4 m5
  rintro e y2 ⟨rfl, hx⟩
  have HY2 : Hid (Ext W1 y2) := Lib.hid (HY1.out.trans hx)
  clear hx
  have m0 := keepAt HY2.out mz HM.out.1
  have m1 := keepAt HY2.out mz HM.out.2.1
  have m2 := keepAt HY2.out mz HM.out.2.2.1
  have m3 := keepAt HY2.out mz HM.out.2.2.2.1
  have m4 := keepAt HY2.out mz HM.out.2.2.2.2.1
  have m5 := keepAt HY2.out mz HM.out.2.2.2.2.2
  go_wp2_with fail
  refine (HCL.out _ (HB.out.trans HY2.out)).mono ?_
  clear m0 m1 m2 m3 m4 m5
  rintro e x3 ⟨U3, rfl, hk, hx⟩
  have HK3 := Lib.hid hk
  have HX3 : Hid (Ext W1 x3) := Lib.hid (HY2.out.trans hx)
  clear hk hx
  go_wp2_with fail
  refine (HP2.out _ _ HK3.out).mono ?_
  rintro e y3 ⟨F1, G1, rfl, hf, hg, hx⟩
  have HY3 : Hid (Ext W1 y3) := Lib.hid (HX3.out.trans hx)
  have HF1 := Lib.hid hf; have HG1 := Lib.hid hg
  obtain ⟨af1, cf1, rfl, -, -, -⟩ := hf
  obtain ⟨ag1, cg1, rfl, -, -, -⟩ := hg
  clear hx
  have m0 := keepAt HY3.out mz HM.out.1
  have m1 := keepAt HY3.out mz HM.out.2.1
  have m2 := keepAt HY3.out mz HM.out.2.2.1
  have m3 := keepAt HY3.out mz HM.out.2.2.2.1
  have m4 := keepAt HY3.out mz HM.out.2.2.2.2.1
  have m5 := keepAt HY3.out mz HM.out.2.2.2.2.2
  go_wp2_with fail
  refine (HR2.out _ _ (HV.out.ext (HB.out.trans HY3.out))).mono ?_
  clear m0 m1 m2 m3 m4 m5
  rintro e y4 ⟨F2, G2, rfl, hf, hg, hx⟩
  have HY4 : Hid (Ext W1 y4) := Lib.hid (HY3.out.trans hx)
  replace HF1 := Lib.hid (HF1.out.ext hx)
  replace HG1 := Lib.hid (HG1.out.ext hx)
  have HF2 := Lib.hid hf; have HG2 := Lib.hid hg
  obtain ⟨af2, cf2, rfl, -, -, -⟩ := hf
  obtain ⟨ag2, cg2, rfl, -, -, -⟩ := hg
  clear hx
  go_wp2_with fail
  refine (equalB_any n2 n2 L2 L2 _ _ _ HF1.out HF2.out (by omega)).mono ?_
  rintro e y5 ⟨rfl, hx⟩
  have ht : eqB n2 n2 L2 L2 = true := eqB_iff.2 ⟨rfl, fun i _ => rfl⟩
  rw [ht]
  have HY5 : Hid (Ext W1 y5) := Lib.hid (HY4.out.trans hx)
  replace HG1 := Lib.hid (HG1.out.ext hx)
  replace HG2 := Lib.hid (HG2.out.ext hx)
  clear hx ht
  go_wp2_with fail
  refine (equalB_any n2 n2 M2 M2 _ _ _ HG1.out HG2.out (by omega)).mono ?_
  rintro e y6 ⟨rfl, hx⟩
  have ht : eqB n2 n2 M2 M2 = true := eqB_iff.2 ⟨rfl, fun i _ => rfl⟩
  rw [ht]
  have HY6 : Hid (Ext W1 y6) := Lib.hid (HY5.out.trans hx)
  clear hx ht
  go_wp2_with fail
  refine (awake_any _).mono ?_
  rintro e w9 ⟨rfl, hx⟩
  have EF : Hid (Ext W w9) := Lib.hid (HB.out.trans (HY6.out.trans hx)); clear hx
  go_wp2
  go_ret
  exact ⟨rfl, EF.out⟩
end Go.Proofs.Ytilcbbdmenknfaa
