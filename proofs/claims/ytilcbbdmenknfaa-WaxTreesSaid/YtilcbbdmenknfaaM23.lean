/- Walks: Labels. · Walks: stageOf. -/
import Derived.Test.YtilcbbdmenknfaaM22
import Derived.RegionTactic
import Derived.ChangeAlike
namespace Go.Proofs.Ytilcbbdmenknfaa
open Go.RowKit

theorem bl_cut {w : World} {g n N : Nat} {s : Nat → Bool} (h : BB w g N s) (hn : n ≤ N) (hN : N ≤ 9223372036854775807) : Bl w (.slice (some ⟨g, 0, none⟩) n N) n s :=
  ⟨_, N, rfl, hn, hN, fun hp => ⟨g, 0, rfl, Bk.lt h, fun j hj => by rw [Nat.zero_add]; exact Bk.cell h (show j < N by omega)⟩⟩

set_option maxHeartbeats 4000000 in
set_option maxRecDepth 100000 in
theorem labels_any (c : Cl) (ri : Int) (V : Value) (W : World) (hV : Kl W V c) :
    Calls Try.prog 41 #[V, .int .i64 ri] W fun e W' => ∃ (F G : Value) (er : Int), e = .returned (.tuple #[F, G, .int .i64 er]) ∧ Ext W W' ∧
      (((vCl c && bw ri (-10000) 10000) = false ∧ F = .slice none 0 0 ∧ G = .slice none 0 0 ∧ er = 2) ∨
       ((vCl c && bw ri (-10000) 10000) = true ∧ er = 0 ∧ ∃ L M, Bl W' F c.nb L ∧ Bl W' G c.nb M ∧ Lst (c.nwa ri).nw (c.nb + 2) c.nb (c.nb + 1) L ∧ Gst (c.nwa ri).nw (c.nb + 2) c.nb (c.nb + 1) M)) := by
  have HV := Lib.hid hV
  obtain ⟨B, X, R, D, rfl, -, -, -, -⟩ := hV
  obtain ⟨w, hw⟩ : ∃ w, w = c.w := ⟨_, rfl⟩
  obtain ⟨h, hh⟩ : ∃ h, h = c.h := ⟨_, rfl⟩
  rw [← hw, ← hh] at HV ⊢
  have HWH := Lib.hid (And.intro hw hh)
  clear hw hh
  go_enter Try.func41, Try.ntmps41
  go_upto_region 1 with fail
  have bb := al1 W (.cells #[.int .i64 w, .int .i64 h, B, X, R, D] 70)
  obtain ⟨m0, m1, m2, m3, m4, m5, mz, -⟩ := six (heap_alloc_new W (.cells #[.int .i64 w, .int .i64 h, B, X, R, D] 70))
  generalize W.alloc (.cells #[.int .i64 w, .int .i64 h, B, X, R, D] 70) = W1 at *
  have HB : Hid (Ext W W1) := Lib.hid bb
  have HM := Lib.hid (And.intro m0 (And.intro m1 (And.intro m2 (And.intro m3 (And.intro m4 m5)))))
  clear bb
  go_wp2_with fail
  refine (isCloth_any c _ _ (HV.out.ext HB.out)).mono ?_
  rintro e w2 ⟨rfl, hx⟩
  have HX : Hid (Ext W1 w2) := Lib.hid hx
  clear hx m0 m1 m2 m3 m4 m5
  cases hv : vCl c
  · have HV0 := Lib.hid hv
    clear hv
    go_wp2
    refine bodyPost_ret (v := .tuple #[.slice none 0 0, .slice none 0 0, .int .i64 2]) (by simp [results, Try.results41, go_sem]) rfl ⟨_, _, 2, rfl, HB.out.trans HX.out, .inl ⟨by rw [HV0.out]; rfl, rfl, rfl, rfl⟩⟩
  · have HVC := Lib.hid hv
    clear hv
    go_wp2_with fail
    refine (isBetween_bw _ _ _ _).mono ?_
    rintro e w0 ⟨rfl, rfl⟩
    cases hq : bw ri (-10000) 10000
    · have HQ0 := Lib.hid hq
      clear hq
      go_wp2
      refine bodyPost_ret (v := .tuple #[.slice none 0 0, .slice none 0 0, .int .i64 2]) (by simp [results, Try.results41, go_sem]) rfl ⟨_, _, 2, rfl, HB.out.trans HX.out, .inl ⟨by rw [HQ0.out, Bool.and_false], rfl, rfl, rfl⟩⟩
    · obtain ⟨hr1, hr2⟩ := bw_iff.1 hq
      have HOK : Hid ((vCl c && bw ri (-10000) 10000) = true) := Lib.hid (by rw [HVC.out, hq]; rfl)
      clear hq
      have m0 := keepAt HX.out mz HM.out.1
      have m1 := keepAt HX.out mz HM.out.2.1
      have m2 := keepAt HX.out mz HM.out.2.2.1
      have m3 := keepAt HX.out mz HM.out.2.2.2.1
      have m4 := keepAt HX.out mz HM.out.2.2.2.2.1
      have m5 := keepAt HX.out mz HM.out.2.2.2.2.2
      go_wp2_with fail
      refine (networkOf_any c ri _ _ (HV.out.ext (HB.out.trans HX.out)) HVC.out (by omega) (by omega)).mono ?_
      clear m0 m1 m2 m3 m4 m5
      rintro e w3 ⟨AV, SV, rfl, hal, hsl, hx⟩
      have HX3 : Hid (Ext W1 w3) := Lib.hid (HX.out.trans hx)
      have HAL := Lib.hid hal; have HSL := Lib.hid hsl
      have hok := nwa_ok HVC.out (r := ri) (by omega) (by omega)
      have HO := Lib.hid hok
      have hfacts := vCl_ok HVC.out
      have hnb36 : c.nb ≤ 36 := by
        obtain ⟨⟨v1, v2⟩, ⟨v3, v4⟩, ⟨v5, -⟩, -⟩ := hfacts
        have h1 := (side_prod (show 0 ≤ c.w by omega) v2 (show 0 ≤ c.h by omega) v4).2
        omega
      have hnb1 : 1 ≤ c.nb := by
        obtain ⟨⟨v1, v2⟩, ⟨v3, v4⟩, ⟨v5, -⟩, -⟩ := hfacts
        have h1 : 1 * 1 ≤ c.w * c.h := Int.mul_le_mul v1 v3 (by omega) (by omega)
        omega
      have hna : (c.nwa ri).n ≤ 160 := by
        obtain ⟨⟨v1, v2⟩, ⟨v3, v4⟩, -, -, ⟨v9, -⟩, ⟨v11, -⟩⟩ := hfacts
        have hnr30 : c.nr ≤ 30 := by have h1 := (side_prod (show 0 ≤ c.w - 1 by omega) (show c.w - 1 ≤ 5 by omega) (show 0 ≤ c.h by omega) v4).2; omega
        have hnd30 : c.nd ≤ 30 := by have h1 := (side_prod (show 0 ≤ c.w by omega) v2 (show 0 ≤ c.h - 1 by omega) (show c.h - 1 ≤ 5 by omega)).2; omega
        show c.nb + 2 * (c.nr + c.nd) ≤ 160
        omega
      have hwh : w * h = (c.nb : Int) := by rw [HWH.out.1, HWH.out.2]; exact hfacts.2.2.1.1.symm
      clear hfacts hal hok
      obtain ⟨na, hnaa⟩ : ∃ a, a = c.nwa ri := ⟨_, rfl⟩
      obtain ⟨nb, hnb⟩ : ∃ n, n = c.nb := ⟨_, rfl⟩
      obtain ⟨N, hN⟩ : ∃ N, N = nb + 2 := ⟨_, rfl⟩
      obtain ⟨T, hT⟩ : ∃ T, T = nb + 1 := ⟨_, rfl⟩
      rw [← hnaa] at HAL HSL HO hna
      rw [← hnb] at hnb36 hnb1 hwh HSL HO
      rw [← hN] at HSL HO
      have HNN := Lib.hid (And.intro hnaa (And.intro hnb (And.intro hN hT)))
      have hT2 : (nb : Int) + 1 = (T : Int) := by omega
      have hnbN : nb ≤ N := by omega
      have hnbT : nb ≠ T := by omega
      have hsT : T < N := by omega
      have hsn : nb < N := by omega
      have hN40 : N ≤ 40 := by omega
      rw [← hnb, hT2]
      obtain ⟨A0, ca, rfl, -, -, -⟩ := HAL.out
      obtain ⟨gs, cs, e9, -, -, -⟩ := HSL.out
      subst e9
      clear hnaa hnb hN hT hx hsl
      go_wp2_with fail
      refine (fill_any na N nb T _ 2000000 _ (.slice (some ⟨gs, 0, none⟩) N cs) (stf na.nw na.n) _ HAL.out HO.out (by omega) (by omega) (by omega) HSL.out (stf_stp na.nw N) hsn hsT hnbT).mono ?_
      rintro e w4 ⟨x, gl, rfl, hgl, hbi, hfull, hx⟩
      have HX4 : Hid (Ext W1 w4) := Lib.hid (HX3.out.trans hx)
      have HBI := Lib.hid hbi; have HFULL := Lib.hid hfull
      replace HAL := Lib.hid (HAL.out.ext hx)
      replace HSL := Lib.hid (HSL.out.ext hx)
      clear hbi hfull hx
      go_upto_region 4 with fail
      have bb5 := al1 w4 (.cells #[.int .i64 nb, .int .i64 T, .slice A0 na.n ca, .slice (some ⟨gs, 0, none⟩) N cs, .slice (some ⟨gl, 0, none⟩) (2 * na.n) (2 * na.n)] 87)
      obtain ⟨p0, p1, p2, p3, p4, p5, p6⟩ := five (heap_alloc_new w4 (.cells #[.int .i64 nb, .int .i64 T, .slice A0 na.n ca, .slice (some ⟨gs, 0, none⟩) N cs, .slice (some ⟨gl, 0, none⟩) (2 * na.n) (2 * na.n)] 87))
      generalize w4.alloc (.cells #[.int .i64 nb, .int .i64 T, .slice A0 na.n ca, .slice (some ⟨gs, 0, none⟩) N cs, .slice (some ⟨gl, 0, none⟩) (2 * na.n) (2 * na.n)] 87) = w5 at *
      have H5 : Hid (Ext w4 w5) := Lib.hid bb5
      have HP5 := Lib.hid (And.intro p0 (And.intro p1 (And.intro p2 (And.intro p3 p4))))
      have HW5 : Hid (w5.cell? ⟨W.heap.size, 0, none⟩ = some (.int .i64 w) ∧ w5.cell? ⟨W.heap.size, 1, none⟩ = some (.int .i64 h)) := Lib.hid ⟨keepAt (HX4.out.trans H5.out) mz HM.out.1, keepAt (HX4.out.trans H5.out) mz HM.out.2.1⟩
      have mz5 : W.heap.size < w5.heap.size := Nat.lt_of_lt_of_le mz (HX4.out.trans H5.out).size
      have pz : w4.heap.size < w5.heap.size := by first | exact p6 | exact p5 | omega
      clear bb5 p0 p1 p2 p3 p4 p5 p6
      refine wp_region_noPanic ?_
      refine wp_region_held_drew (S := fun X => Ext w5 X) (by kernel_rfl) (Ext.drw (Ext.refl _)) (fun _ => ?_)
      refine take_at 0 (some 20) (.agg #[.int .i64 nb, .int .i64 T, .slice A0 na.n ca, .slice (some ⟨gs, 0, none⟩) N cs, .slice (some ⟨gl, 0, none⟩) (2 * na.n) (2 * na.n)]) rfl rfl (by kernel_rfl) (by kernel_rfl) (by kernel_rfl) (fun _ _ _ h => h) (Or.inl ⟨by rfl, fun w' hSw => ?_⟩) (Ext.drw (Ext.refl _)) ?_
      · have z0 := keepAt hSw pz HP5.out.1
        have z1 := keepAt hSw pz HP5.out.2.1
        have z2 := keepAt hSw pz HP5.out.2.2.1
        have z3 := keepAt hSw pz HP5.out.2.2.2.1
        have z4 := keepAt hSw pz HP5.out.2.2.2.2
        try clear hSw
        go_simp
        all_goals (with_reducible rfl)
      try simp only [Act.put, List.setIfInBounds_toArray, List.set_cons_zero, List.set_cons_succ]
      refine take_at 2 (some 22) (.pointer (some ⟨W.heap.size, 0, none⟩)) rfl rfl (by kernel_rfl) (by kernel_rfl) (by kernel_rfl) (fun _ _ _ h => h) (Or.inl ⟨by rfl, fun w' hSw => ?_⟩) (Ext.drw (Ext.refl _)) ?_
      · skip
        try clear hSw
        go_simp
        all_goals (with_reducible rfl)
      try simp only [Act.put, List.setIfInBounds_toArray, List.set_cons_zero, List.set_cons_succ]
      refine take_at 3 (some 23) (.int .i64 w) rfl rfl (by kernel_rfl) (by kernel_rfl) (by kernel_rfl) (fun _ _ _ h => h) (Or.inl ⟨by rfl, fun w' hSw => ?_⟩) (Ext.drw (Ext.refl _)) ?_
      · have z0 := keepAt hSw mz5 HW5.out.1
        try clear hSw
        go_simp
        all_goals (with_reducible rfl)
      try simp only [Act.put, List.setIfInBounds_toArray, List.set_cons_zero, List.set_cons_succ]
      refine take_at 4 (some 24) (.pointer (some ⟨W.heap.size, 1, none⟩)) rfl rfl (by kernel_rfl) (by kernel_rfl) (by kernel_rfl) (fun _ _ _ h => h) (Or.inl ⟨by rfl, fun w' hSw => ?_⟩) (Ext.drw (Ext.refl _)) ?_
      · skip
        try clear hSw
        go_simp
        all_goals (with_reducible rfl)
      try simp only [Act.put, List.setIfInBounds_toArray, List.set_cons_zero, List.set_cons_succ]
      refine take_at 5 (some 25) (.int .i64 h) rfl rfl (by kernel_rfl) (by kernel_rfl) (by kernel_rfl) (fun _ _ _ h => h) (Or.inl ⟨by rfl, fun w' hSw => ?_⟩) (Ext.drw (Ext.refl _)) ?_
      · have z1 := keepAt hSw mz5 HW5.out.2
        try clear hSw
        go_simp
        all_goals (with_reducible rfl)
      try simp only [Act.put, List.setIfInBounds_toArray, List.set_cons_zero, List.set_cons_succ]
      refine take_at 6 (some 26) (.int .i64 nb) rfl rfl (by kernel_rfl) (by kernel_rfl) (by kernel_rfl) (fun _ _ _ h => h) (Or.inl ⟨by rfl, fun w' hSw => ?_⟩) (Ext.drw (Ext.refl _)) ?_
      · skip
        try clear hSw
        go_simp
        all_goals (first | (with_reducible rfl) | exact IntWalk.i64_in _ (by omega))
      try simp only [Act.put, List.setIfInBounds_toArray, List.set_cons_zero, List.set_cons_succ]
      refine take_at 10 (some 30) (.pointer (some ⟨W.heap.size, 0, none⟩)) rfl rfl (by kernel_rfl) (by kernel_rfl) (by kernel_rfl) (fun _ _ _ h => h) (Or.inl ⟨by rfl, fun w' hSw => ?_⟩) (Ext.drw (Ext.refl _)) ?_
      · skip
        try clear hSw
        go_simp
        all_goals (with_reducible rfl)
      try simp only [Act.put, List.setIfInBounds_toArray, List.set_cons_zero, List.set_cons_succ]
      refine take_at 11 (some 31) (.int .i64 w) rfl rfl (by kernel_rfl) (by kernel_rfl) (by kernel_rfl) (fun _ _ _ h => h) (Or.inl ⟨by rfl, fun w' hSw => ?_⟩) (Ext.drw (Ext.refl _)) ?_
      · have z0 := keepAt hSw mz5 HW5.out.1
        try clear hSw
        go_simp
        all_goals (with_reducible rfl)
      try simp only [Act.put, List.setIfInBounds_toArray, List.set_cons_zero, List.set_cons_succ]
      refine take_at 12 (some 32) (.pointer (some ⟨W.heap.size, 1, none⟩)) rfl rfl (by kernel_rfl) (by kernel_rfl) (by kernel_rfl) (fun _ _ _ h => h) (Or.inl ⟨by rfl, fun w' hSw => ?_⟩) (Ext.drw (Ext.refl _)) ?_
      · skip
        try clear hSw
        go_simp
        all_goals (with_reducible rfl)
      try simp only [Act.put, List.setIfInBounds_toArray, List.set_cons_zero, List.set_cons_succ]
      refine take_at 13 (some 33) (.int .i64 h) rfl rfl (by kernel_rfl) (by kernel_rfl) (by kernel_rfl) (fun _ _ _ h => h) (Or.inl ⟨by rfl, fun w' hSw => ?_⟩) (Ext.drw (Ext.refl _)) ?_
      · have z1 := keepAt hSw mz5 HW5.out.2
        try clear hSw
        go_simp
        all_goals (with_reducible rfl)
      try simp only [Act.put, List.setIfInBounds_toArray, List.set_cons_zero, List.set_cons_succ]
      refine take_at 14 (some 34) (.int .i64 nb) rfl rfl (by kernel_rfl) (by kernel_rfl) (by kernel_rfl) (fun _ _ _ h => h) (Or.inl ⟨by rfl, fun w' hSw => ?_⟩) (Ext.drw (Ext.refl _)) ?_
      · skip
        try clear hSw
        go_simp
        all_goals (first | (with_reducible rfl) | exact IntWalk.i64_in _ (by omega))
      try simp only [Act.put, List.setIfInBounds_toArray, List.set_cons_zero, List.set_cons_succ]
      refine take_at 8 (some 28) (.agg #[.int .i64 nb, .int .i64 T, .slice A0 na.n ca, .slice (some ⟨gs, 0, none⟩) N cs, .slice (some ⟨gl, 0, none⟩) (2 * na.n) (2 * na.n)]) rfl rfl (by kernel_rfl) (by kernel_rfl) (by kernel_rfl) (fun _ _ _ h => h) (Or.inl ⟨by rfl, fun w' hSw => ?_⟩) (Ext.drw (Ext.refl _)) ?_
      · have z0 := keepAt hSw pz HP5.out.1
        have z1 := keepAt hSw pz HP5.out.2.1
        have z2 := keepAt hSw pz HP5.out.2.2.1
        have z3 := keepAt hSw pz HP5.out.2.2.2.1
        have z4 := keepAt hSw pz HP5.out.2.2.2.2
        try clear hSw
        go_simp
        all_goals (with_reducible rfl)
      try simp only [Act.put, List.setIfInBounds_toArray, List.set_cons_zero, List.set_cons_succ]
      refine wpAnyH_ready (rs := [1]) (by kernel_rfl) (by simp) ?_
      refine AllReadyH.cons rfl (fun K hK => ?_) AllReadyH.nil
      go_simp
      refine (least_any na N nb T (2 * na.n) _ 2000000 _ (.slice (some ⟨gs, 0, none⟩) N cs) gl x _ (HAL.out.ext (H5.out.trans (Ext.drw (Ext.refl _)))) HO.out rfl (by omega) (by omega) (HSL.out.ext (H5.out.trans (Ext.drw (Ext.refl _)))) hsn (HBI.out.ext (H5.out.trans (Ext.drw (Ext.refl _))))).mono ?_
      rintro e v1 ⟨R1, la1, rk1, g1, rfl, hg1, hbr1, hwk1, hb1⟩
      have e1 : Ext w5 v1 := (Ext.drw (Ext.refl _)).trans hb1
      try go_wp2_with fail
      refine hK.out _ _ e1 (fun _ => ?_)
      clear hK K
      try simp only [Act.put, List.setIfInBounds_toArray, List.set_cons_zero, List.set_cons_succ]
      have HR1 := Lib.hid (And.intro hbr1 hwk1)
      clear hbr1 hwk1 hg1
      refine take_at 7 (some 27) (.slice (some ⟨g1, 0, none⟩) nb N) rfl rfl (by kernel_rfl) (by kernel_rfl) (by kernel_rfl) (fun _ _ _ h => h) (Or.inl ⟨by rfl, fun w' hSw => ?_⟩) (e1) ?_
      · skip
        try clear hSw
        go_simp
        all_goals (with_reducible rfl)
      try simp only [Act.put, List.setIfInBounds_toArray, List.set_cons_zero, List.set_cons_succ]
      refine wpAnyH_ready (rs := [9]) (by kernel_rfl) (by simp) ?_
      refine AllReadyH.cons rfl (fun K hK => ?_) AllReadyH.nil
      go_simp
      refine (greatest_any na N nb T (2 * na.n) _ 2000000 _ (.slice (some ⟨gs, 0, none⟩) N cs) gl x _ (HAL.out.ext (H5.out.trans e1)) HO.out rfl (by omega) (by omega) (HSL.out.ext (H5.out.trans e1)) hsT (HBI.out.ext (H5.out.trans e1))).mono ?_
      rintro e v9 ⟨R9, la9, rk9, g9, rfl, hg9, hbr9, hwk9, hb9⟩
      have e9 : Ext w5 v9 := (e1).trans hb9
      try go_wp2_with fail
      refine hK.out _ _ e9 (fun _ => ?_)
      clear hK K
      try simp only [Act.put, List.setIfInBounds_toArray, List.set_cons_zero, List.set_cons_succ]
      have HR9 := Lib.hid (And.intro hbr9 hwk9)
      clear hbr9 hwk9 hg9
      refine take_at 15 (some 35) (.slice (some ⟨g9, 0, none⟩) nb N) rfl rfl (by kernel_rfl) (by kernel_rfl) (by kernel_rfl) (fun _ _ _ h => h) (Or.inl ⟨by rfl, fun w' hSw => ?_⟩) (e9) ?_
      · skip
        try clear hSw
        go_simp
        all_goals (with_reducible rfl)
      try simp only [Act.put, List.setIfInBounds_toArray, List.set_cons_zero, List.set_cons_succ]
      refine take_at 16 (some 4) (.slice (some ⟨g1, 0, none⟩) nb N) rfl rfl (by kernel_rfl) (by kernel_rfl) (by kernel_rfl) (fun _ _ _ h => h) (Or.inl ⟨by rfl, fun w' hSw => ?_⟩) (e9) ?_
      · skip
        try clear hSw
        go_simp
        all_goals (with_reducible rfl)
      try simp only [Act.put, List.setIfInBounds_toArray, List.set_cons_zero, List.set_cons_succ]
      refine take_at 17 (some 5) (.slice (some ⟨g9, 0, none⟩) nb N) rfl rfl (by kernel_rfl) (by kernel_rfl) (by kernel_rfl) (fun _ _ _ h => h) (Or.inl ⟨by rfl, fun w' hSw => ?_⟩) (e9) ?_
      · skip
        try clear hSw
        go_simp
        all_goals (with_reducible rfl)
      try simp only [Act.put, List.setIfInBounds_toArray, List.set_cons_zero, List.set_cons_succ]
      refine take_at 18 (some 6) (.int .i64 0) rfl rfl (by kernel_rfl) (by kernel_rfl) (by kernel_rfl) (fun _ _ _ h => h) (Or.inl ⟨by rfl, fun w' hSw => ?_⟩) (e9) ?_
      · skip
        try clear hSw
        go_simp
        all_goals (with_reducible rfl)
      try simp only [Act.put, List.setIfInBounds_toArray, List.set_cons_zero, List.set_cons_succ]
      refine wpAnyH_done (by kernel_rfl) ?_ _
      refine NoPanic.normal ?_
      have EX := Lib.hid (HB.out.trans (HX4.out.trans (H5.out.trans e9)))
      have HB9 := Lib.hid hb9
      clear e1 e9 hb1 hb9
      go_wp2
      have hI := HO.out.in_
      refine bodyPost_ret (v := .tuple #[.slice (some ⟨g1, 0, none⟩) nb N, .slice (some ⟨g9, 0, none⟩) nb N, .int .i64 0]) (by simp [results, Try.results41, go_sem]) rfl ⟨_, _, 0, rfl, EX.out, .inr ⟨HOK.out, rfl, R1, fun v => !R9 v, ?_, ?_, ?_, ?_⟩⟩
      · rw [← HNN.out.2.1]; exact bl_cut (HR1.out.1.ext HB9.out) hnbN (by omega)
      · rw [← HNN.out.2.1]; exact bl_cut HR9.out.1 hnbN (by omega)
      · rw [← HNN.out.1, ← HNN.out.2.1, ← HNN.out.2.2.1, ← HNN.out.2.2.2]; exact HFULL.out.lst hI hsn hsT HR1.out.2
      · rw [← HNN.out.1, ← HNN.out.2.1, ← HNN.out.2.2.1, ← HNN.out.2.2.2]; exact HFULL.out.gst hI hsn hsT HR9.out.2
end Go.Proofs.Ytilcbbdmenknfaa
namespace Go.Proofs.Ytilcbbdmenknfaa
open Go.RowKit

theorem two_at {w : World} {b : Nat} {t : TypeId} {x0 x1 : Value} (h : w.heap[b]? = some (.cells #[x0, x1] t (0, 0))) : w.cell? ⟨b, 0, none⟩ = some x0 ∧ w.cell? ⟨b, 1, none⟩ = some x1 ∧ (∀ o, w.frozen? ⟨b, o, none⟩ = false) ∧ b < w.heap.size :=
  ⟨cell_of_row w b 0 _ _ (0, 0) h, cell_of_row w b 1 _ _ (0, 0) h, fun o => by simp [World.frozen?, h], (Array.getElem?_eq_some_iff.1 h).1⟩
set_option maxHeartbeats 4000000 in
set_option maxRecDepth 100000 in
theorem stageOf_any (c : Cl) (ri : Int) (V : Value) (W : World) (hV : Kl W V c) (hvc : vCl c = true) (hr1 : -100000 ≤ ri) (hr2 : ri ≤ 100000) :
    Calls Try.prog 75 #[V, .int .i64 ri] W fun e W' => ∃ (g N : Nat) (M : Nat → Bool), e = .returned (.agg #[.int .i64 ri, .slice (some ⟨g, 0, none⟩) c.nb N]) ∧ W.heap.size ≤ g ∧ Bl W' (.slice (some ⟨g, 0, none⟩) c.nb N) c.nb M ∧ Gst (c.nwa ri).nw (c.nb + 2) c.nb (c.nb + 1) M ∧ Ext W W' := by
  have HV := Lib.hid hV; have HVC := Lib.hid hvc
  have hok := nwa_ok hvc (r := ri) (by omega) (by omega)
  have HO := Lib.hid hok
  have hfacts := vCl_ok hvc
  have hnb36 : c.nb ≤ 36 := by
    obtain ⟨⟨v1, v2⟩, ⟨v3, v4⟩, ⟨v5, -⟩, -⟩ := hfacts
    have h1 := (side_prod (show 0 ≤ c.w by omega) v2 (show 0 ≤ c.h by omega) v4).2
    omega
  have hnb1 : 1 ≤ c.nb := by
    obtain ⟨⟨v1, v2⟩, ⟨v3, v4⟩, ⟨v5, -⟩, -⟩ := hfacts
    have h1 : 1 * 1 ≤ c.w * c.h := Int.mul_le_mul v1 v3 (by omega) (by omega)
    omega
  have hna : (c.nwa ri).n ≤ 160 := by
    obtain ⟨⟨v1, v2⟩, ⟨v3, v4⟩, -, -, ⟨v9, -⟩, ⟨v11, -⟩⟩ := hfacts
    have hnr30 : c.nr ≤ 30 := by have h1 := (side_prod (show 0 ≤ c.w - 1 by omega) (show c.w - 1 ≤ 5 by omega) (show 0 ≤ c.h by omega) v4).2; omega
    have hnd30 : c.nd ≤ 30 := by have h1 := (side_prod (show 0 ≤ c.w by omega) v2 (show 0 ≤ c.h - 1 by omega) (show c.h - 1 ≤ 5 by omega)).2; omega
    show c.nb + 2 * (c.nr + c.nd) ≤ 160
    omega
  obtain ⟨B, X, R, D, rfl, -, -, -, -⟩ := hV
  obtain ⟨w, hw⟩ : ∃ w, w = c.w := ⟨_, rfl⟩
  obtain ⟨h, hh⟩ : ∃ h, h = c.h := ⟨_, rfl⟩
  obtain ⟨nb, hnb⟩ : ∃ n, n = c.nb := ⟨_, rfl⟩
  have hwh : w * h = (nb : Int) := by rw [hw, hh, hnb]; exact hfacts.2.2.1.1.symm
  obtain ⟨na, hnaa⟩ : ∃ a, a = c.nwa ri := ⟨_, rfl⟩
  obtain ⟨N, hN⟩ : ∃ N, N = nb + 2 := ⟨_, rfl⟩
  obtain ⟨T, hT⟩ : ∃ T, T = nb + 1 := ⟨_, rfl⟩
  have hnet : ∀ X1, Ext W X1 → Calls Try.prog 72 #[.agg #[.int .i64 w, .int .i64 h, B, X, R, D], .int .i64 ri] X1 fun e W' => ∃ AV SV bs, e = .returned (.agg #[.int .i64 nb, .int .i64 T, AV, SV]) ∧ Al W' AV na ∧ Sl W' bs SV N (stf na.nw na.n) ∧ Ext X1 W' := fun X1 hX1 => by
    refine (networkOf_any c ri _ X1 (by rw [hw, hh]; exact HV.out.ext hX1) hvc hr1 hr2).mono ?_
    rintro e w3 ⟨AV, SV, rfl, hal, hsl, hx⟩
    refine ⟨AV, SV, _, ?_, by rw [hnaa]; exact hal, by rw [hN, hnb, hnaa]; exact hsl, hx⟩
    rw [hT, hnb]; rfl
  have HNET := Lib.hid hnet
  rw [← hw, ← hh] at HV ⊢
  rw [← hnaa] at HO hna
  rw [← hnb] at HO hnb36 hnb1
  rw [← hN] at HO
  have HNN := Lib.hid (And.intro hnaa (And.intro hnb (And.intro hN hT)))
  have hnbN : nb ≤ N := by omega
  have hnbT : nb ≠ T := by omega
  have hsT : T < N := by omega
  have hsn : nb < N := by omega
  have hN40 : N ≤ 40 := by omega
  clear hnet hfacts hok hvc hw hh hnb hnaa hN hT
  go_enter Try.func75, Try.ntmps75
  go_upto_region 1 with fail
  have bb := al2 W (.cells #[.int .i64 w, .int .i64 h, B, X, R, D] 70) (.cells #[.int .i64 0, .slice none 0 0] 115)
  have hh0 : ((W.alloc (.cells #[.int .i64 w, .int .i64 h, B, X, R, D] 70)).alloc (.cells #[.int .i64 0, .slice none 0 0] 115)).heap[W.heap.size]? = some (.cells #[.int .i64 w, .int .i64 h, B, X, R, D] 70 (0, 0)) := (Below.heap_alloc _ _ _ (by simp)).trans (heap_alloc_new W _)
  have hh1 := heap_alloc_new (W.alloc (.cells #[.int .i64 w, .int .i64 h, B, X, R, D] 70)) (.cells #[.int .i64 0, .slice none 0 0] 115)
  simp only [World.size_alloc] at hh1
  have hz1 : W.heap.size + 1 < ((W.alloc (.cells #[.int .i64 w, .int .i64 h, B, X, R, D] 70)).alloc (.cells #[.int .i64 0, .slice none 0 0] 115)).heap.size := by simp
  generalize (W.alloc (.cells #[.int .i64 w, .int .i64 h, B, X, R, D] 70)).alloc (.cells #[.int .i64 0, .slice none 0 0] 115) = W1 at *
  have HB : Hid (Ext W W1) := Lib.hid bb
  have HH := Lib.hid hh1
  obtain ⟨m0, m1, m2, m3, m4, m5, mz, -⟩ := six hh0
  have HM := Lib.hid (And.intro m0 (And.intro m1 (And.intro m2 (And.intro m3 (And.intro m4 m5)))))
  clear bb hh0 hh1 m0 m1 m2 m3 m4 m5
  refine wp_region_noPanic ?_
  refine wp_split (S := fun X => Ext W1 X) 13 (by kernel_rfl) (by kernel_rfl) (Ext.drw (Ext.refl _)) ?_
  simp only [List.take_succ_cons, List.take_zero, List.drop_succ_cons, List.drop_zero]
  refine take_at 0 (some 5) (.int .i64 ri) rfl rfl (by kernel_rfl) (by kernel_rfl) (by kernel_rfl) (fun _ _ _ h => h) (Or.inl ⟨by rfl, fun w' hSw => ?_⟩) (Ext.drw (Ext.refl _)) ?_
  · skip
    try clear hSw
    go_simp
    all_goals (with_reducible rfl)
  try simp only [Act.put, List.setIfInBounds_toArray, List.set_cons_zero, List.set_cons_succ]
  refine take_at 1 (some 6) (.agg #[.int .i64 w, .int .i64 h, B, X, R, D]) rfl rfl (by kernel_rfl) (by kernel_rfl) (by kernel_rfl) (fun _ _ _ h => h) (Or.inl ⟨by rfl, fun w' hSw => ?_⟩) (Ext.drw (Ext.refl _)) ?_
  · have z0 := keepAt hSw mz HM.out.1
    have z1 := keepAt hSw mz HM.out.2.1
    have z2 := keepAt hSw mz HM.out.2.2.1
    have z3 := keepAt hSw mz HM.out.2.2.2.1
    have z4 := keepAt hSw mz HM.out.2.2.2.2.1
    have z5 := keepAt hSw mz HM.out.2.2.2.2.2
    try clear hSw
    go_simp
    all_goals (with_reducible rfl)
  try simp only [Act.put, List.setIfInBounds_toArray, List.set_cons_zero, List.set_cons_succ]
  refine take_at 2 (some 7) (.int .i64 ri) rfl rfl (by kernel_rfl) (by kernel_rfl) (by kernel_rfl) (fun _ _ _ h => h) (Or.inl ⟨by rfl, fun w' hSw => ?_⟩) (Ext.drw (Ext.refl _)) ?_
  · skip
    try clear hSw
    go_simp
    all_goals (with_reducible rfl)
  try simp only [Act.put, List.setIfInBounds_toArray, List.set_cons_zero, List.set_cons_succ]
  refine take_at 6 (some 11) (.pointer (some ⟨W.heap.size, 0, none⟩)) rfl rfl (by kernel_rfl) (by kernel_rfl) (by kernel_rfl) (fun _ _ _ h => h) (Or.inl ⟨by rfl, fun w' hSw => ?_⟩) (Ext.drw (Ext.refl _)) ?_
  · skip
    try clear hSw
    go_simp
    all_goals (with_reducible rfl)
  try simp only [Act.put, List.setIfInBounds_toArray, List.set_cons_zero, List.set_cons_succ]
  refine take_at 7 (some 12) (.int .i64 w) rfl rfl (by kernel_rfl) (by kernel_rfl) (by kernel_rfl) (fun _ _ _ h => h) (Or.inl ⟨by rfl, fun w' hSw => ?_⟩) (Ext.drw (Ext.refl _)) ?_
  · have z0 := keepAt hSw mz HM.out.1
    try clear hSw
    go_simp
    all_goals (with_reducible rfl)
  try simp only [Act.put, List.setIfInBounds_toArray, List.set_cons_zero, List.set_cons_succ]
  refine take_at 8 (some 13) (.pointer (some ⟨W.heap.size, 1, none⟩)) rfl rfl (by kernel_rfl) (by kernel_rfl) (by kernel_rfl) (fun _ _ _ h => h) (Or.inl ⟨by rfl, fun w' hSw => ?_⟩) (Ext.drw (Ext.refl _)) ?_
  · skip
    try clear hSw
    go_simp
    all_goals (with_reducible rfl)
  try simp only [Act.put, List.setIfInBounds_toArray, List.set_cons_zero, List.set_cons_succ]
  refine take_at 9 (some 14) (.int .i64 h) rfl rfl (by kernel_rfl) (by kernel_rfl) (by kernel_rfl) (fun _ _ _ h => h) (Or.inl ⟨by rfl, fun w' hSw => ?_⟩) (Ext.drw (Ext.refl _)) ?_
  · have z1 := keepAt hSw mz HM.out.2.1
    try clear hSw
    go_simp
    all_goals (with_reducible rfl)
  try simp only [Act.put, List.setIfInBounds_toArray, List.set_cons_zero, List.set_cons_succ]
  refine take_at 10 (some 15) (.int .i64 nb) rfl rfl (by kernel_rfl) (by kernel_rfl) (by kernel_rfl) (fun _ _ _ h => h) (Or.inl ⟨by rfl, fun w' hSw => ?_⟩) (Ext.drw (Ext.refl _)) ?_
  · skip
    try clear hSw
    go_simp
    all_goals (first | (with_reducible rfl) | exact IntWalk.i64_in _ (by omega))
  try simp only [Act.put, List.setIfInBounds_toArray, List.set_cons_zero, List.set_cons_succ]
  refine wpAnyH_ready (rs := [3]) (by kernel_rfl) (by simp) ?_
  refine AllReadyH.cons rfl (fun K hK => ?_) AllReadyH.nil
  go_simp
  refine (HNET.out _ (HB.out.trans (Ext.drw (Ext.refl _)))).mono ?_
  rintro e v3 ⟨AV, SV, bs, rfl, hal, hsl, hb3⟩
  have e3 : Ext W1 v3 := (Ext.drw (Ext.refl _)).trans hb3
  try go_wp2_with fail
  refine hK.out _ _ e3 (fun _ => ?_)
  clear hK K
  try simp only [Act.put, List.setIfInBounds_toArray, List.set_cons_zero, List.set_cons_succ]
  have HAL := Lib.hid hal; have HSL := Lib.hid hsl
  obtain ⟨A0, ca, rfl, -, -, -⟩ := hal
  obtain ⟨gs, cs, rfl, -, -, -⟩ := hsl
  refine wpAnyH_ready (rs := [4]) (by kernel_rfl) (by simp) ?_
  refine AllReadyH.cons rfl (fun K hK => ?_) AllReadyH.nil
  go_simp
  refine (fill_any na N nb T _ 2000000 _ (.slice (some ⟨gs, 0, none⟩) N cs) (stf na.nw na.n) _ HAL.out HO.out (by omega) (by omega) (by omega) HSL.out (stf_stp na.nw N) hsn hsT hnbT).mono ?_
  rintro e v4 ⟨x, gl, rfl, hgl, hbi, hfull, hb4⟩
  have e4 : Ext W1 v4 := (e3).trans hb4
  try go_wp2_with fail
  refine hK.out _ _ e4 (fun _ => ?_)
  clear hK K
  try simp only [Act.put, List.setIfInBounds_toArray, List.set_cons_zero, List.set_cons_succ]
  have HBI := Lib.hid hbi; have HFULL := Lib.hid hfull
  replace HAL := Lib.hid (HAL.out.ext hb4)
  replace HSL := Lib.hid (HSL.out.ext hb4)
  clear hbi hfull
  refine wpAnyH_ready (rs := [5]) (by kernel_rfl) (by simp) ?_
  refine AllReadyH.cons rfl (fun K hK => ?_) AllReadyH.nil
  go_simp
  refine (greatest_any na N nb T (2 * na.n) _ 2000000 _ (.slice (some ⟨gs, 0, none⟩) N cs) gl x _ HAL.out HO.out rfl (by omega) (by omega) HSL.out hsT HBI.out).mono ?_
  rintro e v5 ⟨Q, la9, rk9, g9, rfl, hg9, hbr9, hwk9, hb5⟩
  have e5 : Ext W1 v5 := (e4).trans hb5
  try go_wp2_with fail
  refine hK.out _ _ e5 (fun _ => ?_)
  clear hK K
  try simp only [Act.put, List.setIfInBounds_toArray, List.set_cons_zero, List.set_cons_succ]
  have HR9 := Lib.hid (And.intro hbr9 hwk9)
  have hg9W : W.heap.size ≤ g9 := by have h1 := e4.size; omega
  clear hbr9 hwk9 hg9
  refine take_at 11 (some 16) (.slice (some ⟨g9, 0, none⟩) nb N) rfl rfl (by kernel_rfl) (by kernel_rfl) (by kernel_rfl) (fun _ _ _ h => h) (Or.inl ⟨by rfl, fun w' hSw => ?_⟩) (e5) ?_
  · skip
    try clear hSw
    go_simp
    all_goals (with_reducible rfl)
  try simp only [Act.put, List.setIfInBounds_toArray, List.set_cons_zero, List.set_cons_succ]
  refine take_at 12 (some 17) (.agg #[.int .i64 ri, .slice (some ⟨g9, 0, none⟩) nb N]) rfl rfl (by kernel_rfl) (by kernel_rfl) (by kernel_rfl) (fun _ _ _ h => h) (Or.inl ⟨by rfl, fun w' hSw => ?_⟩) (e5) ?_
  · skip
    try clear hSw
    go_simp
    all_goals (with_reducible rfl)
  try simp only [Act.put, List.setIfInBounds_toArray, List.set_cons_zero, List.set_cons_succ]
  refine wpAnyH_done (by kernel_rfl) ?_ _
  refine cut_normal ?_
  have hq := (Below.block e5 (W.heap.size + 1) hz1).trans HH.out
  obtain ⟨q0, q1, qf, qz⟩ := two_at hq
  have EX := Lib.hid e5
  have hI := HO.out.in_
  have HG9 := Lib.hid (And.intro HR9.out.1 (HFULL.out.gst hI hsn hsT HR9.out.2))
  have hne9 : g9 ≠ W.heap.size + 1 := fun e => by
    have h1 := Bk.lt HR9.out.1
    have h2 := HR9.out.1
    unfold BB Bk at h2
    rw [e, hq] at h2
    simp at h2
  clear e3 e4 e5 hb3 hb4 hb5 hI hq
  go_wp2_with fail
  refine NoPanic.normal ?_
  go_wp2
  refine bodyPost_ret (v := .agg #[.int .i64 ri, .slice (some ⟨g9, 0, none⟩) nb N]) (by simp [results, Try.results75, go_sem, q0, q1]) rfl ⟨g9, N, fun v => !Q v, by rw [← HNN.out.2.1], hg9W, ?_, ?_, ((HB.out.trans EX.out).sc (by omega)).sc (by omega)⟩
  · rw [← HNN.out.2.1]; exact bl_cut (Bk.far (Bk.far HG9.out.1 (by exact hne9) _) (by exact hne9) _) hnbN (by omega)
  · rw [← HNN.out.1, ← HNN.out.2.1, ← HNN.out.2.2.1, ← HNN.out.2.2.2]; exact HG9.out.2
end Go.Proofs.Ytilcbbdmenknfaa
