/- Walks: the reference's Value. -/
import Derived.Test.YtilcbbdmenknfaaMk
import Derived.Test.YtilcbbdmenknfaaD7
import Derived.Test.YtilcbbdmenknfaaLg
namespace Go.Proofs.Ytilcbbdmenknfaa
open Go.RowKit

theorem mx_bd {a : Ar} {N : Nat} (h : a.Ok N 1000000) (hn : a.n ≤ 1000) (i j : Nat) : 0 ≤ a.nw.mx i j ∧ a.nw.mx i j ≤ 1000000000 := by
  have h1 := Ar.mxk_bd h (by omega) (Nat.le_refl a.n) i j
  rw [Ar.mxk_end] at h1
  omega
/-- what is left of a matrix shows the least cost of a side -/
theorem Rm.mc {a : Ar} {N s t : Nat} {y : Nat → Nat → Int} {T : Int} {R : Nat → Bool} {la rk : Nat → Nat} (hN : a.nw.In N) (h : Rm N s t a.nw.mx y T) (hw : Wm N s y R la rk) (hR : R t = false) : Mc a.nw s t T := by
  refine ⟨⟨R, ⟨hw.root, hR⟩, ?_⟩, fun S hS => ?_⟩
  · rw [← a.nw.rc_mx hN R]
    exact (h.tight ⟨hw.root, hR⟩).2 hw.closed
  · rw [← a.nw.rc_mx hN S]
    exact h.weak hS

set_option maxHeartbeats 4000000 in
set_option maxRecDepth 100000 in
theorem valueR_any (N : Int) (a : Ar) (AV : Value) (W : World) (hA : Al W AV a) :
    Calls Try.prog 17 #[.agg #[.int .i64 N, AV]] W fun e W' => ∃ v er : Int, e = .returned (.tuple #[.int .i64 v, .int .i64 er]) ∧ Ext W W' ∧
      ((vNet N a = false ∧ v = 0 ∧ er = 2) ∨ (vNet N a = true ∧ er = 0 ∧ Mc a.nw 0 (N.toNat - 1) v)) := by
  have HA := Lib.hid hA
  obtain ⟨A, c, rfl, hac, hcm, -⟩ := hA
  go_enter Try.func17, Try.ntmps17
  go_upto_region 1 with fail
  have bb := al1 W (.cells #[.int .i64 N, .slice A a.n c] 24)
  have hh := heap_alloc_new W (.cells #[.int .i64 N, .slice A a.n c] 24)
  have zz : W.heap.size < (W.alloc (.cells #[.int .i64 N, .slice A a.n c] 24)).heap.size := by simp
  generalize W.alloc (.cells #[.int .i64 N, .slice A a.n c] 24) = W1 at *
  have HB : Hid (Ext W W1) := Lib.hid bb
  obtain ⟨m0, m1, m2, m3⟩ := two hh
  have HM := Lib.hid (And.intro m0 m1)
  clear bb hh m2 m3
  go_wp2_with fail
  refine (validR_any N a _ _ (HA.out.ext HB.out)).mono ?_
  rintro e w1 ⟨rfl, hx⟩
  have HX : Hid (Ext W w1) := Lib.hid (HB.out.trans hx)
  have HY : Hid (Ext W1 w1) := Lib.hid hx
  have mz : W.heap.size < w1.heap.size := Nat.lt_of_lt_of_le zz hx.size
  clear hx m0 m1
  cases hv : vNet N a
  · have HV := Lib.hid hv; clear hv
    go_wp2
    refine bodyPost_ret (v := .tuple #[.int .i64 0, .int .i64 2]) (by simp [results, Try.results17, go_sem]) rfl ⟨0, 2, rfl, HX.out, .inl ⟨HV.out, rfl, rfl⟩⟩
  · obtain ⟨m, rfl, hm2, hm40, hn, hok⟩ := vNet_ok hv
    have HOK := Lib.hid hok; have HV := Lib.hid hv
    obtain ⟨t, ht⟩ : ∃ t, t = m - 1 := ⟨_, rfl⟩
    have ht2 : (m : Int) - 1 = (t : Int) := by omega
    have htN : t < m := by omega
    have h0t : 0 ≠ t := by omega
    have HT := Lib.hid ht
    have HM2 := Lib.hid (And.intro (keepAt HY.out zz HM.out.1) (keepAt HY.out zz HM.out.2))
    clear hv hok ht
    go_upto_region 3 with fail
    refine wp_region_noPanic ?_
    refine wp_region_held_drew (S := fun X => Ext w1 X) (by kernel_rfl) (Ext.drw (Ext.refl _)) (fun _ => ?_)
    refine take_at 0 (some 7) (.agg #[.int .i64 m, .slice A a.n c]) rfl rfl (by kernel_rfl) (by kernel_rfl) (by kernel_rfl) (fun _ _ _ h => h) (Or.inl ⟨by rfl, fun w' hSw => ?_⟩) (Ext.drw (Ext.refl _)) ?_
    · have z0 := keepAt hSw mz HM2.out.1
      have z1 := keepAt hSw mz HM2.out.2
      try clear hSw
      go_simp
      all_goals (with_reducible rfl)
    try simp only [Act.put, List.setIfInBounds_toArray, List.set_cons_zero, List.set_cons_succ]
    refine take_at 2 (some 9) (.pointer (some ⟨W.heap.size, 0, none⟩)) rfl rfl (by kernel_rfl) (by kernel_rfl) (by kernel_rfl) (fun _ _ _ h => h) (Or.inl ⟨by rfl, fun w' hSw => ?_⟩) (Ext.drw (Ext.refl _)) ?_
    · skip
      try clear hSw
      go_simp
      all_goals (with_reducible rfl)
    try simp only [Act.put, List.setIfInBounds_toArray, List.set_cons_zero, List.set_cons_succ]
    refine take_at 3 (some 10) (.int .i64 m) rfl rfl (by kernel_rfl) (by kernel_rfl) (by kernel_rfl) (fun _ _ _ h => h) (Or.inl ⟨by rfl, fun w' hSw => ?_⟩) (Ext.drw (Ext.refl _)) ?_
    · have z0 := keepAt hSw mz HM2.out.1
      have z1 := keepAt hSw mz HM2.out.2
      try clear hSw
      go_simp
      all_goals (with_reducible rfl)
    try simp only [Act.put, List.setIfInBounds_toArray, List.set_cons_zero, List.set_cons_succ]
    refine take_at 4 (some 11) (.int .i64 t) rfl rfl (by kernel_rfl) (by kernel_rfl) (by kernel_rfl) (fun _ _ _ h => h) (Or.inl ⟨by rfl, fun w' hSw => ?_⟩) (Ext.drw (Ext.refl _)) ?_
    · skip
      try clear hSw
      go_simp
      all_goals (first | (with_reducible rfl) | exact IntWalk.i64_in _ (by omega))
    try simp only [Act.put, List.setIfInBounds_toArray, List.set_cons_zero, List.set_cons_succ]
    refine wpAnyH_ready (rs := [1]) (by kernel_rfl) (by simp) ?_
    refine AllReadyH.cons rfl (fun K hK => ?_) AllReadyH.nil
    go_simp
    refine (capacities_any a m _ _ (HA.out.ext (HX.out.trans (Ext.drw (Ext.refl _)))) HOK.out (by omega) (by omega)).mono ?_
    rintro e v1 ⟨b, rfl, hb, hgd, hb1⟩
    have e1 : Ext w1 v1 := (Ext.drw (Ext.refl _)).trans hb1
    try go_wp2_with fail
    refine hK.out _ _ e1 (fun _ => ?_)
    clear hK K
    try simp only [Act.put, List.setIfInBounds_toArray, List.set_cons_zero, List.set_cons_succ]
    have HGD := Lib.hid hgd
    clear hgd
    refine wpAnyH_ready (rs := [5]) (by kernel_rfl) (by simp) ?_
    refine AllReadyH.cons rfl (fun K hK => ?_) AllReadyH.nil
    go_simp
    refine (greatestR_any b m 0 t a.nw.mx 1000000000 w1 _ HGD.out (by omega) (by omega) htN h0t (fun i j _ _ => mx_bd HOK.out (by omega) i j) (by omega) (by omega) e1 hb).mono ?_
    rintro e v5 ⟨T, y, R, la, rk, rfl, hgd2, hrm, hwm, hR, e5⟩
    try go_wp2_with fail
    refine hK.out _ _ e5 (fun _ => ?_)
    clear hK K
    try simp only [Act.put, List.setIfInBounds_toArray, List.set_cons_zero, List.set_cons_succ]
    have HMC := Lib.hid (hrm.mc HOK.out.in_ hwm hR)
    clear hgd2 hrm hwm hR
    refine take_at 6 (some 2) (.int .i64 T) rfl rfl (by kernel_rfl) (by kernel_rfl) (by kernel_rfl) (fun _ _ _ h => h) (Or.inl ⟨by rfl, fun w' hSw => ?_⟩) (e5) ?_
    · skip
      try clear hSw
      go_simp
      all_goals (with_reducible rfl)
    try simp only [Act.put, List.setIfInBounds_toArray, List.set_cons_zero, List.set_cons_succ]
    refine take_at 7 (some 3) (.int .i64 0) rfl rfl (by kernel_rfl) (by kernel_rfl) (by kernel_rfl) (fun _ _ _ h => h) (Or.inl ⟨by rfl, fun w' hSw => ?_⟩) (e5) ?_
    · skip
      try clear hSw
      go_simp
      all_goals (with_reducible rfl)
    try simp only [Act.put, List.setIfInBounds_toArray, List.set_cons_zero, List.set_cons_succ]
    refine wpAnyH_done (by kernel_rfl) ?_ _
    refine NoPanic.normal ?_
    have EX := Lib.hid (HX.out.trans e5)
    clear e1 e5 hb1
    go_wp2
    refine bodyPost_ret (v := .tuple #[.int .i64 T, .int .i64 0]) (by simp [results, Try.results17, go_sem]) rfl ⟨T, 0, rfl, EX.out, .inr ⟨HV.out, rfl, ?_⟩⟩
    rw [Int.toNat_natCast, ← HT.out]
    exact HMC.out
end Go.Proofs.Ytilcbbdmenknfaa
