/- Walks: the reference's Least and Greatest. · Walks: the reference's Flow and Side. · Walks: the reference's Sides. -/
import Derived.Test.YtilcbbdmenknfaaM19
import Derived.Test.YtilcbbdmenknfaaM14
import Derived.RegionTactic
import Derived.ChangeAlike
import Derived.Test.YtilcbbdmenknfaaM18
namespace Go.Proofs.Ytilcbbdmenknfaa
open Go.RowKit

set_option maxHeartbeats 4000000 in
set_option maxRecDepth 100000 in
theorem leastR_any (N : Int) (a : Ar) (AV : Value) (W : World) (hA : Al W AV a) :
    Calls Try.prog 24 #[.agg #[.int .i64 N, AV]] W fun e W' => ∃ (F : Value) (er : Int), e = .returned (.tuple #[F, .int .i64 er]) ∧ Ext W W' ∧
      ((vNet N a = false ∧ F = .slice none 0 0 ∧ er = 2) ∨ (vNet N a = true ∧ er = 0 ∧ ∃ L, Bl W' F N.toNat L ∧ Lst a.nw N.toNat 0 (N.toNat - 1) L)) := by
  have HA := Lib.hid hA
  obtain ⟨A, c, rfl, hac, hcm, -⟩ := hA
  go_enter Try.func24, Try.ntmps24
  go_upto_region 1 with fail
  have bb := al1 W (.cells #[.int .i64 N, .slice A a.n c] 24)
  have hh := heap_alloc_new W (.cells #[.int .i64 N, .slice A a.n c] 24)
  have zz : W.heap.size < (W.alloc (.cells #[.int .i64 N, .slice A a.n c] 24)).heap.size := by simp
  generalize W.alloc (.cells #[.int .i64 N, .slice A a.n c] 24) = W1 at *
  have HB : Hid (Ext W W1) := Lib.hid bb
  obtain ⟨m0, m1, m2, m3⟩ := two hh
  have HM := Lib.hid (And.intro m0 m1)
  clear bb hh m2 m3
  go_wp2_with fail
  refine (validR_any N a _ _ (HA.out.ext HB.out)).mono ?_
  rintro e w1 ⟨rfl, hx⟩
  have HX : Hid (Ext W w1) := Lib.hid (HB.out.trans hx)
  have HY : Hid (Ext W1 w1) := Lib.hid hx
  have mz : W.heap.size < w1.heap.size := Nat.lt_of_lt_of_le zz hx.size
  clear hx m0 m1
  cases hv : vNet N a
  · have HV := Lib.hid hv; clear hv
    go_wp2
    refine bodyPost_ret (v := .tuple #[.slice none 0 0, .int .i64 2]) (by simp [results, Try.results24, go_sem]) rfl ⟨.slice none 0 0, 2, rfl, HX.out, .inl ⟨HV.out, rfl, rfl⟩⟩
  · obtain ⟨m, rfl, hm2, hm40, hn, hok⟩ := vNet_ok hv
    have HOK := Lib.hid hok; have HV := Lib.hid hv
    obtain ⟨t, ht⟩ : ∃ t, t = m - 1 := ⟨_, rfl⟩
    have ht2 : (m : Int) - 1 = (t : Int) := by omega
    have htN : t < m := by omega
    have h0t : 0 ≠ t := by omega
    have HT := Lib.hid ht
    have HM2 := Lib.hid (And.intro (keepAt HY.out zz HM.out.1) (keepAt HY.out zz HM.out.2))
    clear hv hok ht
    go_upto_region 3 with fail
    refine wp_region_noPanic ?_
    refine wp_region_held_drew (S := fun X => Ext w1 X) (by kernel_rfl) (Ext.drw (Ext.refl _)) (fun _ => ?_)
    refine take_at 0 (some 10) (.agg #[.int .i64 m, .slice A a.n c]) rfl rfl (by kernel_rfl) (by kernel_rfl) (by kernel_rfl) (fun _ _ _ h => h) (Or.inl ⟨by rfl, fun w' hSw => ?_⟩) (Ext.drw (Ext.refl _)) ?_
    · have z0 := keepAt hSw mz HM2.out.1
      have z1 := keepAt hSw mz HM2.out.2
      try clear hSw
      go_simp
      all_goals (with_reducible rfl)
    try simp only [Act.put, List.setIfInBounds_toArray, List.set_cons_zero, List.set_cons_succ]
    refine take_at 2 (some 12) (.pointer (some ⟨W.heap.size, 0, none⟩)) rfl rfl (by kernel_rfl) (by kernel_rfl) (by kernel_rfl) (fun _ _ _ h => h) (Or.inl ⟨by rfl, fun w' hSw => ?_⟩) (Ext.drw (Ext.refl _)) ?_
    · skip
      try clear hSw
      go_simp
      all_goals (with_reducible rfl)
    try simp only [Act.put, List.setIfInBounds_toArray, List.set_cons_zero, List.set_cons_succ]
    refine take_at 3 (some 13) (.int .i64 m) rfl rfl (by kernel_rfl) (by kernel_rfl) (by kernel_rfl) (fun _ _ _ h => h) (Or.inl ⟨by rfl, fun w' hSw => ?_⟩) (Ext.drw (Ext.refl _)) ?_
    · have z0 := keepAt hSw mz HM2.out.1
      have z1 := keepAt hSw mz HM2.out.2
      try clear hSw
      go_simp
      all_goals (with_reducible rfl)
    try simp only [Act.put, List.setIfInBounds_toArray, List.set_cons_zero, List.set_cons_succ]
    refine take_at 4 (some 14) (.int .i64 t) rfl rfl (by kernel_rfl) (by kernel_rfl) (by kernel_rfl) (fun _ _ _ h => h) (Or.inl ⟨by rfl, fun w' hSw => ?_⟩) (Ext.drw (Ext.refl _)) ?_
    · skip
      try clear hSw
      go_simp
      all_goals (first | (with_reducible rfl) | exact IntWalk.i64_in _ (by omega))
    try simp only [Act.put, List.setIfInBounds_toArray, List.set_cons_zero, List.set_cons_succ]
    refine wpAnyH_ready (rs := [1]) (by kernel_rfl) (by simp) ?_
    refine AllReadyH.cons rfl (fun K hK => ?_) AllReadyH.nil
    go_simp
    refine (capacities_any a m _ _ (HA.out.ext (HX.out.trans (Ext.drw (Ext.refl _)))) HOK.out (by omega) (by omega)).mono ?_
    rintro e v1 ⟨b, rfl, hb, hgd, hb1⟩
    have e1 : Ext w1 v1 := (Ext.drw (Ext.refl _)).trans hb1
    try go_wp2_with fail
    refine hK.out _ _ e1 (fun _ => ?_)
    clear hK K
    try simp only [Act.put, List.setIfInBounds_toArray, List.set_cons_zero, List.set_cons_succ]
    have HGD := Lib.hid hgd
    clear hgd
    refine wpAnyH_ready (rs := [5]) (by kernel_rfl) (by simp) ?_
    refine AllReadyH.cons rfl (fun K hK => ?_) AllReadyH.nil
    go_simp
    refine (ends_any b m 0 t a.nw.mx 1000000000 w1 _ HGD.out (by omega) (by omega) htN h0t (fun i j _ _ => mx_bd HOK.out (by omega) i j) (by omega) (by omega) e1 hb).mono ?_
    rintro e v5 ⟨F, G, T, y, R, Q, la, rk, la2, rk2, rfl, hrm, hwm, hR, hwm2, hF, hG, e5⟩
    try go_wp2_with fail
    refine hK.out _ _ e5 (fun _ => ?_)
    clear hK K
    try simp only [Act.put, List.setIfInBounds_toArray, List.set_cons_zero, List.set_cons_succ]
    have HMC := Lib.hid (And.intro hF (hrm.lst (G := a.nw) (fun S _ => a.nw.rc_mx HOK.out.in_ S) hwm hR))
    clear hrm hwm hR hwm2 hF hG
    refine take_at 6 (some 9) (.tuple #[F, G]) rfl rfl (by kernel_rfl) (by kernel_rfl) (by kernel_rfl) (fun _ _ _ h => h) (Or.inl ⟨by rfl, fun w' hSw => ?_⟩) (e5) ?_
    · skip
      try clear hSw
      go_simp
      all_goals (with_reducible rfl)
    try simp only [Act.put, List.setIfInBounds_toArray, List.set_cons_zero, List.set_cons_succ]
    refine take_at 7 (some 16) (F) rfl rfl (by kernel_rfl) (by kernel_rfl) (by kernel_rfl) (fun _ _ _ h => h) (Or.inl ⟨by rfl, fun w' hSw => ?_⟩) (e5) ?_
    · skip
      try clear hSw
      go_simp
      all_goals (with_reducible rfl)
    try simp only [Act.put, List.setIfInBounds_toArray, List.set_cons_zero, List.set_cons_succ]
    refine take_at 8 (some 17) (G) rfl rfl (by kernel_rfl) (by kernel_rfl) (by kernel_rfl) (fun _ _ _ h => h) (Or.inl ⟨by rfl, fun w' hSw => ?_⟩) (e5) ?_
    · skip
      try clear hSw
      go_simp
      all_goals (with_reducible rfl)
    try simp only [Act.put, List.setIfInBounds_toArray, List.set_cons_zero, List.set_cons_succ]
    refine take_at 9 (some 4) (F) rfl rfl (by kernel_rfl) (by kernel_rfl) (by kernel_rfl) (fun _ _ _ h => h) (Or.inl ⟨by rfl, fun w' hSw => ?_⟩) (e5) ?_
    · skip
      try clear hSw
      go_simp
      all_goals (with_reducible rfl)
    try simp only [Act.put, List.setIfInBounds_toArray, List.set_cons_zero, List.set_cons_succ]
    refine take_at 10 (some 5) (G) rfl rfl (by kernel_rfl) (by kernel_rfl) (by kernel_rfl) (fun _ _ _ h => h) (Or.inl ⟨by rfl, fun w' hSw => ?_⟩) (e5) ?_
    · skip
      try clear hSw
      go_simp
      all_goals (with_reducible rfl)
    try simp only [Act.put, List.setIfInBounds_toArray, List.set_cons_zero, List.set_cons_succ]
    refine wpAnyH_done (by kernel_rfl) ?_ _
    refine NoPanic.normal ?_
    have EX := Lib.hid (HX.out.trans e5)
    clear e1 e5 hb1
    go_wp2
    refine bodyPost_ret (v := .tuple #[F, .int .i64 0]) (by simp [results, Try.results24, go_sem]) rfl ⟨F, 0, rfl, EX.out, .inr ⟨HV.out, rfl, _, by rw [Int.toNat_natCast]; exact HMC.out.1, ?_⟩⟩
    rw [Int.toNat_natCast, ← HT.out]
    exact HMC.out.2

set_option maxHeartbeats 4000000 in
set_option maxRecDepth 100000 in
theorem greatestR27_any (N : Int) (a : Ar) (AV : Value) (W : World) (hA : Al W AV a) :
    Calls Try.prog 27 #[.agg #[.int .i64 N, AV]] W fun e W' => ∃ (F : Value) (er : Int), e = .returned (.tuple #[F, .int .i64 er]) ∧ Ext W W' ∧
      ((vNet N a = false ∧ F = .slice none 0 0 ∧ er = 2) ∨ (vNet N a = true ∧ er = 0 ∧ ∃ L, Bl W' F N.toNat L ∧ Gst a.nw N.toNat 0 (N.toNat - 1) L)) := by
  have HA := Lib.hid hA
  obtain ⟨A, c, rfl, hac, hcm, -⟩ := hA
  go_enter Try.func27, Try.ntmps27
  go_upto_region 1 with fail
  have bb := al1 W (.cells #[.int .i64 N, .slice A a.n c] 24)
  have hh := heap_alloc_new W (.cells #[.int .i64 N, .slice A a.n c] 24)
  have zz : W.heap.size < (W.alloc (.cells #[.int .i64 N, .slice A a.n c] 24)).heap.size := by simp
  generalize W.alloc (.cells #[.int .i64 N, .slice A a.n c] 24) = W1 at *
  have HB : Hid (Ext W W1) := Lib.hid bb
  obtain ⟨m0, m1, m2, m3⟩ := two hh
  have HM := Lib.hid (And.intro m0 m1)
  clear bb hh m2 m3
  go_wp2_with fail
  refine (validR_any N a _ _ (HA.out.ext HB.out)).mono ?_
  rintro e w1 ⟨rfl, hx⟩
  have HX : Hid (Ext W w1) := Lib.hid (HB.out.trans hx)
  have HY : Hid (Ext W1 w1) := Lib.hid hx
  have mz : W.heap.size < w1.heap.size := Nat.lt_of_lt_of_le zz hx.size
  clear hx m0 m1
  cases hv : vNet N a
  · have HV := Lib.hid hv; clear hv
    go_wp2
    refine bodyPost_ret (v := .tuple #[.slice none 0 0, .int .i64 2]) (by simp [results, Try.results27, go_sem]) rfl ⟨.slice none 0 0, 2, rfl, HX.out, .inl ⟨HV.out, rfl, rfl⟩⟩
  · obtain ⟨m, rfl, hm2, hm40, hn, hok⟩ := vNet_ok hv
    have HOK := Lib.hid hok; have HV := Lib.hid hv
    obtain ⟨t, ht⟩ : ∃ t, t = m - 1 := ⟨_, rfl⟩
    have ht2 : (m : Int) - 1 = (t : Int) := by omega
    have htN : t < m := by omega
    have h0t : 0 ≠ t := by omega
    have HT := Lib.hid ht
    have HM2 := Lib.hid (And.intro (keepAt HY.out zz HM.out.1) (keepAt HY.out zz HM.out.2))
    clear hv hok ht
    go_upto_region 3 with fail
    refine wp_region_noPanic ?_
    refine wp_region_held_drew (S := fun X => Ext w1 X) (by kernel_rfl) (Ext.drw (Ext.refl _)) (fun _ => ?_)
    refine take_at 0 (some 10) (.agg #[.int .i64 m, .slice A a.n c]) rfl rfl (by kernel_rfl) (by kernel_rfl) (by kernel_rfl) (fun _ _ _ h => h) (Or.inl ⟨by rfl, fun w' hSw => ?_⟩) (Ext.drw (Ext.refl _)) ?_
    · have z0 := keepAt hSw mz HM2.out.1
      have z1 := keepAt hSw mz HM2.out.2
      try clear hSw
      go_simp
      all_goals (with_reducible rfl)
    try simp only [Act.put, List.setIfInBounds_toArray, List.set_cons_zero, List.set_cons_succ]
    refine take_at 2 (some 12) (.pointer (some ⟨W.heap.size, 0, none⟩)) rfl rfl (by kernel_rfl) (by kernel_rfl) (by kernel_rfl) (fun _ _ _ h => h) (Or.inl ⟨by rfl, fun w' hSw => ?_⟩) (Ext.drw (Ext.refl _)) ?_
    · skip
      try clear hSw
      go_simp
      all_goals (with_reducible rfl)
    try simp only [Act.put, List.setIfInBounds_toArray, List.set_cons_zero, List.set_cons_succ]
    refine take_at 3 (some 13) (.int .i64 m) rfl rfl (by kernel_rfl) (by kernel_rfl) (by kernel_rfl) (fun _ _ _ h => h) (Or.inl ⟨by rfl, fun w' hSw => ?_⟩) (Ext.drw (Ext.refl _)) ?_
    · have z0 := keepAt hSw mz HM2.out.1
      have z1 := keepAt hSw mz HM2.out.2
      try clear hSw
      go_simp
      all_goals (with_reducible rfl)
    try simp only [Act.put, List.setIfInBounds_toArray, List.set_cons_zero, List.set_cons_succ]
    refine take_at 4 (some 14) (.int .i64 t) rfl rfl (by kernel_rfl) (by kernel_rfl) (by kernel_rfl) (fun _ _ _ h => h) (Or.inl ⟨by rfl, fun w' hSw => ?_⟩) (Ext.drw (Ext.refl _)) ?_
    · skip
      try clear hSw
      go_simp
      all_goals (first | (with_reducible rfl) | exact IntWalk.i64_in _ (by omega))
    try simp only [Act.put, List.setIfInBounds_toArray, List.set_cons_zero, List.set_cons_succ]
    refine wpAnyH_ready (rs := [1]) (by kernel_rfl) (by simp) ?_
    refine AllReadyH.cons rfl (fun K hK => ?_) AllReadyH.nil
    go_simp
    refine (capacities_any a m _ _ (HA.out.ext (HX.out.trans (Ext.drw (Ext.refl _)))) HOK.out (by omega) (by omega)).mono ?_
    rintro e v1 ⟨b, rfl, hb, hgd, hb1⟩
    have e1 : Ext w1 v1 := (Ext.drw (Ext.refl _)).trans hb1
    try go_wp2_with fail
    refine hK.out _ _ e1 (fun _ => ?_)
    clear hK K
    try simp only [Act.put, List.setIfInBounds_toArray, List.set_cons_zero, List.set_cons_succ]
    have HGD := Lib.hid hgd
    clear hgd
    refine wpAnyH_ready (rs := [5]) (by kernel_rfl) (by simp) ?_
    refine AllReadyH.cons rfl (fun K hK => ?_) AllReadyH.nil
    go_simp
    refine (ends_any b m 0 t a.nw.mx 1000000000 w1 _ HGD.out (by omega) (by omega) htN h0t (fun i j _ _ => mx_bd HOK.out (by omega) i j) (by omega) (by omega) e1 hb).mono ?_
    rintro e v5 ⟨F, G, T, y, R, Q, la, rk, la2, rk2, rfl, hrm, hwm, hR, hwm2, hF, hG, e5⟩
    try go_wp2_with fail
    refine hK.out _ _ e5 (fun _ => ?_)
    clear hK K
    try simp only [Act.put, List.setIfInBounds_toArray, List.set_cons_zero, List.set_cons_succ]
    have HMC := Lib.hid (And.intro hG (hrm.gst (G := a.nw) (by omega) (fun S _ => a.nw.rc_mx HOK.out.in_ S) hwm hR hwm2))
    clear hrm hwm hR hwm2 hF hG
    refine take_at 6 (some 9) (.tuple #[F, G]) rfl rfl (by kernel_rfl) (by kernel_rfl) (by kernel_rfl) (fun _ _ _ h => h) (Or.inl ⟨by rfl, fun w' hSw => ?_⟩) (e5) ?_
    · skip
      try clear hSw
      go_simp
      all_goals (with_reducible rfl)
    try simp only [Act.put, List.setIfInBounds_toArray, List.set_cons_zero, List.set_cons_succ]
    refine take_at 7 (some 16) (F) rfl rfl (by kernel_rfl) (by kernel_rfl) (by kernel_rfl) (fun _ _ _ h => h) (Or.inl ⟨by rfl, fun w' hSw => ?_⟩) (e5) ?_
    · skip
      try clear hSw
      go_simp
      all_goals (with_reducible rfl)
    try simp only [Act.put, List.setIfInBounds_toArray, List.set_cons_zero, List.set_cons_succ]
    refine take_at 8 (some 17) (G) rfl rfl (by kernel_rfl) (by kernel_rfl) (by kernel_rfl) (fun _ _ _ h => h) (Or.inl ⟨by rfl, fun w' hSw => ?_⟩) (e5) ?_
    · skip
      try clear hSw
      go_simp
      all_goals (with_reducible rfl)
    try simp only [Act.put, List.setIfInBounds_toArray, List.set_cons_zero, List.set_cons_succ]
    refine take_at 9 (some 4) (F) rfl rfl (by kernel_rfl) (by kernel_rfl) (by kernel_rfl) (fun _ _ _ h => h) (Or.inl ⟨by rfl, fun w' hSw => ?_⟩) (e5) ?_
    · skip
      try clear hSw
      go_simp
      all_goals (with_reducible rfl)
    try simp only [Act.put, List.setIfInBounds_toArray, List.set_cons_zero, List.set_cons_succ]
    refine take_at 10 (some 5) (G) rfl rfl (by kernel_rfl) (by kernel_rfl) (by kernel_rfl) (fun _ _ _ h => h) (Or.inl ⟨by rfl, fun w' hSw => ?_⟩) (e5) ?_
    · skip
      try clear hSw
      go_simp
      all_goals (with_reducible rfl)
    try simp only [Act.put, List.setIfInBounds_toArray, List.set_cons_zero, List.set_cons_succ]
    refine wpAnyH_done (by kernel_rfl) ?_ _
    refine NoPanic.normal ?_
    have EX := Lib.hid (HX.out.trans e5)
    clear e1 e5 hb1
    go_wp2
    refine bodyPost_ret (v := .tuple #[G, .int .i64 0]) (by simp [results, Try.results27, go_sem]) rfl ⟨G, 0, rfl, EX.out, .inr ⟨HV.out, rfl, _, by rw [Int.toNat_natCast]; exact HMC.out.1, ?_⟩⟩
    rw [Int.toNat_natCast, ← HT.out]
    exact HMC.out.2
end Go.Proofs.Ytilcbbdmenknfaa
namespace Go.Proofs.Ytilcbbdmenknfaa
open Go.RowKit

set_option maxHeartbeats 4000000 in
set_option maxRecDepth 100000 in
theorem sideR_any (a : Ar) (N : Nat) (s : Nat → Bool) (AV SV : Value) (W : World) (hA : Al W AV a) (hS : Bl W SV N s) (hO : a.Ok N 1000000) (hn : a.n ≤ 1000) (hN : 2 ≤ N) (hN2 : N ≤ 1000) :
    Calls Try.prog 31 #[.agg #[.int .i64 N, AV], SV] W fun e W' => e = .returned (.tuple #[.int .i64 (a.nw.ct s), .bool (isSdB N s)]) ∧ Ext W W' := by
  obtain ⟨sd, hsd⟩ : ∃ sd, sd = isSdB N s := ⟨_, rfl⟩
  rw [← hsd]
  unfold isSdB at hsd
  rw [ct_tc]
  have hb := fun k (hk : k ≤ a.n) => sm_bd (n := k) (f := tc a s) (B := 1000000) (fun i hi => by
    have h1 := hO.c0 i (by omega); have h2 := hO.cM i (by omega)
    unfold tc; split <;> omega)
  have HA := Lib.hid hA; have HO := Lib.hid hO; have HS := Lib.hid hS; have HB := Lib.hid hb; have HSD := Lib.hid hsd
  clear hO hb hsd
  obtain ⟨A, c, rfl, hac, hcm, -⟩ := hA
  obtain ⟨A2, c2, rfl, hac2, hcm2, -⟩ := hS
  obtain ⟨t, ht⟩ : ∃ t, t = N - 1 := ⟨_, rfl⟩
  have ht2 : (N : Int) - 1 = t := by omega
  have htN : t < N := by omega
  have HT := Lib.hid ht
  clear ht
  go_enter Try.func31, Try.ntmps31
  go_upto_region 1 with fail
  have bb := al1 W (.cells #[.int .i64 N, .slice A a.n c] 24)
  have hh := heap_alloc_new W (.cells #[.int .i64 N, .slice A a.n c] 24)
  have zz : W.heap.size < (W.alloc (.cells #[.int .i64 N, .slice A a.n c] 24)).heap.size := by simp
  generalize W.alloc (.cells #[.int .i64 N, .slice A a.n c] 24) = W1 at *
  have HX : Hid (Ext W W1) := Lib.hid bb
  obtain ⟨m0, m1, m2, m3⟩ := two hh
  have HM := Lib.hid m0
  clear bb hh m2 m3 m0
  go_wp2_with fail
  clear m1
  go_loopw [6, 12] (fun z i wr => ∃ k : Nat, i = .int .i64 k ∧ k ≤ a.n ∧ z = .int .i64 (sm k (tc a s)) ∧ Hid (Ext W1 wr)) (fun _ i _ => a.n - (intOf i).toNat)
  case atStart => exact ⟨0, rfl, Nat.zero_le _, rfl, Lib.hid (Ext.refl _)⟩
  case round =>
    obtain ⟨k, rfl, hk, rfl, hin⟩ := hrel
    by_cases hlt : k < a.n
    · obtain ⟨b, off, rfl, d1, d2, d3⟩ := HA.out.arc (HX.out.trans hin.out) hlt
      obtain ⟨fk, hfk, hfN⟩ : ∃ x : Nat, a.f k = (x : Int) ∧ x < N := ⟨(a.f k).toNat, by have := HO.out.f0 k hlt; omega, by have := HO.out.f0 k hlt; have := HO.out.fN k hlt; omega⟩
      obtain ⟨tk, htk, htkN⟩ : ∃ x : Nat, a.t k = (x : Int) ∧ x < N := ⟨(a.t k).toNat, by have := HO.out.t0 k hlt; omega, by have := HO.out.t0 k hlt; have := HO.out.tN k hlt; omega⟩
      obtain ⟨b2, off2, rfl, hb2, e1⟩ := Vl.at HS.out (HX.out.trans hin.out) hfN
      obtain ⟨b3, off3, e3, -, e2⟩ := Vl.at HS.out (HX.out.trans hin.out) htkN
      injection e3 with e3; injection e3 with e3 e4
      subst e3 e4
      have c0 := HO.out.c0 k hlt
      have cM := HO.out.cM k hlt
      have hs := HB.out k hk
      have hsm : sm (k + 1) (tc a s) = sm k (tc a s) + tc a s k := rfl
      have htc : tc a s k = if s fk = true ∧ s tk = false then a.c k else 0 := by unfold tc; rw [hfk, htk]; rfl
      rw [hfk] at d1; rw [htk] at d2
      obtain ⟨ck, hck⟩ : ∃ x, x = a.c k := ⟨_, rfl⟩
      rw [← hck] at d3 c0 cM htc
      obtain ⟨S, hS⟩ : ∃ S, S = sm k (tc a s) := ⟨_, rfl⟩
      rw [← hS] at hs ⊢
      have hkk : k * 1000000 ≤ 1000000000 := by have : k * 1000000 ≤ 1000 * 1000000 := Nat.mul_le_mul_right _ (by omega); omega
      have hS1 : -1000000000 ≤ S ∧ S ≤ 1000000000 := by omega
      have HSM := Lib.hid hsm; have HS2 := Lib.hid hS; have HTC := Lib.hid htc
      clear hs hsm hkk hS hck hfk htk htc
      cases p : s fk
      · rw [p] at e1 HTC
        clear e2 p
        go_wp2
        go_roundw
        case rel => exact ⟨k + 1, by go_num, by omega, by rw [HSM.out, HTC.out, ← HS2.out]; simp, Lib.hid (hin.out.alc _)⟩
        case measure => simp [intOf]; omega
      · rw [p] at e1 HTC
        cases q : s tk
        · rw [q] at e2 HTC
          clear p q
          go_wp2
          go_roundw
          case rel => exact ⟨k + 1, by go_num, by omega, by rw [HSM.out, HTC.out, ← HS2.out]; simp, Lib.hid (hin.out.alc _)⟩
          case measure => simp [intOf]; omega
        · rw [q] at e2 HTC
          clear p q
          go_wp2
          go_roundw
          case rel => exact ⟨k + 1, by go_num, by omega, by rw [HSM.out, HTC.out, ← HS2.out]; simp, Lib.hid (hin.out.alc _)⟩
          case measure => simp [intOf]; omega
    · obtain rfl : k = a.n := by omega
      obtain ⟨b2, off2, rfl, hb2, e1⟩ := Vl.at HS.out (HX.out.trans hin.out) (show 0 < N by omega)
      obtain ⟨b3, off3, e3, -, e2⟩ := Vl.at HS.out (HX.out.trans hin.out) htN
      injection e3 with e3; injection e3 with e3 e4
      subst e3 e4
      rw [Nat.add_zero] at e1
      have m0 := keepAt hin.out zz HM.out
      have zw : W.heap.size < wr.heap.size := Nat.lt_of_lt_of_le zz hin.out.size
      obtain ⟨Z, hZ⟩ : ∃ Z, Z = sm a.n (tc a s) := ⟨_, rfl⟩
      rw [← hZ]
      have HZ := Lib.hid hZ; clear hZ
      have h0N : ¬ N = 0 := by omega
      have hwt : IntKind.i64.wrap (t : Int) = t := IntWalk.i64_in _ (by omega)
      go_upto_region 8 with fail
      have hsd2 : sd = (s 0 && !s t) := by rw [HSD.out, HT.out]
      have HSD2 := Lib.hid hsd2
      clear hsd2
      cases p : s 0
      · rw [p] at e1 HSD2
        clear p e2
        have e1d : wr.drew.cell? ⟨b2, off2, none⟩ = some (.bool false) := e1
        have m0d : wr.drew.cell? ⟨W.heap.size, 0, none⟩ = some (.int .i64 N) := m0
        clear e1 m0 hwt
        have hpN : (0 : Int) < N := by omega
        go_region
        all_goals go_wp2
        all_goals exact bodyPost_ret (v := .tuple #[.int .i64 Z, .bool false]) (by simp [results, Try.results31, go_sem]) rfl ⟨by rw [HSD2.out, HZ.out]; rfl, HX.out.trans (hin.out.trans (Ext.drw (Ext.refl _)))⟩
      · rw [p] at e1 HSD2
        clear p
        obtain ⟨q, hq⟩ : ∃ q, q = s t := ⟨_, rfl⟩
        rw [← hq] at e2 HSD2
        clear hq
        have e1d : wr.drew.cell? ⟨b2, off2, none⟩ = some (.bool true) := e1
        have e2d : wr.drew.cell? ⟨b2, off2 + t, none⟩ = some (.bool q) := e2
        have m0d : wr.drew.cell? ⟨W.heap.size, 0, none⟩ = some (.int .i64 N) := m0
        clear e1 m0 e2
        have hpN : (0 : Int) < N := by omega
        go_region
        all_goals go_wp2
        all_goals exact bodyPost_ret (v := .tuple #[.int .i64 Z, .bool (!q)]) (by simp [results, Try.results31, go_sem]) rfl ⟨by rw [HSD2.out, HZ.out]; rfl, HX.out.trans (hin.out.trans (Ext.drw (Ext.refl _)))⟩

end Go.Proofs.Ytilcbbdmenknfaa
namespace Go.Proofs.Ytilcbbdmenknfaa
open Go.RowKit

/-- side number k of N nodes, as the reference numbers them -/
def bnum (N k : Nat) : Nat → Bool := fun v => decide (k / 2 ^ (N - 1 - v) % 2 = 1)
theorem bnum_numb {N : Nat} (hN : 2 ≤ N) {j v : Nat} (hj : j < 2 ^ (N - 2)) (hv : v < N) : bnum N (2 ^ (N - 1) + 2 * j) v = numb N j v := by
  obtain ⟨M, rfl⟩ : ∃ M, N = M + 2 := ⟨N - 2, by omega⟩
  have e1 : M + 2 - 1 = M + 1 := by omega
  have e2 : M + 2 - 2 = M := by omega
  rw [e1]
  rw [e2] at hj
  have hp : 2 ^ (M + 1) = 2 * 2 ^ M := by rw [Nat.pow_succ]; omega
  by_cases h0 : v = 0
  · subst h0
    rw [numb_zero]
    unfold bnum
    rw [e1, Nat.sub_zero]
    have : (2 ^ (M + 1) + 2 * j) / 2 ^ (M + 1) = 1 := by
      rw [Nat.div_eq_of_lt_le] <;> omega
    rw [this]; rfl
  · by_cases h1 : v = M + 1
    · subst h1
      have := numb_last (N := M + 2) j (by omega)
      rw [e1] at this
      rw [this]
      unfold bnum
      rw [e1, Nat.sub_self, Nat.pow_zero, Nat.div_one]
      exact decide_eq_false (by omega)
    · rw [numb_mid j (by omega) (by omega)]
      unfold bnum
      rw [e1, e2]
      obtain ⟨d, hd⟩ : ∃ d, M - v = d := ⟨_, rfl⟩
      have e3 : M + 1 - v = d + 1 := by omega
      rw [e3, hd]
      have e4 : (2 ^ (M + 1) + 2 * j) / 2 ^ (d + 1) = 2 ^ v + j / 2 ^ d := by
        have a1 : 2 ^ (M + 1) = 2 ^ (d + 1) * 2 ^ v := by rw [← Nat.pow_add]; congr 1; omega
        rw [a1, Nat.mul_add_div (Nat.pow_pos (by omega))]
        congr 1
        rw [Nat.pow_succ, Nat.mul_comm (2 ^ d) 2, ← Nat.div_div_eq_div_mul]
        congr 1; omega
      have e5 : 2 ^ v = 2 * 2 ^ (v - 1) := by
        rw [show v = v - 1 + 1 by omega, Nat.pow_succ]
        simp only [Nat.add_sub_cancel]; omega
      rw [e4, e5]
      congr 1
      rw [Nat.mul_add_mod]
/-- is it a side? -/
theorem bnum_sd {N : Nat} (hN : 2 ≤ N) {k : Nat} (hk : k < 2 ^ N) : Nw.Sd 0 (N - 1) (bnum N k) ↔ 2 ^ (N - 1) ≤ k ∧ k % 2 = 0 := by
  have hp : 2 ^ N = 2 * 2 ^ (N - 1) := by rw [show N = N - 1 + 1 by omega, Nat.pow_succ]; simp only [Nat.add_sub_cancel]; omega
  have hpos : 0 < 2 ^ (N - 1) := Nat.pow_pos (by omega)
  unfold Nw.Sd bnum
  rw [Nat.sub_zero, Nat.sub_self, Nat.pow_zero, Nat.div_one]
  have h1 : k / 2 ^ (N - 1) < 2 := by rw [Nat.div_lt_iff_lt_mul hpos]; omega
  have h2 : (k / 2 ^ (N - 1) % 2 = 1) ↔ 2 ^ (N - 1) ≤ k := by
    rw [Nat.mod_eq_of_lt h1]
    constructor
    · intro h
      rcases Nat.lt_or_ge k (2 ^ (N - 1)) with h3 | h3
      · rw [Nat.div_eq_of_lt h3] at h; omega
      · exact h3
    · intro h
      have : 0 < k / 2 ^ (N - 1) := Nat.div_pos h hpos
      omega
  rw [decide_eq_true_iff, decide_eq_false_iff_not, h2]
  omega
/-- the numbers of the sides that cost v among the first k -/
def rmins (G : Nw) (N : Nat) (v : Int) (k : Nat) : List Nat := (List.range k).filter fun i => isSdB N (bnum N i) && decide (G.ct (bnum N i) = v)
theorem rmins_succ (G : Nw) (N : Nat) (v : Int) (k : Nat) : rmins G N v (k + 1) = rmins G N v k ++ (if isSdB N (bnum N k) = true ∧ G.ct (bnum N k) = v then [k] else []) := by
  unfold rmins
  rw [List.range_succ, List.filter_append]
  congr 1
  by_cases h1 : isSdB N (bnum N k) = true <;> by_cases h2 : G.ct (bnum N k) = v <;> simp [h1, h2]
theorem rmins_len (G : Nw) (N : Nat) (v : Int) (k : Nat) : (rmins G N v k).length ≤ k := Nat.le_trans (List.length_filter_le _ _) (by simp)
theorem rmins_nil {G : Nw} {N : Nat} {v : Int} {k : Nat} (h : ∀ i, i < k → isSdB N (bnum N i) = true → G.ct (bnum N i) ≠ v) : rmins G N v k = [] := by
  unfold rmins
  rw [List.filter_eq_nil_iff]
  intro i hi
  have hik := List.mem_range.1 hi
  by_cases h1 : isSdB N (bnum N i) = true
  · simp [h1, h i hik h1]
  · simp [h1]
theorem filter_low (a n : Nat) (p : Nat → Bool) (h : ∀ i, i < a → p i = false) : (List.range (a + n)).filter p = ((List.range n).filter fun j => p (a + j)).map (a + ·) := by
  induction n with
  | zero =>
    rw [Nat.add_zero]
    simp only [List.range_zero, List.filter_nil, List.map_nil]
    rw [List.filter_eq_nil_iff]
    intro i hi
    simp [h i (List.mem_range.1 hi)]
  | succ n ih =>
    rw [← Nat.add_assoc, List.range_succ, List.filter_append, ih, List.range_succ, List.filter_append, List.map_append]
    congr 1
    cases hq : p (a + n) <;> simp [hq]
theorem filter_even (n : Nat) (p : Nat → Bool) (h : ∀ i, p (2 * i + 1) = false) : (List.range (2 * n)).filter p = ((List.range n).filter fun j => p (2 * j)).map (2 * ·) := by
  induction n with
  | zero => rfl
  | succ n ih =>
    rw [show 2 * (n + 1) = 2 * n + 1 + 1 by omega, List.range_succ, List.range_succ, List.filter_append, List.filter_append, ih, List.range_succ, List.filter_append, List.map_append, List.append_assoc]
    congr 1
    cases hq : p (2 * n) <;> simp [hq, h n]
theorem filter_congr2 {n : Nat} {p q : Nat → Bool} (h : ∀ i, i < n → p i = q i) : (List.range n).filter p = (List.range n).filter q := List.filter_congr fun i hi => h i (List.mem_range.1 hi)
/-- both number the minimum sides in the same order -/
theorem rmins_mins {G : Nw} {N : Nat} {v : Int} (hN : 2 ≤ N) (hin : G.In N) : rmins G N v (2 ^ N) = (mins G N v (2 ^ (N - 2))).map fun j => 2 ^ (N - 1) + 2 * j := by
  have hp : 2 ^ N = 2 ^ (N - 1) + 2 ^ (N - 1) := by rw [show N = N - 1 + 1 by omega, Nat.pow_succ]; simp only [Nat.add_sub_cancel]; omega
  have hp2 : 2 ^ (N - 1) = 2 * 2 ^ (N - 2) := by rw [show N - 1 = N - 2 + 1 by omega, Nat.pow_succ]; omega
  have key : ∀ i, i < 2 ^ N → ¬ (2 ^ (N - 1) ≤ i ∧ i % 2 = 0) → (isSdB N (bnum N i) && decide (G.ct (bnum N i) = v)) = false := by
    intro i hi hn
    cases e : isSdB N (bnum N i)
    · rfl
    · exact absurd ((bnum_sd hN hi).1 (isSdB_iff.1 e)) hn
  unfold rmins
  rw [hp, filter_low _ _ _ (fun i hi => key i (by omega) (by omega))]
  have e1 : (List.range (2 ^ (N - 1))).filter (fun j => isSdB N (bnum N (2 ^ (N - 1) + j)) && decide (G.ct (bnum N (2 ^ (N - 1) + j)) = v)) = (mins G N v (2 ^ (N - 2))).map (2 * ·) := by
    have e2 : (List.range (2 ^ (N - 1))).filter (fun j => isSdB N (bnum N (2 ^ (N - 1) + j)) && decide (G.ct (bnum N (2 ^ (N - 1) + j)) = v)) = (List.range (2 ^ (N - 1))).filter (fun j => decide (j % 2 = 0) && decide (G.ct (numb N (j / 2)) = v)) := by
      refine filter_congr2 fun j hj => ?_
      by_cases ho : j % 2 = 0
      · have e3 : j = 2 * (j / 2) := by omega
        have hs : isSdB N (bnum N (2 ^ (N - 1) + j)) = true := isSdB_iff.2 ((bnum_sd hN (by omega)).2 ⟨by omega, by omega⟩)
        have hc : G.ct (bnum N (2 ^ (N - 1) + j)) = G.ct (numb N (j / 2)) := by
          refine G.ct_congr hin fun u hu => ?_
          rw [e3, bnum_numb hN (by omega) hu]
          congr 1; omega
        rw [hs, hc, decide_eq_true ho]
      · rw [key _ (by omega) (by omega), decide_eq_false ho]; rfl
    rw [e2, hp2, filter_even _ _ (fun i => by simp)]
    congr 1
    refine filter_congr2 fun j _ => ?_
    have h1 : 2 * j % 2 = 0 := by omega
    have h2 : 2 * j / 2 = j := by omega
    rw [h1, h2]; simp
  rw [e1, List.map_map]
  rfl

/-- the sides B of the numbers ks lie at slice q, in blocks from base on -/
def Sdb (B : Nat → Nat → Bool) (w : World) (base : Nat) (q : Value) (N : Nat) (ks : List Nat) : Prop :=
  ∃ gs : List Nat, gs.length = ks.length ∧ w.ownsRow base 40 1 q ks.length (gs.map fun g => .slice (some ⟨g, 0, none⟩) N N) ∧ ∀ i, i < ks.length → BB w (gs.getD i 0) N (B (ks.getD i 0))
theorem Sdb.ext {B : Nat → Nat → Bool} {w w' : World} {base : Nat} {q : Value} {N : Nat} {ks : List Nat} (h : Sdb B w base q N ks) (e : Ext w w') : Sdb B w' base q N ks := by
  obtain ⟨gs, h1, h2, h3⟩ := h
  exact ⟨gs, h1, World.ownsRow.ext h2 e, fun i hi => (h3 i hi).ext e⟩
theorem Sdb.more {B : Nat → Nat → Bool} {w w' : World} {base N k g : Nat} {q q' : Value} {ks gs : List Nat} (h1 : gs.length = ks.length) (h2 : w.ownsRow base 40 1 q ks.length (gs.map fun g => .slice (some ⟨g, 0, none⟩) N N)) (h3 : ∀ i, i < ks.length → BB w (gs.getD i 0) N (B (ks.getD i 0)))
    (hg : BB w g N (B k)) (hq : w'.ownsRow base 40 1 q' (ks.length + 1) ((gs.map fun g => .slice (some ⟨g, 0, none⟩) N N) ++ [.slice (some ⟨g, 0, none⟩) N N])) (hgr : w.grownBy w' q.ownBlock) : Sdb B w' base q' N (ks ++ [k]) := by
  have keep : ∀ b s, BB w b N s → BB w' b N s := fun b s hb => (hgr.block b (Bk.lt hb) (fun e => own_ne h2 hb e.symm)).trans hb
  refine ⟨gs ++ [g], by simp [h1], by rw [List.length_append, List.map_append]; exact hq, fun i hi => ?_⟩
  simp only [List.length_append, List.length_singleton] at hi
  simp only [List.getD_eq_getElem?_getD]
  by_cases e : i < ks.length
  · rw [List.getElem?_append_left (by omega), List.getElem?_append_left e]
    have := keep _ _ (h3 i e)
    simpa only [List.getD_eq_getElem?_getD] using this
  · have e2 : i = ks.length := by omega
    rw [List.getElem?_append_right (by omega), List.getElem?_append_right (by omega), h1, e2]
    simpa using keep _ _ hg
theorem Sdb.nil (B : Nat → Nat → Bool) (w : World) (base N : Nat) : Sdb B w base (.slice none 0 0) N [] := ⟨[], rfl, World.ownsRow_nil _ _ _ _, fun i hi => by simp at hi⟩
/-- as a plain list of rows of flags -/
def Rws (w : World) (q : Value) (N n : Nat) (f : Nat → Nat → Bool) : Prop :=
  ∃ A c, q = .slice A n c ∧ (0 < n → ∃ b off, A = some ⟨b, off, none⟩ ∧ b < w.heap.size ∧ ∀ i, i < n → ∃ u, w.cell? ⟨b, off + i, none⟩ = some u ∧ Bl w u N (f i))
theorem Rws.ext {w w' : World} {q : Value} {N n : Nat} {f : Nat → Nat → Bool} (h : Rws w q N n f) (e : Ext w w') : Rws w' q N n f := by
  obtain ⟨A, c, rfl, h1⟩ := h
  refine ⟨A, c, rfl, fun hp => ?_⟩
  obtain ⟨b, off, rfl, hb, hc⟩ := h1 hp
  exact ⟨b, off, rfl, Nat.lt_of_lt_of_le hb e.size, fun i hi => by obtain ⟨u, h2, h3⟩ := hc i hi; exact ⟨u, keepAt e hb h2, h3.ext e⟩⟩
theorem Sdb.rws {B : Nat → Nat → Bool} {w : World} {base N : Nat} {q : Value} {ks : List Nat} (h : Sdb B w base q N ks) (hN : N ≤ 1000) : Rws w q N ks.length (fun i => B (ks.getD i 0)) := by
  obtain ⟨gs, h1, ⟨h5, ⟨rfl, h0⟩ | ⟨g, cap, cur, rfl, hg, hh, h6, h7, h8, h9⟩⟩, h3⟩ := h
  · exact ⟨none, 0, by rw [h0], fun hp => by omega⟩
  · refine ⟨_, cap, rfl, fun hp => ⟨g, 0, rfl, (Array.getElem?_eq_some_iff.1 hh).1, fun i hi => ?_⟩⟩
    refine ⟨.slice (some ⟨gs.getD i 0, 0, none⟩) N N, ?_, BB.bl (h3 i hi) (by omega)⟩
    have h10 : (cur.toList.take (ks.length * 1))[i]? = some (.slice (some ⟨gs.getD i 0, 0, none⟩) N N) := by
      rw [h9, List.getElem?_map, List.getElem?_eq_getElem (by omega)]
      simp [List.getD_eq_getElem?_getD, List.getElem?_eq_getElem (show i < gs.length by omega)]
    rw [List.getElem?_take, if_pos (by omega)] at h10
    refine (cell_of_row w g (0 + i) cur 40 (0, 0) hh).trans ?_
    rw [Nat.zero_add]
    simpa using h10
end Go.Proofs.Ytilcbbdmenknfaa
