/- The law WaxFlows. -/
import Derived.Test.YtilcbbdmenknfaaMv
import Derived.Test.YtilcbbdmenknfaaD9
import Derived.Test.YtilcbbdmenknfaaD1
import Derived.Test.YtilcbbdmenknfaaD2
namespace Go.Proofs.Ytilcbbdmenknfaa
open Go.RowKit

set_option maxHeartbeats 4000000 in
set_option maxRecDepth 100000 in
theorem waxFlows_walk (N : Int) (a : Ar) (AV : Value) (W : World) (hA : Al W AV a) :
    Calls Try.prog 3 #[.agg #[.int .i64 N, AV]] W fun e W' => e = .returned (.bool true) ∧ Ext W W' := by
  have HA := Lib.hid hA
  obtain ⟨ac, hac'⟩ : ∃ z, z = a.cut 162 := ⟨_, rfl⟩
  have hnet : ∀ (X : World), Ext W X → Calls Try.prog 16 #[.agg #[.int .i64 N, AV]] X fun e W' => ∃ v, e = .returned (.agg #[.int .i64 N, v]) ∧ Al W' v ac ∧ Ext X W' := fun X hX => by
    refine (net_any N a AV X (hA.ext hX)).mono ?_
    rintro e w ⟨v, rfl, h1, -, h2⟩
    exact ⟨v, rfl, by rw [hac']; exact h1, h2⟩
  have hvac : vNet N ac = vNet N a := by rw [hac']; exact vNet_cut N a
  have hsame : vNet N a = true → ac = a := fun h => by rw [hac']; exact vNet_same h
  have HNET := Lib.hid hnet; have HV := Lib.hid hvac; have HS := Lib.hid hsame
  clear hnet hac' hvac hsame
  obtain ⟨A, c, rfl, hac, hcm, -⟩ := hA
  go_enter Try.func3, Try.ntmps3
  go_upto_region 1 with fail
  have bb := al1 W (.cells #[.int .i64 N, .slice A a.n c] 24)
  have hh := heap_alloc_new W (.cells #[.int .i64 N, .slice A a.n c] 24)
  have zz : W.heap.size < (W.alloc (.cells #[.int .i64 N, .slice A a.n c] 24)).heap.size := by simp
  generalize W.alloc (.cells #[.int .i64 N, .slice A a.n c] 24) = W0 at *
  have HB : Hid (Ext W W0) := Lib.hid bb
  obtain ⟨m0, m1, m2, m3⟩ := two hh
  have HM := Lib.hid (And.intro m0 m1)
  clear bb hh m2 m3
  go_wp2_with fail
  refine (HNET.out _ HB.out).mono ?_
  rintro e x1 ⟨o1, rfl, hal, hx⟩
  have HO1 := Lib.hid hal
  have HX1 : Hid (Ext W0 x1) := Lib.hid hx
  obtain ⟨Ao1, co1, rfl, -, -, -⟩ := hal
  clear hx m0 m1
  go_wp2_with fail
  refine (valueS_any N ac _ _ HO1.out).mono ?_
  rintro e y1 ⟨v, er, rfl, hx, hcase⟩
  have HY1 : Hid (Ext W0 y1) := Lib.hid (HX1.out.trans hx)
  have m0 := keepAt HY1.out zz HM.out.1
  have m1 := keepAt HY1.out zz HM.out.2
  have HC1 := Lib.hid hcase
  clear hx hcase
  go_wp2_with fail
  refine (valueR_any N a _ _ (HA.out.ext (HB.out.trans HY1.out))).mono ?_
  rintro e y2 ⟨w, hr, rfl, hx, hcase⟩
  clear m0 m1
  have HY2 : Hid (Ext W0 y2) := Lib.hid (HY1.out.trans hx)
  have m0 := keepAt HY2.out zz HM.out.1
  have m1 := keepAt HY2.out zz HM.out.2
  have hvw : v = w ∧ er = hr ∧ (vNet N a = false → er = 2 ∧ v = 0) ∧ (vNet N a = true → er = 0 ∧ Mc a.nw 0 (N.toNat - 1) v) := by
    have h1 := HC1.out
    rw [HV.out] at h1
    rcases h1 with ⟨h1, h2, h3⟩ | ⟨h1, h2, h3⟩ <;> rcases hcase with ⟨h4, h5, h6⟩ | ⟨h4, h5, h6⟩
    · exact ⟨by rw [h2, h5], by rw [h3, h6], fun _ => ⟨h3, h2⟩, fun h => by rw [h1] at h; cases h⟩
    · rw [h1] at h4; cases h4
    · rw [h1] at h4; cases h4
    · rw [HS.out h1] at h3
      exact ⟨h3.one h6, by rw [h2, h5], fun h => (by rw [h1] at h; cases h), fun _ => ⟨h2, h3⟩⟩
  obtain ⟨rfl, rfl, hno, hyes⟩ := hvw
  have HNO := Lib.hid hno; have HYES := Lib.hid hyes
  clear hx hcase hno hyes HC1
  go_wp2_with fail
  refine (HNET.out _ (HB.out.trans HY2.out)).mono ?_
  rintro e x3 ⟨o3, rfl, hal, hx⟩
  have HO3 := Lib.hid hal
  have HX3 : Hid (Ext W0 x3) := Lib.hid (HY2.out.trans hx)
  obtain ⟨Ao3, co3, rfl, -, -, -⟩ := hal
  clear hx m0 m1
  go_wp2_with fail
  refine (flowS_any N ac _ _ HO3.out).mono ?_
  rintro e y3 ⟨F, er3, rfl, hx, hcase⟩
  have HY3 : Hid (Ext W0 y3) := Lib.hid (HX3.out.trans hx)
  have m0 := keepAt HY3.out zz HM.out.1
  have m1 := keepAt HY3.out zz HM.out.2
  clear hx
  rw [HV.out] at hcase
  rcases hcase with ⟨hv, rfl, rfl⟩ | ⟨hv, rfl, g, f, rfl, hg, hbf, hfl, hmc⟩
  · obtain ⟨rfl, rfl⟩ := HNO.out hv
    clear hv
    go_wp2_with fail
    refine (awake_any _).mono ?_
    rintro e w9 ⟨rfl, hx⟩
    have EF : Hid (Ext W w9) := Lib.hid (HB.out.trans (HY3.out.trans hx)); clear hx
    go_wp2
    go_ret
    exact ⟨rfl, EF.out⟩
  · obtain ⟨rfl, hmc2⟩ := HYES.out hv
    have hca : ac = a := HS.out hv
    subst hca
    obtain ⟨m, rfl, hm2, hm40, hn, hO⟩ := vNet_ok hv
    rw [Int.toNat_natCast] at hfl hmc hmc2
    have hvz : v = ac.nw.sp f 0 := hmc2.one hmc
    have HO := Lib.hid hO; have HFL := Lib.hid hfl; have HVZ := Lib.hid hvz
    have HF := Lib.hid hbf
    clear hv hO hfl hmc hmc2 hvz hbf
    go_wp2_with fail
    refine (awake_any _).mono ?_
    rintro e w9 ⟨rfl, hx⟩
    replace HF := Lib.hid (HF.out.ext hx)
    have HY4 : Hid (Ext W0 w9) := Lib.hid (HY3.out.trans hx)
    clear m0 m1
    have m0 := keepAt HY4.out zz HM.out.1
    have m1 := keepAt HY4.out zz HM.out.2
    clear hx
    go_wp2_with fail
    refine (flowR_any m ac f _ _ _ (HA.out.ext (HB.out.trans HY4.out)) (BI.il HF.out (by omega)) HO.out (by omega) hm2 (by omega)).mono ?_
    rintro e y5 ⟨rfl, hx⟩
    have hfB : isFlB m ac f = true := (isFlB_fl hm2).2 HFL.out
    rw [if_pos hfB, hfB, ← HVZ.out]
    have EF : Hid (Ext W y5) := Lib.hid (HB.out.trans (HY4.out.trans hx))
    clear hx hfB m0 m1
    go_wp2
    go_ret
    exact ⟨rfl, EF.out⟩
end Go.Proofs.Ytilcbbdmenknfaa
