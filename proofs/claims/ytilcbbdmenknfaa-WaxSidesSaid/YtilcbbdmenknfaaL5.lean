/- The law WaxSides. -/
import Derived.Test.YtilcbbdmenknfaaMu
import Derived.Test.YtilcbbdmenknfaaD1
import Derived.Test.YtilcbbdmenknfaaD2
namespace Go.Proofs.Ytilcbbdmenknfaa
open Go.RowKit

set_option maxHeartbeats 4000000 in
set_option maxRecDepth 100000 in
theorem waxSides_walk (N : Int) (a : Ar) (AV : Value) (W : World) (hA : Al W AV a) :
    Calls Try.prog 5 #[.agg #[.int .i64 N, AV]] W fun e W' => e = .returned (.bool true) ∧ Ext W W' := by
  have HA := Lib.hid hA
  obtain ⟨ac, hac'⟩ : ∃ z, z = a.cut 162 := ⟨_, rfl⟩
  have hnet : ∀ (X : World), Ext W X → Calls Try.prog 16 #[.agg #[.int .i64 N, AV]] X fun e W' => ∃ v, e = .returned (.agg #[.int .i64 N, v]) ∧ Al W' v ac ∧ Ext X W' := fun X hX => by
    refine (net_any N a AV X (hA.ext hX)).mono ?_
    rintro e w ⟨v, rfl, h1, -, h2⟩
    exact ⟨v, rfl, by rw [hac']; exact h1, h2⟩
  obtain ⟨er1, n1, L1, hn1, hp1, hr1⟩ := least_both N a
  obtain ⟨er2, n2, L2, hn2, hp2, hr2⟩ := greatest_both N a
  obtain ⟨er3, n3, k3, f3, hk3, hn3, hp3, hr3⟩ := sides_both N a
  rw [← hac'] at hp1 hp2 hp3
  have HNET := Lib.hid hnet
  have HP1 := Lib.hid hp1; have HR1 := Lib.hid hr1; have HP2 := Lib.hid hp2; have HR2 := Lib.hid hr2; have HP3 := Lib.hid hp3; have HR3 := Lib.hid hr3
  clear hnet hac' hp1 hr1 hp2 hr2 hp3 hr3
  obtain ⟨A, c, rfl, hac, hcm, -⟩ := hA
  go_enter Try.func5, Try.ntmps5
  go_upto_region 1 with fail
  have bb := al1 W (.cells #[.int .i64 N, .slice A a.n c] 24)
  have hh := heap_alloc_new W (.cells #[.int .i64 N, .slice A a.n c] 24)
  have zz : W.heap.size < (W.alloc (.cells #[.int .i64 N, .slice A a.n c] 24)).heap.size := by simp
  generalize W.alloc (.cells #[.int .i64 N, .slice A a.n c] 24) = W0 at *
  have HB : Hid (Ext W W0) := Lib.hid bb
  obtain ⟨m0, m1, m2, m3⟩ := two hh
  have HM := Lib.hid (And.intro m0 m1)
  clear bb hh m2 m3
  go_wp2_with fail
  refine (HNET.out _ HB.out).mono ?_
  rintro e x1 ⟨o1, rfl, hal, hx⟩
  have HO1 := Lib.hid hal
  have HX1 : Hid (Ext W0 x1) := Lib.hid hx
  obtain ⟨Ao1, co1, rfl, -, -, -⟩ := hal
  clear hx m0 m1
  go_wp2_with fail
  refine (HP1.out _ _ HO1.out).mono ?_
  rintro e y1 ⟨F1, rfl, hb, hx⟩
  have HY1 : Hid (Ext W0 y1) := Lib.hid (HX1.out.trans hx)
  have m0 := keepAt HY1.out zz HM.out.1
  have m1 := keepAt HY1.out zz HM.out.2
  have HF1 := Lib.hid hb
  obtain ⟨Af1, cf1, rfl, -, -, -⟩ := hb
  clear hx
  go_wp2_with fail
  refine (HR1.out _ _ (HA.out.ext (HB.out.trans HY1.out))).mono ?_
  rintro e y2 ⟨F2, rfl, hb, hx⟩
  clear m0 m1
  replace HF1 := Lib.hid (HF1.out.ext hx)
  have HY2 : Hid (Ext W0 y2) := Lib.hid (HY1.out.trans hx)
  have m0 := keepAt HY2.out zz HM.out.1
  have m1 := keepAt HY2.out zz HM.out.2
  have HF2 := Lib.hid hb
  obtain ⟨Af2, cf2, rfl, -, -, -⟩ := hb
  clear hx
  go_wp2_with fail
  refine (equalB_any n1 n1 L1 L1 _ _ _ HF1.out HF2.out (by omega)).mono ?_
  rintro e y3 ⟨rfl, hx⟩
  have ht : eqB n1 n1 L1 L1 = true := eqB_iff.2 ⟨rfl, fun i _ => rfl⟩
  rw [ht]
  clear m0 m1
  replace HF1 := Lib.hid (HF1.out.ext hx)
  replace HF2 := Lib.hid (HF2.out.ext hx)
  have HY3 : Hid (Ext W0 y3) := Lib.hid (HY2.out.trans hx)
  have m0 := keepAt HY3.out zz HM.out.1
  have m1 := keepAt HY3.out zz HM.out.2
  clear hx ht
  go_wp2_with fail
  refine (awake_any _).mono ?_
  rintro e y4 ⟨rfl, hx⟩
  clear m0 m1
  replace HF1 := Lib.hid (HF1.out.ext hx)
  replace HF2 := Lib.hid (HF2.out.ext hx)
  have HY4 : Hid (Ext W0 y4) := Lib.hid (HY3.out.trans hx)
  have m0 := keepAt HY4.out zz HM.out.1
  have m1 := keepAt HY4.out zz HM.out.2
  clear hx
  go_wp2_with fail
  refine (HNET.out _ (HB.out.trans HY4.out)).mono ?_
  rintro e x5 ⟨o5, rfl, hal, hx⟩
  have HO5 := Lib.hid hal
  have HX5 : Hid (Ext W0 x5) := Lib.hid (HY4.out.trans hx)
  obtain ⟨Ao5, co5, rfl, -, -, -⟩ := hal
  replace HF1 := Lib.hid (HF1.out.ext hx)
  replace HF2 := Lib.hid (HF2.out.ext hx)
  clear hx m0 m1
  go_wp2_with fail
  refine (HP2.out _ _ HO5.out).mono ?_
  rintro e y5 ⟨F5, rfl, hb, hx⟩
  replace HF1 := Lib.hid (HF1.out.ext hx)
  replace HF2 := Lib.hid (HF2.out.ext hx)
  have HY5 : Hid (Ext W0 y5) := Lib.hid (HX5.out.trans hx)
  have m0 := keepAt HY5.out zz HM.out.1
  have m1 := keepAt HY5.out zz HM.out.2
  have HF5 := Lib.hid hb
  obtain ⟨Af5, cf5, rfl, -, -, -⟩ := hb
  clear hx
  go_wp2_with fail
  refine (HR2.out _ _ (HA.out.ext (HB.out.trans HY5.out))).mono ?_
  rintro e y6 ⟨F6, rfl, hb, hx⟩
  clear m0 m1
  replace HF1 := Lib.hid (HF1.out.ext hx)
  replace HF2 := Lib.hid (HF2.out.ext hx)
  replace HF5 := Lib.hid (HF5.out.ext hx)
  have HY6 : Hid (Ext W0 y6) := Lib.hid (HY5.out.trans hx)
  have m0 := keepAt HY6.out zz HM.out.1
  have m1 := keepAt HY6.out zz HM.out.2
  have HF6 := Lib.hid hb
  obtain ⟨Af6, cf6, rfl, -, -, -⟩ := hb
  clear hx
  go_wp2_with fail
  refine (HNET.out _ (HB.out.trans HY6.out)).mono ?_
  rintro e x7 ⟨o7, rfl, hal, hx⟩
  have HO7 := Lib.hid hal
  have HX7 : Hid (Ext W0 x7) := Lib.hid (HY6.out.trans hx)
  obtain ⟨Ao7, co7, rfl, -, -, -⟩ := hal
  replace HF1 := Lib.hid (HF1.out.ext hx)
  replace HF2 := Lib.hid (HF2.out.ext hx)
  replace HF5 := Lib.hid (HF5.out.ext hx)
  replace HF6 := Lib.hid (HF6.out.ext hx)
  clear hx m0 m1
  go_wp2_with fail
  refine (HP3.out _ _ HO7.out).mono ?_
  rintro e y7 ⟨F7, rfl, hb, hx⟩
  replace HF1 := Lib.hid (HF1.out.ext hx)
  replace HF2 := Lib.hid (HF2.out.ext hx)
  replace HF5 := Lib.hid (HF5.out.ext hx)
  replace HF6 := Lib.hid (HF6.out.ext hx)
  have HY7 : Hid (Ext W0 y7) := Lib.hid (HX7.out.trans hx)
  have m0 := keepAt HY7.out zz HM.out.1
  have m1 := keepAt HY7.out zz HM.out.2
  have HF7 := Lib.hid hb
  obtain ⟨Af7, cf7, rfl, -⟩ := hb
  clear hx
  go_wp2_with fail
  refine (HR3.out _ _ (HA.out.ext (HB.out.trans HY7.out))).mono ?_
  rintro e y8 ⟨F8, rfl, hb, hx⟩
  clear m0 m1
  replace HF1 := Lib.hid (HF1.out.ext hx)
  replace HF2 := Lib.hid (HF2.out.ext hx)
  replace HF5 := Lib.hid (HF5.out.ext hx)
  replace HF6 := Lib.hid (HF6.out.ext hx)
  replace HF7 := Lib.hid (HF7.out.ext hx)
  have HY8 : Hid (Ext W0 y8) := Lib.hid (HY7.out.trans hx)
  have m0 := keepAt HY8.out zz HM.out.1
  have m1 := keepAt HY8.out zz HM.out.2
  have HF8 := Lib.hid hb
  obtain ⟨Af8, cf8, rfl, -⟩ := hb
  clear hx
  go_wp2_with fail
  refine (equalB_any n2 n2 L2 L2 _ _ _ HF5.out HF6.out (by omega)).mono ?_
  rintro e y9 ⟨rfl, hx⟩
  have ht : eqB n2 n2 L2 L2 = true := eqB_iff.2 ⟨rfl, fun i _ => rfl⟩
  rw [ht]
  clear m0 m1
  replace HF1 := Lib.hid (HF1.out.ext hx)
  replace HF2 := Lib.hid (HF2.out.ext hx)
  replace HF5 := Lib.hid (HF5.out.ext hx)
  replace HF6 := Lib.hid (HF6.out.ext hx)
  replace HF7 := Lib.hid (HF7.out.ext hx)
  replace HF8 := Lib.hid (HF8.out.ext hx)
  have HY9 : Hid (Ext W0 y9) := Lib.hid (HY8.out.trans hx)
  have m0 := keepAt HY9.out zz HM.out.1
  have m1 := keepAt HY9.out zz HM.out.2
  clear hx ht
  go_wp2_with fail
  refine (equalF_any n3 k3 f3 _ _ _ HF7.out HF8.out (by omega) (by omega)).mono ?_
  rintro e y10 ⟨rfl, hx⟩
  have EF : Hid (Ext W y10) := Lib.hid (HB.out.trans (HY9.out.trans hx))
  clear hx m0 m1
  go_wp2
  go_ret
  exact ⟨rfl, EF.out⟩
end Go.Proofs.Ytilcbbdmenknfaa
