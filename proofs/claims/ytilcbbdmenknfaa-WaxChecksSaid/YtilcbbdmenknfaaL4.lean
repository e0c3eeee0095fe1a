/- The law WaxChecks. -/
import Derived.Test.YtilcbbdmenknfaaE1
import Derived.Test.YtilcbbdmenknfaaD6
import Derived.Test.YtilcbbdmenknfaaD1
namespace Go.Proofs.Ytilcbbdmenknfaa
open Go.RowKit

theorem Chk.cut {N : Int} {a : Ar} {n m : Nat} {f : Nat → Int} {s : Nat → Bool} {b : Bool} {er : Int} (h : Chk N (a.cut 162) n m f s b er) : Chk N a n m f s b er := by
  rcases h with ⟨h1, h2⟩ | ⟨h1, h2⟩
  · exact .inl ⟨by rw [← vNet_cut]; exact h1, h2⟩
  · rw [vNet_cut] at h1
    rw [vNet_same h1] at h2
    exact .inr ⟨h1, h2⟩

set_option maxHeartbeats 4000000 in
set_option maxRecDepth 100000 in
theorem waxChecks_walk (N : Int) (a : Ar) (nf ns : Nat) (f : Nat → Int) (s : Nat → Bool) (AV FV SV : Value) (W : World) (hA : Al W AV a) (hF : Il W FV nf f) (hS : Bl W SV ns s) :
    Calls Try.prog 4 #[.agg #[.int .i64 N, AV], FV, SV] W fun e W' => e = .returned (.bool true) ∧ Ext W W' := by
  have HA := Lib.hid hA; have HF := Lib.hid hF; have HS := Lib.hid hS
  obtain ⟨A, c, rfl, hac, hcm, -⟩ := hA
  obtain ⟨A2, c2, rfl, hac2, hcm2, -⟩ := hF
  obtain ⟨A3, c3, rfl, hac3, hcm3, -⟩ := hS
  go_enter Try.func4, Try.ntmps4
  go_upto_region 1 with fail
  have bb := al1 W (.cells #[.int .i64 N, .slice A a.n c] 24)
  have hh := heap_alloc_new W (.cells #[.int .i64 N, .slice A a.n c] 24)
  have zz : W.heap.size < (W.alloc (.cells #[.int .i64 N, .slice A a.n c] 24)).heap.size := by simp
  generalize W.alloc (.cells #[.int .i64 N, .slice A a.n c] 24) = W0 at *
  have HB0 : Hid (Ext W W0) := Lib.hid bb
  obtain ⟨m0, m1, m2, m3⟩ := two hh
  have HM := Lib.hid (And.intro m0 m1)
  clear bb hh m2 m3
  go_wp2_with fail
  refine (net_any N a _ _ (HA.out.ext HB0.out)).mono ?_
  rintro e w1 ⟨o, rfl, hal, -, hx⟩
  have HAL := Lib.hid hal
  have HX : Hid (Ext W0 w1) := Lib.hid hx
  obtain ⟨Ao, co, rfl, -, -, -⟩ := hal
  clear hx m0 m1
  go_wp2_with fail
  refine (check_any N (a.cut 162) nf ns f s _ _ _ _ HAL.out (Il.ext HF.out (HB0.out.trans HX.out)) (Bl.ext HS.out (HB0.out.trans HX.out))).mono ?_
  rintro e w2 ⟨b, er, rfl, hc, hx⟩
  have HC := Lib.hid hc.cut
  have HX2 : Hid (Ext W0 w2) := Lib.hid (HX.out.trans hx)
  have m0 := keepAt HX2.out zz HM.out.1
  have m1 := keepAt HX2.out zz HM.out.2
  clear hx hc
  go_wp2_with fail
  refine (checkR_any N a nf ns f s _ _ _ _ (HA.out.ext (HB0.out.trans HX2.out)) (Il.ext HF.out (HB0.out.trans HX2.out)) (Bl.ext HS.out (HB0.out.trans HX2.out))).mono ?_
  rintro e w3 ⟨b2, er2, rfl, hc, hx⟩
  obtain ⟨e1, e2⟩ := HC.out.one hc
  subst e1 e2
  have HX3 : Hid (Ext W w3) := Lib.hid (HB0.out.trans (HX2.out.trans hx))
  clear hx hc m0 m1
  have hbb : (b == b) = true := by cases b <;> rfl
  go_wp2_with fail
  refine (awake_any _).mono ?_
  rintro e w9 ⟨rfl, hx⟩
  have EF : Hid (Ext W w9) := Lib.hid (HX3.out.trans hx); clear hx
  go_wp2
  go_ret
  exact ⟨rfl, EF.out⟩
end Go.Proofs.Ytilcbbdmenknfaa
