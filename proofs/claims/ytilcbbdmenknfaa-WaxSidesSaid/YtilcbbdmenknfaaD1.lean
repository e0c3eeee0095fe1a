/- Walks: Value, Flow, awake. -/
import Derived.Test.YtilcbbdmenknfaaMc
namespace Go.Proofs.Ytilcbbdmenknfaa
open Go.RowKit

set_option maxHeartbeats 4000000 in
set_option maxRecDepth 100000 in
theorem valueS_any (N : Int) (a : Ar) (AV : Value) (W : World) (hA : Al W AV a) :
    Calls Try.prog 15 #[.agg #[.int .i64 N, AV]] W fun e W' => ∃ v er : Int, e = .returned (.tuple #[.int .i64 v, .int .i64 er]) ∧ Ext W W' ∧
      ((vNet N a = false ∧ v = 0 ∧ er = 2) ∨ (vNet N a = true ∧ er = 0 ∧ Mc a.nw 0 (N.toNat - 1) v)) := by
  have HA := Lib.hid hA
  obtain ⟨A, c, rfl, hac, hcm, -⟩ := hA
  go_enter Try.func15, Try.ntmps15
  go_upto_region 1 with fail
  have bb := al1 W (.cells #[.int .i64 N, .slice A a.n c] 30)
  have m0 : (W.alloc (.cells #[.int .i64 N, .slice A a.n c] 30)).cell? ⟨W.heap.size, 0, none⟩ = some (.int .i64 N) := by rw [World.cell?_alloc_new]; rfl
  have m1 : (W.alloc (.cells #[.int .i64 N, .slice A a.n c] 30)).cell? ⟨W.heap.size, 1, none⟩ = some (.slice A a.n c) := by rw [World.cell?_alloc_new]; rfl
  have zz : W.heap.size < (W.alloc (.cells #[.int .i64 N, .slice A a.n c] 30)).heap.size := by simp
  generalize W.alloc (.cells #[.int .i64 N, .slice A a.n c] 30) = W1 at *
  have HB : Hid (Ext W W1) := Lib.hid bb
  clear bb
  go_wp2_with fail
  refine (isNet_any N a _ _ (HA.out.ext HB.out)).mono ?_
  rintro e w1 ⟨rfl, hx⟩
  replace m0 := keepAt hx zz m0
  replace m1 := keepAt hx zz m1
  have HX : Hid (Ext W w1) := Lib.hid (HB.out.trans hx)
  clear hx
  cases hv : vNet N a
  · have HV := Lib.hid hv; clear hv
    go_wp2
    refine bodyPost_ret (v := .tuple #[.int .i64 0, .int .i64 2]) (by simp [results, Try.results15, go_sem]) rfl ⟨0, 2, rfl, HX.out, .inl ⟨HV.out, rfl, rfl⟩⟩
  · obtain ⟨m, rfl, hm2, hm40, hn, hok⟩ := vNet_ok hv
    have HOK := Lib.hid hok; have HV := Lib.hid hv
    clear hv hok
    go_wp2_with fail
    refine (filled_any m a _ _ (HA.out.ext HX.out) HOK.out (by omega) hm2 (by omega)).mono ?_
    rintro e w2 ⟨x, gl, SV, rfl, -, hbi, hfull, -, hx⟩
    have HX2 := Lib.hid (HX.out.trans hx)
    have HFULL := Lib.hid hfull; have HBI := Lib.hid hbi
    clear hx m0 m1 hbi hfull
    go_wp2_with fail
    refine (value_any a m 0 ((m - 1 : Nat) : Int) (2 * a.n) 1000000 _ SV gl x _ (HA.out.ext HX2.out) HOK.out (by omega) (by omega) rfl HBI.out HFULL.out.fp.rs).mono ?_
    rintro e w3 ⟨rfl, hx⟩
    have HX3 := Lib.hid (HX2.out.trans hx)
    clear hx
    go_wp2
    refine bodyPost_ret (v := .tuple #[.int .i64 (a.nw.sp (Nw.fw x) 0), .int .i64 0]) (by simp [results, Try.results15, go_sem]) rfl ⟨_, 0, rfl, HX3.out, .inr ⟨HV.out, rfl, ?_⟩⟩
    have := HFULL.out.mc HOK.out.in_ (by omega) (by omega)
    rw [Int.toNat_natCast]
    exact this

set_option maxHeartbeats 4000000 in
set_option maxRecDepth 100000 in
theorem flowS_any (N : Int) (a : Ar) (AV : Value) (W : World) (hA : Al W AV a) :
    Calls Try.prog 18 #[.agg #[.int .i64 N, AV]] W fun e W' => ∃ (F : Value) (er : Int), e = .returned (.tuple #[F, .int .i64 er]) ∧ Ext W W' ∧
      ((vNet N a = false ∧ F = .slice none 0 0 ∧ er = 2) ∨ (vNet N a = true ∧ er = 0 ∧ ∃ g f, F = .slice (some ⟨g, 0, none⟩) a.n a.n ∧ W.heap.size ≤ g ∧ BI W' g a.n f ∧ a.nw.Fl N.toNat 0 (N.toNat - 1) f ∧ Mc a.nw 0 (N.toNat - 1) (a.nw.sp f 0))) := by
  have HA := Lib.hid hA
  obtain ⟨A, c, rfl, hac, hcm, -⟩ := hA
  go_enter Try.func18, Try.ntmps18
  go_upto_region 1 with fail
  have bb := al1 W (.cells #[.int .i64 N, .slice A a.n c] 30)
  have m0 : (W.alloc (.cells #[.int .i64 N, .slice A a.n c] 30)).cell? ⟨W.heap.size, 0, none⟩ = some (.int .i64 N) := by rw [World.cell?_alloc_new]; rfl
  have m1 : (W.alloc (.cells #[.int .i64 N, .slice A a.n c] 30)).cell? ⟨W.heap.size, 1, none⟩ = some (.slice A a.n c) := by rw [World.cell?_alloc_new]; rfl
  have zz : W.heap.size < (W.alloc (.cells #[.int .i64 N, .slice A a.n c] 30)).heap.size := by simp
  generalize W.alloc (.cells #[.int .i64 N, .slice A a.n c] 30) = W1 at *
  have HB : Hid (Ext W W1) := Lib.hid bb
  clear bb
  go_wp2_with fail
  refine (isNet_any N a _ _ (HA.out.ext HB.out)).mono ?_
  rintro e w1 ⟨rfl, hx⟩
  replace m0 := keepAt hx zz m0
  replace m1 := keepAt hx zz m1
  have HX : Hid (Ext W w1) := Lib.hid (HB.out.trans hx)
  clear hx
  cases hv : vNet N a
  · have HV := Lib.hid hv; clear hv
    go_wp2
    refine bodyPost_ret (v := .tuple #[.slice none 0 0, .int .i64 2]) (by simp [results, Try.results18, go_sem]) rfl ⟨_, 2, rfl, HX.out, .inl ⟨HV.out, rfl, rfl⟩⟩
  · obtain ⟨m, rfl, hm2, hm40, hn, hok⟩ := vNet_ok hv
    have HOK := Lib.hid hok; have HV := Lib.hid hv
    clear hv hok
    go_wp2_with fail
    refine (filled_any m a _ _ (HA.out.ext HX.out) HOK.out (by omega) hm2 (by omega)).mono ?_
    rintro e w2 ⟨x, gl, SV, rfl, -, hbi, hfull, -, hx⟩
    have HX2 := Lib.hid (HX.out.trans hx)
    have HFULL := Lib.hid hfull; have HBI := Lib.hid hbi
    clear hx m0 m1 hbi hfull
    go_wp2_with fail
    refine (flow_any a (0 : Nat) ((m - 1 : Nat) : Int) (2 * a.n) _ SV gl x _ (HA.out.ext HX2.out) (by omega) rfl HBI.out).mono ?_
    rintro e w3 ⟨g, rfl, hg, hbf, hx⟩
    have HX3 := Lib.hid (HX2.out.trans hx)
    have HBF := Lib.hid hbf
    have hsz := HX2.out.size
    clear hx hbf
    go_wp2
    refine bodyPost_ret (v := .tuple #[.slice (some ⟨g, 0, none⟩) a.n a.n, .int .i64 0]) (by simp [results, Try.results18, go_sem]) rfl ⟨_, 0, rfl, HX3.out, .inr ⟨HV.out, rfl, g, Nw.fw x, rfl, by omega, HBF.out, ?_, ?_⟩⟩
    · rw [Int.toNat_natCast]; exact HFULL.out.fp.rs.fl a.nw HFULL.out.fp.cons
    · rw [Int.toNat_natCast]; exact HFULL.out.mc HOK.out.in_ (by omega) (by omega)

set_option maxHeartbeats 4000000 in
set_option maxRecDepth 100000 in
theorem awake_any (W : World) : Calls Try.prog 19 #[] W fun e W' => e = .returned (.bool true) ∧ Ext W W' := by
  go_enter Try.func19, Try.ntmps19
  go_wp2_with fail
  refine (valueS_any 3 aw _ _ ⟨some ⟨W.heap.size, 0, none⟩, 2, rfl, Nat.le_refl _, by omega, fun _ => ⟨W.heap.size, 0, rfl, by simp, fun j hj => ?_⟩⟩).mono ?_
  · have hj' : j < 2 := hj
    rcases (by omega : j = 0 ∨ j = 1) with rfl | rfl
    · refine ⟨?_, ?_, ?_⟩ <;> (rw [World.cell?_alloc_new]; rfl)
    · refine ⟨?_, ?_, ?_⟩ <;> (rw [World.cell?_alloc_new]; rfl)
  · rintro e w1 ⟨v, er, rfl, hx, ⟨hv, -⟩ | ⟨-, rfl, hm⟩⟩
    · rw [aw_v] at hv; cases hv
    · have h2 := aw_two hm
      subst h2
      have HX : Hid (Ext W w1) := Lib.hid ((Ext.alc (Ext.refl W) _).trans hx)
      clear hx hm
      go_wp2
      go_ret
      exact ⟨rfl, HX.out⟩
end Go.Proofs.Ytilcbbdmenknfaa
