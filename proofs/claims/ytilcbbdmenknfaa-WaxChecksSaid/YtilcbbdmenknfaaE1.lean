/- Walks: the reference's Check. -/
import Derived.Test.YtilcbbdmenknfaaD9
namespace Go.Proofs.Ytilcbbdmenknfaa
open Go.RowKit

set_option maxHeartbeats 4000000 in
set_option maxRecDepth 100000 in
theorem checkR_any (N : Int) (a : Ar) (nf ns : Nat) (f : Nat → Int) (s : Nat → Bool) (AV FV SV : Value) (W : World) (hA : Al W AV a) (hF : Il W FV nf f) (hS : Bl W SV ns s) :
    Calls Try.prog 22 #[.agg #[.int .i64 N, AV], FV, SV] W fun e W' => ∃ (b : Bool) (er : Int), e = .returned (.tuple #[.bool b, .int .i64 er]) ∧ Chk N a nf ns f s b er ∧ Ext W W' := by
  have HA := Lib.hid hA; have HF := Lib.hid hF; have HS := Lib.hid hS
  obtain ⟨A, c, rfl, hac, hcm, -⟩ := hA
  obtain ⟨A2, c2, rfl, hac2, hcm2, -⟩ := hF
  obtain ⟨A3, c3, rfl, hac3, hcm3, -⟩ := hS
  go_enter Try.func22, Try.ntmps22
  go_upto_region 1 with fail
  have bb := al1 W (.cells #[.int .i64 N, .slice A a.n c] 24)
  have hh := heap_alloc_new W (.cells #[.int .i64 N, .slice A a.n c] 24)
  have zz : W.heap.size < (W.alloc (.cells #[.int .i64 N, .slice A a.n c] 24)).heap.size := by simp
  generalize W.alloc (.cells #[.int .i64 N, .slice A a.n c] 24) = W0 at *
  have HB0 : Hid (Ext W W0) := Lib.hid bb
  obtain ⟨m0, m1, m2, m3⟩ := two hh
  clear bb hh m2 m3
  go_wp2_with fail
  refine (validR_any N a _ _ (HA.out.ext HB0.out)).mono ?_
  rintro e W1 ⟨rfl, hx⟩
  replace m0 := keepAt hx zz m0
  replace m1 := keepAt hx zz m1
  replace zz : W.heap.size < W1.heap.size := Nat.lt_of_lt_of_le zz hx.size
  have HB : Hid (Ext W W1) := Lib.hid (HB0.out.trans hx)
  clear hx HB0
  cases hv : vNet N a
  · have HV := Lib.hid hv; clear hv
    go_wp2
    refine bodyPost_ret (v := .tuple #[.bool false, .int .i64 2]) (by simp [results, Try.results22, go_sem]) rfl ⟨false, 2, rfl, .inl ⟨HV.out, rfl, rfl⟩, HB.out⟩
  · have HV := Lib.hid hv
    obtain ⟨m, rfl, hm2, hm40, hn, hO⟩ := vNet_ok hv
    have HO := Lib.hid hO
    clear hv hO
    by_cases h1 : nf = a.n
    · by_cases h2 : m = ns
      · subst h1 h2
        go_wp2_with fail
        refine (flowR_any m a f _ _ _ (HA.out.ext HB.out) (Il.ext HF.out HB.out) HO.out (by omega) hm2 (by omega)).mono ?_
        rintro e W2 ⟨rfl, hx⟩
        replace m0 := keepAt hx zz m0
        replace m1 := keepAt hx zz m1
        have HB2 : Hid (Ext W W2) := Lib.hid (HB.out.trans hx)
        obtain ⟨p, hp⟩ : ∃ p, p = isFlB m a f := ⟨_, rfl⟩
        obtain ⟨x, hxx⟩ : ∃ x, x = if isFlB m a f = true then a.nw.sp f 0 else 0 := ⟨_, rfl⟩
        rw [← hxx]
        rw [← hp] at hxx ⊢
        have HP := Lib.hid hp; have HXX := Lib.hid hxx
        clear hx hp hxx
        go_wp2_with fail
        refine (sideR_any a m s _ _ _ (HA.out.ext HB2.out) (Bl.ext HS.out HB2.out) HO.out (by omega) hm2 (by omega)).mono ?_
        rintro e W3 ⟨rfl, hx⟩
        have HB3 : Hid (Ext W W3) := Lib.hid (HB2.out.trans hx)
        obtain ⟨q, hq⟩ : ∃ q, q = isSdB m s := ⟨_, rfl⟩
        obtain ⟨y, hy⟩ : ∃ y, y = a.nw.ct s := ⟨_, rfl⟩
        rw [← hq, ← hy]
        have HQ := Lib.hid hq; have HY := Lib.hid hy
        clear hx m0 m1 hq hy
        have hch : chB m a f s = (p && q && decide (a.nw.sp f 0 = y)) := by unfold chB; rw [← HP.out, ← HQ.out, ← HY.out]
        have HCH := Lib.hid hch; clear hch
        cases p
        · go_wp2
          refine bodyPost_ret (v := .tuple #[.bool false, .int .i64 0]) (by simp [results, Try.results22, go_sem]) rfl ⟨false, 0, rfl, .inr ⟨HV.out, .inr ⟨rfl, rfl, by rw [HCH.out]; rfl, rfl⟩⟩, HB3.out⟩
        · cases q
          · go_wp2
            refine bodyPost_ret (v := .tuple #[.bool false, .int .i64 0]) (by simp [results, Try.results22, go_sem]) rfl ⟨false, 0, rfl, .inr ⟨HV.out, .inr ⟨rfl, rfl, by rw [HCH.out]; rfl, rfl⟩⟩, HB3.out⟩
          · have hx1 : x = a.nw.sp f 0 := by rw [HXX.out, if_pos rfl]
            by_cases h9 : x = y
            · have hc : chB m a f s = true := by rw [HCH.out, ← hx1, decide_eq_true h9]; rfl
              have HC := Lib.hid hc
              clear hc hx1 HXX
              subst h9
              go_wp2
              refine bodyPost_ret (v := .tuple #[.bool true, .int .i64 0]) (by simp [results, Try.results22, go_sem]) rfl ⟨true, 0, rfl, .inr ⟨HV.out, .inr ⟨rfl, rfl, HC.out.symm, rfl⟩⟩, HB3.out⟩
            · have hc : chB m a f s = false := by rw [HCH.out, ← hx1, decide_eq_false h9]; rfl
              have HC := Lib.hid hc
              clear hc hx1 HXX
              go_wp2
              refine bodyPost_ret (v := .tuple #[.bool false, .int .i64 0]) (by simp [results, Try.results22, go_sem]; exact h9) rfl ⟨false, 0, rfl, .inr ⟨HV.out, .inr ⟨rfl, rfl, HC.out.symm, rfl⟩⟩, HB3.out⟩
      · have h3 : ¬ (ns : Int) = m := by omega
        have h4 : ((ns : Int) != m) = true := by simp; omega
        subst h1
        go_wp2
        refine bodyPost_ret (v := .tuple #[.bool false, .int .i64 3]) (by simp [results, Try.results22, go_sem]) rfl ⟨false, 3, rfl, .inr ⟨HV.out, .inl ⟨.inr h3, rfl, rfl⟩⟩, HB.out⟩
    · have h3 : ((nf : Int) != a.n) = true := by simp; omega
      go_wp2
      refine bodyPost_ret (v := .tuple #[.bool false, .int .i64 3]) (by simp [results, Try.results22, go_sem]) rfl ⟨false, 3, rfl, .inr ⟨HV.out, .inl ⟨.inl h1, rfl, rfl⟩⟩, HB.out⟩
end Go.Proofs.Ytilcbbdmenknfaa
