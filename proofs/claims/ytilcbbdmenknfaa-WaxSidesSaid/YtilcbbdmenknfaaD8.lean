/- Walks: the reference's Flow and Side. -/
import Derived.Test.YtilcbbdmenknfaaD7
import Derived.RegionTactic
import Derived.ChangeAlike
namespace Go.Proofs.Ytilcbbdmenknfaa
open Go.RowKit

set_option maxHeartbeats 4000000 in
set_option maxRecDepth 100000 in
theorem sideR_any (a : Ar) (N : Nat) (s : Nat → Bool) (AV SV : Value) (W : World) (hA : Al W AV a) (hS : Bl W SV N s) (hO : a.Ok N 1000000) (hn : a.n ≤ 1000) (hN : 2 ≤ N) (hN2 : N ≤ 1000) :
    Calls Try.prog 31 #[.agg #[.int .i64 N, AV], SV] W fun e W' => e = .returned (.tuple #[.int .i64 (a.nw.ct s), .bool (isSdB N s)]) ∧ Ext W W' := by
  obtain ⟨sd, hsd⟩ : ∃ sd, sd = isSdB N s := ⟨_, rfl⟩
  rw [← hsd]
  unfold isSdB at hsd
  rw [ct_tc]
  have hb := fun k (hk : k ≤ a.n) => sm_bd (n := k) (f := tc a s) (B := 1000000) (fun i hi => by
    have h1 := hO.c0 i (by omega); have h2 := hO.cM i (by omega)
    unfold tc; split <;> omega)
  have HA := Lib.hid hA; have HO := Lib.hid hO; have HS := Lib.hid hS; have HB := Lib.hid hb; have HSD := Lib.hid hsd
  clear hO hb hsd
  obtain ⟨A, c, rfl, hac, hcm, -⟩ := hA
  obtain ⟨A2, c2, rfl, hac2, hcm2, -⟩ := hS
  obtain ⟨t, ht⟩ : ∃ t, t = N - 1 := ⟨_, rfl⟩
  have ht2 : (N : Int) - 1 = t := by omega
  have htN : t < N := by omega
  have HT := Lib.hid ht
  clear ht
  go_enter Try.func31, Try.ntmps31
  go_upto_region 1 with fail
  have bb := al1 W (.cells #[.int .i64 N, .slice A a.n c] 24)
  have hh := heap_alloc_new W (.cells #[.int .i64 N, .slice A a.n c] 24)
  have zz : W.heap.size < (W.alloc (.cells #[.int .i64 N, .slice A a.n c] 24)).heap.size := by simp
  generalize W.alloc (.cells #[.int .i64 N, .slice A a.n c] 24) = W1 at *
  have HX : Hid (Ext W W1) := Lib.hid bb
  obtain ⟨m0, m1, m2, m3⟩ := two hh
  have HM := Lib.hid m0
  clear bb hh m2 m3 m0
  go_wp2_with fail
  clear m1
  go_loopw [6, 12] (fun z i wr => ∃ k : Nat, i = .int .i64 k ∧ k ≤ a.n ∧ z = .int .i64 (sm k (tc a s)) ∧ Hid (Ext W1 wr)) (fun _ i _ => a.n - (intOf i).toNat)
  case atStart => exact ⟨0, rfl, Nat.zero_le _, rfl, Lib.hid (Ext.refl _)⟩
  case round =>
    obtain ⟨k, rfl, hk, rfl, hin⟩ := hrel
    by_cases hlt : k < a.n
    · obtain ⟨b, off, rfl, d1, d2, d3⟩ := HA.out.arc (HX.out.trans hin.out) hlt
      obtain ⟨fk, hfk, hfN⟩ : ∃ x : Nat, a.f k = (x : Int) ∧ x < N := ⟨(a.f k).toNat, by have := HO.out.f0 k hlt; omega, by have := HO.out.f0 k hlt; have := HO.out.fN k hlt; omega⟩
      obtain ⟨tk, htk, htkN⟩ : ∃ x : Nat, a.t k = (x : Int) ∧ x < N := ⟨(a.t k).toNat, by have := HO.out.t0 k hlt; omega, by have := HO.out.t0 k hlt; have := HO.out.tN k hlt; omega⟩
      obtain ⟨b2, off2, rfl, hb2, e1⟩ := Vl.at HS.out (HX.out.trans hin.out) hfN
      obtain ⟨b3, off3, e3, -, e2⟩ := Vl.at HS.out (HX.out.trans hin.out) htkN
      injection e3 with e3; injection e3 with e3 e4
      subst e3 e4
      have c0 := HO.out.c0 k hlt
      have cM := HO.out.cM k hlt
      have hs := HB.out k hk
      have hsm : sm (k + 1) (tc a s) = sm k (tc a s) + tc a s k := rfl
      have htc : tc a s k = if s fk = true ∧ s tk = false then a.c k else 0 := by unfold tc; rw [hfk, htk]; rfl
      rw [hfk] at d1; rw [htk] at d2
      obtain ⟨ck, hck⟩ : ∃ x, x = a.c k := ⟨_, rfl⟩
      rw [← hck] at d3 c0 cM htc
      obtain ⟨S, hS⟩ : ∃ S, S = sm k (tc a s) := ⟨_, rfl⟩
      rw [← hS] at hs ⊢
      have hkk : k * 1000000 ≤ 1000000000 := by have : k * 1000000 ≤ 1000 * 1000000 := Nat.mul_le_mul_right _ (by omega); omega
      have hS1 : -1000000000 ≤ S ∧ S ≤ 1000000000 := by omega
      have HSM := Lib.hid hsm; have HS2 := Lib.hid hS; have HTC := Lib.hid htc
      clear hs hsm hkk hS hck hfk htk htc
      cases p : s fk
      · rw [p] at e1 HTC
        clear e2 p
        go_wp2
        go_roundw
        case rel => exact ⟨k + 1, by go_num, by omega, by rw [HSM.out, HTC.out, ← HS2.out]; simp, Lib.hid (hin.out.alc _)⟩
        case measure => simp [intOf]; omega
      · rw [p] at e1 HTC
        cases q : s tk
        · rw [q] at e2 HTC
          clear p q
          go_wp2
          go_roundw
          case rel => exact ⟨k + 1, by go_num, by omega, by rw [HSM.out, HTC.out, ← HS2.out]; simp, Lib.hid (hin.out.alc _)⟩
          case measure => simp [intOf]; omega
        · rw [q] at e2 HTC
          clear p q
          go_wp2
          go_roundw
          case rel => exact ⟨k + 1, by go_num, by omega, by rw [HSM.out, HTC.out, ← HS2.out]; simp, Lib.hid (hin.out.alc _)⟩
          case measure => simp [intOf]; omega
    · obtain rfl : k = a.n := by omega
      obtain ⟨b2, off2, rfl, hb2, e1⟩ := Vl.at HS.out (HX.out.trans hin.out) (show 0 < N by omega)
      obtain ⟨b3, off3, e3, -, e2⟩ := Vl.at HS.out (HX.out.trans hin.out) htN
      injection e3 with e3; injection e3 with e3 e4
      subst e3 e4
      rw [Nat.add_zero] at e1
      have m0 := keepAt hin.out zz HM.out
      have zw : W.heap.size < wr.heap.size := Nat.lt_of_lt_of_le zz hin.out.size
      obtain ⟨Z, hZ⟩ : ∃ Z, Z = sm a.n (tc a s) := ⟨_, rfl⟩
      rw [← hZ]
      have HZ := Lib.hid hZ; clear hZ
      have h0N : ¬ N = 0 := by omega
      have hwt : IntKind.i64.wrap (t : Int) = t := IntWalk.i64_in _ (by omega)
      go_upto_region 8 with fail
      have hsd2 : sd = (s 0 && !s t) := by rw [HSD.out, HT.out]
      have HSD2 := Lib.hid hsd2
      clear hsd2
      cases p : s 0
      · rw [p] at e1 HSD2
        clear p e2
        have e1d : wr.drew.cell? ⟨b2, off2, none⟩ = some (.bool false) := e1
        have m0d : wr.drew.cell? ⟨W.heap.size, 0, none⟩ = some (.int .i64 N) := m0
        clear e1 m0 hwt
        have hpN : (0 : Int) < N := by omega
        go_region
        all_goals go_wp2
        all_goals exact bodyPost_ret (v := .tuple #[.int .i64 Z, .bool false]) (by simp [results, Try.results31, go_sem]) rfl ⟨by rw [HSD2.out, HZ.out]; rfl, HX.out.trans (hin.out.trans (Ext.drw (Ext.refl _)))⟩
      · rw [p] at e1 HSD2
        clear p
        obtain ⟨q, hq⟩ : ∃ q, q = s t := ⟨_, rfl⟩
        rw [← hq] at e2 HSD2
        clear hq
        have e1d : wr.drew.cell? ⟨b2, off2, none⟩ = some (.bool true) := e1
        have e2d : wr.drew.cell? ⟨b2, off2 + t, none⟩ = some (.bool q) := e2
        have m0d : wr.drew.cell? ⟨W.heap.size, 0, none⟩ = some (.int .i64 N) := m0
        clear e1 m0 e2
        have hpN : (0 : Int) < N := by omega
        go_region
        all_goals go_wp2
        all_goals exact bodyPost_ret (v := .tuple #[.int .i64 Z, .bool (!q)]) (by simp [results, Try.results31, go_sem]) rfl ⟨by rw [HSD2.out, HZ.out]; rfl, HX.out.trans (hin.out.trans (Ext.drw (Ext.refl _)))⟩

end Go.Proofs.Ytilcbbdmenknfaa
