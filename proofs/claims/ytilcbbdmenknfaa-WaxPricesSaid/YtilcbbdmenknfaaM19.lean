/- Walks: the reference's Valid and Side. · Walks: the reference's Flow and Side. · Walks: the reference's Flow. -/
import Derived.Test.YtilcbbdmenknfaaM11
import Derived.RegionTactic
import Derived.ChangeAlike
namespace Go.Proofs.Ytilcbbdmenknfaa
open Go.RowKit

theorem bw_f1 {x lo hi : Int} (h : x < lo) : bw x lo hi = false := by
  cases e : bw x lo hi
  · rfl
  · have := bw_iff.1 e; omega
theorem bw_f2 {x lo hi : Int} (h : hi < x) : bw x lo hi = false := by
  cases e : bw x lo hi
  · rfl
  · have := bw_iff.1 e; omega
set_option maxHeartbeats 4000000 in
set_option maxRecDepth 100000 in
theorem validR_any (N : Int) (a : Ar) (AV : Value) (W : World) (hA : Al W AV a) :
    Calls Try.prog 50 #[.agg #[.int .i64 N, AV]] W fun e W' => e = .returned (.bool (vNet N a)) ∧ Ext W W' := by
  have HA := Lib.hid hA
  obtain ⟨A, c, rfl, hac, hcm, -⟩ := hA
  obtain ⟨r, hr⟩ : ∃ r, r = vNet N a := ⟨_, rfl⟩
  rw [← hr]
  have HR := Lib.hid hr; clear hr
  have bb := al1 W (.cells #[.int .i64 N, .slice A a.n c] 24)
  go_enter Try.func50, Try.ntmps50
  by_cases hN1 : N < 2
  · have hr : vNet N a = false := by unfold vNet; rw [bw_f1 hN1]; rfl
    rw [← HR.out] at hr
    have HR2 := Lib.hid hr; clear hr HR
    go_wp2
    go_ret
    exact ⟨by rw [HR2.out]; rfl, bb⟩
  by_cases hN2 : 40 < N
  · have hr : vNet N a = false := by unfold vNet; rw [bw_f2 hN2]; rfl
    rw [← HR.out] at hr
    have HR2 := Lib.hid hr; clear hr HR
    go_wp2
    go_ret
    exact ⟨by rw [HR2.out]; rfl, bb⟩
  by_cases hn : a.n ≤ 160
  · go_wp2_with fail
    go_loopw [22] (fun i wr => ∃ k : Nat, i = .int .i64 k ∧ k ≤ a.n ∧ Hid ((∀ j, j < k → okA N a j = true) ∧ wr.cell? ⟨W.heap.size, 0, none⟩ = some (.int .i64 N) ∧ W.heap.size < wr.heap.size ∧ Ext W wr)) (fun i _ => a.n - (intOf i).toNat)
    case atStart => exact ⟨0, rfl, Nat.zero_le _, Lib.hid ⟨fun j hj => by omega, by rw [World.cell?_alloc_new]; rfl, by simp, bb⟩⟩
    case round =>
      clear bb
      obtain ⟨k, rfl, hk, hin⟩ := hrel
      by_cases hlt : k < a.n
      · obtain ⟨b, off, rfl, d1, d2, d3⟩ := HA.out.arc hin.out.2.2.2 hlt
        have m0 := hin.out.2.1
        have mz := hin.out.2.2.1
        obtain ⟨ok, hok⟩ : ∃ ok, ok = okA N a k := ⟨_, rfl⟩
        have hok2 := hok
        unfold okA at hok2
        obtain ⟨fk, hfk⟩ : ∃ x, x = a.f k := ⟨_, rfl⟩
        obtain ⟨tk, htk⟩ : ∃ x, x = a.t k := ⟨_, rfl⟩
        obtain ⟨ck, hck⟩ : ∃ x, x = a.c k := ⟨_, rfl⟩
        rw [← hfk, ← htk, ← hck] at hok2
        rw [← hfk] at d1; rw [← htk] at d2; rw [← hck] at d3
        have HOK := Lib.hid hok; have HO2 := Lib.hid hok2
        clear hfk htk hck hok hok2
        have hEX : Hid (Ext W (wr.alloc (.cells #[.int .i64 fk, .int .i64 tk, .int .i64 ck] 64))) := Lib.hid (hin.out.2.2.2.alc _)
        have hno : ok = false → r = false := fun h => by rw [HR.out]; exact vNet_no hlt (by rw [← HOK.out]; exact h)
        have HNO := Lib.hid hno; clear hno
        by_cases h1 : fk < 0
        · have hr := Lib.hid (HNO.out (by rw [HO2.out]; rw [bw_f1 h1]; rfl))
          go_wp2
          go_ret
          exact ⟨by rw [hr.out]; rfl, hEX.out⟩
        by_cases h2 : N ≤ fk
        · have hr := Lib.hid (HNO.out (by rw [HO2.out]; rw [bw_f2 (by omega)]; rfl))
          go_wp2
          go_ret
          exact ⟨by rw [hr.out]; rfl, hEX.out⟩
        by_cases h3 : tk < 0
        · have hr := Lib.hid (HNO.out (by rw [HO2.out]; rw [bw_f1 (x := tk) h3]; simp))
          go_wp2
          go_ret
          exact ⟨by rw [hr.out]; rfl, hEX.out⟩
        by_cases h4 : N ≤ tk
        · have hr := Lib.hid (HNO.out (by rw [HO2.out]; rw [bw_f2 (x := tk) (by omega)]; simp))
          go_wp2
          go_ret
          exact ⟨by rw [hr.out]; rfl, hEX.out⟩
        by_cases h5 : fk = tk
        · have hr := Lib.hid (HNO.out (by rw [HO2.out, decide_eq_true h5]; simp))
          subst h5
          go_wp2
          go_ret
          exact ⟨by rw [hr.out]; rfl, hEX.out⟩
        by_cases h6 : ck < 0
        · have hr := Lib.hid (HNO.out (by rw [HO2.out]; rw [bw_f1 (x := ck) h6]; simp))
          go_wp2
          go_ret
          exact ⟨by rw [hr.out]; rfl, hEX.out⟩
        by_cases h7 : 1000000 < ck
        · have hr := Lib.hid (HNO.out (by rw [HO2.out]; rw [bw_f2 (x := ck) h7]; simp))
          go_wp2
          go_ret
          exact ⟨by rw [hr.out]; rfl, hEX.out⟩
        have hok3 : okA N a k = true := by
          rw [← HOK.out, HO2.out, decide_eq_false h5, bw_iff.2 (show 0 ≤ fk ∧ fk ≤ N - 1 by omega), bw_iff.2 (show 0 ≤ tk ∧ tk ≤ N - 1 by omega), bw_iff.2 (show 0 ≤ ck ∧ ck ≤ 1000000 by omega)]; rfl
        have HK := Lib.hid hok3
        have hcell : Hid ((wr.alloc (.cells #[.int .i64 fk, .int .i64 tk, .int .i64 ck] 64)).cell? ⟨W.heap.size, 0, none⟩ = some (.int .i64 N)) := Lib.hid (keepAt (Ext.alc (Ext.refl wr) _) mz m0)
        clear hok3
        go_wp2
        go_roundw
        case rel =>
          refine ⟨k + 1, by go_num, by omega, Lib.hid ⟨fun j hj => ?_, hcell.out, by simp; omega, hEX.out⟩⟩
          by_cases e : j = k
          · subst e; exact HK.out
          · exact hin.out.1 j (by omega)
        case measure => simp [intOf]; omega
      · obtain rfl : k = a.n := by omega
        have hr : r = true := by rw [HR.out]; exact vNet_iff.2 ⟨⟨by omega, by omega⟩, hn, hin.out.1⟩
        have HR2 := Lib.hid hr; clear hr
        go_wp2
        go_ret
        exact ⟨by rw [HR2.out]; rfl, hin.out.2.2.2⟩
  · have hr : vNet N a = false := by unfold vNet; rw [decide_eq_false hn, Bool.and_false, Bool.false_and]
    rw [← HR.out] at hr
    have HR2 := Lib.hid hr; clear hr HR
    have hn3 : (160 : Int) < a.n := by omega
    go_wp2
    go_ret
    exact ⟨by rw [HR2.out]; rfl, bb⟩

end Go.Proofs.Ytilcbbdmenknfaa
namespace Go.Proofs.Ytilcbbdmenknfaa
open Go.RowKit

set_option maxHeartbeats 4000000 in
set_option maxRecDepth 100000 in
theorem sideR_any (a : Ar) (N : Nat) (s : Nat → Bool) (AV SV : Value) (W : World) (hA : Al W AV a) (hS : Bl W SV N s) (hO : a.Ok N 1000000) (hn : a.n ≤ 1000) (hN : 2 ≤ N) (hN2 : N ≤ 1000) :
    Calls Try.prog 31 #[.agg #[.int .i64 N, AV], SV] W fun e W' => e = .returned (.tuple #[.int .i64 (a.nw.ct s), .bool (isSdB N s)]) ∧ Ext W W' := by
  obtain ⟨sd, hsd⟩ : ∃ sd, sd = isSdB N s := ⟨_, rfl⟩
  rw [← hsd]
  unfold isSdB at hsd
  rw [ct_tc]
  have hb := fun k (hk : k ≤ a.n) => sm_bd (n := k) (f := tc a s) (B := 1000000) (fun i hi => by
    have h1 := hO.c0 i (by omega); have h2 := hO.cM i (by omega)
    unfold tc; split <;> omega)
  have HA := Lib.hid hA; have HO := Lib.hid hO; have HS := Lib.hid hS; have HB := Lib.hid hb; have HSD := Lib.hid hsd
  clear hO hb hsd
  obtain ⟨A, c, rfl, hac, hcm, -⟩ := hA
  obtain ⟨A2, c2, rfl, hac2, hcm2, -⟩ := hS
  obtain ⟨t, ht⟩ : ∃ t, t = N - 1 := ⟨_, rfl⟩
  have ht2 : (N : Int) - 1 = t := by omega
  have htN : t < N := by omega
  have HT := Lib.hid ht
  clear ht
  go_enter Try.func31, Try.ntmps31
  go_upto_region 1 with fail
  have bb := al1 W (.cells #[.int .i64 N, .slice A a.n c] 24)
  have hh := heap_alloc_new W (.cells #[.int .i64 N, .slice A a.n c] 24)
  have zz : W.heap.size < (W.alloc (.cells #[.int .i64 N, .slice A a.n c] 24)).heap.size := by simp
  generalize W.alloc (.cells #[.int .i64 N, .slice A a.n c] 24) = W1 at *
  have HX : Hid (Ext W W1) := Lib.hid bb
  obtain ⟨m0, m1, m2, m3⟩ := two hh
  have HM := Lib.hid m0
  clear bb hh m2 m3 m0
  go_wp2_with fail
  clear m1
  go_loopw [6, 12] (fun z i wr => ∃ k : Nat, i = .int .i64 k ∧ k ≤ a.n ∧ z = .int .i64 (sm k (tc a s)) ∧ Hid (Ext W1 wr)) (fun _ i _ => a.n - (intOf i).toNat)
  case atStart => exact ⟨0, rfl, Nat.zero_le _, rfl, Lib.hid (Ext.refl _)⟩
  case round =>
    obtain ⟨k, rfl, hk, rfl, hin⟩ := hrel
    by_cases hlt : k < a.n
    · obtain ⟨b, off, rfl, d1, d2, d3⟩ := HA.out.arc (HX.out.trans hin.out) hlt
      obtain ⟨fk, hfk, hfN⟩ : ∃ x : Nat, a.f k = (x : Int) ∧ x < N := ⟨(a.f k).toNat, by have := HO.out.f0 k hlt; omega, by have := HO.out.f0 k hlt; have := HO.out.fN k hlt; omega⟩
      obtain ⟨tk, htk, htkN⟩ : ∃ x : Nat, a.t k = (x : Int) ∧ x < N := ⟨(a.t k).toNat, by have := HO.out.t0 k hlt; omega, by have := HO.out.t0 k hlt; have := HO.out.tN k hlt; omega⟩
      obtain ⟨b2, off2, rfl, hb2, e1⟩ := Vl.at HS.out (HX.out.trans hin.out) hfN
      obtain ⟨b3, off3, e3, -, e2⟩ := Vl.at HS.out (HX.out.trans hin.out) htkN
      injection e3 with e3; injection e3 with e3 e4
      subst e3 e4
      have c0 := HO.out.c0 k hlt
      have cM := HO.out.cM k hlt
      have hs := HB.out k hk
      have hsm : sm (k + 1) (tc a s) = sm k (tc a s) + tc a s k := rfl
      have htc : tc a s k = if s fk = true ∧ s tk = false then a.c k else 0 := by unfold tc; rw [hfk, htk]; rfl
      rw [hfk] at d1; rw [htk] at d2
      obtain ⟨ck, hck⟩ : ∃ x, x = a.c k := ⟨_, rfl⟩
      rw [← hck] at d3 c0 cM htc
      obtain ⟨S, hS⟩ : ∃ S, S = sm k (tc a s) := ⟨_, rfl⟩
      rw [← hS] at hs ⊢
      have hkk : k * 1000000 ≤ 1000000000 := by have : k * 1000000 ≤ 1000 * 1000000 := Nat.mul_le_mul_right _ (by omega); omega
      have hS1 : -1000000000 ≤ S ∧ S ≤ 1000000000 := by omega
      have HSM := Lib.hid hsm; have HS2 := Lib.hid hS; have HTC := Lib.hid htc
      clear hs hsm hkk hS hck hfk htk htc
      cases p : s fk
      · rw [p] at e1 HTC
        clear e2 p
        go_wp2
        go_roundw
        case rel => exact ⟨k + 1, by go_num, by omega, by rw [HSM.out, HTC.out, ← HS2.out]; simp, Lib.hid (hin.out.alc _)⟩
        case measure => simp [intOf]; omega
      · rw [p] at e1 HTC
        cases q : s tk
        · rw [q] at e2 HTC
          clear p q
          go_wp2
          go_roundw
          case rel => exact ⟨k + 1, by go_num, by omega, by rw [HSM.out, HTC.out, ← HS2.out]; simp, Lib.hid (hin.out.alc _)⟩
          case measure => simp [intOf]; omega
        · rw [q] at e2 HTC
          clear p q
          go_wp2
          go_roundw
          case rel => exact ⟨k + 1, by go_num, by omega, by rw [HSM.out, HTC.out, ← HS2.out]; simp, Lib.hid (hin.out.alc _)⟩
          case measure => simp [intOf]; omega
    · obtain rfl : k = a.n := by omega
      obtain ⟨b2, off2, rfl, hb2, e1⟩ := Vl.at HS.out (HX.out.trans hin.out) (show 0 < N by omega)
      obtain ⟨b3, off3, e3, -, e2⟩ := Vl.at HS.out (HX.out.trans hin.out) htN
      injection e3 with e3; injection e3 with e3 e4
      subst e3 e4
      rw [Nat.add_zero] at e1
      have m0 := keepAt hin.out zz HM.out
      have zw : W.heap.size < wr.heap.size := Nat.lt_of_lt_of_le zz hin.out.size
      obtain ⟨Z, hZ⟩ : ∃ Z, Z = sm a.n (tc a s) := ⟨_, rfl⟩
      rw [← hZ]
      have HZ := Lib.hid hZ; clear hZ
      have h0N : ¬ N = 0 := by omega
      have hwt : IntKind.i64.wrap (t : Int) = t := IntWalk.i64_in _ (by omega)
      go_upto_region 8 with fail
      have hsd2 : sd = (s 0 && !s t) := by rw [HSD.out, HT.out]
      have HSD2 := Lib.hid hsd2
      clear hsd2
      cases p : s 0
      · rw [p] at e1 HSD2
        clear p e2
        have e1d : wr.drew.cell? ⟨b2, off2, none⟩ = some (.bool false) := e1
        have m0d : wr.drew.cell? ⟨W.heap.size, 0, none⟩ = some (.int .i64 N) := m0
        clear e1 m0 hwt
        have hpN : (0 : Int) < N := by omega
        go_region
        all_goals go_wp2
        all_goals exact bodyPost_ret (v := .tuple #[.int .i64 Z, .bool false]) (by simp [results, Try.results31, go_sem]) rfl ⟨by rw [HSD2.out, HZ.out]; rfl, HX.out.trans (hin.out.trans (Ext.drw (Ext.refl _)))⟩
      · rw [p] at e1 HSD2
        clear p
        obtain ⟨q, hq⟩ : ∃ q, q = s t := ⟨_, rfl⟩
        rw [← hq] at e2 HSD2
        clear hq
        have e1d : wr.drew.cell? ⟨b2, off2, none⟩ = some (.bool true) := e1
        have e2d : wr.drew.cell? ⟨b2, off2 + t, none⟩ = some (.bool q) := e2
        have m0d : wr.drew.cell? ⟨W.heap.size, 0, none⟩ = some (.int .i64 N) := m0
        clear e1 m0 e2
        have hpN : (0 : Int) < N := by omega
        go_region
        all_goals go_wp2
        all_goals exact bodyPost_ret (v := .tuple #[.int .i64 Z, .bool (!q)]) (by simp [results, Try.results31, go_sem]) rfl ⟨by rw [HSD2.out, HZ.out]; rfl, HX.out.trans (hin.out.trans (Ext.drw (Ext.refl _)))⟩

end Go.Proofs.Ytilcbbdmenknfaa
namespace Go.Proofs.Ytilcbbdmenknfaa
open Go.RowKit

theorem over_step (a : Ar) (f : Nat → Int) {k fk tk : Nat} (hne : fk ≠ tk) (h1 : (a.f k).toNat = fk) (h2 : (a.t k).toNat = tk) :
    up (up (fun v => -sm k (tm a f v)) fk (-sm k (tm a f fk) - f k)) tk (-sm k (tm a f tk) + f k) = fun v => -sm (k + 1) (tm a f v) := by
  have e : ∀ v, sm (k + 1) (tm a f v) = sm k (tm a f v) + ((if fk = v then f k else 0) - (if tk = v then f k else 0)) := fun v => by
    have e2 : tm a f v k = (if fk = v then f k else 0) - (if tk = v then f k else 0) := by unfold tm; rw [h1, h2]
    rw [← e2]; rfl
  funext v
  rw [e]
  dsimp only [up]
  by_cases e1 : v = tk
  · subst e1
    rw [if_pos rfl, if_neg hne, if_pos rfl]; omega
  · rw [if_neg e1, if_neg (fun e : tk = v => e1 e.symm)]
    by_cases e2 : v = fk
    · subst e2; rw [if_pos rfl, if_pos rfl]; omega
    · rw [if_neg e2, if_neg (fun e : fk = v => e2 e.symm)]; omega

set_option maxHeartbeats 4000000 in
set_option maxRecDepth 100000 in
theorem flowR_any (N : Nat) (a : Ar) (f : Nat → Int) (AV FV : Value) (W : World) (hA : Al W AV a) (hF : Il W FV a.n f) (hO : a.Ok N 1000000) (hn : a.n ≤ 1000) (hN : 2 ≤ N) (hN2 : N ≤ 1000) :
    Calls Try.prog 20 #[.agg #[.int .i64 N, AV], FV] W fun e W' => e = .returned (.tuple #[.int .i64 (if isFlB N a f = true then a.nw.sp f 0 else 0), .bool (isFlB N a f)]) ∧ Ext W W' := by
  obtain ⟨z, hz⟩ : ∃ z, z = if isFlB N a f = true then a.nw.sp f 0 else 0 := ⟨_, rfl⟩
  rw [← hz]
  obtain ⟨r, hr⟩ : ∃ r, r = isFlB N a f := ⟨_, rfl⟩
  rw [← hr] at hz ⊢
  have HR := Lib.hid hr; clear hr
  have HZ := Lib.hid hz; clear hz
  have hm1 : ∀ w, (Instr.makeSlice 33 (.int .i64 (N : Int)) (.int .i64 (N : Int))).run Try.prog w = .ok (.slice (some ⟨w.heap.size, 0, none⟩) N N) (w.alloc (.cells (Array.ofFn fun _ : Fin N => .int .i64 0) 3)) := fun w => make_one 33 3 _ 8 Try.underlying33 info3 rfl (by omega) N (by omega) w
  have HA := Lib.hid hA; have HO := Lib.hid hO; have HF := Lib.hid hF
  clear hO
  obtain ⟨A, c, rfl, hac, hcm, -⟩ := hA
  obtain ⟨A2, c2, rfl, hac2, hcm2, -⟩ := hF
  go_enter Try.func20, Try.ntmps20
  go_upto_region 2 with fail
  have bb := al2 W (.cells #[.int .i64 N, .slice A a.n c] 24) (.cells (Array.ofFn fun _ : Fin N => Value.int .i64 0) 3)
  have hh0 : ((W.alloc (.cells #[.int .i64 N, .slice A a.n c] 24)).alloc (.cells (Array.ofFn fun _ : Fin N => Value.int .i64 0) 3)).heap[W.heap.size]? = some (.cells #[.int .i64 N, .slice A a.n c] 24 (0, 0)) := (Below.heap_alloc _ _ _ (by simp)).trans (heap_alloc_new W _)
  have hb : BI ((W.alloc (.cells #[.int .i64 N, .slice A a.n c] 24)).alloc (.cells (Array.ofFn fun _ : Fin N => Value.int .i64 0) 3)) (W.heap.size + 1) N (fun _ => 0) := by
    have := heap_alloc_new (W.alloc (.cells #[.int .i64 N, .slice A a.n c] 24)) (.cells (Array.ofFn fun _ : Fin N => Value.int .i64 0) 3)
    simp only [World.size_alloc] at this
    exact this
  generalize (W.alloc (.cells #[.int .i64 N, .slice A a.n c] 24)).alloc (.cells (Array.ofFn fun _ : Fin N => Value.int .i64 0) 3) = W1 at *
  have HH := Lib.hid (And.intro hh0 (And.intro hb (show Ext W W1 from bb)))
  obtain ⟨m0, m1, m2, m3⟩ := two hh0
  clear hh0 hb bb m0 m2
  go_wp2_with fail
  clear m1
  go_loopw [16] (fun i wr => ∃ k : Nat, i = .int .i64 k ∧ k ≤ a.n ∧ Hid ((∀ j, j < k → inR a f j = true) ∧ wr.heap[W.heap.size]? = some (.cells #[.int .i64 N, .slice A a.n c] 24 (0, 0)) ∧ BI wr (W.heap.size + 1) N (fun v => -sm k (tm a f v)) ∧ Ext W wr)) (fun i _ => a.n - (intOf i).toNat)
  case atStart => exact ⟨0, rfl, Nat.zero_le _, Lib.hid ⟨fun j hj => by omega, HH.out.1, HH.out.2.1, HH.out.2.2⟩⟩
  case round =>
    obtain ⟨k, rfl, hk, hin⟩ := hrel
    obtain ⟨m0, m1, m2, m3⟩ := two hin.out.2.1
    by_cases hlt : k < a.n
    · obtain ⟨b, off, rfl, d1, d2, d3⟩ := HA.out.arc hin.out.2.2.2 hlt
      obtain ⟨fk, hfk, hfN⟩ : ∃ x : Nat, a.f k = (x : Int) ∧ x < N := ⟨(a.f k).toNat, by have := HO.out.f0 k hlt; omega, by have := HO.out.f0 k hlt; have := HO.out.fN k hlt; omega⟩
      obtain ⟨tk, htk, htN⟩ : ∃ x : Nat, a.t k = (x : Int) ∧ x < N := ⟨(a.t k).toNat, by have := HO.out.t0 k hlt; omega, by have := HO.out.t0 k hlt; have := HO.out.tN k hlt; omega⟩
      have hne : fk ≠ tk := by have := HO.out.ne k hlt; omega
      have hcM := HO.out.cM k hlt
      obtain ⟨b2, off2, rfl, hb2, e1⟩ := Vl.at HF.out hin.out.2.2.2 hlt
      rw [hfk] at d1
      rw [htk] at d2
      obtain ⟨ck, hck⟩ : ∃ x, x = a.c k := ⟨_, rfl⟩
      obtain ⟨xk, hxk⟩ : ∃ x, x = f k := ⟨_, rfl⟩
      rw [← hck] at d3 hcM; simp only [← hxk] at e1
      have hin2 : inR a f k = bw xk 0 ck := by unfold inR; rw [← hxk, ← hck]
      have HI := Lib.hid hin2; have HFT := Lib.hid (And.intro hfk (And.intro htk hxk))
      have hbk : ∀ v, -(k * 1000000) ≤ sm k (tm a f v) ∧ sm k (tm a f v) ≤ k * 1000000 := fun v => sm_bd (n := k) (f := tm a f v) (B := 1000000) (fun i hi => by
        have h1 := bw_iff.1 (hin.out.1 i hi)
        have h2 := HO.out.cM i (by omega)
        unfold tm; split <;> split <;> omega)
      have HBK := Lib.hid hbk
      clear hck hxk hin2 hfk htk hbk
      go_upto_region 5 with fail
      have g0 : (wr.alloc (.cells #[.int .i64 fk, .int .i64 tk, .int .i64 ck] 64)).cell? ⟨wr.heap.size, 0, none⟩ = some (.int .i64 fk) := by rw [World.cell?_alloc_new]; rfl
      have g1 : (wr.alloc (.cells #[.int .i64 fk, .int .i64 tk, .int .i64 ck] 64)).cell? ⟨wr.heap.size, 1, none⟩ = some (.int .i64 tk) := by rw [World.cell?_alloc_new]; rfl
      have g2 : (wr.alloc (.cells #[.int .i64 fk, .int .i64 tk, .int .i64 ck] 64)).cell? ⟨wr.heap.size, 2, none⟩ = some (.int .i64 ck) := by rw [World.cell?_alloc_new]; rfl
      have gx := keepAt (Ext.alc (Ext.refl wr) (.cells #[.int .i64 fk, .int .i64 tk, .int .i64 ck] 64)) hb2 e1
      have gb := BI.ext hin.out.2.2.1 (Ext.alc (Ext.refl wr) (.cells #[.int .i64 fk, .int .i64 tk, .int .i64 ck] 64))
      have gh := (Below.heap_alloc wr (.cells #[.int .i64 fk, .int .i64 tk, .int .i64 ck] 64) W.heap.size m3).trans hin.out.2.1
      have ge := hin.out.2.2.2.alc (.cells #[.int .i64 fk, .int .i64 tk, .int .i64 ck] 64)
      have gz := Bk.lt hin.out.2.2.1
      have hb2W : b2 < W.heap.size := by
        obtain ⟨A', c', e', _, _, h3⟩ := HF.out
        injection e' with q1 _ _
        obtain ⟨b', o', q2, q3, -⟩ := h3 (by omega)
        rw [← q1] at q2
        injection q2 with q2; injection q2 with q2
        omega
      generalize wr.alloc (.cells #[.int .i64 fk, .int .i64 tk, .int .i64 ck] 64) = w2 at *
      have HG := Lib.hid (And.intro gb (And.intro gh ge))
      have c4 : w2.cell? ⟨W.heap.size + 1, fk, none⟩ = some (.int .i64 (-sm k (tm a f fk))) := Bk.cell gb hfN
      have f4 := Bk.free gb fk
      obtain ⟨sf, hsf⟩ : ∃ x, x = sm k (tm a f fk) := ⟨_, rfl⟩
      obtain ⟨st, hst⟩ : ∃ x, x = sm k (tm a f tk) := ⟨_, rfl⟩
      rw [← hsf] at c4
      have HSF := Lib.hid (And.intro hsf hst)
      have hkk : k * 1000000 ≤ 1000000000 := by have : k * 1000000 ≤ 1000 * 1000000 := Nat.mul_le_mul_right _ (by omega); omega
      have hsfb : -1000000000 ≤ sf ∧ sf ≤ 1000000000 := by have := HBK.out fk; rw [← hsf] at this; omega
      have hstb : -1000000000 ≤ st ∧ st ≤ 1000000000 := by have := HBK.out tk; rw [← hst] at this; omega
      clear gb gh ge e1 d1 d2 d3 m0 m1 m2 hsf hst hkk
      by_cases hx0 : xk < 0
      · have hr : r = false := by rw [HR.out]; exact isFlB_no1 hlt (by rw [HI.out]; exact bw_f1 hx0)
        have hz0 : z = 0 := by rw [HZ.out, hr]; rfl
        have HR2 := Lib.hid hr; clear hr
        subst hz0
        have gxd : w2.drew.cell? ⟨b2, off2 + k, none⟩ = some (.int .i64 xk) := gx
        clear gx g0 g1 g2 c4 f4
        go_region
        all_goals go_wp2
        all_goals exact bodyPost_ret (v := .tuple #[.int .i64 0, .bool false]) (by simp [results, Try.results20, go_sem]) rfl ⟨by rw [HR2.out], HG.out.2.2.drw⟩
      · by_cases hxc : ck < xk
        · have hr : r = false := by rw [HR.out]; exact isFlB_no1 hlt (by rw [HI.out]; exact bw_f2 hxc)
          have hz0 : z = 0 := by rw [HZ.out, hr]; rfl
          have HR2 := Lib.hid hr; clear hr
          subst hz0
          have gxd : w2.drew.cell? ⟨b2, off2 + k, none⟩ = some (.int .i64 xk) := gx
          have g2d : w2.drew.cell? ⟨wr.heap.size, 2, none⟩ = some (.int .i64 ck) := g2
          clear gx g0 g1 g2 c4 f4
          go_region
          all_goals go_wp2
          all_goals exact bodyPost_ret (v := .tuple #[.int .i64 0, .bool false]) (by simp [results, Try.results20, go_sem]) rfl ⟨by rw [HR2.out], HG.out.2.2.drw⟩
        · have hok : inR a f k = true := by rw [HI.out]; exact bw_iff.2 ⟨by omega, by omega⟩
          have HOK := Lib.hid hok; clear hok
          have HGG := Lib.hid (And.intro g0 (And.intro g1 (And.intro gx (And.intro c4 f4))))
          have gxd : w2.drew.cell? ⟨b2, off2 + k, none⟩ = some (.int .i64 xk) := gx
          have g2d : w2.drew.cell? ⟨wr.heap.size, 2, none⟩ = some (.int .i64 ck) := g2
          clear gx g0 g1 g2 c4 f4
          go_region
          have HG3 : Hid (BI w2.drew (W.heap.size + 1) N (fun v => -sm k (tm a f v)) ∧ w2.drew.heap[W.heap.size]? = some (.cells #[.int .i64 N, .slice (some ⟨b, off, none⟩) a.n c] 24 (0, 0)) ∧ Ext W w2.drew) := Lib.hid ⟨HG.out.1, HG.out.2.1, HG.out.2.2.drw⟩
          have HGG3 : Hid (w2.drew.cell? ⟨wr.heap.size, 0, none⟩ = some (.int .i64 fk) ∧ w2.drew.cell? ⟨wr.heap.size, 1, none⟩ = some (.int .i64 tk) ∧ w2.drew.cell? ⟨b2, off2 + k, none⟩ = some (.int .i64 xk) ∧ w2.drew.cell? ⟨W.heap.size + 1, fk, none⟩ = some (.int .i64 (-sf)) ∧ w2.drew.frozen? ⟨W.heap.size + 1, fk, none⟩ = false) := HGG
          clear HG HGG gxd g2d
          generalize w2.drew = w3 at *
          obtain ⟨g0, g1, gx, c4, f4⟩ := HGG3.out
          go_upto_region 7 with fail
          have g0d : w3.drew.cell? ⟨wr.heap.size, 0, none⟩ = some (.int .i64 fk) := g0
          have gxd : w3.drew.cell? ⟨b2, off2 + k, none⟩ = some (.int .i64 xk) := gx
          have c4d : w3.drew.cell? ⟨W.heap.size + 1, fk, none⟩ = some (.int .i64 (-sf)) := c4
          have f4d : w3.drew.frozen? ⟨W.heap.size + 1, fk, none⟩ = false := f4
          clear g0 g1 gx c4 f4
          go_region
          have y1 : BI (w3.setCell ⟨W.heap.size + 1, fk, none⟩ (.int .i64 (-sf - xk))).drew (W.heap.size + 1) N (up (fun v => -sm k (tm a f v)) fk (-sf - xk)) := BI.set_ HG3.out.1 fk (-sf - xk)
          have y2 : (w3.setCell ⟨W.heap.size + 1, fk, none⟩ (.int .i64 (-sf - xk))).drew.heap[W.heap.size]? = some (.cells #[.int .i64 N, .slice (some ⟨b, off, none⟩) a.n c] 24 (0, 0)) := (Below.heap_setCell w3 ⟨W.heap.size + 1, fk, none⟩ _ W.heap.size (by simp)).trans HG3.out.2.1
          have y3 : Ext W (w3.setCell ⟨W.heap.size + 1, fk, none⟩ (.int .i64 (-sf - xk))).drew := (HG3.out.2.2.sc (by omega)).drw
          have y4 : (w3.setCell ⟨W.heap.size + 1, fk, none⟩ (.int .i64 (-sf - xk))).drew.cell? ⟨wr.heap.size, 1, none⟩ = some (.int .i64 tk) := (World.cell?_of_block (Below.heap_setCell w3 ⟨W.heap.size + 1, fk, none⟩ _ wr.heap.size (by show wr.heap.size ≠ W.heap.size + 1; omega))).trans HGG3.out.2.1
          have y5 : (w3.setCell ⟨W.heap.size + 1, fk, none⟩ (.int .i64 (-sf - xk))).drew.cell? ⟨b2, off2 + k, none⟩ = some (.int .i64 xk) := (World.cell?_of_block (Below.heap_setCell w3 ⟨W.heap.size + 1, fk, none⟩ _ b2 (by show b2 ≠ W.heap.size + 1; omega))).trans HGG3.out.2.2.1
          clear g0d gxd c4d f4d HG3 HGG3
          generalize (w3.setCell ⟨W.heap.size + 1, fk, none⟩ (.int .i64 (-sf - xk))).drew = w4 at *
          have c5 : w4.cell? ⟨W.heap.size + 1, tk, none⟩ = some (.int .i64 (up (fun v => -sm k (tm a f v)) fk (-sf - xk) tk)) := Bk.cell y1 htN
          rw [up_ne _ _ (fun e : tk = fk => hne e.symm), ← HSF.out.2] at c5
          have f5 := Bk.free y1 tk
          have HY := Lib.hid (And.intro y1 (And.intro y2 y3))
          go_upto_region 8 with fail
          have y4d : w4.drew.cell? ⟨wr.heap.size, 1, none⟩ = some (.int .i64 tk) := y4
          have y5d : w4.drew.cell? ⟨b2, off2 + k, none⟩ = some (.int .i64 xk) := y5
          have c5d : w4.drew.cell? ⟨W.heap.size + 1, tk, none⟩ = some (.int .i64 (-st)) := c5
          have f5d : w4.drew.frozen? ⟨W.heap.size + 1, tk, none⟩ = false := f5
          clear y1 y2 y3 y4 y5 c5 f5
          go_region
          have z1 : BI (w4.setCell ⟨W.heap.size + 1, tk, none⟩ (.int .i64 (-st + xk))).drew (W.heap.size + 1) N (up (up (fun v => -sm k (tm a f v)) fk (-sf - xk)) tk (-st + xk)) := BI.set_ HY.out.1 tk (-st + xk)
          have z2 : (w4.setCell ⟨W.heap.size + 1, tk, none⟩ (.int .i64 (-st + xk))).drew.heap[W.heap.size]? = some (.cells #[.int .i64 N, .slice (some ⟨b, off, none⟩) a.n c] 24 (0, 0)) := (Below.heap_setCell w4 ⟨W.heap.size + 1, tk, none⟩ _ W.heap.size (by simp)).trans HY.out.2.1
          have z3 : Ext W (w4.setCell ⟨W.heap.size + 1, tk, none⟩ (.int .i64 (-st + xk))).drew := (HY.out.2.2.sc (by omega)).drw
          have z4 : up (up (fun v => -sm k (tm a f v)) fk (-sf - xk)) tk (-st + xk) = fun v => -sm (k + 1) (tm a f v) := by
            rw [HSF.out.1, HSF.out.2, HFT.out.2.2]
            exact over_step a f hne (by have := HFT.out.1; omega) (by have := HFT.out.2.1; omega)
          rw [z4] at z1
          have HZ4 := Lib.hid (And.intro z1 (And.intro z2 z3))
          clear z1 z2 z3 z4 y4d y5d c5d f5d HY
          generalize (w4.setCell ⟨W.heap.size + 1, tk, none⟩ (.int .i64 (-st + xk))).drew = w5 at *
          go_wp2
          go_roundw
          case rel =>
            refine ⟨k + 1, by go_num, by omega, Lib.hid ⟨fun j hj => ?_, HZ4.out.2.1, HZ4.out.1, HZ4.out.2.2⟩⟩
            by_cases e : j = k
            · subst e; exact HOK.out
            · exact hin.out.1 j (by omega)
          case measure => simp [intOf]; omega
    · obtain rfl : k = a.n := by omega
      obtain ⟨wo, rfl⟩ : ∃ w, w = wr := ⟨_, rfl⟩
      have hall : ∀ j, j < a.n → 0 ≤ f j ∧ f j ≤ a.c j := fun j hj => bw_iff.1 (hin.out.1 j hj)
      have hbk : ∀ v, -(a.n * 1000000) ≤ sm a.n (tm a f v) ∧ sm a.n (tm a f v) ≤ a.n * 1000000 := fun v => sm_bd (n := a.n) (f := tm a f v) (B := 1000000) (fun i hi => by
        have h1 := hall i hi
        have h2 := HO.out.cM i (by omega)
        unfold tm; split <;> split <;> omega)
      have HALL := Lib.hid hall; have HBK := Lib.hid hbk
      have hkk : a.n * 1000000 ≤ 1000000000 := by have : a.n * 1000000 ≤ 1000 * 1000000 := Nat.mul_le_mul_right _ (by omega); omega
      clear hall hbk m1 m2
      go_wp2_with fail
      go_loopw [9] (fun i wz => ∃ v : Nat, i = .int .i64 v ∧ 1 ≤ v ∧ v ≤ N - 1 ∧ Hid (∀ j, j + 1 < v → a.nw.sp f (j + 1) = 0) ∧ wz = wo) (fun i _ => N - (intOf i).toNat)
      case atStart => exact ⟨1, rfl, Nat.le_refl _, by omega, Lib.hid (fun j hj => by omega), rfl⟩
      case round =>
        obtain ⟨v, rfl, hv1, hv2, hsp, hwz⟩ := hrel
        rw [hwz]; clear hwz
        by_cases hlt2 : v < N - 1
        · have hlt3 : (v : Int) < (N : Int) - 1 := by omega
          have cv : wo.cell? ⟨W.heap.size + 1, v, none⟩ = some (.int .i64 (-sm a.n (tm a f v))) := Bk.cell hin.out.2.2.1 (by omega)
          have hvN : v < N := by omega
          obtain ⟨x, hx⟩ : ∃ x, x = sm a.n (tm a f v) := ⟨_, rfl⟩
          rw [← hx] at cv
          have HX := Lib.hid hx
          clear hx
          by_cases h0 : x = 0
          · subst h0
            have cv0 : wo.cell? ⟨W.heap.size + 1, v, none⟩ = some (.int .i64 0) := cv
            clear cv
            go_wp2
            go_roundw
            case rel =>
              refine ⟨v + 1, by go_num, by omega, by omega, Lib.hid (fun j hj => ?_), by trivial⟩
              by_cases e : j + 1 = v
              · rw [e, sp_tm]; exact HX.out.symm
              · exact hsp.out j (by omega)
            case measure => simp [intOf]; omega
          · have hr : r = false := by
              rw [HR.out]
              exact isFlB_no2 (i := v - 1) (by omega) (by rw [show v - 1 + 1 = v by omega, sp_tm, ← HX.out]; exact h0)
            have hz0 : z = 0 := by rw [HZ.out, hr]; rfl
            have HR2 := Lib.hid hr; clear hr
            subst hz0
            have hneg : ¬ (-x = 0) := by omega
            go_wp2
            exact bodyPost_ret (v := .tuple #[.int .i64 0, .bool false]) (by simp [results, Try.results20, go_sem]) rfl ⟨by rw [HR2.out], hin.out.2.2.2⟩
        · obtain rfl : v = N - 1 := by omega
          have hlt3 : ¬ ((N - 1 : Nat) : Int) < (N : Int) - 1 := by omega
          have hr : r = true := by rw [HR.out]; exact isFlB_iff.2 ⟨HALL.out, fun i hi => hsp.out i (by omega)⟩
          have cv : wo.cell? ⟨W.heap.size + 1, 0, none⟩ = some (.int .i64 (-sm a.n (tm a f 0))) := Bk.cell hin.out.2.2.1 (by omega)
          have hz0 : z = sm a.n (tm a f 0) := by rw [HZ.out, hr, if_pos rfl, sp_tm]
          rw [← hz0] at cv
          have hzb := HBK.out 0
          rw [← hz0] at hzb
          have hzb2 : -1000000000 ≤ z ∧ z ≤ 1000000000 := by omega
          have HR2 := Lib.hid hr; clear hr hz0 hzb
          have h0N : (0 : Int) < N := by omega
          have hng : - -z = z := by omega
          go_wp2
          exact bodyPost_ret (v := .tuple #[.int .i64 z, .bool true]) (by simp [results, Try.results20, go_sem]) rfl ⟨by rw [HR2.out], hin.out.2.2.2⟩
end Go.Proofs.Ytilcbbdmenknfaa
