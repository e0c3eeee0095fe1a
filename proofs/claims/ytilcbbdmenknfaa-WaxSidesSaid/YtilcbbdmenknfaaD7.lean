/- Walks: the reference's Valid and Side. -/
import Derived.Test.YtilcbbdmenknfaaD5
namespace Go.Proofs.Ytilcbbdmenknfaa
open Go.RowKit

theorem bw_f1 {x lo hi : Int} (h : x < lo) : bw x lo hi = false := by
  cases e : bw x lo hi
  · rfl
  · have := bw_iff.1 e; omega
theorem bw_f2 {x lo hi : Int} (h : hi < x) : bw x lo hi = false := by
  cases e : bw x lo hi
  · rfl
  · have := bw_iff.1 e; omega
set_option maxHeartbeats 4000000 in
set_option maxRecDepth 100000 in
theorem validR_any (N : Int) (a : Ar) (AV : Value) (W : World) (hA : Al W AV a) :
    Calls Try.prog 50 #[.agg #[.int .i64 N, AV]] W fun e W' => e = .returned (.bool (vNet N a)) ∧ Ext W W' := by
  have HA := Lib.hid hA
  obtain ⟨A, c, rfl, hac, hcm, -⟩ := hA
  obtain ⟨r, hr⟩ : ∃ r, r = vNet N a := ⟨_, rfl⟩
  rw [← hr]
  have HR := Lib.hid hr; clear hr
  have bb := al1 W (.cells #[.int .i64 N, .slice A a.n c] 24)
  go_enter Try.func50, Try.ntmps50
  by_cases hN1 : N < 2
  · have hr : vNet N a = false := by unfold vNet; rw [bw_f1 hN1]; rfl
    rw [← HR.out] at hr
    have HR2 := Lib.hid hr; clear hr HR
    go_wp2
    go_ret
    exact ⟨by rw [HR2.out]; rfl, bb⟩
  by_cases hN2 : 40 < N
  · have hr : vNet N a = false := by unfold vNet; rw [bw_f2 hN2]; rfl
    rw [← HR.out] at hr
    have HR2 := Lib.hid hr; clear hr HR
    go_wp2
    go_ret
    exact ⟨by rw [HR2.out]; rfl, bb⟩
  by_cases hn : a.n ≤ 160
  · go_wp2_with fail
    go_loopw [22] (fun i wr => ∃ k : Nat, i = .int .i64 k ∧ k ≤ a.n ∧ Hid ((∀ j, j < k → okA N a j = true) ∧ wr.cell? ⟨W.heap.size, 0, none⟩ = some (.int .i64 N) ∧ W.heap.size < wr.heap.size ∧ Ext W wr)) (fun i _ => a.n - (intOf i).toNat)
    case atStart => exact ⟨0, rfl, Nat.zero_le _, Lib.hid ⟨fun j hj => by omega, by rw [World.cell?_alloc_new]; rfl, by simp, bb⟩⟩
    case round =>
      clear bb
      obtain ⟨k, rfl, hk, hin⟩ := hrel
      by_cases hlt : k < a.n
      · obtain ⟨b, off, rfl, d1, d2, d3⟩ := HA.out.arc hin.out.2.2.2 hlt
        have m0 := hin.out.2.1
        have mz := hin.out.2.2.1
        obtain ⟨ok, hok⟩ : ∃ ok, ok = okA N a k := ⟨_, rfl⟩
        have hok2 := hok
        unfold okA at hok2
        obtain ⟨fk, hfk⟩ : ∃ x, x = a.f k := ⟨_, rfl⟩
        obtain ⟨tk, htk⟩ : ∃ x, x = a.t k := ⟨_, rfl⟩
        obtain ⟨ck, hck⟩ : ∃ x, x = a.c k := ⟨_, rfl⟩
        rw [← hfk, ← htk, ← hck] at hok2
        rw [← hfk] at d1; rw [← htk] at d2; rw [← hck] at d3
        have HOK := Lib.hid hok; have HO2 := Lib.hid hok2
        clear hfk htk hck hok hok2
        have hEX : Hid (Ext W (wr.alloc (.cells #[.int .i64 fk, .int .i64 tk, .int .i64 ck] 64))) := Lib.hid (hin.out.2.2.2.alc _)
        have hno : ok = false → r = false := fun h => by rw [HR.out]; exact vNet_no hlt (by rw [← HOK.out]; exact h)
        have HNO := Lib.hid hno; clear hno
        by_cases h1 : fk < 0
        · have hr := Lib.hid (HNO.out (by rw [HO2.out]; rw [bw_f1 h1]; rfl))
          go_wp2
          go_ret
          exact ⟨by rw [hr.out]; rfl, hEX.out⟩
        by_cases h2 : N ≤ fk
        · have hr := Lib.hid (HNO.out (by rw [HO2.out]; rw [bw_f2 (by omega)]; rfl))
          go_wp2
          go_ret
          exact ⟨by rw [hr.out]; rfl, hEX.out⟩
        by_cases h3 : tk < 0
        · have hr := Lib.hid (HNO.out (by rw [HO2.out]; rw [bw_f1 (x := tk) h3]; simp))
          go_wp2
          go_ret
          exact ⟨by rw [hr.out]; rfl, hEX.out⟩
        by_cases h4 : N ≤ tk
        · have hr := Lib.hid (HNO.out (by rw [HO2.out]; rw [bw_f2 (x := tk) (by omega)]; simp))
          go_wp2
          go_ret
          exact ⟨by rw [hr.out]; rfl, hEX.out⟩
        by_cases h5 : fk = tk
        · have hr := Lib.hid (HNO.out (by rw [HO2.out, decide_eq_true h5]; simp))
          subst h5
          go_wp2
          go_ret
          exact ⟨by rw [hr.out]; rfl, hEX.out⟩
        by_cases h6 : ck < 0
        · have hr := Lib.hid (HNO.out (by rw [HO2.out]; rw [bw_f1 (x := ck) h6]; simp))
          go_wp2
          go_ret
          exact ⟨by rw [hr.out]; rfl, hEX.out⟩
        by_cases h7 : 1000000 < ck
        · have hr := Lib.hid (HNO.out (by rw [HO2.out]; rw [bw_f2 (x := ck) h7]; simp))
          go_wp2
          go_ret
          exact ⟨by rw [hr.out]; rfl, hEX.out⟩
        have hok3 : okA N a k = true := by
          rw [← HOK.out, HO2.out, decide_eq_false h5, bw_iff.2 (show 0 ≤ fk ∧ fk ≤ N - 1 by omega), bw_iff.2 (show 0 ≤ tk ∧ tk ≤ N - 1 by omega), bw_iff.2 (show 0 ≤ ck ∧ ck ≤ 1000000 by omega)]; rfl
        have HK := Lib.hid hok3
        have hcell : Hid ((wr.alloc (.cells #[.int .i64 fk, .int .i64 tk, .int .i64 ck] 64)).cell? ⟨W.heap.size, 0, none⟩ = some (.int .i64 N)) := Lib.hid (keepAt (Ext.alc (Ext.refl wr) _) mz m0)
        clear hok3
        go_wp2
        go_roundw
        case rel =>
          refine ⟨k + 1, by go_num, by omega, Lib.hid ⟨fun j hj => ?_, hcell.out, by simp; omega, hEX.out⟩⟩
          by_cases e : j = k
          · subst e; exact HK.out
          · exact hin.out.1 j (by omega)
        case measure => simp [intOf]; omega
      · obtain rfl : k = a.n := by omega
        have hr : r = true := by rw [HR.out]; exact vNet_iff.2 ⟨⟨by omega, by omega⟩, hn, hin.out.1⟩
        have HR2 := Lib.hid hr; clear hr
        go_wp2
        go_ret
        exact ⟨by rw [HR2.out]; rfl, hin.out.2.2.2⟩
  · have hr : vNet N a = false := by unfold vNet; rw [decide_eq_false hn, Bool.and_false, Bool.false_and]
    rw [← HR.out] at hr
    have HR2 := Lib.hid hr; clear hr HR
    have hn3 : (160 : Int) < a.n := by omega
    go_wp2
    go_ret
    exact ⟨by rw [HR2.out]; rfl, bb⟩

end Go.Proofs.Ytilcbbdmenknfaa
