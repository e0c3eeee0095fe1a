/- Walks: isBetween, reverse, the closures. -/
import Derived.Test.YtilcbbdmenknfaaA1
namespace Go.Proofs.Ytilcbbdmenknfaa
open Go.RowKit

theorem isBetween_any (x lo hi : Int) (W : World) : Calls Try.prog 63 #[.int .i64 x, .int .i64 lo, .int .i64 hi] W fun e W' => e = .returned (.bool (decide (lo ≤ x) && decide (x ≤ hi))) ∧ W = W' := by
  by_cases h : lo ≤ x
  · rw [decide_eq_true h, Bool.true_and]
    go_enter Try.func63, Try.ntmps63
    go_wp2
    all_goals (go_ret; exact ⟨by rfl, rfl⟩)
  · rw [decide_eq_false h, Bool.false_and]
    go_enter Try.func63, Try.ntmps63
    go_wp2
    all_goals (go_ret; exact ⟨rfl, rfl⟩)

theorem xor_one (a : Nat) : a ^^^ 1 = rev a := by
  have h1 : (a ^^^ 1) / 2 = a / 2 := by rw [Nat.xor_div_two]; exact Nat.xor_zero _
  have h2 : (a ^^^ 1) % 2 = (a + 1) % 2 := by
    have h := Nat.testBit_xor a 1 0
    rw [Nat.testBit_zero, Nat.testBit_zero, Nat.testBit_zero] at h
    rcases Nat.mod_two_eq_zero_or_one a with e | e
    · rw [e] at h; have : (a ^^^ 1) % 2 = 1 := by simpa using h
      omega
    · rw [e] at h; have h9 : ¬ (a ^^^ 1) % 2 = 1 := by intro h8; rw [h8] at h; revert h; decide
      have := Nat.mod_two_eq_zero_or_one (a ^^^ 1)
      omega
  unfold rev
  split <;> omega
theorem bits_rev (a : Nat) (ha : a < 1000000) : bits .xor .i64 (a : Int) 1 = ((rev a : Nat) : Int) := by
  have hr : rev a < 1000001 := by unfold rev; split <;> omega
  have h1 : (BitVec.ofInt 64 (a : Int)).toNat = a := by
    rw [BitVec.ofInt_natCast, BitVec.toNat_ofNat]; exact Nat.mod_eq_of_lt (by omega)
  show IntKind.i64.wrap ((BitVec.ofInt 64 (a : Int) ^^^ BitVec.ofInt 64 (1 : Int)).toNat : Int) = _
  rw [BitVec.toNat_xor, h1]
  have h2 : (BitVec.ofInt 64 (1 : Int)).toNat = 1 := by decide
  rw [h2, xor_one]
  exact IntWalk.i64_in _ (by omega)
theorem reverse_any (j : Nat) (W : World) (hj : j < 1000000) : Calls Try.prog 83 #[.int .i64 j] W fun e W' => e = .returned (.int .i64 (rev j : Nat)) ∧ W = W' := by
  have hb := bits_rev j hj
  go_enter Try.func83, Try.ntmps83
  go_wp2
  go_ret
  exact ⟨by simp, rfl⟩

set_option maxRecDepth 100000 in
theorem end_any (s t : Int) (AV SV : Value) (a : Ar) (N : Nat) (M : Int) (j : Nat) (W : World) (hA : Al W AV a) (hO : a.Ok N M) (hj : j < 2 * a.n) (hn : a.n ≤ 1000) :
    Calls Try.prog 88 #[.agg #[.int .i64 s, .int .i64 t, AV, SV], .int .i64 j] W fun e W' => e = .returned (.int .i64 (a.nw.hd j : Nat)) ∧ Ext W W' := by
  obtain ⟨A, c, rfl, h1, h2, h3⟩ := hA
  obtain ⟨b, off, rfl, hb, hc⟩ := h3 (by omega)
  obtain ⟨k, hk⟩ : ∃ k, k = j / 2 := ⟨_, rfl⟩
  have hkn : k < a.n := by omega
  obtain ⟨c1, c2, c3⟩ := hc k hkn
  have f0 := hO.f0 k hkn; have t0 := hO.t0 k hkn
  have hv : (a.nw.hd j : Int) = if j % 2 = 0 then a.t k else a.f k := by
    unfold Nw.hd Ar.nw
    rw [← hk]
    split
    · show ((a.t k).toNat : Int) = _; omega
    · show ((a.f k).toNat : Int) = _; omega
  have d1 : (j : Int).tdiv 2 = k := by rw [Int.tdiv_eq_ediv_of_nonneg (by omega)]; omega
  have d2 : (j : Int) / 2 = k := by omega
  rw [hv]
  clear hv hO hc h3
  obtain ⟨fk, hfk⟩ : ∃ x, x = a.f k := ⟨_, rfl⟩
  obtain ⟨tk, htk⟩ : ∃ x, x = a.t k := ⟨_, rfl⟩
  obtain ⟨ck, hck⟩ : ∃ x, x = a.c k := ⟨_, rfl⟩
  rw [← hfk] at c1 f0; rw [← htk] at c2 t0; rw [← hck] at c3
  rw [← hfk, ← htk]
  clear hfk htk hck
  have m1 : ((j : Int).tmod 2 = 0 ∧ j % 2 = 0) ∨ ((j : Int).tmod 2 = 1 ∧ ¬ j % 2 = 0) := by rw [Int.tmod_eq_emod_of_nonneg (by omega)]; omega
  have k3 : (k : Int) < a.n := by omega
  clear hk d2
  rcases m1 with ⟨m1, m2⟩ | ⟨m1, m2⟩
  · rw [if_pos m2]
    clear m2
    go_enter Try.func88, Try.ntmps88
    go_wp2
    go_ret
    exact ⟨rfl, al2 W _ _⟩
  · rw [if_neg m2]
    clear m2
    go_enter Try.func88, Try.ntmps88
    go_wp2
    go_ret
    exact ⟨rfl, al2 W _ _⟩
end Go.Proofs.Ytilcbbdmenknfaa
