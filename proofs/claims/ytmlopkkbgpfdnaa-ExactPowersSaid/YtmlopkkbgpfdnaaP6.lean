/- Walks: exact.Pow, right arguments. -/
import Derived.Test.YtmlopkkbgpfdnaaP5
namespace Go.Proofs.Ytmlopkkbgpfdnaa
open Go.RowKit

theorem zv_signed {w : World} {s : Bool} {A : Option Addr} {n c y : Nat} (h : Wd w (.slice A n c) (dig y)) : ZV w (.agg #[.bool (s && decide (0 < n)), .slice A n c]) (if s = true then -(y : Int) else (y : Int)) := by
  have hn : n = (dig y).length := h.len
  have h0 : 0 < n ↔ 0 < y := by
    rw [hn]
    rcases Nat.eq_zero_or_pos y with h1 | h1
    · subst h1; rw [dig_zero]; simp
    · rw [dig_pos h1]; simp; exact h1
  cases s with
  | false => exact ZV.mk (by simp) (by simp; exact h)
  | true =>
    refine ZV.mk ?_ (by simp; exact h)
    simp only [Bool.true_and, if_true]
    rw [decide_eq_decide, h0]; omega

/-- the power's sign and number -/
def powZ (p : Bool) (m k : Nat) : Int := if (p && decide (k % 2 = 1)) = true then -((m ^ k : Nat) : Int) else ((m ^ k : Nat) : Int)
theorem powZ_abs (p : Bool) (m k : Nat) : (powZ p m k).natAbs = m ^ k := by
  unfold powZ; split <;> omega

theorem pow_big {m k : Nat} (h : 8192 ≤ ((bitsN m : Int) - 1) * (k : Int)) : 256 < (dig (m ^ k)).length := by
  obtain ⟨B, hB⟩ : ∃ B, B = 8192 := ⟨_, rfl⟩
  rcases Nat.eq_zero_or_pos (bitsN m) with h0 | h0
  · rw [h0] at h
    have : ((0 : Nat) : Int) - 1 = -1 := rfl
    rw [this, Int.neg_one_mul] at h
    omega
  · obtain ⟨b, hb⟩ : ∃ b, bitsN m = b + 1 := ⟨bitsN m - 1, by omega⟩
    rw [hb, show (((b + 1 : Nat) : Int) - 1) = (b : Int) by omega, ← Int.natCast_mul] at h
    have h1 : B ≤ b * k := by rw [hB]; omega
    have hm : 0 < m := by
      rcases Nat.eq_zero_or_pos m with h2 | h2
      · subst h2
        have : bitsN 0 = 0 := by unfold bitsN; rw [dig_zero]; rfl
        omega
      · exact h2
    have h2 := bitsN_le m hm
    rw [hb, Nat.pow_succ] at h2
    have h3 : 2 ^ (b * k) ≤ m ^ k := by rw [Nat.pow_mul]; exact Nat.pow_le_pow_left (by omega) k
    have h4 : 2 ^ B ≤ m ^ k := Nat.le_trans (Nat.pow_le_pow_right (by omega) h1) h3
    rcases Nat.lt_or_ge 256 (dig (m ^ k)).length with h5 | h5
    · exact h5
    · have h6 := lt_of_dig_len h5
      obtain ⟨q, hq⟩ : ∃ q, q = 256 := ⟨_, rfl⟩
      rw [← hq, pow_word, show q * 32 = B by omega] at h6
      omega
theorem pow_len {m k : Nat} (h : ((bitsN m : Int) - 1) * (k : Int) < 8192) (hk : k ≤ 10000) : (dig (m ^ k)).length ≤ 1000000 := by
  have h1 : bitsN m * k ≤ 18192 := by
    rw [Int.sub_mul, ← Int.natCast_mul, Int.one_mul] at h
    omega
  have h2 : m ^ k ≤ 2 ^ (bitsN m * k) := by rw [Nat.pow_mul]; exact Nat.pow_le_pow_left (Nat.le_of_lt (bitsN_lt m)) k
  obtain ⟨q, hq⟩ : ∃ q, q = 569 := ⟨_, rfl⟩
  have h3 := len_two (x := m ^ k) (m := q) (Nat.le_trans h2 (Nat.pow_le_pow_right (by omega) (by omega)))
  omega
end Go.Proofs.Ytmlopkkbgpfdnaa
