/- Walks: the reference's Pow, right arguments. -/
import Derived.Test.YtmlopkkbgpfdnaaP7
import Derived.Test.YtmlopkkbgpfdnaaR9
import Derived.Test.YtmlopkkbgpfdnaaR8
import Derived.Test.YtmlopkkbgpfdnaaR14
namespace Go.Proofs.Ytmlopkkbgpfdnaa
open Go.RowKit

/-- the base -/
def baseZ (p : Bool) (m : Nat) : Int := if p = true then -(m : Int) else (m : Int)
theorem powZ_zero (p : Bool) (m : Nat) : powZ p m 0 = 1 := by unfold powZ; simp
theorem powZ_succ (p : Bool) (m j : Nat) : powZ p m j * baseZ p m = powZ p m (j + 1) := by
  unfold powZ baseZ
  rw [Nat.pow_succ]
  cases p with
  | false => simp
  | true =>
    rcases (by omega : j % 2 = 0 ∨ j % 2 = 1) with h | h
    · have h2 : (j + 1) % 2 = 1 := by omega
      simp [h, h2, Int.mul_neg, Int.neg_mul]
    · have h2 : (j + 1) % 2 = 0 := by omega
      simp [h, h2, Int.mul_neg, Int.neg_mul]
/-- how often the reference multiplies -/
def timesN (m k : Nat) : Nat := if m ≤ 1 then min k (2 - k % 2) else k
theorem timesN_le (m k : Nat) : timesN m k ≤ k := by unfold timesN; split <;> omega
theorem timesN_pow (m k : Nat) : m ^ timesN m k = m ^ k := by
  unfold timesN
  split
  · rename_i h
    rcases (by omega : m = 0 ∨ m = 1) with h0 | h0
    · subst h0
      rcases Nat.eq_zero_or_pos k with h1 | h1
      · subst h1; rfl
      · rw [Nat.zero_pow h1, Nat.zero_pow (by omega)]
    · subst h0; rw [Nat.one_pow, Nat.one_pow]
  · rfl
theorem timesN_par (m k : Nat) : timesN m k % 2 = k % 2 := by unfold timesN; split <;> omega
theorem timesN_Z (p : Bool) (m k : Nat) : powZ p m (timesN m k) = powZ p m k := by
  unfold powZ; rw [timesN_pow, timesN_par]
theorem base_sq (p : Bool) (m : Nat) : (baseZ p m * baseZ p m - 1).sign ≤ 0 ↔ m ≤ 1 := by
  have h : baseZ p m * baseZ p m = ((m * m : Nat) : Int) := by unfold baseZ; cases p <;> simp [Int.mul_neg, Int.neg_mul]
  rw [h]
  constructor
  · intro h1
    rcases Nat.lt_or_ge 1 m with h2 | h2
    · have h3 : 2 * 2 ≤ m * m := Nat.mul_le_mul h2 h2
      rw [Int.sign_eq_one_of_pos (by omega)] at h1
      omega
    · exact h2
  · intro h1
    have h3 : m * m ≤ 1 * 1 := Nat.mul_le_mul h1 h1
    rcases (by omega : ((m * m : Nat) : Int) - 1 < 0 ∨ ((m * m : Nat) : Int) - 1 = 0) with h4 | h4
    · rw [Int.sign_eq_neg_one_of_neg h4]; omega
    · rw [h4]; simp
theorem base_num (p : Bool) (l : List Nat) : baseZ p (val l) = numOf p l := rfl
theorem base_abs (p : Bool) (m : Nat) : (baseZ p m).natAbs = m := by unfold baseZ; split <;> omega
theorem pow_far {m j k : Nat} (hj : j + 1 ≤ timesN m k) (h : 256 < (dig (m ^ (j + 1))).length) : 256 < (dig (m ^ k)).length := by
  refine Nat.lt_of_lt_of_le h (dig_len_mono ?_)
  rw [← timesN_pow m k]
  rcases Nat.eq_zero_or_pos m with h0 | h0
  · subst h0; rw [Nat.zero_pow (by omega)]; exact Nat.zero_le _
  · exact Nat.pow_le_pow_right h0 hj
end Go.Proofs.Ytmlopkkbgpfdnaa
