/- Plain mathematics: a divisor with its top bit set; the outer loop of a long division. -/
import Derived.Test.YtmlopkkbgpfdnaaD2
import Derived.Lib.BitFns
namespace Go.Proofs.Ytmlopkkbgpfdnaa
open Go

theorem bitLen_bounds (t : Nat) : 0 < t → t < 18446744073709551616 → 2 ^ (Lib.bitLen t) ≤ 2 * t ∧ t < 2 ^ (Lib.bitLen t) := by
  induction t using Nat.strongRecOn with
  | ind t ih =>
    intro h0 h1
    have hh := Lib.bitLen_half t (by omega) h1
    by_cases h : t = 1
    · subst h; decide
    · obtain ⟨a, b⟩ := ih (t / 2) (by omega) (by omega) (by omega)
      rw [hh, Nat.pow_add]
      omega

theorem norm_word {t : Nat} (h0 : 0 < t) (h1 : t < 4294967296) : ∃ s : Nat, s ≤ 31 ∧ (32 : Int) - (Lib.bitLen t : Int) = s ∧ 2147483648 ≤ t * 2 ^ s ∧ t * 2 ^ s + 2 ^ s ≤ 4294967296 := by
  obtain ⟨a, b⟩ := bitLen_bounds t h0 (by omega)
  have hL : Lib.bitLen t ≤ 32 := Lib.bitLen_le t 32 (by omega) h1
  have hL1 : 1 ≤ Lib.bitLen t := by
    rcases Nat.eq_zero_or_pos (Lib.bitLen t) with h | h
    · rw [h] at b; simp at b; omega
    · exact h
  have e : 2 ^ (Lib.bitLen t) * 2 ^ (32 - Lib.bitLen t) = 4294967296 := by rw [← Nat.pow_add, show Lib.bitLen t + (32 - Lib.bitLen t) = 32 by omega]
  refine ⟨32 - Lib.bitLen t, by omega, by omega, ?_, ?_⟩
  · have := Nat.mul_le_mul_right (2 ^ (32 - Lib.bitLen t)) a
    rw [e, Nat.mul_assoc] at this
    omega
  · have := Nat.mul_le_mul_right (2 ^ (32 - Lib.bitLen t)) b
    rw [e, Nat.succ_mul] at this
    exact this

theorem top_word {y n : Nat} (hn : n = (dig y).length) (h : 0 < n) : y = y % 4294967296 ^ (n - 1) + 4294967296 ^ (n - 1) * dg y (n - 1) ∧ 0 < dg y (n - 1) := by
  obtain ⟨m, rfl⟩ : ∃ m, n = m + 1 := ⟨n - 1, by omega⟩
  have h1 := mod_succ y m
  rw [mod_len (by rw [← hn]; exact Nat.le_refl _)] at h1
  refine ⟨h1, ?_⟩
  rcases Nat.eq_zero_or_pos (dg y m) with h0 | h0
  · rw [h0, Nat.mul_zero, Nat.add_zero] at h1
    have h2 : y < 4294967296 ^ m := by rw [h1]; exact Nat.mod_lt _ (pow_pos' m)
    have := dig_len_le h2
    omega
  · exact h0

/-- the divisor, shifted up -/
theorem norm_div {y n t c : Nat} (hn : n = (dig y).length) (h : 0 < n) (ht : t = dg y (n - 1)) (h1 : 2147483648 ≤ t * c) (h2 : t * c + c ≤ 4294967296) :
    y * c < 4294967296 ^ n ∧ 2147483648 ≤ dg (y * c) (n - 1) ∧ (dig (y * c)).length = n ∧ 2147483648 * 4294967296 ^ (n - 1) ≤ y * c := by
  obtain ⟨e, -⟩ := top_word hn h
  rw [← ht] at e
  obtain ⟨m, rfl⟩ : ∃ m, n = m + 1 := ⟨n - 1, by omega⟩
  rw [Nat.add_sub_cancel] at e ⊢
  have hP := pow_pos' m
  obtain ⟨lo, hlo⟩ : ∃ lo, lo = y % 4294967296 ^ m := ⟨_, rfl⟩
  have hlt : lo < 4294967296 ^ m := by rw [hlo]; exact Nat.mod_lt _ hP
  rw [← hlo] at e
  obtain ⟨P, hPd⟩ : ∃ P, P = 4294967296 ^ m := ⟨_, rfl⟩
  have hps : 4294967296 ^ (m + 1) = P * 4294967296 := by rw [Nat.pow_succ, hPd]
  rw [← hPd] at e hlt hP ⊢
  have e2 : y * c = lo * c + P * (t * c) := by rw [e, Nat.add_mul, Nat.mul_assoc]
  have a1 : lo * c ≤ P * c := Nat.mul_le_mul_right c (by omega)
  have a2 : P * (t * c + c) ≤ P * 4294967296 := Nat.mul_le_mul_left P h2
  rw [Nat.mul_add] at a2
  have hc : 0 < c := by
    rcases Nat.eq_zero_or_pos c with h0 | h0
    · rw [h0] at h1; omega
    · exact h0
  have a3 : lo * c < P * c := Nat.mul_lt_mul_of_pos_right hlt hc
  have hD : y * c < 4294967296 ^ (m + 1) := by rw [hps]; omega
  have a4 : P * 2147483648 ≤ P * (t * c) := Nat.mul_le_mul_left P h1
  have hge : 2147483648 * P ≤ y * c := by omega
  have hq : 2147483648 ≤ y * c / P := by rw [Nat.le_div_iff_mul_le hP]; exact hge
  have hq2 : y * c / P < 4294967296 := by rw [Nat.div_lt_iff_lt_mul hP]; omega
  have hdg : dg (y * c) m = y * c / P := by unfold dg; rw [← hPd, Nat.mod_eq_of_lt hq2]
  refine ⟨hD, by rw [hdg]; exact hq, ?_, hge⟩
  have l1 := dig_len_le hD
  rcases Nat.lt_or_ge (dig (y * c)).length (m + 1) with h3 | h3
  · have := dg_zero (x := y * c) (i := m) (by omega)
    omega
  · omega

theorem shl_start {x y c n nx m : Nat} (hn : 0 < n) (hx : nx = (dig x).length) (hm : m = nx + 1 - n) (hnx : n ≤ nx) (hc : c ≤ 2147483648) (hD : 2147483648 * 4294967296 ^ (n - 1) ≤ y * c) (hc0 : 0 < c) :
    x * c < y * c * 4294967296 ^ m := by
  have h1 : x < 4294967296 ^ nx := lt_of_dig_len (by omega)
  have h2 : x * c < 4294967296 ^ nx * c := Nat.mul_lt_mul_of_pos_right h1 hc0
  have h3 : 4294967296 ^ nx * c ≤ 4294967296 ^ nx * 2147483648 := Nat.mul_le_mul_left _ hc
  have h4 := Nat.mul_le_mul_right (4294967296 ^ m) hD
  rw [Nat.mul_assoc, ← Nat.pow_add, show n - 1 + m = nx by omega, Nat.mul_comm] at h4
  omega

/-- a round of the outer loop -/
theorem outer_round {X D V V' Q Q' q i : Nat} (h : X = V + D * Q) (hV : V' + 4294967296 ^ i * (q * D) = V) (hQ : Q' = Q + 4294967296 ^ i * q) : X = V' + D * Q' := by
  have e : D * (4294967296 ^ i * q) = 4294967296 ^ i * (q * D) := by ac_rfl
  rw [hQ, Nat.mul_add, e]
  omega

end Go.Proofs.Ytmlopkkbgpfdnaa
