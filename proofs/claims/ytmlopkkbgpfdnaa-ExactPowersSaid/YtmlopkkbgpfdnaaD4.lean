/- Plain mathematics of roots and powers: Newton's steps from above. -/
import Derived.Test.YtmlopkkbgpfdnaaD3
namespace Go.Proofs.Ytmlopkkbgpfdnaa

theorem cross {x y s r : Nat} (h : (y ≤ x ∧ r ≤ s) ∨ (x ≤ y ∧ s ≤ r)) : x * r + s * y ≤ x * s + y * r := by
  rcases h with ⟨h1, h2⟩ | ⟨h1, h2⟩
  · obtain ⟨d, rfl⟩ := Nat.exists_eq_add_of_le h1
    obtain ⟨e, rfl⟩ := Nat.exists_eq_add_of_le h2
    have : (y + d) * r + (r + e) * y + d * e = (y + d) * (r + e) + y * r := by
      simp only [Nat.add_mul, Nat.mul_add]
      have a1 := Nat.mul_comm r y
      have a2 := Nat.mul_comm e y
      omega
    omega
  · obtain ⟨d, rfl⟩ := Nat.exists_eq_add_of_le h1
    obtain ⟨e, rfl⟩ := Nat.exists_eq_add_of_le h2
    have : x * (s + e) + s * (x + d) + d * e = x * s + (x + d) * (s + e) := by
      simp only [Nat.add_mul, Nat.mul_add]
      have a1 := Nat.mul_comm s x
      have a2 := Nat.mul_comm s d
      omega
    omega

/-- k s r^(k-1) ≤ s^k + (k-1) r^k -/
theorem tangent (s r k : Nat) : (k + 1) * s * r ^ k ≤ s ^ (k + 1) + k * r ^ (k + 1) := by
  induction k with
  | zero => simp
  | succ k ih =>
    have h1 := Nat.mul_le_mul_right r ih
    have h2 : s ^ (k + 1) * r + s * r ^ (k + 1) ≤ s ^ (k + 1) * s + r ^ (k + 1) * r := by
      apply cross
      rcases Nat.le_total r s with h | h
      · exact .inl ⟨Nat.pow_le_pow_left h _, h⟩
      · exact .inr ⟨Nat.pow_le_pow_left h _, h⟩
    have e1 : (k + 1 + 1) * s * r ^ (k + 1) = (k + 1) * s * r ^ k * r + s * r ^ (k + 1) := by
      rw [Nat.mul_assoc, Nat.succ_mul (k + 1), Nat.pow_succ, Nat.mul_assoc, Nat.mul_assoc]
    have e2 : (s ^ (k + 1) + k * r ^ (k + 1)) * r = s ^ (k + 1) * r + k * r ^ (k + 1 + 1) := by rw [Nat.add_mul, Nat.mul_assoc, ← Nat.pow_succ]
    have e3 : s ^ (k + 1 + 1) = s ^ (k + 1) * s := Nat.pow_succ ..
    have e4 : (k + 1) * r ^ (k + 1 + 1) = k * r ^ (k + 1 + 1) + r ^ (k + 1) * r := by rw [Nat.succ_mul, ← Nat.pow_succ]
    rw [e2] at h1
    rw [e1, e3, e4]
    omega

/-- every number whose k-th power is at most a is at most r -/
def Up (a k r : Nat) : Prop := ∀ s, s ^ k ≤ a → s ≤ r

theorem newton_up {a k r : Nat} (hr : 0 < r) : Up a (k + 1) ((k * r + a / r ^ k) / (k + 1)) := by
  intro s hs
  rw [Nat.le_div_iff_mul_le (by omega)]
  have hp : 0 < r ^ k := Nat.pow_pos hr
  have h1 : a < (a / r ^ k + 1) * r ^ k := by
    have := Nat.lt_div_mul_add hp (a := a)
    rw [Nat.add_mul, Nat.one_mul]; exact this
  rcases Nat.lt_or_ge (k * r + a / r ^ k) (s * (k + 1)) with h | h
  · exfalso
    have h2 : (k * r + (a / r ^ k + 1)) * r ^ k ≤ s * (k + 1) * r ^ k := Nat.mul_le_mul_right _ (by omega)
    have h3 := tangent s r k
    have e1 : s * (k + 1) * r ^ k = (k + 1) * s * r ^ k := by rw [Nat.mul_comm s]
    have e2 : (k * r + (a / r ^ k + 1)) * r ^ k = k * r ^ (k + 1) + (a / r ^ k + 1) * r ^ k := by rw [Nat.add_mul, Nat.mul_assoc, Nat.pow_succ, Nat.mul_comm r]
    omega
  · omega

theorem newton_stop {a k r : Nat} (hr : 0 < r) (h : r ≤ (k * r + a / r ^ k) / (k + 1)) : r ^ (k + 1) ≤ a := by
  rw [Nat.le_div_iff_mul_le (by omega), Nat.mul_add, Nat.mul_one, Nat.mul_comm r k] at h
  have h2 : r ≤ a / r ^ k := by omega
  rw [Nat.le_div_iff_mul_le (Nat.pow_pos hr)] at h2
  rw [Nat.pow_succ, Nat.mul_comm]; exact h2

theorem up_pos {a k r : Nat} (ha : 0 < a) (h : Up a k r) : 0 < r := h 1 (by rw [Nat.one_pow]; exact ha)

theorem up_start {a k b e : Nat} (ha : a < 2 ^ b) (hk : 0 < k) (he : b ≤ e * k) : Up a k (2 ^ e) := by
  intro s hs
  rcases Nat.lt_or_ge (2 ^ e) s with h | h
  · exfalso
    have h1 : (2 ^ e) ^ k < s ^ k := Nat.pow_lt_pow_left h (by omega)
    rw [← Nat.pow_mul] at h1
    have h2 : 2 ^ b ≤ 2 ^ (e * k) := Nat.pow_le_pow_right (by omega) he
    omega
  · exact h

theorem root_unique {a k r : Nat} (h2 : Up a k r) : a < (r + 1) ^ k := by
  rcases Nat.lt_or_ge a ((r + 1) ^ k) with h | h
  · exact h
  · have := h2 _ h; omega

/-- the number of bits -/
def bitsN (x : Nat) : Nat := if (dig x).length = 0 then 0 else ((dig x).length - 1) * 32 + Lib.bitLen (dg x ((dig x).length - 1))

theorem pow_word (k : Nat) : 4294967296 ^ k = 2 ^ (k * 32) := by
  rw [Nat.mul_comm, Nat.pow_mul]

theorem bitsN_lt (x : Nat) : x < 2 ^ bitsN x := by
  unfold bitsN
  by_cases h : (dig x).length = 0
  · have : x = 0 := dig_eq_nil.1 (List.eq_nil_of_length_eq_zero h)
    subst this
    rw [if_pos h]; decide
  · rw [if_neg h]
    obtain ⟨e, h0⟩ := top_word (y := x) rfl (by omega)
    obtain ⟨n, hn⟩ : ∃ n, n = (dig x).length - 1 := ⟨_, rfl⟩
    rw [← hn] at e h0 ⊢
    have hd := dg_lt x n
    obtain ⟨-, hb⟩ := bitLen_bounds (dg x n) h0 (by omega)
    have hm := Nat.mod_lt x (pow_pos' n)
    rw [Nat.pow_add, ← pow_word]
    have h3 := Nat.mul_le_mul_left (4294967296 ^ n) (show dg x n + 1 ≤ 2 ^ Lib.bitLen (dg x n) from hb)
    rw [Nat.mul_add, Nat.mul_one] at h3
    omega
theorem bitsN_le (x : Nat) (hx : 0 < x) : 2 ^ bitsN x ≤ 2 * x := by
  unfold bitsN
  have h := dig_len_pos.2 hx
  rw [if_neg (by omega)]
  obtain ⟨e, h0⟩ := top_word (y := x) rfl h
  obtain ⟨n, hn⟩ : ∃ n, n = (dig x).length - 1 := ⟨_, rfl⟩
  rw [← hn] at e h0 ⊢
  have hd := dg_lt x n
  obtain ⟨hb, -⟩ := bitLen_bounds (dg x n) h0 (by omega)
  rw [Nat.pow_add, ← pow_word]
  have h3 := Nat.mul_le_mul_left (4294967296 ^ n) hb
  have h4 : 4294967296 ^ n * (2 * dg x n) = 2 * (4294967296 ^ n * dg x n) := by ac_rfl
  omega
theorem bitsN_bound {x k : Nat} (h : (dig x).length ≤ k) : bitsN x ≤ k * 32 := by
  unfold bitsN
  split
  · omega
  · have hd := dg_lt x ((dig x).length - 1)
    have hL : Lib.bitLen (dg x ((dig x).length - 1)) ≤ 32 := Lib.bitLen_le _ 32 (by omega) hd
    have : ((dig x).length - 1) * 32 + 32 ≤ k * 32 := by omega
    omega

/-- powers by squaring -/
theorem half_bits (n i : Nat) : n / 2 ^ i = 2 * (n / 2 ^ (i + 1)) + n / 2 ^ i % 2 := by
  rw [Nat.pow_succ, ← Nat.div_div_eq_div_mul]; omega
theorem square_even {a m : Nat} : a ^ m * a ^ m = a ^ (2 * m) := by rw [← Nat.pow_add]; congr 1; omega
theorem square_odd {a m : Nat} : a ^ (2 * m) * a = a ^ (2 * m + 1) := (Nat.pow_succ ..).symm

/-- a power of two in words -/
theorem two_words (e : Nat) : dig (2 ^ e) = zeros (e / 32) ++ [2 ^ (e % 32)] := by
  have hv : val (zeros (e / 32) ++ [2 ^ (e % 32)]) = 2 ^ e := by
    rw [val_append, val_zeros, zeros_length, pow_word]
    simp only [val, Nat.mul_zero, Nat.add_zero, Nat.zero_add]
    rw [← Nat.pow_add]; congr 1; omega
  have hl : 2 ^ (e % 32) < 4294967296 := by
    have : 2 ^ (e % 32) ≤ 2 ^ 31 := Nat.pow_le_pow_right (by omega) (by omega)
    omega
  rw [← hv]
  apply dig_val
  · exact (zeros_ok _).append (Ok.mk hl Ok.nil)
  · unfold Norm
    simp

end Go.Proofs.Ytmlopkkbgpfdnaa
