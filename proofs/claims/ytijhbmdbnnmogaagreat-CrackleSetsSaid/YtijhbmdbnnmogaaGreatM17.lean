/- Arithmetic of long division with words as digits: a guessed digit is right, or one too high. -/
namespace Go.Proofs.YtijhbmdbnnmogaaGreat

section
variable {B P v1 v2 dl head u2 ul g r : Nat}
/-- a guess that the next word refutes is too high -/
theorem kd_high (hh : head = g * v1 + r) (hu : ul < P) (hg : r * B + u2 < g * v2) : (head * B + u2) * P + ul < g * ((v1 * B + v2) * P + dl) := by
  have h1 : head * B + u2 + 1 ≤ g * (v1 * B + v2) := by
    rw [Nat.mul_add, ← Nat.mul_assoc, hh, Nat.add_mul]; omega
  have h2 := Nat.mul_le_mul_right P h1
  have h3 : g * ((v1 * B + v2) * P + dl) = g * (v1 * B + v2) * P + g * dl := by rw [Nat.mul_add, Nat.mul_assoc]
  have h4 : (head * B + u2 + 1) * P = (head * B + u2) * P + P := Nat.succ_mul _ _
  omega
/-- a guess whose rest is a word's range or more is not too high -/
theorem kd_rest (hh : head = g * v1 + r) (hd : dl < P) (hv : v2 < B) (hr : B ≤ r) (hgB : g < B) : g * ((v1 * B + v2) * P + dl) ≤ (head * B + u2) * P + ul := by
  have h0 : g * (v2 + 1) ≤ B * B := Nat.mul_le_mul (by omega) (by omega)
  have h0' : B * B ≤ r * B := Nat.mul_le_mul_right B hr
  have h1 : g * (v1 * B + v2) + g ≤ head * B := by
    rw [Nat.mul_add, ← Nat.mul_assoc, hh, Nat.add_mul]
    rw [Nat.mul_add, Nat.mul_one] at h0
    omega
  have h2 := Nat.mul_le_mul_right P (Nat.le_trans h1 (Nat.le_add_right _ u2))
  have h3 : g * ((v1 * B + v2) * P + dl) = g * (v1 * B + v2) * P + g * dl := by rw [Nat.mul_add, Nat.mul_assoc]
  have h4 : (g * (v1 * B + v2) + g) * P = g * (v1 * B + v2) * P + g * P := Nat.add_mul _ _ _
  have h5 : g * dl ≤ g * P := Nat.mul_le_mul_left g (by omega)
  omega
/-- a guess that the next word does not refute is at most one too high -/
theorem kd_one (hh : head = g * v1 + r) (hd : dl < P) (hv : 1 ≤ v1) (hg : g * v2 ≤ r * B + u2) (hgB : g < B) : g * ((v1 * B + v2) * P + dl) < ((head * B + u2) * P + ul) + ((v1 * B + v2) * P + dl) := by
  have h1 : g * (v1 * B + v2) ≤ head * B + u2 := by
    rw [Nat.mul_add, ← Nat.mul_assoc, hh, Nat.add_mul]; omega
  have h2 := Nat.mul_le_mul_right P h1
  have h3 : g * ((v1 * B + v2) * P + dl) = g * (v1 * B + v2) * P + g * dl := by rw [Nat.mul_add, Nat.mul_assoc]
  have h4 : g * dl ≤ B * dl := Nat.mul_le_mul_right dl (by omega)
  have h5 : B * dl < B * P := Nat.mul_lt_mul_of_pos_left hd (by omega)
  have h6 : B * P ≤ (v1 * B + v2) * P := Nat.mul_le_mul_right P (by
    have := Nat.mul_le_mul_right B hv
    omega)
  omega
/-- a guess whose rest is a word's range or more is a word -/
theorem kd_word (hh : head = g * v1 + r) (hr : B ≤ r) (hhd : head < v1 * B + B) : g < B := by
  by_cases h : g < B
  · exact h
  · have h1 := Nat.mul_le_mul_right v1 (show B ≤ g by omega)
    rw [Nat.mul_comm B v1] at h1
    omega
end
end Go.Proofs.YtijhbmdbnnmogaaGreat
