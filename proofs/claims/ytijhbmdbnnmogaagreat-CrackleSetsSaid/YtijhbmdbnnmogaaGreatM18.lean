/- Plain mathematics of long division, words to the base 2^32. -/
import Derived.Test.YtijhbmdbnnmogaaGreatM12
import Derived.Test.YtijhbmdbnnmogaaGreatM17
namespace Go.Proofs.YtijhbmdbnnmogaaGreat

theorem val_dg {l : List Nat} (ho : Ok l) (i : Nat) : l.getD i 0 = dg (val l) i := by
  induction l generalizing i with
  | nil => simp [val, dg]
  | cons x r ih =>
    have hx := ho.cons.1
    cases i with
    | zero => simp only [List.getD_cons_zero, val, dg, Nat.pow_zero, Nat.div_one]; omega
    | succ i =>
      rw [List.getD_cons_succ, ih ho.cons.2]
      unfold dg
      rw [Nat.pow_succ, Nat.mul_comm, ← Nat.div_div_eq_div_mul]
      congr 2
      simp only [val]; omega

theorem dg_div (x i k : Nat) : dg (x / 4294967296 ^ i) k = dg x (i + k) := by
  unfold dg; rw [Nat.div_div_eq_div_mul, ← Nat.pow_add]

theorem pow_pos' (k : Nat) : 0 < 4294967296 ^ k := Nat.pow_pos (by omega)

/-- the top of a number of m + 3 words -/
theorem top3 {x m : Nat} (h : x < 4294967296 ^ (m + 3)) :
    x = ((dg x (m + 2) * 4294967296 + dg x (m + 1)) * 4294967296 + dg x m) * 4294967296 ^ m + x % 4294967296 ^ m := by
  have h1 := mod_succ x m
  have h2 := mod_succ x (m + 1)
  have h3 := mod_succ x (m + 2)
  rw [Nat.mod_eq_of_lt h] at h3
  have e1 : 4294967296 ^ (m + 1) = 4294967296 ^ m * 4294967296 := Nat.pow_succ ..
  have e2 : 4294967296 ^ (m + 2) = 4294967296 ^ m * 4294967296 * 4294967296 := by rw [Nat.pow_succ, e1]
  rw [e1] at h2
  have h2' : x % 4294967296 ^ (m + 2) = x % (4294967296 ^ m * 4294967296) + 4294967296 ^ m * 4294967296 * dg x (m + 1) := h2
  rw [e2] at h3 h2'
  rw [e1] at h1
  have a1 : 4294967296 ^ m * 4294967296 * 4294967296 * dg x (m + 2) = dg x (m + 2) * 4294967296 * 4294967296 * 4294967296 ^ m := by ac_rfl
  have a2 : 4294967296 ^ m * 4294967296 * dg x (m + 1) = dg x (m + 1) * 4294967296 * 4294967296 ^ m := by ac_rfl
  have a3 : 4294967296 ^ m * dg x m = dg x m * 4294967296 ^ m := by ac_rfl
  rw [Nat.add_mul, Nat.add_mul, Nat.add_mul]
  omega

/-- the top of a number of m + 2 words -/
theorem top2 {x m : Nat} (h : x < 4294967296 ^ (m + 2)) :
    x = (dg x (m + 1) * 4294967296 + dg x m) * 4294967296 ^ m + x % 4294967296 ^ m := by
  have h0 : dg x (m + 2) = 0 := dg_ge h
  have := top3 (x := x) (m := m) (Nat.lt_of_lt_of_le h (Nat.pow_le_pow_right (by omega) (by omega)))
  rw [h0] at this
  simpa using this

theorem kd_head {B P v1 v2 dl head u2 ul : Nat} (hd : dl < P) (hv : v2 < B) (h : (head * B + u2) * P + ul < ((v1 * B + v2) * P + dl) * B) : head < v1 * B + B := by
  rcases Nat.lt_or_ge head (v1 * B + B) with g | g
  · exact g
  · have h2 : (v1 * B + B) * B * P ≤ (head * B + u2) * P := Nat.mul_le_mul_right P (Nat.le_trans (Nat.mul_le_mul_right B g) (Nat.le_add_right _ _))
    have h4 : ((v1 * B + v2) * P + dl) * B ≤ ((v1 * B + v2) * P + P) * B := Nat.mul_le_mul_right B (by omega)
    have h5 : (v1 * B + v2) * P + P = (v1 * B + v2 + 1) * P := (Nat.succ_mul _ _).symm
    have h6 : (v1 * B + v2 + 1) * P * B ≤ (v1 * B + B) * P * B := Nat.mul_le_mul_right B (Nat.mul_le_mul_right P (by omega))
    have h8 : (v1 * B + B) * P * B = (v1 * B + B) * B * P := by ac_rfl
    rw [h5] at h4
    omega

/-- what a guess of a digit rests on -/
structure KD (U D P head u2 ul v1 v2 dl : Nat) : Prop where
  u : U = (head * 4294967296 + u2) * P + ul
  ul_lt : ul < P
  d : D = (v1 * 4294967296 + v2) * P + dl
  dl_lt : dl < P
  u2_lt : u2 < 4294967296
  v2_lt : v2 < 4294967296
  v1_ge : 2147483648 ≤ v1
  v1_lt : v1 < 4294967296
  lt : U < D * 4294967296

namespace KD
variable {U D P head u2 ul v1 v2 dl g r : Nat}
theorem dpos (k : KD U D P head u2 ul v1 v2 dl) : 0 < D := by
  rcases Nat.eq_zero_or_pos D with h | h
  · have := k.lt; rw [h] at this; omega
  · exact h
theorem q_lt (k : KD U D P head u2 ul v1 v2 dl) : U / D < 4294967296 := by
  rw [Nat.div_lt_iff_lt_mul k.dpos, Nat.mul_comm]; exact k.lt
theorem head_lt (k : KD U D P head u2 ul v1 v2 dl) : head < v1 * 4294967296 + 4294967296 := by
  have h1 := k.lt
  rw [k.u, k.d] at h1
  exact kd_head k.dl_lt k.v2_lt h1
theorem start (k : KD U D P head u2 ul v1 v2 dl) : U / D ≤ head / v1 := by
  have hv1 := k.v1_ge
  rw [Nat.le_div_iff_mul_le (by omega)]
  have h1 : U / D * D ≤ U := Nat.div_mul_le_self _ _
  have h2 : v1 * 4294967296 * P ≤ D := by
    rw [k.d, Nat.add_mul]; omega
  have h3 : U / D * (v1 * 4294967296 * P) ≤ U := Nat.le_trans (Nat.mul_le_mul_left _ h2) h1
  have hP : 0 < P := Nat.lt_of_le_of_lt (Nat.zero_le _) k.ul_lt
  have h4 : U < (head + 1) * (4294967296 * P) := by
    rw [k.u]
    have a := k.ul_lt
    have b : (head * 4294967296 + u2 + 1) * P ≤ (head * 4294967296 + 4294967296) * P := Nat.mul_le_mul_right P (by have := k.u2_lt; omega)
    rw [Nat.succ_mul] at b
    have c : (head * 4294967296 + 4294967296) * P = (head + 1) * (4294967296 * P) := by rw [← Nat.mul_assoc, Nat.add_mul head 1, Nat.one_mul]
    omega
  have h5 : U / D * v1 * (4294967296 * P) < (head + 1) * (4294967296 * P) := by
    have : U / D * v1 * (4294967296 * P) = U / D * (v1 * 4294967296 * P) := by ac_rfl
    omega
  have h6 := Nat.lt_of_mul_lt_mul_right h5
  omega
theorem high (k : KD U D P head u2 ul v1 v2 dl) (hh : head = g * v1 + r) (hg : r * 4294967296 + u2 < g * v2) : U / D < g := by
  rw [Nat.div_lt_iff_lt_mul k.dpos]
  have := kd_high (P := P) (dl := dl) (ul := ul) hh k.ul_lt hg
  rw [← k.u, ← k.d] at this
  exact this
theorem rest (k : KD U D P head u2 ul v1 v2 dl) (hh : head = g * v1 + r) (hr : 4294967296 ≤ r) (hq : U / D ≤ g) : g < 4294967296 ∧ g = U / D := by
  have h1 := kd_word hh hr k.head_lt
  refine ⟨h1, ?_⟩
  have := kd_rest (P := P) (ul := ul) (u2 := u2) hh k.dl_lt k.v2_lt hr h1
  rw [← k.u, ← k.d] at this
  have := (Nat.le_div_iff_mul_le k.dpos).2 this
  omega
theorem one (k : KD U D P head u2 ul v1 v2 dl) (hh : head = g * v1 + r) (hg : g * v2 ≤ r * 4294967296 + u2) (hgB : g < 4294967296) : g ≤ U / D + 1 := by
  have := kd_one (P := P) (dl := dl) (ul := ul) hh k.dl_lt (by have := k.v1_ge; omega) hg hgB
  rw [← k.u, ← k.d] at this
  have h2 : g < U / D + 2 := by
    rcases Nat.lt_or_ge g (U / D + 2) with h | h
    · exact h
    · have h3 := Nat.mul_le_mul_right D h
      have h4 := Nat.lt_div_mul_add k.dpos (a := U)
      have h5 : (U / D + 2) * D = U / D * D + D + D := by rw [Nat.add_mul]; omega
      omega
  omega
end KD

/-- the numbers of which a digit is guessed: x's words from i on, i + n the highest -/
theorem kd_of {x D i m : Nat} (hx : x < D * 4294967296 ^ (i + 1)) (hD : D < 4294967296 ^ (m + 2)) (ht : 2147483648 ≤ dg D (m + 1)) :
    KD (x / 4294967296 ^ i) D (4294967296 ^ m) (dg x (i + m + 2) * 4294967296 + dg x (i + m + 1)) (dg x (i + m)) (x / 4294967296 ^ i % 4294967296 ^ m) (dg D (m + 1)) (dg D m) (D % 4294967296 ^ m) := by
  have hlt : x / 4294967296 ^ i < D * 4294967296 := by
    rw [Nat.div_lt_iff_lt_mul (pow_pos' i), Nat.mul_assoc, Nat.mul_comm 4294967296, ← Nat.pow_succ]; exact hx
  have hU : x / 4294967296 ^ i < 4294967296 ^ (m + 3) := by
    refine Nat.lt_trans hlt ?_
    rw [show m + 3 = m + 2 + 1 from rfl, Nat.pow_succ]
    exact Nat.mul_lt_mul_of_pos_right hD (by omega)
  refine ⟨?_, Nat.mod_lt _ (pow_pos' m), top2 hD, Nat.mod_lt _ (pow_pos' m), dg_lt _ _, dg_lt _ _, ht, dg_lt _ _, hlt⟩
  have := top3 hU
  rw [dg_div, dg_div, dg_div] at this
  exact this

/-- a round of the loop that subtracts a multiple -/
theorem take_round {V V' i j g D X old c b s lo hi nb new : Nat}
    (hV : V + 4294967296 ^ i * (g * (D % 4294967296 ^ j)) = X + 4294967296 ^ (i + j) * (c + b))
    (hV' : V' + 4294967296 ^ (i + j) * old = V + 4294967296 ^ (i + j) * new)
    (hs : s = g * dg D j + c) (hlo : lo = s % 4294967296) (hhi : hi = s / 4294967296)
    (hnew : new + lo + b = old + 4294967296 * nb) :
    V' + 4294967296 ^ i * (g * (D % 4294967296 ^ (j + 1))) = X + 4294967296 ^ (i + (j + 1)) * (hi + nb) := by
  rw [mod_succ]
  have e1 : 4294967296 ^ (i + (j + 1)) * (hi + nb) = 4294967296 ^ (i + j) * (4294967296 * hi) + 4294967296 ^ (i + j) * (4294967296 * nb) := by
    rw [← Nat.add_assoc, Nat.pow_succ, Nat.mul_assoc, Nat.mul_add, Nat.mul_add]
  have e2 : 4294967296 ^ i * (g * (D % 4294967296 ^ j + 4294967296 ^ j * dg D j)) = 4294967296 ^ i * (g * (D % 4294967296 ^ j)) + 4294967296 ^ (i + j) * (g * dg D j) := by
    rw [Nat.mul_add, Nat.mul_add, Nat.pow_add]
    congr 1
    rw [Nat.mul_left_comm g, Nat.mul_assoc]
  have e3 : 4294967296 ^ (i + j) * lo + 4294967296 ^ (i + j) * (4294967296 * hi) = 4294967296 ^ (i + j) * (g * dg D j) + 4294967296 ^ (i + j) * c := by
    rw [← Nat.mul_add, ← Nat.mul_add, ← hs, hlo, hhi, Nat.mod_add_div]
  have e4 : 4294967296 ^ (i + j) * new + 4294967296 ^ (i + j) * lo + 4294967296 ^ (i + j) * b = 4294967296 ^ (i + j) * old + 4294967296 ^ (i + j) * (4294967296 * nb) := by
    rw [← Nat.mul_add, ← Nat.mul_add, ← Nat.mul_add, hnew]
  rw [Nat.mul_add] at hV
  omega

/-- the round of the highest word -/
theorem take_last {V V' X Y p old c b nb new : Nat} (hV : V + Y = X + p * (c + b)) (hV' : V' + p * old = V + p * new) (hnew : new + c + b = old + 4294967296 * nb) :
    V' + Y = X + p * 4294967296 * nb := by
  have e4 : p * new + p * c + p * b = p * old + p * (4294967296 * nb) := by
    rw [← Nat.mul_add, ← Nat.mul_add, ← Nat.mul_add, hnew]
  rw [← Nat.mul_assoc] at e4
  rw [Nat.mul_add] at hV
  omega

/-- a round of the loop that adds back -/
theorem back_round {V V' i j D X old c s new nc : Nat}
    (hV : V + 4294967296 ^ (i + j) * c = X + 4294967296 ^ i * (D % 4294967296 ^ j))
    (hV' : V' + 4294967296 ^ (i + j) * old = V + 4294967296 ^ (i + j) * new)
    (hs : s = old + dg D j + c) (hlo : new = s % 4294967296) (hhi : nc = s / 4294967296) :
    V' + 4294967296 ^ (i + (j + 1)) * nc = X + 4294967296 ^ i * (D % 4294967296 ^ (j + 1)) := by
  rw [mod_succ]
  have e1 : 4294967296 ^ (i + (j + 1)) * nc = 4294967296 ^ (i + j) * (4294967296 * nc) := by rw [← Nat.add_assoc, Nat.pow_succ, Nat.mul_assoc]
  have e2 : 4294967296 ^ i * (D % 4294967296 ^ j + 4294967296 ^ j * dg D j) = 4294967296 ^ i * (D % 4294967296 ^ j) + 4294967296 ^ (i + j) * dg D j := by
    rw [Nat.mul_add, Nat.pow_add, Nat.mul_assoc]
  have e3 : 4294967296 ^ (i + j) * new + 4294967296 ^ (i + j) * (4294967296 * nc) = 4294967296 ^ (i + j) * old + 4294967296 ^ (i + j) * dg D j + 4294967296 ^ (i + j) * c := by
    rw [← Nat.mul_add, ← Nat.mul_add, ← Nat.mul_add, ← hs, hlo, hhi, Nat.mod_add_div]
  omega

theorem val_small {l : List Nat} {k : Nat} (ho : Ok l) (hz : ∀ p, k ≤ p → l.getD p 0 = 0) : val l < 4294967296 ^ k := by
  rw [take_norm (l := l) (n := k) (fun j h _ => hz j h)]
  have h1 := val_lt (ho.take k)
  exact Nat.lt_of_lt_of_le h1 (Nat.pow_le_pow_right (by omega) (by rw [List.length_take]; omega))

theorem words_zero {l : List Nat} {k : Nat} (ho : Ok l) (h : val l < 4294967296 ^ k) (p : Nat) (hp : k ≤ p) : l.getD p 0 = 0 := by
  rw [val_dg ho]
  exact dg_ge (Nat.lt_of_lt_of_le h (Nat.pow_le_pow_right (by omega) hp))

/-- the guess was right -/
theorem take_done {V X D g i : Nat} (hD : 0 < D) (h : V + 4294967296 ^ i * (g * D) = X) (hq : X / 4294967296 ^ i / D ≤ g) : g = X / 4294967296 ^ i / D := by
  have h1 : g * D ≤ X / 4294967296 ^ i := by
    rw [Nat.le_div_iff_mul_le (pow_pos' i), Nat.mul_comm]; omega
  have h2 := (Nat.le_div_iff_mul_le hD).2 h1
  omega

/-- the guess was one too high -/
theorem take_high {V X D g i n : Nat} (h : V + 4294967296 ^ i * (g * D) = X + 4294967296 ^ (i + n + 1)) (hV : V < 4294967296 ^ (i + n + 1)) (hD : 0 < D) (hq : g ≤ X / 4294967296 ^ i / D + 1) :
    g = X / 4294967296 ^ i / D + 1 := by
  have h1 : X < 4294967296 ^ i * (g * D) := by omega
  have h2 : X / 4294967296 ^ i / D < g := by
    rw [Nat.div_lt_iff_lt_mul hD, Nat.div_lt_iff_lt_mul (pow_pos' i), Nat.mul_comm]; exact h1
  omega

/-- adding back ends with the rest -/
theorem back_done {V X D g q i n M c : Nat} (h : V + 4294967296 ^ i * (g * D) = X + 4294967296 ^ (i + n + 1)) (hg : g = q + 1) (hq : q = X / 4294967296 ^ i / D)
    (hM : M + 4294967296 ^ (i + n + 1) * c = V + 4294967296 ^ i * D) (hc : c ≤ 1) (hMl : M < 4294967296 ^ (i + n + 1)) : M + 4294967296 ^ i * (q * D) = X := by
  have e : 4294967296 ^ i * (g * D) = 4294967296 ^ i * (q * D) + 4294967296 ^ i * D := by rw [hg, Nat.succ_mul, Nat.mul_add]
  have hle : 4294967296 ^ i * (q * D) ≤ X := by
    have h1 : q * D ≤ X / 4294967296 ^ i := by rw [hq]; exact Nat.div_mul_le_self _ _
    have := Nat.mul_le_mul_left (4294967296 ^ i) h1
    exact Nat.le_trans this (Nat.mul_div_le _ _)
  rcases (by omega : c = 0 ∨ c = 1) with rfl | rfl
  · omega
  · omega

/-- the numbers fall below the divisor's multiple -/
theorem part_lt {X V D q i : Nat} (h : V + 4294967296 ^ i * (q * D) = X) (hq : q = X / 4294967296 ^ i / D) (hD : 0 < D) : V < D * 4294967296 ^ i := by
  have h1 : X / 4294967296 ^ i < q * D + D := by rw [hq]; exact Nat.lt_div_mul_add hD
  have h2 : X < (q * D + D) * 4294967296 ^ i := by
    rw [← Nat.div_lt_iff_lt_mul (pow_pos' i)]; exact h1
  rw [Nat.add_mul, Nat.mul_comm (q * D)] at h2
  omega

end Go.Proofs.YtijhbmdbnnmogaaGreat
