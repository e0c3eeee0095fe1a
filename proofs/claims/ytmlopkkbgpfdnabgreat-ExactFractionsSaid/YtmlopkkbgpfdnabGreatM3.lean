/- Arithmetic of long division with words as digits: a guessed digit is right, or one too high. · Plain mathematics of long division, words to the base 2^32. · Plain mathematics: shifts by less than a word, division by a word or word by word. · Walks: shifts by less than a word. · Walks: division by a word. · Walks: a guessed digit of a quotient. -/
import Derived.Test.YtmlopkkbgpfdnabGreatM0
import Derived.IntWalk
import Derived.Test.YtmlopkkbgpfdnabGreatM1
namespace Go.Proofs.YtmlopkkbgpfdnabGreat

section
variable {B P v1 v2 dl head u2 ul g r : Nat}
/-- a guess that the next word refutes is too high -/
theorem kd_high (hh : head = g * v1 + r) (hu : ul < P) (hg : r * B + u2 < g * v2) : (head * B + u2) * P + ul < g * ((v1 * B + v2) * P + dl) := by
  have h1 : head * B + u2 + 1 ≤ g * (v1 * B + v2) := by
    rw [Nat.mul_add, ← Nat.mul_assoc, hh, Nat.add_mul]; omega
  have h2 := Nat.mul_le_mul_right P h1
  have h3 : g * ((v1 * B + v2) * P + dl) = g * (v1 * B + v2) * P + g * dl := by rw [Nat.mul_add, Nat.mul_assoc]
  have h4 : (head * B + u2 + 1) * P = (head * B + u2) * P + P := Nat.succ_mul _ _
  omega
/-- a guess whose rest is a word's range or more is not too high -/
theorem kd_rest (hh : head = g * v1 + r) (hd : dl < P) (hv : v2 < B) (hr : B ≤ r) (hgB : g < B) : g * ((v1 * B + v2) * P + dl) ≤ (head * B + u2) * P + ul := by
  have h0 : g * (v2 + 1) ≤ B * B := Nat.mul_le_mul (by omega) (by omega)
  have h0' : B * B ≤ r * B := Nat.mul_le_mul_right B hr
  have h1 : g * (v1 * B + v2) + g ≤ head * B := by
    rw [Nat.mul_add, ← Nat.mul_assoc, hh, Nat.add_mul]
    rw [Nat.mul_add, Nat.mul_one] at h0
    omega
  have h2 := Nat.mul_le_mul_right P (Nat.le_trans h1 (Nat.le_add_right _ u2))
  have h3 : g * ((v1 * B + v2) * P + dl) = g * (v1 * B + v2) * P + g * dl := by rw [Nat.mul_add, Nat.mul_assoc]
  have h4 : (g * (v1 * B + v2) + g) * P = g * (v1 * B + v2) * P + g * P := Nat.add_mul _ _ _
  have h5 : g * dl ≤ g * P := Nat.mul_le_mul_left g (by omega)
  omega
/-- a guess that the next word does not refute is at most one too high -/
theorem kd_one (hh : head = g * v1 + r) (hd : dl < P) (hv : 1 ≤ v1) (hg : g * v2 ≤ r * B + u2) (hgB : g < B) : g * ((v1 * B + v2) * P + dl) < ((head * B + u2) * P + ul) + ((v1 * B + v2) * P + dl) := by
  have h1 : g * (v1 * B + v2) ≤ head * B + u2 := by
    rw [Nat.mul_add, ← Nat.mul_assoc, hh, Nat.add_mul]; omega
  have h2 := Nat.mul_le_mul_right P h1
  have h3 : g * ((v1 * B + v2) * P + dl) = g * (v1 * B + v2) * P + g * dl := by rw [Nat.mul_add, Nat.mul_assoc]
  have h4 : g * dl ≤ B * dl := Nat.mul_le_mul_right dl (by omega)
  have h5 : B * dl < B * P := Nat.mul_lt_mul_of_pos_left hd (by omega)
  have h6 : B * P ≤ (v1 * B + v2) * P := Nat.mul_le_mul_right P (by
    have := Nat.mul_le_mul_right B hv
    omega)
  omega
/-- a guess whose rest is a word's range or more is a word -/
theorem kd_word (hh : head = g * v1 + r) (hr : B ≤ r) (hhd : head < v1 * B + B) : g < B := by
  by_cases h : g < B
  · exact h
  · have h1 := Nat.mul_le_mul_right v1 (show B ≤ g by omega)
    rw [Nat.mul_comm B v1] at h1
    omega
end
end Go.Proofs.YtmlopkkbgpfdnabGreat
namespace Go.Proofs.YtmlopkkbgpfdnabGreat

theorem val_dg {l : List Nat} (ho : Ok l) (i : Nat) : l.getD i 0 = dg (val l) i := by
  induction l generalizing i with
  | nil => simp [val, dg]
  | cons x r ih =>
    have hx := ho.cons.1
    cases i with
    | zero => simp only [List.getD_cons_zero, val, dg, Nat.pow_zero, Nat.div_one]; omega
    | succ i =>
      rw [List.getD_cons_succ, ih ho.cons.2]
      unfold dg
      rw [Nat.pow_succ, Nat.mul_comm, ← Nat.div_div_eq_div_mul]
      congr 2
      simp only [val]; omega

theorem dg_div (x i k : Nat) : dg (x / 4294967296 ^ i) k = dg x (i + k) := by
  unfold dg; rw [Nat.div_div_eq_div_mul, ← Nat.pow_add]

theorem pow_pos' (k : Nat) : 0 < 4294967296 ^ k := Nat.pow_pos (by omega)

/-- the top of a number of m + 3 words -/
theorem top3 {x m : Nat} (h : x < 4294967296 ^ (m + 3)) :
    x = ((dg x (m + 2) * 4294967296 + dg x (m + 1)) * 4294967296 + dg x m) * 4294967296 ^ m + x % 4294967296 ^ m := by
  have h1 := mod_succ x m
  have h2 := mod_succ x (m + 1)
  have h3 := mod_succ x (m + 2)
  rw [Nat.mod_eq_of_lt h] at h3
  have e1 : 4294967296 ^ (m + 1) = 4294967296 ^ m * 4294967296 := Nat.pow_succ ..
  have e2 : 4294967296 ^ (m + 2) = 4294967296 ^ m * 4294967296 * 4294967296 := by rw [Nat.pow_succ, e1]
  rw [e1] at h2
  have h2' : x % 4294967296 ^ (m + 2) = x % (4294967296 ^ m * 4294967296) + 4294967296 ^ m * 4294967296 * dg x (m + 1) := h2
  rw [e2] at h3 h2'
  rw [e1] at h1
  have a1 : 4294967296 ^ m * 4294967296 * 4294967296 * dg x (m + 2) = dg x (m + 2) * 4294967296 * 4294967296 * 4294967296 ^ m := by ac_rfl
  have a2 : 4294967296 ^ m * 4294967296 * dg x (m + 1) = dg x (m + 1) * 4294967296 * 4294967296 ^ m := by ac_rfl
  have a3 : 4294967296 ^ m * dg x m = dg x m * 4294967296 ^ m := by ac_rfl
  rw [Nat.add_mul, Nat.add_mul, Nat.add_mul]
  omega

/-- the top of a number of m + 2 words -/
theorem top2 {x m : Nat} (h : x < 4294967296 ^ (m + 2)) :
    x = (dg x (m + 1) * 4294967296 + dg x m) * 4294967296 ^ m + x % 4294967296 ^ m := by
  have h0 : dg x (m + 2) = 0 := dg_ge h
  have := top3 (x := x) (m := m) (Nat.lt_of_lt_of_le h (Nat.pow_le_pow_right (by omega) (by omega)))
  rw [h0] at this
  simpa using this

theorem kd_head {B P v1 v2 dl head u2 ul : Nat} (hd : dl < P) (hv : v2 < B) (h : (head * B + u2) * P + ul < ((v1 * B + v2) * P + dl) * B) : head < v1 * B + B := by
  rcases Nat.lt_or_ge head (v1 * B + B) with g | g
  · exact g
  · have h2 : (v1 * B + B) * B * P ≤ (head * B + u2) * P := Nat.mul_le_mul_right P (Nat.le_trans (Nat.mul_le_mul_right B g) (Nat.le_add_right _ _))
    have h4 : ((v1 * B + v2) * P + dl) * B ≤ ((v1 * B + v2) * P + P) * B := Nat.mul_le_mul_right B (by omega)
    have h5 : (v1 * B + v2) * P + P = (v1 * B + v2 + 1) * P := (Nat.succ_mul _ _).symm
    have h6 : (v1 * B + v2 + 1) * P * B ≤ (v1 * B + B) * P * B := Nat.mul_le_mul_right B (Nat.mul_le_mul_right P (by omega))
    have h8 : (v1 * B + B) * P * B = (v1 * B + B) * B * P := by ac_rfl
    rw [h5] at h4
    omega

/-- what a guess of a digit rests on -/
structure KD (U D P head u2 ul v1 v2 dl : Nat) : Prop where
  u : U = (head * 4294967296 + u2) * P + ul
  ul_lt : ul < P
  d : D = (v1 * 4294967296 + v2) * P + dl
  dl_lt : dl < P
  u2_lt : u2 < 4294967296
  v2_lt : v2 < 4294967296
  v1_ge : 2147483648 ≤ v1
  v1_lt : v1 < 4294967296
  lt : U < D * 4294967296

namespace KD
variable {U D P head u2 ul v1 v2 dl g r : Nat}
theorem dpos (k : KD U D P head u2 ul v1 v2 dl) : 0 < D := by
  rcases Nat.eq_zero_or_pos D with h | h
  · have := k.lt; rw [h] at this; omega
  · exact h
theorem q_lt (k : KD U D P head u2 ul v1 v2 dl) : U / D < 4294967296 := by
  rw [Nat.div_lt_iff_lt_mul k.dpos, Nat.mul_comm]; exact k.lt
theorem head_lt (k : KD U D P head u2 ul v1 v2 dl) : head < v1 * 4294967296 + 4294967296 := by
  have h1 := k.lt
  rw [k.u, k.d] at h1
  exact kd_head k.dl_lt k.v2_lt h1
theorem start (k : KD U D P head u2 ul v1 v2 dl) : U / D ≤ head / v1 := by
  have hv1 := k.v1_ge
  rw [Nat.le_div_iff_mul_le (by omega)]
  have h1 : U / D * D ≤ U := Nat.div_mul_le_self _ _
  have h2 : v1 * 4294967296 * P ≤ D := by
    rw [k.d, Nat.add_mul]; omega
  have h3 : U / D * (v1 * 4294967296 * P) ≤ U := Nat.le_trans (Nat.mul_le_mul_left _ h2) h1
  have hP : 0 < P := Nat.lt_of_le_of_lt (Nat.zero_le _) k.ul_lt
  have h4 : U < (head + 1) * (4294967296 * P) := by
    rw [k.u]
    have a := k.ul_lt
    have b : (head * 4294967296 + u2 + 1) * P ≤ (head * 4294967296 + 4294967296) * P := Nat.mul_le_mul_right P (by have := k.u2_lt; omega)
    rw [Nat.succ_mul] at b
    have c : (head * 4294967296 + 4294967296) * P = (head + 1) * (4294967296 * P) := by rw [← Nat.mul_assoc, Nat.add_mul head 1, Nat.one_mul]
    omega
  have h5 : U / D * v1 * (4294967296 * P) < (head + 1) * (4294967296 * P) := by
    have : U / D * v1 * (4294967296 * P) = U / D * (v1 * 4294967296 * P) := by ac_rfl
    omega
  have h6 := Nat.lt_of_mul_lt_mul_right h5
  omega
theorem high (k : KD U D P head u2 ul v1 v2 dl) (hh : head = g * v1 + r) (hg : r * 4294967296 + u2 < g * v2) : U / D < g := by
  rw [Nat.div_lt_iff_lt_mul k.dpos]
  have := kd_high (P := P) (dl := dl) (ul := ul) hh k.ul_lt hg
  rw [← k.u, ← k.d] at this
  exact this
theorem rest (k : KD U D P head u2 ul v1 v2 dl) (hh : head = g * v1 + r) (hr : 4294967296 ≤ r) (hq : U / D ≤ g) : g < 4294967296 ∧ g = U / D := by
  have h1 := kd_word hh hr k.head_lt
  refine ⟨h1, ?_⟩
  have := kd_rest (P := P) (ul := ul) (u2 := u2) hh k.dl_lt k.v2_lt hr h1
  rw [← k.u, ← k.d] at this
  have := (Nat.le_div_iff_mul_le k.dpos).2 this
  omega
theorem one (k : KD U D P head u2 ul v1 v2 dl) (hh : head = g * v1 + r) (hg : g * v2 ≤ r * 4294967296 + u2) (hgB : g < 4294967296) : g ≤ U / D + 1 := by
  have := kd_one (P := P) (dl := dl) (ul := ul) hh k.dl_lt (by have := k.v1_ge; omega) hg hgB
  rw [← k.u, ← k.d] at this
  have h2 : g < U / D + 2 := by
    rcases Nat.lt_or_ge g (U / D + 2) with h | h
    · exact h
    · have h3 := Nat.mul_le_mul_right D h
      have h4 := Nat.lt_div_mul_add k.dpos (a := U)
      have h5 : (U / D + 2) * D = U / D * D + D + D := by rw [Nat.add_mul]; omega
      omega
  omega
end KD

/-- the numbers of which a digit is guessed: x's words from i on, i + n the highest -/
theorem kd_of {x D i m : Nat} (hx : x < D * 4294967296 ^ (i + 1)) (hD : D < 4294967296 ^ (m + 2)) (ht : 2147483648 ≤ dg D (m + 1)) :
    KD (x / 4294967296 ^ i) D (4294967296 ^ m) (dg x (i + m + 2) * 4294967296 + dg x (i + m + 1)) (dg x (i + m)) (x / 4294967296 ^ i % 4294967296 ^ m) (dg D (m + 1)) (dg D m) (D % 4294967296 ^ m) := by
  have hlt : x / 4294967296 ^ i < D * 4294967296 := by
    rw [Nat.div_lt_iff_lt_mul (pow_pos' i), Nat.mul_assoc, Nat.mul_comm 4294967296, ← Nat.pow_succ]; exact hx
  have hU : x / 4294967296 ^ i < 4294967296 ^ (m + 3) := by
    refine Nat.lt_trans hlt ?_
    rw [show m + 3 = m + 2 + 1 from rfl, Nat.pow_succ]
    exact Nat.mul_lt_mul_of_pos_right hD (by omega)
  refine ⟨?_, Nat.mod_lt _ (pow_pos' m), top2 hD, Nat.mod_lt _ (pow_pos' m), dg_lt _ _, dg_lt _ _, ht, dg_lt _ _, hlt⟩
  have := top3 hU
  rw [dg_div, dg_div, dg_div] at this
  exact this

/-- a round of the loop that subtracts a multiple -/
theorem take_round {V V' i j g D X old c b s lo hi nb new : Nat}
    (hV : V + 4294967296 ^ i * (g * (D % 4294967296 ^ j)) = X + 4294967296 ^ (i + j) * (c + b))
    (hV' : V' + 4294967296 ^ (i + j) * old = V + 4294967296 ^ (i + j) * new)
    (hs : s = g * dg D j + c) (hlo : lo = s % 4294967296) (hhi : hi = s / 4294967296)
    (hnew : new + lo + b = old + 4294967296 * nb) :
    V' + 4294967296 ^ i * (g * (D % 4294967296 ^ (j + 1))) = X + 4294967296 ^ (i + (j + 1)) * (hi + nb) := by
  rw [mod_succ]
  have e1 : 4294967296 ^ (i + (j + 1)) * (hi + nb) = 4294967296 ^ (i + j) * (4294967296 * hi) + 4294967296 ^ (i + j) * (4294967296 * nb) := by
    rw [← Nat.add_assoc, Nat.pow_succ, Nat.mul_assoc, Nat.mul_add, Nat.mul_add]
  have e2 : 4294967296 ^ i * (g * (D % 4294967296 ^ j + 4294967296 ^ j * dg D j)) = 4294967296 ^ i * (g * (D % 4294967296 ^ j)) + 4294967296 ^ (i + j) * (g * dg D j) := by
    rw [Nat.mul_add, Nat.mul_add, Nat.pow_add]
    congr 1
    rw [Nat.mul_left_comm g, Nat.mul_assoc]
  have e3 : 4294967296 ^ (i + j) * lo + 4294967296 ^ (i + j) * (4294967296 * hi) = 4294967296 ^ (i + j) * (g * dg D j) + 4294967296 ^ (i + j) * c := by
    rw [← Nat.mul_add, ← Nat.mul_add, ← hs, hlo, hhi, Nat.mod_add_div]
  have e4 : 4294967296 ^ (i + j) * new + 4294967296 ^ (i + j) * lo + 4294967296 ^ (i + j) * b = 4294967296 ^ (i + j) * old + 4294967296 ^ (i + j) * (4294967296 * nb) := by
    rw [← Nat.mul_add, ← Nat.mul_add, ← Nat.mul_add, hnew]
  rw [Nat.mul_add] at hV
  omega

/-- the round of the highest word -/
theorem take_last {V V' X Y p old c b nb new : Nat} (hV : V + Y = X + p * (c + b)) (hV' : V' + p * old = V + p * new) (hnew : new + c + b = old + 4294967296 * nb) :
    V' + Y = X + p * 4294967296 * nb := by
  have e4 : p * new + p * c + p * b = p * old + p * (4294967296 * nb) := by
    rw [← Nat.mul_add, ← Nat.mul_add, ← Nat.mul_add, hnew]
  rw [← Nat.mul_assoc] at e4
  rw [Nat.mul_add] at hV
  omega

/-- a round of the loop that adds back -/
theorem back_round {V V' i j D X old c s new nc : Nat}
    (hV : V + 4294967296 ^ (i + j) * c = X + 4294967296 ^ i * (D % 4294967296 ^ j))
    (hV' : V' + 4294967296 ^ (i + j) * old = V + 4294967296 ^ (i + j) * new)
    (hs : s = old + dg D j + c) (hlo : new = s % 4294967296) (hhi : nc = s / 4294967296) :
    V' + 4294967296 ^ (i + (j + 1)) * nc = X + 4294967296 ^ i * (D % 4294967296 ^ (j + 1)) := by
  rw [mod_succ]
  have e1 : 4294967296 ^ (i + (j + 1)) * nc = 4294967296 ^ (i + j) * (4294967296 * nc) := by rw [← Nat.add_assoc, Nat.pow_succ, Nat.mul_assoc]
  have e2 : 4294967296 ^ i * (D % 4294967296 ^ j + 4294967296 ^ j * dg D j) = 4294967296 ^ i * (D % 4294967296 ^ j) + 4294967296 ^ (i + j) * dg D j := by
    rw [Nat.mul_add, Nat.pow_add, Nat.mul_assoc]
  have e3 : 4294967296 ^ (i + j) * new + 4294967296 ^ (i + j) * (4294967296 * nc) = 4294967296 ^ (i + j) * old + 4294967296 ^ (i + j) * dg D j + 4294967296 ^ (i + j) * c := by
    rw [← Nat.mul_add, ← Nat.mul_add, ← Nat.mul_add, ← hs, hlo, hhi, Nat.mod_add_div]
  omega

theorem val_small {l : List Nat} {k : Nat} (ho : Ok l) (hz : ∀ p, k ≤ p → l.getD p 0 = 0) : val l < 4294967296 ^ k := by
  rw [take_norm (l := l) (n := k) (fun j h _ => hz j h)]
  have h1 := val_lt (ho.take k)
  exact Nat.lt_of_lt_of_le h1 (Nat.pow_le_pow_right (by omega) (by rw [List.length_take]; omega))

theorem words_zero {l : List Nat} {k : Nat} (ho : Ok l) (h : val l < 4294967296 ^ k) (p : Nat) (hp : k ≤ p) : l.getD p 0 = 0 := by
  rw [val_dg ho]
  exact dg_ge (Nat.lt_of_lt_of_le h (Nat.pow_le_pow_right (by omega) hp))

/-- the guess was right -/
theorem take_done {V X D g i : Nat} (hD : 0 < D) (h : V + 4294967296 ^ i * (g * D) = X) (hq : X / 4294967296 ^ i / D ≤ g) : g = X / 4294967296 ^ i / D := by
  have h1 : g * D ≤ X / 4294967296 ^ i := by
    rw [Nat.le_div_iff_mul_le (pow_pos' i), Nat.mul_comm]; omega
  have h2 := (Nat.le_div_iff_mul_le hD).2 h1
  omega

/-- the guess was one too high -/
theorem take_high {V X D g i n : Nat} (h : V + 4294967296 ^ i * (g * D) = X + 4294967296 ^ (i + n + 1)) (hV : V < 4294967296 ^ (i + n + 1)) (hD : 0 < D) (hq : g ≤ X / 4294967296 ^ i / D + 1) :
    g = X / 4294967296 ^ i / D + 1 := by
  have h1 : X < 4294967296 ^ i * (g * D) := by omega
  have h2 : X / 4294967296 ^ i / D < g := by
    rw [Nat.div_lt_iff_lt_mul hD, Nat.div_lt_iff_lt_mul (pow_pos' i), Nat.mul_comm]; exact h1
  omega

/-- adding back ends with the rest -/
theorem back_done {V X D g q i n M c : Nat} (h : V + 4294967296 ^ i * (g * D) = X + 4294967296 ^ (i + n + 1)) (hg : g = q + 1) (hq : q = X / 4294967296 ^ i / D)
    (hM : M + 4294967296 ^ (i + n + 1) * c = V + 4294967296 ^ i * D) (hc : c ≤ 1) (hMl : M < 4294967296 ^ (i + n + 1)) : M + 4294967296 ^ i * (q * D) = X := by
  have e : 4294967296 ^ i * (g * D) = 4294967296 ^ i * (q * D) + 4294967296 ^ i * D := by rw [hg, Nat.succ_mul, Nat.mul_add]
  have hle : 4294967296 ^ i * (q * D) ≤ X := by
    have h1 : q * D ≤ X / 4294967296 ^ i := by rw [hq]; exact Nat.div_mul_le_self _ _
    have := Nat.mul_le_mul_left (4294967296 ^ i) h1
    exact Nat.le_trans this (Nat.mul_div_le _ _)
  rcases (by omega : c = 0 ∨ c = 1) with rfl | rfl
  · omega
  · omega

/-- the numbers fall below the divisor's multiple -/
theorem part_lt {X V D q i : Nat} (h : V + 4294967296 ^ i * (q * D) = X) (hq : q = X / 4294967296 ^ i / D) (hD : 0 < D) : V < D * 4294967296 ^ i := by
  have h1 : X / 4294967296 ^ i < q * D + D := by rw [hq]; exact Nat.lt_div_mul_add hD
  have h2 : X < (q * D + D) * 4294967296 ^ i := by
    rw [← Nat.div_lt_iff_lt_mul (pow_pos' i)]; exact h1
  rw [Nat.add_mul, Nat.mul_comm (q * D)] at h2
  omega

end Go.Proofs.YtmlopkkbgpfdnabGreat
namespace Go.Proofs.YtmlopkkbgpfdnabGreat

theorem val_of_dgs {l : List Nat} {y : Nat} (h : ∀ j, j < l.length → l.getD j 0 = dg y j) (hy : y < 4294967296 ^ l.length) : val l = y := by
  have key : ∀ k, k ≤ l.length → val (l.take k) = y % 4294967296 ^ k := by
    intro k
    induction k with
    | zero => intro _; simp [val, Nat.mod_one]
    | succ k ih =>
      intro hk
      rw [val_take_succ (by omega), ih (by omega), mod_succ, h k (by omega)]
  have := key l.length (Nat.le_refl _)
  rw [List.take_of_length_le (Nat.le_refl _), Nat.mod_eq_of_lt hy] at this
  exact this

theorem div_mod_word (x b k : Nat) : x / b / 4294967296 ^ k % 4294967296 = x / 4294967296 ^ k / b % 4294967296 := by
  rw [Nat.div_div_eq_div_mul, Nat.mul_comm, ← Nat.div_div_eq_div_mul]

/-- a word of a quotient, from the rest of the words above it -/
theorem quo_word {x b k r z : Nat} (hb : 0 < b) (hr : r = x / 4294967296 ^ (k + 1) % b) (hz : z = r * 4294967296 + dg x k) :
    dg (x / b) k = z / b ∧ x / 4294967296 ^ k % b = z % b ∧ z / b < 4294967296 := by
  have hs := div_step x k
  obtain ⟨y, hy⟩ : ∃ y, y = x / 4294967296 ^ (k + 1) := ⟨_, rfl⟩
  rw [← hy] at hs hr
  have e : x / 4294967296 ^ k = z + b * (4294967296 * (y / b)) := by
    have h1 : y = b * (y / b) + r := by rw [hr]; exact (Nat.div_add_mod y b).symm
    have h2 : b * (4294967296 * (y / b)) = 4294967296 * (b * (y / b)) := Nat.mul_left_comm _ _ _
    omega
  have hrb : r < b := by rw [hr]; exact Nat.mod_lt _ hb
  have hd := dg_lt x k
  have hzb : z / b < 4294967296 := by
    rw [Nat.div_lt_iff_lt_mul hb]
    have : (r + 1) * 4294967296 ≤ b * 4294967296 := Nat.mul_le_mul_right _ hrb
    rw [Nat.mul_comm 4294967296 b]
    omega
  refine ⟨?_, ?_, hzb⟩
  · unfold dg
    rw [div_mod_word, e, Nat.add_mul_div_left _ _ hb, Nat.add_mul_mod_self_left, Nat.mod_eq_of_lt hzb]
  · rw [e, Nat.add_mul_mod_self_left]

theorem shl_parts {c e : Nat} (h : c * e = 4294967296) : 0 < c ∧ 0 < e := by
  constructor
  · rcases Nat.eq_zero_or_pos c with h0 | h0
    · subst h0; simp at h
    · exact h0
  · rcases Nat.eq_zero_or_pos e with h0 | h0
    · subst h0; simp at h
    · exact h0

/-- a multiple of c below B, and less than c more -/
theorem mul_mod_lt {c e z : Nat} (h : c * e = 4294967296) : z * c % 4294967296 = (z % e) * c ∧ (z % e) * c + c ≤ 4294967296 := by
  obtain ⟨hc, he⟩ := shl_parts h
  constructor
  · rw [← h, Nat.mul_comm z c, Nat.mul_mod_mul_left, Nat.mul_comm]
  · have : (z % e + 1) * c ≤ e * c := Nat.mul_le_mul_right c (Nat.mod_lt _ he)
    rw [Nat.succ_mul, Nat.mul_comm e c, h] at this
    exact this

theorem mul_mod_word {c x : Nat} : x * c % 4294967296 = (x % 4294967296) * c % 4294967296 := by
  rw [Nat.mul_mod, Nat.mul_mod (x % 4294967296) c, Nat.mod_mod x]

theorem dg_shl0 (x c : Nat) : dg (x * c) 0 = dg x 0 * c % 4294967296 := by
  simp only [dg, Nat.pow_zero, Nat.div_one]; exact mul_mod_word

theorem dg_shl {x k c e : Nat} (h : c * e = 4294967296) : dg (x * c) (k + 1) = dg x (k + 1) * c % 4294967296 + dg x k / e ∧ dg x k / e < c := by
  obtain ⟨hc, he⟩ := shl_parts h
  have hd := dg_lt x k
  have hde : dg x k / e < c := by rw [Nat.div_lt_iff_lt_mul he, h]; exact hd
  refine ⟨?_, hde⟩
  obtain ⟨P, hP⟩ : ∃ P, P = 4294967296 ^ k := ⟨_, rfl⟩
  have hP0 : 0 < P := by rw [hP]; exact pow_pos' k
  obtain ⟨t, ht⟩ : ∃ t, t = x % P * c / P := ⟨_, rfl⟩
  have htc : t < c := by
    rw [ht, Nat.div_lt_iff_lt_mul hP0, Nat.mul_comm c]
    exact Nat.mul_lt_mul_of_pos_right (Nat.mod_lt _ hP0) hc
  have h1 : x * c / P = x / P * c + t := by
    have e1 : x * c = x % P * c + P * (x / P * c) := by
      conv => lhs; rw [← Nat.mod_add_div x P]
      rw [Nat.add_mul, Nat.mul_assoc]
    rw [e1, Nat.add_mul_div_left _ _ hP0, ← ht, Nat.add_comm]
  have h2 : x / P = 4294967296 * (x / 4294967296 ^ (k + 1)) + dg x k := by rw [hP]; exact div_step x k
  obtain ⟨z, hz⟩ : ∃ z, z = x / 4294967296 ^ (k + 1) := ⟨_, rfl⟩
  rw [← hz] at h2
  have h3 : x * c / 4294967296 ^ (k + 1) = z * c + dg x k / e := by
    rw [Nat.pow_succ, ← hP, ← Nat.div_div_eq_div_mul, h1, h2, Nat.add_mul]
    have e2 : 4294967296 * z * c + dg x k * c + t = (dg x k * c + t) + 4294967296 * (z * c) := by rw [Nat.mul_assoc]; omega
    rw [e2, Nat.add_mul_div_left _ _ (by omega : 0 < 4294967296), Nat.add_comm]
    congr 1
    rw [← h, ← Nat.div_div_eq_div_mul, Nat.mul_comm (dg x k), Nat.mul_add_div hc, Nat.div_eq_of_lt htc, Nat.add_zero]
  have h4 : dg (x * c) (k + 1) = (z * c + dg x k / e) % 4294967296 := by unfold dg at h3 ⊢; rw [h3]
  have h5 : dg x (k + 1) = z % 4294967296 := by unfold dg; rw [hz]
  rw [h4, h5, ← mul_mod_word]
  obtain ⟨m1, m2⟩ := mul_mod_lt (z := z) h
  rw [Nat.add_mod, m1, Nat.mod_eq_of_lt (a := dg x k / e) (by omega), Nat.mod_eq_of_lt]
  omega

theorem dg_shr {x k c e : Nat} (h : c * e = 4294967296) : dg (x / c) k = dg x k / c + dg x (k + 1) * e % 4294967296 ∧ dg x k / c < e := by
  obtain ⟨hc, he⟩ := shl_parts h
  have hd := dg_lt x k
  have h' : e * c = 4294967296 := by rw [Nat.mul_comm]; exact h
  have hde : dg x k / c < e := by rw [Nat.div_lt_iff_lt_mul hc, h']; exact hd
  refine ⟨?_, hde⟩
  have h2 := div_step x k
  obtain ⟨z, hz⟩ : ∃ z, z = x / 4294967296 ^ (k + 1) := ⟨_, rfl⟩
  rw [← hz] at h2
  have h5 : dg x (k + 1) = z % 4294967296 := by unfold dg; rw [hz]
  have h3 : x / 4294967296 ^ k / c = z * e + dg x k / c := by
    rw [h2]
    have e2 : 4294967296 * z + dg x k = dg x k + c * (z * e) := by
      rw [← h]
      have : c * e * z = c * (z * e) := by ac_rfl
      omega
    rw [e2, Nat.add_mul_div_left _ _ hc, Nat.add_comm]
  have h4 : dg (x / c) k = (z * e + dg x k / c) % 4294967296 := by
    show x / c / 4294967296 ^ k % 4294967296 = _
    rw [div_mod_word, h3]
  rw [h4, h5, ← mul_mod_word]
  obtain ⟨m1, m2⟩ := mul_mod_lt (z := z) h'
  rw [Nat.add_mod, m1, Nat.mod_eq_of_lt (a := dg x k / c) (by omega), Nat.mod_eq_of_lt, Nat.add_comm]
  omega

/-- the whole division -/
theorem div_end {x y c V Q : Nat} (hc : 0 < c) (hy : 0 < y) (h : x * c = V + y * c * Q) (hV : V < y * c) : Q = x / y ∧ V / c = x % y := by
  have h1 : V % c = 0 := by
    have : V = x * c - y * c * Q := by omega
    rw [this]
    have : y * c * Q = y * Q * c := by ac_rfl
    rw [this, ← Nat.sub_mul]; exact Nat.mul_mod_left _ _
  have h2 : V = V / c * c := by have := Nat.div_add_mod V c; rw [h1, Nat.mul_comm] at this; omega
  have h3 : x = V / c + y * Q := by
    have : x * c = (V / c + y * Q) * c := by
      rw [Nat.add_mul, ← h2, h]
      congr 1
      ac_rfl
    exact Nat.eq_of_mul_eq_mul_right hc this
  have h4 : V / c < y := by rw [Nat.div_lt_iff_lt_mul hc]; exact hV
  constructor
  · rw [h3, Nat.add_mul_div_left _ _ hy, Nat.div_eq_of_lt h4]; omega
  · conv => rhs; rw [h3]
    rw [Nat.add_mul_mod_self_left, Nat.mod_eq_of_lt h4]

end Go.Proofs.YtmlopkkbgpfdnabGreat
namespace Go.Proofs.YtmlopkkbgpfdnabGreat
open Go.RowKit

theorem word_prev (v : Value) (x k : Nat) (w : World) (hv : Wd w v (dig x)) :
    Calls Tryz.prog 146 #[v, .int .i64 ((k : Int) - 1)] w fun e w' => e = .returned (.int .u32 ((if k = 0 then 0 else dg x (k - 1) : Nat) : Int)) ∧ w = w' := by
  refine (word_any v _ _ w hv).mono ?_
  rintro e w' ⟨rfl, rfl⟩
  refine ⟨?_, rfl⟩
  by_cases h : k = 0
  · subst h; rfl
  · rw [if_neg (by omega), if_neg h, show ((k : Int) - 1).toNat = k - 1 from by omega, dig_dg]

theorem two_parts {s : Nat} (hs : s ≤ 31) : 2 ^ s * 2 ^ (32 - s) = 4294967296 := by
  rw [← Nat.pow_add, show s + (32 - s) = 32 from by omega]

theorem cast_shl (p s : Nat) : (p : Int) * 2 ^ s % 4294967296 = ((p * 2 ^ s % 4294967296 : Nat) : Int) := by
  rw [Int.natCast_emod, Int.natCast_mul, Int.natCast_pow]; rfl
theorem cast_shr (p s : Nat) : (p : Int) / 2 ^ s = ((p / 2 ^ s : Nat) : Int) := by
  rw [Int.natCast_ediv, Int.natCast_pow]; rfl

theorem or_up {p q s : Nat} (hq : q < 4294967296) (hs : s ≤ 31) : bits BinOp.or IntKind.u32 ((p : Int) * 2 ^ s % 4294967296) ((q : Int) / 2 ^ (32 - s)) = ((p * 2 ^ s % 4294967296 + q / 2 ^ (32 - s) : Nat) : Int) := by
  have h := two_parts hs
  obtain ⟨h1, h2⟩ := mul_mod_lt (z := p) h
  have h3 : q / 2 ^ (32 - s) < 2 ^ s := by rw [Nat.div_lt_iff_lt_mul (shl_parts h).2, h]; exact hq
  rw [cast_shl, cast_shr, u32_or_nat _ _ (by omega) (by omega), nat_join s _ _ (by rw [h1]; exact Nat.mul_mod_left _ _) h3]

theorem or_down {p q s : Nat} (hp : p < 4294967296) (hs : s ≤ 31) : bits BinOp.or IntKind.u32 ((p : Int) / 2 ^ s) ((q : Int) * 2 ^ (32 - s) % 4294967296) = ((p / 2 ^ s + q * 2 ^ (32 - s) % 4294967296 : Nat) : Int) := by
  have h' := two_parts hs
  have h : 2 ^ (32 - s) * 2 ^ s = 4294967296 := by rw [Nat.mul_comm]; exact h'
  obtain ⟨h1, h2⟩ := mul_mod_lt (z := q) h
  have h3 : p / 2 ^ s < 2 ^ (32 - s) := by rw [Nat.div_lt_iff_lt_mul (shl_parts h).2, h]; exact hp
  rw [cast_shl, cast_shr, u32_or_nat _ _ (by omega) (by omega), Nat.or_comm, nat_join (32 - s) _ _ (by rw [h1]; exact Nat.mul_mod_left _ _) h3, Nat.add_comm]

theorem up_word {x s k p q : Nat} (hp : p = dg x k) (hq : q = (if k = 0 then 0 else dg x (k - 1))) (hs : s ≤ 31) : p * 2 ^ s % 4294967296 + q / 2 ^ (32 - s) = dg (x * 2 ^ s) k := by
  cases k with
  | zero => rw [hp, hq, dg_shl0]; simp
  | succ k => rw [hp, hq, (dg_shl (two_parts hs)).1]; simp
theorem down_word {x s k p q : Nat} (hp : p = dg x k) (hq : q = dg x (k + 1)) (hs : s ≤ 31) : p / 2 ^ s + q * 2 ^ (32 - s) % 4294967296 = dg (x / 2 ^ s) k := by
  rw [hp, hq, (dg_shr (two_parts hs)).1]

theorem shl_lt {x s n : Nat} (h : (dig x).length ≤ n) (hs : s ≤ 31) : x * 2 ^ s < 4294967296 ^ (n + 1) := by
  have h1 := lt_of_dig_len h
  have h2 : 2 ^ s ≤ 4294967296 := by
    have h3 : 2 ^ s ≤ 2 ^ 32 := Nat.pow_le_pow_right (by omega) (by omega)
    exact Nat.le_trans h3 (by decide)
  rw [Nat.pow_succ]
  exact Nat.lt_of_lt_of_le (Nat.mul_lt_mul_of_pos_right h1 (Nat.pow_pos (by omega))) (Nat.mul_le_mul_left _ h2)

theorem set_words {L : List Nat} {y k v : Nat} (hk : k < L.length) (h : ∀ j, j < k → L.getD j 0 = dg y j) (hv : v = dg y k) : ∀ j, j < k + 1 → (L.set k v).getD j 0 = dg y j := by
  intro j hj
  by_cases e : j = k
  · subst e; rw [getD_set_self hk]; exact hv
  · rw [getD_set_ne (by omega)]; exact h j (by omega)

set_option maxRecDepth 100000 in
theorem shiftedUp_any (x s : Nat) (u : Value) (w : World) (hx : Wd w u (dig x)) (lx : (dig x).length ≤ 1000000) (hs : s ≤ 31) :
    Calls Tryz.prog 158 #[u, .int .i64 (s : Int)] w fun e w' => ∃ g L, e = .returned (.slice (some ⟨g, 0, none⟩) ((dig x).length + 1) ((dig x).length + 1)) ∧ w.heap.size ≤ g ∧ Blk w' g L ∧ Ok L ∧ L.length = (dig x).length + 1 ∧ val L = x * 2 ^ s ∧ Below w.heap.size w w' := by
  have Hx := Lib.hid hx
  obtain ⟨A, c, rfl, -, -⟩ := hx.shape
  obtain ⟨n, hn⟩ : ∃ n, n = (dig x).length := ⟨_, rfl⟩
  rw [← hn] at lx Hx ⊢
  have Hn := Lib.hid hn; clear hn hx
  have hmk : ∀ w, (Instr.makeSlice 68 (.int .i64 ((n : Int) + 1)) (.int .i64 ((n : Int) + 1))).run Tryz.prog w = .ok (.slice (some ⟨w.heap.size, 0, none⟩) (n + 1) (n + 1)) (w.alloc (.cells (U32s (zeros (n + 1))) 75)) := fun w => make_u32 68 Tryz.underlying68 (n + 1) (by omega) w
  go_enter Tryz.func158, Tryz.ntmps158
  go_wp2_with fail
  go_loopw [13] (fun i wr => ∃ (k : Nat) (L : List Nat), i = .int .i64 k ∧ k ≤ (n + 1) ∧ L.length = (n + 1) ∧ Ok L ∧ Blk wr w.heap.size L ∧ Below w.heap.size w wr ∧
      ∀ j, j < k → L.getD j 0 = dg (x * 2 ^ s) j) (fun i _ => (n + 1) - (intOf i).toNat)
  case atStart => exact ⟨0, zeros (n + 1), rfl, Nat.zero_le _, zeros_length _, zeros_ok _, heap_alloc_new w _, below_alloc _ _, fun j h => absurd h (by omega)⟩
  case round =>
    obtain ⟨k, L, rfl, hk, hL, hok, hblk, hbel, hval⟩ := hrel
    have HV := Lib.hid hval; clear hval
    have HL := Lib.hid hL; clear hL
    have HX : Wd wr (.slice A n c) (dig x) := Hx.out.below hbel
    by_cases hlt : k < (n + 1)
    · have hfr := hblk.frozen k
      have hce := hblk.cell (i := k) (by rw [HL.out]; omega)
      have hB := Lib.hid hblk; clear hblk
      obtain ⟨p, hp⟩ : ∃ p, p = dg x k := ⟨_, rfl⟩
      obtain ⟨q, hq⟩ : ∃ q, q = (if k = 0 then 0 else dg x (k - 1)) := ⟨_, rfl⟩
      have hpl : p < 4294967296 := by rw [hp]; exact dg_lt _ _
      have hql : q < 4294967296 := by rw [hq]; split; omega; exact dg_lt _ _
      have w1 : ∀ w : World, Wd w (.slice A n c) (dig x) → Calls Tryz.prog 146 #[.slice A n c, .int .i64 k] w fun e w' => e = .returned (.int .u32 p) ∧ w = w' := fun w h => by rw [hp]; exact word_dig _ x k w h
      have w2 : ∀ w : World, Wd w (.slice A n c) (dig x) → Calls Tryz.prog 146 #[.slice A n c, .int .i64 ((k : Int) - 1)] w fun e w' => e = .returned (.int .u32 q) ∧ w = w' := fun w h => by rw [hq]; exact word_prev _ x k w h
      have HW1 := Lib.hid w1; clear w1
      have HW2 := Lib.hid w2; clear w2
      obtain ⟨v, hv⟩ : ∃ v, v = dg (x * 2 ^ s) k := ⟨_, rfl⟩
      have Hv := Lib.hid hv
      have hvl : v < 4294967296 := by rw [hv]; exact dg_lt _ _
      have hor := or_up (p := p) hql hs
      rw [up_word hp hq hs, ← hv] at hor
      have Hor := Lib.hid hor; clear hor hv
      have Hp := Lib.hid hp; clear hp
      have Hq := Lib.hid hq; clear hq
      have tk0 : True := trivial
      go_wp2_with fail
      have i1 : IntKind.i64.wrap ((k : Int) - 1) = ((k : Int) - 1) := IntWalk.i64_in _ (by omega)
      have i2 : IntKind.i64.wrap (32 - (s : Int)) = 32 - (s : Int) := IntWalk.i64_in _ (by omega)
      have i3 : (32 - (s : Int)).toNat = 32 - s := by omega
      have i4 : 0 ≤ 32 - (s : Int) := by omega
      go_region_with (first
        | (go_at_call 146; have _t := tk0; refine (HW1.out _ (by exact HX)).mono ?_; rintro e w' ⟨rfl, rfl⟩; clear tk0)
        | (go_at_call 146; refine (HW2.out _ (by exact HX)).mono ?_; rintro e w' ⟨rfl, rfl⟩))
      all_goals clear i1 i2 i3 i4
      all_goals go_wp2
      all_goals rw [Hor.out]
      all_goals
        go_roundw
        case rel => exact ⟨k + 1, L.set k v, by go_num, by omega, by rw [List.length_set, HL.out], hok.set hvl, (hB.out.set_ k v).drew, (hbel.setCell (Nat.le_refl _) _).drew, set_words (by rw [HL.out]; omega) HV.out Hv.out⟩
        case measure => simp [intOf]; omega
    · have hkn : k = (n + 1) := by omega
      subst hkn
      have hv : val L = x * 2 ^ s := val_of_dgs (fun j hj => HV.out j (by rw [← HL.out]; exact hj)) (by rw [HL.out]; exact shl_lt (by rw [← Hn.out]; omega) hs)
      have Hv := Lib.hid hv; clear hv
      go_wp2
      go_ret
      exact ⟨w.heap.size, L, rfl, Nat.le_refl _, hblk, hok, HL.out, Hv.out, hbel⟩

set_option maxRecDepth 100000 in
theorem shiftedDown_any (x s : Nat) (u : Value) (w : World) (hx : Wd w u (dig x)) (lx : (dig x).length ≤ 1000000) (hs : s ≤ 31) :
    Calls Tryz.prog 160 #[u, .int .i64 (s : Int)] w fun e w' => ∃ r, e = .returned r ∧ Wd w' r (dig (x / 2 ^ s)) ∧ Below w.heap.size w w' := by
  have Hx := Lib.hid hx
  obtain ⟨A, c, rfl, -, -⟩ := hx.shape
  obtain ⟨n, hn⟩ : ∃ n, n = (dig x).length := ⟨_, rfl⟩
  rw [← hn] at lx Hx ⊢
  have Hn := Lib.hid hn; clear hn hx
  have hmk : ∀ w, (Instr.makeSlice 68 (.int .i64 (n : Int)) (.int .i64 (n : Int))).run Tryz.prog w = .ok (.slice (some ⟨w.heap.size, 0, none⟩) n n) (w.alloc (.cells (U32s (zeros n)) 75)) := fun w => make_u32 68 Tryz.underlying68 n (by omega) w
  go_enter Tryz.func160, Tryz.ntmps160
  go_wp2_with fail
  go_loopw [12] (fun i wr => ∃ (k : Nat) (L : List Nat), i = .int .i64 k ∧ k ≤ n ∧ L.length = n ∧ Ok L ∧ Blk wr w.heap.size L ∧ Below w.heap.size w wr ∧
      ∀ j, j < k → L.getD j 0 = dg (x / 2 ^ s) j) (fun i _ => n - (intOf i).toNat)
  case atStart => exact ⟨0, zeros n, rfl, Nat.zero_le _, zeros_length _, zeros_ok _, heap_alloc_new w _, below_alloc _ _, fun j h => absurd h (by omega)⟩
  case round =>
    obtain ⟨k, L, rfl, hk, hL, hok, hblk, hbel, hval⟩ := hrel
    have HV := Lib.hid hval; clear hval
    have HL := Lib.hid hL; clear hL
    have HX : Wd wr (.slice A n c) (dig x) := Hx.out.below hbel
    by_cases hlt : k < n
    · have hfr := hblk.frozen k
      have hce := hblk.cell (i := k) (by rw [HL.out]; omega)
      have hB := Lib.hid hblk; clear hblk
      obtain ⟨p, hp⟩ : ∃ p, p = dg x k := ⟨_, rfl⟩
      obtain ⟨q, hq⟩ : ∃ q, q = dg x (k + 1) := ⟨_, rfl⟩
      have hpl : p < 4294967296 := by rw [hp]; exact dg_lt _ _
      have hql : q < 4294967296 := by rw [hq]; exact dg_lt _ _
      have w1 : ∀ w : World, Wd w (.slice A n c) (dig x) → Calls Tryz.prog 146 #[.slice A n c, .int .i64 k] w fun e w' => e = .returned (.int .u32 p) ∧ w = w' := fun w h => by rw [hp]; exact word_dig _ x k w h
      have w2 : ∀ w : World, Wd w (.slice A n c) (dig x) → Calls Tryz.prog 146 #[.slice A n c, .int .i64 ((k : Int) + 1)] w fun e w' => e = .returned (.int .u32 q) ∧ w = w' := fun w h => by rw [hq]; exact word_dig _ x (k + 1) w h
      have HW1 := Lib.hid w1; clear w1
      have HW2 := Lib.hid w2; clear w2
      obtain ⟨v, hv⟩ : ∃ v, v = dg (x / 2 ^ s) k := ⟨_, rfl⟩
      have Hv := Lib.hid hv
      have hvl : v < 4294967296 := by rw [hv]; exact dg_lt _ _
      have hor := or_down (q := q) hpl hs
      rw [down_word hp hq hs, ← hv] at hor
      have Hor := Lib.hid hor; clear hor hv
      have Hp := Lib.hid hp; clear hp
      have Hq := Lib.hid hq; clear hq
      have tk0 : True := trivial
      go_wp2_with fail
      have i1 : IntKind.i64.wrap ((k : Int) + 1) = ((k : Int) + 1) := IntWalk.i64_in _ (by omega)
      have i2 : IntKind.i64.wrap (32 - (s : Int)) = 32 - (s : Int) := IntWalk.i64_in _ (by omega)
      have i3 : (32 - (s : Int)).toNat = 32 - s := by omega
      have i4 : 0 ≤ 32 - (s : Int) := by omega
      go_region_with (first
        | (go_at_call 146; have _t := tk0; refine (HW1.out _ (by exact HX)).mono ?_; rintro e w' ⟨rfl, rfl⟩; clear tk0)
        | (go_at_call 146; refine (HW2.out _ (by exact HX)).mono ?_; rintro e w' ⟨rfl, rfl⟩))
      all_goals clear i1 i2 i3 i4
      all_goals go_wp2
      all_goals rw [Hor.out]
      all_goals
        go_roundw
        case rel => exact ⟨k + 1, L.set k v, by go_num, by omega, by rw [List.length_set, HL.out], hok.set hvl, (hB.out.set_ k v).drew, (hbel.setCell (Nat.le_refl _) _).drew, set_words (by rw [HL.out]; omega) HV.out Hv.out⟩
        case measure => simp [intOf]; omega
    · have hkn : k = n := by omega
      subst hkn
      have hv : val L = x / 2 ^ s := val_of_dgs (fun j hj => HV.out j (by rw [← HL.out]; exact hj)) (by rw [HL.out]; exact Nat.lt_of_le_of_lt (Nat.div_le_self _ _) (lt_of_dig_len (by rw [← Hn.out]; omega)))
      have hw2 := hblk.wd hok (by rw [HL.out]; omega) k (by rw [HL.out]; omega) (by omega)
      rw [HL.out] at hw2
      have Hv := Lib.hid hv; clear hv
      have Hw := Lib.hid hw2; clear hw2 hblk
      go_wp2_with fail
      refine (trimE_any _ _ _ Hw.out).mono ?_
      rintro e w' ⟨r, rfl, hr, rfl⟩
      rw [Hv.out] at hr
      go_wp2
      go_ret
      exact ⟨r, rfl, hr, hbel⟩

end Go.Proofs.YtmlopkkbgpfdnabGreat
namespace Go.Proofs.YtmlopkkbgpfdnabGreat
open Go.RowKit

theorem or_words {a b : Nat} (ha : a < 4294967296) (hb : b < 4294967296) : bits BinOp.or IntKind.u64 ((a : Int) * 4294967296) (b : Int) = ((a * 4294967296 + b : Nat) : Int) := by
  have e : ((a : Int) * 4294967296) = ((a * 4294967296 : Nat) : Int) := by omega
  rw [e, u64_or_nat _ _ (by omega) (by omega), nat_join 32 _ _ (by omega) (by omega)]

theorem quo_lt {a b y : Nat} (h : a < y) (hb : b < 4294967296) : (a * 4294967296 + b) / y < 4294967296 := by
  rw [Nat.div_lt_iff_lt_mul (by omega)]
  have : (a + 1) * 4294967296 ≤ y * 4294967296 := Nat.mul_le_mul_right _ h
  rw [Nat.mul_comm 4294967296 y]
  omega

set_option maxRecDepth 100000 in
theorem div32_any (a b y : Nat) (w : World) (ha : a < y) (hb : b < 4294967296) (hy : y < 4294967296) :
    Calls Tryz.prog 162 #[.int .u32 a, .int .u32 b, .int .u32 y] w fun e w' =>
      e = .returned (.tuple #[.int .u32 ((a * 4294967296 + b) / y : Nat), .int .u32 ((a * 4294967296 + b) % y : Nat)]) ∧ ∃ n, w' = w.drewN n := by
  have hor := or_words (a := a) (b := b) (by omega) hb
  have hq := quo_lt ha hb
  obtain ⟨z, hz⟩ : ∃ z, z = a * 4294967296 + b := ⟨_, rfl⟩
  rw [← hz] at hor hq ⊢
  have hzl : z < 18446744073709551616 := by omega
  have Hor := Lib.hid hor; clear hor hz
  have hr : z % y < 4294967296 := by have := Nat.mod_lt z (show 0 < y by omega); omega
  obtain ⟨q, hq'⟩ : ∃ q, q = z / y := ⟨_, rfl⟩
  obtain ⟨r, hr'⟩ : ∃ r, r = z % y := ⟨_, rfl⟩
  rw [← hq'] at hq ⊢
  rw [← hr'] at hr ⊢
  have e1 : (z : Int) / y = (q : Int) := by rw [hq']; omega
  have e2 : (z : Int) % y = (r : Int) := by rw [hr']; omega
  clear hq' hr'
  have e3 : IntKind.u64.wrap (q : Int) % 4294967296 = (q : Int) := by rw [IntKind.wrap_u64]; omega
  have e4 : (r : Int) % 4294967296 = (r : Int) := by omega
  have E3 := Lib.hid e3; clear e3
  have E4 := Lib.hid e4; clear e4
  have d1 : ((y : Int) != 0) = true := by simp; omega
  have d2 : ((y : Int) == 0) = false := by simp; omega
  have d3 : decide (y ≤ a) = false := by simp; omega
  have hy0 : (0 : Int) < y := by omega
  have hy1 : (1 : Int) ≤ y := by omega
  have hz0 : (0 : Int) ≤ z := by omega
  have E1 := Lib.hid e1; clear e1
  have E2 := Lib.hid e2; clear e2
  go_enter Tryz.func162, Tryz.ntmps162
  go_wp2_with fail
  rw [Hor.out]
  go_quiet (fail)
  rw [E1.out, E2.out, E3.out, E4.out]
  go_wp2
  go_ret2
  exact ⟨rfl, _, rfl⟩

set_option maxRecDepth 100000 in
/-- natural.divideWord -/
theorem divideWord_any (x y : Nat) (u : Value) (w : World) (hx : Wd w u (dig x)) (lx : (dig x).length ≤ 1000000) (hy0 : 0 < y) (hy : y < 4294967296) :
    Calls Tryz.prog 156 #[u, .int .u32 y] w fun e w' => ∃ r, e = .returned (.tuple #[r, .int .u32 (x % y : Nat)]) ∧ Wd w' r (dig (x / y)) ∧ Below w.heap.size w w' := by
  have Hx := Lib.hid hx
  obtain ⟨A, c, rfl, -, hcl⟩ := hx.shape
  obtain ⟨n, hn⟩ : ∃ n, n = (dig x).length := ⟨_, rfl⟩
  rw [← hn] at lx Hx ⊢
  have Hn := Lib.hid hn; clear hn hx
  have hmk : ∀ w, (Instr.makeSlice 68 (.int .i64 (n : Int)) (.int .i64 (n : Int))).run Tryz.prog w = .ok (.slice (some ⟨w.heap.size, 0, none⟩) n n) (w.alloc (.cells (U32s (zeros n)) 75)) := fun w => make_u32 68 Tryz.underlying68 n (by omega) w
  go_enter Tryz.func156, Tryz.ntmps156
  go_wp2_with fail
  go_loopw [7, 8] (fun rr i wr => ∃ (k q : Nat) (L : List Nat), i = .int .i64 ((k : Int) - 1) ∧ k ≤ n ∧ rr = .int .u32 q ∧ q < y ∧ L.length = n ∧ Ok L ∧ Blk wr w.heap.size L ∧ Below w.heap.size w wr ∧
      q = x / 4294967296 ^ k % y ∧ ∀ j, k ≤ j → j < n → L.getD j 0 = dg (x / y) j) (fun _ i _ => (intOf i + 1).toNat)
  case atStart => exact ⟨n, 0, zeros n, rfl, Nat.le_refl _, rfl, hy0, zeros_length _, zeros_ok _, heap_alloc_new w _, below_alloc _ _, by rw [div_len (by rw [Hn.out]; exact Nat.le_refl _)]; simp, fun j h h' => absurd h (by omega)⟩
  case round =>
    obtain ⟨k, q, L, rfl, hk, rfl, hql, hL, hok, hblk, hbel, hq, hval⟩ := hrel
    have HQ := Lib.hid hq; clear hq
    have HV := Lib.hid hval; clear hval
    have HL := Lib.hid hL; clear hL
    by_cases hk0 : k = 0
    · subst hk0
      have hv : val L = x / y := val_of_dgs (fun j hj => HV.out j (Nat.zero_le _) (by rw [← HL.out]; exact hj)) (by rw [HL.out]; exact Nat.lt_of_le_of_lt (Nat.div_le_self _ _) (lt_of_dig_len (by rw [← Hn.out]; omega)))
      have hw2 := hblk.wd hok (by rw [HL.out]; omega) n (by rw [HL.out]; omega) (by omega)
      rw [HL.out] at hw2
      have hqe : q = x % y := by have := HQ.out; rwa [Nat.pow_zero, Nat.div_one] at this
      have Hqe := Lib.hid hqe; clear hqe
      have Hv := Lib.hid hv; clear hv
      have Hw := Lib.hid hw2; clear hw2 hblk
      go_wp2_with fail
      refine (trimE_any _ _ _ Hw.out).mono ?_
      rintro e w' ⟨r, rfl, hr, rfl⟩
      rw [Hv.out] at hr
      obtain ⟨A3, n3, c3, rfl⟩ := hr.slice_
      go_wp2
      go_ret2
      exact ⟨_, by rw [Hqe.out]; rfl, hr, hbel⟩
    · obtain ⟨k, rfl⟩ : ∃ j, k = j + 1 := ⟨k - 1, by omega⟩
      obtain ⟨b, off, rfl, hb, hcx⟩ := Wd.cell (k := k) Hx.out (by omega)
      have h1 : wr.cell? ⟨b, off + k, none⟩ = some (.int .u32 (dg x k : Nat)) := (hbel.cell (p := ⟨b, off + k, none⟩) hb).trans (hcx k (by omega))
      clear hcx
      obtain ⟨p, hp⟩ : ∃ p, p = dg x k := ⟨_, rfl⟩
      have hpl : p < 4294967296 := by rw [hp]; exact dg_lt _ _
      rw [← hp] at h1
      have Hp := Lib.hid hp; clear hp
      have hfr := hblk.frozen k
      have hce := hblk.cell (i := k) (by rw [HL.out]; omega)
      have hB := Lib.hid hblk; clear hblk
      have i1 : ((k + 1 : Nat) : Int) - 1 = (k : Int) := by omega
      rw [i1]
      clear i1
      go_wp2_with fail
      obtain ⟨z, hz⟩ : ∃ z, z = q * 4294967296 + p := ⟨_, rfl⟩
      refine (div32_any q p y wr hql hpl hy).mono ?_
      rintro e w' ⟨rfl, nd, rfl⟩
      rw [← hz]
      obtain ⟨f1, f2, f3⟩ := quo_word (x := x) (z := z) hy0 HQ.out (by rw [hz, Hp.out])
      obtain ⟨t, ht⟩ : ∃ t, t = z / y := ⟨_, rfl⟩
      obtain ⟨r, hr⟩ : ∃ r, r = z % y := ⟨_, rfl⟩
      rw [← ht, ← hr]
      rw [← ht] at f1 f3
      rw [← hr] at f2
      have hrl : r < y := by rw [hr]; exact Nat.mod_lt _ hy0
      have F1 := Lib.hid f1; clear f1
      have F2 := Lib.hid f2; clear f2
      clear hz ht hr
      go_wp2
      go_roundw
      case rel =>
        refine ⟨k, r, L.set k t, rfl, by omega, rfl, hrl, by rw [List.length_set, HL.out], hok.set f3, ?_, ?_, F2.out.symm, ?_⟩
        · exact hB.out.set_ k t
        · exact Below.toDrewN (hbel.setCell (p := ⟨w.heap.size, k, none⟩) (Nat.le_refl _) _) nd
        · intro j hj hj'
          by_cases e : j = k
          · subst e; rw [getD_set_self (by rw [HL.out]; exact hj')]; exact F1.out.symm
          · rw [getD_set_ne (fun e' => e e'.symm)]; exact HV.out j (by omega) hj'
      case measure => simp [intOf]
end Go.Proofs.YtmlopkkbgpfdnabGreat
namespace Go.Proofs.YtmlopkkbgpfdnabGreat
open Go.RowKit

def GuessOk (U D : Nat) (w : World) (e : Ending) (w' : World) : Prop := ∃ g : Nat, e = .returned (.int .u32 g) ∧ g < 4294967296 ∧ U / D ≤ g ∧ g ≤ U / D + 1 ∧ ∃ k, w' = w.drewN k

def GRel (h v1 Q : Nat) (a b : Value) : Prop := ∃ g r : Nat, a = .int .u64 g ∧ b = .int .u64 r ∧ h = g * v1 + r ∧ Q ≤ g ∧ g < 8589934592 ∧ r < 8589934592

theorem g_step {h g r v1 Q : Nat} (hgr : h = g * v1 + r) (hQ : Q < g) (hg : g < 8589934592) (hr : r < 4294967296) (hv : v1 < 4294967296) : GRel h v1 Q (.int .u64 ((g : Int) - 1)) (.int .u64 ((r : Int) + v1)) := by
  obtain ⟨j, rfl⟩ : ∃ j, g = j + 1 := ⟨g - 1, by omega⟩
  refine ⟨j, r + v1, ?_, ?_, ?_, by omega, by omega, by omega⟩
  · rw [show ((j + 1 : Nat) : Int) - 1 = j by omega]
  · rw [Int.natCast_add]
  · rw [hgr, Nat.succ_mul]; omega

set_option maxRecDepth 100000 in
theorem guess_any (U D P u0 u1 u2 ul v1 v2 dl n gd od gp op cd cp : Nat) (w : World) (hn : 2 ≤ n) (hn2 : n ≤ 1000000)
    (kd : KD U D P (u0 * 4294967296 + u1) u2 ul v1 v2 dl) (hu0 : u0 < 4294967296) (hu1 : u1 < 4294967296)
    (c1 : w.cell? ⟨gd, od + (n - 1), none⟩ = some (.int .u32 v1)) (c2 : w.cell? ⟨gd, od + (n - 2), none⟩ = some (.int .u32 v2))
    (c3 : w.cell? ⟨gp, op + n, none⟩ = some (.int .u32 u0)) (c4 : w.cell? ⟨gp, op + (n - 1), none⟩ = some (.int .u32 u1)) (c5 : w.cell? ⟨gp, op + (n - 2), none⟩ = some (.int .u32 u2)) :
    Calls Tryz.prog 164 #[.slice (some ⟨gp, op, none⟩) (n + 1) cp, .slice (some ⟨gd, od, none⟩) n cd] w (GuessOk U D w) := by
  have hor := or_words hu0 hu1
  have hv1 := kd.v1_ge
  have hv1' := kd.v1_lt
  have hv2 := kd.v2_lt
  have hu2 := kd.u2_lt
  obtain ⟨h, hh⟩ : ∃ h, h = u0 * 4294967296 + u1 := ⟨_, rfl⟩
  rw [← hh] at kd hor
  have hhl : h < 18446744073709551616 := by omega
  have Hor := Lib.hid hor; clear hor hh
  have HK := Lib.hid kd; clear kd
  have g0 : h / v1 < 8589934592 := by
    rw [Nat.div_lt_iff_lt_mul (by omega)]
    have : 8589934592 * 2147483648 ≤ 8589934592 * v1 := Nat.mul_le_mul_left _ hv1
    omega
  have r0 : h % v1 < v1 := Nat.mod_lt _ (by omega)
  have gr : h = h / v1 * v1 + h % v1 := by rw [Nat.mul_comm]; exact (Nat.div_add_mod _ _).symm
  obtain ⟨gg, hgg⟩ : ∃ q, q = h / v1 := ⟨_, rfl⟩
  obtain ⟨rr, hrr⟩ : ∃ r, r = h % v1 := ⟨_, rfl⟩
  have hst := HK.out.start
  rw [← hgg] at g0 gr hst
  rw [← hrr] at r0 gr
  have e1 : (h : Int) / v1 = (gg : Int) := by rw [hgg]; omega
  have e2 : (h : Int) % v1 = (rr : Int) := by rw [hrr]; omega
  clear hgg hrr
  have e3 : IntKind.u64.wrap (gg : Int) = (gg : Int) := by rw [IntKind.wrap_u64]; omega
  have E1 := Lib.hid e1; clear e1
  have E2 := Lib.hid e2; clear e2
  have E3 := Lib.hid e3; clear e3
  have Gr := Lib.hid gr; clear gr
  have Hst := Lib.hid hst; clear hst
  have d2 : ((v1 : Int) == 0) = false := by simp; omega
  have b1 : (0 : Int) < v1 := by omega
  have b2 : (1 : Int) ≤ v1 := by omega
  have b3 : (0 : Int) ≤ h := by omega
  go_enter Tryz.func164, Tryz.ntmps164
  go_wp2_with fail
  have i1 : IntKind.i64.wrap ((n : Int) - 1) = (n : Int) - 1 := IntWalk.i64_in _ (by omega)
  have i2 : IntKind.i64.wrap ((n : Int) - 2) = (n : Int) - 2 := IntWalk.i64_in _ (by omega)
  have i3 : ((n : Int) - 1).toNat = n - 1 := by omega
  have i4 : ((n : Int) - 2).toNat = n - 2 := by omega
  have i5 : 0 ≤ (n : Int) - 1 := by omega
  have i6 : 0 ≤ (n : Int) - 2 := by omega
  go_quiet (fail)
  go_wp2_with fail
  go_quiet (fail)
  rw [Hor.out]
  clear i1 i2 i3 i4 i5 i6
  go_wp2_with fail
  go_quiet (fail)
  rw [E1.out, E2.out, E3.out]
  go_wp2_with fail
  go_loop [9, 10] (fun a b => GRel h v1 (U / D) a b) (fun _ b => (8589934592 - intOf b).toNat)
  case atStart => exact ⟨gg, rr, rfl, rfl, Gr.out, Hst.out, g0, by omega⟩
  case round =>
    obtain ⟨g, r, rfl, rfl, hgr, hqg, hg, hr⟩ := hrel
    have Hgr := Lib.hid hgr; clear hgr
    have Hqg := Lib.hid hqg; clear hqg
    by_cases hA : 4294967296 ≤ r
    · obtain ⟨hgl, hge⟩ := HK.out.rest Hgr.out hA Hqg.out
      have Hge := Lib.hid hge; clear hge
      have f1 : decide ((r : Int) ≤ 4294967295) = false := by simp; omega
      go_wp2
      go_ret
      exact ⟨g, rfl, hgl, Hqg.out, by rw [Hge.out]; omega, _, rfl⟩
    · have hr' : r < 4294967296 := by omega
      have f1 : decide ((r : Int) ≤ 4294967295) = true := by simp; omega
      by_cases hB : 4294967296 ≤ g
      · have hq := HK.out.q_lt
        have hg1 : U / D < g := by omega
        have Hg1 := Lib.hid hg1; clear hg1 hq
        have f2 : decide ((4294967295 : Int) < g) = true := by simp; omega
        go_wp2
        go_round
        case rel => exact g_step Hgr.out Hg1.out hg hr' hv1'
        case measure => simp [intOf]; omega
      · have hg' : g < 4294967296 := by omega
        have f2 : decide ((4294967295 : Int) < g) = false := by simp; omega
        have hor2 := or_words hr' hu2
        have hprod : g * v2 < 18446744073709551616 := by
          have : g * v2 ≤ 4294967295 * 4294967295 := Nat.mul_le_mul (by omega) (by omega)
          omega
        have hprod2 : (g : Int) * v2 < 18446744073709551616 := by rw [← Int.natCast_mul]; omega
        have hprod3 : (0 : Int) ≤ (g : Int) * v2 := by rw [← Int.natCast_mul]; omega
        have Hor2 := Lib.hid hor2; clear hor2
        by_cases hC : r * 4294967296 + u2 < g * v2
        · have hq := HK.out.high Hgr.out hC
          have hg0 : 1 ≤ g := Nat.lt_of_le_of_lt (Nat.zero_le _) hq
          have hd : decide (bits BinOp.or IntKind.u64 ((r : Int) * 4294967296) (u2 : Int) < (g : Int) * v2) = true := by rw [Hor2.out, ← Int.natCast_mul]; simp only [decide_eq_true_eq]; omega
          have Hq := Lib.hid hq; clear hq hC
          go_wp2
          go_round
          case rel => exact g_step Hgr.out Hq.out hg hr' hv1'
          case measure => simp [intOf]; omega
        · have hd : decide (bits BinOp.or IntKind.u64 ((r : Int) * 4294967296) (u2 : Int) < (g : Int) * v2) = false := by rw [Hor2.out, ← Int.natCast_mul]; simp only [decide_eq_false_iff_not]; omega
          have h1 := HK.out.one Hgr.out (Nat.le_of_not_lt hC) hg'
          have H1 := Lib.hid h1; clear h1 hC
          go_wp2
          go_ret
          exact ⟨g, rfl, hg', Hqg.out, H1.out, _, rfl⟩
end Go.Proofs.YtmlopkkbgpfdnabGreat
