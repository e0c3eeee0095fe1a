/- Plain mathematics: shifts by less than a word, division by a word or word by word. -/
import Derived.Test.YtijhbmdbnnmogaaGreatM18
namespace Go.Proofs.YtijhbmdbnnmogaaGreat

theorem val_of_dgs {l : List Nat} {y : Nat} (h : ∀ j, j < l.length → l.getD j 0 = dg y j) (hy : y < 4294967296 ^ l.length) : val l = y := by
  have key : ∀ k, k ≤ l.length → val (l.take k) = y % 4294967296 ^ k := by
    intro k
    induction k with
    | zero => intro _; simp [val, Nat.mod_one]
    | succ k ih =>
      intro hk
      rw [val_take_succ (by omega), ih (by omega), mod_succ, h k (by omega)]
  have := key l.length (Nat.le_refl _)
  rw [List.take_of_length_le (Nat.le_refl _), Nat.mod_eq_of_lt hy] at this
  exact this

theorem div_mod_word (x b k : Nat) : x / b / 4294967296 ^ k % 4294967296 = x / 4294967296 ^ k / b % 4294967296 := by
  rw [Nat.div_div_eq_div_mul, Nat.mul_comm, ← Nat.div_div_eq_div_mul]

/-- a word of a quotient, from the rest of the words above it -/
theorem quo_word {x b k r z : Nat} (hb : 0 < b) (hr : r = x / 4294967296 ^ (k + 1) % b) (hz : z = r * 4294967296 + dg x k) :
    dg (x / b) k = z / b ∧ x / 4294967296 ^ k % b = z % b ∧ z / b < 4294967296 := by
  have hs := div_step x k
  obtain ⟨y, hy⟩ : ∃ y, y = x / 4294967296 ^ (k + 1) := ⟨_, rfl⟩
  rw [← hy] at hs hr
  have e : x / 4294967296 ^ k = z + b * (4294967296 * (y / b)) := by
    have h1 : y = b * (y / b) + r := by rw [hr]; exact (Nat.div_add_mod y b).symm
    have h2 : b * (4294967296 * (y / b)) = 4294967296 * (b * (y / b)) := Nat.mul_left_comm _ _ _
    omega
  have hrb : r < b := by rw [hr]; exact Nat.mod_lt _ hb
  have hd := dg_lt x k
  have hzb : z / b < 4294967296 := by
    rw [Nat.div_lt_iff_lt_mul hb]
    have : (r + 1) * 4294967296 ≤ b * 4294967296 := Nat.mul_le_mul_right _ hrb
    rw [Nat.mul_comm 4294967296 b]
    omega
  refine ⟨?_, ?_, hzb⟩
  · unfold dg
    rw [div_mod_word, e, Nat.add_mul_div_left _ _ hb, Nat.add_mul_mod_self_left, Nat.mod_eq_of_lt hzb]
  · rw [e, Nat.add_mul_mod_self_left]

theorem shl_parts {c e : Nat} (h : c * e = 4294967296) : 0 < c ∧ 0 < e := by
  constructor
  · rcases Nat.eq_zero_or_pos c with h0 | h0
    · subst h0; simp at h
    · exact h0
  · rcases Nat.eq_zero_or_pos e with h0 | h0
    · subst h0; simp at h
    · exact h0

/-- a multiple of c below B, and less than c more -/
theorem mul_mod_lt {c e z : Nat} (h : c * e = 4294967296) : z * c % 4294967296 = (z % e) * c ∧ (z % e) * c + c ≤ 4294967296 := by
  obtain ⟨hc, he⟩ := shl_parts h
  constructor
  · rw [← h, Nat.mul_comm z c, Nat.mul_mod_mul_left, Nat.mul_comm]
  · have : (z % e + 1) * c ≤ e * c := Nat.mul_le_mul_right c (Nat.mod_lt _ he)
    rw [Nat.succ_mul, Nat.mul_comm e c, h] at this
    exact this

theorem mul_mod_word {c x : Nat} : x * c % 4294967296 = (x % 4294967296) * c % 4294967296 := by
  rw [Nat.mul_mod, Nat.mul_mod (x % 4294967296) c, Nat.mod_mod x]

theorem dg_shl0 (x c : Nat) : dg (x * c) 0 = dg x 0 * c % 4294967296 := by
  simp only [dg, Nat.pow_zero, Nat.div_one]; exact mul_mod_word

theorem dg_shl {x k c e : Nat} (h : c * e = 4294967296) : dg (x * c) (k + 1) = dg x (k + 1) * c % 4294967296 + dg x k / e ∧ dg x k / e < c := by
  obtain ⟨hc, he⟩ := shl_parts h
  have hd := dg_lt x k
  have hde : dg x k / e < c := by rw [Nat.div_lt_iff_lt_mul he, h]; exact hd
  refine ⟨?_, hde⟩
  obtain ⟨P, hP⟩ : ∃ P, P = 4294967296 ^ k := ⟨_, rfl⟩
  have hP0 : 0 < P := by rw [hP]; exact pow_pos' k
  obtain ⟨t, ht⟩ : ∃ t, t = x % P * c / P := ⟨_, rfl⟩
  have htc : t < c := by
    rw [ht, Nat.div_lt_iff_lt_mul hP0, Nat.mul_comm c]
    exact Nat.mul_lt_mul_of_pos_right (Nat.mod_lt _ hP0) hc
  have h1 : x * c / P = x / P * c + t := by
    have e1 : x * c = x % P * c + P * (x / P * c) := by
      conv => lhs; rw [← Nat.mod_add_div x P]
      rw [Nat.add_mul, Nat.mul_assoc]
    rw [e1, Nat.add_mul_div_left _ _ hP0, ← ht, Nat.add_comm]
  have h2 : x / P = 4294967296 * (x / 4294967296 ^ (k + 1)) + dg x k := by rw [hP]; exact div_step x k
  obtain ⟨z, hz⟩ : ∃ z, z = x / 4294967296 ^ (k + 1) := ⟨_, rfl⟩
  rw [← hz] at h2
  have h3 : x * c / 4294967296 ^ (k + 1) = z * c + dg x k / e := by
    rw [Nat.pow_succ, ← hP, ← Nat.div_div_eq_div_mul, h1, h2, Nat.add_mul]
    have e2 : 4294967296 * z * c + dg x k * c + t = (dg x k * c + t) + 4294967296 * (z * c) := by rw [Nat.mul_assoc]; omega
    rw [e2, Nat.add_mul_div_left _ _ (by omega : 0 < 4294967296), Nat.add_comm]
    congr 1
    rw [← h, ← Nat.div_div_eq_div_mul, Nat.mul_comm (dg x k), Nat.mul_add_div hc, Nat.div_eq_of_lt htc, Nat.add_zero]
  have h4 : dg (x * c) (k + 1) = (z * c + dg x k / e) % 4294967296 := by unfold dg at h3 ⊢; rw [h3]
  have h5 : dg x (k + 1) = z % 4294967296 := by unfold dg; rw [hz]
  rw [h4, h5, ← mul_mod_word]
  obtain ⟨m1, m2⟩ := mul_mod_lt (z := z) h
  rw [Nat.add_mod, m1, Nat.mod_eq_of_lt (a := dg x k / e) (by omega), Nat.mod_eq_of_lt]
  omega

theorem dg_shr {x k c e : Nat} (h : c * e = 4294967296) : dg (x / c) k = dg x k / c + dg x (k + 1) * e % 4294967296 ∧ dg x k / c < e := by
  obtain ⟨hc, he⟩ := shl_parts h
  have hd := dg_lt x k
  have h' : e * c = 4294967296 := by rw [Nat.mul_comm]; exact h
  have hde : dg x k / c < e := by rw [Nat.div_lt_iff_lt_mul hc, h']; exact hd
  refine ⟨?_, hde⟩
  have h2 := div_step x k
  obtain ⟨z, hz⟩ : ∃ z, z = x / 4294967296 ^ (k + 1) := ⟨_, rfl⟩
  rw [← hz] at h2
  have h5 : dg x (k + 1) = z % 4294967296 := by unfold dg; rw [hz]
  have h3 : x / 4294967296 ^ k / c = z * e + dg x k / c := by
    rw [h2]
    have e2 : 4294967296 * z + dg x k = dg x k + c * (z * e) := by
      rw [← h]
      have : c * e * z = c * (z * e) := by ac_rfl
      omega
    rw [e2, Nat.add_mul_div_left _ _ hc, Nat.add_comm]
  have h4 : dg (x / c) k = (z * e + dg x k / c) % 4294967296 := by
    show x / c / 4294967296 ^ k % 4294967296 = _
    rw [div_mod_word, h3]
  rw [h4, h5, ← mul_mod_word]
  obtain ⟨m1, m2⟩ := mul_mod_lt (z := z) h'
  rw [Nat.add_mod, m1, Nat.mod_eq_of_lt (a := dg x k / c) (by omega), Nat.mod_eq_of_lt, Nat.add_comm]
  omega

/-- the whole division -/
theorem div_end {x y c V Q : Nat} (hc : 0 < c) (hy : 0 < y) (h : x * c = V + y * c * Q) (hV : V < y * c) : Q = x / y ∧ V / c = x % y := by
  have h1 : V % c = 0 := by
    have : V = x * c - y * c * Q := by omega
    rw [this]
    have : y * c * Q = y * Q * c := by ac_rfl
    rw [this, ← Nat.sub_mul]; exact Nat.mul_mod_left _ _
  have h2 : V = V / c * c := by have := Nat.div_add_mod V c; rw [h1, Nat.mul_comm] at this; omega
  have h3 : x = V / c + y * Q := by
    have : x * c = (V / c + y * Q) * c := by
      rw [Nat.add_mul, ← h2, h]
      congr 1
      ac_rfl
    exact Nat.eq_of_mul_eq_mul_right hc this
  have h4 : V / c < y := by rw [Nat.div_lt_iff_lt_mul hc]; exact hV
  constructor
  · rw [h3, Nat.add_mul_div_left _ _ hy, Nat.div_eq_of_lt h4]; omega
  · conv => rhs; rw [h3]
    rw [Nat.add_mul_mod_self_left, Nat.mod_eq_of_lt h4]

end Go.Proofs.YtijhbmdbnnmogaaGreat
