/- Plain mathematics: words to the base 2^32. -/
namespace Go.Proofs.YtijhbmdbnnmogaaGreat

/-- 2^32 -/
def BB : Nat := 4294967296

def val : List Nat → Nat
  | [] => 0
  | x :: r => x + 4294967296 * val r

def dig (n : Nat) : List Nat :=
  if h : n = 0 then [] else (n % 4294967296) :: dig (n / 4294967296)
termination_by n
decreasing_by omega

def Ok (l : List Nat) : Prop := ∀ x ∈ l, x < 4294967296

theorem dig_zero : dig 0 = [] := by unfold dig; simp
theorem dig_pos {n : Nat} (h : 0 < n) : dig n = (n % 4294967296) :: dig (n / 4294967296) := by
  rw [dig]; rw [dif_neg (by omega)]

theorem val_dig (n : Nat) : val (dig n) = n := by
  induction n using Nat.strongRecOn with
  | ind n ih =>
    by_cases h : n = 0
    · subst h; rw [dig_zero]; rfl
    · rw [dig_pos (by omega), val, ih _ (by omega)]; omega

theorem ok_dig (n : Nat) : Ok (dig n) := by
  induction n using Nat.strongRecOn with
  | ind n ih =>
    by_cases h : n = 0
    · subst h; rw [dig_zero]; intro x hx; cases hx
    · rw [dig_pos (by omega)]
      intro x hx
      rcases List.mem_cons.1 hx with rfl | hx
      · omega
      · exact ih _ (by omega) x hx

theorem dig_eq_nil {n : Nat} : dig n = [] ↔ n = 0 := by
  constructor
  · intro h
    by_cases h0 : n = 0
    · exact h0
    · rw [dig_pos (by omega)] at h; cases h
  · rintro rfl; exact dig_zero

theorem dig_len_pos {n : Nat} : 0 < (dig n).length ↔ 0 < n := by
  have := @dig_eq_nil n
  constructor
  · intro h
    rcases Nat.eq_zero_or_pos n with h0 | h0
    · rw [this.2 h0] at h; simp at h
    · exact h0
  · intro h
    rcases Nat.eq_zero_or_pos (dig n).length with h0 | h0
    · have := this.1 (List.eq_nil_of_length_eq_zero h0); omega
    · exact h0

theorem Ok.cons {x : Nat} {l : List Nat} (h : Ok (x :: l)) : x < 4294967296 ∧ Ok l :=
  ⟨h x (by simp), fun y hy => h y (by simp [hy])⟩
theorem Ok.mk {x : Nat} {l : List Nat} (h : x < 4294967296) (h' : Ok l) : Ok (x :: l) := by
  intro y hy
  rcases List.mem_cons.1 hy with rfl | hy
  · exact h
  · exact h' y hy
theorem Ok.nil : Ok [] := fun _ h => by cases h
theorem Ok.append {a b : List Nat} (ha : Ok a) (hb : Ok b) : Ok (a ++ b) := by
  intro x hx
  rcases List.mem_append.1 hx with h | h
  · exact ha x h
  · exact hb x h
theorem Ok.take {a : List Nat} (ha : Ok a) (n : Nat) : Ok (a.take n) := fun x hx => ha x (List.mem_of_mem_take hx)
theorem Ok.drop {a : List Nat} (ha : Ok a) (n : Nat) : Ok (a.drop n) := fun x hx => ha x (List.mem_of_mem_drop hx)
theorem Ok.get {a : List Nat} (ha : Ok a) {i : Nat} (h : i < a.length) : a[i] < 4294967296 := ha _ (List.getElem_mem h)
theorem Ok.getD {a : List Nat} (ha : Ok a) (i : Nat) : a.getD i 0 < 4294967296 := by
  simp only [List.getD_eq_getElem?_getD]
  rcases Nat.lt_or_ge i a.length with h | h
  · rw [List.getElem?_eq_getElem h]; exact ha.get h
  · rw [List.getElem?_eq_none h]; simp

/-- normal: no zero at the end -/
def Norm (l : List Nat) : Prop := l.getLast? ≠ some 0

theorem Norm.nil : Norm [] := by simp [Norm]
theorem norm_cons {x y : Nat} {l : List Nat} : Norm (x :: y :: l) ↔ Norm (y :: l) := by
  simp [Norm, List.getLast?_cons_cons]
theorem norm_single {x : Nat} : Norm [x] ↔ x ≠ 0 := by simp [Norm]

theorem norm_dig (n : Nat) : Norm (dig n) := by
  induction n using Nat.strongRecOn with
  | ind n ih =>
    by_cases h : n = 0
    · subst h; rw [dig_zero]; exact Norm.nil
    · rw [dig_pos (by omega)]
      by_cases h2 : n / 4294967296 = 0
      · rw [h2, dig_zero, norm_single]; omega
      · have := ih (n / 4294967296) (by omega)
        rw [dig_pos (n := n / 4294967296) (by omega)] at this ⊢
        rw [norm_cons]; exact this

theorem val_pos_of_norm {l : List Nat} (hn : Norm l) (hne : l ≠ []) : 0 < val l := by
  induction l with
  | nil => exact absurd rfl hne
  | cons x r ih =>
    cases r with
    | nil => rw [norm_single] at hn; simp [val]; omega
    | cons y l =>
      have := ih (norm_cons.1 hn) (by simp)
      simp only [val] at this ⊢; omega

theorem dig_val {l : List Nat} (ho : Ok l) (hn : Norm l) : dig (val l) = l := by
  induction l with
  | nil => exact dig_zero
  | cons x r ih =>
    have hp := val_pos_of_norm hn (by simp)
    have hx := ho.cons.1
    rw [dig_pos hp]
    have hr : Norm r := by
      cases r with
      | nil => exact Norm.nil
      | cons y l => exact norm_cons.1 hn
    have h1 : val (x :: r) % 4294967296 = x := by simp only [val]; omega
    have h2 : val (x :: r) / 4294967296 = val r := by simp only [val]; omega
    rw [h1, h2, ih ho.cons.2 hr]

theorem dig_inj {a b : Nat} (h : dig a = dig b) : a = b := by rw [← val_dig a, ← val_dig b, h]

theorem val_append (a b : List Nat) : val (a ++ b) = val a + 4294967296 ^ a.length * val b := by
  induction a with
  | nil => simp [val]
  | cons x r ih =>
    simp only [List.cons_append, val, ih, List.length_cons, Nat.pow_succ]
    rw [Nat.mul_add, Nat.add_assoc, ← Nat.mul_assoc, Nat.mul_comm 4294967296 (4294967296 ^ r.length)]

theorem val_lt {l : List Nat} (ho : Ok l) : val l < 4294967296 ^ l.length := by
  induction l with
  | nil => simp [val]
  | cons x r ih =>
    have := ih ho.cons.2
    have hx := ho.cons.1
    simp only [val, List.length_cons, Nat.pow_succ]
    have : val r + 1 ≤ 4294967296 ^ r.length := this
    have h2 : 4294967296 * (val r + 1) ≤ 4294967296 * 4294967296 ^ r.length := Nat.mul_le_mul_left _ this
    rw [Nat.mul_comm (4294967296 ^ r.length)]
    omega

theorem val_replicate_zero (n : Nat) : val (List.replicate n 0) = 0 := by
  induction n with
  | zero => rfl
  | succ n ih => simp [List.replicate_succ, val, ih]

/-- the length of the digits: between powers -/
theorem dig_len_le {n k : Nat} (h : n < 4294967296 ^ k) : (dig n).length ≤ k := by
  induction k generalizing n with
  | zero => have : n = 0 := by simpa using h
            subst this; rw [dig_zero]; simp
  | succ k ih =>
    by_cases h0 : n = 0
    · subst h0; rw [dig_zero]; simp
    · rw [dig_pos (by omega), List.length_cons]
      have : n / 4294967296 < 4294967296 ^ k := by
        rw [Nat.div_lt_iff_lt_mul (by omega)]; rwa [Nat.pow_succ] at h
      have := ih this; omega

theorem lt_of_dig_len {n k : Nat} (h : (dig n).length ≤ k) : n < 4294967296 ^ k := by
  have := val_lt (ok_dig n)
  rw [val_dig] at this
  exact Nat.lt_of_lt_of_le this (Nat.pow_le_pow_right (by omega) h)

theorem dig_len_iff {n k : Nat} : (dig n).length ≤ k ↔ n < 4294967296 ^ k := ⟨lt_of_dig_len, dig_len_le⟩

theorem dig_len_mono {a b : Nat} (h : a ≤ b) : (dig a).length ≤ (dig b).length :=
  dig_len_le (Nat.lt_of_le_of_lt h (lt_of_dig_len (Nat.le_refl _)))

/-- the digit at a place -/
theorem dig_getD (n i : Nat) : (dig n).getD i 0 = n / 4294967296 ^ i % 4294967296 := by
  induction i generalizing n with
  | zero =>
    by_cases h : n = 0
    · subst h; rw [dig_zero]; simp
    · rw [dig_pos (by omega)]; simp
  | succ i ih =>
    by_cases h : n = 0
    · subst h; rw [dig_zero]; simp
    · rw [dig_pos (by omega)]
      rw [List.getD_cons_succ, ih, Nat.pow_succ, Nat.mul_comm, Nat.div_div_eq_div_mul]

/-- trimming -/
def trimN (l : List Nat) : List Nat := dig (val l)

theorem take_norm {l : List Nat} {n : Nat} (h0 : ∀ j, n ≤ j → j < l.length → l.getD j 0 = 0) : val l = val (l.take n) := by
  have : l = l.take n ++ l.drop n := (List.take_append_drop n l).symm
  have hz : l.drop n = List.replicate (l.length - n) 0 := by
    apply List.ext_getElem
    · simp
    · intro i h1 h2
      simp only [List.getElem_drop, List.getElem_replicate]
      have hl : n + i < l.length := by simp at h1; omega
      have := h0 (n + i) (by omega) hl
      simpa [List.getD_eq_getElem?_getD, List.getElem?_eq_getElem hl] using this
  conv => lhs; rw [this]
  rw [val_append, hz, val_replicate_zero]; simp

theorem dig_take {l : List Nat} {k : Nat} (ho : Ok l) (hk : k ≤ l.length) (h0 : ∀ j, k ≤ j → j < l.length → l.getD j 0 = 0) (h1 : k = 0 ∨ l.getD (k - 1) 0 ≠ 0) : dig (val l) = l.take k := by
  rw [take_norm h0]
  refine dig_val (ho.take k) ?_
  rcases h1 with rfl | h1
  · simp [Norm]
  · unfold Norm
    rcases Nat.eq_zero_or_pos k with rfl | hp
    · simp
    · rw [List.getLast?_take]
      have hlt : k - 1 < l.length := by omega
      rw [List.getD_eq_getElem?_getD, List.getElem?_eq_getElem hlt, Option.getD_some] at h1
      rw [if_neg (by omega), List.getElem?_eq_getElem hlt]
      simpa using h1

/-- digit i of x -/
def dg (x i : Nat) : Nat := x / 4294967296 ^ i % 4294967296
theorem dg_lt (x i : Nat) : dg x i < 4294967296 := Nat.mod_lt _ (by omega)
theorem dig_dg (x i : Nat) : (dig x).getD i 0 = dg x i := dig_getD x i
theorem mod_succ (x k : Nat) : x % 4294967296 ^ (k + 1) = x % 4294967296 ^ k + 4294967296 ^ k * dg x k := by
  rw [Nat.pow_succ, Nat.mod_mul]; rfl
theorem mod_len {x n : Nat} (h : (dig x).length ≤ n) : x % 4294967296 ^ n = x := Nat.mod_eq_of_lt (lt_of_dig_len h)
theorem dg_zero {x i : Nat} (h : (dig x).length ≤ i) : dg x i = 0 := by
  rw [← dig_dg, List.getD_eq_getElem?_getD, List.getElem?_eq_none h]; rfl
theorem dg_ge {x k : Nat} (h : x < 4294967296 ^ k) : dg x k = 0 := by
  unfold dg; rw [Nat.div_eq_of_lt h]

def zeros (k : Nat) : List Nat := List.replicate k 0
theorem zeros_length (k : Nat) : (zeros k).length = k := by simp [zeros]
theorem zeros_ok (k : Nat) : Ok (zeros k) := by intro x hx; simp [zeros] at hx; omega
theorem val_zeros (k : Nat) : val (zeros k) = 0 := val_replicate_zero k
theorem zeros_getD (k i : Nat) : (zeros k).getD i 0 = 0 := by
  simp [zeros, List.getD_eq_getElem?_getD, List.getElem?_replicate]
  split <;> rfl

theorem Ok.set {l : List Nat} (h : Ok l) {i x : Nat} (hx : x < 4294967296) : Ok (l.set i x) := by
  intro y hy
  rcases List.mem_or_eq_of_mem_set hy with h1 | h1
  · exact h y h1
  · omega

theorem take_set_succ {l : List Nat} {k x : Nat} (h : k < l.length) : (l.set k x).take (k + 1) = l.take k ++ [x] := by
  rw [List.take_succ_eq_append_getElem (by simpa using h), List.getElem_set_self, List.take_set_of_le (Nat.le_refl k)]

theorem val_take_set {l : List Nat} {k x : Nat} (h : k < l.length) : val ((l.set k x).take (k + 1)) = val (l.take k) + 4294967296 ^ k * x := by
  rw [take_set_succ h, val_append, List.length_take, Nat.min_eq_left (by omega)]; simp [val]

theorem val_take_succ {l : List Nat} {k : Nat} (h : k < l.length) : val (l.take (k + 1)) = val (l.take k) + 4294967296 ^ k * l.getD k 0 := by
  rw [List.take_succ_eq_append_getElem h, val_append, List.length_take, Nat.min_eq_left (by omega)]
  simp [val, List.getD_eq_getElem?_getD, List.getElem?_eq_getElem h]

/-- a round of the sum with carry -/
theorem add_round {a c x y k s : Nat} (h : a + 4294967296 ^ k * c = x % 4294967296 ^ k + y % 4294967296 ^ k) (hs : s = dg x k + dg y k + c) :
    a + 4294967296 ^ k * (s % 4294967296) + 4294967296 ^ (k + 1) * (s / 4294967296) = x % 4294967296 ^ (k + 1) + y % 4294967296 ^ (k + 1) := by
  rw [mod_succ, mod_succ]
  have h1 : 4294967296 ^ (k + 1) * (s / 4294967296) = 4294967296 ^ k * (4294967296 * (s / 4294967296)) := by rw [Nat.pow_succ, Nat.mul_assoc]
  have h2 : 4294967296 ^ k * (s % 4294967296) + 4294967296 ^ k * (4294967296 * (s / 4294967296)) = 4294967296 ^ k * s := by
    rw [← Nat.mul_add, Nat.mod_add_div]
  have h3 : 4294967296 ^ k * s = 4294967296 ^ k * dg x k + 4294967296 ^ k * dg y k + 4294967296 ^ k * c := by rw [hs, Nat.mul_add, Nat.mul_add]
  omega

/-- a round of the difference with borrow -/
theorem sub_round {a c x y k lo hi : Nat} (h : a + y % 4294967296 ^ k = x % 4294967296 ^ k + 4294967296 ^ k * c) (hc : c ≤ 1)
    (hlo : lo = (dg x k + 4294967296 - dg y k - c) % 4294967296) (hhi : hi = if dg x k < dg y k + c then 1 else 0) :
    a + 4294967296 ^ k * lo + y % 4294967296 ^ (k + 1) = x % 4294967296 ^ (k + 1) + 4294967296 ^ (k + 1) * hi := by
  rw [mod_succ, mod_succ]
  have hx := dg_lt x k
  have hy := dg_lt y k
  have key : lo + dg y k + c = dg x k + 4294967296 * hi := by
    rw [hlo, hhi]; split <;> omega
  have h1 : 4294967296 ^ (k + 1) * hi = 4294967296 ^ k * (4294967296 * hi) := by rw [Nat.pow_succ, Nat.mul_assoc]
  have h2 : 4294967296 ^ k * lo + 4294967296 ^ k * dg y k + 4294967296 ^ k * c = 4294967296 ^ k * dg x k + 4294967296 ^ k * (4294967296 * hi) := by
    rw [← Nat.mul_add, ← Nat.mul_add, ← Nat.mul_add, key]
  omega

/-- comparing -/
def cmpN (x y : Nat) : Int := if x < y then -1 else if y < x then 1 else 0
theorem cmpN_lt {x y : Nat} (h : x < y) : cmpN x y = -1 := by simp [cmpN, h]
theorem cmpN_gt {x y : Nat} (h : y < x) : cmpN x y = 1 := by unfold cmpN; rw [if_neg (by omega), if_pos h]
theorem cmpN_eq {x y : Nat} (h : x = y) : cmpN x y = 0 := by unfold cmpN; rw [if_neg (by omega), if_neg (by omega)]
theorem lt_of_len_lt {x y : Nat} (h : (dig x).length < (dig y).length) : x < y := by
  rcases Nat.lt_or_ge x y with h1 | h1
  · exact h1
  · have := dig_len_mono h1; omega
theorem div_step (x k : Nat) : x / 4294967296 ^ k = 4294967296 * (x / 4294967296 ^ (k + 1)) + dg x k := by
  unfold dg
  rw [Nat.pow_succ, ← Nat.div_div_eq_div_mul]; omega
theorem lt_of_div_lt {x y m : Nat} (h : x / m < y / m) : x < y := by
  rcases Nat.lt_or_ge x y with h1 | h1
  · exact h1
  · have := Nat.div_le_div_right (c := m) h1; omega
theorem div_len {x n : Nat} (h : (dig x).length ≤ n) : x / 4294967296 ^ n = 0 := Nat.div_eq_of_lt (lt_of_dig_len h)
theorem dg_cmp_lt {x y k : Nat} (h : x / 4294967296 ^ (k + 1) = y / 4294967296 ^ (k + 1)) (hd : dg x k < dg y k) : x < y := by
  apply lt_of_div_lt (m := 4294967296 ^ k)
  rw [div_step x k, div_step y k, h]; omega
theorem dg_cmp_eq {x y k : Nat} (h : x / 4294967296 ^ (k + 1) = y / 4294967296 ^ (k + 1)) (hd : dg x k = dg y k) : x / 4294967296 ^ k = y / 4294967296 ^ k := by
  rw [div_step x k, div_step y k, h, hd]

theorem val_set {l : List Nat} {p v : Nat} (h : p < l.length) : val (l.set p v) + 4294967296 ^ p * l.getD p 0 = val l + 4294967296 ^ p * v := by
  induction l generalizing p with
  | nil => simp at h
  | cons x r ih =>
    cases p with
    | zero => simp [val]; omega
    | succ p =>
      have := ih (p := p) (by simpa using h)
      simp only [List.set_cons_succ, val, List.getD_cons_succ, Nat.pow_succ]
      have e1 : 4294967296 ^ p * 4294967296 * r.getD p 0 = 4294967296 * (4294967296 ^ p * r.getD p 0) := by
        rw [Nat.mul_comm (4294967296 ^ p), Nat.mul_assoc]
      have e2 : 4294967296 ^ p * 4294967296 * v = 4294967296 * (4294967296 ^ p * v) := by
        rw [Nat.mul_comm (4294967296 ^ p), Nat.mul_assoc]
      omega

theorem getD_set_ne {l : List Nat} {p q v : Nat} (h : p ≠ q) : (l.set p v).getD q 0 = l.getD q 0 := by
  simp [List.getD_eq_getElem?_getD, List.getElem?_set, h]
theorem getD_set_self {l : List Nat} {p v : Nat} (h : p < l.length) : (l.set p v).getD p 0 = v := by
  simp [List.getD_eq_getElem?_getD, List.getElem?_set, h]

/-- a round of the inner loop of a product -/
theorem mul_round {V V' T i j x y old c s lo hi : Nat} (hV : V + 4294967296 ^ (i + j) * c = T + 4294967296 ^ i * (x * (y % 4294967296 ^ j)))
    (hV' : V' + 4294967296 ^ (i + j) * old = V + 4294967296 ^ (i + j) * lo) (hs : s = x * dg y j + old + c) (hlo : lo = s % 4294967296) (hhi : hi = s / 4294967296) :
    V' + 4294967296 ^ (i + (j + 1)) * hi = T + 4294967296 ^ i * (x * (y % 4294967296 ^ (j + 1))) := by
  rw [mod_succ]
  have e1 : 4294967296 ^ (i + (j + 1)) * hi = 4294967296 ^ (i + j) * (4294967296 * hi) := by rw [← Nat.add_assoc, Nat.pow_succ, Nat.mul_assoc]
  have e2 : 4294967296 ^ i * (x * (y % 4294967296 ^ j + 4294967296 ^ j * dg y j)) = 4294967296 ^ i * (x * (y % 4294967296 ^ j)) + 4294967296 ^ (i + j) * (x * dg y j) := by
    rw [Nat.mul_add, Nat.mul_add, Nat.pow_add]
    congr 1
    rw [Nat.mul_left_comm x, Nat.mul_assoc]
  have e3 : 4294967296 ^ (i + j) * lo + 4294967296 ^ (i + j) * (4294967296 * hi) = 4294967296 ^ (i + j) * (x * dg y j) + 4294967296 ^ (i + j) * old + 4294967296 ^ (i + j) * c := by
    rw [← Nat.mul_add, ← Nat.mul_add, ← Nat.mul_add, ← hs, hlo, hhi, Nat.mod_add_div]
  omega

theorem mul_done {x y i : Nat} : x % 4294967296 ^ i * y + 4294967296 ^ i * (dg x i * y) = x % 4294967296 ^ (i + 1) * y := by
  rw [mod_succ, Nat.add_mul, Nat.mul_assoc]

theorem mul_bound {x y a c : Nat} (hx : x < 4294967296) (hy : y < 4294967296) (ha : a < 4294967296) (hc : c < 4294967296) : x * y + a + c < 18446744073709551616 := by
  have h1 : x * y ≤ 4294967295 * 4294967295 := Nat.mul_le_mul (by omega) (by omega)
  omega

end Go.Proofs.YtijhbmdbnnmogaaGreat
