/- Plain mathematics: words to the base 2^32. · First walks. · Opening an Int that comes in from outside. · Walks: naturalOf, natural, twoTo. · Walks: minus. · Walks: compare, order. · Walks: times. -/
import Derived.Test.YtmlopkkbgpfdnaaGreatDoorProg
import Derived.WalkKit
import Derived.WalkLawsBesides
import Derived.WalkSpells
import Derived.Outline
import Derived.BigGuardPart
import Derived.Lib.Hide
import Derived.Lib.MinMax
import Derived.Test.YtmlopkkbgpfdnaaGreatDoorRows
import Derived.ProofKit
import Derived.OpenShut
import Derived.ChangeOld
import Derived.Below
import Derived.Lib.SmallJoins
import Derived.Laws.BitsAllLaws
import Derived.Deep.QuietTactic
import Derived.BigQuiet
import Derived.Deep.RegionWith
import Derived.StillTailTactics
import Derived.BigRegion
namespace Go.Proofs.YtmlopkkbgpfdnaaGreatDoor

/-- 2^32 -/
def BB : Nat := 4294967296

def val : List Nat → Nat
  | [] => 0
  | x :: r => x + 4294967296 * val r

def dig (n : Nat) : List Nat :=
  if h : n = 0 then [] else (n % 4294967296) :: dig (n / 4294967296)
termination_by n
decreasing_by omega

def Ok (l : List Nat) : Prop := ∀ x ∈ l, x < 4294967296

theorem dig_zero : dig 0 = [] := by unfold dig; simp
theorem dig_pos {n : Nat} (h : 0 < n) : dig n = (n % 4294967296) :: dig (n / 4294967296) := by
  rw [dig]; rw [dif_neg (by omega)]

theorem val_dig (n : Nat) : val (dig n) = n := by
  induction n using Nat.strongRecOn with
  | ind n ih =>
    by_cases h : n = 0
    · subst h; rw [dig_zero]; rfl
    · rw [dig_pos (by omega), val, ih _ (by omega)]; omega

theorem ok_dig (n : Nat) : Ok (dig n) := by
  induction n using Nat.strongRecOn with
  | ind n ih =>
    by_cases h : n = 0
    · subst h; rw [dig_zero]; intro x hx; cases hx
    · rw [dig_pos (by omega)]
      intro x hx
      rcases List.mem_cons.1 hx with rfl | hx
      · omega
      · exact ih _ (by omega) x hx

theorem dig_eq_nil {n : Nat} : dig n = [] ↔ n = 0 := by
  constructor
  · intro h
    by_cases h0 : n = 0
    · exact h0
    · rw [dig_pos (by omega)] at h; cases h
  · rintro rfl; exact dig_zero

theorem dig_len_pos {n : Nat} : 0 < (dig n).length ↔ 0 < n := by
  have := @dig_eq_nil n
  constructor
  · intro h
    rcases Nat.eq_zero_or_pos n with h0 | h0
    · rw [this.2 h0] at h; simp at h
    · exact h0
  · intro h
    rcases Nat.eq_zero_or_pos (dig n).length with h0 | h0
    · have := this.1 (List.eq_nil_of_length_eq_zero h0); omega
    · exact h0

theorem Ok.cons {x : Nat} {l : List Nat} (h : Ok (x :: l)) : x < 4294967296 ∧ Ok l :=
  ⟨h x (by simp), fun y hy => h y (by simp [hy])⟩
theorem Ok.mk {x : Nat} {l : List Nat} (h : x < 4294967296) (h' : Ok l) : Ok (x :: l) := by
  intro y hy
  rcases List.mem_cons.1 hy with rfl | hy
  · exact h
  · exact h' y hy
theorem Ok.nil : Ok [] := fun _ h => by cases h
theorem Ok.append {a b : List Nat} (ha : Ok a) (hb : Ok b) : Ok (a ++ b) := by
  intro x hx
  rcases List.mem_append.1 hx with h | h
  · exact ha x h
  · exact hb x h
theorem Ok.take {a : List Nat} (ha : Ok a) (n : Nat) : Ok (a.take n) := fun x hx => ha x (List.mem_of_mem_take hx)
theorem Ok.drop {a : List Nat} (ha : Ok a) (n : Nat) : Ok (a.drop n) := fun x hx => ha x (List.mem_of_mem_drop hx)
theorem Ok.get {a : List Nat} (ha : Ok a) {i : Nat} (h : i < a.length) : a[i] < 4294967296 := ha _ (List.getElem_mem h)
theorem Ok.getD {a : List Nat} (ha : Ok a) (i : Nat) : a.getD i 0 < 4294967296 := by
  simp only [List.getD_eq_getElem?_getD]
  rcases Nat.lt_or_ge i a.length with h | h
  · rw [List.getElem?_eq_getElem h]; exact ha.get h
  · rw [List.getElem?_eq_none h]; simp

/-- normal: no zero at the end -/
def Norm (l : List Nat) : Prop := l.getLast? ≠ some 0

theorem Norm.nil : Norm [] := by simp [Norm]
theorem norm_cons {x y : Nat} {l : List Nat} : Norm (x :: y :: l) ↔ Norm (y :: l) := by
  simp [Norm, List.getLast?_cons_cons]
theorem norm_single {x : Nat} : Norm [x] ↔ x ≠ 0 := by simp [Norm]

theorem norm_dig (n : Nat) : Norm (dig n) := by
  induction n using Nat.strongRecOn with
  | ind n ih =>
    by_cases h : n = 0
    · subst h; rw [dig_zero]; exact Norm.nil
    · rw [dig_pos (by omega)]
      by_cases h2 : n / 4294967296 = 0
      · rw [h2, dig_zero, norm_single]; omega
      · have := ih (n / 4294967296) (by omega)
        rw [dig_pos (n := n / 4294967296) (by omega)] at this ⊢
        rw [norm_cons]; exact this

theorem val_pos_of_norm {l : List Nat} (hn : Norm l) (hne : l ≠ []) : 0 < val l := by
  induction l with
  | nil => exact absurd rfl hne
  | cons x r ih =>
    cases r with
    | nil => rw [norm_single] at hn; simp [val]; omega
    | cons y l =>
      have := ih (norm_cons.1 hn) (by simp)
      simp only [val] at this ⊢; omega

theorem dig_val {l : List Nat} (ho : Ok l) (hn : Norm l) : dig (val l) = l := by
  induction l with
  | nil => exact dig_zero
  | cons x r ih =>
    have hp := val_pos_of_norm hn (by simp)
    have hx := ho.cons.1
    rw [dig_pos hp]
    have hr : Norm r := by
      cases r with
      | nil => exact Norm.nil
      | cons y l => exact norm_cons.1 hn
    have h1 : val (x :: r) % 4294967296 = x := by simp only [val]; omega
    have h2 : val (x :: r) / 4294967296 = val r := by simp only [val]; omega
    rw [h1, h2, ih ho.cons.2 hr]

theorem dig_inj {a b : Nat} (h : dig a = dig b) : a = b := by rw [← val_dig a, ← val_dig b, h]

theorem val_append (a b : List Nat) : val (a ++ b) = val a + 4294967296 ^ a.length * val b := by
  induction a with
  | nil => simp [val]
  | cons x r ih =>
    simp only [List.cons_append, val, ih, List.length_cons, Nat.pow_succ]
    rw [Nat.mul_add, Nat.add_assoc, ← Nat.mul_assoc, Nat.mul_comm 4294967296 (4294967296 ^ r.length)]

theorem val_lt {l : List Nat} (ho : Ok l) : val l < 4294967296 ^ l.length := by
  induction l with
  | nil => simp [val]
  | cons x r ih =>
    have := ih ho.cons.2
    have hx := ho.cons.1
    simp only [val, List.length_cons, Nat.pow_succ]
    have : val r + 1 ≤ 4294967296 ^ r.length := this
    have h2 : 4294967296 * (val r + 1) ≤ 4294967296 * 4294967296 ^ r.length := Nat.mul_le_mul_left _ this
    rw [Nat.mul_comm (4294967296 ^ r.length)]
    omega

theorem val_replicate_zero (n : Nat) : val (List.replicate n 0) = 0 := by
  induction n with
  | zero => rfl
  | succ n ih => simp [List.replicate_succ, val, ih]

/-- the length of the digits: between powers -/
theorem dig_len_le {n k : Nat} (h : n < 4294967296 ^ k) : (dig n).length ≤ k := by
  induction k generalizing n with
  | zero => have : n = 0 := by simpa using h
            subst this; rw [dig_zero]; simp
  | succ k ih =>
    by_cases h0 : n = 0
    · subst h0; rw [dig_zero]; simp
    · rw [dig_pos (by omega), List.length_cons]
      have : n / 4294967296 < 4294967296 ^ k := by
        rw [Nat.div_lt_iff_lt_mul (by omega)]; rwa [Nat.pow_succ] at h
      have := ih this; omega

theorem lt_of_dig_len {n k : Nat} (h : (dig n).length ≤ k) : n < 4294967296 ^ k := by
  have := val_lt (ok_dig n)
  rw [val_dig] at this
  exact Nat.lt_of_lt_of_le this (Nat.pow_le_pow_right (by omega) h)

theorem dig_len_iff {n k : Nat} : (dig n).length ≤ k ↔ n < 4294967296 ^ k := ⟨lt_of_dig_len, dig_len_le⟩

theorem dig_len_mono {a b : Nat} (h : a ≤ b) : (dig a).length ≤ (dig b).length :=
  dig_len_le (Nat.lt_of_le_of_lt h (lt_of_dig_len (Nat.le_refl _)))

/-- the digit at a place -/
theorem dig_getD (n i : Nat) : (dig n).getD i 0 = n / 4294967296 ^ i % 4294967296 := by
  induction i generalizing n with
  | zero =>
    by_cases h : n = 0
    · subst h; rw [dig_zero]; simp
    · rw [dig_pos (by omega)]; simp
  | succ i ih =>
    by_cases h : n = 0
    · subst h; rw [dig_zero]; simp
    · rw [dig_pos (by omega)]
      rw [List.getD_cons_succ, ih, Nat.pow_succ, Nat.mul_comm, Nat.div_div_eq_div_mul]

/-- trimming -/
def trimN (l : List Nat) : List Nat := dig (val l)

theorem take_norm {l : List Nat} {n : Nat} (h0 : ∀ j, n ≤ j → j < l.length → l.getD j 0 = 0) : val l = val (l.take n) := by
  have : l = l.take n ++ l.drop n := (List.take_append_drop n l).symm
  have hz : l.drop n = List.replicate (l.length - n) 0 := by
    apply List.ext_getElem
    · simp
    · intro i h1 h2
      simp only [List.getElem_drop, List.getElem_replicate]
      have hl : n + i < l.length := by simp at h1; omega
      have := h0 (n + i) (by omega) hl
      simpa [List.getD_eq_getElem?_getD, List.getElem?_eq_getElem hl] using this
  conv => lhs; rw [this]
  rw [val_append, hz, val_replicate_zero]; simp

theorem dig_take {l : List Nat} {k : Nat} (ho : Ok l) (hk : k ≤ l.length) (h0 : ∀ j, k ≤ j → j < l.length → l.getD j 0 = 0) (h1 : k = 0 ∨ l.getD (k - 1) 0 ≠ 0) : dig (val l) = l.take k := by
  rw [take_norm h0]
  refine dig_val (ho.take k) ?_
  rcases h1 with rfl | h1
  · simp [Norm]
  · unfold Norm
    rcases Nat.eq_zero_or_pos k with rfl | hp
    · simp
    · rw [List.getLast?_take]
      have hlt : k - 1 < l.length := by omega
      rw [List.getD_eq_getElem?_getD, List.getElem?_eq_getElem hlt, Option.getD_some] at h1
      rw [if_neg (by omega), List.getElem?_eq_getElem hlt]
      simpa using h1

/-- digit i of x -/
def dg (x i : Nat) : Nat := x / 4294967296 ^ i % 4294967296
theorem dg_lt (x i : Nat) : dg x i < 4294967296 := Nat.mod_lt _ (by omega)
theorem dig_dg (x i : Nat) : (dig x).getD i 0 = dg x i := dig_getD x i
theorem mod_succ (x k : Nat) : x % 4294967296 ^ (k + 1) = x % 4294967296 ^ k + 4294967296 ^ k * dg x k := by
  rw [Nat.pow_succ, Nat.mod_mul]; rfl
theorem mod_len {x n : Nat} (h : (dig x).length ≤ n) : x % 4294967296 ^ n = x := Nat.mod_eq_of_lt (lt_of_dig_len h)
theorem dg_zero {x i : Nat} (h : (dig x).length ≤ i) : dg x i = 0 := by
  rw [← dig_dg, List.getD_eq_getElem?_getD, List.getElem?_eq_none h]; rfl
theorem dg_ge {x k : Nat} (h : x < 4294967296 ^ k) : dg x k = 0 := by
  unfold dg; rw [Nat.div_eq_of_lt h]

def zeros (k : Nat) : List Nat := List.replicate k 0
theorem zeros_length (k : Nat) : (zeros k).length = k := by simp [zeros]
theorem zeros_ok (k : Nat) : Ok (zeros k) := by intro x hx; simp [zeros] at hx; omega
theorem val_zeros (k : Nat) : val (zeros k) = 0 := val_replicate_zero k
theorem zeros_getD (k i : Nat) : (zeros k).getD i 0 = 0 := by
  simp [zeros, List.getD_eq_getElem?_getD, List.getElem?_replicate]
  split <;> rfl

theorem Ok.set {l : List Nat} (h : Ok l) {i x : Nat} (hx : x < 4294967296) : Ok (l.set i x) := by
  intro y hy
  rcases List.mem_or_eq_of_mem_set hy with h1 | h1
  · exact h y h1
  · omega

theorem take_set_succ {l : List Nat} {k x : Nat} (h : k < l.length) : (l.set k x).take (k + 1) = l.take k ++ [x] := by
  rw [List.take_succ_eq_append_getElem (by simpa using h), List.getElem_set_self, List.take_set_of_le (Nat.le_refl k)]

theorem val_take_set {l : List Nat} {k x : Nat} (h : k < l.length) : val ((l.set k x).take (k + 1)) = val (l.take k) + 4294967296 ^ k * x := by
  rw [take_set_succ h, val_append, List.length_take, Nat.min_eq_left (by omega)]; simp [val]

theorem val_take_succ {l : List Nat} {k : Nat} (h : k < l.length) : val (l.take (k + 1)) = val (l.take k) + 4294967296 ^ k * l.getD k 0 := by
  rw [List.take_succ_eq_append_getElem h, val_append, List.length_take, Nat.min_eq_left (by omega)]
  simp [val, List.getD_eq_getElem?_getD, List.getElem?_eq_getElem h]

/-- a round of the sum with carry -/
theorem add_round {a c x y k s : Nat} (h : a + 4294967296 ^ k * c = x % 4294967296 ^ k + y % 4294967296 ^ k) (hs : s = dg x k + dg y k + c) :
    a + 4294967296 ^ k * (s % 4294967296) + 4294967296 ^ (k + 1) * (s / 4294967296) = x % 4294967296 ^ (k + 1) + y % 4294967296 ^ (k + 1) := by
  rw [mod_succ, mod_succ]
  have h1 : 4294967296 ^ (k + 1) * (s / 4294967296) = 4294967296 ^ k * (4294967296 * (s / 4294967296)) := by rw [Nat.pow_succ, Nat.mul_assoc]
  have h2 : 4294967296 ^ k * (s % 4294967296) + 4294967296 ^ k * (4294967296 * (s / 4294967296)) = 4294967296 ^ k * s := by
    rw [← Nat.mul_add, Nat.mod_add_div]
  have h3 : 4294967296 ^ k * s = 4294967296 ^ k * dg x k + 4294967296 ^ k * dg y k + 4294967296 ^ k * c := by rw [hs, Nat.mul_add, Nat.mul_add]
  omega

/-- a round of the difference with borrow -/
theorem sub_round {a c x y k lo hi : Nat} (h : a + y % 4294967296 ^ k = x % 4294967296 ^ k + 4294967296 ^ k * c) (hc : c ≤ 1)
    (hlo : lo = (dg x k + 4294967296 - dg y k - c) % 4294967296) (hhi : hi = if dg x k < dg y k + c then 1 else 0) :
    a + 4294967296 ^ k * lo + y % 4294967296 ^ (k + 1) = x % 4294967296 ^ (k + 1) + 4294967296 ^ (k + 1) * hi := by
  rw [mod_succ, mod_succ]
  have hx := dg_lt x k
  have hy := dg_lt y k
  have key : lo + dg y k + c = dg x k + 4294967296 * hi := by
    rw [hlo, hhi]; split <;> omega
  have h1 : 4294967296 ^ (k + 1) * hi = 4294967296 ^ k * (4294967296 * hi) := by rw [Nat.pow_succ, Nat.mul_assoc]
  have h2 : 4294967296 ^ k * lo + 4294967296 ^ k * dg y k + 4294967296 ^ k * c = 4294967296 ^ k * dg x k + 4294967296 ^ k * (4294967296 * hi) := by
    rw [← Nat.mul_add, ← Nat.mul_add, ← Nat.mul_add, key]
  omega

/-- comparing -/
def cmpN (x y : Nat) : Int := if x < y then -1 else if y < x then 1 else 0
theorem cmpN_lt {x y : Nat} (h : x < y) : cmpN x y = -1 := by simp [cmpN, h]
theorem cmpN_gt {x y : Nat} (h : y < x) : cmpN x y = 1 := by unfold cmpN; rw [if_neg (by omega), if_pos h]
theorem cmpN_eq {x y : Nat} (h : x = y) : cmpN x y = 0 := by unfold cmpN; rw [if_neg (by omega), if_neg (by omega)]
theorem lt_of_len_lt {x y : Nat} (h : (dig x).length < (dig y).length) : x < y := by
  rcases Nat.lt_or_ge x y with h1 | h1
  · exact h1
  · have := dig_len_mono h1; omega
theorem div_step (x k : Nat) : x / 4294967296 ^ k = 4294967296 * (x / 4294967296 ^ (k + 1)) + dg x k := by
  unfold dg
  rw [Nat.pow_succ, ← Nat.div_div_eq_div_mul]; omega
theorem lt_of_div_lt {x y m : Nat} (h : x / m < y / m) : x < y := by
  rcases Nat.lt_or_ge x y with h1 | h1
  · exact h1
  · have := Nat.div_le_div_right (c := m) h1; omega
theorem div_len {x n : Nat} (h : (dig x).length ≤ n) : x / 4294967296 ^ n = 0 := Nat.div_eq_of_lt (lt_of_dig_len h)
theorem dg_cmp_lt {x y k : Nat} (h : x / 4294967296 ^ (k + 1) = y / 4294967296 ^ (k + 1)) (hd : dg x k < dg y k) : x < y := by
  apply lt_of_div_lt (m := 4294967296 ^ k)
  rw [div_step x k, div_step y k, h]; omega
theorem dg_cmp_eq {x y k : Nat} (h : x / 4294967296 ^ (k + 1) = y / 4294967296 ^ (k + 1)) (hd : dg x k = dg y k) : x / 4294967296 ^ k = y / 4294967296 ^ k := by
  rw [div_step x k, div_step y k, h, hd]

theorem val_set {l : List Nat} {p v : Nat} (h : p < l.length) : val (l.set p v) + 4294967296 ^ p * l.getD p 0 = val l + 4294967296 ^ p * v := by
  induction l generalizing p with
  | nil => simp at h
  | cons x r ih =>
    cases p with
    | zero => simp [val]; omega
    | succ p =>
      have := ih (p := p) (by simpa using h)
      simp only [List.set_cons_succ, val, List.getD_cons_succ, Nat.pow_succ]
      have e1 : 4294967296 ^ p * 4294967296 * r.getD p 0 = 4294967296 * (4294967296 ^ p * r.getD p 0) := by
        rw [Nat.mul_comm (4294967296 ^ p), Nat.mul_assoc]
      have e2 : 4294967296 ^ p * 4294967296 * v = 4294967296 * (4294967296 ^ p * v) := by
        rw [Nat.mul_comm (4294967296 ^ p), Nat.mul_assoc]
      omega

theorem getD_set_ne {l : List Nat} {p q v : Nat} (h : p ≠ q) : (l.set p v).getD q 0 = l.getD q 0 := by
  simp [List.getD_eq_getElem?_getD, List.getElem?_set, h]
theorem getD_set_self {l : List Nat} {p v : Nat} (h : p < l.length) : (l.set p v).getD p 0 = v := by
  simp [List.getD_eq_getElem?_getD, List.getElem?_set, h]

/-- a round of the inner loop of a product -/
theorem mul_round {V V' T i j x y old c s lo hi : Nat} (hV : V + 4294967296 ^ (i + j) * c = T + 4294967296 ^ i * (x * (y % 4294967296 ^ j)))
    (hV' : V' + 4294967296 ^ (i + j) * old = V + 4294967296 ^ (i + j) * lo) (hs : s = x * dg y j + old + c) (hlo : lo = s % 4294967296) (hhi : hi = s / 4294967296) :
    V' + 4294967296 ^ (i + (j + 1)) * hi = T + 4294967296 ^ i * (x * (y % 4294967296 ^ (j + 1))) := by
  rw [mod_succ]
  have e1 : 4294967296 ^ (i + (j + 1)) * hi = 4294967296 ^ (i + j) * (4294967296 * hi) := by rw [← Nat.add_assoc, Nat.pow_succ, Nat.mul_assoc]
  have e2 : 4294967296 ^ i * (x * (y % 4294967296 ^ j + 4294967296 ^ j * dg y j)) = 4294967296 ^ i * (x * (y % 4294967296 ^ j)) + 4294967296 ^ (i + j) * (x * dg y j) := by
    rw [Nat.mul_add, Nat.mul_add, Nat.pow_add]
    congr 1
    rw [Nat.mul_left_comm x, Nat.mul_assoc]
  have e3 : 4294967296 ^ (i + j) * lo + 4294967296 ^ (i + j) * (4294967296 * hi) = 4294967296 ^ (i + j) * (x * dg y j) + 4294967296 ^ (i + j) * old + 4294967296 ^ (i + j) * c := by
    rw [← Nat.mul_add, ← Nat.mul_add, ← Nat.mul_add, ← hs, hlo, hhi, Nat.mod_add_div]
  omega

theorem mul_done {x y i : Nat} : x % 4294967296 ^ i * y + 4294967296 ^ i * (dg x i * y) = x % 4294967296 ^ (i + 1) * y := by
  rw [mod_succ, Nat.add_mul, Nat.mul_assoc]

theorem mul_bound {x y a c : Nat} (hx : x < 4294967296) (hy : y < 4294967296) (ha : a < 4294967296) (hc : c < 4294967296) : x * y + a + c < 18446744073709551616 := by
  have h1 : x * y ≤ 4294967295 * 4294967295 := Nat.mul_le_mul (by omega) (by omega)
  omega

end Go.Proofs.YtmlopkkbgpfdnaaGreatDoor
namespace Go.Proofs.YtmlopkkbgpfdnaaGreatDoor
open Go.RowKit

/-- the words l lie at the slice value v in w -/
def Wd (w : World) (v : Value) (l : List Nat) : Prop :=
  ∃ A c, v = .slice A l.length c ∧ l.length ≤ c ∧ c ≤ 9223372036854775807 ∧ Ok l ∧
    (0 < l.length → ∃ b off, A = some ⟨b, off, none⟩ ∧ b < w.heap.size ∧ ∀ j, j < l.length → w.cell? ⟨b, off + j, none⟩ = some (.int .u32 (l.getD j 0 : Nat)))

theorem Wd.ok {w : World} {v : Value} {l : List Nat} (h : Wd w v l) : Ok l := by obtain ⟨_, _, _, _, _, h, _⟩ := h; exact h
theorem Wd.below {w w' : World} {v : Value} {l : List Nat} (h : Wd w v l) (hb : Below w.heap.size w w') : Wd w' v l := by
  obtain ⟨A, c, rfl, h1, h2, h3, h4⟩ := h
  refine ⟨A, c, rfl, h1, h2, h3, fun hp => ?_⟩
  obtain ⟨b, off, rfl, hb', hc⟩ := h4 hp
  exact ⟨b, off, rfl, Nat.lt_of_lt_of_le hb' hb.size, fun j hj => (hb.cell (p := ⟨b, off + j, none⟩) hb').trans (hc j hj)⟩
theorem Wd.nil_ (w : World) : Wd w (.slice none 0 0) [] := ⟨none, 0, rfl, Nat.le_refl _, by omega, Ok.nil, fun h => absurd h (by simp)⟩

theorem word_in (n c i : Nat) (b off : Nat) (x : Int) (w : World) (hi : i < n) (hn : n ≤ 9223372036854775807)
    (hx : w.cell? ⟨b, off + i, none⟩ = some (.int .u32 x)) :
    Calls Tryz.prog 104 #[.slice (some ⟨b, off, none⟩) n c, .int .i64 i] w fun e w' => e = .returned (.int .u32 x) ∧ w = w' := by
  go_enter Tryz.func104, Tryz.ntmps104
  go_wp2
  go_ret
  exact ⟨rfl, rfl⟩

theorem word_out (A : Option Addr) (n c : Nat) (i : Int) (w : World) (hi : i < 0 ∨ n ≤ i) (hn : n ≤ 9223372036854775807) :
    Calls Tryz.prog 104 #[.slice A n c, .int .i64 i] w fun e w' => e = .returned (.int .u32 0) ∧ w = w' := by
  by_cases h : i < 0
  · go_enter Tryz.func104, Tryz.ntmps104
    go_wp2
    go_ret
    exact ⟨rfl, rfl⟩
  · have h2 : (n : Int) ≤ i := by omega
    have h3 : 0 ≤ i := by omega
    clear hi h
    go_enter Tryz.func104, Tryz.ntmps104
    go_wp2
    all_goals (go_ret; exact ⟨rfl, rfl⟩)

/-- word -/
theorem word_any (v : Value) (l : List Nat) (i : Int) (w : World) (hv : Wd w v l) :
    Calls Tryz.prog 104 #[v, .int .i64 i] w fun e w' => e = .returned (.int .u32 ((if i < 0 then 0 else l.getD i.toNat 0 : Nat) : Int)) ∧ w = w' := by
  obtain ⟨A, c, rfl, h1, h2, h3, h4⟩ := hv
  by_cases h : i < 0 ∨ (l.length : Int) ≤ i
  · refine (word_out A l.length c i w h (by omega)).mono ?_
    rintro e w' ⟨rfl, rfl⟩
    refine ⟨?_, rfl⟩
    by_cases h' : i < 0
    · rw [if_pos h']; rfl
    · rw [if_neg h', List.getD_eq_getElem?_getD, List.getElem?_eq_none (by omega)]; rfl
  · obtain ⟨k, rfl⟩ : ∃ k : Nat, i = (k : Int) := ⟨i.toNat, by omega⟩
    have hk : k < l.length := by omega
    obtain ⟨b, off, rfl, hb, hc⟩ := h4 (by omega)
    refine (word_in l.length c k b off _ w hk (by omega) (hc k hk)).mono ?_
    rintro e w' ⟨rfl, rfl⟩
    exact ⟨by rw [if_neg (by omega)]; rfl, rfl⟩

/-- word, of digits -/
theorem word_dig (v : Value) (x i : Nat) (w : World) (hv : Wd w v (dig x)) :
    Calls Tryz.prog 104 #[v, .int .i64 (i : Int)] w fun e w' => e = .returned (.int .u32 (dg x i : Nat)) ∧ w = w' := by
  refine (word_any v _ i w hv).mono ?_
  rintro e w' ⟨rfl, rfl⟩
  exact ⟨by rw [if_neg (by omega), Int.toNat_natCast, dig_dg], rfl⟩

/-- exact.trim -/
theorem trimE_any (v : Value) (l : List Nat) (w : World) (hv : Wd w v l) :
    Calls Tryz.prog 100 #[v] w fun e w' => ∃ u, e = .returned u ∧ Wd w u (dig (val l)) ∧ w = w' := by
  obtain ⟨A, c, rfl, h1, h2, h3, h4⟩ := hv
  obtain ⟨n, hn⟩ : ∃ n, n = l.length := ⟨_, rfl⟩
  rw [← hn] at h1 h4 ⊢
  have Hn := Lib.hid hn; clear hn
  have hm : n ≤ 9223372036854775807 := by omega
  go_enter Tryz.func100, Tryz.ntmps100
  go_wp2
  go_loop [3] (fun i => ∃ k : Nat, i = .int .i64 k ∧ k ≤ n ∧ ∀ j, k ≤ j → j < n → l.getD j 0 = 0) (fun i => (intOf i).toNat)
  case atStart => exact ⟨n, rfl, Nat.le_refl _, fun j h h' => by omega⟩
  case round =>
    obtain ⟨k, rfl, hk, hz⟩ := hrel
    by_cases k0 : k = 0
    · subst k0
      have HZ := Lib.hid hz; clear hz
      go_wp2
      go_ret
      refine ⟨_, rfl, ?_, rfl⟩
      rw [dig_take (k := 0) h3 (by omega) (fun j h h' => HZ.out j h (by rw [Hn.out]; exact h')) (.inl rfl)]
      exact Wd.nil_ _
    · obtain ⟨b, off, rfl, hb, hc⟩ := h4 (by omega)
      have hx := hc (k - 1) (by omega)
      obtain ⟨x, hxe⟩ : ∃ x, x = l.getD (k - 1) 0 := ⟨_, rfl⟩
      rw [← hxe] at hx
      have Hx := Lib.hid hxe; clear hxe
      have HC := Lib.hid hc; clear hc h4
      have HZ := Lib.hid hz; clear hz
      have hkp : 0 < k := by omega
      by_cases hx0 : x = 0
      · subst hx0
        go_wp2
        go_round
        case rel =>
          refine ⟨k - 1, by rw [show ((k : Int) - 1) = ((k - 1 : Nat) : Int) from by omega], by omega, fun j hj hj' => ?_⟩
          by_cases e : j = k - 1
          · rw [e]; exact Hx.out.symm
          · exact HZ.out j (by omega) hj'
        case measure => simp [intOf]; omega
      · go_wp2
        go_ret
        have hl : (l.take k).length = k := by rw [List.length_take, ← Hn.out]; omega
        refine ⟨.slice (some ⟨b, off, none⟩) k k, rfl, ?_, rfl⟩
        rw [dig_take (k := k) h3 (by rw [← Hn.out]; omega) (fun j h h' => HZ.out j h (by rw [Hn.out]; exact h')) (.inr (by rw [← Hx.out]; exact hx0))]
        refine ⟨some ⟨b, off, none⟩, k, by rw [hl], by omega, by omega, h3.take k, fun _ => ⟨b, off, rfl, hb, fun j hj => ?_⟩⟩
        rw [hl] at hj
        rw [HC.out j (by omega)]
        simp [List.getD_eq_getElem?_getD, List.getElem?_take, hj]

end Go.Proofs.YtmlopkkbgpfdnaaGreatDoor
namespace Go.Proofs.YtmlopkkbgpfdnaaGreatDoor
open Go.ChangeShapes Go.WideShapes Go.ChangeAt Go.RowKit Go.Joins

theorem own_ : ownKnob Tryz.prog.godebug = none := by kernel_rfl
theorem laidOut_ : laidOutB Tryz.prog = true := by kernel_rfl
theorem cells66 : Tryz.prog.cellsOf 66 = 1 := by kernel_rfl
theorem cells24 : Tryz.prog.cellsOf 24 = 2 := by kernel_rfl

set_option maxRecDepth 1000000 in
theorem open_int_in {H : Type} {enc : TypeId × Value → H} {W : World} {r : Reach} {b0 base : Nat} {spare : Nat → Bool} {held : Bool} {v : Value} {d : DataW H} {p : List MemPlace} (hv : Value.okWide Tryz.prog W r b0 24 v)
    (h : DataW.Trod enc Tryz.prog W base spare held 24 v d p) : ∃ (neg : Bool) (A : Option Addr) (n c : Nat) (l : List Nat), v = .agg #[.bool neg, .slice A n c] ∧ Wd W (.slice A n c) l := by
  obtain ⟨c0, c1, y0, y1, m, rfl, -, -, hy0, hy1⟩ := open_agg2 Tryz.underlying24 (by kernel_rfl) cells24 hv h
  obtain ⟨neg, e0, -⟩ := DataW.trod_bool Tryz.underlying4 hy0
  simp at e0
  subst e0
  rcases open_ints Tryz.underlying22 Tryz.underlying66 cells66 hy1 with ⟨hcs, -⟩ | ⟨a, len, cap, zs, hcs, -, hl, hm, hz, -, hcell, hwz⟩
  · simp at hcs
    subst hcs
    exact ⟨neg, none, 0, 0, [], rfl, Wd.nil_ W⟩
  · simp at hcs
    subst hcs
    have hlz : len ≤ zs.length := by rw [hz]; split <;> omega
    refine ⟨neg, some a, len, cap, (zs.take len).map Int.toNat, rfl, some a, cap, ?_, ?_, ?_, ?_, fun hp => ?_⟩
    · congr 1
      simp; omega
    · simp; omega
    · unfold maxLen at hm; omega
    · intro x hx
      simp only [List.mem_map] at hx
      obtain ⟨z, hz1, rfl⟩ := hx
      have := hwz z (List.mem_of_mem_take hz1)
      have h1 : IntKind.u32.min = 0 := rfl
      have h2 : IntKind.u32.max = 4294967295 := rfl
      simp only [Lit.wf, Bool.and_eq_true, decide_eq_true_eq] at this
      omega
    · have hp' : 0 < len := by simp at hp; omega
      obtain ⟨b, off, spot⟩ := a
      have hc0 := hcell 0 (by omega)
      have hspot : spot = none := by simpa [Addr.add] using World.cell?_spot hc0
      subst hspot
      have hbl : b < W.heap.size := by
        have := World.block_lt_of_cell? W _ hc0
        simpa [Addr.add] using this
      refine ⟨b, off, rfl, hbl, fun j hj => ?_⟩
      have hjl : j < len := by simp at hj; omega
      have hj2 := hcell j (by omega)
      have e : (⟨b, off, none⟩ : Addr).add j = ⟨b, off + j, none⟩ := by unfold Addr.add; split <;> simp_all
      rw [e] at hj2
      rw [hj2]
      have hw := hwz (zs.getD j 0) (by
        simp only [List.getD_eq_getElem?_getD]
        rw [List.getElem?_eq_getElem (by omega)]
        exact List.getElem_mem _)
      have h1 : IntKind.u32.min = 0 := rfl
      simp only [Lit.wf, Bool.and_eq_true, decide_eq_true_eq] at hw
      have hnn : 0 ≤ zs.getD j 0 := by omega
      have e2 : ((zs.take len).map Int.toNat).getD j 0 = (zs.getD j 0).toNat := by
        simp only [List.getD_eq_getElem?_getD]
        rw [List.getElem?_map, List.getElem?_take, if_pos hjl, List.getElem?_eq_getElem (by omega)]
        rfl
      rw [e2, Int.toNat_of_nonneg hnn]
end Go.Proofs.YtmlopkkbgpfdnaaGreatDoor
namespace Go.Proofs.YtmlopkkbgpfdnaaGreatDoor
open Go.RowKit

/-- the cells of a list of words -/
def U32s (l : List Nat) : Array Value := (l.map fun x : Nat => Value.int .u32 (x : Int)).toArray
theorem U32s_get {l : List Nat} {i : Nat} (h : i < l.length) : (U32s l)[i]? = some (.int .u32 (l.getD i 0 : Nat)) := by
  simp [U32s, List.getD_eq_getElem?_getD, h]
theorem U32s_set {l : List Nat} {i x : Nat} : (U32s l).setIfInBounds i (.int .u32 (x : Int)) = U32s (l.set i x) := by
  simp [U32s]

/-- block g of w is just the words l -/
def Blk (w : World) (g : Nat) (l : List Nat) : Prop := w.heap[g]? = some (.cells (U32s l) 66 (0, 0))

section
variable {w w' : World} {g : Nat} {l : List Nat}
theorem Blk.lt (h : Blk w g l) : g < w.heap.size := by
  rcases Nat.lt_or_ge g w.heap.size with hlt | hge
  · exact hlt
  · unfold Blk at h; rw [Array.getElem?_eq_none hge] at h; cases h
theorem Blk.cell (h : Blk w g l) {i : Nat} (hi : i < l.length) : w.cell? ⟨g, i, none⟩ = some (.int .u32 (l.getD i 0 : Nat)) :=
  (cell_of_row w g i (U32s l) 66 (0, 0) h).trans (U32s_get hi)
theorem Blk.frozen (h : Blk w g l) (i : Nat) : w.frozen? ⟨g, i, none⟩ = false := by
  unfold Blk at h
  simp [World.frozen?, h]
theorem Blk.drew (h : Blk w g l) : Blk w.drew g l := h
theorem Blk.alloc (h : Blk w g l) (o : Obj) : Blk (w.alloc o) g l := (Below.heap_alloc w o g h.lt).trans h
theorem Blk.set_ (h : Blk w g l) (i x : Nat) : Blk (w.setCell ⟨g, i, none⟩ (.int .u32 (x : Int))) g (l.set i x) := by
  unfold Blk at h ⊢
  simp [World.setCell, Array.getElem?_modify, h, U32s_set]
theorem Blk.far (h : Blk w g l) {p : Addr} (hp : g ≠ p.block) (u : Value) : Blk (w.setCell p u) g l := (Below.heap_setCell w p u g hp).trans h
theorem Blk.below {B : Nat} (h : Blk w g l) (hb : Below B w w') (hg : g < B) : Blk w' g l := (hb.block g hg).trans h
theorem Blk.wd (h : Blk w g l) (ho : Ok l) (hl : l.length ≤ 9223372036854775807) (c : Nat) (hc : l.length ≤ c) (hc' : c ≤ 9223372036854775807) : Wd w (.slice (some ⟨g, 0, none⟩) l.length c) l :=
  ⟨_, c, rfl, hc, hc', ho, fun _ => ⟨g, 0, rfl, h.lt, fun j hj => by rw [Nat.zero_add]; exact h.cell hj⟩⟩
end

theorem Wd.new (w : World) (l : List Nat) (ho : Ok l) (cs : Array Value) (t : TypeId) (n c : Nat) (hl : n = l.length) (hc : n ≤ c) (hc' : c ≤ 9223372036854775807)
    (hcs : ∀ j, j < l.length → cs[j]? = some (.int .u32 (l.getD j 0 : Nat))) : Wd (w.alloc (.cells cs t)) (.slice (some ⟨w.heap.size, 0, none⟩) n c) l := by
  subst hl
  exact ⟨_, c, rfl, hc, hc', ho, fun _ => ⟨w.heap.size, 0, rfl, by simp, fun j hj => by rw [Nat.zero_add, World.cell?_alloc_new]; exact hcs j hj⟩⟩

theorem below_alloc (w : World) (o : Obj) : Below w.heap.size w (w.alloc o) := (Below.refl _ _).alloc (Nat.le_refl _) o

/-- exact.naturalOf -/
theorem naturalOf_any (n : Nat) (hn : n < 18446744073709551616) (w : World) :
    Calls Tryz.prog 69 #[.int .u64 n] w fun e w' => ∃ u, e = .returned u ∧ Wd w' u (dig n) ∧ Below w.heap.size w w' := by
  have hv : val [n % 4294967296, n / 4294967296] = n := by simp only [val]; omega
  have ho : Ok [n % 4294967296, n / 4294967296] := Ok.mk (by omega) (Ok.mk (by omega) Ok.nil)
  have Hv := Lib.hid hv; clear hv
  go_enter Tryz.func69, Tryz.ntmps69
  go_wp2_with fail
  refine (trimE_any _ [n % 4294967296, n / 4294967296] _ (Wd.new w _ ho _ _ 2 2 rfl (by omega) (by omega) ?_)).mono ?_
  · intro j hj
    match j, hj with
    | 0, _ => simp
    | 1, _ => simp
  rintro e w' ⟨u, rfl, hu, rfl⟩
  rw [Hv.out] at hu
  have hb := below_alloc w (Obj.cells #[Value.int IntKind.u32 (↑n % 4294967296), Value.int IntKind.u32 (↑n / 4294967296)] 66)
  go_wp2
  go_ret
  exact ⟨u, rfl, hu, hb⟩

set_option maxRecDepth 100000 in
theorem info66 : (Tryz.prog.info? 66).map (fun i => (i.zero, i.size, i.bytes)) = some (some (.int .u32 0), 1, 4) := by kernel_rfl

theorem made_zeros (k : Nat) : madeCells (Value.int .u32 0).cells k = U32s (zeros k) := by
  apply Array.ext
  · simp [madeCells, U32s, zeros]
  · intro i h1 h2
    simp [madeCells, U32s, zeros, Value.cells, Nat.mod_one]

theorem make_u32 (t : TypeId) (ht : Tryz.prog.underlying t = some (.slice 66)) (k : Nat) (hk : k ≤ 70368744177664) (w : World) :
    (Instr.makeSlice t (.int .i64 (k : Int)) (.int .i64 (k : Int))).run Tryz.prog w = .ok (.slice (some ⟨w.heap.size, 0, none⟩) k k) (w.alloc (.cells (U32s (zeros k)) 66)) := by
  obtain ⟨i0, hi, hz0, hz1, hz2⟩ := info_parts info66
  have hr := run_make (P := Tryz.prog) w t 66 i0 _ ht hi hz0 .i64 .i64 k k (by omega) (Int.le_refl _) (by rw [hz2]; omega) (by omega)
  rw [hr, Int.toNat_natCast, hz1, Nat.mul_one, made_zeros]

theorem add32_any (a b c : Nat) (ha : a < 4294967296) (hb : b < 4294967296) (hc : c < 4294967296) (w : World) :
    Calls Tryz.prog 120 #[.int .u32 a, .int .u32 b, .int .u32 c] w fun e w' =>
      e = .returned (.tuple #[.int .u32 ((a + b + c) % 4294967296 : Nat), .int .u32 ((a + b + c) / 4294967296 : Nat)]) ∧ w = w' := by
  go_enter Tryz.func120, Tryz.ntmps120
  go_wp2
  go_ret2
  exact ⟨by simp, rfl⟩

set_option maxRecDepth 100000 in
/-- exact plus -/
theorem plusE_any (x y : Nat) (u v : Value) (w : World) (hx : Wd w u (dig x)) (hy : Wd w v (dig y)) (lx : (dig x).length ≤ 1000000) (ly : (dig y).length ≤ 1000000) :
    Calls Tryz.prog 97 #[u, v] w fun e w' => ∃ r, e = .returned r ∧ Wd w' r (dig (x + y)) ∧ Below w.heap.size w w' := by
  have Hx := Lib.hid hx
  have Hy := Lib.hid hy
  obtain ⟨A, c, rfl, -, -, -, -⟩ := hx
  obtain ⟨A', c', rfl, -, -, -, -⟩ := hy
  obtain ⟨nx, hnx⟩ : ∃ n, n = (dig x).length := ⟨_, rfl⟩
  obtain ⟨ny, hny⟩ : ∃ n, n = (dig y).length := ⟨_, rfl⟩
  rw [← hnx] at lx Hx ⊢
  rw [← hny] at ly Hy ⊢
  have Hnx := Lib.hid hnx; clear hnx
  have Hny := Lib.hid hny; clear hny
  obtain ⟨n, hn, h1, h2, h3⟩ : ∃ n : Nat, max (nx : Int) (ny : Int) = (n : Int) ∧ nx ≤ n ∧ ny ≤ n ∧ n ≤ 1000000 := ⟨max nx ny, by omega, by omega, by omega, by omega⟩
  have hmk : ∀ w, (Instr.makeSlice 42 (.int .i64 ((n : Int) + 1)) (.int .i64 ((n : Int) + 1))).run Tryz.prog w = .ok (.slice (some ⟨w.heap.size, 0, none⟩) (n + 1) (n + 1)) (w.alloc (.cells (U32s (zeros (n + 1))) 66)) := fun w => make_u32 42 Tryz.underlying42 (n + 1) (by omega) w
  go_enter Tryz.func97, Tryz.ntmps97
  go_wp2_with fail
  go_loopw [7, 18] (fun cr i wr => ∃ (k cv : Nat) (L : List Nat), i = .int .i64 k ∧ k ≤ n ∧ cr = .int .u32 cv ∧ cv ≤ 1 ∧ L.length = n + 1 ∧ Ok L ∧ Blk wr w.heap.size L ∧ Below w.heap.size w wr ∧
      val (L.take k) + 4294967296 ^ k * cv = x % 4294967296 ^ k + y % 4294967296 ^ k) (fun _ i _ => n - (intOf i).toNat)
  case atStart => exact ⟨0, 0, zeros (n + 1), rfl, Nat.zero_le _, rfl, by omega, zeros_length _, zeros_ok _, heap_alloc_new w _, below_alloc _ _, by simp [val, Nat.mod_one]⟩
  case round =>
    obtain ⟨k, cv, L, rfl, hk, rfl, hcv, hL, hok, hblk, hbel, hval⟩ := hrel
    have HV := Lib.hid hval; clear hval
    have HL := Lib.hid hL; clear hL
    have HX : Wd wr (.slice A nx c) (dig x) := Hx.out.below hbel
    have HY : Wd wr (.slice A' ny c') (dig y) := Hy.out.below hbel
    have hfr := hblk.frozen k
    have hce := hblk.cell (i := k) (by rw [HL.out]; omega)
    have hB := Lib.hid hblk; clear hblk
    by_cases hlt : k < n
    · go_wp2_with fail
      refine (word_dig _ x k _ HX).mono ?_
      rintro e w' ⟨rfl, rfl⟩
      go_wp2_with fail
      refine (word_dig _ y k _ HY).mono ?_
      rintro e w' ⟨rfl, rfl⟩
      go_wp2_with fail
      refine (add32_any _ _ _ (dg_lt x k) (dg_lt y k) (by omega) _).mono ?_
      rintro e w' ⟨rfl, rfl⟩
      obtain ⟨s, hs⟩ : ∃ s, s = dg x k + dg y k + cv := ⟨_, rfl⟩
      rw [← hs]
      have hsl : s < 8589934592 := by have := dg_lt x k; have := dg_lt y k; omega
      have hs2 : s / 4294967296 ≤ 1 := by have := dg_lt x k; have := dg_lt y k; omega
      have Hs := Lib.hid hs; clear hs
      obtain ⟨lo, hlo⟩ : ∃ lo, lo = s % 4294967296 := ⟨_, rfl⟩
      obtain ⟨hi, hhi⟩ : ∃ hi, hi = s / 4294967296 := ⟨_, rfl⟩
      rw [← hlo, ← hhi]
      rw [← hhi] at hs2
      have Hlo := Lib.hid hlo; clear hlo
      have Hhi := Lib.hid hhi; clear hhi
      go_wp2
      go_roundw
      case rel =>
        refine ⟨k + 1, hi, L.set k lo, by go_num, by omega, rfl, hs2, by rw [List.length_set, HL.out], hok.set (by rw [Hlo.out]; omega), hB.out.set_ k lo, hbel.setCell (Nat.le_refl _) _, ?_⟩
        rw [val_take_set (by rw [HL.out]; omega), Hlo.out, Hhi.out]
        exact add_round HV.out Hs.out
      case measure => simp [intOf]; omega
    · have hkn : k = n := by omega
      subst hkn
      go_wp2_with fail
      have hL2 : (L.set k cv).length = k + 1 := by rw [List.length_set, HL.out]
      have hv : val (L.set k cv) = x + y := by
        have e := val_take_set (l := L) (k := k) (x := cv) (by rw [HL.out]; omega)
        rw [List.take_of_length_le (by rw [hL2]; omega)] at e
        rw [e, HV.out, mod_len (by rw [← Hnx.out]; exact h1), mod_len (by rw [← Hny.out]; exact h2)]
      have hw2 := (hB.out.set_ k cv).wd (hok.set (by omega)) (by rw [hL2]; omega) (k + 1) (by rw [hL2]; omega) (by omega)
      rw [hL2] at hw2
      refine (trimE_any _ _ _ hw2).mono ?_
      rintro e w' ⟨r, rfl, hr, rfl⟩
      rw [hv] at hr
      have hb2 := hbel.setCell (p := ⟨w.heap.size, k, none⟩) (Nat.le_refl _) (.int .u32 (cv : Int))
      clear hv hL2 hw2
      go_wp2
      go_ret
      exact ⟨r, rfl, hr, hb2⟩

end Go.Proofs.YtmlopkkbgpfdnaaGreatDoor
namespace Go.Proofs.YtmlopkkbgpfdnaaGreatDoor
open Go.RowKit

theorem top_bit (n : Nat) (h : n < 4294967296) : n / 2147483648 = if n.testBit 31 then 1 else 0 := by
  rw [Nat.testBit_eq_decide_div_mod_eq]
  have : n / 2147483648 < 2 := by omega
  by_cases h1 : n / 2147483648 = 1
  · simp [h1]
  · rw [if_neg (by simp; omega)]; omega

theorem sub_borrow_nat (a b c d : Nat) (ha : a < 4294967296) (hb : b < 4294967296) (hc : c ≤ 1) (hd : d = (a + 4294967296 - b - c) % 4294967296) :
    (((4294967295 ^^^ a) &&& b) ||| ((4294967295 ^^^ (a ^^^ b)) &&& d)) / 2147483648 = if a < b + c then 1 else 0 := by
  have hd' : d < 4294967296 := by omega
  have m : (4294967295 : Nat) < 2 ^ 32 := by decide
  rw [top_bit _ (Nat.or_lt_two_pow (n := 32) (Nat.and_lt_two_pow (n := 32) _ hb) (Nat.and_lt_two_pow (n := 32) _ hd'))]
  simp only [Nat.testBit_or, Nat.testBit_and, Nat.testBit_xor]
  rw [show Nat.testBit 4294967295 31 = true from by decide]
  simp only [Nat.testBit_eq_decide_div_mod_eq]
  have e : (2 : Nat) ^ 31 = 2147483648 := by decide
  rw [e]
  rcases (by omega : a / 2147483648 % 2 = 0 ∨ a / 2147483648 % 2 = 1) with h1 | h1 <;>
  rcases (by omega : b / 2147483648 % 2 = 0 ∨ b / 2147483648 % 2 = 1) with h2 | h2 <;>
  rcases (by omega : d / 2147483648 % 2 = 0 ∨ d / 2147483648 % 2 = 1) with h3 | h3 <;>
  simp [h1, h2, h3] <;> omega

theorem max_u32 : IntKind.u32.max = ((4294967295 : Nat) : Int) := by decide

theorem sub_borrow (a b c : Nat) (ha : a < 4294967296) (hb : b < 4294967296) (hc : c ≤ 1) :
    bits BinOp.or IntKind.u32 (bits BinOp.and IntKind.u32 (bits BinOp.xor IntKind.u32 IntKind.u32.max ↑a) ↑b)
              (bits BinOp.and IntKind.u32
                (bits BinOp.xor IntKind.u32 IntKind.u32.max (bits BinOp.xor IntKind.u32 ↑a ↑b))
                (((a : Int) - ↑b - ↑c) % 4294967296)) /
            2147483648 = ((if a < b + c then 1 else 0 : Nat) : Int) := by
  have hd : ((a : Int) - ↑b - ↑c) % 4294967296 = (((a + 4294967296 - b - c) % 4294967296 : Nat) : Int) := by omega
  rw [hd, max_u32]
  have xl : ∀ x y : Nat, x < 4294967296 → y < 4294967296 → x ^^^ y < 4294967296 := fun x y h h' => Nat.xor_lt_two_pow (n := 32) h h'
  have al : ∀ x y : Nat, y < 4294967296 → x &&& y < 4294967296 := fun x y h' => Nat.and_lt_two_pow (n := 32) x h'
  rw [u32_xor_nat _ _ (by omega) ha, u32_xor_nat _ _ ha hb, u32_xor_nat _ _ (by omega) (xl _ _ ha hb), u32_and_nat _ _ (xl _ _ (by omega) ha) hb,
    u32_and_nat _ _ (xl _ _ (by omega) (xl _ _ ha hb)) (by omega), u32_or_nat _ _ (al _ _ hb) (al _ _ (by omega)), ← sub_borrow_nat a b c _ ha hb hc rfl]
  omega

set_option maxRecDepth 100000 in
theorem sub32_any (a b c : Nat) (ha : a < 4294967296) (hb : b < 4294967296) (hc : c ≤ 1) (w : World) :
    Calls Tryz.prog 121 #[.int .u32 a, .int .u32 b, .int .u32 c] w fun e w' =>
      e = .returned (.tuple #[.int .u32 ((a + 4294967296 - b - c) % 4294967296 : Nat), .int .u32 ((if a < b + c then 1 else 0 : Nat) : Int)]) ∧ w = w' := by
  have H := sub_borrow a b c ha hb hc
  obtain ⟨r, hr⟩ : ∃ r : Nat, r = if a < b + c then 1 else 0 := ⟨_, rfl⟩
  rw [← hr] at H ⊢
  clear hr
  go_enter Tryz.func121, Tryz.ntmps121
  go_wp2
  go_ret2
  exact ⟨by simp; omega, rfl⟩

set_option maxRecDepth 100000 in
/-- exact minus -/
theorem minusE_any (x y : Nat) (u v : Value) (w : World) (hx : Wd w u (dig x)) (hy : Wd w v (dig y)) (lx : (dig x).length ≤ 1000000) (hyx : y ≤ x) :
    Calls Tryz.prog 98 #[u, v] w fun e w' => ∃ r, e = .returned r ∧ Wd w' r (dig (x - y)) ∧ Below w.heap.size w w' := by
  have Hx := Lib.hid hx
  have Hy := Lib.hid hy
  have Hyx := Lib.hid hyx; clear hyx
  obtain ⟨A, c, rfl, -, -, -, hcx⟩ := hx
  obtain ⟨n, hn⟩ : ∃ n, n = (dig x).length := ⟨_, rfl⟩
  rw [← hn] at lx Hx hcx ⊢
  have Hn := Lib.hid hn; clear hn
  have hmk : ∀ w, (Instr.makeSlice 42 (.int .i64 (n : Int)) (.int .i64 (n : Int))).run Tryz.prog w = .ok (.slice (some ⟨w.heap.size, 0, none⟩) n n) (w.alloc (.cells (U32s (zeros n)) 66)) := fun w => make_u32 42 Tryz.underlying42 n (by omega) w
  have HC := Lib.hid hcx; clear hcx
  go_enter Tryz.func98, Tryz.ntmps98
  go_wp2_with fail
  go_loopw [6, 13] (fun cr i wr => ∃ (k cv : Nat) (L : List Nat), i = .int .i64 k ∧ k ≤ n ∧ cr = .int .u32 cv ∧ cv ≤ 1 ∧ L.length = n ∧ Ok L ∧ Blk wr w.heap.size L ∧ Below w.heap.size w wr ∧
      val (L.take k) + y % 4294967296 ^ k = x % 4294967296 ^ k + 4294967296 ^ k * cv) (fun _ i _ => n - (intOf i).toNat)
  case atStart => exact ⟨0, 0, zeros n, rfl, Nat.zero_le _, rfl, by omega, zeros_length _, zeros_ok _, heap_alloc_new w _, below_alloc _ _, by simp [val, Nat.mod_one]⟩
  case round =>
    obtain ⟨k, cv, L, rfl, hk, rfl, hcv, hL, hok, hblk, hbel, hval⟩ := hrel
    have HV := Lib.hid hval; clear hval
    have HL := Lib.hid hL; clear hL
    have HY : Wd wr v (dig y) := Hy.out.below hbel
    by_cases hlt : k < n
    · have hfr := hblk.frozen k
      have hce := hblk.cell (i := k) (by rw [HL.out]; omega)
      have hB := Lib.hid hblk; clear hblk
      obtain ⟨b, off, rfl, hb, hc⟩ := HC.out (by omega)
      have hxk : wr.cell? ⟨b, off + k, none⟩ = some (.int .u32 (dg x k : Nat)) := by
        rw [hbel.cell (p := ⟨b, off + k, none⟩) hb, hc k hlt, dig_dg]
      clear HC
      have HCC := Lib.hid hc; clear hc
      obtain ⟨lo, hlo⟩ : ∃ lo, lo = (dg x k + 4294967296 - dg y k - cv) % 4294967296 := ⟨_, rfl⟩
      obtain ⟨hi, hhi⟩ : ∃ hi, hi = (if dg x k < dg y k + cv then 1 else 0) := ⟨_, rfl⟩
      have hhi1 : hi ≤ 1 := by rw [hhi]; split <;> omega
      have hlo1 : lo < 4294967296 := by rw [hlo]; omega
      have es : ∀ w : World, Calls Tryz.prog 121 #[.int .u32 (dg x k : Nat), .int .u32 (dg y k : Nat), .int .u32 cv] w fun e w' => e = .returned (.tuple #[.int .u32 lo, .int .u32 hi]) ∧ w = w' := fun w => by
        have := sub32_any _ _ _ (dg_lt x k) (dg_lt y k) hcv w
        rwa [← hlo, ← hhi] at this
      have ES := Lib.hid es; clear es
      have Hlo := Lib.hid hlo; clear hlo
      have Hhi := Lib.hid hhi; clear hhi
      go_wp2_with fail
      go_region_with (first
        | (go_at_call 104; refine (word_dig v y k _ (by exact HY)).mono ?_; rintro e w' ⟨rfl, rfl⟩)
        | (go_at_call 121; refine (ES.out _).mono ?_; rintro e w' ⟨rfl, rfl⟩))
      all_goals go_wp2
      all_goals
        go_roundw
        case rel =>
          refine ⟨k + 1, hi, L.set k lo, by go_num, by omega, rfl, hhi1, by rw [List.length_set, HL.out], hok.set hlo1, (hB.out.set_ k lo).drew, (hbel.setCell (Nat.le_refl _) _).drew, ?_⟩
          rw [val_take_set (by rw [HL.out]; omega)]
          exact sub_round HV.out hcv Hlo.out Hhi.out
        case measure => simp [intOf]; omega
    · have hkn : k = n := by omega
      subst hkn
      have hB := Lib.hid hblk; clear hblk
      go_wp2_with fail
      have hv : val L = x - y := by
        have e := HV.out
        rw [List.take_of_length_le (by rw [HL.out]; omega), mod_len (x := x) (by rw [← Hn.out]; omega)] at e
        have hxl := val_lt hok
        rw [HL.out] at hxl
        have hyy : y % 4294967296 ^ k = y := mod_len (by have := dig_len_mono Hyx.out; rw [← Hn.out] at this; exact this)
        rw [hyy] at e
        have := Hyx.out
        rcases (by omega : cv = 0 ∨ cv = 1) with h | h
        · subst h; omega
        · subst h; have hlt := lt_of_dig_len (n := x) (k := k) (by rw [← Hn.out]; omega); omega
      have hw2 := hB.out.wd hok (by rw [HL.out]; omega) k (by rw [HL.out]; omega) (by omega)
      rw [HL.out] at hw2
      refine (trimE_any _ _ _ hw2).mono ?_
      rintro e w' ⟨r, rfl, hr, rfl⟩
      rw [hv] at hr
      clear hv hw2
      go_wp2
      go_ret
      exact ⟨r, rfl, hr, hbel⟩

end Go.Proofs.YtmlopkkbgpfdnaaGreatDoor
namespace Go.Proofs.YtmlopkkbgpfdnaaGreatDoor
open Go.RowKit

theorem cmpInt_any (x y : Int) (w : World) :
    Calls Tryz.prog 126 #[.int .i64 x, .int .i64 y] w fun e w' => e = .returned (.int .i64 (if x < y then -1 else if y < x then 1 else 0)) ∧ w = w' := by
  rcases Int.lt_trichotomy x y with h | h | h
  · rw [if_pos h]
    go_enter Tryz.func126, Tryz.ntmps126
    go_wp2
    go_ret
    exact ⟨rfl, rfl⟩
  · subst h
    rw [if_neg (by omega), if_neg (by omega)]
    go_enter Tryz.func126, Tryz.ntmps126
    go_wp2
    go_ret
    exact ⟨rfl, rfl⟩
  · rw [if_neg (by omega), if_pos h]
    go_enter Tryz.func126, Tryz.ntmps126
    go_wp2
    go_ret
    exact ⟨rfl, rfl⟩

theorem cmpU32_any (x y : Nat) (w : World) :
    Calls Tryz.prog 127 #[.int .u32 (x : Int), .int .u32 (y : Int)] w fun e w' => e = .returned (.int .i64 (cmpN x y)) ∧ w = w' := by
  rcases Nat.lt_trichotomy x y with h | h | h
  · rw [cmpN_lt h]
    go_enter Tryz.func127, Tryz.ntmps127
    go_wp2
    go_ret
    exact ⟨rfl, rfl⟩
  · subst h
    rw [cmpN_eq rfl]
    go_enter Tryz.func127, Tryz.ntmps127
    go_wp2
    go_ret
    exact ⟨rfl, rfl⟩
  · rw [cmpN_gt h]
    go_enter Tryz.func127, Tryz.ntmps127
    go_wp2
    go_ret
    exact ⟨rfl, rfl⟩

theorem Wd.cell {w : World} {A : Option Addr} {n c x k : Nat} (h : Wd w (.slice A n c) (dig x)) (hk : k < n) :
    ∃ b off, A = some ⟨b, off, none⟩ ∧ b < w.heap.size ∧ ∀ k, k < n → w.cell? ⟨b, off + k, none⟩ = some (.int .u32 (dg x k : Nat)) := by
  obtain ⟨A', c', he, h1, h2, h3, h4⟩ := h
  injection he with e1 e2 e3
  subst e1 e3
  rw [← e2] at h4
  obtain ⟨b, off, rfl, hb, hc⟩ := h4 (by omega)
  exact ⟨b, off, rfl, hb, fun k hk => by rw [hc k hk, dig_dg]⟩

theorem Wd.len {w : World} {A : Option Addr} {n c : Nat} {l : List Nat} (h : Wd w (.slice A n c) l) : n = l.length := by
  obtain ⟨A', c', he, _⟩ := h
  injection he
theorem Wd.shape {w : World} {v : Value} {l : List Nat} (h : Wd w v l) : ∃ A c, v = .slice A l.length c ∧ l.length ≤ c ∧ c ≤ 9223372036854775807 := by
  obtain ⟨A', c', he, h1, h2, _⟩ := h
  exact ⟨A', c', he, h1, h2⟩
theorem Wd.drewN {w : World} {v : Value} {l : List Nat} (h : Wd w v l) (n : Nat) : Wd (w.drewN n) v l := h
theorem Wd.drew {w : World} {v : Value} {l : List Nat} (h : Wd w v l) : Wd w.drew v l := h

theorem compareE_ne (x y n m c c' : Nat) (A A' : Option Addr) (w : World) (hn : n = (dig x).length) (hm : m = (dig y).length) (hne : n ≠ m) (ln : n ≤ 9223372036854775807) (lm : m ≤ 9223372036854775807) :
    Calls Tryz.prog 105 #[.slice A n c, .slice A' m c'] w fun e w' => e = .returned (.int .i64 (cmpN x y)) ∧ ∃ n, w' = w.drewN n := by
  have hc : (if (n : Int) < m then (-1 : Int) else if (m : Int) < n then 1 else 0) = cmpN x y := by
    rcases Nat.lt_or_ge n m with h | h
    · rw [if_pos (by omega), cmpN_lt (lt_of_len_lt (by omega))]
    · rw [if_neg (by omega), if_pos (by omega), cmpN_gt (lt_of_len_lt (by omega))]
  have Hn := Lib.hid hn; clear hn
  have Hm := Lib.hid hm; clear hm
  have Hc := Lib.hid hc; clear hc
  have hb : ((n : Int) != m) = true := by simp; omega
  go_enter Tryz.func105, Tryz.ntmps105
  go_wp2_with fail
  refine (cmpInt_any _ _ _).mono ?_
  rintro e w' ⟨rfl, rfl⟩
  rw [Hc.out]
  go_wp2
  go_ret
  exact ⟨rfl, 0, rfl⟩

set_option maxRecDepth 100000 in
theorem compareE_eq (x y n c c' : Nat) (A A' : Option Addr) (w : World) (hx : Wd w (.slice A n c) (dig x)) (hy : Wd w (.slice A' n c') (dig y)) (ln : n ≤ 9223372036854775807) :
    Calls Tryz.prog 105 #[.slice A n c, .slice A' n c'] w fun e w' => e = .returned (.int .i64 (cmpN x y)) ∧ ∃ n, w' = w.drewN n := by
  have Hx := Lib.hid hx
  have Hy := Lib.hid hy
  clear hx hy
  go_enter Tryz.func105, Tryz.ntmps105
  go_wp2_with fail
  go_loopw [5] (fun i wr => ∃ (k q : Nat), i = .int .i64 ((k : Int) - 1) ∧ k ≤ n ∧ wr = w.drewN q ∧ x / 4294967296 ^ k = y / 4294967296 ^ k) (fun i _ => (intOf i + 1).toNat)
  case atStart => exact ⟨n, 0, rfl, Nat.le_refl _, rfl, by rw [div_len (by rw [← Hx.out.len]; omega), div_len (by rw [← Hy.out.len]; omega)]⟩
  case round =>
    obtain ⟨k, q, rfl, hk, rfl, hq⟩ := hrel
    have HQ := Lib.hid hq; clear hq
    by_cases hk0 : k = 0
    · subst hk0
      have hr : cmpN x y = 0 := cmpN_eq (by have := HQ.out; simpa using this)
      have Hr := Lib.hid hr; clear hr
      go_wp2
      go_ret
      exact ⟨by rw [Hr.out]; rfl, q, rfl⟩
    · obtain ⟨j, rfl⟩ : ∃ j, k = j + 1 := ⟨k - 1, by omega⟩
      obtain ⟨b, off, rfl, -, hcx⟩ := Wd.cell (k := j) Hx.out (by omega)
      obtain ⟨b', off', rfl, -, hcy⟩ := Wd.cell (k := j) Hy.out (by omega)
      have h1 := hcx j (by omega)
      have h2 := hcy j (by omega)
      clear hcx hcy
      obtain ⟨p, hp⟩ : ∃ p, p = dg x j := ⟨_, rfl⟩
      obtain ⟨r, hr⟩ : ∃ r, r = dg y j := ⟨_, rfl⟩
      rw [← hp] at h1
      rw [← hr] at h2
      have Hp := Lib.hid hp; clear hp
      have Hr := Lib.hid hr; clear hr
      rw [show (((j + 1 : Nat)) : Int) - 1 = (j : Int) from by omega]
      have hjn : (j : Int) < (n : Int) := by omega
      have hj0 : (0 : Int) ≤ (j : Int) := by omega
      by_cases hpr : p = r
      · subst hpr
        go_wp2_with fail
        go_quiet (fail)
        go_wp2
        go_roundw
        case rel => exact ⟨j, _, rfl, by omega, rfl, dg_cmp_eq HQ.out (by rw [← Hp.out, ← Hr.out])⟩
        case measure => simp [intOf]
      · have hb : ((p : Int) != r) = true := by simp; omega
        have hfin : cmpN p r = cmpN x y := by
          rcases Nat.lt_or_ge p r with h | h
          · rw [cmpN_lt h, cmpN_lt (dg_cmp_lt HQ.out (by rw [← Hp.out, ← Hr.out]; exact h))]
          · rw [cmpN_gt (by omega), cmpN_gt (dg_cmp_lt HQ.out.symm (by rw [← Hp.out, ← Hr.out]; omega))]
        have Hf := Lib.hid hfin; clear hfin
        go_wp2_with fail
        go_quiet (fail)
        go_wp2_with fail
        generalize hw2 : World.drewN (World.drewN w q) _ = w2
        have h1' : w2.cell? ⟨b, off + j, none⟩ = some (.int .u32 p) := by rw [← hw2]; exact h1
        have h2' : w2.cell? ⟨b', off' + j, none⟩ = some (.int .u32 r) := by rw [← hw2]; exact h2
        have Hw := Lib.hid hw2; clear hw2 h1 h2
        go_quiet ((go_at_call 127; exact Calls.quiet_of_same ((cmpU32_any p r _).mono fun _ _ h => ⟨h.1, h.2.symm⟩)))
        go_wp2
        go_ret
        rw [← Hw.out]
        exact ⟨by rw [← Hf.out]; rfl, _, by rw [World.drewN_drewN, World.drewN_drewN]⟩

set_option maxRecDepth 100000 in
/-- natural.compare -/
theorem compareE_any (x y : Nat) (u v : Value) (w : World) (hx : Wd w u (dig x)) (hy : Wd w v (dig y)) :
    Calls Tryz.prog 105 #[u, v] w fun e w' => e = .returned (.int .i64 (cmpN x y)) ∧ ∃ n, w' = w.drewN n := by
  obtain ⟨A, c, rfl, h1, h2⟩ := hx.shape
  obtain ⟨A', c', rfl, h3, h4⟩ := hy.shape
  by_cases hne : (dig x).length = (dig y).length
  · rw [← hne] at hy ⊢
    exact compareE_eq x y _ c c' A A' w hx hy (by omega)
  · exact compareE_ne x y _ _ c c' A A' w rfl rfl hne (by omega) (by omega)
end Go.Proofs.YtmlopkkbgpfdnaaGreatDoor
namespace Go.Proofs.YtmlopkkbgpfdnaaGreatDoor
open Go.RowKit

set_option maxRecDepth 100000 in
/-- exact times -/
theorem timesE_any (x y : Nat) (u v : Value) (w : World) (hx : Wd w u (dig x)) (hy : Wd w v (dig y)) (lx : (dig x).length ≤ 1000000) (ly : (dig y).length ≤ 1000000) :
    Calls Tryz.prog 85 #[u, v] w fun e w' => ∃ r, e = .returned r ∧ Wd w' r (dig (x * y)) ∧ Below w.heap.size w w' := by
  obtain ⟨A, c, rfl, -, -⟩ := hx.shape
  obtain ⟨A', c', rfl, -, -⟩ := hy.shape
  obtain ⟨n, hn⟩ : ∃ n, n = (dig x).length := ⟨_, rfl⟩
  obtain ⟨m, hm⟩ : ∃ m, m = (dig y).length := ⟨_, rfl⟩
  rw [← hn] at lx hx ⊢
  rw [← hm] at ly hy ⊢
  have Hn := Lib.hid hn; clear hn
  have Hm := Lib.hid hm; clear hm
  have Hx := Lib.hid hx; clear hx
  have Hy := Lib.hid hy; clear hy
  have hmk : ∀ w, (Instr.makeSlice 42 (.int .i64 ((n : Int) + m)) (.int .i64 ((n : Int) + m))).run Tryz.prog w = .ok (.slice (some ⟨w.heap.size, 0, none⟩) (n + m) (n + m)) (w.alloc (.cells (U32s (zeros (n + m))) 66)) := fun w => make_u32 42 Tryz.underlying42 (n + m) (by omega) w
  go_enter Tryz.func85, Tryz.ntmps85
  go_wp2_with fail
  go_loopw [21] (fun i wr => ∃ (k : Nat) (L : List Nat), i = .int .i64 k ∧ k ≤ n ∧ L.length = n + m ∧ Ok L ∧ Blk wr w.heap.size L ∧ Below w.heap.size w wr ∧
      val L = x % 4294967296 ^ k * y ∧ ∀ p, k + m ≤ p → L.getD p 0 = 0) (fun i _ => n - (intOf i).toNat)
  case atStart => exact ⟨0, zeros (n + m), rfl, Nat.zero_le _, zeros_length _, zeros_ok _, heap_alloc_new w _, below_alloc _ _, by simp [val_zeros, Nat.mod_one], fun p _ => zeros_getD _ p⟩
  case round =>
    obtain ⟨k, L, rfl, hk, hL, hok, hblk, hbel, hval, hz⟩ := hrel
    have HV := Lib.hid hval; clear hval
    have HL := Lib.hid hL; clear hL
    have HZ := Lib.hid hz; clear hz
    have HB := Lib.hid hblk; clear hblk
    by_cases hlt : k < n
    · obtain ⟨b, off, rfl, hb, hcx⟩ := Wd.cell (k := k) Hx.out hlt
      have h1 : wr.cell? ⟨b, off + k, none⟩ = some (.int .u32 (dg x k : Nat)) := (hbel.cell (p := ⟨b, off + k, none⟩) hb).trans (hcx k hlt)
      clear hcx
      obtain ⟨p, hp⟩ : ∃ p, p = dg x k := ⟨_, rfl⟩
      have hpl : p < 4294967296 := by rw [hp]; exact dg_lt _ _
      rw [← hp] at h1
      have Hp := Lib.hid hp; clear hp
      go_wp2_with fail
      rw [show k + m + 1 - k = m + 1 from by omega]
      obtain ⟨w1, rfl⟩ : ∃ w1 : World, w1 = wr := ⟨_, rfl⟩
      go_loopw [8, 41] (fun cr j w2 => ∃ (q cv : Nat) (L2 : List Nat), j = .int .i64 q ∧ q ≤ m ∧ cr = .int .u32 cv ∧ cv < 4294967296 ∧ L2.length = n + m ∧ Ok L2 ∧ Blk w2 w.heap.size L2 ∧ Below w.heap.size w w2 ∧
          val L2 + 4294967296 ^ (k + q) * cv = x % 4294967296 ^ k * y + 4294967296 ^ k * (p * (y % 4294967296 ^ q)) ∧ ∀ r, k + m ≤ r → L2.getD r 0 = 0) (fun _ j _ => m - (intOf j).toNat)
      case atStart => exact ⟨0, 0, L, rfl, Nat.zero_le _, rfl, by omega, HL.out, hok, HB.out, hbel, by rw [HV.out]; simp [Nat.mod_one], HZ.out⟩
      case round =>
        obtain ⟨q, cv, L2, rfl, hq, rfl, hcv, hL2, hok2, hblk2, hbel2, hval2, hz2⟩ := hrel
        have HV2 := Lib.hid hval2; clear hval2
        have HL2 := Lib.hid hL2; clear hL2
        have HZ2 := Lib.hid hz2; clear hz2
        by_cases hlt2 : q < m
        · obtain ⟨b', off', rfl, hb', hcy⟩ := Wd.cell (k := q) Hy.out hlt2
          have h2 : wr.cell? ⟨b', off' + q, none⟩ = some (.int .u32 (dg y q : Nat)) := (hbel2.cell (p := ⟨b', off' + q, none⟩) hb').trans (hcy q hlt2)
          clear hcy
          obtain ⟨r, hr⟩ : ∃ r, r = dg y q := ⟨_, rfl⟩
          have hrl : r < 4294967296 := by rw [hr]; exact dg_lt _ _
          rw [← hr] at h2
          have Hr := Lib.hid hr; clear hr
          have h3 := hblk2.cell (i := k + q) (by rw [HL2.out]; omega)
          have h4 := hblk2.frozen (k + q)
          obtain ⟨a, ha⟩ : ∃ a, a = L2.getD (k + q) 0 := ⟨_, rfl⟩
          have hal : a < 4294967296 := by rw [ha]; exact hok2.getD _
          rw [← ha] at h3
          have Ha := Lib.hid ha; clear ha
          have HB2 := Lib.hid hblk2; clear hblk2
          obtain ⟨s, hs⟩ : ∃ s, s = p * r + a + cv := ⟨_, rfl⟩
          have hsl : s < 18446744073709551616 := by rw [hs]; exact mul_bound hpl hrl hal hcv
          have hprod : p * r < 18446744073709551616 := by omega
          have e1 : ((p : Int) * r + a + cv) % 4294967296 = ((s % 4294967296 : Nat) : Int) := by rw [hs]; omega
          have e2 : ((p : Int) * r + a + cv) / 4294967296 = ((s / 4294967296 : Nat) : Int) := by rw [hs]; omega
          have E1 := Lib.hid e1; clear e1
          have E2 := Lib.hid e2; clear e2
          have Hs := Lib.hid hs; clear hs
          have hsl' : (p : Int) * r + a + cv < 18446744073709551616 := by rw [Hs.out] at hsl; omega
          go_wp2_with fail
          rw [E1.out, E2.out]
          go_roundw
          case rel =>
            refine ⟨q + 1, s / 4294967296, L2.set (k + q) (s % 4294967296), by go_num, by omega, rfl, by omega, by rw [List.length_set, HL2.out], hok2.set (by omega), HB2.out.set_ _ _, hbel2.setCell (Nat.le_refl _) _, ?_, ?_⟩
            · refine mul_round HV2.out (old := a) (lo := s % 4294967296) ?_ (by rw [Hs.out, Hr.out]) rfl rfl
              have := val_set (l := L2) (p := k + q) (v := s % 4294967296) (by rw [HL2.out]; omega)
              rw [← Ha.out] at this
              exact this
            · intro t ht
              rw [getD_set_ne (by omega)]
              exact HZ2.out t ht
          case measure => simp [intOf]; omega
        · have hqm : q = m := by omega
          subst hqm
          have h3 := hblk2.cell (i := k + q) (by rw [HL2.out]; omega)
          have h4 := hblk2.frozen (k + q)
          rw [HZ2.out (k + q) (Nat.le_refl _)] at h3
          have HB2 := Lib.hid hblk2; clear hblk2
          go_wp2_with fail
          go_roundw
          case rel =>
            refine ⟨k + 1, L2.set (k + q) cv, by go_num, by omega, by rw [List.length_set, HL2.out], hok2.set hcv, HB2.out.set_ _ _, hbel2.setCell (Nat.le_refl _) _, ?_, ?_⟩
            · have h5 := val_set (l := L2) (p := k + q) (v := cv) (by rw [HL2.out]; omega)
              rw [HZ2.out (k + q) (Nat.le_refl _), HV2.out, mod_len (x := y) (by rw [← Hm.out]; omega), Hp.out, mul_done] at h5
              simpa using h5
            · intro t ht
              rw [getD_set_ne (by omega)]
              exact HZ2.out t (by omega)
          case measure => simp [intOf]; omega
    · have hkn : k = n := by omega
      subst hkn
      have hv : val L = x * y := by rw [HV.out, mod_len (x := x) (by rw [← Hn.out]; omega)]
      have hw2 := HB.out.wd hok (by rw [HL.out]; omega) (k + m) (by rw [HL.out]; omega) (by omega)
      rw [HL.out] at hw2
      have Hv := Lib.hid hv; clear hv
      have Hw := Lib.hid hw2; clear hw2
      go_wp2_with fail
      refine (trimE_any _ _ _ Hw.out).mono ?_
      rintro e w' ⟨r, rfl, hr, rfl⟩
      rw [Hv.out] at hr
      go_wp2
      go_ret
      exact ⟨r, rfl, hr, hbel⟩
end Go.Proofs.YtmlopkkbgpfdnaaGreatDoor
