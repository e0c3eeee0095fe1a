/- Networks as matrices: what can still be carried across a side. -/
import Derived.Test.YtilcbbdmenknfaaM1
namespace Go.Proofs.Ytilcbbdmenknfaa

/-- what goes from S to the rest of the nodes below N -/
def rc (N : Nat) (y : Nat → Nat → Int) (S : Nat → Bool) : Int := sm N fun i => sm N fun j => if S i = true ∧ S j = false then y i j else 0
/-- r less from a to b, r more from b to a -/
def psh (y : Nat → Nat → Int) (a b : Nat) (r : Int) : Nat → Nat → Int := fun i j => if i = a ∧ j = b then y i j - r else if i = b ∧ j = a then y i j + r else y i j

theorem rc_psh {N a b : Nat} (y : Nat → Nat → Int) (r : Int) (S : Nat → Bool) (ha : a < N) (hb : b < N) (hne : a ≠ b) :
    rc N (psh y a b r) S = rc N y S - (if S a = true ∧ S b = false then r else 0) + (if S b = true ∧ S a = false then r else 0) := by
  have h1 : rc N (psh y a b r) S = sm N fun i => (sm N fun j => if S i = true ∧ S j = false then y i j else 0) + ((if i = a then (if S i = true ∧ S b = false then - r else 0) else 0) + (if i = b then (if S i = true ∧ S a = false then r else 0) else 0)) := by
    refine sm_congr fun i _ => ?_
    have h2 : (sm N fun j => if S i = true ∧ S j = false then psh y a b r i j else 0) = sm N fun j => (if S i = true ∧ S j = false then y i j else 0) + ((if j = b then (if i = a then (if S i = true ∧ S j = false then - r else 0) else 0) else 0) + (if j = a then (if i = b then (if S i = true ∧ S j = false then r else 0) else 0) else 0)) := by
      refine sm_congr fun j _ => ?_
      unfold psh
      have tt : ∀ (P A B C D : Prop) [Decidable P] [Decidable A] [Decidable B] [Decidable C] [Decidable D] (v : Int), ¬ (A ∧ C) →
          (if P then (if A ∧ B then v - r else if C ∧ D then v + r else v) else 0) = (if P then v else 0) + ((if B then (if A then (if P then -r else 0) else 0) else 0) + (if D then (if C then (if P then r else 0) else 0) else 0)) := by
        intro P A B C D _ _ _ _ _ v h
        by_cases hP : P <;> by_cases hA : A <;> by_cases hB : B <;> by_cases hC : C <;> by_cases hD : D <;> simp only [hP, hA, hB, hC, hD, if_true, if_false, and_true, and_false, and_self] <;> first | omega | (exact absurd ⟨hA, hC⟩ h)
      exact tt _ _ _ _ _ _ (fun h => hne (h.1.symm.trans h.2))
    rw [h2, sm_add, sm_add, sm_one, sm_one, if_pos hb, if_pos ha]
  rw [h1, sm_add, sm_add, sm_one, sm_one, if_pos ha, if_pos hb]
  unfold rc
  split <;> split <;> omega

/-- the matrix of a network -/
def Nw.mx (G : Nw) (i j : Nat) : Int := sm G.m fun k => if G.fr k = i ∧ G.to k = j then G.cp k else 0
theorem Nw.rc_mx (G : Nw) {N : Nat} (hN : G.In N) (S : Nat → Bool) : rc N G.mx S = G.ct S := by
  have h1 : rc N G.mx S = sm N fun i => sm N fun j => sm G.m fun k => if j = G.to k then (if i = G.fr k then (if S i = true ∧ S j = false then G.cp k else 0) else 0) else 0 := by
    refine sm_congr fun i _ => sm_congr fun j _ => ?_
    by_cases e : S i = true ∧ S j = false
    · rw [if_pos e]
      unfold mx
      refine sm_congr fun k _ => ?_
      by_cases e1 : j = G.to k
      · by_cases e2 : i = G.fr k
        · rw [if_pos ⟨e2.symm, e1.symm⟩, if_pos e1, if_pos e2, if_pos e]
        · rw [if_neg (fun h => e2 h.1.symm), if_pos e1, if_neg e2]
      · rw [if_neg (fun h => e1 h.2.symm), if_neg e1]
    · rw [if_neg e]
      refine Eq.trans (sm_zero G.m).symm (sm_congr fun k _ => ?_)
      simp only [if_neg e, ite_self]
  have h2 : ∀ i, (sm N fun j => sm G.m fun k => if j = G.to k then (if i = G.fr k then (if S i = true ∧ S j = false then G.cp k else 0) else 0) else 0) = sm G.m fun k => if i = G.fr k then (if S i = true ∧ S (G.to k) = false then G.cp k else 0) else 0 := by
    intro i
    rw [sm_swap]
    refine sm_congr fun k hk => ?_
    rw [sm_one, if_pos (hN k hk).2]
  rw [h1, sm_congr (fun i _ => h2 i), sm_swap]
  unfold ct
  refine sm_congr fun k hk => ?_
  rw [sm_one, if_pos (hN k hk).1]

/-- T has been sent from s to t: what is left, y, of the matrix c -/
structure Rm (N s t : Nat) (c y : Nat → Nat → Int) (T : Int) : Prop where
  nn : ∀ i j, i < N → j < N → 0 ≤ y i j
  sum : ∀ i j, i < N → j < N → i ≠ j → y i j + y j i = c i j + c j i
  gap : ∀ S, Nw.Sd s t S → rc N y S = rc N c S - T

theorem Rm.start {N s t : Nat} {c : Nat → Nat → Int} (h : ∀ i j, i < N → j < N → 0 ≤ c i j) : Rm N s t c c 0 := ⟨h, fun _ _ _ _ _ => rfl, fun _ _ => by omega⟩

theorem rc_nonneg {N : Nat} {y : Nat → Nat → Int} (h : ∀ i j, i < N → j < N → 0 ≤ y i j) (S : Nat → Bool) : 0 ≤ rc N y S := by
  refine sm_nonneg fun i hi => sm_nonneg fun j hj => ?_
  split
  · exact h i j hi hj
  · omega

/-- no positive element leaves S -/
def Clm (N : Nat) (y : Nat → Nat → Int) (S : Nat → Bool) : Prop := ∀ i j, i < N → j < N → 0 < y i j → S i = true → S j = true
theorem rc_closed {N : Nat} {y : Nat → Nat → Int} (h : ∀ i j, i < N → j < N → 0 ≤ y i j) (S : Nat → Bool) : rc N y S = 0 ↔ Clm N y S := by
  constructor
  · intro hz i j hi hj hp hS
    have h1 := sm_all_zero (fun i hi => sm_nonneg fun j hj => by split; exact h i j hi hj; omega) hz i hi
    have h2 := sm_all_zero (fun j hj => by split; exact h i j hi hj; omega) h1 j hj
    cases hq : S j
    · rw [if_pos ⟨hS, hq⟩] at h2; omega
    · rfl
  · intro hC
    refine Eq.trans (sm_congr (g := fun _ => 0) fun i hi => ?_) (sm_zero N)
    refine Eq.trans (sm_congr (g := fun _ => 0) fun j hj => ?_) (sm_zero N)
    split
    · rename_i e
      have := h i j hi hj
      rcases Int.lt_or_le 0 (y i j) with hp | hp
      · have := hC i j hi hj hp e.1
        rw [e.2] at this; cases this
      · omega
    · rfl

theorem Rm.weak {N s t : Nat} {c y : Nat → Nat → Int} {T : Int} (h : Rm N s t c y T) {S : Nat → Bool} (hS : Nw.Sd s t S) : T ≤ rc N c S := by
  have := h.gap S hS
  have := rc_nonneg h.nn S
  omega
theorem Rm.tight {N s t : Nat} {c y : Nat → Nat → Int} {T : Int} (h : Rm N s t c y T) {S : Nat → Bool} (hS : Nw.Sd s t S) : rc N c S = T ↔ Clm N y S := by
  rw [← rc_closed h.nn S]
  have := h.gap S hS
  omega

/-- the element of y one push later, and what a push does to all sides -/
theorem Rm.psh_gap {N a b : Nat} (y : Nat → Nat → Int) (r : Int) (S : Nat → Bool) (ha : a < N) (hb : b < N) (hne : a ≠ b) :
    rc N (psh y a b r) S = rc N y S - (if S a = true then r else 0) + (if S b = true then r else 0) := by
  rw [rc_psh y r S ha hb hne]
  cases S a <;> cases S b <;> simp

/-- a matrix while r is sent along a way from s; the way has been gone back from t to a -/
structure Pu (N s t : Nat) (c y : Nat → Nat → Int) (T r : Int) (a : Nat) : Prop where
  nn : ∀ i j, i < N → j < N → 0 ≤ y i j
  sum : ∀ i j, i < N → j < N → i ≠ j → y i j + y j i = c i j + c j i
  gap : ∀ S, Nw.Sd s t S → rc N y S = rc N c S - T + (if S t = true then r else 0) - (if S a = true then r else 0)
theorem Rm.pu {N s t : Nat} {c y : Nat → Nat → Int} {T : Int} (h : Rm N s t c y T) (r : Int) : Pu N s t c y T r t := ⟨h.nn, h.sum, fun S hS => by rw [h.gap S hS]; omega⟩
theorem Pu.step {N s t : Nat} {c y : Nat → Nat → Int} {T r : Int} {a b : Nat} (h : Pu N s t c y T r b) (ha : a < N) (hb : b < N) (hne : a ≠ b) (hr : 0 ≤ r) (hy : r ≤ y a b) : Pu N s t c (psh y a b r) T r a := by
  refine ⟨fun i j hi hj => ?_, fun i j hi hj hij => ?_, fun S hS => ?_⟩
  · have := h.nn i j hi hj
    unfold psh
    split
    · rename_i e; obtain ⟨rfl, rfl⟩ := e; omega
    · split <;> omega
  · have := h.sum i j hi hj hij
    unfold psh
    by_cases e1 : i = a ∧ j = b
    · rw [if_pos e1, if_neg (by omega), if_pos (by omega)]; omega
    · by_cases e2 : i = b ∧ j = a
      · rw [if_neg e1, if_pos e2, if_pos (by omega)]; omega
      · rw [if_neg e1, if_neg e2, if_neg (by omega), if_neg (by omega)]; omega
  · rw [Rm.psh_gap y r S ha hb hne, h.gap S hS]; omega
theorem Pu.rm {N s t : Nat} {c y : Nat → Nat → Int} {T r : Int} (h : Pu N s t c y T r s) : Rm N s t c y (T + r) :=
  ⟨h.nn, h.sum, fun S hS => by rw [h.gap S hS, if_pos hS.1, if_neg (by rw [hS.2]; simp)]; omega⟩
theorem psh_other {y : Nat → Nat → Int} {a b i j : Nat} {r : Int} (hr : 0 ≤ r) (hne : j ≠ b) : y i j ≤ psh y a b r i j := by
  unfold psh
  rw [if_neg (fun h => hne h.2)]
  split <;> omega

/-- what a walk from a along positive elements has found: fr: the node before -/
structure Wm (N a : Nat) (y : Nat → Nat → Int) (R : Nat → Bool) (la : Nat → Nat) (rk : Nat → Nat) : Prop where
  root : R a = true
  tree : ∀ v, v < N → R v = true → v ≠ a → la v < N ∧ R (la v) = true ∧ 0 < y (la v) v ∧ rk (la v) < rk v
  closed : Clm N y R
theorem Wm.least {N a : Nat} {y : Nat → Nat → Int} {R : Nat → Bool} {la rk : Nat → Nat} (h : Wm N a y R la rk) {S : Nat → Bool} (ha : S a = true) (hS : Clm N y S) : ∀ v, v < N → R v = true → S v = true := by
  have : ∀ n v, rk v < n → v < N → R v = true → S v = true := by
    intro n
    induction n with
    | zero => intro v hn; omega
    | succ n ih =>
      intro v hn hv hR
      by_cases e : v = a
      · subst e; exact ha
      · obtain ⟨h1, h2, h3, h4⟩ := h.tree v hv hR e
        exact hS _ _ h1 hv h3 (ih _ (by omega) h1 h2)
  exact fun v hv => this (rk v + 1) v (by omega) hv
end Go.Proofs.Ytilcbbdmenknfaa
