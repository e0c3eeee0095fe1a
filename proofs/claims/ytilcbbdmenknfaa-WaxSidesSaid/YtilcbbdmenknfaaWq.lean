/- A walk through a network, node after node: mathematics. -/
import Derived.Test.YtilcbbdmenknfaaA1
namespace Go.Proofs.Ytilcbbdmenknfaa

/-- how many nodes below n are not in R -/
def un (R : Nat → Bool) : Nat → Nat
  | 0 => 0
  | n + 1 => un R n + if R n = true then 0 else 1
theorem un_le (R : Nat → Bool) (n : Nat) : un R n ≤ n := by
  induction n with
  | zero => exact Nat.le_refl _
  | succ n ih => simp only [un]; split <;> omega
theorem un_congr {R S : Nat → Bool} {n : Nat} (h : ∀ i, i < n → R i = S i) : un R n = un S n := by
  induction n with
  | zero => rfl
  | succ n ih => simp only [un]; rw [ih (fun i hi => h i (by omega)), h n (by omega)]
theorem un_up {R : Nat → Bool} {n v : Nat} (hv : v < n) (hR : R v = false) : un (up R v true) n + 1 = un R n := by
  induction n with
  | zero => omega
  | succ n ih =>
    simp only [un]
    by_cases e : v = n
    · subst e
      rw [un_congr (S := R) (fun i hi => up_ne R true (by omega)), up_self, hR]; simp
    · rw [up_ne R true (by omega : n ≠ v), ← ih (by omega)]; omega

structure Wq (G : Nw) (N a : Nat) (op R : Nat → Bool) (la rk : Nat → Nat) (big : Nat) (q : List Nat) (ex : Nat → Prop) : Prop where
  root : R a = true
  low : ∀ v, R v = true → v < N
  tree : ∀ v, v < N → R v = true → v ≠ a → la v < 2 * G.m ∧ op (la v) = true ∧ G.hd (la v) = v ∧ G.tl (la v) < N ∧ R (G.tl (la v)) = true ∧ rk (G.tl (la v)) < rk v
  rkb : ∀ v, R v = true → rk v < big
  qin : ∀ v ∈ q, v < N ∧ R v = true
  fin : ∀ v, v < N → R v = true → v ∉ q → ¬ ex v → ∀ j, j < 2 * G.m → G.tl j = v → op j = true → R (G.hd j) = true

section
variable {G : Nw} {N a : Nat} {op R : Nat → Bool} {la rk : Nat → Nat} {big : Nat} {q : List Nat} {ex : Nat → Prop}
theorem Wq.start (ha : a < N) (la : Nat → Nat) : Wq G N a op (up (fun _ => false) a true) la (fun _ => 0) 1 [a] (fun _ => False) := by
  have h1 : ∀ v, up (fun _ => false) a true v = true → v = a := by
    intro v h
    by_cases e : v = a
    · exact e
    · rw [up_ne _ _ e] at h; cases h
  refine ⟨up_self _ _ _, fun v h => by rw [h1 v h]; exact ha, fun v _ h hne => absurd (h1 v h) hne, fun _ _ => by omega, fun v hv => ?_, fun v _ h hq => ?_⟩
  · simp at hv; subst hv; exact ⟨ha, up_self _ _ _⟩
  · exact absurd (by rw [h1 v h]; simp) hq
theorem Wq.pop {u : Nat} (h : Wq G N a op R la rk big (u :: q) (fun _ => False)) : Wq G N a op R la rk big q (fun v => v = u) :=
  ⟨h.root, h.low, h.tree, h.rkb, fun v hv => h.qin v (List.mem_cons_of_mem _ hv), fun v hv hR hq hne => h.fin v hv hR (by simp; exact ⟨hne, hq⟩) (fun f => f)⟩
theorem Wq.shut {u : Nat} (h : Wq G N a op R la rk big q (fun v => v = u)) (hu : ∀ j, j < 2 * G.m → G.tl j = u → op j = true → R (G.hd j) = true) : Wq G N a op R la rk big q (fun _ => False) :=
  ⟨h.root, h.low, h.tree, h.rkb, h.qin, fun v hv hR hq _ => by
    by_cases e : v = u
    · subst e; exact hu
    · exact h.fin v hv hR hq e⟩
theorem Wq.push {j : Nat} (h : Wq G N a op R la rk big q ex) (hj : j < 2 * G.m) (ho : op j = true) (ht : R (G.tl j) = true) (hn : R (G.hd j) = false) (hN : G.hd j < N) :
    Wq G N a op (up R (G.hd j) true) (up la (G.hd j) j) (up rk (G.hd j) big) (big + 1) (q ++ [G.hd j]) ex := by
  have hm : ∀ w, R w = true → w ≠ G.hd j := fun w hw e => by rw [e, hn] at hw; cases hw
  have hup : ∀ w, R w = true → up R (G.hd j) true w = true := fun w hw => by rw [up_ne _ _ (hm w hw)]; exact hw
  have hor : ∀ w, up R (G.hd j) true w = true → w = G.hd j ∨ (w ≠ G.hd j ∧ R w = true) := by
    intro w hw
    by_cases e : w = G.hd j
    · exact .inl e
    · rw [up_ne _ _ e] at hw; exact .inr ⟨e, hw⟩
  refine ⟨hup _ h.root, fun v hv => ?_, fun v hv hR hne => ?_, fun v hv => ?_, fun v hv => ?_, fun v hv hR hq hx i hi hti hoi => ?_⟩
  · rcases hor v hv with rfl | ⟨_, h1⟩
    · exact hN
    · exact h.low v h1
  · rcases hor v hR with rfl | ⟨h0, h1⟩
    · rw [up_self, up_self, up_ne rk big (hm _ ht)]
      exact ⟨hj, ho, rfl, h.low _ ht, hup _ ht, h.rkb _ ht⟩
    · obtain ⟨a1, a2, a3, a4, a5, a6⟩ := h.tree v hv h1 hne
      rw [up_ne la j h0, up_ne rk big h0, up_ne rk big (hm _ a5)]
      exact ⟨a1, a2, a3, a4, hup _ a5, a6⟩
  · rcases hor v hv with rfl | ⟨h0, h1⟩
    · rw [up_self]; omega
    · rw [up_ne _ _ h0]; have := h.rkb v h1; omega
  · rcases List.mem_append.1 hv with h1 | h1
    · exact ⟨(h.qin v h1).1, hup v (h.qin v h1).2⟩
    · simp at h1; subst h1; exact ⟨hN, up_self _ _ _⟩
  · simp at hq
    rcases hor v hR with rfl | ⟨h0, h1⟩
    · exact absurd rfl hq.2
    · exact hup _ (h.fin v hv h1 hq.1 hx i hi hti hoi)
theorem Wq.wk (h : Wq G N a op R la rk big [] (fun _ => False)) : G.Wk N a op R la rk :=
  ⟨h.root, h.tree, fun j hj ho ht => h.fin _ (h.low _ ht) ht (by simp) (fun f => f) j hj rfl ho⟩
end
end Go.Proofs.Ytilcbbdmenknfaa
