/- Sides by their numbers: mathematics. -/
import Derived.Test.YtilcbbdmenknfaaLg
namespace Go.Proofs.Ytilcbbdmenknfaa

/-- side number k of N nodes -/
def numb (N k : Nat) : Nat → Bool := fun v => decide (v = 0) || (decide (1 ≤ v) && decide (v < N - 1) && decide (k / 2 ^ (N - 2 - v) % 2 = 1))
theorem numb_zero (N k : Nat) : numb N k 0 = true := by unfold numb; simp
theorem numb_last {N : Nat} (k : Nat) (hN : 2 ≤ N) : numb N k (N - 1) = false := by
  have h1 : ¬ N - 1 = 0 := by omega
  have h2 : ¬ N - 1 < N - 1 := by omega
  unfold numb; simp [h1, h2]
theorem numb_mid {N v : Nat} (k : Nat) (h1 : 1 ≤ v) (h2 : v < N - 1) : numb N k v = decide (k / 2 ^ (N - 2 - v) % 2 = 1) := by
  have h3 : ¬ v = 0 := by omega
  unfold numb; simp [h3, h1, h2]
theorem numb_sd {N : Nat} (k : Nat) (hN : 2 ≤ N) : Nw.Sd 0 (N - 1) (numb N k) := ⟨numb_zero N k, numb_last k hN⟩
theorem bits_ex : ∀ (n : Nat) (f : Nat → Bool), ∃ k, k < 2 ^ n ∧ ∀ i, i < n → decide (k / 2 ^ i % 2 = 1) = f i := by
  intro n
  induction n with
  | zero => intro f; exact ⟨0, by omega, fun i hi => by omega⟩
  | succ n ih =>
    intro f
    obtain ⟨k, hk, h⟩ := ih (fun i => f (i + 1))
    have hp : 2 ^ (n + 1) = 2 * 2 ^ n := by rw [Nat.pow_succ]; omega
    refine ⟨2 * k + (if f 0 = true then 1 else 0), by split <;> omega, fun i hi => ?_⟩
    cases i with
    | zero =>
      rw [Nat.pow_zero, Nat.div_one]
      cases hf : f 0
      · rw [if_neg (by simp)]; simp
      · rw [if_pos rfl]; simp
    | succ i =>
      have e1 : (2 * k + if f 0 = true then 1 else 0) / 2 = k := by split <;> omega
      have e2 : (2 * k + if f 0 = true then 1 else 0) / 2 ^ (i + 1) = k / 2 ^ i := by
        rw [show 2 ^ (i + 1) = 2 * 2 ^ i by rw [Nat.pow_succ]; omega, ← Nat.div_div_eq_div_mul, e1]
      rw [e2]
      exact h i (by omega)
/-- every side has a number -/
theorem numb_ex {N : Nat} (hN : 2 ≤ N) {S : Nat → Bool} (h : Nw.Sd 0 (N - 1) S) : ∃ k, k < 2 ^ (N - 2) ∧ ∀ v, v < N → numb N k v = S v := by
  obtain ⟨k, hk, hb⟩ := bits_ex (N - 2) (fun i => S (N - 2 - i))
  refine ⟨k, hk, fun v hv => ?_⟩
  by_cases h0 : v = 0
  · subst h0; rw [numb_zero, h.1]
  · by_cases h1 : v = N - 1
    · subst h1; rw [numb_last k hN, h.2]
    · rw [numb_mid k (by omega) (by omega), hb _ (by omega)]
      congr 1; omega
theorem Nw.ct_congr (G : Nw) {N : Nat} (hN : G.In N) {S T : Nat → Bool} (h : ∀ v, v < N → S v = T v) : G.ct S = G.ct T := by
  refine sm_congr fun k hk => ?_
  rw [h _ (hN k hk).1, h _ (hN k hk).2]
/-- the intersection and the union of two minimum sides are minimum sides -/
theorem Ms.both {G : Nw} {N s t : Nat} {x : Nat → Int} (hN : G.In N) (hs : s < N) (ht : t < N) (h : Full G N s t x) {S T : Nat → Bool} (hS : Ms G s t S) (hT : Ms G s t T) :
    Ms G s t (fun v => S v && T v) ∧ Ms G s t (fun v => S v || T v) := by
  obtain ⟨a1, a2⟩ := (h.ms hN hs ht).1 hS
  obtain ⟨b1, b2⟩ := (h.ms hN hs ht).1 hT
  refine ⟨(h.ms hN hs ht).2 ⟨⟨by simp [a1.1, b1.1], by simp [a1.2]⟩, fun j hj hx hq => ?_⟩, (h.ms hN hs ht).2 ⟨⟨by simp [a1.1], by simp [a1.2, b1.2]⟩, fun j hj hx hq => ?_⟩⟩
  · simp only [Bool.and_eq_true] at hq ⊢
    exact ⟨a2 j hj hx hq.1, b2 j hj hx hq.2⟩
  · simp only [Bool.or_eq_true] at hq ⊢
    rcases hq with q | q
    · exact .inl (a2 j hj hx q)
    · exact .inr (b2 j hj hx q)
end Go.Proofs.Ytilcbbdmenknfaa
