/- One more way: mathematics. -/
import Derived.Test.YtilcbbdmenknfaaWq
namespace Go.Proofs.Ytilcbbdmenknfaa

theorem nodup_len : ∀ (n : Nat) (l : List Nat), l.Nodup → (∀ x ∈ l, x < n) → l.length ≤ n := by
  intro n
  induction n with
  | zero => intro l _ h; cases l with
    | nil => simp
    | cons a l => have := h a (by simp); omega
  | succ n ih =>
    intro l hn h
    by_cases hm : n ∈ l
    · have h1 := ih (l.erase n) (hn.erase n) (fun x hx => by have h2 := (hn.mem_erase_iff).1 hx; have := h x h2.2; omega)
      rw [List.length_erase_of_mem hm] at h1
      omega
    · have := ih l hn (fun x hx => by have h1 := h x hx; have : x ≠ n := fun e => hm (e ▸ hx); omega)
      omega

/-- the way that has been gone back from t to v -/
structure Wy (G : Nw) (x : Nat → Int) (R : Nat → Bool) (rk : Nat → Nat) (t v : Nat) (w : List Nat) : Prop where
  here : R v = true
  ch : G.Ch t w v
  nd : w.Nodup
  op : ∀ j ∈ w, j < 2 * G.m ∧ 0 < x j
  rk : ∀ j ∈ w, rk v < rk (G.hd j)
theorem Wy.start {G : Nw} {x : Nat → Int} {R : Nat → Bool} {rk : Nat → Nat} {t : Nat} (h : R t = true) : Wy G x R rk t t [] :=
  ⟨h, rfl, List.nodup_nil, fun j hj => by simp at hj, fun j hj => by simp at hj⟩
theorem Wy.step {G : Nw} {N s t v : Nat} {x : Nat → Int} {R : Nat → Bool} {la rk : Nat → Nat} {w : List Nat} (hw : G.Wk N s (fun j => decide (0 < x j)) R la rk) (h : Wy G x R rk t v w) (hv : v < N) (hne : v ≠ s) :
    Wy G x R rk t (G.tl (la v)) (w ++ [la v]) ∧ rk (G.tl (la v)) < rk v ∧ G.tl (la v) < N ∧ la v < 2 * G.m := by
  obtain ⟨h1, h2, h3, h4, h5, h6⟩ := hw.tree v hv h.here hne
  refine ⟨⟨h5, h.ch.snoc G _ h3, ?_, fun j hj => ?_, fun j hj => ?_⟩, h6, h4, h1⟩
  · rw [List.nodup_append]
    refine ⟨h.nd, by simp, fun a ha b hb => ?_⟩
    simp at hb
    subst hb
    intro e
    have := h.rk a ha
    rw [e, h3] at this
    omega
  · rcases List.mem_append.1 hj with h7 | h7
    · exact h.op j h7
    · simp at h7; subst h7; exact ⟨h1, by simpa using h2⟩
  · rcases List.mem_append.1 hj with h7 | h7
    · have := h.rk j h7; omega
    · simp at h7; subst h7; rw [h3]; exact h6
theorem Wy.len {G : Nw} {x : Nat → Int} {R : Nat → Bool} {rk : Nat → Nat} {t v : Nat} {w : List Nat} (h : Wy G x R rk t v w) : w.length ≤ 2 * G.m := nodup_len _ _ h.nd (fun j hj => (h.op j hj).1)
theorem Wy.ne {G : Nw} {x : Nat → Int} {R : Nat → Bool} {rk : Nat → Nat} {t v : Nat} {w : List Nat} (h : Wy G x R rk t v w) (hne : t ≠ v) : 0 < w.length := by
  cases w with
  | nil => exact absurd h.ch hne
  | cons a w => simp
theorem Nw.Rs.le {G : Nw} {x : Nat → Int} (h : G.Rs x) {M : Int} (hM : ∀ k, k < G.m → G.cp k ≤ M) {j : Nat} (hj : j < 2 * G.m) : 0 ≤ x j ∧ x j ≤ M := by
  have h0 := h.nn j hj
  have h1 := h.nn (rev j) (rev_lt hj)
  have h2 := h.sum (j / 2) (by omega)
  have h3 := hM (j / 2) (by omega)
  refine ⟨h0, ?_⟩
  unfold rev at h1
  by_cases e : j % 2 = 0
  · rw [if_pos e] at h1
    rw [show 2 * (j / 2) = j by omega] at h2
    omega
  · rw [if_neg e] at h1
    rw [show 2 * (j / 2) + 1 = j by omega, show 2 * (j / 2) = j - 1 by omega] at h2
    omega
/-- while r more goes along the way, arc after arc -/
theorem Nw.Rs.part {G : Nw} {x : Nat → Int} (h : G.Rs x) {r : Int} (hr : 0 ≤ r) {w : List Nat} (hn : w.Nodup) (hw : ∀ j ∈ w, j < 2 * G.m ∧ r ≤ x j) (k : Nat) : G.Rs (Nw.augs x (w.take k) r) :=
  Nw.Rs.augs G hr h (hn.sublist (List.take_sublist _ _)) (fun j hj => hw j (List.mem_of_mem_take hj))
theorem Nw.augs_out {w : List Nat} {r : Int} (hr : 0 ≤ r) : ∀ {x : Nat → Int} {i : Nat}, i ∉ w → x i ≤ Nw.augs x w r i := by
  induction w with
  | nil => intro x i _; exact Int.le_refl _
  | cons j w ih =>
    intro x i hi
    simp at hi
    have h1 := Nw.aug_other (x := x) (j := j) (i := i) hr hi.1
    have h2 := ih (x := Nw.aug x j r) hi.2
    exact Int.le_trans h1 h2
theorem Nw.augs_take (x : Nat → Int) (w : List Nat) (r : Int) {k : Nat} (hk : k < w.length) : Nw.augs x (w.take (k + 1)) r = Nw.aug (Nw.augs x (w.take k) r) (w.getD k 0) r := by
  rw [List.take_add_one, List.getElem?_eq_getElem hk, Option.toList_some, Nw.augs_snoc, List.getD_eq_getElem?_getD, List.getElem?_eq_getElem hk, Option.getD_some]
theorem Nw.aug_up (x : Nat → Int) (j : Nat) (r : Int) : up (up x j (x j - r)) (rev j) (up x j (x j - r) (rev j) + r) = Nw.aug x j r := by
  funext i
  have h := rev_ne j
  unfold up Nw.aug
  by_cases e1 : i = j
  · subst e1; rw [if_neg (fun e => h e.symm), if_pos rfl, if_pos rfl]
  · by_cases e2 : i = rev j
    · subst e2; rw [if_pos rfl, if_neg h, if_neg h, if_pos rfl]
    · rw [if_neg e2, if_neg e1, if_neg e1, if_neg e2]
end Go.Proofs.Ytilcbbdmenknfaa
