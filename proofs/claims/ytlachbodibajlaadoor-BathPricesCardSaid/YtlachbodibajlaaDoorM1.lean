/- Words in a grid, as mathematics. · Words in a grid: the table, the first shortest string, bounds. · Slices that lie in a world, words of letters. -/
import Derived.Lib.ItoaNum
import Derived.Test.YtlachbodibajlaaDoorM0
import Derived.Lib.SlTrimSet
namespace Go.Proofs.Bw
abbrev Word := List UInt8

/-- how many positions; what a letter adds to the number of a position; how many letters are left -/
def sz : List Word → Nat
  | [] => 1
  | w :: ws => (w.length + 1) * sz ws
def dl (w : Word) (a : Nat) (c : UInt8) : Nat := if w[a]? = some c then 1 else 0
def mvd : List Word → Nat → UInt8 → Nat
  | [], _, _ => 0
  | w :: ws, p, c => dl w (p % (w.length + 1)) c + (w.length + 1) * mvd ws (p / (w.length + 1)) c
def rem : List Word → Nat → Nat
  | [], _ => 0
  | w :: ws, p => (w.length - p % (w.length + 1)) + rem ws (p / (w.length + 1))
/-- how many words a letter moves -/
def mvn : List Word → Nat → UInt8 → Nat
  | [], _, _ => 0
  | w :: ws, p, c => dl w (p % (w.length + 1)) c + mvn ws (p / (w.length + 1)) c
def mv (ws : List Word) (p : Nat) (c : UInt8) : Nat := p + mvd ws p c

theorem sz_pos (ws : List Word) : 0 < sz ws := by
  induction ws with
  | nil => decide
  | cons w ws ih => exact Nat.mul_pos (Nat.succ_pos _) ih
theorem dl_le (w : Word) (a : Nat) (c : UInt8) : dl w a c ≤ 1 := by unfold dl; split <;> omega
theorem dl_room (w : Word) (a : Nat) (c : UInt8) (ha : a ≤ w.length) : a + dl w a c ≤ w.length := by
  unfold dl
  split
  · rename_i h
    have := (List.getElem?_eq_some_iff.1 h).1
    omega
  · omega
theorem mod_le (w : Word) (p : Nat) : p % (w.length + 1) ≤ w.length := Nat.le_of_lt_succ (Nat.mod_lt p (Nat.succ_pos w.length))

theorem mv_cons_mod (w : Word) (ws : List Word) (p : Nat) (c : UInt8) : mv (w :: ws) p c % (w.length + 1) = p % (w.length + 1) + dl w (p % (w.length + 1)) c := by
  have h := dl_room w _ c (mod_le w p)
  have e : mv (w :: ws) p c = (p % (w.length + 1) + dl w (p % (w.length + 1)) c) + (w.length + 1) * (p / (w.length + 1) + mvd ws (p / (w.length + 1)) c) := by
    have := Nat.mod_add_div p (w.length + 1)
    rw [mv, mvd, Nat.mul_add]; omega
  rw [e, Nat.add_mul_mod_self_left, Nat.mod_eq_of_lt (by omega)]
theorem mv_cons_div (w : Word) (ws : List Word) (p : Nat) (c : UInt8) : mv (w :: ws) p c / (w.length + 1) = mv ws (p / (w.length + 1)) c := by
  have h := dl_room w _ c (mod_le w p)
  have e : mv (w :: ws) p c = (p % (w.length + 1) + dl w (p % (w.length + 1)) c) + (w.length + 1) * (p / (w.length + 1) + mvd ws (p / (w.length + 1)) c) := by
    have := Nat.mod_add_div p (w.length + 1)
    rw [mv, mvd, Nat.mul_add]; omega
  rw [e, Nat.add_mul_div_left _ _ (Nat.succ_pos _), Nat.div_eq_of_lt (by omega), Nat.zero_add]; rfl

theorem sz_cons_lt {w : Word} {ws : List Word} {p : Nat} : p < sz (w :: ws) ↔ p / (w.length + 1) < sz ws := by
  rw [sz, Nat.mul_comm, ← Nat.div_lt_iff_lt_mul (Nat.succ_pos _)]

theorem mv_lt (ws : List Word) (p : Nat) (c : UInt8) (h : p < sz ws) : mv ws p c < sz ws := by
  induction ws generalizing p with
  | nil => simpa [mv, mvd] using h
  | cons w ws ih => rw [sz_cons_lt, mv_cons_div]; exact ih _ (sz_cons_lt.1 h)

theorem rem_mv (ws : List Word) (p : Nat) (c : UInt8) : rem ws (mv ws p c) + mvn ws p c = rem ws p := by
  induction ws generalizing p with
  | nil => rfl
  | cons w ws ih =>
    have h := dl_room w _ c (mod_le w p)
    rw [rem, mv_cons_mod, mv_cons_div, rem, mvn]
    have := ih (p / (w.length + 1))
    omega

theorem mvd_zero {ws : List Word} {p : Nat} {c : UInt8} : mvd ws p c = 0 ↔ mvn ws p c = 0 := by
  induction ws generalizing p with
  | nil => simp [mvd, mvn]
  | cons w ws ih =>
    rw [mvd, mvn]
    constructor
    · intro h
      have h1 : (w.length + 1) * mvd ws (p / (w.length + 1)) c = 0 := by omega
      have h2 := (Nat.mul_eq_zero.1 h1).resolve_left (by omega)
      have := ih.1 h2
      omega
    · intro h
      have h2 := ih.2 (show mvn ws (p / (w.length + 1)) c = 0 by omega)
      rw [h2]; omega
theorem mv_same {ws : List Word} {p : Nat} {c : UInt8} : mv ws p c = p ↔ mvn ws p c = 0 := by
  rw [← mvd_zero, mv]; omega
theorem mv_le (ws : List Word) (p : Nat) (c : UInt8) : p ≤ mv ws p c := Nat.le_add_right _ _

/-- the position at the end of all words -/
def last (ws : List Word) : Nat := sz ws - 1
theorem rem_last {ws : List Word} {p : Nat} (h : p < sz ws) : rem ws p = 0 ↔ p = last ws := by
  induction ws generalizing p with
  | nil => have : p = 0 := by simpa [sz] using h
           simp [rem, last, sz, this]
  | cons w ws ih =>
    have h' := sz_cons_lt.1 h
    have := ih h'
    have hp := sz_pos ws
    have hm := mod_le w p
    have e := Nat.mod_add_div p (w.length + 1)
    unfold last at this ⊢
    rw [rem, sz]
    have hs : (w.length + 1) * sz ws = (w.length + 1) * (sz ws - 1) + (w.length + 1) := by
      rw [← Nat.mul_succ]; congr 1; omega
    constructor
    · intro h0
      have h1 := this.1 (by omega)
      rw [h1] at e
      omega
    · intro h0
      have hq : p / (w.length + 1) = sz ws - 1 := by
        rw [h0, hs, show (w.length + 1) * (sz ws - 1) + (w.length + 1) - 1 = w.length + (w.length + 1) * (sz ws - 1) by omega, Nat.add_mul_div_left _ _ (Nat.succ_pos _), Nat.div_eq_of_lt (by omega), Nat.zero_add]
      have h1 := this.2 hq
      rw [hq] at e
      omega

/-- reading -/
def run (ws : List Word) (p : Nat) (s : List UInt8) : Nat := s.foldl (mv ws) p
theorem run_nil (ws : List Word) (p : Nat) : run ws p [] = p := rfl
theorem run_cons (ws : List Word) (p : Nat) (c : UInt8) (s : List UInt8) : run ws p (c :: s) = run ws (mv ws p c) s := rfl
theorem run_append (ws : List Word) (p : Nat) (s t : List UInt8) : run ws p (s ++ t) = run ws (run ws p s) t := by simp [run]
theorem run_lt (ws : List Word) (p : Nat) (s : List UInt8) (h : p < sz ws) : run ws p s < sz ws := by
  induction s generalizing p with
  | nil => exact h
  | cons c s ih => exact ih _ (mv_lt ws p c h)

/-- one word -/
def run1 (w : Word) (a : Nat) (s : List UInt8) : Nat := s.foldl (fun a c => a + dl w a c) a
theorem run_cons_mod (w : Word) (ws : List Word) (p : Nat) (s : List UInt8) : run (w :: ws) p s % (w.length + 1) = run1 w (p % (w.length + 1)) s := by
  induction s generalizing p with
  | nil => rfl
  | cons c s ih => rw [run_cons, ih, mv_cons_mod]; rfl
theorem run_cons_div (w : Word) (ws : List Word) (p : Nat) (s : List UInt8) : run (w :: ws) p s / (w.length + 1) = run ws (p / (w.length + 1)) s := by
  induction s generalizing p with
  | nil => rfl
  | cons c s ih => rw [run_cons, ih, mv_cons_div]; rfl
/-- all words are covered exactly if the last position is reached -/
theorem run_last (ws : List Word) (s : List UInt8) : run ws 0 s = last ws ↔ ∀ w ∈ ws, run1 w 0 s = w.length := by
  have key : rem ws (run ws 0 s) = 0 ↔ ∀ w ∈ ws, run1 w 0 s = w.length := by
    induction ws with
    | nil => simp [rem]
    | cons w ws ih =>
      rw [rem, run_cons_mod, run_cons_div, Nat.zero_mod, Nat.zero_div]
      have hle : run1 w 0 s ≤ w.length := by
        have := mod_le w (run (w :: ws) 0 s)
        rw [run_cons_mod, Nat.zero_mod] at this
        exact this
      constructor
      · intro h0 x hx
        rcases List.mem_cons.1 hx with rfl | hx
        · omega
        · exact ih.1 (by omega) x hx
      · intro h0
        have h1 := h0 w (by simp)
        have h2 := ih.2 (fun x hx => h0 x (by simp [hx]))
        omega
  rw [← key, rem_last (run_lt ws 0 s (sz_pos ws))]

/-- the letters of which words consist -/
def letters : List UInt8 := [97, 98, 99, 100, 101, 102, 103, 104]
/-- one letter more looked at: the first shortest string so far, and how many -/
def take1 (tq : List UInt8 × Nat) (c : UInt8) (b : List UInt8 × Nat) : List UInt8 × Nat :=
  if b.2 = 0 ∨ tq.1.length + 1 < b.1.length then (c :: tq.1, tq.2)
  else if tq.1.length + 1 = b.1.length then (b.1, b.2 + tq.2) else b
def looked (ws : List Word) (R : Nat → List UInt8 × Nat) (p : Nat) (b : List UInt8 × Nat) (c : UInt8) : List UInt8 × Nat :=
  if mv ws p c = p then b else take1 (R (mv ws p c)) c b
/-- the first shortest string that covers what is left at p, and how many there are; n: as many letters as are left, or more -/
def best (ws : List Word) : Nat → Nat → List UInt8 × Nat
  | 0, _ => ([], 1)
  | n + 1, p => if p = last ws then ([], 1) else letters.foldl (looked ws (best ws n) p) ([], 0)

theorem foldl_congr {α β : Type} {f g : β → α → β} (l : List α) (b : β) (h : ∀ b c, c ∈ l → f b c = g b c) : l.foldl f b = l.foldl g b := by
  induction l generalizing b with
  | nil => rfl
  | cons x l ih => rw [List.foldl_cons, List.foldl_cons, h b x (by simp)]; exact ih _ (fun b c hc => h b c (by simp [hc]))

theorem rem_lt {ws : List Word} {p : Nat} {c : UInt8} (h : mv ws p c ≠ p) : rem ws (mv ws p c) < rem ws p := by
  have h1 := rem_mv ws p c
  have h2 : mvn ws p c ≠ 0 := fun e => h (mv_same.2 e)
  omega
theorem last_lt (ws : List Word) : last ws < sz ws := by have := sz_pos ws; unfold last; omega

theorem best_enough (ws : List Word) : ∀ (n m p : Nat), p < sz ws → rem ws p ≤ n → rem ws p ≤ m → best ws n p = best ws m p
  | 0, 0, _, _, _, _ => rfl
  | 0, m + 1, p, hp, h, _ => by
    have e := (rem_last hp).1 (by omega)
    rw [best, best, if_pos e]
  | n + 1, 0, p, hp, _, h => by
    have e := (rem_last hp).1 (by omega)
    rw [best, best, if_pos e]
  | n + 1, m + 1, p, hp, h1, h2 => by
    rw [best, best]
    by_cases e : p = last ws
    · rw [if_pos e, if_pos e]
    · rw [if_neg e, if_neg e]
      refine foldl_congr _ _ fun b c _ => ?_
      unfold looked
      by_cases hm : mv ws p c = p
      · rw [if_pos hm, if_pos hm]
      · rw [if_neg hm, if_neg hm]
        have := rem_lt hm
        rw [best_enough ws n m (mv ws p c) (mv_lt ws p c hp) (by omega) (by omega)]

def rest (ws : List Word) (p : Nat) : List UInt8 × Nat := best ws (rem ws p) p
theorem rest_last (ws : List Word) : rest ws (last ws) = ([], 1) := by
  unfold rest
  rw [(rem_last (last_lt ws)).2 rfl]; rfl
theorem rest_eq (ws : List Word) (p : Nat) (hp : p < sz ws) (h : p ≠ last ws) : rest ws p = letters.foldl (looked ws (rest ws) p) ([], 0) := by
  have h0 : rem ws p ≠ 0 := fun e => h ((rem_last hp).1 e)
  obtain ⟨n, hn⟩ : ∃ n, rem ws p = n + 1 := ⟨rem ws p - 1, by omega⟩
  have e : rest ws p = best ws (n + 1) p := by unfold rest; rw [hn]
  rw [e, best, if_neg h]
  refine foldl_congr _ _ fun b c _ => ?_
  unfold looked
  by_cases hm : mv ws p c = p
  · rw [if_pos hm, if_pos hm]
  · rw [if_neg hm, if_neg hm]
    have := rem_lt hm
    unfold rest
    rw [best_enough ws n (rem ws (mv ws p c)) (mv ws p c) (mv_lt ws p c hp) (by omega) (Nat.le_refl _)]

/-- all words consist of letters -/
def okW (ws : List Word) : Prop := ∀ w ∈ ws, ∀ c ∈ w, c ∈ letters

/-- unless at the end, a letter moves -/
theorem some_move {ws : List Word} (hw : okW ws) {p : Nat} (h : rem ws p ≠ 0) : ∃ c ∈ letters, mv ws p c ≠ p := by
  have key : ∃ c ∈ letters, mvn ws p c ≠ 0 := by
    induction ws generalizing p with
    | nil => simp [rem] at h
    | cons w ws ih =>
      rw [rem] at h
      by_cases h1 : w.length - p % (w.length + 1) = 0
      · obtain ⟨c, hc, hm⟩ := ih (fun x hx => hw x (by simp [hx])) (p := p / (w.length + 1)) (by omega)
        exact ⟨c, hc, by rw [mvn]; omega⟩
      · have hlt : p % (w.length + 1) < w.length := by omega
        refine ⟨w[p % (w.length + 1)], hw w (by simp) _ (List.getElem_mem _), ?_⟩
        rw [mvn, dl, if_pos (List.getElem?_eq_getElem hlt)]
        omega
  obtain ⟨c, hc, hm⟩ := key
  exact ⟨c, hc, fun e => hm (mv_same.1 e)⟩

/-- what the look at all letters gives: nothing if none moves; else the first of those that lead to a shortest rest -/
structure Looked (ws : List Word) (R : Nat → List UInt8 × Nat) (p : Nat) (l : List UInt8) (b : List UInt8 × Nat) : Prop where
  none_ : b.2 = 0 → b = ([], 0) ∧ ∀ c ∈ l, mv ws p c = p
  some_ : b.2 ≠ 0 → ∃ pre c post, l = pre ++ c :: post ∧ mv ws p c ≠ p ∧ b.1 = c :: (R (mv ws p c)).1 ∧ (∀ d ∈ pre, mv ws p d ≠ p → (R (mv ws p c)).1.length < (R (mv ws p d)).1.length) ∧
    ∀ d ∈ l, mv ws p d ≠ p → (R (mv ws p c)).1.length ≤ (R (mv ws p d)).1.length

theorem looked_snoc {ws : List Word} {R : Nat → List UInt8 × Nat} {p : Nat} (hR : ∀ c, mv ws p c ≠ p → (R (mv ws p c)).2 ≠ 0) {l : List UInt8} {b : List UInt8 × Nat} (h : Looked ws R p l b) (c : UInt8) :
    Looked ws R p (l ++ [c]) (looked ws R p b c) := by
  unfold looked
  by_cases hm : mv ws p c = p
  · rw [if_pos hm]
    refine ⟨fun h0 => ⟨(h.none_ h0).1, fun d hd => ?_⟩, fun h1 => ?_⟩
    · rcases List.mem_append.1 hd with hd | hd
      · exact (h.none_ h0).2 d hd
      · rw [List.mem_singleton.1 hd]; exact hm
    · obtain ⟨pre, x, post, rfl, h2, h3, h4, h5⟩ := h.some_ h1
      refine ⟨pre, x, post ++ [c], by simp, h2, h3, h4, fun d hd hdm => ?_⟩
      rcases List.mem_append.1 hd with hd | hd
      · exact h5 d hd hdm
      · rw [List.mem_singleton.1 hd] at hdm; exact absurd hm hdm
  · rw [if_neg hm]
    have hc := hR c hm
    unfold take1
    by_cases h0 : b.2 = 0
    · rw [if_pos (Or.inl h0)]
      obtain ⟨rfl, hnone⟩ := h.none_ h0
      refine ⟨fun e => absurd e hc, fun _ => ⟨l, c, [], rfl, hm, rfl, fun d hd hdm => absurd (hnone d hd) hdm, fun d hd hdm => ?_⟩⟩
      rcases List.mem_append.1 hd with hd | hd
      · exact absurd (hnone d hd) hdm
      · rw [List.mem_singleton.1 hd]; exact Nat.le_refl _
    · obtain ⟨pre, x, post, rfl, h2, h3, h4, h5⟩ := h.some_ h0
      have hl : b.1.length = (R (mv ws p x)).1.length + 1 := by rw [h3]; rfl
      by_cases h6 : (R (mv ws p c)).1.length + 1 < b.1.length
      · rw [if_pos (Or.inr h6)]
        refine ⟨fun e => absurd e hc, fun _ => ⟨pre ++ x :: post, c, [], rfl, hm, rfl, fun d hd hdm => ?_, fun d hd hdm => ?_⟩⟩
        · have := h5 d hd hdm; omega
        · rcases List.mem_append.1 hd with hd | hd
          · have := h5 d hd hdm; omega
          · rw [List.mem_singleton.1 hd]; exact Nat.le_refl _
      · rw [if_neg (by omega)]
        have all : ∀ d ∈ pre ++ x :: post ++ [c], mv ws p d ≠ p → (R (mv ws p x)).1.length ≤ (R (mv ws p d)).1.length := by
          intro d hd hdm
          rcases List.mem_append.1 hd with hd | hd
          · exact h5 d hd hdm
          · rw [List.mem_singleton.1 hd]; omega
        by_cases h7 : (R (mv ws p c)).1.length + 1 = b.1.length
        · rw [if_pos h7]
          exact ⟨fun e => absurd (show b.2 + _ = 0 from e) (by omega), fun _ => ⟨pre, x, post ++ [c], by simp, h2, h3, h4, all⟩⟩
        · rw [if_neg h7]
          exact ⟨fun e => absurd e h0, fun _ => ⟨pre, x, post ++ [c], by simp, h2, h3, h4, all⟩⟩

theorem looked_all {ws : List Word} {R : Nat → List UInt8 × Nat} {p : Nat} (hR : ∀ c, mv ws p c ≠ p → (R (mv ws p c)).2 ≠ 0) (l k : List UInt8) (b : List UInt8 × Nat) (h : Looked ws R p k b) : Looked ws R p (k ++ l) (l.foldl (looked ws R p) b) := by
  induction l generalizing k b with
  | nil => simpa using h
  | cons c l ih =>
    have := ih (k ++ [c]) _ (looked_snoc hR h c)
    rwa [List.append_assoc] at this

theorem looked_start (ws : List Word) (R : Nat → List UInt8 × Nat) (p : Nat) : Looked ws R p [] ([], 0) :=
  ⟨fun _ => ⟨rfl, fun c hc => by cases hc⟩, fun h => absurd rfl h⟩

/-- every position that is no last one has a rest -/
theorem rest_count {ws : List Word} (hw : okW ws) : ∀ (n p : Nat), p < sz ws → rem ws p ≤ n → (rest ws p).2 ≠ 0
  | n, p, hp, hn => by
    by_cases e : p = last ws
    · rw [e, rest_last]; decide
    · have h0 : rem ws p ≠ 0 := fun e' => e ((rem_last hp).1 e')
      rw [rest_eq ws p hp e]
      have hR : ∀ c, mv ws p c ≠ p → (rest ws (mv ws p c)).2 ≠ 0 := fun c hm => by
        have := rem_lt hm
        cases n with
        | zero => omega
        | succ n => exact rest_count hw n (mv ws p c) (mv_lt ws p c hp) (by omega)
      have hl := looked_all hR letters [] _ (looked_start ws _ p)
      intro hz
      obtain ⟨c, hc, hm⟩ := some_move hw h0
      exact hm ((hl.none_ hz).2 c (by simpa using hc))

/-- the rest of a position: its first letter is the first one that leads to a shortest rest -/
theorem rest_head {ws : List Word} (hw : okW ws) {p : Nat} (hp : p < sz ws) (e : p ≠ last ws) : ∃ pre c post, letters = pre ++ c :: post ∧ mv ws p c ≠ p ∧ (rest ws p).1 = c :: (rest ws (mv ws p c)).1 ∧
    (∀ d ∈ pre, mv ws p d ≠ p → (rest ws (mv ws p c)).1.length < (rest ws (mv ws p d)).1.length) ∧ ∀ d ∈ letters, mv ws p d ≠ p → (rest ws (mv ws p c)).1.length ≤ (rest ws (mv ws p d)).1.length := by
  have hR : ∀ c, mv ws p c ≠ p → (rest ws (mv ws p c)).2 ≠ 0 := fun c _ => rest_count hw _ _ (mv_lt ws p c hp) (Nat.le_refl _)
  have hl := looked_all hR letters [] _ (looked_start ws _ p)
  have hz := rest_count hw _ p hp (Nat.le_refl _)
  rw [rest_eq ws p hp e] at hz ⊢
  exact hl.some_ hz

theorem rest_covers {ws : List Word} (hw : okW ws) : ∀ (n p : Nat), p < sz ws → rem ws p ≤ n → run ws p (rest ws p).1 = last ws
  | n, p, hp, hn => by
    by_cases e : p = last ws
    · rw [e, rest_last]; rfl
    · obtain ⟨pre, c, post, -, hm, h1, -, -⟩ := rest_head hw hp e
      have := rem_lt hm
      cases n with
      | zero => omega
      | succ n =>
        rw [h1, run_cons]
        exact rest_covers hw n _ (mv_lt ws p c hp) (by omega)

/-- no string that covers what is left is shorter than the rest -/
theorem rest_least {ws : List Word} (hw : okW ws) : ∀ (s : List UInt8) (p : Nat), p < sz ws → (∀ c ∈ s, c ∈ letters) → run ws p s = last ws → (rest ws p).1.length ≤ s.length
  | [], p, _, _, h => by
    rw [run_nil] at h
    rw [h, rest_last]; exact Nat.le_refl _
  | d :: s, p, hp, hs, h => by
    rw [run_cons] at h
    have hd := hs d (by simp)
    have hs' : ∀ c ∈ s, c ∈ letters := fun c hc => hs c (by simp [hc])
    by_cases hm : mv ws p d = p
    · rw [hm] at h
      have := rest_least hw s p hp hs' h
      rw [List.length_cons]; omega
    · have h1 := rest_least hw s _ (mv_lt ws p d hp) hs' h
      by_cases e : p = last ws
      · rw [e, rest_last]; exact Nat.zero_le _
      · obtain ⟨pre, c, post, -, -, h2, -, h4⟩ := rest_head hw hp e
        have := h4 d hd hm
        rw [h2, List.length_cons, List.length_cons]; omega

theorem sum_zero (l : List UInt8) : (l.map (fun _ => 0)).sum = 0 := by
  induction l with
  | nil => rfl
  | cons z l ih => rw [List.map_cons, List.sum_cons, ih]
theorem dl_sum (w : Word) (a : Nat) : ∀ l : List UInt8, l.Nodup → (l.map (dl w a)).sum ≤ 1 ∧ (l.map (dl w a)).sum ≤ w.length - a
  | [], _ => by simp
  | x :: l, hn => by
    obtain ⟨hx, hn⟩ := List.nodup_cons.1 hn
    rw [List.map_cons, List.sum_cons]
    by_cases hq : w[a]? = some x
    · have h0 : (l.map (dl w a)).sum = 0 := by
        have : l.map (dl w a) = l.map (fun _ => 0) := by
          refine List.map_congr_left fun y hy => ?_
          unfold dl
          rw [if_neg]
          intro e
          rw [hq] at e
          cases e
          exact hx hy
        rw [this, sum_zero]
      have := dl_le w a x
      have := (List.getElem?_eq_some_iff.1 hq).1
      omega
    · have e : dl w a x = 0 := by unfold dl; rw [if_neg hq]
      rw [e]
      have := dl_sum w a l hn
      omega
/-- together all letters move each word at most once, and no word that is at its end -/
theorem sum_moved (ws : List Word) (p : Nat) : (letters.map (mvn ws p)).sum ≤ ws.length ∧ (letters.map (mvn ws p)).sum ≤ rem ws p := by
  induction ws generalizing p with
  | nil => simp [letters, mvn]
  | cons w ws ih =>
    have h1 := ih (p / (w.length + 1))
    have h2 := dl_sum w (p % (w.length + 1)) letters (by decide)
    have h3 : (letters.map (mvn (w :: ws) p)).sum = (letters.map (dl w (p % (w.length + 1)))).sum + (letters.map (mvn ws (p / (w.length + 1)))).sum := by
      have key : ∀ l : List UInt8, (l.map (mvn (w :: ws) p)).sum = (l.map (dl w (p % (w.length + 1)))).sum + (l.map (mvn ws (p / (w.length + 1)))).sum := by
        intro l
        induction l with
        | nil => rfl
        | cons x l ihl => rw [List.map_cons, List.sum_cons, ihl, List.map_cons, List.sum_cons, List.map_cons, List.sum_cons, mvn]; omega
      exact key _
    rw [h3, List.length_cons, rem]; omega

theorem looked_count (ws : List Word) (R : Nat → List UInt8 × Nat) (p K : Nat) (hK : ∀ c, mv ws p c ≠ p → (R (mv ws p c)).2 ≤ K) (l : List UInt8) : ∀ b : List UInt8 × Nat, (l.foldl (looked ws R p) b).2 ≤ b.2 + (l.map (mvn ws p)).sum * K := by
  induction l with
  | nil => intro b; simp
  | cons c l ih =>
    intro b
    have h := ih (looked ws R p b c)
    have h2 : (looked ws R p b c).2 ≤ b.2 + mvn ws p c * K := by
      unfold looked
      by_cases hm : mv ws p c = p
      · rw [if_pos hm]; omega
      · rw [if_neg hm]
        have h3 := hK c hm
        have h4 : mvn ws p c ≠ 0 := fun e => hm (mv_same.2 e)
        have h5 : K ≤ mvn ws p c * K := Nat.le_mul_of_pos_left _ (by omega)
        unfold take1
        split
        · show (R (mv ws p c)).2 ≤ _; omega
        · split
          · show b.2 + (R (mv ws p c)).2 ≤ _; omega
          · omega
    rw [List.foldl_cons, List.map_cons, List.sum_cons, Nat.add_mul]
    omega

theorem rest_many (ws : List Word) (h4 : ws.length ≤ 4) : ∀ (n p : Nat), p < sz ws → rem ws p ≤ n → (rest ws p).2 ≤ 4 ^ (n - 1)
  | n, p, hp, hn => by
    by_cases e : p = last ws
    · rw [e, rest_last]; exact Nat.pow_pos (by decide)
    · have h0 : rem ws p ≠ 0 := fun e' => e ((rem_last hp).1 e')
      match n, hn with
      | 0, hn => omega
      | 1, hn =>
        have h1 : rem ws p = 1 := by omega
        have hK : ∀ c, mv ws p c ≠ p → (rest ws (mv ws p c)).2 ≤ 1 := fun c hm => by
          have := rem_lt hm
          have e2 := (rem_last (mv_lt ws p c hp)).1 (by omega)
          rw [e2, rest_last]; exact Nat.le_refl _
        have hs := (sum_moved ws p).2
        rw [rest_eq ws p hp e]
        have := looked_count ws (rest ws) p 1 hK letters ([], 0)
        simp at this ⊢
        omega
      | n + 2, hn =>
        have hK : ∀ c, mv ws p c ≠ p → (rest ws (mv ws p c)).2 ≤ 4 ^ n := fun c hm => by
          have := rem_lt hm
          exact rest_many ws h4 (n + 1) _ (mv_lt ws p c hp) (by omega)
        rw [rest_eq ws p hp e]
        have h5 := looked_count ws (rest ws) p (4 ^ n) hK letters ([], 0)
        have h6 := (sum_moved ws p).1
        have h7 : (letters.map (mvn ws p)).sum * 4 ^ n ≤ 4 * 4 ^ n := Nat.mul_le_mul_right _ (by omega)
        have h8 : 4 ^ (n + 2 - 1) = 4 * 4 ^ n := by rw [show n + 2 - 1 = n + 1 by omega, Nat.pow_succ, Nat.mul_comm]
        rw [h8]
        simp at h5 ⊢
        omega
end Go.Proofs.Bw
namespace Go.Proofs.Bw

theorem rest_len {ws : List Word} (hw : okW ws) : ∀ (n p : Nat), p < sz ws → rem ws p ≤ n → (rest ws p).1.length ≤ rem ws p
  | n, p, hp, hn => by
    by_cases e : p = last ws
    · rw [e, rest_last]; exact Nat.zero_le _
    · obtain ⟨pre, c, post, -, hm, h1, -, -⟩ := rest_head hw hp e
      have := rem_lt hm
      cases n with
      | zero => omega
      | succ n =>
        have h2 := rest_len hw n _ (mv_lt ws p c hp) (by omega)
        rw [h1, List.length_cons]; omega
theorem rest_zero {ws : List Word} (hw : okW ws) {p : Nat} (hp : p < sz ws) : (rest ws p).1.length = 0 ↔ p = last ws := by
  constructor
  · intro h
    by_cases e : p = last ws
    · exact e
    · obtain ⟨pre, c, post, -, hm, h1, -, -⟩ := rest_head hw hp e
      rw [h1, List.length_cons] at h; omega
  · rintro rfl; rw [rest_last]; rfl
theorem rem_zero_le (ws : List Word) (h4 : ws.length ≤ 4) (h8 : ∀ w ∈ ws, w.length ≤ 8) (p : Nat) : rem ws p ≤ 32 := by
  have : ∀ ws : List Word, (∀ w ∈ ws, w.length ≤ 8) → ∀ p, rem ws p ≤ 8 * ws.length := by
    intro ws
    induction ws with
    | nil => intro _ p; exact Nat.zero_le _
    | cons w ws ih =>
      intro h p
      have h1 := h w (by simp)
      have h2 := ih (fun v hv => h v (by simp [hv])) (p / (w.length + 1))
      rw [rem, List.length_cons]; omega
  have := this ws h8 p
  omega
theorem sz_le (ws : List Word) (h4 : ws.length ≤ 4) (h8 : ∀ w ∈ ws, w.length ≤ 8) : sz ws ≤ 6561 := by
  have : ∀ ws : List Word, (∀ w ∈ ws, w.length ≤ 8) → sz ws ≤ 9 ^ ws.length := by
    intro ws
    induction ws with
    | nil => intro _; exact Nat.le_refl _
    | cons w ws ih =>
      intro h
      have h1 := h w (by simp)
      have h2 := ih (fun v hv => h v (by simp [hv]))
      rw [sz, List.length_cons, Nat.pow_succ, Nat.mul_comm]
      exact Nat.mul_le_mul h2 (by omega)
  have h1 := this ws h8
  have h2 : 9 ^ ws.length ≤ 9 ^ 4 := Nat.pow_le_pow_right (by decide) h4
  omega

/-- the bound of the reference's table -/
def far : Nat := 1099511627776
def tbT (b : List UInt8 × Nat) : Nat := if b.2 = 0 then far else b.1.length
theorem tb_same {ws : List Word} {R : Nat → List UInt8 × Nat} {p : Nat} {b : List UInt8 × Nat} {c : UInt8} (hm : mv ws p c = p) : looked ws R p b c = b := by unfold looked; rw [if_pos hm]
theorem tb_step {ws : List Word} {R : Nat → List UInt8 × Nat} {p : Nat} (b : List UInt8 × Nat) {c : UInt8} (hm : mv ws p c ≠ p) (hR : (R (mv ws p c)).2 ≠ 0) (hl : (R (mv ws p c)).1.length + 1 < far) :
    (tbT b < (R (mv ws p c)).1.length + 1 → looked ws R p b c = b) ∧
    ((R (mv ws p c)).1.length + 1 = tbT b → tbT (looked ws R p b c) = tbT b ∧ (looked ws R p b c).2 = b.2 + (R (mv ws p c)).2) ∧
    ((R (mv ws p c)).1.length + 1 < tbT b → tbT (looked ws R p b c) = (R (mv ws p c)).1.length + 1 ∧ (looked ws R p b c).2 = (R (mv ws p c)).2) := by
  unfold looked
  rw [if_neg hm]
  generalize R (mv ws p c) = tq at *
  unfold take1
  by_cases h0 : b.2 = 0
  · have hb : tbT b = far := if_pos h0
    rw [hb, if_pos (Or.inl h0)]
    refine ⟨fun h => by omega, fun h => by omega, fun _ => ⟨if_neg hR, rfl⟩⟩
  · have hb : tbT b = b.1.length := if_neg h0
    rw [hb]
    refine ⟨fun h => ?_, fun h => ?_, fun h => ?_⟩
    · rw [if_neg (by omega), if_neg (by omega)]
    · rw [if_neg (by omega), if_pos (by omega)]
      exact ⟨if_neg (show b.2 + tq.2 ≠ 0 by omega), rfl⟩
    · rw [if_pos (by omega)]
      exact ⟨if_neg hR, rfl⟩

/-- a letter with which a shortest string begins -/
def good (ws : List Word) (p : Nat) (c : UInt8) : Prop := mv ws p c ≠ p ∧ (rest ws (mv ws p c)).1.length + 1 = (rest ws p).1.length
theorem good_first {ws : List Word} (hw : okW ws) {p : Nat} (hp : p < sz ws) (e : p ≠ last ws) {i : Nat} {c : UInt8} (hi : letters[i]? = some c) (hg : good ws p c) (hno : ∀ j d, j < i → letters[j]? = some d → ¬ good ws p d) :
    (rest ws p).1 = c :: (rest ws (mv ws p c)).1 := by
  obtain ⟨pre, c0, post, hL, hm, h1, h2, h3⟩ := rest_head hw hp e
  have hg0 : good ws p c0 := ⟨hm, by rw [h1, List.length_cons]⟩
  have hpre : ∀ d ∈ pre, ¬ good ws p d := fun d hd hgd => by
    have h4 := h2 d hd hgd.1
    have h5 := hgd.2
    rw [h1, List.length_cons] at h5; omega
  rcases Nat.lt_trichotomy i pre.length with h | h | h
  · rw [hL, List.getElem?_append_left h] at hi
    exact absurd hg (hpre c (List.mem_of_getElem? hi))
  · rw [hL, h, List.getElem?_append_right (Nat.le_refl _)] at hi
    simp at hi
    rw [← hi]; exact h1
  · refine absurd hg0 (hno pre.length c0 h ?_)
    rw [hL, List.getElem?_append_right (Nat.le_refl _)]; simp
theorem good_some {ws : List Word} (hw : okW ws) {p : Nat} (hp : p < sz ws) (e : p ≠ last ws) : ∃ i c, i < 8 ∧ letters[i]? = some c ∧ good ws p c := by
  obtain ⟨pre, c0, post, hL, hm, h1, h2, h3⟩ := rest_head hw hp e
  have hc : letters[pre.length]? = some c0 := by rw [hL, List.getElem?_append_right (Nat.le_refl _)]; simp
  exact ⟨pre.length, c0, (List.getElem?_eq_some_iff.1 hc).1, hc, hm, by rw [h1, List.length_cons]⟩

/-- a sound table bounds every string that covers what is left -/
theorem sound_bounds {ws : List Word} {T : Nat → Int} (h0 : T (last ws) ≤ 0) (h1 : ∀ p, p < sz ws → ∀ c ∈ letters, mv ws p c ≠ p → T p ≤ T (mv ws p c) + 1) :
    ∀ (s : List UInt8) (p : Nat), p < sz ws → (∀ c ∈ s, c ∈ letters) → run ws p s = last ws → T p ≤ s.length
  | [], p, _, _, h => by rw [run_nil] at h; rw [h]; exact h0
  | d :: s, p, hp, hs, h => by
    rw [run_cons] at h
    have := sound_bounds h0 h1 s _ (mv_lt ws p d hp) (fun c hc => hs c (by simp [hc])) h
    by_cases hm : mv ws p d = p
    · rw [hm] at this; rw [List.length_cons]; omega
    · have := h1 p hp d (hs d (by simp)) hm
      rw [List.length_cons]; omega
/-- the table of the rests is sound -/
theorem rest_sound {ws : List Word} (hw : okW ws) {p : Nat} (hp : p < sz ws) {c : UInt8} (hc : c ∈ letters) (hm : mv ws p c ≠ p) : (rest ws p).1.length ≤ (rest ws (mv ws p c)).1.length + 1 := by
  have e : p ≠ last ws := by
    rintro rfl
    have h1 := rem_lt hm
    rw [(rem_last hp).2 rfl] at h1; omega
  obtain ⟨pre, c0, post, hL, hm0, h1, h2, h3⟩ := rest_head hw hp e
  have := h3 c hc hm
  rw [h1, List.length_cons]; omega

/-- order of strings of one length: the first difference -/
def ble : List UInt8 → List UInt8 → Prop
  | [], _ => True
  | _ :: _, [] => False
  | a :: s, b :: t => a < b ∨ (a = b ∧ ble s t)
theorem letters_lt : ∀ (i j : Nat) (a b : UInt8), i < j → letters[i]? = some a → letters[j]? = some b → a < b := by
  intro i j a b hij hi hj
  have h8 : j < 8 := (List.getElem?_eq_some_iff.1 hj).1
  have : ∀ j : Fin 8, ∀ i : Fin 8, i < j → letters[i.1] < letters[j.1] := by decide
  have h1 := this ⟨j, h8⟩ ⟨i, by omega⟩ hij
  rw [List.getElem?_eq_getElem (by show i < 8; omega)] at hi
  rw [List.getElem?_eq_getElem h8] at hj
  injection hi with hi; injection hj with hj
  rw [← hi, ← hj]; exact h1
theorem rest_first {ws : List Word} (hw : okW ws) : ∀ (s : List UInt8) (p : Nat), p < sz ws → (∀ c ∈ s, c ∈ letters) → run ws p s = last ws → s.length = (rest ws p).1.length → ble (rest ws p).1 s
  | [], p, hp, _, h, hl => by
    rw [List.eq_nil_of_length_eq_zero hl.symm]; trivial
  | d :: s, p, hp, hs, h, hl => by
    rw [run_cons] at h
    have hd := hs d (by simp)
    have hs' : ∀ c ∈ s, c ∈ letters := fun c hc => hs c (by simp [hc])
    have e : p ≠ last ws := by
      rintro rfl
      rw [rest_last] at hl; simp at hl
    obtain ⟨pre, c0, post, hL, hm0, h1, h2, h3⟩ := rest_head hw hp e
    have hlen : s.length = (rest ws (mv ws p c0)).1.length := by
      rw [h1, List.length_cons, List.length_cons] at hl; omega
    have h4 := rest_least hw s _ (mv_lt ws p d hp) hs' h
    have hm : mv ws p d ≠ p := by
      intro hm
      rw [hm, h1, List.length_cons] at h4; omega
    have h5 := h3 d hd hm
    rw [h1]
    obtain ⟨i, hi, hid⟩ := List.getElem_of_mem hd
    have hid' : letters[i]? = some d := by rw [List.getElem?_eq_getElem hi, hid]
    have hc0 : letters[pre.length]? = some c0 := by rw [hL, List.getElem?_append_right (Nat.le_refl _)]; simp
    rcases Nat.lt_trichotomy i pre.length with hlt | heq | hgt
    · have hmem : d ∈ pre := by
        rw [hL, List.getElem?_append_left hlt] at hid'
        exact List.mem_of_getElem? hid'
      have := h2 d hmem hm
      omega
    · subst heq
      rw [hid'] at hc0
      injection hc0 with hc0
      subst hc0
      exact Or.inr ⟨rfl, rest_first hw s _ (mv_lt ws p d hp) hs' h hlen⟩
    · exact Or.inl (letters_lt _ _ _ _ hgt hc0 hid')
end Go.Proofs.Bw
namespace Go.Proofs.YtlachbodibajlaaDoor
open Go.RowKit

theorem Vl.at {W X : World} {A : Option Addr} {n m c : Nat} {f : Nat → Value} (h : Vl W (.slice A n c) m f) (e : Ext W X) {k : Nat} (hk : k < m) : ∃ b off, A = some ⟨b, off, none⟩ ∧ b < X.heap.size ∧ X.cell? ⟨b, off + k, none⟩ = some (f k) := by
  obtain ⟨A', c', e', _, _, h3⟩ := h
  injection e' with e1 e2 e3
  subst e1
  obtain ⟨b, off, rfl, hb, hc⟩ := h3 (by omega)
  exact ⟨b, off, rfl, Nat.lt_of_lt_of_le hb e.size, keepAt e hb (hc k hk)⟩
/-- a block of one cell -/
theorem uno {w : World} {b : Nat} {t : TypeId} {x0 : Value} (h : w.heap[b]? = some (.cells #[x0] t (0, 0))) : w.cell? ⟨b, 0, none⟩ = some x0 ∧ (∀ o, w.frozen? ⟨b, o, none⟩ = false) ∧ b < w.heap.size :=
  ⟨(cell_of_row w b 0 _ t (0, 0) h).trans rfl, fun o => by simp [World.frozen?, h], (Array.getElem?_eq_some_iff.1 h).1⟩

/-- the words ws lie at slice v -/
def Sl (w : World) (v : Value) (ws : List Bw.Word) : Prop := Vl w v ws.length (fun j => .string ⟨(ws.getD j []).toArray⟩)
theorem Sl.ext {w w' : World} {v : Value} {ws : List Bw.Word} (h : Sl w v ws) (e : Ext w w') : Sl w' v ws := Vl.ext h e

/-- all are letters -/
def okL (s : List UInt8) : Bool := s.all fun c => Bw.letters.contains c
theorem okL_iff {s : List UInt8} : okL s = true ↔ ∀ c ∈ s, c ∈ Bw.letters := by simp [okL]
theorem trim_nil (s cs : List UInt8) : Lib.trimS s cs = [] ↔ ∀ c ∈ s, c ∈ cs := by
  have dw : ∀ (p : UInt8 → Bool) (l : List UInt8), l.dropWhile p = [] ↔ ∀ c ∈ l, p c = true := by
    intro p l
    induction l with
    | nil => simp
    | cons a l ih =>
      by_cases h : p a = true
      · rw [List.dropWhile_cons_of_pos h, ih]; simp [h]
      · rw [List.dropWhile_cons_of_neg h]; simp [h]
  unfold Lib.trimS Lib.trimLeftS Lib.trimRightS
  constructor
  · intro h
    have h2 : ∀ c ∈ s.reverse.dropWhile (cs.contains ·), c ∈ cs := by
      intro c hc
      have := (dw _ _).1 h c (by simpa using hc)
      simpa using this
    intro c hc
    have hc' : c ∈ s.reverse := by simpa using hc
    by_cases h3 : c ∈ s.reverse.dropWhile (cs.contains ·)
    · exact h2 c h3
    · rw [← List.takeWhile_append_dropWhile (p := (cs.contains ·)) (l := s.reverse), List.mem_append] at hc'
      rcases hc' with h4 | h4
      · have : ∀ (p : UInt8 → Bool) (l : List UInt8), ∀ c ∈ l.takeWhile p, p c = true := by
          intro p l
          induction l with
          | nil => simp
          | cons a l ih =>
            intro c hc
            rw [List.takeWhile_cons] at hc
            split at hc
            · rcases List.mem_cons.1 hc with h5 | h5
              · subst h5; assumption
              · exact ih c h5
            · cases hc
        simpa using this _ _ c h4
      · exact absurd h4 h3
  · intro h
    have h1 : s.reverse.dropWhile (cs.contains ·) = [] := (dw _ _).2 fun c hc => by
      have := h c (by simpa using hc)
      simpa using this
    rw [h1]; rfl
/-- a word of the document -/
def okWd (s : List UInt8) : Bool := decide (s.length ≤ 8) && okL s
def okWs (ws : List Bw.Word) : Bool := decide (1 ≤ ws.length ∧ ws.length ≤ 4) && ws.all okWd
theorem okWs_iff {ws : List Bw.Word} : okWs ws = true ↔ 1 ≤ ws.length ∧ ws.length ≤ 4 ∧ (∀ w ∈ ws, w.length ≤ 8) ∧ Bw.okW ws := by
  unfold okWs okWd Bw.okW
  simp only [Bool.and_eq_true, decide_eq_true_eq, List.all_eq_true, okL_iff]
  constructor
  · rintro ⟨⟨h1, h2⟩, h3⟩
    exact ⟨h1, h2, fun w hw => (h3 w hw).1, fun w hw => (h3 w hw).2⟩
  · rintro ⟨h1, h2, h3, h4⟩
    exact ⟨⟨h1, h2⟩, fun w hw => ⟨h3 w hw, h4 w hw⟩⟩
end Go.Proofs.YtlachbodibajlaaDoor
