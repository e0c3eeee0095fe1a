/- A drawn region whose last operations can only come up in their own order behind all the others may be walked in two
   parts: the head with loads taken first under a condition on the world, then the tail one after the other, without it.
   Conditions: the tail waits for the head and for itself; the head's own edges and guards point back. -/
import Derived.StillTail
import Derived.OrdersHeld
namespace Go.Proofs.Ytilcbbdmenknfaa
open Go

/-- The head's edges and guards point back. -/
def backB (md : Region.Mode) (ops : Array Oper) (n : Nat) : Bool :=
  (List.range n).all fun i => match ops[i]? with
    | some o => o.after.all (fun e => !Region.binds md e || decide (e.on < i)) &&
        (match o.guard with | some (g, _) => decide (g < n) | none => true)
    | none => false

def splitB (md : Region.Mode) (ops : Array Oper) (n : Nat) : Bool :=
  decide (n < ops.size) && Region.sinkB md ops n && Region.chainB md ops n && backB md ops n &&
    Region.seqB md ops (ops.size - n) n (Array.replicate n true ++ Array.replicate (ops.size - n) false)

/-- What the head owes: at its end the tail, else what the region owes. -/
def CutQ (P : Program) (ops : Array Oper) (Q : Exit → Act → World → Prop) (l : List Oper) : Exit → Act → World → Prop
  | .normal, a, w => wpList P ops Q l a w
  | e, a, w => Q e a w

section
variable {P : Program} {ops hops : Array Oper} {md : Region.Mode} {Q Q' : Exit → Act → World → Prop} {n : Nat}

theorem wp_both {o : Oper} {a : Act} {w : World} {K K' : Act → World → Prop} (hk : ∀ a w, K a w → K' a w)
    (hp : ∀ c a w, Q' (.panic c) a w → Q (.panic c) a w) (ho : LetsOut Q' → LetsOut Q)
    (hh : o.wp P a w K Q') : o.wp P a w K' Q := by
  unfold Oper.wp at *
  generalize (execOp a.eval o).run P w = r at *
  cases r with
  | halt x w' =>
    cases x with
    | panic v => exact hp _ _ _ hh
    | _ => exact (hh : False).elim
  | ok m w' =>
    cases m with
    | enter f args =>
      exact Calls.mono hh (fun e w'' he => by
        cases e with
        | returned v => exact hk _ _ he
        | panicked c => exact hp _ _ _ he
        | outgrown => exact ho he)
    | row r args => exact Rows.mono hh (fun v w'' he => hk _ _ he)
    | value v => exact hk _ _ hh
    | skip => exact hk _ _ hh
    | defer d => exact hk _ _ hh
    | _ => exact (hh : False).elim

theorem any_more : ∀ (f : Nat) (listed : Array Bool) (a : Act) (w : World),
    wpAny P md ops Q f listed a w → wpAny P md ops Q (f + 1) listed a w
  | 0, _, _, _, h => ⟨fun _ => h.2, fun i hi => by rw [h.1] at hi; cases hi⟩
  | f + 1, _, _, _, h => ⟨h.1, fun i hi => wpOp_mono (fun a' w' h' => any_more f _ a' w' h') (h.2 i hi)⟩
theorem any_add (f : Nat) : ∀ (d : Nat) (listed : Array Bool) (a : Act) (w : World),
    wpAny P md ops Q f listed a w → wpAny P md ops Q (d + f) listed a w
  | 0, _, _, _, h => by rwa [Nat.zero_add]
  | d + 1, _, _, _, h => by
    rw [show d + 1 + f = (d + f) + 1 by omega]
    exact any_more _ _ _ _ (any_add f d _ _ _ h)

theorem getD_head {xs ys : Array Bool} {i : Nat} {d : Bool} (h : i < xs.size) : (xs ++ ys).getD i d = xs.getD i d := by
  simp [Array.getElem?_append, h]
theorem getD_tail {xs : Array Bool} {g i : Nat} (h : xs.size ≤ i) : (xs ++ Array.replicate g false).getD i false = false := by
  have h' : ¬ i < xs.size := by omega
  simp only [Array.getD_eq_getD_getElem?, Array.getElem?_append, h', if_false]
  rw [← Array.getD_eq_getD_getElem?]
  exact getD_replicate_false _ _

theorem set_head {xs ys : Array Bool} {i : Nat} (h : i < xs.size) :
    (xs ++ ys).setIfInBounds i true = xs.setIfInBounds i true ++ ys := by
  apply Array.ext_getElem?
  intro j
  by_cases hj : i = j
  · subst hj
    simp [Array.getElem?_append, h]
  · simp [Array.getElem?_append, Array.getElem?_setIfInBounds, hj]

/-- What may come up in the head: the same in the whole region and in the head alone. -/
theorem ready_head {xs : Array Bool} {g i : Nat} (hx : xs.size = n) (hh : ∀ i, i < n → hops[i]? = ops[i]?) (hi : i < n) :
    i ∈ Region.ready md ops (xs ++ Array.replicate g false) ↔ i ∈ Region.ready md hops xs := by
  subst hx
  rw [mem_ready, mem_ready, getD_head hi, hh i hi]
  refine and_congr_right fun _ => exists_congr fun o => and_congr_right fun _ => ?_
  refine forall_congr' fun e => forall_congr' fun _ => forall_congr' fun _ => ?_
  rcases Nat.lt_or_ge e.on xs.size with h | h
  · rw [getD_head h]
  · rw [getD_tail h]
    have : xs.getD e.on false = false := by simp [Array.getElem?_eq_none h]
    rw [this]

/-- The first that has not come up may come up. -/
theorem first_ready {xs : Array Bool} (hs : hops.size = n) (hh : ∀ i, i < n → hops[i]? = ops[i]?) (hb : backB md ops n = true)
    {i : Nat} (hi : i < n) (hu : xs.getD i true = false) (hl : ∀ j, j < i → xs.getD j true = true) (hx : xs.size = n) :
    i ∈ Region.ready md hops xs := by
  have h1 := List.all_eq_true.1 hb i (List.mem_range.2 hi)
  have hlt : i < hops.size := by omega
  refine mem_ready.2 ⟨hu, hops[i], by simp [hlt], fun e he hbi => ?_⟩
  rw [← hh i hi] at h1
  simp only [Array.getElem?_eq_getElem hlt, Bool.and_eq_true] at h1
  have h2 := Array.all_eq_true_iff_forall_mem.1 h1.1 e he
  simp only [hbi, Bool.not_true, Bool.false_or, decide_eq_true_eq] at h2
  have h3 := hl e.on h2
  have h4 : e.on < xs.size := by omega
  simp [h4] at h3 ⊢
  exact h3

theorem least_off {xs : Array Bool} : ∀ m : Nat, (∀ i, i < m → xs.getD i true = true) ∨
    ∃ i, i < m ∧ xs.getD i true = false ∧ ∀ j, j < i → xs.getD j true = true
  | 0 => .inl (fun i hi => absurd hi (Nat.not_lt_zero i))
  | m + 1 => by
    rcases least_off (xs := xs) m with h | ⟨i, hi, h⟩
    · cases hm : xs.getD m true with
      | true =>
        exact .inl fun i hi => by
          rcases Nat.lt_or_ge i m with h' | h'
          · exact h i h'
          · have : i = m := by omega
            subst this; exact hm
      | false => exact .inr ⟨m, by omega, hm, h⟩
    · exact .inr ⟨i, by omega, h⟩

theorem op_head {i : Nat} {o : Oper} {a : Act} {w : World} {K K' : Act → World → Prop} {l : List Oper}
    (hh : ∀ i, i < n → hops[i]? = ops[i]?) (hi : i < n) (ho : ops[i]? = some o)
    (hg : ∀ g b, o.guard = some (g, b) → g < n) (hk : ∀ a w, K a w → K' a w)
    (h : wpOp P hops (CutQ P ops Q l) i K a w) : wpOp P ops Q i K' a w := by
  have hw : Region.wanted o (yielded hops a.tmps) = Region.wanted o (yielded ops a.tmps) := by
    unfold Region.wanted
    cases hgu : o.guard with
    | none => rfl
    | some gw =>
      obtain ⟨g, b⟩ := gw
      have hy : yielded hops a.tmps g = yielded ops a.tmps g := by
        unfold yielded
        rw [hh g (hg g b hgu)]
      simp only [hy]
  unfold wpOp at *
  rw [hh i hi] at h
  simp only [ho] at h ⊢
  rw [hw] at h
  split at h
  · rename_i hwt
    rw [if_pos hwt]
    rcases h with h | ⟨h1, h2⟩
    · exact .inl (wp_both hk (fun _ _ _ h => h) (fun ⟨a, w, h⟩ => ⟨a, w, h⟩) h)
    · exact .inr ⟨h1, let ⟨a, w, h⟩ := h2; ⟨a, w, h⟩⟩
  · rename_i hwt
    rw [if_neg hwt]
    exact hk _ _ h

theorem any_of_split {S : World → Prop} {g : Nat} {l : List Oper} (hg : g = ops.size - n) (hs : hops.size = n) (hh : ∀ i, i < n → hops[i]? = ops[i]?)
    (hB : splitB md ops n = true) (hl : ∀ j, l[j]? = ops[n + j]?) (hlen : l.length = g) :
    ∀ (f : Nat) (xs : Array Bool) (a : Act) (w : World), xs.size = n → HeadInv md ops n (xs ++ Array.replicate g false) →
      wpAnyH P md hops (CutQ P ops Q l) S f xs a w → wpAny P md ops Q (f + g) (xs ++ Array.replicate g false) a w := by
  subst hg
  simp only [splitB, Bool.and_eq_true, decide_eq_true_eq] at hB
  obtain ⟨⟨⟨⟨hn, hsink⟩, hchain⟩, hback⟩, hseq⟩ := hB
  intro f
  induction f with
  | zero =>
    intro xs a w hx inv h
    rcases least_off (xs := xs) n with hall | ⟨i, hi, hu, hlo⟩
    · have hxs : xs = Array.replicate n true := by
        apply Array.ext
        · simp [hx]
        · intro i h1 h2
          have := hall i (by omega)
          simpa [h1] using this
      subst hxs
      rw [Nat.zero_add]
      have := wpAny_of_seq (md := md) (Q' := Q) l n _ a w hl (by rw [hlen]; exact hseq) h.2
      rwa [hlen] at this
    · have := first_ready hs hh hback hi hu hlo hx
      rw [h.1] at this
      cases this
  | succ f ih =>
    intro xs a w hx inv h
    rcases least_off (xs := xs) n with hall | ⟨i, hi, hu, hlo⟩
    · have hxs : xs = Array.replicate n true := by
        apply Array.ext
        · simp [hx]
        · intro i h1 h2
          have := hall i (by omega)
          simpa [h1] using this
      have hr : Region.ready md hops xs = [] := by
        rw [List.eq_nil_iff_forall_not_mem]
        intro j hj
        obtain ⟨h1, o, ho, _⟩ := mem_ready.1 hj
        have : j < hops.size := (Array.getElem?_eq_some_iff.1 ho).1
        rw [hall j (by omega)] at h1
        cases h1
      have hq := h.1 hr
      subst hxs
      have := wpAny_of_seq (md := md) (Q' := Q) l n _ a w hl (by rw [hlen]; exact hseq) hq
      rw [hlen] at this
      exact any_add _ (f + 1) _ _ _ this
    · have hi1 := first_ready hs hh hback hi hu hlo hx
      have hi2 := (ready_head (g := ops.size - n) hx hh hi).2 hi1
      have hun : (xs ++ Array.replicate (ops.size - n) false).getD i true = false := by rw [getD_head (by omega)]; exact hu
      rw [show f + 1 + (ops.size - n) = (f + (ops.size - n)) + 1 by omega]
      refine ⟨fun h0 => (by rw [h0] at hi2; cases hi2), fun j hj => ?_⟩
      have hjn : j < n := by
        rcases Nat.lt_or_ge j n with h' | h'
        · exact h'
        · exact absurd hj (tail_waits hsink hchain hn inv _ i rfl hi hun j h')
      have hj1 := (ready_head hx hh hjn).1 hj
      obtain ⟨_, o, ho, _⟩ := mem_ready.1 hj
      have hb := List.all_eq_true.1 hback j (List.mem_range.2 hjn)
      simp only [ho, Bool.and_eq_true] at hb
      refine op_head hh hjn ho (fun g b hgb => ?_) (fun a' w' h' => ?_) (h.2 j hj1)
      · have h2 := hb.2
        simp only [hgb, decide_eq_true_eq] at h2
        exact h2
      · rw [set_head (by omega)]
        refine ih _ a' w' (by simp [hx]) ?_ h'.2
        rw [← set_head (by omega)]
        exact inv.set hj hjn

/-- A drawn region, its head alone under the condition S; then the tail. -/
theorem wp_region_split {S : World → Prop} {id : Nat} {a : Act} {w : World} {l : List Oper} (n : Nat) (hm : P.follows .mixedOrders = true)
    (hB : splitB .any l.toArray n = true) (hS : S { w with drawn := w.drawn + 1 })
    (h : S { w with drawn := w.drawn + 1 } → wpAnyH P .any (l.take n).toArray (CutQ P l.toArray Q (l.drop n)) S n (Array.replicate n false) a { w with drawn := w.drawn + 1 }) :
    (Code.region id l.toArray true).wp P Q a w := by
  have hn : n < l.toArray.size := by
    simp only [splitB, Bool.and_eq_true, decide_eq_true_eq] at hB
    exact hB.1.1.1.1
  have hn' : n < l.length := by simpa using hn
  refine wp_region_any hm ?_
  have e1 : Array.replicate l.toArray.size false = Array.replicate n false ++ Array.replicate (l.toArray.size - n) false := by
    rw [Array.replicate_append_replicate]
    congr 1
    omega
  have inv : HeadInv .any l.toArray n (Array.replicate n false ++ Array.replicate (l.toArray.size - n) false) := by
    rw [← e1]
    exact ⟨by simp, fun j oj _ hl => (by rw [getD_replicate_false] at hl; cases hl), fun t _ ht => getD_in (by simpa using ht) (getD_replicate_false _ _)⟩
  have := any_of_split (S := S) (g := l.toArray.size - n) (l := l.drop n) rfl (by simp; omega)
    (fun i hi => by simp [hi]) hB (fun j => by simp) (by simp) n (Array.replicate n false) a _ (by simp) inv (h hS)
  rw [e1]
  rwa [show n + (l.toArray.size - n) = l.toArray.size by omega] at this
end
theorem cut_normal {P : Program} {ops : Array Oper} {Q : Exit → Act → World → Prop} {l : List Oper} {a : Act} {w : World} (h : wpList P ops Q l a w) : CutQ P ops Q l .normal a w := h
/-- a drawn region in two parts, with what holds between them -/
theorem wp_split_via {S : World → Prop} {P : Program} {Q : Exit → Act → World → Prop} {id : Nat} {a : Act} {w : World} {l : List Oper} (n : Nat) (T : Act → World → Prop) (hm : P.follows .mixedOrders = true)
    (hB : splitB .any l.toArray n = true) (hS : S w.drew) (hT : ∀ a w, T a w → wpList P l.toArray Q (l.drop n) a w)
    (h : (∀ a w, T a w → CutQ P l.toArray Q (l.drop n) .normal a w) → wpAnyH P .any (l.take n).toArray (CutQ P l.toArray Q (l.drop n)) S n (Array.replicate n false) a w.drew) : (Code.region id l.toArray true).wp P Q a w :=
  wp_region_split n hm hB hS (fun _ => h (fun a w h => cut_normal (hT a w h)))
end Go.Proofs.Ytilcbbdmenknfaa
