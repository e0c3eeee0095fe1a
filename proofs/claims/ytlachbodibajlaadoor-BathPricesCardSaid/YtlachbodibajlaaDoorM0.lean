/- A drawn region whose last operations can only come up in their own order behind all the others may be walked in two parts: the head with loads taken first under a condition on the world, then the tail one after the other, without it. Conditions: the tail waits for the head and for itself; the head's own edges and guards point back. · The ground of the walks: worlds that only grow; drawn regions in two parts. · Slices of numbers, of flags and of arcs, and blocks of them that may be written. · append of one number onto a slice of the call's own, wherever in its block it begins: one way. -/
import Derived.StillTail
import Derived.OrdersHeld
import Derived.Test.YtlachbodibajlaaDoorProg
import Derived.WalkKit
import Derived.WalkLawsBesides
import Derived.WalkSpells
import Derived.Outline
import Derived.BigGuardPart
import Derived.Lib.Hide
import Derived.IntWalk
import Derived.Deep.QuietTactic
import Derived.BigQuiet
import Derived.StillTailTactics
import Derived.Deep.RegionHeld3
import Derived.Deep.DeepCutAuto
import Derived.OwnWalk
import Derived.ArgAppend
namespace Go.Proofs.YtlachbodibajlaaDoor
open Go

/-- The head's edges and guards point back. -/
def backB (md : Region.Mode) (ops : Array Oper) (n : Nat) : Bool :=
  (List.range n).all fun i => match ops[i]? with
    | some o => o.after.all (fun e => !Region.binds md e || decide (e.on < i)) &&
        (match o.guard with | some (g, _) => decide (g < n) | none => true)
    | none => false

def splitB (md : Region.Mode) (ops : Array Oper) (n : Nat) : Bool :=
  decide (n < ops.size) && Region.sinkB md ops n && Region.chainB md ops n && backB md ops n &&
    Region.seqB md ops (ops.size - n) n (Array.replicate n true ++ Array.replicate (ops.size - n) false)

/-- What the head owes: at its end the tail, else what the region owes. -/
def CutQ (P : Program) (ops : Array Oper) (Q : Exit → Act → World → Prop) (l : List Oper) : Exit → Act → World → Prop
  | .normal, a, w => wpList P ops Q l a w
  | e, a, w => Q e a w

section
variable {P : Program} {ops hops : Array Oper} {md : Region.Mode} {Q Q' : Exit → Act → World → Prop} {n : Nat}

theorem wp_both {o : Oper} {a : Act} {w : World} {K K' : Act → World → Prop} (hk : ∀ a w, K a w → K' a w)
    (hp : ∀ c a w, Q' (.panic c) a w → Q (.panic c) a w) (ho : LetsOut Q' → LetsOut Q)
    (hh : o.wp P a w K Q') : o.wp P a w K' Q := by
  unfold Oper.wp at *
  generalize (execOp a.eval o).run P w = r at *
  cases r with
  | halt x w' =>
    cases x with
    | panic v => exact hp _ _ _ hh
    | _ => exact (hh : False).elim
  | ok m w' =>
    cases m with
    | enter f args =>
      exact Calls.mono hh (fun e w'' he => by
        cases e with
        | returned v => exact hk _ _ he
        | panicked c => exact hp _ _ _ he
        | outgrown => exact ho he)
    | row r args => exact Rows.mono hh (fun v w'' he => hk _ _ he)
    | value v => exact hk _ _ hh
    | skip => exact hk _ _ hh
    | defer d => exact hk _ _ hh
    | _ => exact (hh : False).elim

theorem any_more : ∀ (f : Nat) (listed : Array Bool) (a : Act) (w : World),
    wpAny P md ops Q f listed a w → wpAny P md ops Q (f + 1) listed a w
  | 0, _, _, _, h => ⟨fun _ => h.2, fun i hi => by rw [h.1] at hi; cases hi⟩
  | f + 1, _, _, _, h => ⟨h.1, fun i hi => wpOp_mono (fun a' w' h' => any_more f _ a' w' h') (h.2 i hi)⟩
theorem any_add (f : Nat) : ∀ (d : Nat) (listed : Array Bool) (a : Act) (w : World),
    wpAny P md ops Q f listed a w → wpAny P md ops Q (d + f) listed a w
  | 0, _, _, _, h => by rwa [Nat.zero_add]
  | d + 1, _, _, _, h => by
    rw [show d + 1 + f = (d + f) + 1 by omega]
    exact any_more _ _ _ _ (any_add f d _ _ _ h)

theorem getD_head {xs ys : Array Bool} {i : Nat} {d : Bool} (h : i < xs.size) : (xs ++ ys).getD i d = xs.getD i d := by
  simp [Array.getElem?_append, h]
theorem getD_tail {xs : Array Bool} {g i : Nat} (h : xs.size ≤ i) : (xs ++ Array.replicate g false).getD i false = false := by
  have h' : ¬ i < xs.size := by omega
  simp only [Array.getD_eq_getD_getElem?, Array.getElem?_append, h', if_false]
  rw [← Array.getD_eq_getD_getElem?]
  exact getD_replicate_false _ _

theorem set_head {xs ys : Array Bool} {i : Nat} (h : i < xs.size) :
    (xs ++ ys).setIfInBounds i true = xs.setIfInBounds i true ++ ys := by
  apply Array.ext_getElem?
  intro j
  by_cases hj : i = j
  · subst hj
    simp [Array.getElem?_append, h]
  · simp [Array.getElem?_append, Array.getElem?_setIfInBounds, hj]

/-- What may come up in the head: the same in the whole region and in the head alone. -/
theorem ready_head {xs : Array Bool} {g i : Nat} (hx : xs.size = n) (hh : ∀ i, i < n → hops[i]? = ops[i]?) (hi : i < n) :
    i ∈ Region.ready md ops (xs ++ Array.replicate g false) ↔ i ∈ Region.ready md hops xs := by
  subst hx
  rw [mem_ready, mem_ready, getD_head hi, hh i hi]
  refine and_congr_right fun _ => exists_congr fun o => and_congr_right fun _ => ?_
  refine forall_congr' fun e => forall_congr' fun _ => forall_congr' fun _ => ?_
  rcases Nat.lt_or_ge e.on xs.size with h | h
  · rw [getD_head h]
  · rw [getD_tail h]
    have : xs.getD e.on false = false := by simp [Array.getElem?_eq_none h]
    rw [this]

/-- The first that has not come up may come up. -/
theorem first_ready {xs : Array Bool} (hs : hops.size = n) (hh : ∀ i, i < n → hops[i]? = ops[i]?) (hb : backB md ops n = true)
    {i : Nat} (hi : i < n) (hu : xs.getD i true = false) (hl : ∀ j, j < i → xs.getD j true = true) (hx : xs.size = n) :
    i ∈ Region.ready md hops xs := by
  have h1 := List.all_eq_true.1 hb i (List.mem_range.2 hi)
  have hlt : i < hops.size := by omega
  refine mem_ready.2 ⟨hu, hops[i], by simp [hlt], fun e he hbi => ?_⟩
  rw [← hh i hi] at h1
  simp only [Array.getElem?_eq_getElem hlt, Bool.and_eq_true] at h1
  have h2 := Array.all_eq_true_iff_forall_mem.1 h1.1 e he
  simp only [hbi, Bool.not_true, Bool.false_or, decide_eq_true_eq] at h2
  have h3 := hl e.on h2
  have h4 : e.on < xs.size := by omega
  simp [h4] at h3 ⊢
  exact h3

theorem least_off {xs : Array Bool} : ∀ m : Nat, (∀ i, i < m → xs.getD i true = true) ∨
    ∃ i, i < m ∧ xs.getD i true = false ∧ ∀ j, j < i → xs.getD j true = true
  | 0 => .inl (fun i hi => absurd hi (Nat.not_lt_zero i))
  | m + 1 => by
    rcases least_off (xs := xs) m with h | ⟨i, hi, h⟩
    · cases hm : xs.getD m true with
      | true =>
        exact .inl fun i hi => by
          rcases Nat.lt_or_ge i m with h' | h'
          · exact h i h'
          · have : i = m := by omega
            subst this; exact hm
      | false => exact .inr ⟨m, by omega, hm, h⟩
    · exact .inr ⟨i, by omega, h⟩

theorem op_head {i : Nat} {o : Oper} {a : Act} {w : World} {K K' : Act → World → Prop} {l : List Oper}
    (hh : ∀ i, i < n → hops[i]? = ops[i]?) (hi : i < n) (ho : ops[i]? = some o)
    (hg : ∀ g b, o.guard = some (g, b) → g < n) (hk : ∀ a w, K a w → K' a w)
    (h : wpOp P hops (CutQ P ops Q l) i K a w) : wpOp P ops Q i K' a w := by
  have hw : Region.wanted o (yielded hops a.tmps) = Region.wanted o (yielded ops a.tmps) := by
    unfold Region.wanted
    cases hgu : o.guard with
    | none => rfl
    | some gw =>
      obtain ⟨g, b⟩ := gw
      have hy : yielded hops a.tmps g = yielded ops a.tmps g := by
        unfold yielded
        rw [hh g (hg g b hgu)]
      simp only [hy]
  unfold wpOp at *
  rw [hh i hi] at h
  simp only [ho] at h ⊢
  rw [hw] at h
  split at h
  · rename_i hwt
    rw [if_pos hwt]
    rcases h with h | ⟨h1, h2⟩
    · exact .inl (wp_both hk (fun _ _ _ h => h) (fun ⟨a, w, h⟩ => ⟨a, w, h⟩) h)
    · exact .inr ⟨h1, let ⟨a, w, h⟩ := h2; ⟨a, w, h⟩⟩
  · rename_i hwt
    rw [if_neg hwt]
    exact hk _ _ h

theorem any_of_split {S : World → Prop} {g : Nat} {l : List Oper} (hg : g = ops.size - n) (hs : hops.size = n) (hh : ∀ i, i < n → hops[i]? = ops[i]?)
    (hB : splitB md ops n = true) (hl : ∀ j, l[j]? = ops[n + j]?) (hlen : l.length = g) :
    ∀ (f : Nat) (xs : Array Bool) (a : Act) (w : World), xs.size = n → HeadInv md ops n (xs ++ Array.replicate g false) →
      wpAnyH P md hops (CutQ P ops Q l) S f xs a w → wpAny P md ops Q (f + g) (xs ++ Array.replicate g false) a w := by
  subst hg
  simp only [splitB, Bool.and_eq_true, decide_eq_true_eq] at hB
  obtain ⟨⟨⟨⟨hn, hsink⟩, hchain⟩, hback⟩, hseq⟩ := hB
  intro f
  induction f with
  | zero =>
    intro xs a w hx inv h
    rcases least_off (xs := xs) n with hall | ⟨i, hi, hu, hlo⟩
    · have hxs : xs = Array.replicate n true := by
        apply Array.ext
        · simp [hx]
        · intro i h1 h2
          have := hall i (by omega)
          simpa [h1] using this
      subst hxs
      rw [Nat.zero_add]
      have := wpAny_of_seq (md := md) (Q' := Q) l n _ a w hl (by rw [hlen]; exact hseq) h.2
      rwa [hlen] at this
    · have := first_ready hs hh hback hi hu hlo hx
      rw [h.1] at this
      cases this
  | succ f ih =>
    intro xs a w hx inv h
    rcases least_off (xs := xs) n with hall | ⟨i, hi, hu, hlo⟩
    · have hxs : xs = Array.replicate n true := by
        apply Array.ext
        · simp [hx]
        · intro i h1 h2
          have := hall i (by omega)
          simpa [h1] using this
      have hr : Region.ready md hops xs = [] := by
        rw [List.eq_nil_iff_forall_not_mem]
        intro j hj
        obtain ⟨h1, o, ho, _⟩ := mem_ready.1 hj
        have : j < hops.size := (Array.getElem?_eq_some_iff.1 ho).1
        rw [hall j (by omega)] at h1
        cases h1
      have hq := h.1 hr
      subst hxs
      have := wpAny_of_seq (md := md) (Q' := Q) l n _ a w hl (by rw [hlen]; exact hseq) hq
      rw [hlen] at this
      exact any_add _ (f + 1) _ _ _ this
    · have hi1 := first_ready hs hh hback hi hu hlo hx
      have hi2 := (ready_head (g := ops.size - n) hx hh hi).2 hi1
      have hun : (xs ++ Array.replicate (ops.size - n) false).getD i true = false := by rw [getD_head (by omega)]; exact hu
      rw [show f + 1 + (ops.size - n) = (f + (ops.size - n)) + 1 by omega]
      refine ⟨fun h0 => (by rw [h0] at hi2; cases hi2), fun j hj => ?_⟩
      have hjn : j < n := by
        rcases Nat.lt_or_ge j n with h' | h'
        · exact h'
        · exact absurd hj (tail_waits hsink hchain hn inv _ i rfl hi hun j h')
      have hj1 := (ready_head hx hh hjn).1 hj
      obtain ⟨_, o, ho, _⟩ := mem_ready.1 hj
      have hb := List.all_eq_true.1 hback j (List.mem_range.2 hjn)
      simp only [ho, Bool.and_eq_true] at hb
      refine op_head hh hjn ho (fun g b hgb => ?_) (fun a' w' h' => ?_) (h.2 j hj1)
      · have h2 := hb.2
        simp only [hgb, decide_eq_true_eq] at h2
        exact h2
      · rw [set_head (by omega)]
        refine ih _ a' w' (by simp [hx]) ?_ h'.2
        rw [← set_head (by omega)]
        exact inv.set hj hjn

/-- A drawn region, its head alone under the condition S; then the tail. -/
theorem wp_region_split {S : World → Prop} {id : Nat} {a : Act} {w : World} {l : List Oper} (n : Nat) (hm : P.follows .mixedOrders = true)
    (hB : splitB .any l.toArray n = true) (hS : S { w with drawn := w.drawn + 1 })
    (h : S { w with drawn := w.drawn + 1 } → wpAnyH P .any (l.take n).toArray (CutQ P l.toArray Q (l.drop n)) S n (Array.replicate n false) a { w with drawn := w.drawn + 1 }) :
    (Code.region id l.toArray true).wp P Q a w := by
  have hn : n < l.toArray.size := by
    simp only [splitB, Bool.and_eq_true, decide_eq_true_eq] at hB
    exact hB.1.1.1.1
  have hn' : n < l.length := by simpa using hn
  refine wp_region_any hm ?_
  have e1 : Array.replicate l.toArray.size false = Array.replicate n false ++ Array.replicate (l.toArray.size - n) false := by
    rw [Array.replicate_append_replicate]
    congr 1
    omega
  have inv : HeadInv .any l.toArray n (Array.replicate n false ++ Array.replicate (l.toArray.size - n) false) := by
    rw [← e1]
    exact ⟨by simp, fun j oj _ hl => (by rw [getD_replicate_false] at hl; cases hl), fun t _ ht => getD_in (by simpa using ht) (getD_replicate_false _ _)⟩
  have := any_of_split (S := S) (g := l.toArray.size - n) (l := l.drop n) rfl (by simp; omega)
    (fun i hi => by simp [hi]) hB (fun j => by simp) (by simp) n (Array.replicate n false) a _ (by simp) inv (h hS)
  rw [e1]
  rwa [show n + (l.toArray.size - n) = l.toArray.size by omega] at this
end
theorem cut_normal {P : Program} {ops : Array Oper} {Q : Exit → Act → World → Prop} {l : List Oper} {a : Act} {w : World} (h : wpList P ops Q l a w) : CutQ P ops Q l .normal a w := h
/-- a drawn region in two parts, with what holds between them -/
theorem wp_split_via {S : World → Prop} {P : Program} {Q : Exit → Act → World → Prop} {id : Nat} {a : Act} {w : World} {l : List Oper} (n : Nat) (T : Act → World → Prop) (hm : P.follows .mixedOrders = true)
    (hB : splitB .any l.toArray n = true) (hS : S w.drew) (hT : ∀ a w, T a w → wpList P l.toArray Q (l.drop n) a w)
    (h : (∀ a w, T a w → CutQ P l.toArray Q (l.drop n) .normal a w) → wpAnyH P .any (l.take n).toArray (CutQ P l.toArray Q (l.drop n)) S n (Array.replicate n false) a w.drew) : (Code.region id l.toArray true).wp P Q a w :=
  wp_region_split n hm hB hS (fun _ => h (fun a w h => cut_normal (hT a w h)))
end Go.Proofs.YtlachbodibajlaaDoor
namespace Go.Proofs.YtlachbodibajlaaDoor
open Go.RowKit

theorem Below.toDrewN {B : Nat} {W w1 : World} (h : Below B W w1) (k : Nat) : Below B W (w1.drewN k) := ⟨h.os, h.tape, h.output, h.size, h.block⟩
theorem Below.unDrewN {B k : Nat} {W w1 : World} (h : Below B (W.drewN k) w1) : Below B W w1 := ⟨h.os, h.tape, h.output, h.size, h.block⟩
theorem Below.unDrew {B : Nat} {W w1 : World} (h : Below B W.drew w1) : Below B W w1 := ⟨h.os, h.tape, h.output, h.size, h.block⟩
theorem keepAt {B : Nat} {W w1 : World} {g i : Nat} {v : Value} (hb : Below B W w1) (hg : g < B) (h : W.cell? ⟨g, i, none⟩ = some v) : w1.cell? ⟨g, i, none⟩ = some v := (hb.cell (p := ⟨g, i, none⟩) hg).trans h
theorem below1 (w : World) (o : Obj) : Below w.heap.size w (w.alloc o) := (Below.refl _ _).alloc (Nat.le_refl _) _
theorem bcell {B : Nat} {W w1 : World} (hb : Below B W w1) : (∀ b o, b < B → w1.cell? ⟨b, o, none⟩ = W.cell? ⟨b, o, none⟩) ∧ (∀ b o, b < B → w1.frozen? ⟨b, o, none⟩ = W.frozen? ⟨b, o, none⟩) :=
  ⟨fun b o h => hb.cell (p := ⟨b, o, none⟩) h, fun b o h => hb.frozen (p := ⟨b, o, none⟩) h⟩
theorem nx {W w1 w2 : World} (h : Below W.heap.size W w1) (h2 : Below w1.heap.size w1 w2) : Below W.heap.size W w2 := h.trans (h2.mono h.size)
theorem al {W w1 : World} (h : Below W.heap.size W w1) (o : Obj) : Below W.heap.size W (w1.alloc o) := nx h (below1 _ _)
theorem sc {W w1 : World} (h : Below W.heap.size W w1) {g i : Nat} (hg : W.heap.size ≤ g) (v : Value) : Below W.heap.size W (w1.setCell ⟨g, i, none⟩ v) := h.setCell (p := ⟨g, i, none⟩) hg v
theorem al1 (W : World) (o1 : Obj) : Below W.heap.size W (W.alloc o1) := below1 W o1
theorem al2 (W : World) (o1 o2 : Obj) : Below W.heap.size W ((W.alloc o1).alloc o2) := al (al1 W o1) o2
theorem al3 (W : World) (o1 o2 o3 : Obj) : Below W.heap.size W (((W.alloc o1).alloc o2).alloc o3) := al (al2 W o1 o2) o3
theorem al4 (W : World) (o1 o2 o3 o4 : Obj) : Below W.heap.size W ((((W.alloc o1).alloc o2).alloc o3).alloc o4) := al (al3 W o1 o2 o3) o4
theorem al5 (W : World) (o1 o2 o3 o4 o5 : Obj) : Below W.heap.size W (((((W.alloc o1).alloc o2).alloc o3).alloc o4).alloc o5) := al (al4 W o1 o2 o3 o4) o5

/-- Y is X and more -/
def Ext (X Y : World) : Prop := Below X.heap.size X Y
theorem Ext.of {X Y : World} (h : Below X.heap.size X Y) : Ext X Y := h
theorem Ext.refl (X : World) : Ext X X := Below.refl _ _
theorem Ext.drw {X Y : World} (h : Ext X Y) : Ext X Y.drew := Below.drew (B := X.heap.size) h
theorem Ext.drwN {X Y : World} (h : Ext X Y) (k : Nat) : Ext X (Y.drewN k) := Below.toDrewN (B := X.heap.size) h k
theorem Ext.trans {X Y Z : World} (h : Ext X Y) (k : Ext Y Z) : Ext X Z := nx h k
theorem Ext.alc {X Y : World} (h : Ext X Y) (o : Obj) : Ext X (Y.alloc o) := al h o
theorem Ext.sc {X Y : World} (h : Ext X Y) {g i : Nat} {v : Value} (hg : X.heap.size ≤ g) : Ext X (Y.setCell ⟨g, i, none⟩ v) := Below.setCell (B := X.heap.size) h (p := ⟨g, i, none⟩) hg v
theorem Ext.size {X Y : World} (h : Ext X Y) : X.heap.size ≤ Y.heap.size := Below.size h
theorem Ext.at {X Y : World} (h : Ext X Y) {g i : Nat} {v : Value} (hg : g < X.heap.size) (hc : X.cell? ⟨g, i, none⟩ = some v) : Y.cell? ⟨g, i, none⟩ = some v := keepAt h hg hc

theorem wp_split {S : World → Prop} {P : Program} {Q : Exit → Act → World → Prop} {id : Nat} {a : Act} {w : World} {l : List Oper} (n : Nat) (hm : P.follows .mixedOrders = true)
    (hB : splitB .any l.toArray n = true) (hS : S w.drew)
    (h : wpAnyH P .any (l.take n).toArray (CutQ P l.toArray Q (l.drop n)) S n (Array.replicate n false) a w.drew) : (Code.region id l.toArray true).wp P Q a w :=
  wp_region_split n hm hB hS (fun _ => h)
theorem take_at {P : Program} {md : Region.Mode} {ops : Array Oper} {Q : Exit → Act → World → Prop} {S : World → Prop} (i : Nat) (d : Option Tmp) (v : Value) {oi : Oper} {fuel : Nat} {listed : Array Bool} {a : Act} {w : World} (hi : ops[i]? = some oi) (hd : oi.dst = d)
    (hs : Region.noSelect ops = true) (hf : Region.free md ops listed i = true) (hr : (Region.ready md ops listed).contains i = true)
    (hQ : ∀ c a w, Q (.panic c) (a.put oi.dst v) w → Q (.panic c) a w) (hy : YieldsIf P ops S oi v a) (hS : S w)
    (h : wpAnyH P md ops Q S fuel (listed.setIfInBounds i true) (a.put d v) w) : wpAnyH P md ops Q S (fuel + 1) listed a w :=
  wpAnyH_take hi hs hf hr hQ hy hS (by rw [hd]; exact h)
theorem World.ownsRow.ext {X Y : World} {base : Nat} {e : TypeId} {size : Nat} {v : Value} {n : Nat} {xs : List Value} (h : X.ownsRow base e size v n xs) (hx : Ext X Y) : Y.ownsRow base e size v n xs := by
  obtain ⟨h1, h2 | ⟨g, cap, cur, rfl, hg, hh, rest⟩⟩ := h
  · exact ⟨h1, .inl h2⟩
  · have hl : g < X.heap.size := (Array.getElem?_eq_some_iff.1 hh).1
    exact ⟨h1, .inr ⟨g, cap, cur, rfl, hg, (Below.block hx g hl).trans hh, rest⟩⟩
end Go.Proofs.YtlachbodibajlaaDoor
namespace Go.Proofs.YtlachbodibajlaaDoor
open Go.RowKit

/-- f with v at i -/
def up {α : Type} (f : Nat → α) (i : Nat) (v : α) : Nat → α := fun j => if j = i then v else f j
theorem up_self {α : Type} (f : Nat → α) (i : Nat) (v : α) : up f i v i = v := by simp [up]
theorem up_ne {α : Type} (f : Nat → α) {i j : Nat} (v : α) (h : j ≠ i) : up f i v j = f j := by simp [up, h]

/-- the n values f 0 .. lie at slice v, k cells each -/
def Vl (w : World) (v : Value) (n : Nat) (f : Nat → Value) : Prop :=
  ∃ A c, v = .slice A n c ∧ n ≤ c ∧ c ≤ 9223372036854775807 ∧ (0 < n → ∃ b off, A = some ⟨b, off, none⟩ ∧ b < w.heap.size ∧ ∀ j, j < n → w.cell? ⟨b, off + j, none⟩ = some (f j))
theorem Vl.ext {w w' : World} {v : Value} {n : Nat} {f : Nat → Value} (h : Vl w v n f) (e : Ext w w') : Vl w' v n f := by
  obtain ⟨A, c, rfl, h1, h2, h3⟩ := h
  refine ⟨A, c, rfl, h1, h2, fun hp => ?_⟩
  obtain ⟨b, off, rfl, hb, hc⟩ := h3 hp
  exact ⟨b, off, rfl, Nat.lt_of_lt_of_le hb e.size, fun j hj => keepAt e hb (hc j hj)⟩
theorem Vl.congr {w : World} {v : Value} {n : Nat} {f g : Nat → Value} (h : Vl w v n f) (e : ∀ j, j < n → f j = g j) : Vl w v n g := by
  obtain ⟨A, c, rfl, h1, h2, h3⟩ := h
  refine ⟨A, c, rfl, h1, h2, fun hp => ?_⟩
  obtain ⟨b, off, rfl, hb, hc⟩ := h3 hp
  exact ⟨b, off, rfl, hb, fun j hj => by rw [← e j hj]; exact hc j hj⟩
/-- a slice of numbers, of flags -/
def Il (w : World) (v : Value) (n : Nat) (x : Nat → Int) : Prop := Vl w v n (fun j => .int .i64 (x j))
def Bl (w : World) (v : Value) (n : Nat) (s : Nat → Bool) : Prop := Vl w v n (fun j => .bool (s j))
theorem Il.ext {w w' : World} {v : Value} {n : Nat} {f : Nat → Int} (h : Il w v n f) (e : Ext w w') : Il w' v n f := Vl.ext h e
theorem Bl.ext {w w' : World} {v : Value} {n : Nat} {f : Nat → Bool} (h : Bl w v n f) (e : Ext w w') : Bl w' v n f := Vl.ext h e
theorem Il.congr {w : World} {v : Value} {n : Nat} {f g : Nat → Int} (h : Il w v n f) (e : ∀ j, j < n → f j = g j) : Il w v n g := Vl.congr h (fun j hj => by rw [e j hj])
theorem Bl.congr {w : World} {v : Value} {n : Nat} {f g : Nat → Bool} (h : Bl w v n f) (e : ∀ j, j < n → f j = g j) : Bl w v n g := Vl.congr h (fun j hj => by rw [e j hj])

/-- block b of w is the n values f 0 .. -/
def Bk (w : World) (b : Nat) (t : TypeId) (n : Nat) (f : Nat → Value) : Prop := w.heap[b]? = some (.cells (Array.ofFn fun i : Fin n => f i.1) t (0, 0))
section
variable {w w' : World} {b : Nat} {t : TypeId} {n : Nat} {f : Nat → Value}
theorem Bk.lt (h : Bk w b t n f) : b < w.heap.size := (Array.getElem?_eq_some_iff.1 h).1
theorem Bk.cell (h : Bk w b t n f) {i : Nat} (hi : i < n) : w.cell? ⟨b, i, none⟩ = some (f i) :=
  (cell_of_row w b i _ t (0, 0) h).trans (by simp [hi])
theorem Bk.free (h : Bk w b t n f) (i : Nat) : w.frozen? ⟨b, i, none⟩ = false := by
  unfold Bk at h
  simp [World.frozen?, h]
theorem Bk.drew (h : Bk w b t n f) : Bk w.drew b t n f := h
theorem Bk.alloc (h : Bk w b t n f) (o : Obj) : Bk (w.alloc o) b t n f := (Below.heap_alloc w o b h.lt).trans h
theorem Bk.ext (h : Bk w b t n f) (e : Ext w w') : Bk w' b t n f := (Below.block e b h.lt).trans h
theorem Bk.set_ (h : Bk w b t n f) (i : Nat) (v : Value) : Bk (w.setCell ⟨b, i, none⟩ v) b t n (up f i v) := by
  unfold Bk at h ⊢
  have e : (Array.ofFn fun j : Fin n => f j.1).setIfInBounds i v = Array.ofFn fun j : Fin n => up f i v j.1 := by
    apply Array.ext
    · simp
    · intro j h1 h2
      simp only [Array.size_setIfInBounds, Array.size_ofFn] at h1
      rw [Array.getElem_setIfInBounds (by simpa using h1)]
      simp [up, eq_comm]
  simp [World.setCell, Array.getElem?_modify, h, e]
theorem Bk.far (h : Bk w b t n f) {p : Addr} (hp : b ≠ p.block) (u : Value) : Bk (w.setCell p u) b t n f := (Below.heap_setCell w p u b hp).trans h
theorem Bk.vl (h : Bk w b t n f) (hn : n ≤ 9223372036854775807) : Vl w (.slice (some ⟨b, 0, none⟩) n n) n f :=
  ⟨_, n, rfl, Nat.le_refl _, hn, fun _ => ⟨b, 0, rfl, h.lt, fun j hj => by rw [Nat.zero_add]; exact h.cell hj⟩⟩
theorem Bk.congr {g : Nat → Value} (h : Bk w b t n f) (e : ∀ j, j < n → f j = g j) : Bk w b t n g := by
  have : (Array.ofFn fun i : Fin n => f i.1) = Array.ofFn fun i : Fin n => g i.1 := by congr 1; funext i; exact e i.1 i.2
  unfold Bk at h ⊢
  rw [← this]; exact h
end
/-- a block of numbers, of flags -/
def BI (w : World) (b n : Nat) (x : Nat → Int) : Prop := Bk w b 3 n (fun j => .int .i64 (x j))
def BB (w : World) (b n : Nat) (x : Nat → Bool) : Prop := Bk w b 4 n (fun j => .bool (x j))
section
variable {w w' : World} {b n : Nat} {x : Nat → Int} {s : Nat → Bool}
theorem BI.set_ (h : BI w b n x) (i : Nat) (v : Int) : BI (w.setCell ⟨b, i, none⟩ (.int .i64 v)) b n (up x i v) := by
  have := Bk.set_ h i (.int .i64 v)
  refine Bk.congr this fun j _ => ?_
  unfold up; split <;> rfl
theorem BB.set_ (h : BB w b n s) (i : Nat) (v : Bool) : BB (w.setCell ⟨b, i, none⟩ (.bool v)) b n (up s i v) := by
  have := Bk.set_ h i (.bool v)
  refine Bk.congr this fun j _ => ?_
  unfold up; split <;> rfl
theorem BI.ext (h : BI w b n x) (e : Ext w w') : BI w' b n x := Bk.ext h e
theorem BB.ext (h : BB w b n s) (e : Ext w w') : BB w' b n s := Bk.ext h e
theorem BI.il (h : BI w b n x) (hn : n ≤ 9223372036854775807) : Il w (.slice (some ⟨b, 0, none⟩) n n) n x := Bk.vl h hn
theorem BB.bl (h : BB w b n s) (hn : n ≤ 9223372036854775807) : Bl w (.slice (some ⟨b, 0, none⟩) n n) n s := Bk.vl h hn
end

set_option maxRecDepth 100000 in
theorem info3 : (Tryd.prog.info? 3).map (fun i => (i.zero, i.size, i.bytes)) = some (some (.int .i64 0), 1, 8) := by kernel_rfl
set_option maxRecDepth 100000 in
theorem info4 : (Tryd.prog.info? 4).map (fun i => (i.zero, i.size, i.bytes)) = some (some (.bool false), 1, 1) := by kernel_rfl
set_option maxRecDepth 100000 in
theorem info32 : (Tryd.prog.info? 32).map (fun i => (i.zero, i.size, i.bytes)) = some (some (.slice none 0 0), 1, 24) := by kernel_rfl

theorem made_one (z : Value) (hz : z.cells = #[z]) (k : Nat) : madeCells z.cells k = Array.ofFn fun _ : Fin k => z := by
  apply Array.ext
  · simp [madeCells, hz]
  · intro i h1 h2
    simp [madeCells, hz, Nat.mod_one]
theorem make_one (t e : TypeId) (z : Value) (by_ : Nat) (ht : Tryd.prog.underlying t = some (.slice e)) (hi : (Tryd.prog.info? e).map (fun i => (i.zero, i.size, i.bytes)) = some (some z, 1, by_)) (hz : z.cells = #[z]) (hb : by_ ≤ 24) (k : Nat) (hk : k ≤ 1000000) (w : World) :
    (Instr.makeSlice t (.int .i64 (k : Int)) (.int .i64 (k : Int))).run Tryd.prog w = .ok (.slice (some ⟨w.heap.size, 0, none⟩) k k) (w.alloc (.cells (Array.ofFn fun _ : Fin k => z) e)) := by
  obtain ⟨i0, hi, hz0, hz1, hz2⟩ := info_parts hi
  have h3 : k * by_ ≤ 24 * 1000000 := Nat.le_trans (Nat.mul_le_mul hk hb) (by omega)
  have hr := run_make (P := Tryd.prog) w t e i0 _ ht hi hz0 .i64 .i64 k k (by omega) (Int.le_refl _) (by rw [hz2, ← Int.natCast_mul, Nat.mul_comm]; omega) (by omega)
  rw [hr, Int.toNat_natCast, hz1, Nat.mul_one, made_one z hz]
end Go.Proofs.YtlachbodibajlaaDoor
namespace Go.Proofs.YtlachbodibajlaaDoor
open Go.RowKit

/-- the slice v of n numbers x 0 .. lies in a block of its own, from base on, and what is behind it is free -/
def Qs (w : World) (base : Nat) (v : Value) (n : Nat) (x : Nat → Int) : Prop :=
  (∀ b, v.ownBlock = some b → base ≤ b ∧ b < w.heap.size) ∧ ∃ A c, v = .slice A n c ∧ n ≤ c ∧ c ≤ maxLen ∧ (c = 0 ∨ ∃ g off cur, A = some ⟨g, off, none⟩ ∧ base ≤ g ∧ w.heap[g]? = some (.cells cur 3 (0, 0)) ∧ off + c ≤ cur.size ∧ ∀ j, j < n → cur[off + j]? = some (.int .i64 (x j)))
section
variable {w w' : World} {base : Nat} {v : Value} {n : Nat} {x : Nat → Int}
theorem Qs.nil (w : World) (base : Nat) (x : Nat → Int) : Qs w base (.slice none 0 0) 0 x := ⟨fun _ h => by simp [Value.ownBlock] at h, none, 0, rfl, Nat.le_refl _, Nat.zero_le _, .inl rfl⟩
theorem Qs.il (h : Qs w base v n x) : Il w v n x := by
  obtain ⟨-, A, c, rfl, h1, h2, h3⟩ := h
  refine ⟨A, c, rfl, h1, by simp only [maxLen] at h2; omega, fun hp => ?_⟩
  rcases h3 with h0 | ⟨g, off, cur, rfl, hb, hg, hs, hc⟩
  · omega
  · exact ⟨g, off, rfl, (Array.getElem?_eq_some_iff.1 hg).1, fun j hj => (cell_of_row w g (off + j) cur 3 (0, 0) hg).trans (hc j hj)⟩
theorem Qs.congr {z : Nat → Int} (h : Qs w base v n x) (e : ∀ j, j < n → x j = z j) : Qs w base v n z := by
  obtain ⟨h0, A, c, rfl, h1, h2, h3⟩ := h
  exact ⟨h0, A, c, rfl, h1, h2, h3.imp id fun ⟨g, off, cur, hA, hb, hg, hs, hc⟩ => ⟨g, off, cur, hA, hb, hg, hs, fun j hj => by rw [← e j hj]; exact hc j hj⟩⟩
theorem Qs.block (h : Qs w base v n x) (hs : w.heap.size ≤ w'.heap.size) (hk : ∀ g, v.ownBlock = some g → w'.heap[g]? = w.heap[g]?) : Qs w' base v n x := by
  obtain ⟨h0, A, c, rfl, h1, h2, h3⟩ := h
  exact ⟨fun b hb => ⟨(h0 b hb).1, Nat.lt_of_lt_of_le (h0 b hb).2 hs⟩, A, c, rfl, h1, h2, h3.imp id fun ⟨g, off, cur, hA, hb, hg, hs, hc⟩ => ⟨g, off, cur, hA, hb, (hk g (by subst hA; rfl)).trans hg, hs, hc⟩⟩
theorem Qs.ext (h : Qs w base v n x) (e : Ext w w') : Qs w' base v n x := by
  obtain ⟨h0, A, c, rfl, h1, h2, h3⟩ := h
  exact ⟨fun b hb => ⟨(h0 b hb).1, Nat.lt_of_lt_of_le (h0 b hb).2 e.size⟩, A, c, rfl, h1, h2, h3.imp id fun ⟨g, off, cur, hA, hb, hg, hs, hc⟩ => ⟨g, off, cur, hA, hb, (Below.block e g (Array.getElem?_eq_some_iff.1 hg).1).trans hg, hs, hc⟩⟩
/-- behind its first -/
theorem Qs.tail {A : Option Addr} {c : Nat} (h : Qs w base (.slice A (n + 1) c) (n + 1) x) (B : Option Addr) (hb0 : ∀ b, (Value.slice B n (c - 1)).ownBlock = some b → base ≤ b ∧ b < w.heap.size) (hB : ∀ g off, A = some ⟨g, off, none⟩ → 0 < c - 1 → B = some ⟨g, off + 1, none⟩) :
    Qs w base (.slice B n (c - 1)) n (fun j => x (j + 1)) := by
  obtain ⟨-, A', c', e, h1, h2, h3⟩ := h
  injection e with e1 _ e3
  subst e1 e3
  refine ⟨hb0, B, c - 1, rfl, by omega, by omega, ?_⟩
  rcases h3 with h0 | ⟨g, off, cur, rfl, hb, hg, hs, hc⟩
  · left; omega
  · rcases Nat.eq_zero_or_pos (c - 1) with hz | hp
    · left; exact hz
    · right
      exact ⟨g, off + 1, cur, hB g off rfl hp, hb, hg, by omega, fun j hj => by rw [show off + 1 + j = off + (j + 1) by omega]; exact hc (j + 1) (by omega)⟩
/-- a block of one number -/
theorem Qs.one (w : World) (base : Nat) (z : Int) (hb : base ≤ w.heap.size) (x : Nat → Int) (hx : x 0 = z) : Qs (w.alloc (.cells #[.int .i64 z] 3)) base (.slice (some ⟨w.heap.size, 0, none⟩) 1 1) 1 x :=
  ⟨fun b h => by simp [Value.ownBlock] at h; simp; omega, _, 1, rfl, Nat.le_refl _, by simp only [maxLen]; omega, .inr ⟨w.heap.size, 0, _, rfl, hb, heap_alloc_new w _, by simp, fun j hj => by
    obtain rfl : j = 0 := by omega
    simp [hx]⟩⟩
end

/-- what an append leaves: the slice's own block may be written, the new value has it or a new one -/
structure Grew (w w' : World) (v v' : Value) : Prop where
  by_ : w.grownBy w' v.ownBlock
  own : v'.ownBlock = v.ownBlock ∨ ∃ g, v'.ownBlock = some g ∧ w.heap.size ≤ g

section
variable {w w' : World} {v v' : Value}
theorem Grew.ext {X : World} (h : Grew w w' v v') (e : Ext X w) (ho : ∀ b, v.ownBlock = some b → X.heap.size ≤ b) : Ext X w' :=
  ⟨h.by_.os.trans e.os, h.by_.tape.trans e.tape, h.by_.output.trans e.output, Nat.le_trans e.size h.by_.size, fun k hk => (h.by_.block k (Nat.lt_of_lt_of_le hk e.size) (fun c => by have := ho k c.symm; omega)).trans (e.block k hk)⟩
theorem Grew.bk {b n : Nat} {t : TypeId} {f : Nat → Value} (h : Grew w w' v v') (hb : Bk w b t n f) (ho : v.ownBlock ≠ some b) : Bk w' b t n f := (h.by_.block b hb.lt (fun c => ho c.symm)).trans hb
theorem Grew.bi {b n : Nat} {f : Nat → Int} (h : Grew w w' v v') (hb : BI w b n f) (ho : v.ownBlock ≠ some b) : BI w' b n f := h.bk hb ho
theorem Grew.bb {b n : Nat} {f : Nat → Bool} (h : Grew w w' v v') (hb : BB w b n f) (ho : v.ownBlock ≠ some b) : BB w' b n f := h.bk hb ho
theorem Grew.apart {b : Nat} (h : Grew w w' v v') (hb : b < w.heap.size) (ho : v.ownBlock ≠ some b) : v'.ownBlock ≠ some b := by
  rcases h.own with e | ⟨g, e, hg⟩
  · rw [e]; exact ho
  · rw [e]; intro c; injection c with c; omega
end

theorem run_append_q {P : Program} (w : World) (t ty : TypeId) (i : TypeInfo) (ht : P.underlying t = some (.slice 3)) (hi : P.info? 3 = some i) (hz : i.zero = some (.int .i64 0)) (hsize : i.size = 1) (hby : i.bytes = 8)
    (base : Nat) (v : Value) (n : Nat) (x : Nat → Int) (h : Qs w base v n x) (hbase : base ≤ w.heap.size) (a : Addr) (c : Nat) (z : Int) (ha : w.cell? a = some (.int .i64 z)) (hn : n ≤ 1000000) :
    ∃ v' w', (Builtin.append_ #[t, t] ty #[v, .slice (some a) 1 c]).run P w = .ok v' w' ∧ Qs w' base v' (n + 1) (up x n z) ∧ Grew w w' v v' := by
  have hnews : ∀ j u, [Value.int .i64 z][j]? = some u → w.cell? (a.add j) = some u := by
    intro j u hj
    cases j with
    | zero =>
      simp at hj; subst hj
      have : a.add 0 = a := by cases a; unfold Addr.add; split <;> simp_all
      rw [this]; exact ha
    | succ j => simp at hj
  have h1c : ∀ u ∈ [Value.int .i64 z], u.oneCell' = true := by intro u hu; simp at hu; subst hu; rfl
  obtain ⟨hown, A, cap, rfl, hnc, hcm, h3⟩ := h
  have fresh : ∀ v' w', w'.ownsRow w.heap.size 3 1 v' (n + 1) (((List.range n).map fun j => Value.int .i64 (x j)) ++ [.int .i64 z]) → Qs w' base v' (n + 1) (up x n z) ∧ ∃ g, v'.ownBlock = some g ∧ w.heap.size ≤ g := by
    intro v' w' ho
    obtain ⟨hl, h | ⟨g, cap', cur, rfl, hg, hh, h1, h2, h4, h5⟩⟩ := ho
    · omega
    · refine ⟨⟨fun b hb => by simp [Value.ownBlock] at hb; subst hb; exact ⟨by omega, (Array.getElem?_eq_some_iff.1 hh).1⟩, _, cap', rfl, h1, h2, .inr ⟨g, 0, cur, rfl, by omega, hh, by omega, fun j hj => ?_⟩⟩, g, rfl, hg⟩
      have h6 : (cur.toList.take ((n + 1) * 1))[j]? = cur[0 + j]? := by
        rw [List.getElem?_take, if_pos (by omega)]
        simp
      rw [← h6, h5]
      by_cases e : j < n
      · rw [List.getElem?_append_left (by simp; omega), up_ne _ _ (by omega)]
        simp [e]
      · obtain rfl : j = n := by omega
        rw [List.getElem?_append_right (by simp), up_self]
        simp
  have holds : ∀ b, A = some b → ∀ j u, ((List.range n).map fun j => Value.int .i64 (x j))[j]? = some u → w.cell? (b.add j) = some u := by
    intro b hb j u hj
    have hjn : j < n := by
      rcases Nat.lt_or_ge j n with h | h
      · exact h
      · rw [List.getElem?_eq_none (by simp; omega)] at hj; cases hj
    rcases h3 with h0 | ⟨g, off, cur, hA, hbb, hg, hs, hc⟩
    · omega
    · rw [hA] at hb; injection hb with hb; subst hb
      have : (⟨g, off, none⟩ : Addr).add j = ⟨g, off + j, none⟩ := by unfold Addr.add; split <;> simp_all
      rw [this, cell_of_row w g (off + j) cur 3 (0, 0) hg, hc j hjn]
      simp [hjn] at hj
      rw [← hj]
  by_cases hr : n + 1 ≤ cap
  · rcases h3 with h0 | ⟨g, off, cur, rfl, hbb, hg, hs, hc⟩
    · omega
    have hcell : ∀ j, j < [Value.int .i64 z].length → (w.cell? ⟨g, off + n * i.size + j, none⟩).isSome = true := by
      intro j hj
      simp at hj
      subst hj
      rw [hsize, Nat.mul_one, Nat.add_zero, cell_of_row w g (off + n) cur 3 (0, 0) hg]
      simp; omega
    have hfree : ∀ j, j < [Value.int .i64 z].length → w.frozen? ⟨g, off + n * i.size + j, none⟩ = false := fun j _ => by simp [World.frozen?, hg]
    have hrun := run_append_room_cells (P := P) w t ty 3 i ht hi g off n cap a 1 c [.int .i64 z] (by rw [hsize]; rfl) hnews h1c hr hcell hfree
    rw [hsize, Nat.mul_one] at hrun
    have hw : w.setCells g (off + n) [.int .i64 z] = w.setCell ⟨g, off + n, none⟩ (.int .i64 z) := rfl
    rw [hw] at hrun
    have hnew : (w.setCell ⟨g, off + n, none⟩ (.int .i64 z)).heap[g]? = some (.cells (cur.setIfInBounds (off + n) (.int .i64 z)) 3 (0, 0)) := by simp [World.setCell, Array.getElem?_modify, hg]
    refine ⟨_, _, hrun, ⟨fun b hb => ⟨(hown b hb).1, by have := (hown b hb).2; simpa [World.setCell] using this⟩, _, cap, rfl, hr, hcm, .inr ⟨g, off, _, rfl, hbb, hnew, by simpa using hs, fun j hj => ?_⟩⟩, ⟨⟨rfl, rfl, rfl, by simp [World.setCell], fun k hk hne => ?_⟩, .inl rfl⟩⟩
    · by_cases e : j = n
      · subst e
        rw [up_self, Array.getElem?_setIfInBounds, if_pos rfl, if_pos (by omega)]
      · rw [up_ne _ _ e, Array.getElem?_setIfInBounds, if_neg (by omega)]
        exact hc j (by omega)
    · exact Below.heap_setCell w ⟨g, off + n, none⟩ _ k (fun e => hne (by simp [Value.ownBlock, e]))
  · have hlen : ((List.range n).map fun j => Value.int .i64 (x j)).length = n * 1 := by simp
    cases hA : A with
    | some b =>
      obtain ⟨v', w', hrun, r1, r2⟩ := run_append_arg_grows (P := P) w t ty 3 i (Value.int .i64 0) 1 8 ht hi hz hsize hby rfl (by omega) b n cap _ hlen (holds b hA) a 1 c [Value.int .i64 z] rfl hnews (by omega) (by simp only [maxLen]; omega) (by omega)
      obtain ⟨q1, q2⟩ := fresh v' w' r1
      exact ⟨v', w', hrun, q1, ⟨⟨r2.os, r2.tape, r2.output, r2.size, fun k hk _ => r2.block k hk (by simp)⟩, .inr q2⟩⟩
    | none =>
      have hc0 : cap = 0 := by
        rcases h3 with h0 | ⟨g, off, cur, h, _⟩
        · exact h0
        · rw [hA] at h; cases h
      subst hc0
      obtain rfl : n = 0 := by omega
      obtain ⟨v', w', hrun, r1, r2, _⟩ := run_append_own (P := P) w w.heap.size t ty 3 i _ 1 8 ht hi hz hsize hby rfl (by omega) (.slice none 0 0) 0 [] (World.ownsRow_nil w _ 3 1) a 1 c [Value.int .i64 z] rfl hnews h1c (by simp only [maxLen]; omega) (by omega) (Nat.le_refl _)
      obtain ⟨q1, q2⟩ := fresh v' w' r1
      exact ⟨v', w', hrun, q1, ⟨⟨r2.os, r2.tape, r2.output, r2.size, fun k hk _ => r2.block k hk (by simp [Value.ownBlock])⟩, .inr q2⟩⟩

section
variable {P : Program} {w : World} {o : Oper} {a : Act} {K : Act → World → Prop} {Q : Exit → Act → World → Prop}
theorem wp_append_q (s x : Operand) (t : TypeId) (ho : o.op = .call { callee := .builtin .append, args := #[s, x], argTypes := #[t, t] })
    (i : TypeInfo) (ht : P.underlying t = some (.slice 3)) (hi : P.info? 3 = some i) (hz : i.zero = some (.int .i64 0)) (hsize : i.size = 1) (hby : i.bytes = 8)
    (base : Nat) (v : Value) (n : Nat) (f : Nat → Int) (hs : a.eval s = v) (h : Qs w base v n f) (hbase : base ≤ w.heap.size) (ad : Addr) (c : Nat) (z : Int) (hx : a.eval x = .slice (some ad) 1 c) (ha : w.cell? ad = some (.int .i64 z)) (hn : n ≤ 1000000)
    (hK : ∀ v' w', Qs w' base v' (n + 1) (up f n z) → Grew w w' v v' → K (a.put o.dst v') w') : o.wp P a w K Q := by
  obtain ⟨v', w', hr, h2, h3⟩ := run_append_q (P := P) w t o.type i ht hi hz hsize hby base v n f h hbase ad c z ha hn
  unfold Oper.wp execOp
  simp only [ho, resolve, invoke, builtin, Sem.run_bind, Sem.run_pure, Result.andThen_ok, List.map_toArray, List.map_cons, List.map_nil, hs, hx, hr]
  exact hK v' w' h2 h3
theorem wpList_append_q {ops : Array Oper} {rest : List Oper} (hgd : o.guard = none) (s x : Operand) (t : TypeId) (ho : o.op = .call { callee := .builtin .append, args := #[s, x], argTypes := #[t, t] })
    (i : TypeInfo) (ht : P.underlying t = some (.slice 3)) (hi : P.info? 3 = some i) (hz : i.zero = some (.int .i64 0)) (hsize : i.size = 1) (hby : i.bytes = 8)
    (base : Nat) (v : Value) (n : Nat) (f : Nat → Int) (hs : a.eval s = v) (h : Qs w base v n f) (hbase : base ≤ w.heap.size) (ad : Addr) (c : Nat) (z : Int) (hx : a.eval x = .slice (some ad) 1 c) (ha : w.cell? ad = some (.int .i64 z)) (hn : n ≤ 1000000)
    (hK : ∀ v' w', Qs w' base v' (n + 1) (up f n z) → Grew w w' v v' → wpList P ops Q rest (a.put o.dst v') w') : wpList P ops Q (o :: rest) a w :=
  wpList_plain hgd fun K hK' => wp_append_q s x t ho i ht hi hz hsize hby base v n f hs h hbase ad c z hx ha hn fun v' w' h1 h2 => hK' _ _ (hK v' w' h1 h2)
end
end Go.Proofs.YtlachbodibajlaaDoor
