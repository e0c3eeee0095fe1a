/- Worlds that only grow; blocks of four cells. -/
import Derived.Test.YtgjanbgehbpciaaVm
import Derived.Test.YtgjanbgehbpciaaX16
import Derived.Deep.DeepCutAuto
namespace Go.Proofs.Ytgjanbgehbpciaa
open Go.RowKit

/-- Y is X and more -/
def Ext (X Y : World) : Prop := Below X.heap.size X Y
theorem Ext.of {X Y : World} (h : Below X.heap.size X Y) : Ext X Y := h
theorem Ext.refl (X : World) : Ext X X := Below.refl _ _
theorem Ext.drw {X Y : World} (h : Ext X Y) : Ext X Y.drew := Below.drew (B := X.heap.size) h
theorem Ext.drwN {X Y : World} (h : Ext X Y) (k : Nat) : Ext X (Y.drewN k) := Below.toDrewN (B := X.heap.size) h k
theorem Ext.trans {X Y Z : World} (h : Ext X Y) (k : Ext Y Z) : Ext X Z := nx h k
theorem Ext.alc {X Y : World} (h : Ext X Y) (o : Obj) : Ext X (Y.alloc o) := al h o
theorem Ext.sc {X Y : World} (h : Ext X Y) {g i : Nat} {v : Value} (hg : X.heap.size ≤ g) : Ext X (Y.setCell ⟨g, i, none⟩ v) := Below.setCell (B := X.heap.size) h (p := ⟨g, i, none⟩) hg v
theorem Ext.size {X Y : World} (h : Ext X Y) : X.heap.size ≤ Y.heap.size := Below.size h
theorem Ext.at {X Y : World} (h : Ext X Y) {g i : Nat} {v : Value} (hg : g < X.heap.size) (hc : X.cell? ⟨g, i, none⟩ = some v) : Y.cell? ⟨g, i, none⟩ = some v := keepAt h hg hc

/-- block g holds four cells and may be written -/
def QB (W : World) (g : Nat) : Prop := ∃ a b c d t, W.heap[g]? = some (.cells #[a, b, c, d] t (0, 0))
/-- block g holds these four cells -/
def Q4 (W : World) (g : Nat) (a b c d : Value) : Prop := W.cell? ⟨g, 0, none⟩ = some a ∧ W.cell? ⟨g, 1, none⟩ = some b ∧ W.cell? ⟨g, 2, none⟩ = some c ∧ W.cell? ⟨g, 3, none⟩ = some d
section
variable {W X Y : World} {g : Nat}
theorem QB.lt (h : QB W g) : g < W.heap.size := by obtain ⟨a, b, c, d, t, h⟩ := h; exact (Array.getElem?_eq_some_iff.1 h).1
theorem QB.ext (h : QB X g) (e : Ext X Y) : QB Y g := by
  have hl := h.lt
  obtain ⟨a, b, c, d, t, h⟩ := h
  exact ⟨a, b, c, d, t, (Below.block e g hl).trans h⟩
theorem QB.new (X : World) (a b c d : Value) (t : TypeId) : QB (X.alloc (.cells #[a, b, c, d] t)) X.heap.size := ⟨a, b, c, d, t, heap_alloc_new _ _⟩
theorem QB.drew (h : QB W g) : QB W.drew g := h
theorem QB.n1 (X : World) (a b c d : Value) (t : TypeId) (o : Obj) : QB ((X.alloc (.cells #[a, b, c, d] t)).alloc o) X.heap.size := (QB.new X a b c d t).ext (Ext.alc (Ext.refl _) o)
theorem QB.n2 (X : World) (a b c d : Value) (t : TypeId) (o : Obj) : QB ((X.alloc o).alloc (.cells #[a, b, c, d] t)) (X.heap.size + 1) := by
  have := QB.new (X.alloc o) a b c d t
  rwa [World.size_alloc] at this
theorem QB.facts (h : QB W g) : (∃ a b c d, W.cell? ⟨g, 0, none⟩ = some a ∧ W.cell? ⟨g, 1, none⟩ = some b ∧ W.cell? ⟨g, 2, none⟩ = some c ∧ W.cell? ⟨g, 3, none⟩ = some d) ∧ (∀ o, W.frozen? ⟨g, o, none⟩ = false) := by
  obtain ⟨a, b, c, d, t, h⟩ := h
  exact ⟨⟨a, b, c, d, cell_of_row W g 0 _ t (0, 0) h, cell_of_row W g 1 _ t (0, 0) h, cell_of_row W g 2 _ t (0, 0) h, cell_of_row W g 3 _ t (0, 0) h⟩, fun o => by simp [World.frozen?, h]⟩
theorem Q4.ext {a b c d : Value} (h : Q4 X g a b c d) (hg : g < X.heap.size) (e : Ext X Y) : Q4 Y g a b c d :=
  ⟨keepAt e hg h.1, keepAt e hg h.2.1, keepAt e hg h.2.2.1, keepAt e hg h.2.2.2⟩
theorem Q4.lt {a b c d : Value} (h : Q4 X g a b c d) : g < X.heap.size := World.block_lt_of_cell? X ⟨g, 0, none⟩ h.1
end

theorem q4_a1 (w : World) (a b c d : Value) (t : TypeId) (o2 o3 : Obj) : Q4 (((w.alloc (.cells #[a, b, c, d] t)).alloc o2).alloc o3) w.heap.size a b c d := by
  refine ⟨?_, ?_, ?_, ?_⟩ <;> (rw [World.cell?_alloc_past _ _ _ (by simp; omega), World.cell?_alloc_past _ _ _ (by simp), World.cell?_alloc_new]; rfl)
theorem q4_a2 (w : World) (a b c d : Value) (t : TypeId) (o1 o3 : Obj) : Q4 (((w.alloc o1).alloc (.cells #[a, b, c, d] t)).alloc o3) (w.heap.size + 1) a b c d := by
  refine ⟨?_, ?_, ?_, ?_⟩ <;> (rw [World.cell?_alloc_past _ _ _ (by simp), World.cell?_alloc_at _ _ _ _ (by simp)]; rfl)

section
variable {X : World} {g h : Nat}
theorem far4 {p q r s k : Nat} {a b c d : Value} (hne : g ≠ h) : ((((X.setCell ⟨h, p, none⟩ a).setCell ⟨h, q, none⟩ b).setCell ⟨h, r, none⟩ c).setCell ⟨h, s, none⟩ d).cell? ⟨g, k, none⟩ = X.cell? ⟨g, k, none⟩ := by
  have e : ∀ {W : World} {i : Nat} {v : Value}, (W.setCell ⟨h, i, none⟩ v).cell? ⟨g, k, none⟩ = W.cell? ⟨g, k, none⟩ := fun {W i v} => World.cell?_setCell_other _ _ _ _ (by intro e; injection e with e1; exact hne e1.symm)
  rw [e, e, e, e]
theorem Q4.far {a b c d a' b' c' d' : Value} (H : Q4 X g a b c d) (hne : g ≠ h) : Q4 ((((X.setCell ⟨h, 0, none⟩ a').setCell ⟨h, 1, none⟩ b').setCell ⟨h, 2, none⟩ c').setCell ⟨h, 3, none⟩ d') g a b c d :=
  ⟨(far4 hne).trans H.1, (far4 hne).trans H.2.1, (far4 hne).trans H.2.2.1, (far4 hne).trans H.2.2.2⟩
theorem QB.set4 (H : QB X h) (a b c d : Value) : ∃ t, ((((X.setCell ⟨h, 0, none⟩ a).setCell ⟨h, 1, none⟩ b).setCell ⟨h, 2, none⟩ c).setCell ⟨h, 3, none⟩ d).heap[h]? = some (.cells #[a, b, c, d] t (0, 0)) := by
  obtain ⟨a', b', c', d', t, H⟩ := H
  exact ⟨t, by simp [World.setCell, Array.getElem?_modify, H]⟩
theorem Q4.put (H : QB X h) (a b c d : Value) : Q4 ((((X.setCell ⟨h, 0, none⟩ a).setCell ⟨h, 1, none⟩ b).setCell ⟨h, 2, none⟩ c).setCell ⟨h, 3, none⟩ d) h a b c d := by
  obtain ⟨t, e⟩ := H.set4 a b c d
  exact ⟨cell_of_row _ h 0 _ t (0, 0) e, cell_of_row _ h 1 _ t (0, 0) e, cell_of_row _ h 2 _ t (0, 0) e, cell_of_row _ h 3 _ t (0, 0) e⟩
theorem QB.put (H : QB X h) (a b c d : Value) : QB ((((X.setCell ⟨h, 0, none⟩ a).setCell ⟨h, 1, none⟩ b).setCell ⟨h, 2, none⟩ c).setCell ⟨h, 3, none⟩ d) h := by
  obtain ⟨t, e⟩ := H.set4 a b c d
  exact ⟨a, b, c, d, t, e⟩
theorem QB.far (H : QB X g) (hne : g ≠ h) (a b c d : Value) : QB ((((X.setCell ⟨h, 0, none⟩ a).setCell ⟨h, 1, none⟩ b).setCell ⟨h, 2, none⟩ c).setCell ⟨h, 3, none⟩ d) g := by
  obtain ⟨a', b', c', d', t, H⟩ := H
  have hne' : ¬ h = g := fun e => hne e.symm
  exact ⟨a', b', c', d', t, by simp [World.setCell, Array.getElem?_modify, H, hne']⟩
theorem Ext.sc4 {Y : World} (e : Ext X Y) (hg : X.heap.size ≤ h) {p q r s : Nat} (a b c d : Value) : Ext X ((((Y.setCell ⟨h, p, none⟩ a).setCell ⟨h, q, none⟩ b).setCell ⟨h, r, none⟩ c).setCell ⟨h, s, none⟩ d) := (((e.sc hg).sc hg).sc hg).sc hg
end

theorem wp_split {S : World → Prop} {P : Program} {Q : Exit → Act → World → Prop} {id : Nat} {a : Act} {w : World} {l : List Oper} (n : Nat) (hm : P.follows .mixedOrders = true)
    (hB : splitB .any l.toArray n = true) (hS : S w.drew)
    (h : wpAnyH P .any (l.take n).toArray (CutQ P l.toArray Q (l.drop n)) S n (Array.replicate n false) a w.drew) : (Code.region id l.toArray true).wp P Q a w :=
  wp_region_split n hm hB hS (fun _ => h)
theorem take_at {P : Program} {md : Region.Mode} {ops : Array Oper} {Q : Exit → Act → World → Prop} {S : World → Prop} (i : Nat) (d : Option Tmp) (v : Value) {oi : Oper} {fuel : Nat} {listed : Array Bool} {a : Act} {w : World} (hi : ops[i]? = some oi) (hd : oi.dst = d)
    (hs : Region.noSelect ops = true) (hf : Region.free md ops listed i = true) (hr : (Region.ready md ops listed).contains i = true)
    (hQ : ∀ c a w, Q (.panic c) (a.put oi.dst v) w → Q (.panic c) a w) (hy : YieldsIf P ops S oi v a) (hS : S w)
    (h : wpAnyH P md ops Q S fuel (listed.setIfInBounds i true) (a.put d v) w) : wpAnyH P md ops Q S (fuel + 1) listed a w :=
  wpAnyH_take hi hs hf hr hQ hy hS (by rw [hd]; exact h)
theorem World.ownsRow.ext {X Y : World} {base : Nat} {e : TypeId} {size : Nat} {v : Value} {n : Nat} {xs : List Value} (h : X.ownsRow base e size v n xs) (hx : Ext X Y) : Y.ownsRow base e size v n xs := by
  obtain ⟨h1, h2 | ⟨g, cap, cur, rfl, hg, hh, rest⟩⟩ := h
  · exact ⟨h1, .inl h2⟩
  · have hl : g < X.heap.size := (Array.getElem?_eq_some_iff.1 hh).1
    exact ⟨h1, .inr ⟨g, cap, cur, rfl, hg, (Below.block hx g hl).trans hh, rest⟩⟩
end Go.Proofs.Ytgjanbgehbpciaa
