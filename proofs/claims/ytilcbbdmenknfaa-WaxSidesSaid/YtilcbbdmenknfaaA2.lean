/- Slices of slices of numbers; a network in memory. -/
import Derived.Test.YtilcbbdmenknfaaA1
namespace Go.Proofs.Ytilcbbdmenknfaa
open Go.RowKit

/-- for each node the list of its steps, in blocks from bs on -/
def Sl (w : World) (bs : Nat) (v : Value) (N : Nat) (st : Nat → List Nat) : Prop :=
  ∃ b c, v = .slice (some ⟨b, 0, none⟩) N c ∧ b < w.heap.size ∧ bs ≤ b ∧ ∀ i, i < N → ∃ u, w.cell? ⟨b, i, none⟩ = some u ∧ Il w u (st i).length (fun k => (((st i).getD k 0 : Nat) : Int)) ∧ ∀ b', u.ownBlock = some b' → bs ≤ b'
theorem Sl.ext {w w' : World} {bs : Nat} {v : Value} {N : Nat} {st : Nat → List Nat} (h : Sl w bs v N st) (e : Ext w w') : Sl w' bs v N st := by
  obtain ⟨b, c, rfl, hb, h0, hc⟩ := h
  refine ⟨b, c, rfl, Nat.lt_of_lt_of_le hb e.size, h0, fun i hi => ?_⟩
  obtain ⟨u, h1, h2, h3⟩ := hc i hi
  exact ⟨u, keepAt e hb h1, h2.ext e, h3⟩
/-- .. also where blocks below bs change -/
theorem Sl.keep {w w' : World} {bs : Nat} {v : Value} {N : Nat} {st : Nat → List Nat} (h : Sl w bs v N st) (hs : w.heap.size ≤ w'.heap.size) (hk : ∀ b, bs ≤ b → w'.heap[b]? = w.heap[b]?) : Sl w' bs v N st := by
  obtain ⟨b, c, rfl, hb, h0, hc⟩ := h
  refine ⟨b, c, rfl, Nat.lt_of_lt_of_le hb hs, h0, fun i hi => ?_⟩
  obtain ⟨u, h1, ⟨A, c', rfl, h4, h5, h6⟩, h3⟩ := hc i hi
  refine ⟨_, (World.cell?_of_block (hk b h0)).trans h1, ⟨A, c', rfl, h4, h5, fun hp => ?_⟩, h3⟩
  obtain ⟨g, off, rfl, hg, hcc⟩ := h6 hp
  exact ⟨g, off, rfl, Nat.lt_of_lt_of_le hg hs, fun j hj => (World.cell?_of_block (hk g (h3 g rfl))).trans (hcc j hj)⟩
/-- the steps are those of the arcs -/
structure Stp (G : Nw) (N : Nat) (st : Nat → List Nat) : Prop where
  mem : ∀ v, v < N → ∀ j, j ∈ st v ↔ (j < 2 * G.m ∧ G.tl j = v)
  len : ∀ v, v < N → (st v).length ≤ 2 * G.m
/-- a block of four cells -/
theorem four {w : World} {b : Nat} {t : TypeId} {x0 x1 x2 x3 : Value} (h : w.heap[b]? = some (.cells #[x0, x1, x2, x3] t (0, 0))) :
    w.cell? ⟨b, 0, none⟩ = some x0 ∧ w.cell? ⟨b, 1, none⟩ = some x1 ∧ w.cell? ⟨b, 2, none⟩ = some x2 ∧ w.cell? ⟨b, 3, none⟩ = some x3 ∧ (∀ o, w.frozen? ⟨b, o, none⟩ = false) ∧ b < w.heap.size :=
  ⟨cell_of_row w b 0 _ t (0, 0) h, cell_of_row w b 1 _ t (0, 0) h, cell_of_row w b 2 _ t (0, 0) h, cell_of_row w b 3 _ t (0, 0) h, fun o => by simp [World.frozen?, h], (Array.getElem?_eq_some_iff.1 h).1⟩
theorem five {w : World} {b : Nat} {t : TypeId} {x0 x1 x2 x3 x4 : Value} (h : w.heap[b]? = some (.cells #[x0, x1, x2, x3, x4] t (0, 0))) :
    w.cell? ⟨b, 0, none⟩ = some x0 ∧ w.cell? ⟨b, 1, none⟩ = some x1 ∧ w.cell? ⟨b, 2, none⟩ = some x2 ∧ w.cell? ⟨b, 3, none⟩ = some x3 ∧ w.cell? ⟨b, 4, none⟩ = some x4 ∧ (∀ o, w.frozen? ⟨b, o, none⟩ = false) ∧ b < w.heap.size :=
  ⟨cell_of_row w b 0 _ t (0, 0) h, cell_of_row w b 1 _ t (0, 0) h, cell_of_row w b 2 _ t (0, 0) h, cell_of_row w b 3 _ t (0, 0) h, cell_of_row w b 4 _ t (0, 0) h, fun o => by simp [World.frozen?, h], (Array.getElem?_eq_some_iff.1 h).1⟩
end Go.Proofs.Ytilcbbdmenknfaa
