/- A grid of numbers in memory. -/
import Derived.Test.YtilcbbdmenknfaaMa
import Derived.Test.YtilcbbdmenknfaaC9
namespace Go.Proofs.Ytilcbbdmenknfaa
open Go.RowKit

/-- the grid of N rows at block b: row i lies at block b + 1 + i -/
structure Gd (W : World) (b N : Nat) (y : Nat → Nat → Int) : Prop where
  top : Bk W b 33 N (fun i => .slice (some ⟨b + 1 + i, 0, none⟩) N N)
  row : ∀ i, i < N → BI W (b + 1 + i) N (y i)
section
variable {w w' : World} {b N : Nat} {y : Nat → Nat → Int}
theorem Gd.ext (h : Gd w b N y) (e : Ext w w') : Gd w' b N y := ⟨h.top.ext e, fun i hi => (h.row i hi).ext e⟩
theorem Gd.congr {z : Nat → Nat → Int} (h : Gd w b N y) (e : ∀ i j, i < N → j < N → y i j = z i j) : Gd w b N z :=
  ⟨h.top, fun i hi => Bk.congr (h.row i hi) fun j hj => by rw [e i j hi hj]⟩
theorem Gd.cellT (h : Gd w b N y) {i : Nat} (hi : i < N) : w.cell? ⟨b, i, none⟩ = some (.slice (some ⟨b + 1 + i, 0, none⟩) N N) := Bk.cell h.top hi
theorem Gd.cell (h : Gd w b N y) {i j : Nat} (hi : i < N) (hj : j < N) : w.cell? ⟨b + 1 + i, j, none⟩ = some (.int .i64 (y i j)) := Bk.cell (h.row i hi) hj
theorem Gd.lt (h : Gd w b N y) {i : Nat} (hi : i < N) : b + 1 + i < w.heap.size := Bk.lt (h.row i hi)
theorem Gd.set_ (h : Gd w b N y) (i j : Nat) (v : Int) : Gd (w.setCell ⟨b + 1 + i, j, none⟩ (.int .i64 v)) b N (fun p q => if p = i ∧ q = j then v else y p q) := by
  refine ⟨Bk.far h.top (by show b ≠ b + 1 + i; omega) _, fun p hp => ?_⟩
  by_cases e : p = i
  · subst e
    refine Bk.congr (BI.set_ (h.row p hp) j v) fun q _ => ?_
    by_cases e2 : q = j
    · subst e2; simp only [up_self, and_self, if_true]
    · simp only [up_ne _ _ e2, and_false, e2, if_false]
  · refine Bk.congr (Bk.far (h.row p hp) (by show b + 1 + p ≠ b + 1 + i; omega) _) fun q _ => ?_
    simp only [e, false_and, if_false]
theorem Gd.far (h : Gd w b N y) {p : Addr} (hp : p.block < b) (v : Value) : Gd (w.setCell p v) b N y :=
  ⟨Bk.far h.top (by omega) _, fun i hi => Bk.far (h.row i hi) (by omega) _⟩
end
end Go.Proofs.Ytilcbbdmenknfaa
