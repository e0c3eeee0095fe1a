/- Fractions: a struct of two whole numbers; a block of four cells. -/
import Derived.Test.YtmlopkkbgpfdnaaGreatDoorM10
namespace Go.Proofs.YtmlopkkbgpfdnaaGreatDoor
open Go.RowKit

/-- a struct of two whole numbers -/
def FV (w : World) (v : Value) (x y : Int) : Prop := ∃ (b1 : Bool) (A1 : Option Addr) (n1 c1 : Nat) (b2 : Bool) (A2 : Option Addr) (n2 c2 : Nat), v = .agg #[.bool b1, .slice A1 n1 c1, .bool b2, .slice A2 n2 c2] ∧ ZV w (.agg #[.bool b1, .slice A1 n1 c1]) x ∧ ZV w (.agg #[.bool b2, .slice A2 n2 c2]) y
theorem FV.ext {X Y : World} {v : Value} {x y : Int} (h : FV X v x y) (e : Ext X Y) : FV Y v x y := by
  obtain ⟨b1, A1, n1, c1, b2, A2, n2, c2, h0, h1, h2⟩ := h
  exact ⟨b1, A1, n1, c1, b2, A2, n2, c2, h0, h1.ext e, h2.ext e⟩
/-- what a function that returns a fraction returns -/
def RetF (w : World) (x y : Int) (e : Ending) (w' : World) : Prop := ∃ b A n c b' A' n' c', e = .returned (.agg #[.bool b, .slice A n c, .bool b', .slice A' n' c']) ∧ ZV w' (.agg #[.bool b, .slice A n c]) x ∧ ZV w' (.agg #[.bool b', .slice A' n' c']) y ∧ Below w.heap.size w w'
/-- block g holds a fraction -/
def HF (W : World) (g : Nat) (x y : Int) : Prop := HZo W g 0 1 x ∧ HZo W g 2 3 y
theorem HZo.lt {X : World} {g i j : Nat} {z : Int} (h : HZo X g i j z) : g < X.heap.size := by
  obtain ⟨b, A, n, c, h0, -, -⟩ := h
  exact World.block_lt_of_cell? X ⟨g, i, none⟩ h0
theorem HF.lt {X : World} {g : Nat} {x y : Int} (h : HF X g x y) : g < X.heap.size := h.1.lt
theorem HF.ext {X Y : World} {g : Nat} {x y : Int} (h : HF X g x y) (e : Ext X Y) : HF Y g x y := ⟨h.1.ext h.1.lt e, h.2.ext h.2.lt e⟩
/-- a block of four cells, which may be written -/
def FB (W : World) (g : Nat) : Prop := ∃ (b1 : Bool) (A1 : Option Addr) (n1 c1 : Nat) (b2 : Bool) (A2 : Option Addr) (n2 c2 : Nat) (t : TypeId), W.heap[g]? = some (.cells #[.bool b1, .slice A1 n1 c1, .bool b2, .slice A2 n2 c2] t (0, 0))
def put4 (W : World) (g : Nat) (v0 v1 v2 v3 : Value) : World := (((W.setCell ⟨g, 0, none⟩ v0).setCell ⟨g, 1, none⟩ v1).setCell ⟨g, 2, none⟩ v2).setCell ⟨g, 3, none⟩ v3
section
variable {W X Y : World} {g : Nat}
theorem FB.lt (h : FB W g) : g < W.heap.size := by
  obtain ⟨b1, A1, n1, c1, b2, A2, n2, c2, t, h⟩ := h
  exact (Array.getElem?_eq_some_iff.1 h).1
theorem FB.ext (h : FB X g) (e : Ext X Y) : FB Y g := by
  have hl := h.lt
  obtain ⟨b1, A1, n1, c1, b2, A2, n2, c2, t, h⟩ := h
  exact ⟨b1, A1, n1, c1, b2, A2, n2, c2, t, (Below.block e g hl).trans h⟩
theorem FB.facts (h : FB W g) : (∃ a0 a1 a2 a3, W.cell? ⟨g, 0, none⟩ = some a0 ∧ W.cell? ⟨g, 1, none⟩ = some a1 ∧ W.cell? ⟨g, 2, none⟩ = some a2 ∧ W.cell? ⟨g, 3, none⟩ = some a3) ∧ ∀ o, W.frozen? ⟨g, o, none⟩ = false := by
  obtain ⟨b1, A1, n1, c1, b2, A2, n2, c2, t, h⟩ := h
  exact ⟨⟨_, _, _, _, cell_of_row W g 0 _ t (0, 0) h, cell_of_row W g 1 _ t (0, 0) h, cell_of_row W g 2 _ t (0, 0) h, cell_of_row W g 3 _ t (0, 0) h⟩, fun o => by simp [World.frozen?, h]⟩
theorem put4_heap (h : FB W g) (v0 v1 v2 v3 : Value) : ∃ t, (put4 W g v0 v1 v2 v3).heap[g]? = some (.cells #[v0, v1, v2, v3] t (0, 0)) := by
  obtain ⟨b1, A1, n1, c1, b2, A2, n2, c2, t, h⟩ := h
  exact ⟨t, by simp [put4, World.setCell, Array.getElem?_modify, h]⟩
theorem put4_cells (h : FB W g) (v0 v1 v2 v3 : Value) : (put4 W g v0 v1 v2 v3).cell? ⟨g, 0, none⟩ = some v0 ∧ (put4 W g v0 v1 v2 v3).cell? ⟨g, 1, none⟩ = some v1 ∧ (put4 W g v0 v1 v2 v3).cell? ⟨g, 2, none⟩ = some v2 ∧ (put4 W g v0 v1 v2 v3).cell? ⟨g, 3, none⟩ = some v3 := by
  obtain ⟨t, e⟩ := put4_heap h v0 v1 v2 v3
  exact ⟨cell_of_row _ g 0 _ t (0, 0) e, cell_of_row _ g 1 _ t (0, 0) e, cell_of_row _ g 2 _ t (0, 0) e, cell_of_row _ g 3 _ t (0, 0) e⟩
theorem put4_far (v0 v1 v2 v3 : Value) {k i : Nat} (hne : k ≠ g) : (put4 W g v0 v1 v2 v3).cell? ⟨k, i, none⟩ = W.cell? ⟨k, i, none⟩ := by
  have e : ∀ {Z : World} {j : Nat} {v : Value}, (Z.setCell ⟨g, j, none⟩ v).cell? ⟨k, i, none⟩ = Z.cell? ⟨k, i, none⟩ := fun {Z j v} => World.cell?_setCell_other _ _ _ _ (by intro e; injection e with e1; exact hne e1.symm)
  unfold put4
  rw [e, e, e, e]
theorem put4_below {B : Nat} (h : Below B W X) (hg : B ≤ g) (v0 v1 v2 v3 : Value) : Below B W (put4 X g v0 v1 v2 v3) :=
  ((((h.setCell (p := ⟨g, 0, none⟩) hg _).setCell (p := ⟨g, 1, none⟩) hg _).setCell (p := ⟨g, 2, none⟩) hg _).setCell (p := ⟨g, 3, none⟩) hg _)
theorem Wd.put4 {v : Value} {l : List Nat} (h : Wd W v l) (hs : FB W g) (v0 v1 v2 v3 : Value) : Wd (put4 W g v0 v1 v2 v3) v l := by
  obtain ⟨A, c, rfl, h1, h2, h3, h4⟩ := h
  refine ⟨A, c, rfl, h1, h2, h3, fun hp => ?_⟩
  obtain ⟨b, off, rfl, hb, hc⟩ := h4 hp
  refine ⟨b, off, rfl, by simpa [Go.Proofs.YtmlopkkbgpfdnaaGreatDoor.put4, World.setCell] using hb, fun j hj => ?_⟩
  have hne : b ≠ g := by
    rintro rfl
    have h0 := hc j hj
    obtain ⟨b1, A1, n1, c1, b2, A2, n2, c2, t, hg⟩ := hs
    rw [cell_of_row W b (off + j) _ t (0, 0) hg] at h0
    match hk : off + j with
    | 0 => rw [hk] at h0; simp at h0
    | 1 => rw [hk] at h0; simp at h0
    | 2 => rw [hk] at h0; simp at h0
    | 3 => rw [hk] at h0; simp at h0
    | k + 4 => rw [hk] at h0; simp at h0
  rw [put4_far _ _ _ _ hne]
  exact hc j hj
theorem ZV.put4 {v : Value} {z : Int} (h : ZV W v z) (hs : FB W g) (v0 v1 v2 v3 : Value) : ZV (Go.Proofs.YtmlopkkbgpfdnaaGreatDoor.put4 W g v0 v1 v2 v3) v z := by
  obtain ⟨s, rfl, h⟩ := h
  exact ⟨s, rfl, h.put4 hs v0 v1 v2 v3⟩
theorem FB.new (W : World) (b1 : Bool) (A1 : Option Addr) (n1 c1 : Nat) (b2 : Bool) (A2 : Option Addr) (n2 c2 : Nat) (t : TypeId) : FB (W.alloc (.cells #[.bool b1, .slice A1 n1 c1, .bool b2, .slice A2 n2 c2] t)) W.heap.size :=
  ⟨b1, A1, n1, c1, b2, A2, n2, c2, t, heap_alloc_new _ _⟩
theorem HF.new (W : World) (b1 : Bool) (A1 : Option Addr) (n1 c1 : Nat) (b2 : Bool) (A2 : Option Addr) (n2 c2 : Nat) (t : TypeId) {x y : Int} (h1 : ZV W (.agg #[.bool b1, .slice A1 n1 c1]) x) (h2 : ZV W (.agg #[.bool b2, .slice A2 n2 c2]) y) :
    HF (W.alloc (.cells #[.bool b1, .slice A1 n1 c1, .bool b2, .slice A2 n2 c2] t)) W.heap.size x y :=
  ⟨⟨b1, A1, n1, c1, by rw [World.cell?_alloc_new]; rfl, by rw [World.cell?_alloc_new]; rfl, h1.below (below1 _ _)⟩, ⟨b2, A2, n2, c2, by rw [World.cell?_alloc_new]; rfl, by rw [World.cell?_alloc_new]; rfl, h2.below (below1 _ _)⟩⟩
theorem HF.put (hs : FB W g) {b1 : Bool} {A1 : Option Addr} {n1 c1 : Nat} {b2 : Bool} {A2 : Option Addr} {n2 c2 : Nat} {x y : Int} (h1 : ZV W (.agg #[.bool b1, .slice A1 n1 c1]) x) (h2 : ZV W (.agg #[.bool b2, .slice A2 n2 c2]) y) :
    HF (put4 W g (.bool b1) (.slice A1 n1 c1) (.bool b2) (.slice A2 n2 c2)) g x y := by
  obtain ⟨k0, k1, k2, k3⟩ := put4_cells hs (.bool b1) (.slice A1 n1 c1) (.bool b2) (.slice A2 n2 c2)
  exact ⟨⟨b1, A1, n1, c1, k0, k1, h1.put4 hs _ _ _ _⟩, ⟨b2, A2, n2, c2, k2, k3, h2.put4 hs _ _ _ _⟩⟩
/-- what the walk needs for the store of a fraction -/
theorem put4_walk (hs : FB W g) (v0 v1 v2 : Value) : ∃ a0 a1 a2 a3, W.cell? ⟨g, 0, none⟩ = some a0 ∧ (W.setCell ⟨g, 0, none⟩ v0).cell? ⟨g, 1, none⟩ = some a1 ∧ ((W.setCell ⟨g, 0, none⟩ v0).setCell ⟨g, 1, none⟩ v1).cell? ⟨g, 2, none⟩ = some a2 ∧ (((W.setCell ⟨g, 0, none⟩ v0).setCell ⟨g, 1, none⟩ v1).setCell ⟨g, 2, none⟩ v2).cell? ⟨g, 3, none⟩ = some a3 ∧
    W.frozen? ⟨g, 0, none⟩ = false ∧ (W.setCell ⟨g, 0, none⟩ v0).frozen? ⟨g, 1, none⟩ = false ∧ ((W.setCell ⟨g, 0, none⟩ v0).setCell ⟨g, 1, none⟩ v1).frozen? ⟨g, 2, none⟩ = false ∧ (((W.setCell ⟨g, 0, none⟩ v0).setCell ⟨g, 1, none⟩ v1).setCell ⟨g, 2, none⟩ v2).frozen? ⟨g, 3, none⟩ = false := by
  obtain ⟨b1, A1, n1, c1, b2, A2, n2, c2, t, h⟩ := hs
  have e0 : W.heap[g]? = some (.cells #[.bool b1, .slice A1 n1 c1, .bool b2, .slice A2 n2 c2] t (0, 0)) := h
  have e1 : (W.setCell ⟨g, 0, none⟩ v0).heap[g]? = some (.cells #[v0, .slice A1 n1 c1, .bool b2, .slice A2 n2 c2] t (0, 0)) := by simp [World.setCell, Array.getElem?_modify, h]
  have e2 : ((W.setCell ⟨g, 0, none⟩ v0).setCell ⟨g, 1, none⟩ v1).heap[g]? = some (.cells #[v0, v1, .bool b2, .slice A2 n2 c2] t (0, 0)) := by simp [World.setCell, Array.getElem?_modify, h]
  have e3 : (((W.setCell ⟨g, 0, none⟩ v0).setCell ⟨g, 1, none⟩ v1).setCell ⟨g, 2, none⟩ v2).heap[g]? = some (.cells #[v0, v1, v2, .slice A2 n2 c2] t (0, 0)) := by simp [World.setCell, Array.getElem?_modify, h]
  exact ⟨_, _, _, _, cell_of_row _ g 0 _ t (0, 0) e0, cell_of_row _ g 1 _ t (0, 0) e1, cell_of_row _ g 2 _ t (0, 0) e2, cell_of_row _ g 3 _ t (0, 0) e3, by simp [World.frozen?, e0], by simp [World.frozen?, e1], by simp [World.frozen?, e2], by simp [World.frozen?, e3]⟩
end

/-- the divisor that makes a fraction's only form -/
def nfg (x y : Int) : Int := if y < 0 then -((Int.gcd x y : Nat) : Int) else ((Int.gcd x y : Nat) : Int)
theorem nfg_ne {x y : Int} (hy : y ≠ 0) : nfg x y ≠ 0 := by
  have : 0 < Int.gcd x y := Int.gcd_pos_iff.2 (.inr hy)
  unfold nfg; split <;> omega
theorem nfg_abs (x y : Int) : (nfg x y).natAbs = Int.gcd x y := by unfold nfg; split <;> omega
theorem gcd_lenF {x y : Int} {L : Nat} (hy : y ≠ 0) (ly : (dig y.natAbs).length ≤ L) : (dig (nfg x y).natAbs).length ≤ L := by
  rw [nfg_abs]
  exact Nat.le_trans (len_mono (Nat.le_of_dvd (by omega) (Int.gcd_dvd_natAbs_right ..))) ly
theorem quo_len {x d : Int} {L : Nat} (lx : (dig x.natAbs).length ≤ L) : (dig (x / d).natAbs).length ≤ L := Nat.le_trans (len_mono (Int.natAbs_ediv_le_natAbs x d)) lx
end Go.Proofs.YtmlopkkbgpfdnaaGreatDoor
