/- Fractions: a struct of two whole numbers; a block of four cells. · Walks: newFraction, opposite, fractionOf, ratOf. -/
import Derived.Test.YtmlopkkbgpfdnabGreatM8
import Derived.RegionTactic
import Derived.ChangeAlike
namespace Go.Proofs.YtmlopkkbgpfdnabGreat
open Go.RowKit

/-- a struct of two whole numbers -/
def FV (w : World) (v : Value) (x y : Int) : Prop := ∃ (b1 : Bool) (A1 : Option Addr) (n1 c1 : Nat) (b2 : Bool) (A2 : Option Addr) (n2 c2 : Nat), v = .agg #[.bool b1, .slice A1 n1 c1, .bool b2, .slice A2 n2 c2] ∧ ZV w (.agg #[.bool b1, .slice A1 n1 c1]) x ∧ ZV w (.agg #[.bool b2, .slice A2 n2 c2]) y
theorem FV.ext {X Y : World} {v : Value} {x y : Int} (h : FV X v x y) (e : Ext X Y) : FV Y v x y := by
  obtain ⟨b1, A1, n1, c1, b2, A2, n2, c2, h0, h1, h2⟩ := h
  exact ⟨b1, A1, n1, c1, b2, A2, n2, c2, h0, h1.ext e, h2.ext e⟩
/-- what a function that returns a fraction returns -/
def RetF (w : World) (x y : Int) (e : Ending) (w' : World) : Prop := ∃ b A n c b' A' n' c', e = .returned (.agg #[.bool b, .slice A n c, .bool b', .slice A' n' c']) ∧ ZV w' (.agg #[.bool b, .slice A n c]) x ∧ ZV w' (.agg #[.bool b', .slice A' n' c']) y ∧ Below w.heap.size w w'
/-- block g holds a fraction -/
def HF (W : World) (g : Nat) (x y : Int) : Prop := HZo W g 0 1 x ∧ HZo W g 2 3 y
theorem HZo.lt {X : World} {g i j : Nat} {z : Int} (h : HZo X g i j z) : g < X.heap.size := by
  obtain ⟨b, A, n, c, h0, -, -⟩ := h
  exact World.block_lt_of_cell? X ⟨g, i, none⟩ h0
theorem HF.lt {X : World} {g : Nat} {x y : Int} (h : HF X g x y) : g < X.heap.size := h.1.lt
theorem HF.ext {X Y : World} {g : Nat} {x y : Int} (h : HF X g x y) (e : Ext X Y) : HF Y g x y := ⟨h.1.ext h.1.lt e, h.2.ext h.2.lt e⟩
/-- a block of four cells, which may be written -/
def FB (W : World) (g : Nat) : Prop := ∃ (b1 : Bool) (A1 : Option Addr) (n1 c1 : Nat) (b2 : Bool) (A2 : Option Addr) (n2 c2 : Nat) (t : TypeId), W.heap[g]? = some (.cells #[.bool b1, .slice A1 n1 c1, .bool b2, .slice A2 n2 c2] t (0, 0))
def put4 (W : World) (g : Nat) (v0 v1 v2 v3 : Value) : World := (((W.setCell ⟨g, 0, none⟩ v0).setCell ⟨g, 1, none⟩ v1).setCell ⟨g, 2, none⟩ v2).setCell ⟨g, 3, none⟩ v3
section
variable {W X Y : World} {g : Nat}
theorem FB.lt (h : FB W g) : g < W.heap.size := by
  obtain ⟨b1, A1, n1, c1, b2, A2, n2, c2, t, h⟩ := h
  exact (Array.getElem?_eq_some_iff.1 h).1
theorem FB.ext (h : FB X g) (e : Ext X Y) : FB Y g := by
  have hl := h.lt
  obtain ⟨b1, A1, n1, c1, b2, A2, n2, c2, t, h⟩ := h
  exact ⟨b1, A1, n1, c1, b2, A2, n2, c2, t, (Below.block e g hl).trans h⟩
theorem FB.facts (h : FB W g) : (∃ a0 a1 a2 a3, W.cell? ⟨g, 0, none⟩ = some a0 ∧ W.cell? ⟨g, 1, none⟩ = some a1 ∧ W.cell? ⟨g, 2, none⟩ = some a2 ∧ W.cell? ⟨g, 3, none⟩ = some a3) ∧ ∀ o, W.frozen? ⟨g, o, none⟩ = false := by
  obtain ⟨b1, A1, n1, c1, b2, A2, n2, c2, t, h⟩ := h
  exact ⟨⟨_, _, _, _, cell_of_row W g 0 _ t (0, 0) h, cell_of_row W g 1 _ t (0, 0) h, cell_of_row W g 2 _ t (0, 0) h, cell_of_row W g 3 _ t (0, 0) h⟩, fun o => by simp [World.frozen?, h]⟩
theorem put4_heap (h : FB W g) (v0 v1 v2 v3 : Value) : ∃ t, (put4 W g v0 v1 v2 v3).heap[g]? = some (.cells #[v0, v1, v2, v3] t (0, 0)) := by
  obtain ⟨b1, A1, n1, c1, b2, A2, n2, c2, t, h⟩ := h
  exact ⟨t, by simp [put4, World.setCell, Array.getElem?_modify, h]⟩
theorem put4_cells (h : FB W g) (v0 v1 v2 v3 : Value) : (put4 W g v0 v1 v2 v3).cell? ⟨g, 0, none⟩ = some v0 ∧ (put4 W g v0 v1 v2 v3).cell? ⟨g, 1, none⟩ = some v1 ∧ (put4 W g v0 v1 v2 v3).cell? ⟨g, 2, none⟩ = some v2 ∧ (put4 W g v0 v1 v2 v3).cell? ⟨g, 3, none⟩ = some v3 := by
  obtain ⟨t, e⟩ := put4_heap h v0 v1 v2 v3
  exact ⟨cell_of_row _ g 0 _ t (0, 0) e, cell_of_row _ g 1 _ t (0, 0) e, cell_of_row _ g 2 _ t (0, 0) e, cell_of_row _ g 3 _ t (0, 0) e⟩
theorem put4_far (v0 v1 v2 v3 : Value) {k i : Nat} (hne : k ≠ g) : (put4 W g v0 v1 v2 v3).cell? ⟨k, i, none⟩ = W.cell? ⟨k, i, none⟩ := by
  have e : ∀ {Z : World} {j : Nat} {v : Value}, (Z.setCell ⟨g, j, none⟩ v).cell? ⟨k, i, none⟩ = Z.cell? ⟨k, i, none⟩ := fun {Z j v} => World.cell?_setCell_other _ _ _ _ (by intro e; injection e with e1; exact hne e1.symm)
  unfold put4
  rw [e, e, e, e]
theorem put4_below {B : Nat} (h : Below B W X) (hg : B ≤ g) (v0 v1 v2 v3 : Value) : Below B W (put4 X g v0 v1 v2 v3) :=
  ((((h.setCell (p := ⟨g, 0, none⟩) hg _).setCell (p := ⟨g, 1, none⟩) hg _).setCell (p := ⟨g, 2, none⟩) hg _).setCell (p := ⟨g, 3, none⟩) hg _)
theorem Wd.put4 {v : Value} {l : List Nat} (h : Wd W v l) (hs : FB W g) (v0 v1 v2 v3 : Value) : Wd (put4 W g v0 v1 v2 v3) v l := by
  obtain ⟨A, c, rfl, h1, h2, h3, h4⟩ := h
  refine ⟨A, c, rfl, h1, h2, h3, fun hp => ?_⟩
  obtain ⟨b, off, rfl, hb, hc⟩ := h4 hp
  refine ⟨b, off, rfl, by simpa [Go.Proofs.YtmlopkkbgpfdnabGreat.put4, World.setCell] using hb, fun j hj => ?_⟩
  have hne : b ≠ g := by
    rintro rfl
    have h0 := hc j hj
    obtain ⟨b1, A1, n1, c1, b2, A2, n2, c2, t, hg⟩ := hs
    rw [cell_of_row W b (off + j) _ t (0, 0) hg] at h0
    match hk : off + j with
    | 0 => rw [hk] at h0; simp at h0
    | 1 => rw [hk] at h0; simp at h0
    | 2 => rw [hk] at h0; simp at h0
    | 3 => rw [hk] at h0; simp at h0
    | k + 4 => rw [hk] at h0; simp at h0
  rw [put4_far _ _ _ _ hne]
  exact hc j hj
theorem ZV.put4 {v : Value} {z : Int} (h : ZV W v z) (hs : FB W g) (v0 v1 v2 v3 : Value) : ZV (Go.Proofs.YtmlopkkbgpfdnabGreat.put4 W g v0 v1 v2 v3) v z := by
  obtain ⟨s, rfl, h⟩ := h
  exact ⟨s, rfl, h.put4 hs v0 v1 v2 v3⟩
theorem FB.new (W : World) (b1 : Bool) (A1 : Option Addr) (n1 c1 : Nat) (b2 : Bool) (A2 : Option Addr) (n2 c2 : Nat) (t : TypeId) : FB (W.alloc (.cells #[.bool b1, .slice A1 n1 c1, .bool b2, .slice A2 n2 c2] t)) W.heap.size :=
  ⟨b1, A1, n1, c1, b2, A2, n2, c2, t, heap_alloc_new _ _⟩
theorem HF.new (W : World) (b1 : Bool) (A1 : Option Addr) (n1 c1 : Nat) (b2 : Bool) (A2 : Option Addr) (n2 c2 : Nat) (t : TypeId) {x y : Int} (h1 : ZV W (.agg #[.bool b1, .slice A1 n1 c1]) x) (h2 : ZV W (.agg #[.bool b2, .slice A2 n2 c2]) y) :
    HF (W.alloc (.cells #[.bool b1, .slice A1 n1 c1, .bool b2, .slice A2 n2 c2] t)) W.heap.size x y :=
  ⟨⟨b1, A1, n1, c1, by rw [World.cell?_alloc_new]; rfl, by rw [World.cell?_alloc_new]; rfl, h1.below (below1 _ _)⟩, ⟨b2, A2, n2, c2, by rw [World.cell?_alloc_new]; rfl, by rw [World.cell?_alloc_new]; rfl, h2.below (below1 _ _)⟩⟩
theorem HF.put (hs : FB W g) {b1 : Bool} {A1 : Option Addr} {n1 c1 : Nat} {b2 : Bool} {A2 : Option Addr} {n2 c2 : Nat} {x y : Int} (h1 : ZV W (.agg #[.bool b1, .slice A1 n1 c1]) x) (h2 : ZV W (.agg #[.bool b2, .slice A2 n2 c2]) y) :
    HF (put4 W g (.bool b1) (.slice A1 n1 c1) (.bool b2) (.slice A2 n2 c2)) g x y := by
  obtain ⟨k0, k1, k2, k3⟩ := put4_cells hs (.bool b1) (.slice A1 n1 c1) (.bool b2) (.slice A2 n2 c2)
  exact ⟨⟨b1, A1, n1, c1, k0, k1, h1.put4 hs _ _ _ _⟩, ⟨b2, A2, n2, c2, k2, k3, h2.put4 hs _ _ _ _⟩⟩
/-- what the walk needs for the store of a fraction -/
theorem put4_walk (hs : FB W g) (v0 v1 v2 : Value) : ∃ a0 a1 a2 a3, W.cell? ⟨g, 0, none⟩ = some a0 ∧ (W.setCell ⟨g, 0, none⟩ v0).cell? ⟨g, 1, none⟩ = some a1 ∧ ((W.setCell ⟨g, 0, none⟩ v0).setCell ⟨g, 1, none⟩ v1).cell? ⟨g, 2, none⟩ = some a2 ∧ (((W.setCell ⟨g, 0, none⟩ v0).setCell ⟨g, 1, none⟩ v1).setCell ⟨g, 2, none⟩ v2).cell? ⟨g, 3, none⟩ = some a3 ∧
    W.frozen? ⟨g, 0, none⟩ = false ∧ (W.setCell ⟨g, 0, none⟩ v0).frozen? ⟨g, 1, none⟩ = false ∧ ((W.setCell ⟨g, 0, none⟩ v0).setCell ⟨g, 1, none⟩ v1).frozen? ⟨g, 2, none⟩ = false ∧ (((W.setCell ⟨g, 0, none⟩ v0).setCell ⟨g, 1, none⟩ v1).setCell ⟨g, 2, none⟩ v2).frozen? ⟨g, 3, none⟩ = false := by
  obtain ⟨b1, A1, n1, c1, b2, A2, n2, c2, t, h⟩ := hs
  have e0 : W.heap[g]? = some (.cells #[.bool b1, .slice A1 n1 c1, .bool b2, .slice A2 n2 c2] t (0, 0)) := h
  have e1 : (W.setCell ⟨g, 0, none⟩ v0).heap[g]? = some (.cells #[v0, .slice A1 n1 c1, .bool b2, .slice A2 n2 c2] t (0, 0)) := by simp [World.setCell, Array.getElem?_modify, h]
  have e2 : ((W.setCell ⟨g, 0, none⟩ v0).setCell ⟨g, 1, none⟩ v1).heap[g]? = some (.cells #[v0, v1, .bool b2, .slice A2 n2 c2] t (0, 0)) := by simp [World.setCell, Array.getElem?_modify, h]
  have e3 : (((W.setCell ⟨g, 0, none⟩ v0).setCell ⟨g, 1, none⟩ v1).setCell ⟨g, 2, none⟩ v2).heap[g]? = some (.cells #[v0, v1, v2, .slice A2 n2 c2] t (0, 0)) := by simp [World.setCell, Array.getElem?_modify, h]
  exact ⟨_, _, _, _, cell_of_row _ g 0 _ t (0, 0) e0, cell_of_row _ g 1 _ t (0, 0) e1, cell_of_row _ g 2 _ t (0, 0) e2, cell_of_row _ g 3 _ t (0, 0) e3, by simp [World.frozen?, e0], by simp [World.frozen?, e1], by simp [World.frozen?, e2], by simp [World.frozen?, e3]⟩
end

/-- the divisor that makes a fraction's only form -/
def nfg (x y : Int) : Int := if y < 0 then -((Int.gcd x y : Nat) : Int) else ((Int.gcd x y : Nat) : Int)
theorem nfg_ne {x y : Int} (hy : y ≠ 0) : nfg x y ≠ 0 := by
  have : 0 < Int.gcd x y := Int.gcd_pos_iff.2 (.inr hy)
  unfold nfg; split <;> omega
theorem nfg_abs (x y : Int) : (nfg x y).natAbs = Int.gcd x y := by unfold nfg; split <;> omega
theorem gcd_lenF {x y : Int} {L : Nat} (hy : y ≠ 0) (ly : (dig y.natAbs).length ≤ L) : (dig (nfg x y).natAbs).length ≤ L := by
  rw [nfg_abs]
  exact Nat.le_trans (len_mono (Nat.le_of_dvd (by omega) (Int.gcd_dvd_natAbs_right ..))) ly
end Go.Proofs.YtmlopkkbgpfdnabGreat
namespace Go.Proofs.YtmlopkkbgpfdnabGreat
open Go.RowKit

theorem FB.far {X : World} {g k i j : Nat} {u v : Value} (h : FB X g) (hne : g ≠ k) : FB ((X.setCell ⟨k, i, none⟩ u).setCell ⟨k, j, none⟩ v) g := by
  obtain ⟨b1, A1, n1, c1, b2, A2, n2, c2, t, h⟩ := h
  refine ⟨b1, A1, n1, c1, b2, A2, n2, c2, t, ?_⟩
  rw [Below.heap_setCell _ _ _ _ hne, Below.heap_setCell _ _ _ _ hne]; exact h
set_option maxHeartbeats 800000 in
set_option maxRecDepth 100000 in
theorem newFraction_any (r t : Int) (u u' : Value) (w : World) (L : Nat) (hx : ZV w u r) (hy : ZV w u' t) (ht : t ≠ 0) (lx : (dig r.natAbs).length ≤ L) (ly : (dig t.natAbs).length ≤ L) (hL : 2 ≤ L) (hL2 : L ≤ 300000) :
    Calls Tryz.prog 76 #[u, u'] w (RetF w (r / nfg r t) (t / nfg r t)) := by
  obtain ⟨Ax, nx, cx, rfl, -, -, -⟩ := hx.open_
  obtain ⟨Ay, ny, cy, rfl, -, -, -⟩ := hy.open_
  obtain ⟨bx, hbx⟩ : ∃ b, b = decide (r < 0) := ⟨_, rfl⟩
  obtain ⟨bY, hby⟩ : ∃ b, b = decide (t < 0) := ⟨_, rfl⟩
  rw [← hbx] at hx ⊢
  rw [← hby] at hy ⊢
  obtain ⟨vd, hvd⟩ : ∃ vd, vd = nfg r t := ⟨_, rfl⟩
  rw [← hvd]
  have HVD := Lib.hid (show vd ≠ 0 ∧ (dig vd.natAbs).length ≤ L by rw [hvd]; exact ⟨nfg_ne ht, gcd_lenF ht ly⟩)
  have HVN := Lib.hid hvd
  clear hvd
  obtain ⟨W1, hW1⟩ : ∃ W1, W1 = ((w.alloc (.cells #[.bool bx, .slice Ax nx cx] 70)).alloc (.cells #[.bool bY, .slice Ay ny cy] 70)).alloc (.cells #[.bool false, .slice none 0 0, .bool false, .slice none 0 0] 72) := ⟨_, rfl⟩
  have e1 : Ext w W1 := by rw [hW1]; exact (((Ext.refl w).alc _).alc _).alc _
  have p1 : HZ (w.alloc (.cells #[.bool bx, .slice Ax nx cx] 70)) w.heap.size r := HZ.lit w bx Ax nx cx 70 hx
  have p2 : HZ ((w.alloc (.cells #[.bool bx, .slice Ax nx cx] 70)).alloc (.cells #[.bool bY, .slice Ay ny cy] 70)) (w.heap.size + 1) t := by
    have := HZ.lit (w.alloc (.cells #[.bool bx, .slice Ax nx cx] 70)) bY Ay ny cy 70 (hy.ext ((Ext.refl _).alc _))
    rwa [World.size_alloc] at this
  have PX : Hid (HZ W1 w.heap.size r) := Lib.hid (by rw [hW1]; exact p1.ext p1.lt (((Ext.refl _).alc _).alc _))
  have PY : Hid (HZ W1 (w.heap.size + 1) t) := Lib.hid (by rw [hW1]; exact p2.ext p2.lt ((Ext.refl _).alc _))
  have R4 : Hid (FB W1 (w.heap.size + 1 + 1)) := Lib.hid (by
    have := FB.new ((w.alloc (.cells #[.bool bx, .slice Ax nx cx] 70)).alloc (.cells #[.bool bY, .slice Ay ny cy] 70)) false none 0 0 false none 0 0 72
    rw [World.size_alloc, World.size_alloc] at this
    rw [hW1]; exact this)
  have E1 := Lib.hid e1; have HW1 := Lib.hid hW1; have HLL := Lib.hid (And.intro lx ly); have HBY := Lib.hid hby
  have zl := R4.out.lt
  clear e1 p1 p2 hW1 hx hy lx ly hbx hby
  go_enter Tryz.func76, Tryz.ntmps76
  go_upto_region 1 with fail
  rw [← HW1.out]
  clear HW1
  obtain ⟨b1, A1, n1, c1, k0, k1, kz⟩ := PX.out
  obtain ⟨b2, A2, n2, c2, j0, j1, jz⟩ := PY.out
  have GC := Lib.hid (gcdZ_any r t _ _ _ L kz jz HLL.out.1 HLL.out.2 hL (by omega))
  have JZ0 := Lib.hid jz.words.1
  clear kz jz
  obtain ⟨vg, hvg⟩ : ∃ vg : Int, vg = ((Int.gcd r t : Nat) : Int) := ⟨_, rfl⟩
  rw [← hvg] at GC
  have HG := Lib.hid hvg
  clear hvg
  go_wp2_with fail
  refine (asAgg GC.out).mono ?_
  rintro e w2 ⟨b5, A5, n5, c5, rfl, hz, x2⟩
  replace x2 : Ext W1 w2 := x2
  have Z5 := Lib.hid hz; have X2 := Lib.hid x2; clear hz x2 k0 k1 GC
  go_upto_region 2 with fail
  obtain ⟨W2, hW2⟩ : ∃ W2, W2 = w2.alloc (Obj.cells #[.bool b5, .slice A5 n5 c5] 70) := ⟨_, rfl⟩
  have e2 : Ext W1 W2 := by rw [hW2]; exact X2.out.alc _
  have i5 : HZ W2 w2.heap.size vg := by rw [hW2]; exact HZ.lit w2 b5 A5 n5 c5 70 Z5.out
  have r5 : RB W2 w2.heap.size := by rw [hW2]; exact RB.c1 w2 b5 A5 n5 c5 70
  rw [← hW2]
  obtain ⟨g5, hg5⟩ : ∃ k, k = w2.heap.size := ⟨_, rfl⟩
  have l5 : w.heap.size + 1 + 1 < g5 := by rw [hg5]; exact Nat.lt_of_lt_of_le zl X2.out.size
  rw [← hg5] at i5 r5 ⊢
  have j0' := keepAt e2 (by omega) j0
  have PX := Lib.hid (PX.out.ext (by omega) e2); have PY := Lib.hid (PY.out.ext (by omega) e2); have R4 := Lib.hid (R4.out.ext e2); have E2 := Lib.hid (E1.out.trans e2)
  have I5 := Lib.hid i5; have R5 := Lib.hid r5; have zl2 := i5.lt
  clear e2 i5 r5 hW2 hg5 X2 Z5 j0 j1 E1
  by_cases hneg : t < 0
  · rw [show b2 = true by rw [JZ0.out]; simp [hneg]] at j0'
    have hng : vd = -vg := by rw [HVN.out]; unfold nfg; rw [if_pos hneg, HG.out]
    have HNG := Lib.hid hng
    clear hng
    go_upto_region 3 with fail
    obtain ⟨b6, A6, n6, c6, k0, k1, kz⟩ := I5.out
    have OP := Lib.hid (oppositeZ_any vg _ _ kz)
    clear kz j0'
    go_wp2_with fail
    refine (asAgg OP.out).mono ?_
    rintro e w3 ⟨b7, A7, n7, c7, rfl, hz, x3⟩
    replace x3 : Ext W2 w3 := x3
    have q5 := R5.out.ext x3
    obtain ⟨_, _, _, _, g30, g31, g32, g33⟩ := q5.facts
    obtain ⟨W3, hW3⟩ : ∃ W3, W3 = (w3.setCell ⟨g5, 0, none⟩ (.bool b7)).setCell ⟨g5, 1, none⟩ (.slice A7 n7 c7) := ⟨_, rfl⟩
    have i5 : HZ W3 g5 (-vg) := by rw [hW3]; exact HZ.put q5 hz
    have PX := Lib.hid (show HZ W3 w.heap.size r by rw [hW3]; exact (PX.out.ext (by omega) x3).far q5 (by omega) _ _)
    have PY := Lib.hid (show HZ W3 (w.heap.size + 1) t by rw [hW3]; exact (PY.out.ext (by omega) x3).far q5 (by omega) _ _)
    have R4 := Lib.hid (show FB W3 (w.heap.size + 1 + 1) by rw [hW3]; exact (R4.out.ext x3).far (by omega))
    have E3 : Hid (Ext w W3) := Lib.hid (by rw [hW3]; exact below_set2 (Ext.below (E2.out.trans x3)) (by omega) _ _)
    rw [← HNG.out] at i5
    have I5 := Lib.hid i5; have HW3 := Lib.hid hW3
    have lg := R4.out.lt; have lg5 := i5.lt
    clear x3 hz i5 hW3 q5 k0 k1 OP R5 E2 HNG
    go_upto_region 4 with fail
    rw [← HW3.out]
    clear g30 g31 g32 g33 HW3
    refine wp_region_noPanic ?_
    refine wp_pool 7 [some 13, some 14, some 15, some 16, some 17, some 18, some 19] [] [] [(RZ (r)), (RZ (vd)), (RZ (r / vd)), (RZ (t)), (RZ (vd)), (RZ (t / vd)), (RF2 (r / vd) (t / vd))] [noF, noF, noF, noF, noF, noF, noF] (by kernel_rfl) (by kernel_rfl) (by kernel_rfl) (by kernel_rfl) (by kernel_rfl) (by kernel_rfl) (by kernel_rfl) (by kernel_rfl) (fun _ _ _ _ h => h) ⟨(fun _ _ _ e ⟨b, A, n, c, h1, h2⟩ => ⟨b, A, n, c, h1, h2.ext e⟩), (fun _ _ _ e ⟨b, A, n, c, h1, h2⟩ => ⟨b, A, n, c, h1, h2.ext e⟩), (fun _ _ _ e ⟨b, A, n, c, h1, h2⟩ => ⟨b, A, n, c, h1, h2.ext e⟩), (fun _ _ _ e ⟨b, A, n, c, h1, h2⟩ => ⟨b, A, n, c, h1, h2.ext e⟩), (fun _ _ _ e ⟨b, A, n, c, h1, h2⟩ => ⟨b, A, n, c, h1, h2.ext e⟩), (fun _ _ _ e ⟨b, A, n, c, h1, h2⟩ => ⟨b, A, n, c, h1, h2.ext e⟩), (fun _ _ _ e ⟨b, A, n, c, b', A', n', c', h1, h2, h3⟩ => ⟨b, A, n, c, b', A', n', c', h1, h2.ext e, h3.ext e⟩), True.intro⟩ ?steps ?done
    case steps =>
      simp only [List.take_succ_cons, List.take_zero]
      refine Steps.cons (RZ (r)) [] rfl (by kernel_rfl) rfl (by kernel_rfl) (fun y X ex0 hf K hK => ?_) ?_
      · clear hf
        have ex := (Ext.drw (Ext.refl _)).trans ex0
        refine Box.mk ?_
        simp only [fill, Act.put, Nat.reduceAdd, List.setIfInBounds_toArray, List.set_cons_zero, List.set_cons_succ] at hK ⊢
        obtain ⟨bl, Al, nl, cl, k0, k1, kz⟩ := (PX.out.ext (by omega) ex)
        go_simp
        exact hK.out _ _ ⟨_, _, _, _, rfl, kz⟩ (Ext.refl _) (fun b hb => by cases hb)
      refine Steps.cons (RZ (vd)) [] rfl (by kernel_rfl) rfl (by kernel_rfl) (fun y X ex0 hf K hK => ?_) ?_
      · clear hf
        have ex := (Ext.drw (Ext.refl _)).trans ex0
        refine Box.mk ?_
        simp only [fill, Act.put, Nat.reduceAdd, List.setIfInBounds_toArray, List.set_cons_zero, List.set_cons_succ] at hK ⊢
        obtain ⟨bl, Al, nl, cl, k0, k1, kz⟩ := (I5.out.ext (by omega) ex)
        go_simp
        exact hK.out _ _ ⟨_, _, _, _, rfl, kz⟩ (Ext.refl _) (fun b hb => by cases hb)
      refine Steps.cons (RZ (r / vd)) [0, 1] rfl (by kernel_rfl) rfl (by kernel_rfl) (fun y X ex0 hf K hK => ?_) ?_
      · obtain ⟨b0, A0, n0, c0, h0, z0⟩ : ((RZ (r))) (y 0) X := hf.1
        obtain ⟨b1, A1, n1, c1, h1, z1⟩ : ((RZ (vd))) (y 1) X := hf.2.1
        clear hf
        have ex := (Ext.drw (Ext.refl _)).trans ex0
        refine Box.mk ?_
        simp only [fill, Act.put, Nat.reduceAdd, List.setIfInBounds_toArray, List.set_cons_zero, List.set_cons_succ, h0, h1] at hK ⊢
        go_simp
        refine (asAgg (overZ_any _ _ _ _ _ z0 z1 (by have := HLL.out.1; omega) (by have := HVD.out.2; omega) HVD.out.1)).mono ?_
        rintro e V ⟨b9, A9, n9, c9, rfl, hz, hb⟩
        try go_wp2_with fail
        exact hK.out _ _ ⟨_, _, _, _, rfl, hz⟩ hb (fun b hb => by cases hb)
      refine Steps.cons (RZ (t)) [] rfl (by kernel_rfl) rfl (by kernel_rfl) (fun y X ex0 hf K hK => ?_) ?_
      · clear hf
        have ex := (Ext.drw (Ext.refl _)).trans ex0
        refine Box.mk ?_
        simp only [fill, Act.put, Nat.reduceAdd, List.setIfInBounds_toArray, List.set_cons_zero, List.set_cons_succ] at hK ⊢
        obtain ⟨bl, Al, nl, cl, k0, k1, kz⟩ := (PY.out.ext (by omega) ex)
        go_simp
        exact hK.out _ _ ⟨_, _, _, _, rfl, kz⟩ (Ext.refl _) (fun b hb => by cases hb)
      refine Steps.cons (RZ (vd)) [] rfl (by kernel_rfl) rfl (by kernel_rfl) (fun y X ex0 hf K hK => ?_) ?_
      · clear hf
        have ex := (Ext.drw (Ext.refl _)).trans ex0
        refine Box.mk ?_
        simp only [fill, Act.put, Nat.reduceAdd, List.setIfInBounds_toArray, List.set_cons_zero, List.set_cons_succ] at hK ⊢
        obtain ⟨bl, Al, nl, cl, k0, k1, kz⟩ := (I5.out.ext (by omega) ex)
        go_simp
        exact hK.out _ _ ⟨_, _, _, _, rfl, kz⟩ (Ext.refl _) (fun b hb => by cases hb)
      refine Steps.cons (RZ (t / vd)) [3, 4, 2] rfl (by kernel_rfl) rfl (by kernel_rfl) (fun y X ex0 hf K hK => ?_) ?_
      · obtain ⟨b3, A3, n3, c3, h3, z3⟩ : ((RZ (t))) (y 3) X := hf.1
        obtain ⟨b4, A4, n4, c4, h4, z4⟩ : ((RZ (vd))) (y 4) X := hf.2.1
        obtain ⟨b2, A2, n2, c2, h2, z2⟩ : ((RZ (r / vd))) (y 2) X := hf.2.2.1
        clear hf
        have ex := (Ext.drw (Ext.refl _)).trans ex0
        refine Box.mk ?_
        simp only [fill, Act.put, Nat.reduceAdd, List.setIfInBounds_toArray, List.set_cons_zero, List.set_cons_succ, h3, h4, h2] at hK ⊢
        go_simp
        refine (asAgg (overZ_any _ _ _ _ _ z3 z4 (by have := HLL.out.2; omega) (by have := HVD.out.2; omega) HVD.out.1)).mono ?_
        rintro e V ⟨b9, A9, n9, c9, rfl, hz, hb⟩
        try go_wp2_with fail
        exact hK.out _ _ ⟨_, _, _, _, rfl, hz⟩ hb (fun b hb => by cases hb)
      refine Steps.cons (RF2 (r / vd) (t / vd)) [2, 5] rfl (by kernel_rfl) rfl (by kernel_rfl) (fun y X ex0 hf K hK => ?_) ?_
      · obtain ⟨b2, A2, n2, c2, h2, z2⟩ : ((RZ (r / vd))) (y 2) X := hf.1
        obtain ⟨b5, A5, n5, c5, h5, z5⟩ : ((RZ (t / vd))) (y 5) X := hf.2.1
        clear hf
        have ex := (Ext.drw (Ext.refl _)).trans ex0
        refine Box.mk ?_
        simp only [fill, Act.put, Nat.reduceAdd, List.setIfInBounds_toArray, List.set_cons_zero, List.set_cons_succ, h2, h5] at hK ⊢
        go_simp
        exact hK.out _ _ ⟨_, _, _, _, _, _, _, _, rfl, z2, z5⟩ (Ext.refl _) (fun b hb => by cases hb)
      exact Steps.nil
    case done =>
      intro y X ex hf hlt hsep
      obtain ⟨b0, A0, n0, c0, h0, z0⟩ : ((RZ (r))) (y 0) X := hf.1
      obtain ⟨b1, A1, n1, c1, h1, z1⟩ : ((RZ (vd))) (y 1) X := hf.2.1
      obtain ⟨b2, A2, n2, c2, h2, z2⟩ : ((RZ (r / vd))) (y 2) X := hf.2.2.1
      obtain ⟨b3, A3, n3, c3, h3, z3⟩ : ((RZ (t))) (y 3) X := hf.2.2.2.1
      obtain ⟨b4, A4, n4, c4, h4, z4⟩ : ((RZ (vd))) (y 4) X := hf.2.2.2.2.1
      obtain ⟨b5, A5, n5, c5, h5, z5⟩ : ((RZ (t / vd))) (y 5) X := hf.2.2.2.2.2.1
      obtain ⟨b6, A6, n6, c6, bb6, AA6, nn6, cc6, h6, z6, y6⟩ : ((RF2 (r / vd) (t / vd))) (y 6) X := hf.2.2.2.2.2.2.1
      clear hf
      clear hsep hlt
      refine Box.mk ?_
      simp only [List.drop_succ_cons, List.drop_zero, fill, Act.put, Nat.reduceAdd, List.setIfInBounds_toArray, List.set_cons_zero, List.set_cons_succ, h0, h1, h2, h3, h4, h5, h6]
      clear h0 h1 h2 h3 h4 h5 h6
      have r4 := R4.out.ext ex
      obtain ⟨_, _, _, _, k40, k41, k42, k43, k44, k45, k46, k47⟩ := put4_walk r4 (.bool b6) (.slice A6 n6 c6) (.bool bb6)
      obtain ⟨W', hW'⟩ : ∃ W', W' = put4 X (w.heap.size + 1 + 1) (.bool b6) (.slice A6 n6 c6) (.bool bb6) (.slice AA6 nn6 cc6) := ⟨_, rfl⟩
      obtain ⟨f0, f1, f2, f3⟩ := put4_cells r4 (.bool b6) (.slice A6 n6 c6) (.bool bb6) (.slice AA6 nn6 cc6)
      have hz1 := (z6).put4 r4 (.bool b6) (.slice A6 n6 c6) (.bool bb6) (.slice AA6 nn6 cc6)
      rw [← hW'] at hz1
      have hz2 := (y6).put4 r4 (.bool b6) (.slice A6 n6 c6) (.bool bb6) (.slice AA6 nn6 cc6)
      rw [← hW'] at hz2
      have hbf : Below w.heap.size w W' := by rw [hW']; exact put4_below (Ext.below (E3.out.trans ex)) (by omega) (.bool b6) (.slice A6 n6 c6) (.bool bb6) (.slice AA6 nn6 cc6)
      rw [← hW'] at f0 f1 f2 f3
      unfold put4 at hW'
      have HG := Lib.hid (And.intro hz1 (And.intro hz2 (And.intro hbf (And.intro f0 (And.intro f1 (And.intro f2 f3))))))
      have HW' := Lib.hid hW'
      clear hz1 hz2 hbf f0 f1 f2 f3 hW' ex z0 z1 z2 z3 z4 z5 z6 y6 r4
      go_wp2_with fail
      refine NoPanic.normal ?_
      go_wp2
      rw [← HW'.out]
      obtain ⟨hz1, hz2, hbf, f0, f1, f2, f3⟩ := HG.out
      exact bodyPost_ret (v := .agg #[.bool b6, .slice A6 n6 c6, .bool bb6, .slice AA6 nn6 cc6]) (by simp [results, Tryz.results76, go_sem, f0, f1, f2, f3]) rfl ⟨_, _, _, _, _, _, _, _, rfl, hz1, hz2, hbf⟩
  · rw [show b2 = false by rw [JZ0.out]; simp [hneg]] at j0'
    have hng : vd = vg := by rw [HVN.out]; unfold nfg; rw [if_neg hneg, HG.out]
    have i5 := I5.out
    rw [← hng] at i5
    have I5 := Lib.hid i5
    have lg := R4.out.lt
    clear hng i5 R5
    go_upto_region 4 with fail
    clear j0'
    refine wp_region_noPanic ?_
    refine wp_pool 7 [some 13, some 14, some 15, some 16, some 17, some 18, some 19] [] [] [(RZ (r)), (RZ (vd)), (RZ (r / vd)), (RZ (t)), (RZ (vd)), (RZ (t / vd)), (RF2 (r / vd) (t / vd))] [noF, noF, noF, noF, noF, noF, noF] (by kernel_rfl) (by kernel_rfl) (by kernel_rfl) (by kernel_rfl) (by kernel_rfl) (by kernel_rfl) (by kernel_rfl) (by kernel_rfl) (fun _ _ _ _ h => h) ⟨(fun _ _ _ e ⟨b, A, n, c, h1, h2⟩ => ⟨b, A, n, c, h1, h2.ext e⟩), (fun _ _ _ e ⟨b, A, n, c, h1, h2⟩ => ⟨b, A, n, c, h1, h2.ext e⟩), (fun _ _ _ e ⟨b, A, n, c, h1, h2⟩ => ⟨b, A, n, c, h1, h2.ext e⟩), (fun _ _ _ e ⟨b, A, n, c, h1, h2⟩ => ⟨b, A, n, c, h1, h2.ext e⟩), (fun _ _ _ e ⟨b, A, n, c, h1, h2⟩ => ⟨b, A, n, c, h1, h2.ext e⟩), (fun _ _ _ e ⟨b, A, n, c, h1, h2⟩ => ⟨b, A, n, c, h1, h2.ext e⟩), (fun _ _ _ e ⟨b, A, n, c, b', A', n', c', h1, h2, h3⟩ => ⟨b, A, n, c, b', A', n', c', h1, h2.ext e, h3.ext e⟩), True.intro⟩ ?steps ?done
    case steps =>
      simp only [List.take_succ_cons, List.take_zero]
      refine Steps.cons (RZ (r)) [] rfl (by kernel_rfl) rfl (by kernel_rfl) (fun y X ex0 hf K hK => ?_) ?_
      · clear hf
        have ex := (Ext.drw (Ext.refl _)).trans ex0
        refine Box.mk ?_
        simp only [fill, Act.put, Nat.reduceAdd, List.setIfInBounds_toArray, List.set_cons_zero, List.set_cons_succ] at hK ⊢
        obtain ⟨bl, Al, nl, cl, k0, k1, kz⟩ := (PX.out.ext (by omega) ex)
        go_simp
        exact hK.out _ _ ⟨_, _, _, _, rfl, kz⟩ (Ext.refl _) (fun b hb => by cases hb)
      refine Steps.cons (RZ (vd)) [] rfl (by kernel_rfl) rfl (by kernel_rfl) (fun y X ex0 hf K hK => ?_) ?_
      · clear hf
        have ex := (Ext.drw (Ext.refl _)).trans ex0
        refine Box.mk ?_
        simp only [fill, Act.put, Nat.reduceAdd, List.setIfInBounds_toArray, List.set_cons_zero, List.set_cons_succ] at hK ⊢
        obtain ⟨bl, Al, nl, cl, k0, k1, kz⟩ := (I5.out.ext (by omega) ex)
        go_simp
        exact hK.out _ _ ⟨_, _, _, _, rfl, kz⟩ (Ext.refl _) (fun b hb => by cases hb)
      refine Steps.cons (RZ (r / vd)) [0, 1] rfl (by kernel_rfl) rfl (by kernel_rfl) (fun y X ex0 hf K hK => ?_) ?_
      · obtain ⟨b0, A0, n0, c0, h0, z0⟩ : ((RZ (r))) (y 0) X := hf.1
        obtain ⟨b1, A1, n1, c1, h1, z1⟩ : ((RZ (vd))) (y 1) X := hf.2.1
        clear hf
        have ex := (Ext.drw (Ext.refl _)).trans ex0
        refine Box.mk ?_
        simp only [fill, Act.put, Nat.reduceAdd, List.setIfInBounds_toArray, List.set_cons_zero, List.set_cons_succ, h0, h1] at hK ⊢
        go_simp
        refine (asAgg (overZ_any _ _ _ _ _ z0 z1 (by have := HLL.out.1; omega) (by have := HVD.out.2; omega) HVD.out.1)).mono ?_
        rintro e V ⟨b9, A9, n9, c9, rfl, hz, hb⟩
        try go_wp2_with fail
        exact hK.out _ _ ⟨_, _, _, _, rfl, hz⟩ hb (fun b hb => by cases hb)
      refine Steps.cons (RZ (t)) [] rfl (by kernel_rfl) rfl (by kernel_rfl) (fun y X ex0 hf K hK => ?_) ?_
      · clear hf
        have ex := (Ext.drw (Ext.refl _)).trans ex0
        refine Box.mk ?_
        simp only [fill, Act.put, Nat.reduceAdd, List.setIfInBounds_toArray, List.set_cons_zero, List.set_cons_succ] at hK ⊢
        obtain ⟨bl, Al, nl, cl, k0, k1, kz⟩ := (PY.out.ext (by omega) ex)
        go_simp
        exact hK.out _ _ ⟨_, _, _, _, rfl, kz⟩ (Ext.refl _) (fun b hb => by cases hb)
      refine Steps.cons (RZ (vd)) [] rfl (by kernel_rfl) rfl (by kernel_rfl) (fun y X ex0 hf K hK => ?_) ?_
      · clear hf
        have ex := (Ext.drw (Ext.refl _)).trans ex0
        refine Box.mk ?_
        simp only [fill, Act.put, Nat.reduceAdd, List.setIfInBounds_toArray, List.set_cons_zero, List.set_cons_succ] at hK ⊢
        obtain ⟨bl, Al, nl, cl, k0, k1, kz⟩ := (I5.out.ext (by omega) ex)
        go_simp
        exact hK.out _ _ ⟨_, _, _, _, rfl, kz⟩ (Ext.refl _) (fun b hb => by cases hb)
      refine Steps.cons (RZ (t / vd)) [3, 4, 2] rfl (by kernel_rfl) rfl (by kernel_rfl) (fun y X ex0 hf K hK => ?_) ?_
      · obtain ⟨b3, A3, n3, c3, h3, z3⟩ : ((RZ (t))) (y 3) X := hf.1
        obtain ⟨b4, A4, n4, c4, h4, z4⟩ : ((RZ (vd))) (y 4) X := hf.2.1
        obtain ⟨b2, A2, n2, c2, h2, z2⟩ : ((RZ (r / vd))) (y 2) X := hf.2.2.1
        clear hf
        have ex := (Ext.drw (Ext.refl _)).trans ex0
        refine Box.mk ?_
        simp only [fill, Act.put, Nat.reduceAdd, List.setIfInBounds_toArray, List.set_cons_zero, List.set_cons_succ, h3, h4, h2] at hK ⊢
        go_simp
        refine (asAgg (overZ_any _ _ _ _ _ z3 z4 (by have := HLL.out.2; omega) (by have := HVD.out.2; omega) HVD.out.1)).mono ?_
        rintro e V ⟨b9, A9, n9, c9, rfl, hz, hb⟩
        try go_wp2_with fail
        exact hK.out _ _ ⟨_, _, _, _, rfl, hz⟩ hb (fun b hb => by cases hb)
      refine Steps.cons (RF2 (r / vd) (t / vd)) [2, 5] rfl (by kernel_rfl) rfl (by kernel_rfl) (fun y X ex0 hf K hK => ?_) ?_
      · obtain ⟨b2, A2, n2, c2, h2, z2⟩ : ((RZ (r / vd))) (y 2) X := hf.1
        obtain ⟨b5, A5, n5, c5, h5, z5⟩ : ((RZ (t / vd))) (y 5) X := hf.2.1
        clear hf
        have ex := (Ext.drw (Ext.refl _)).trans ex0
        refine Box.mk ?_
        simp only [fill, Act.put, Nat.reduceAdd, List.setIfInBounds_toArray, List.set_cons_zero, List.set_cons_succ, h2, h5] at hK ⊢
        go_simp
        exact hK.out _ _ ⟨_, _, _, _, _, _, _, _, rfl, z2, z5⟩ (Ext.refl _) (fun b hb => by cases hb)
      exact Steps.nil
    case done =>
      intro y X ex hf hlt hsep
      obtain ⟨b0, A0, n0, c0, h0, z0⟩ : ((RZ (r))) (y 0) X := hf.1
      obtain ⟨b1, A1, n1, c1, h1, z1⟩ : ((RZ (vd))) (y 1) X := hf.2.1
      obtain ⟨b2, A2, n2, c2, h2, z2⟩ : ((RZ (r / vd))) (y 2) X := hf.2.2.1
      obtain ⟨b3, A3, n3, c3, h3, z3⟩ : ((RZ (t))) (y 3) X := hf.2.2.2.1
      obtain ⟨b4, A4, n4, c4, h4, z4⟩ : ((RZ (vd))) (y 4) X := hf.2.2.2.2.1
      obtain ⟨b5, A5, n5, c5, h5, z5⟩ : ((RZ (t / vd))) (y 5) X := hf.2.2.2.2.2.1
      obtain ⟨b6, A6, n6, c6, bb6, AA6, nn6, cc6, h6, z6, y6⟩ : ((RF2 (r / vd) (t / vd))) (y 6) X := hf.2.2.2.2.2.2.1
      clear hf
      clear hsep hlt
      refine Box.mk ?_
      simp only [List.drop_succ_cons, List.drop_zero, fill, Act.put, Nat.reduceAdd, List.setIfInBounds_toArray, List.set_cons_zero, List.set_cons_succ, h0, h1, h2, h3, h4, h5, h6]
      clear h0 h1 h2 h3 h4 h5 h6
      have r4 := R4.out.ext ex
      obtain ⟨_, _, _, _, k40, k41, k42, k43, k44, k45, k46, k47⟩ := put4_walk r4 (.bool b6) (.slice A6 n6 c6) (.bool bb6)
      obtain ⟨W', hW'⟩ : ∃ W', W' = put4 X (w.heap.size + 1 + 1) (.bool b6) (.slice A6 n6 c6) (.bool bb6) (.slice AA6 nn6 cc6) := ⟨_, rfl⟩
      obtain ⟨f0, f1, f2, f3⟩ := put4_cells r4 (.bool b6) (.slice A6 n6 c6) (.bool bb6) (.slice AA6 nn6 cc6)
      have hz1 := (z6).put4 r4 (.bool b6) (.slice A6 n6 c6) (.bool bb6) (.slice AA6 nn6 cc6)
      rw [← hW'] at hz1
      have hz2 := (y6).put4 r4 (.bool b6) (.slice A6 n6 c6) (.bool bb6) (.slice AA6 nn6 cc6)
      rw [← hW'] at hz2
      have hbf : Below w.heap.size w W' := by rw [hW']; exact put4_below (Ext.below (E2.out.trans ex)) (by omega) (.bool b6) (.slice A6 n6 c6) (.bool bb6) (.slice AA6 nn6 cc6)
      rw [← hW'] at f0 f1 f2 f3
      unfold put4 at hW'
      have HG := Lib.hid (And.intro hz1 (And.intro hz2 (And.intro hbf (And.intro f0 (And.intro f1 (And.intro f2 f3))))))
      have HW' := Lib.hid hW'
      clear hz1 hz2 hbf f0 f1 f2 f3 hW' ex z0 z1 z2 z3 z4 z5 z6 y6 r4
      go_wp2_with fail
      refine NoPanic.normal ?_
      go_wp2
      rw [← HW'.out]
      obtain ⟨hz1, hz2, hbf, f0, f1, f2, f3⟩ := HG.out
      exact bodyPost_ret (v := .agg #[.bool b6, .slice A6 n6 c6, .bool bb6, .slice AA6 nn6 cc6]) (by simp [results, Tryz.results76, go_sem, f0, f1, f2, f3]) rfl ⟨_, _, _, _, _, _, _, _, rfl, hz1, hz2, hbf⟩
set_option maxHeartbeats 800000 in
set_option maxRecDepth 100000 in
theorem oppositeF_any (vx vy : Int) (v : Value) (w : World) (hf : FV w v vx vy)  :
    Calls Tryz.prog 89 #[v] w (RetF w (-vx) vy) := by
  obtain ⟨p1, P1, m1, d1, p2, P2, m2, d2, rfl, hz1, hz2⟩ := hf
  obtain ⟨W1, hW1⟩ : ∃ W1, W1 = (w.alloc (.cells #[.bool p1, .slice P1 m1 d1, .bool p2, .slice P2 m2 d2] 72)).alloc (.cells #[.bool false, .slice none 0 0, .bool false, .slice none 0 0] 72) := ⟨_, rfl⟩
  have e1 : Ext w W1 := by rw [hW1]; exact ((Ext.refl w).alc _).alc _
  have i2 : HF W1 w.heap.size vx vy := by rw [hW1]; exact (HF.new w p1 P1 m1 d1 p2 P2 m2 d2 72 hz1 hz2).ext ((Ext.refl _).alc _)
  have r4 : FB W1 (w.heap.size + 1) := by
    have := FB.new (w.alloc (.cells #[.bool p1, .slice P1 m1 d1, .bool p2, .slice P2 m2 d2] 72)) false none 0 0 false none 0 0 72
    rw [World.size_alloc] at this
    rw [hW1]; exact this
  have I2 := Lib.hid i2; have R4 := Lib.hid r4; have E1 := Lib.hid e1; have HW1 := Lib.hid hW1
  clear i2 r4 e1 hW1 hz1 hz2
  go_enter Tryz.func89, Tryz.ntmps89
  go_upto_region 1 with fail
  rw [← HW1.out]
  clear HW1
  have lg := R4.out.lt
  refine wp_region_noPanic ?_
  refine wp_pool 6 [some 3, some 4, some 5, some 6, some 7, some 8] [] [] [(fun (v : Value) (_ : World) => v = .pointer (some ⟨w.heap.size, 0, none⟩)), (RZ (vx)), (RZ (-vx)), (fun (v : Value) (_ : World) => v = .pointer (some ⟨w.heap.size, 2, none⟩)), (RZ (vy)), (RF2 (-vx) (vy))] [noF, noF, noF, noF, noF, noF] (by kernel_rfl) (by kernel_rfl) (by kernel_rfl) (by kernel_rfl) (by kernel_rfl) (by kernel_rfl) (by kernel_rfl) (by kernel_rfl) (fun _ _ _ _ h => h) ⟨Stays.pure _, (fun _ _ _ e ⟨b, A, n, c, h1, h2⟩ => ⟨b, A, n, c, h1, h2.ext e⟩), (fun _ _ _ e ⟨b, A, n, c, h1, h2⟩ => ⟨b, A, n, c, h1, h2.ext e⟩), Stays.pure _, (fun _ _ _ e ⟨b, A, n, c, h1, h2⟩ => ⟨b, A, n, c, h1, h2.ext e⟩), (fun _ _ _ e ⟨b, A, n, c, b', A', n', c', h1, h2, h3⟩ => ⟨b, A, n, c, b', A', n', c', h1, h2.ext e, h3.ext e⟩), True.intro⟩ ?steps ?done
  case steps =>
    simp only [List.take_succ_cons, List.take_zero]
    refine Steps.cons (fun (v : Value) (_ : World) => v = .pointer (some ⟨w.heap.size, 0, none⟩)) [] rfl (by kernel_rfl) rfl (by kernel_rfl) (fun y X ex0 hf K hK => ?_) ?_
    · clear hf
      have ex := (Ext.drw (Ext.refl _)).trans ex0
      refine Box.mk ?_
      simp only [fill, Act.put, Nat.reduceAdd, List.setIfInBounds_toArray, List.set_cons_zero, List.set_cons_succ] at hK ⊢
      go_simp
      exact hK.out _ _ rfl (Ext.refl _) (fun b hb => by cases hb)
    refine Steps.cons (RZ (vx)) [0] rfl (by kernel_rfl) rfl (by kernel_rfl) (fun y X ex0 hf K hK => ?_) ?_
    · have h0 : ((fun (v : Value) (_ : World) => v = .pointer (some ⟨w.heap.size, 0, none⟩))) (y 0) X := hf.1
      clear hf
      have ex := (Ext.drw (Ext.refl _)).trans ex0
      refine Box.mk ?_
      simp only [fill, Act.put, Nat.reduceAdd, List.setIfInBounds_toArray, List.set_cons_zero, List.set_cons_succ, h0] at hK ⊢
      obtain ⟨bl, Al, nl, cl, k0, k1, kz⟩ := (I2.out.1.ext (by omega) ex)
      go_simp
      exact hK.out _ _ ⟨_, _, _, _, rfl, kz⟩ (Ext.refl _) (fun b hb => by cases hb)
    refine Steps.cons (RZ (-vx)) [1] rfl (by kernel_rfl) rfl (by kernel_rfl) (fun y X ex0 hf K hK => ?_) ?_
    · obtain ⟨b1, A1, n1, c1, h1, z1⟩ : ((RZ (vx))) (y 1) X := hf.1
      clear hf
      have ex := (Ext.drw (Ext.refl _)).trans ex0
      refine Box.mk ?_
      simp only [fill, Act.put, Nat.reduceAdd, List.setIfInBounds_toArray, List.set_cons_zero, List.set_cons_succ, h1] at hK ⊢
      go_simp
      refine (asAgg (oppositeZ_any _ _ _ z1)).mono ?_
      rintro e V ⟨b9, A9, n9, c9, rfl, hz, hb⟩
      try go_wp2_with fail
      exact hK.out _ _ ⟨_, _, _, _, rfl, hz⟩ hb (fun b hb => by cases hb)
    refine Steps.cons (fun (v : Value) (_ : World) => v = .pointer (some ⟨w.heap.size, 2, none⟩)) [] rfl (by kernel_rfl) rfl (by kernel_rfl) (fun y X ex0 hf K hK => ?_) ?_
    · clear hf
      have ex := (Ext.drw (Ext.refl _)).trans ex0
      refine Box.mk ?_
      simp only [fill, Act.put, Nat.reduceAdd, List.setIfInBounds_toArray, List.set_cons_zero, List.set_cons_succ] at hK ⊢
      go_simp
      exact hK.out _ _ rfl (Ext.refl _) (fun b hb => by cases hb)
    refine Steps.cons (RZ (vy)) [3] rfl (by kernel_rfl) rfl (by kernel_rfl) (fun y X ex0 hf K hK => ?_) ?_
    · have h3 : ((fun (v : Value) (_ : World) => v = .pointer (some ⟨w.heap.size, 2, none⟩))) (y 3) X := hf.1
      clear hf
      have ex := (Ext.drw (Ext.refl _)).trans ex0
      refine Box.mk ?_
      simp only [fill, Act.put, Nat.reduceAdd, List.setIfInBounds_toArray, List.set_cons_zero, List.set_cons_succ, h3] at hK ⊢
      obtain ⟨bl, Al, nl, cl, k0, k1, kz⟩ := (I2.out.2.ext (by omega) ex)
      go_simp
      exact hK.out _ _ ⟨_, _, _, _, rfl, kz⟩ (Ext.refl _) (fun b hb => by cases hb)
    refine Steps.cons (RF2 (-vx) (vy)) [2, 4] rfl (by kernel_rfl) rfl (by kernel_rfl) (fun y X ex0 hf K hK => ?_) ?_
    · obtain ⟨b2, A2, n2, c2, h2, z2⟩ : ((RZ (-vx))) (y 2) X := hf.1
      obtain ⟨b4, A4, n4, c4, h4, z4⟩ : ((RZ (vy))) (y 4) X := hf.2.1
      clear hf
      have ex := (Ext.drw (Ext.refl _)).trans ex0
      refine Box.mk ?_
      simp only [fill, Act.put, Nat.reduceAdd, List.setIfInBounds_toArray, List.set_cons_zero, List.set_cons_succ, h2, h4] at hK ⊢
      go_simp
      exact hK.out _ _ ⟨_, _, _, _, _, _, _, _, rfl, z2, z4⟩ (Ext.refl _) (fun b hb => by cases hb)
    exact Steps.nil
  case done =>
    intro y X ex hf hlt hsep
    have h0 : ((fun (v : Value) (_ : World) => v = .pointer (some ⟨w.heap.size, 0, none⟩))) (y 0) X := hf.1
    obtain ⟨b1, A1, n1, c1, h1, z1⟩ : ((RZ (vx))) (y 1) X := hf.2.1
    obtain ⟨b2, A2, n2, c2, h2, z2⟩ : ((RZ (-vx))) (y 2) X := hf.2.2.1
    have h3 : ((fun (v : Value) (_ : World) => v = .pointer (some ⟨w.heap.size, 2, none⟩))) (y 3) X := hf.2.2.2.1
    obtain ⟨b4, A4, n4, c4, h4, z4⟩ : ((RZ (vy))) (y 4) X := hf.2.2.2.2.1
    obtain ⟨b5, A5, n5, c5, bb5, AA5, nn5, cc5, h5, z5, y5⟩ : ((RF2 (-vx) (vy))) (y 5) X := hf.2.2.2.2.2.1
    clear hf
    clear hsep hlt
    refine Box.mk ?_
    simp only [List.drop_succ_cons, List.drop_zero, fill, Act.put, Nat.reduceAdd, List.setIfInBounds_toArray, List.set_cons_zero, List.set_cons_succ, h0, h1, h2, h3, h4, h5]
    clear h0 h1 h2 h3 h4 h5
    have r4 := R4.out.ext ex
    obtain ⟨_, _, _, _, k40, k41, k42, k43, k44, k45, k46, k47⟩ := put4_walk r4 (.bool b5) (.slice A5 n5 c5) (.bool bb5)
    obtain ⟨W', hW'⟩ : ∃ W', W' = put4 X (w.heap.size + 1) (.bool b5) (.slice A5 n5 c5) (.bool bb5) (.slice AA5 nn5 cc5) := ⟨_, rfl⟩
    obtain ⟨f0, f1, f2, f3⟩ := put4_cells r4 (.bool b5) (.slice A5 n5 c5) (.bool bb5) (.slice AA5 nn5 cc5)
    have hz1 := (z5).put4 r4 (.bool b5) (.slice A5 n5 c5) (.bool bb5) (.slice AA5 nn5 cc5)
    rw [← hW'] at hz1
    have hz2 := (y5).put4 r4 (.bool b5) (.slice A5 n5 c5) (.bool bb5) (.slice AA5 nn5 cc5)
    rw [← hW'] at hz2
    have hbf : Below w.heap.size w W' := by rw [hW']; exact put4_below (Ext.below (E1.out.trans ex)) (by omega) (.bool b5) (.slice A5 n5 c5) (.bool bb5) (.slice AA5 nn5 cc5)
    rw [← hW'] at f0 f1 f2 f3
    unfold put4 at hW'
    have HG := Lib.hid (And.intro hz1 (And.intro hz2 (And.intro hbf (And.intro f0 (And.intro f1 (And.intro f2 f3))))))
    have HW' := Lib.hid hW'
    clear hz1 hz2 hbf f0 f1 f2 f3 hW' ex z1 z2 z4 z5 y5 r4
    go_wp2_with fail
    refine NoPanic.normal ?_
    go_wp2
    rw [← HW'.out]
    obtain ⟨hz1, hz2, hbf, f0, f1, f2, f3⟩ := HG.out
    exact bodyPost_ret (v := .agg #[.bool b5, .slice A5 n5 c5, .bool bb5, .slice AA5 nn5 cc5]) (by simp [results, Tryz.results89, go_sem, f0, f1, f2, f3]) rfl ⟨_, _, _, _, _, _, _, _, rfl, hz1, hz2, hbf⟩
set_option maxHeartbeats 800000 in
set_option maxRecDepth 100000 in
theorem fractionOf_any (vx vy : Int) (v : Value) (w : World) (hf : FV w v vx vy)  :
    Calls Tryz.prog 46 #[v] w (RetF w vx vy) := by
  obtain ⟨p1, P1, m1, d1, p2, P2, m2, d2, rfl, hz1, hz2⟩ := hf
  obtain ⟨W1, hW1⟩ : ∃ W1, W1 = (w.alloc (.cells #[.bool p1, .slice P1 m1 d1, .bool p2, .slice P2 m2 d2] 26)).alloc (.cells #[.bool false, .slice none 0 0, .bool false, .slice none 0 0] 72) := ⟨_, rfl⟩
  have e1 : Ext w W1 := by rw [hW1]; exact ((Ext.refl w).alc _).alc _
  have i2 : HF W1 w.heap.size vx vy := by rw [hW1]; exact (HF.new w p1 P1 m1 d1 p2 P2 m2 d2 26 hz1 hz2).ext ((Ext.refl _).alc _)
  have r4 : FB W1 (w.heap.size + 1) := by
    have := FB.new (w.alloc (.cells #[.bool p1, .slice P1 m1 d1, .bool p2, .slice P2 m2 d2] 26)) false none 0 0 false none 0 0 72
    rw [World.size_alloc] at this
    rw [hW1]; exact this
  have I2 := Lib.hid i2; have R4 := Lib.hid r4; have E1 := Lib.hid e1; have HW1 := Lib.hid hW1
  clear i2 r4 e1 hW1 hz1 hz2
  go_enter Tryz.func46, Tryz.ntmps46
  go_upto_region 1 with fail
  rw [← HW1.out]
  clear HW1
  have lg := R4.out.lt
  refine wp_region_noPanic ?_
  refine wp_pool 7 [some 3, some 4, some 5, some 6, some 7, some 8, some 9] [] [] [(fun (v : Value) (_ : World) => v = .pointer (some ⟨w.heap.size, 0, none⟩)), (RZ (vx)), (RZ (vx)), (fun (v : Value) (_ : World) => v = .pointer (some ⟨w.heap.size, 2, none⟩)), (RZ (vy)), (RZ (vy)), (RF2 (vx) (vy))] [noF, noF, noF, noF, noF, noF, noF] (by kernel_rfl) (by kernel_rfl) (by kernel_rfl) (by kernel_rfl) (by kernel_rfl) (by kernel_rfl) (by kernel_rfl) (by kernel_rfl) (fun _ _ _ _ h => h) ⟨Stays.pure _, (fun _ _ _ e ⟨b, A, n, c, h1, h2⟩ => ⟨b, A, n, c, h1, h2.ext e⟩), (fun _ _ _ e ⟨b, A, n, c, h1, h2⟩ => ⟨b, A, n, c, h1, h2.ext e⟩), Stays.pure _, (fun _ _ _ e ⟨b, A, n, c, h1, h2⟩ => ⟨b, A, n, c, h1, h2.ext e⟩), (fun _ _ _ e ⟨b, A, n, c, h1, h2⟩ => ⟨b, A, n, c, h1, h2.ext e⟩), (fun _ _ _ e ⟨b, A, n, c, b', A', n', c', h1, h2, h3⟩ => ⟨b, A, n, c, b', A', n', c', h1, h2.ext e, h3.ext e⟩), True.intro⟩ ?steps ?done
  case steps =>
    simp only [List.take_succ_cons, List.take_zero]
    refine Steps.cons (fun (v : Value) (_ : World) => v = .pointer (some ⟨w.heap.size, 0, none⟩)) [] rfl (by kernel_rfl) rfl (by kernel_rfl) (fun y X ex0 hf K hK => ?_) ?_
    · clear hf
      have ex := (Ext.drw (Ext.refl _)).trans ex0
      refine Box.mk ?_
      simp only [fill, Act.put, Nat.reduceAdd, List.setIfInBounds_toArray, List.set_cons_zero, List.set_cons_succ] at hK ⊢
      go_simp
      exact hK.out _ _ rfl (Ext.refl _) (fun b hb => by cases hb)
    refine Steps.cons (RZ (vx)) [0] rfl (by kernel_rfl) rfl (by kernel_rfl) (fun y X ex0 hf K hK => ?_) ?_
    · have h0 : ((fun (v : Value) (_ : World) => v = .pointer (some ⟨w.heap.size, 0, none⟩))) (y 0) X := hf.1
      clear hf
      have ex := (Ext.drw (Ext.refl _)).trans ex0
      refine Box.mk ?_
      simp only [fill, Act.put, Nat.reduceAdd, List.setIfInBounds_toArray, List.set_cons_zero, List.set_cons_succ, h0] at hK ⊢
      obtain ⟨bl, Al, nl, cl, k0, k1, kz⟩ := (I2.out.1.ext (by omega) ex)
      go_simp
      exact hK.out _ _ ⟨_, _, _, _, rfl, kz⟩ (Ext.refl _) (fun b hb => by cases hb)
    refine Steps.cons (RZ (vx)) [1] rfl (by kernel_rfl) rfl (by kernel_rfl) (fun y X ex0 hf K hK => ?_) ?_
    · obtain ⟨b1, A1, n1, c1, h1, z1⟩ : ((RZ (vx))) (y 1) X := hf.1
      clear hf
      have ex := (Ext.drw (Ext.refl _)).trans ex0
      refine Box.mk ?_
      simp only [fill, Act.put, Nat.reduceAdd, List.setIfInBounds_toArray, List.set_cons_zero, List.set_cons_succ, h1] at hK ⊢
      go_simp
      refine (asAgg ((wholeOf_any _ _ _ _ _).mono fun e w' ⟨he, hb⟩ => ⟨_, he, (z1).ext hb, hb⟩)).mono ?_
      rintro e V ⟨b9, A9, n9, c9, rfl, hz, hb⟩
      try go_wp2_with fail
      exact hK.out _ _ ⟨_, _, _, _, rfl, hz⟩ hb (fun b hb => by cases hb)
    refine Steps.cons (fun (v : Value) (_ : World) => v = .pointer (some ⟨w.heap.size, 2, none⟩)) [] rfl (by kernel_rfl) rfl (by kernel_rfl) (fun y X ex0 hf K hK => ?_) ?_
    · clear hf
      have ex := (Ext.drw (Ext.refl _)).trans ex0
      refine Box.mk ?_
      simp only [fill, Act.put, Nat.reduceAdd, List.setIfInBounds_toArray, List.set_cons_zero, List.set_cons_succ] at hK ⊢
      go_simp
      exact hK.out _ _ rfl (Ext.refl _) (fun b hb => by cases hb)
    refine Steps.cons (RZ (vy)) [3] rfl (by kernel_rfl) rfl (by kernel_rfl) (fun y X ex0 hf K hK => ?_) ?_
    · have h3 : ((fun (v : Value) (_ : World) => v = .pointer (some ⟨w.heap.size, 2, none⟩))) (y 3) X := hf.1
      clear hf
      have ex := (Ext.drw (Ext.refl _)).trans ex0
      refine Box.mk ?_
      simp only [fill, Act.put, Nat.reduceAdd, List.setIfInBounds_toArray, List.set_cons_zero, List.set_cons_succ, h3] at hK ⊢
      obtain ⟨bl, Al, nl, cl, k0, k1, kz⟩ := (I2.out.2.ext (by omega) ex)
      go_simp
      exact hK.out _ _ ⟨_, _, _, _, rfl, kz⟩ (Ext.refl _) (fun b hb => by cases hb)
    refine Steps.cons (RZ (vy)) [4, 2] rfl (by kernel_rfl) rfl (by kernel_rfl) (fun y X ex0 hf K hK => ?_) ?_
    · obtain ⟨b4, A4, n4, c4, h4, z4⟩ : ((RZ (vy))) (y 4) X := hf.1
      obtain ⟨b2, A2, n2, c2, h2, z2⟩ : ((RZ (vx))) (y 2) X := hf.2.1
      clear hf
      have ex := (Ext.drw (Ext.refl _)).trans ex0
      refine Box.mk ?_
      simp only [fill, Act.put, Nat.reduceAdd, List.setIfInBounds_toArray, List.set_cons_zero, List.set_cons_succ, h4, h2] at hK ⊢
      go_simp
      refine (asAgg ((wholeOf_any _ _ _ _ _).mono fun e w' ⟨he, hb⟩ => ⟨_, he, (z4).ext hb, hb⟩)).mono ?_
      rintro e V ⟨b9, A9, n9, c9, rfl, hz, hb⟩
      try go_wp2_with fail
      exact hK.out _ _ ⟨_, _, _, _, rfl, hz⟩ hb (fun b hb => by cases hb)
    refine Steps.cons (RF2 (vx) (vy)) [2, 5] rfl (by kernel_rfl) rfl (by kernel_rfl) (fun y X ex0 hf K hK => ?_) ?_
    · obtain ⟨b2, A2, n2, c2, h2, z2⟩ : ((RZ (vx))) (y 2) X := hf.1
      obtain ⟨b5, A5, n5, c5, h5, z5⟩ : ((RZ (vy))) (y 5) X := hf.2.1
      clear hf
      have ex := (Ext.drw (Ext.refl _)).trans ex0
      refine Box.mk ?_
      simp only [fill, Act.put, Nat.reduceAdd, List.setIfInBounds_toArray, List.set_cons_zero, List.set_cons_succ, h2, h5] at hK ⊢
      go_simp
      exact hK.out _ _ ⟨_, _, _, _, _, _, _, _, rfl, z2, z5⟩ (Ext.refl _) (fun b hb => by cases hb)
    exact Steps.nil
  case done =>
    intro y X ex hf hlt hsep
    have h0 : ((fun (v : Value) (_ : World) => v = .pointer (some ⟨w.heap.size, 0, none⟩))) (y 0) X := hf.1
    obtain ⟨b1, A1, n1, c1, h1, z1⟩ : ((RZ (vx))) (y 1) X := hf.2.1
    obtain ⟨b2, A2, n2, c2, h2, z2⟩ : ((RZ (vx))) (y 2) X := hf.2.2.1
    have h3 : ((fun (v : Value) (_ : World) => v = .pointer (some ⟨w.heap.size, 2, none⟩))) (y 3) X := hf.2.2.2.1
    obtain ⟨b4, A4, n4, c4, h4, z4⟩ : ((RZ (vy))) (y 4) X := hf.2.2.2.2.1
    obtain ⟨b5, A5, n5, c5, h5, z5⟩ : ((RZ (vy))) (y 5) X := hf.2.2.2.2.2.1
    obtain ⟨b6, A6, n6, c6, bb6, AA6, nn6, cc6, h6, z6, y6⟩ : ((RF2 (vx) (vy))) (y 6) X := hf.2.2.2.2.2.2.1
    clear hf
    clear hsep hlt
    refine Box.mk ?_
    simp only [List.drop_succ_cons, List.drop_zero, fill, Act.put, Nat.reduceAdd, List.setIfInBounds_toArray, List.set_cons_zero, List.set_cons_succ, h0, h1, h2, h3, h4, h5, h6]
    clear h0 h1 h2 h3 h4 h5 h6
    have r4 := R4.out.ext ex
    obtain ⟨_, _, _, _, k40, k41, k42, k43, k44, k45, k46, k47⟩ := put4_walk r4 (.bool b6) (.slice A6 n6 c6) (.bool bb6)
    obtain ⟨W', hW'⟩ : ∃ W', W' = put4 X (w.heap.size + 1) (.bool b6) (.slice A6 n6 c6) (.bool bb6) (.slice AA6 nn6 cc6) := ⟨_, rfl⟩
    obtain ⟨f0, f1, f2, f3⟩ := put4_cells r4 (.bool b6) (.slice A6 n6 c6) (.bool bb6) (.slice AA6 nn6 cc6)
    have hz1 := (z6).put4 r4 (.bool b6) (.slice A6 n6 c6) (.bool bb6) (.slice AA6 nn6 cc6)
    rw [← hW'] at hz1
    have hz2 := (y6).put4 r4 (.bool b6) (.slice A6 n6 c6) (.bool bb6) (.slice AA6 nn6 cc6)
    rw [← hW'] at hz2
    have hbf : Below w.heap.size w W' := by rw [hW']; exact put4_below (Ext.below (E1.out.trans ex)) (by omega) (.bool b6) (.slice A6 n6 c6) (.bool bb6) (.slice AA6 nn6 cc6)
    rw [← hW'] at f0 f1 f2 f3
    unfold put4 at hW'
    have HG := Lib.hid (And.intro hz1 (And.intro hz2 (And.intro hbf (And.intro f0 (And.intro f1 (And.intro f2 f3))))))
    have HW' := Lib.hid hW'
    clear hz1 hz2 hbf f0 f1 f2 f3 hW' ex z1 z2 z4 z5 z6 y6 r4
    go_wp2_with fail
    refine NoPanic.normal ?_
    go_wp2
    rw [← HW'.out]
    obtain ⟨hz1, hz2, hbf, f0, f1, f2, f3⟩ := HG.out
    exact bodyPost_ret (v := .agg #[.bool b6, .slice A6 n6 c6, .bool bb6, .slice AA6 nn6 cc6]) (by simp [results, Tryz.results46, go_sem, f0, f1, f2, f3]) rfl ⟨_, _, _, _, _, _, _, _, rfl, hz1, hz2, hbf⟩
set_option maxHeartbeats 800000 in
set_option maxRecDepth 100000 in
theorem ratOf_any (vx vy : Int) (v : Value) (w : World) (hf : FV w v vx vy) (lx : (dig vx.natAbs).length ≤ 1000000) (ly : (dig vy.natAbs).length ≤ 1000000) :
    Calls Tryz.prog 64 #[v] w (RetF w vx vy) := by
  obtain ⟨p1, P1, m1, d1, p2, P2, m2, d2, rfl, hz1, hz2⟩ := hf
  obtain ⟨W1, hW1⟩ : ∃ W1, W1 = (w.alloc (.cells #[.bool p1, .slice P1 m1 d1, .bool p2, .slice P2 m2 d2] 72)).alloc (.cells #[.bool false, .slice none 0 0, .bool false, .slice none 0 0] 26) := ⟨_, rfl⟩
  have e1 : Ext w W1 := by rw [hW1]; exact ((Ext.refl w).alc _).alc _
  have i2 : HF W1 w.heap.size vx vy := by rw [hW1]; exact (HF.new w p1 P1 m1 d1 p2 P2 m2 d2 72 hz1 hz2).ext ((Ext.refl _).alc _)
  have r4 : FB W1 (w.heap.size + 1) := by
    have := FB.new (w.alloc (.cells #[.bool p1, .slice P1 m1 d1, .bool p2, .slice P2 m2 d2] 72)) false none 0 0 false none 0 0 26
    rw [World.size_alloc] at this
    rw [hW1]; exact this
  have I2 := Lib.hid i2; have R4 := Lib.hid r4; have E1 := Lib.hid e1; have HW1 := Lib.hid hW1
  clear i2 r4 e1 hW1 hz1 hz2
  go_enter Tryz.func64, Tryz.ntmps64
  go_upto_region 1 with fail
  rw [← HW1.out]
  clear HW1
  have lg := R4.out.lt
  refine wp_region_noPanic ?_
  refine wp_pool 7 [some 3, some 4, some 5, some 6, some 7, some 8, some 9] [] [] [(fun (v : Value) (_ : World) => v = .pointer (some ⟨w.heap.size, 0, none⟩)), (RZ (vx)), (RZ (vx)), (fun (v : Value) (_ : World) => v = .pointer (some ⟨w.heap.size, 2, none⟩)), (RZ (vy)), (RZ (vy)), (RF2 (vx) (vy))] [noF, noF, noF, noF, noF, noF, noF] (by kernel_rfl) (by kernel_rfl) (by kernel_rfl) (by kernel_rfl) (by kernel_rfl) (by kernel_rfl) (by kernel_rfl) (by kernel_rfl) (fun _ _ _ _ h => h) ⟨Stays.pure _, (fun _ _ _ e ⟨b, A, n, c, h1, h2⟩ => ⟨b, A, n, c, h1, h2.ext e⟩), (fun _ _ _ e ⟨b, A, n, c, h1, h2⟩ => ⟨b, A, n, c, h1, h2.ext e⟩), Stays.pure _, (fun _ _ _ e ⟨b, A, n, c, h1, h2⟩ => ⟨b, A, n, c, h1, h2.ext e⟩), (fun _ _ _ e ⟨b, A, n, c, h1, h2⟩ => ⟨b, A, n, c, h1, h2.ext e⟩), (fun _ _ _ e ⟨b, A, n, c, b', A', n', c', h1, h2, h3⟩ => ⟨b, A, n, c, b', A', n', c', h1, h2.ext e, h3.ext e⟩), True.intro⟩ ?steps ?done
  case steps =>
    simp only [List.take_succ_cons, List.take_zero]
    refine Steps.cons (fun (v : Value) (_ : World) => v = .pointer (some ⟨w.heap.size, 0, none⟩)) [] rfl (by kernel_rfl) rfl (by kernel_rfl) (fun y X ex0 hf K hK => ?_) ?_
    · clear hf
      have ex := (Ext.drw (Ext.refl _)).trans ex0
      refine Box.mk ?_
      simp only [fill, Act.put, Nat.reduceAdd, List.setIfInBounds_toArray, List.set_cons_zero, List.set_cons_succ] at hK ⊢
      go_simp
      exact hK.out _ _ rfl (Ext.refl _) (fun b hb => by cases hb)
    refine Steps.cons (RZ (vx)) [0] rfl (by kernel_rfl) rfl (by kernel_rfl) (fun y X ex0 hf K hK => ?_) ?_
    · have h0 : ((fun (v : Value) (_ : World) => v = .pointer (some ⟨w.heap.size, 0, none⟩))) (y 0) X := hf.1
      clear hf
      have ex := (Ext.drw (Ext.refl _)).trans ex0
      refine Box.mk ?_
      simp only [fill, Act.put, Nat.reduceAdd, List.setIfInBounds_toArray, List.set_cons_zero, List.set_cons_succ, h0] at hK ⊢
      obtain ⟨bl, Al, nl, cl, k0, k1, kz⟩ := (I2.out.1.ext (by omega) ex)
      go_simp
      exact hK.out _ _ ⟨_, _, _, _, rfl, kz⟩ (Ext.refl _) (fun b hb => by cases hb)
    refine Steps.cons (RZ (vx)) [1] rfl (by kernel_rfl) rfl (by kernel_rfl) (fun y X ex0 hf K hK => ?_) ?_
    · obtain ⟨b1, A1, n1, c1, h1, z1⟩ : ((RZ (vx))) (y 1) X := hf.1
      clear hf
      have ex := (Ext.drw (Ext.refl _)).trans ex0
      refine Box.mk ?_
      simp only [fill, Act.put, Nat.reduceAdd, List.setIfInBounds_toArray, List.set_cons_zero, List.set_cons_succ, h1] at hK ⊢
      go_simp
      refine (asAgg (intOf_any _ _ _ z1 lx)).mono ?_
      rintro e V ⟨b9, A9, n9, c9, rfl, hz, hb⟩
      try go_wp2_with fail
      exact hK.out _ _ ⟨_, _, _, _, rfl, hz⟩ hb (fun b hb => by cases hb)
    refine Steps.cons (fun (v : Value) (_ : World) => v = .pointer (some ⟨w.heap.size, 2, none⟩)) [] rfl (by kernel_rfl) rfl (by kernel_rfl) (fun y X ex0 hf K hK => ?_) ?_
    · clear hf
      have ex := (Ext.drw (Ext.refl _)).trans ex0
      refine Box.mk ?_
      simp only [fill, Act.put, Nat.reduceAdd, List.setIfInBounds_toArray, List.set_cons_zero, List.set_cons_succ] at hK ⊢
      go_simp
      exact hK.out _ _ rfl (Ext.refl _) (fun b hb => by cases hb)
    refine Steps.cons (RZ (vy)) [3] rfl (by kernel_rfl) rfl (by kernel_rfl) (fun y X ex0 hf K hK => ?_) ?_
    · have h3 : ((fun (v : Value) (_ : World) => v = .pointer (some ⟨w.heap.size, 2, none⟩))) (y 3) X := hf.1
      clear hf
      have ex := (Ext.drw (Ext.refl _)).trans ex0
      refine Box.mk ?_
      simp only [fill, Act.put, Nat.reduceAdd, List.setIfInBounds_toArray, List.set_cons_zero, List.set_cons_succ, h3] at hK ⊢
      obtain ⟨bl, Al, nl, cl, k0, k1, kz⟩ := (I2.out.2.ext (by omega) ex)
      go_simp
      exact hK.out _ _ ⟨_, _, _, _, rfl, kz⟩ (Ext.refl _) (fun b hb => by cases hb)
    refine Steps.cons (RZ (vy)) [4, 2] rfl (by kernel_rfl) rfl (by kernel_rfl) (fun y X ex0 hf K hK => ?_) ?_
    · obtain ⟨b4, A4, n4, c4, h4, z4⟩ : ((RZ (vy))) (y 4) X := hf.1
      obtain ⟨b2, A2, n2, c2, h2, z2⟩ : ((RZ (vx))) (y 2) X := hf.2.1
      clear hf
      have ex := (Ext.drw (Ext.refl _)).trans ex0
      refine Box.mk ?_
      simp only [fill, Act.put, Nat.reduceAdd, List.setIfInBounds_toArray, List.set_cons_zero, List.set_cons_succ, h4, h2] at hK ⊢
      go_simp
      refine (asAgg (intOf_any _ _ _ z4 ly)).mono ?_
      rintro e V ⟨b9, A9, n9, c9, rfl, hz, hb⟩
      try go_wp2_with fail
      exact hK.out _ _ ⟨_, _, _, _, rfl, hz⟩ hb (fun b hb => by cases hb)
    refine Steps.cons (RF2 (vx) (vy)) [2, 5] rfl (by kernel_rfl) rfl (by kernel_rfl) (fun y X ex0 hf K hK => ?_) ?_
    · obtain ⟨b2, A2, n2, c2, h2, z2⟩ : ((RZ (vx))) (y 2) X := hf.1
      obtain ⟨b5, A5, n5, c5, h5, z5⟩ : ((RZ (vy))) (y 5) X := hf.2.1
      clear hf
      have ex := (Ext.drw (Ext.refl _)).trans ex0
      refine Box.mk ?_
      simp only [fill, Act.put, Nat.reduceAdd, List.setIfInBounds_toArray, List.set_cons_zero, List.set_cons_succ, h2, h5] at hK ⊢
      go_simp
      exact hK.out _ _ ⟨_, _, _, _, _, _, _, _, rfl, z2, z5⟩ (Ext.refl _) (fun b hb => by cases hb)
    exact Steps.nil
  case done =>
    intro y X ex hf hlt hsep
    have h0 : ((fun (v : Value) (_ : World) => v = .pointer (some ⟨w.heap.size, 0, none⟩))) (y 0) X := hf.1
    obtain ⟨b1, A1, n1, c1, h1, z1⟩ : ((RZ (vx))) (y 1) X := hf.2.1
    obtain ⟨b2, A2, n2, c2, h2, z2⟩ : ((RZ (vx))) (y 2) X := hf.2.2.1
    have h3 : ((fun (v : Value) (_ : World) => v = .pointer (some ⟨w.heap.size, 2, none⟩))) (y 3) X := hf.2.2.2.1
    obtain ⟨b4, A4, n4, c4, h4, z4⟩ : ((RZ (vy))) (y 4) X := hf.2.2.2.2.1
    obtain ⟨b5, A5, n5, c5, h5, z5⟩ : ((RZ (vy))) (y 5) X := hf.2.2.2.2.2.1
    obtain ⟨b6, A6, n6, c6, bb6, AA6, nn6, cc6, h6, z6, y6⟩ : ((RF2 (vx) (vy))) (y 6) X := hf.2.2.2.2.2.2.1
    clear hf
    clear hsep hlt
    refine Box.mk ?_
    simp only [List.drop_succ_cons, List.drop_zero, fill, Act.put, Nat.reduceAdd, List.setIfInBounds_toArray, List.set_cons_zero, List.set_cons_succ, h0, h1, h2, h3, h4, h5, h6]
    clear h0 h1 h2 h3 h4 h5 h6
    have r4 := R4.out.ext ex
    obtain ⟨_, _, _, _, k40, k41, k42, k43, k44, k45, k46, k47⟩ := put4_walk r4 (.bool b6) (.slice A6 n6 c6) (.bool bb6)
    obtain ⟨W', hW'⟩ : ∃ W', W' = put4 X (w.heap.size + 1) (.bool b6) (.slice A6 n6 c6) (.bool bb6) (.slice AA6 nn6 cc6) := ⟨_, rfl⟩
    obtain ⟨f0, f1, f2, f3⟩ := put4_cells r4 (.bool b6) (.slice A6 n6 c6) (.bool bb6) (.slice AA6 nn6 cc6)
    have hz1 := (z6).put4 r4 (.bool b6) (.slice A6 n6 c6) (.bool bb6) (.slice AA6 nn6 cc6)
    rw [← hW'] at hz1
    have hz2 := (y6).put4 r4 (.bool b6) (.slice A6 n6 c6) (.bool bb6) (.slice AA6 nn6 cc6)
    rw [← hW'] at hz2
    have hbf : Below w.heap.size w W' := by rw [hW']; exact put4_below (Ext.below (E1.out.trans ex)) (by omega) (.bool b6) (.slice A6 n6 c6) (.bool bb6) (.slice AA6 nn6 cc6)
    rw [← hW'] at f0 f1 f2 f3
    unfold put4 at hW'
    have HG := Lib.hid (And.intro hz1 (And.intro hz2 (And.intro hbf (And.intro f0 (And.intro f1 (And.intro f2 f3))))))
    have HW' := Lib.hid hW'
    clear hz1 hz2 hbf f0 f1 f2 f3 hW' ex z1 z2 z4 z5 z6 y6 r4
    go_wp2_with fail
    refine NoPanic.normal ?_
    go_wp2
    rw [← HW'.out]
    obtain ⟨hz1, hz2, hbf, f0, f1, f2, f3⟩ := HG.out
    exact bodyPost_ret (v := .agg #[.bool b6, .slice A6 n6 c6, .bool bb6, .slice AA6 nn6 cc6]) (by simp [results, Tryz.results64, go_sem, f0, f1, f2, f3]) rfl ⟨_, _, _, _, _, _, _, _, rfl, hz1, hz2, hbf⟩
end Go.Proofs.YtmlopkkbgpfdnabGreat
