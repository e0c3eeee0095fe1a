/- Worlds that only grow: for regions that draw the order of calls and new blocks. -/
import Derived.Test.YtmlopkkbgpfdnaaH1
namespace Go.Proofs.Ytmlopkkbgpfdnaa
open Go.RowKit

/-- Y is X and more -/
def Ext (X Y : World) : Prop := Below X.heap.size X Y
theorem Ext.of {X Y : World} (h : Below X.heap.size X Y) : Ext X Y := h
theorem Ext.below {X Y : World} (h : Ext X Y) : Below X.heap.size X Y := h
theorem Ext.refl (X : World) : Ext X X := Below.refl _ _
theorem Ext.drew (X : World) : Ext X X.drew := (Below.refl _ _).drew
theorem Ext.drw {X Y : World} (h : Ext X Y) : Ext X Y.drew := Below.drew (B := X.heap.size) h
theorem Ext.trans {X Y Z : World} (h : Ext X Y) (k : Ext Y Z) : Ext X Z := Below.trans (B := X.heap.size) h (Below.mono k (Below.size h))
theorem Ext.alc {X Y : World} (h : Ext X Y) (o : Obj) : Ext X (Y.alloc o) := Below.alloc (B := X.heap.size) h (Below.size h) o
theorem Ext.sc {X Y : World} (h : Ext X Y) {g i : Nat} {v : Value} (hg : X.heap.size ≤ g) : Ext X (Y.setCell ⟨g, i, none⟩ v) := Below.setCell (B := X.heap.size) h (p := ⟨g, i, none⟩) hg v
theorem Ext.size {X Y : World} (h : Ext X Y) : X.heap.size ≤ Y.heap.size := Below.size h
theorem RB.ext {X Y : World} {g : Nat} (r : RB X g) (h : Ext X Y) : RB Y g := r.below h r.lt
theorem ZV.ext {X Y : World} {a : Value} {z : Int} (r : ZV X a z) (h : Ext X Y) : ZV Y a z := r.below h
theorem HW.ext {X Y : World} {g : Nat} {p : Bool} {A : Option Addr} {n c : Nat} {l : List Nat} (r : HW X g p A n c l) (h : Ext X Y) : HW Y g p A n c l := r.next h
theorem RB.extAt {X Y : World} {g : Nat} (r : RB X g) (h : Ext X Y) (g' : Nat) (e : g' = g) : RB Y g' := by subst e; exact r.ext h

/-- block g holds a struct that stands for z -/
def HZ (W : World) (g : Nat) (z : Int) : Prop := ∃ b A n c, W.cell? ⟨g, 0, none⟩ = some (.bool b) ∧ W.cell? ⟨g, 1, none⟩ = some (.slice A n c) ∧ ZV W (.agg #[.bool b, .slice A n c]) z

/-- two results in two new blocks of the last steps -/
theorem hz_new (X : World) (b1 : Bool) (A1 : Option Addr) (n1 c1 : Nat) (b2 : Bool) (A2 : Option Addr) (n2 c2 : Nat) (t : TypeId) {z1 z2 : Int}
    (h1 : ZV X (.agg #[.bool b1, .slice A1 n1 c1]) z1) (h2 : ZV X (.agg #[.bool b2, .slice A2 n2 c2]) z2) :
    HZ ((X.alloc (.cells #[.bool b1, .slice A1 n1 c1] t)).alloc (.cells #[.bool b2, .slice A2 n2 c2] t)) X.heap.size z1 ∧ HZ ((X.alloc (.cells #[.bool b1, .slice A1 n1 c1] t)).alloc (.cells #[.bool b2, .slice A2 n2 c2] t)) (X.heap.size + 1) z2 :=
  ⟨⟨b1, A1, n1, c1, by rw [World.cell?_alloc_past _ _ _ (by simp), World.cell?_alloc_new]; rfl, by rw [World.cell?_alloc_past _ _ _ (by simp), World.cell?_alloc_new]; rfl, (h1.below (below1 _ _)).below (below1 _ _)⟩,
   ⟨b2, A2, n2, c2, by rw [World.cell?_alloc_at _ _ _ _ (by simp)]; rfl, by rw [World.cell?_alloc_at _ _ _ _ (by simp)]; rfl, (h2.below (below1 _ _)).below (below1 _ _)⟩⟩

theorem HZ.ext {X Y : World} {g : Nat} {z : Int} (h : HZ X g z) (hg : g < X.heap.size) (e : Ext X Y) : HZ Y g z := by
  obtain ⟨b, A, n, c, h0, h1, h2⟩ := h
  exact ⟨b, A, n, c, keepAt e hg h0, keepAt e hg h1, h2.ext e⟩
theorem HZ.put {X : World} {g : Nat} {z : Int} (r : RB X g) {b : Bool} {A : Option Addr} {n c : Nat} (h : ZV X (.agg #[.bool b, .slice A n c]) z) : HZ ((X.setCell ⟨g, 0, none⟩ (.bool b)).setCell ⟨g, 1, none⟩ (.slice A n c)) g z :=
  ⟨b, A, n, c, r.set0 _ _, r.set1 _ _, h.rb r _ _⟩
theorem HZ.far {X : World} {g h : Nat} {z : Int} (H : HZ X g z) (r : RB X h) (hne : g ≠ h) (u v : Value) : HZ ((X.setCell ⟨h, 0, none⟩ u).setCell ⟨h, 1, none⟩ v) g z := by
  obtain ⟨b, A, n, c, h0, h1, h2⟩ := H
  exact ⟨b, A, n, c, (far2 hne).trans h0, (far2 hne).trans h1, h2.rb r _ _⟩
theorem HZ.lit (X : World) (b : Bool) (A : Option Addr) (n c : Nat) (t : TypeId) {z : Int} (h : ZV X (.agg #[.bool b, .slice A n c]) z) : HZ (X.alloc (.cells #[.bool b, .slice A n c] t)) X.heap.size z :=
  ⟨b, A, n, c, by rw [World.cell?_alloc_new]; rfl, by rw [World.cell?_alloc_new]; rfl, h.below (below1 _ _)⟩
theorem HZ.lt {X : World} {g : Nat} {z : Int} (H : HZ X g z) : g < X.heap.size := by
  obtain ⟨b, A, n, c, h0, -, -⟩ := H
  exact World.block_lt_of_cell? X ⟨g, 0, none⟩ h0

/-- behind a call with two struct results: two blocks hold them -/
def DivCut (w : World) (z1 z2 : Int) (g3 g4 : Nat) (a b : Value) (wx : World) : Prop :=
  ∃ g8 g9, a = .pointer (some ⟨g8, 0, none⟩) ∧ b = .pointer (some ⟨g9, 0, none⟩) ∧ HZ wx g8 z1 ∧ HZ wx g9 z2 ∧ RB wx g3 ∧ RB wx g4 ∧ Below w.heap.size w wx ∧ (g8 ≠ g3 ∧ g8 ≠ g4 ∧ g9 ≠ g3 ∧ g9 ≠ g4)

/-- the world behind the call -/
structure TwoZ (w X : World) (z1 z2 : Int) (g3 g4 B : Nat) (b1 : Bool) (A1 : Option Addr) (n1 c1 : Nat) (b2 : Bool) (A2 : Option Addr) (n2 c2 : Nat) : Prop where
  v1 : ZV X (.agg #[.bool b1, .slice A1 n1 c1]) z1
  v2 : ZV X (.agg #[.bool b2, .slice A2 n2 c2]) z2
  r3 : RB X g3
  r4 : RB X g4
  hb : Below w.heap.size w X
  l3 : g3 < B
  l4 : g4 < B
  lB : w.heap.size ≤ B

section
variable {w X : World} {z1 z2 : Int} {g3 g4 B : Nat} {b1 : Bool} {A1 : Option Addr} {n1 c1 : Nat} {b2 : Bool} {A2 : Option Addr} {n2 c2 : Nat} {t : TypeId}
theorem TwoZ.new (T : TwoZ w X z1 z2 g3 g4 B b1 A1 n1 c1 b2 A2 n2 c2) :
    DivCut w z1 z2 g3 g4 (.pointer (some ⟨X.heap.size, 0, none⟩)) (.pointer (some ⟨X.heap.size + 1, 0, none⟩)) ((X.alloc (.cells #[.bool b1, .slice A1 n1 c1] t)).alloc (.cells #[.bool b2, .slice A2 n2 c2] t)) := by
  obtain ⟨h1, h2⟩ := hz_new X b1 A1 n1 c1 b2 A2 n2 c2 t T.v1 T.v2
  exact ⟨_, _, rfl, rfl, h1, h2, T.r3.ext (((Ext.refl X).alc _).alc _), T.r4.ext (((Ext.refl X).alc _).alc _), T.hb.trans (Below.mono (((Ext.refl X).alc _).alc _) T.hb.size), by have := T.r3.lt; have := T.r4.lt; omega⟩
theorem TwoZ.new' (T : TwoZ w X z1 z2 g3 g4 B b1 A1 n1 c1 b2 A2 n2 c2) :
    DivCut w z1 z2 g3 g4 (.pointer (some ⟨X.heap.size + 1, 0, none⟩)) (.pointer (some ⟨X.heap.size, 0, none⟩)) ((X.alloc (.cells #[.bool b2, .slice A2 n2 c2] t)).alloc (.cells #[.bool b1, .slice A1 n1 c1] t)) := by
  obtain ⟨h1, h2⟩ := hz_new X b2 A2 n2 c2 b1 A1 n1 c1 t T.v2 T.v1
  exact ⟨_, _, rfl, rfl, h2, h1, T.r3.ext (((Ext.refl X).alc _).alc _), T.r4.ext (((Ext.refl X).alc _).alc _), T.hb.trans (Below.mono (((Ext.refl X).alc _).alc _) T.hb.size), by have := T.r3.lt; have := T.r4.lt; omega⟩
theorem TwoZ.mix (T : TwoZ w X z1 z2 g3 g4 B b1 A1 n1 c1 b2 A2 n2 c2) {g : Nat} (r : RB X g) (hg : B ≤ g) :
    DivCut w z1 z2 g3 g4 (.pointer (some ⟨g, 0, none⟩)) (.pointer (some ⟨X.heap.size, 0, none⟩)) (((X.setCell ⟨g, 0, none⟩ (.bool b1)).setCell ⟨g, 1, none⟩ (.slice A1 n1 c1)).alloc (.cells #[.bool b2, .slice A2 n2 c2] t)) := by
  have h1 := HZ.put r T.v1
  have h2 := T.v2.rb r (.bool b1) (.slice A1 n1 c1)
  have hl := HZ.lit _ b2 A2 n2 c2 t h2
  have hs : ((X.setCell ⟨g, 0, none⟩ (.bool b1)).setCell ⟨g, 1, none⟩ (.slice A1 n1 c1)).heap.size = X.heap.size := by simp [World.setCell]
  rw [hs] at hl
  have e := (Ext.refl ((X.setCell ⟨g, 0, none⟩ (.bool b1)).setCell ⟨g, 1, none⟩ (.slice A1 n1 c1))).alc (.cells #[.bool b2, .slice A2 n2 c2] t)
  have hb := below_set2 (i := 0) (j := 1) T.hb (Nat.le_trans T.lB hg) (.bool b1) (.slice A1 n1 c1)
  exact ⟨_, _, rfl, rfl, h1.ext h1.lt e, hl, (T.r3.far r (by have := T.l3; omega) _ _).ext e, (T.r4.far r (by have := T.l4; omega) _ _).ext e, hb.trans (Below.mono e hb.size), by have := T.r3.lt; have := T.r4.lt; have := T.l3; have := T.l4; omega⟩
theorem TwoZ.mix' (T : TwoZ w X z1 z2 g3 g4 B b1 A1 n1 c1 b2 A2 n2 c2) {g : Nat} (r : RB X g) (hg : B ≤ g) :
    DivCut w z1 z2 g3 g4 (.pointer (some ⟨X.heap.size, 0, none⟩)) (.pointer (some ⟨g, 0, none⟩)) (((X.setCell ⟨g, 0, none⟩ (.bool b2)).setCell ⟨g, 1, none⟩ (.slice A2 n2 c2)).alloc (.cells #[.bool b1, .slice A1 n1 c1] t)) := by
  have T' : TwoZ w X z2 z1 g3 g4 B b2 A2 n2 c2 b1 A1 n1 c1 := ⟨T.v2, T.v1, T.r3, T.r4, T.hb, T.l3, T.l4, T.lB⟩
  obtain ⟨_, _, e1, e2, h1, h2, h3, h4, h5, h6, h7, h8, h9⟩ := T'.mix (t := t) r hg
  exact ⟨_, _, e2, e1, h2, h1, h3, h4, h5, h8, h9, h6, h7⟩
theorem TwoZ.old (T : TwoZ w X z1 z2 g3 g4 B b1 A1 n1 c1 b2 A2 n2 c2) {g h : Nat} (r : RB X g) (s : RB X h) (hne : h ≠ g) (hg : B ≤ g) (hh : B ≤ h) :
    DivCut w z1 z2 g3 g4 (.pointer (some ⟨g, 0, none⟩)) (.pointer (some ⟨h, 0, none⟩)) ((((X.setCell ⟨g, 0, none⟩ (.bool b1)).setCell ⟨g, 1, none⟩ (.slice A1 n1 c1)).setCell ⟨h, 0, none⟩ (.bool b2)).setCell ⟨h, 1, none⟩ (.slice A2 n2 c2)) := by
  have h1 := HZ.put r T.v1
  have s' := s.far r hne (.bool b1) (.slice A1 n1 c1)
  have h2 := HZ.put s' (T.v2.rb r (.bool b1) (.slice A1 n1 c1))
  exact ⟨_, _, rfl, rfl, h1.far s' (by omega) _ _, h2, (T.r3.far r (by have := T.l3; omega) _ _).far s' (by have := T.l3; omega) _ _, (T.r4.far r (by have := T.l4; omega) _ _).far s' (by have := T.l4; omega) _ _, below_set2 (below_set2 T.hb (Nat.le_trans T.lB hg) _ _) (Nat.le_trans T.lB hh) _ _, by have := T.l3; have := T.l4; omega⟩
end
end Go.Proofs.Ytmlopkkbgpfdnaa
