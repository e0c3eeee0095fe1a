/- A block that holds a sign and words, kept over what follows. (L4 has the same words: never import both.) -/
import Derived.Test.YtmlopkkbgpfdnaaW13
namespace Go.Proofs.Ytmlopkkbgpfdnaa
open Go.RowKit

/-- block g holds a struct of the sign p and the words l -/
structure HW (W : World) (g : Nat) (p : Bool) (A : Option Addr) (n c : Nat) (l : List Nat) : Prop where
  r : RB W g
  c0 : W.cell? ⟨g, 0, none⟩ = some (.bool p)
  c1 : W.cell? ⟨g, 1, none⟩ = some (.slice A n c)
  w : Wd W (.slice A n c) l

section
variable {W W' : World} {g h : Nat} {p : Bool} {A : Option Addr} {n c : Nat} {l : List Nat}
theorem HW.next (H : HW W g p A n c l) (hb : Below W.heap.size W W') : HW W' g p A n c l :=
  ⟨H.r.below hb H.r.lt, keepAt hb H.r.lt H.c0, keepAt hb H.r.lt H.c1, H.w.below hb⟩
theorem HW.alloc (H : HW W g p A n c l) (o : Obj) : HW (W.alloc o) g p A n c l := H.next (below1 _ _)
theorem HW.far (H : HW W g p A n c l) (r : RB W h) (hne : g ≠ h) (u v : Value) : HW ((W.setCell ⟨h, 0, none⟩ u).setCell ⟨h, 1, none⟩ v) g p A n c l :=
  ⟨H.r.far r hne u v, (far2 hne).trans H.c0, (far2 hne).trans H.c1, H.w.rb r u v⟩
theorem HW.new (W : World) (p : Bool) (A : Option Addr) (n c : Nat) (l : List Nat) (t : TypeId) (hw : Wd W (.slice A n c) l) : HW (W.alloc (.cells #[.bool p, .slice A n c] t)) W.heap.size p A n c l :=
  ⟨RB.c1 W p A n c t, by rw [World.cell?_alloc_new]; rfl, by rw [World.cell?_alloc_new]; rfl, hw.below (below1 _ _)⟩
theorem HW.set (r : RB W g) (p : Bool) (A : Option Addr) (n c : Nat) (l : List Nat) (hw : Wd W (.slice A n c) l) : HW ((W.setCell ⟨g, 0, none⟩ (.bool p)).setCell ⟨g, 1, none⟩ (.slice A n c)) g p A n c l :=
  ⟨r.set p A n c, r.set0 p _, r.set1 p _, hw.rb r _ _⟩
end

theorem ZV.words {W : World} {b : Bool} {A : Option Addr} {n c : Nat} {z : Int} (h : ZV W (.agg #[.bool b, .slice A n c]) z) : b = decide (z < 0) ∧ Wd W (.slice A n c) (dig z.natAbs) := by
  obtain ⟨v, he, hv⟩ := h
  injection he with he
  have e0 : (.bool b : Value) = .bool (decide (z < 0)) := by
    have := congrArg (fun a : Array Value => a[0]?) he
    simpa using this
  have e1 : (.slice A n c : Value) = v := by
    have := congrArg (fun a : Array Value => a[1]?) he
    simpa using this
  refine ⟨?_, by rw [e1]; exact hv⟩
  injection e0


/-- what Div answers -/
def divQ (p q : Bool) (l l' : List Nat) : Int := if (vld p l && vld q l') = true then (if numOf q l' = 0 then 0 else numOf p l / numOf q l') else 0
def divR (p q : Bool) (l l' : List Nat) : Int := if (vld p l && vld q l') = true then (if numOf q l' = 0 then 0 else numOf p l % numOf q l') else 0
def divE (p q : Bool) (l l' : List Nat) : Int := if (vld p l && vld q l') = true then (if numOf q l' = 0 then 4 else 0) else 2

def RetDiv (w : World) (y z er : Int) (e : Ending) (w' : World) : Prop := ∃ b A n c b' A' n' c', e = .returned (.tuple #[.agg #[.bool b, .slice A n c], .agg #[.bool b', .slice A' n' c'], .int .i64 er]) ∧ ZV w' (.agg #[.bool b, .slice A n c]) y ∧ ZV w' (.agg #[.bool b', .slice A' n' c']) z ∧ Below w.heap.size w w'

end Go.Proofs.Ytmlopkkbgpfdnaa
