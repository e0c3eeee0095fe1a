/- The ground of the walks: worlds that only grow; drawn regions in two parts. -/
import Derived.Test.YtilcbbdmenknfaaProg
import Derived.Test.YtilcbbdmenknfaaX16
import Derived.Test.YtilcbbdmenknfaaCu
import Derived.WalkKit
import Derived.WalkLawsBesides
import Derived.WalkSpells
import Derived.Outline
import Derived.BigGuardPart
import Derived.Lib.Hide
import Derived.IntWalk
import Derived.Deep.QuietTactic
import Derived.BigQuiet
import Derived.StillTailTactics
import Derived.Deep.RegionHeld3
import Derived.Deep.DeepCutAuto
import Derived.OwnWalk
import Derived.ArgAppend
namespace Go.Proofs.Ytilcbbdmenknfaa
open Go.RowKit

theorem Below.toDrewN {B : Nat} {W w1 : World} (h : Below B W w1) (k : Nat) : Below B W (w1.drewN k) := ⟨h.os, h.tape, h.output, h.size, h.block⟩
theorem Below.unDrewN {B k : Nat} {W w1 : World} (h : Below B (W.drewN k) w1) : Below B W w1 := ⟨h.os, h.tape, h.output, h.size, h.block⟩
theorem Below.unDrew {B : Nat} {W w1 : World} (h : Below B W.drew w1) : Below B W w1 := ⟨h.os, h.tape, h.output, h.size, h.block⟩
theorem keepAt {B : Nat} {W w1 : World} {g i : Nat} {v : Value} (hb : Below B W w1) (hg : g < B) (h : W.cell? ⟨g, i, none⟩ = some v) : w1.cell? ⟨g, i, none⟩ = some v := (hb.cell (p := ⟨g, i, none⟩) hg).trans h
theorem below1 (w : World) (o : Obj) : Below w.heap.size w (w.alloc o) := (Below.refl _ _).alloc (Nat.le_refl _) _
theorem bcell {B : Nat} {W w1 : World} (hb : Below B W w1) : (∀ b o, b < B → w1.cell? ⟨b, o, none⟩ = W.cell? ⟨b, o, none⟩) ∧ (∀ b o, b < B → w1.frozen? ⟨b, o, none⟩ = W.frozen? ⟨b, o, none⟩) :=
  ⟨fun b o h => hb.cell (p := ⟨b, o, none⟩) h, fun b o h => hb.frozen (p := ⟨b, o, none⟩) h⟩
theorem nx {W w1 w2 : World} (h : Below W.heap.size W w1) (h2 : Below w1.heap.size w1 w2) : Below W.heap.size W w2 := h.trans (h2.mono h.size)
theorem al {W w1 : World} (h : Below W.heap.size W w1) (o : Obj) : Below W.heap.size W (w1.alloc o) := nx h (below1 _ _)
theorem sc {W w1 : World} (h : Below W.heap.size W w1) {g i : Nat} (hg : W.heap.size ≤ g) (v : Value) : Below W.heap.size W (w1.setCell ⟨g, i, none⟩ v) := h.setCell (p := ⟨g, i, none⟩) hg v
theorem al1 (W : World) (o1 : Obj) : Below W.heap.size W (W.alloc o1) := below1 W o1
theorem al2 (W : World) (o1 o2 : Obj) : Below W.heap.size W ((W.alloc o1).alloc o2) := al (al1 W o1) o2
theorem al3 (W : World) (o1 o2 o3 : Obj) : Below W.heap.size W (((W.alloc o1).alloc o2).alloc o3) := al (al2 W o1 o2) o3
theorem al4 (W : World) (o1 o2 o3 o4 : Obj) : Below W.heap.size W ((((W.alloc o1).alloc o2).alloc o3).alloc o4) := al (al3 W o1 o2 o3) o4
theorem al5 (W : World) (o1 o2 o3 o4 o5 : Obj) : Below W.heap.size W (((((W.alloc o1).alloc o2).alloc o3).alloc o4).alloc o5) := al (al4 W o1 o2 o3 o4) o5

/-- Y is X and more -/
def Ext (X Y : World) : Prop := Below X.heap.size X Y
theorem Ext.of {X Y : World} (h : Below X.heap.size X Y) : Ext X Y := h
theorem Ext.refl (X : World) : Ext X X := Below.refl _ _
theorem Ext.drw {X Y : World} (h : Ext X Y) : Ext X Y.drew := Below.drew (B := X.heap.size) h
theorem Ext.drwN {X Y : World} (h : Ext X Y) (k : Nat) : Ext X (Y.drewN k) := Below.toDrewN (B := X.heap.size) h k
theorem Ext.trans {X Y Z : World} (h : Ext X Y) (k : Ext Y Z) : Ext X Z := nx h k
theorem Ext.alc {X Y : World} (h : Ext X Y) (o : Obj) : Ext X (Y.alloc o) := al h o
theorem Ext.sc {X Y : World} (h : Ext X Y) {g i : Nat} {v : Value} (hg : X.heap.size ≤ g) : Ext X (Y.setCell ⟨g, i, none⟩ v) := Below.setCell (B := X.heap.size) h (p := ⟨g, i, none⟩) hg v
theorem Ext.size {X Y : World} (h : Ext X Y) : X.heap.size ≤ Y.heap.size := Below.size h
theorem Ext.at {X Y : World} (h : Ext X Y) {g i : Nat} {v : Value} (hg : g < X.heap.size) (hc : X.cell? ⟨g, i, none⟩ = some v) : Y.cell? ⟨g, i, none⟩ = some v := keepAt h hg hc

theorem wp_split {S : World → Prop} {P : Program} {Q : Exit → Act → World → Prop} {id : Nat} {a : Act} {w : World} {l : List Oper} (n : Nat) (hm : P.follows .mixedOrders = true)
    (hB : splitB .any l.toArray n = true) (hS : S w.drew)
    (h : wpAnyH P .any (l.take n).toArray (CutQ P l.toArray Q (l.drop n)) S n (Array.replicate n false) a w.drew) : (Code.region id l.toArray true).wp P Q a w :=
  wp_region_split n hm hB hS (fun _ => h)
theorem take_at {P : Program} {md : Region.Mode} {ops : Array Oper} {Q : Exit → Act → World → Prop} {S : World → Prop} (i : Nat) (d : Option Tmp) (v : Value) {oi : Oper} {fuel : Nat} {listed : Array Bool} {a : Act} {w : World} (hi : ops[i]? = some oi) (hd : oi.dst = d)
    (hs : Region.noSelect ops = true) (hf : Region.free md ops listed i = true) (hr : (Region.ready md ops listed).contains i = true)
    (hQ : ∀ c a w, Q (.panic c) (a.put oi.dst v) w → Q (.panic c) a w) (hy : YieldsIf P ops S oi v a) (hS : S w)
    (h : wpAnyH P md ops Q S fuel (listed.setIfInBounds i true) (a.put d v) w) : wpAnyH P md ops Q S (fuel + 1) listed a w :=
  wpAnyH_take hi hs hf hr hQ hy hS (by rw [hd]; exact h)
theorem World.ownsRow.ext {X Y : World} {base : Nat} {e : TypeId} {size : Nat} {v : Value} {n : Nat} {xs : List Value} (h : X.ownsRow base e size v n xs) (hx : Ext X Y) : Y.ownsRow base e size v n xs := by
  obtain ⟨h1, h2 | ⟨g, cap, cur, rfl, hg, hh, rest⟩⟩ := h
  · exact ⟨h1, .inl h2⟩
  · have hl : g < X.heap.size := (Array.getElem?_eq_some_iff.1 hh).1
    exact ⟨h1, .inr ⟨g, cap, cur, rfl, hg, (Below.block hx g hl).trans hh, rest⟩⟩
end Go.Proofs.Ytilcbbdmenknfaa
