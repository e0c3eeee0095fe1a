/- Walks: whole numbers with a sign. -/
import Derived.Test.YtmlopkkbgpfdnaaW3
import Derived.Test.YtmlopkkbgpfdnaaW5
import Derived.Deep.RegionHeld3
namespace Go.Proofs.Ytmlopkkbgpfdnaa
open Go.RowKit

/-- a struct of a sign and words stands for z -/
def ZV (w : World) (a : Value) (z : Int) : Prop := ∃ v, a = .agg #[.bool (decide (z < 0)), v] ∧ Wd w v (dig z.natAbs)

theorem ZV.below {w w' : World} {a : Value} {z : Int} (h : ZV w a z) (hb : Below w.heap.size w w') : ZV w' a z := by
  obtain ⟨v, rfl, hv⟩ := h
  exact ⟨v, rfl, hv.below hb⟩

theorem Wd.slice_ {w : World} {v : Value} {l : List Nat} (h : Wd w v l) : ∃ A n c, v = .slice A n c := by
  obtain ⟨A, c, rfl, _⟩ := h
  exact ⟨A, _, c, rfl⟩

theorem keepAt {B : Nat} {W w1 : World} {g i : Nat} {v : Value} (hb : Below B W w1) (hg : g < B) (h : W.cell? ⟨g, i, none⟩ = some v) : w1.cell? ⟨g, i, none⟩ = some v := (hb.cell (p := ⟨g, i, none⟩) hg).trans h

theorem below2 (w : World) (o1 o2 : Obj) : Below w.heap.size w ((w.alloc o1).alloc o2) := ((Below.refl _ _).alloc (Nat.le_refl _) o1).alloc (by simp) o2
theorem below3 (w : World) (o1 o2 o3 : Obj) : Below w.heap.size w (((w.alloc o1).alloc o2).alloc o3) := (below2 w o1 o2).alloc (by simp; omega) o3
theorem undrew {B : Nat} {W w1 : World} (h : Below B W.drew w1) : Below B W w1 := ⟨h.os, h.tape, h.output, h.size, h.block⟩
theorem undrewN {B k : Nat} {W w1 : World} (h : Below B (W.drewN k) w1) : Below B W w1 := ⟨h.os, h.tape, h.output, h.size, h.block⟩
theorem Below.toDrewN {B : Nat} {W w1 : World} (h : Below B W w1) (k : Nat) : Below B W (w1.drewN k) := ⟨h.os, h.tape, h.output, h.size, h.block⟩

/-- block g holds a struct of a sign and a slice, and may be written -/
def RB (W : World) (g : Nat) : Prop := ∃ a A n c t, W.heap[g]? = some (.cells #[.bool a, .slice A n c] t (0, 0))

section
variable {W W' : World} {g : Nat}
theorem RB.mk {cs : Array Value} {t : TypeId} (h : W.heap[g]? = some (.cells cs t (0, 0))) (a : Bool) (A : Option Addr) (n c : Nat) (hc : cs = #[.bool a, .slice A n c]) : RB W g := ⟨a, A, n, c, t, by rw [h, hc]⟩
theorem RB.lt (h : RB W g) : g < W.heap.size := by
  obtain ⟨a, A, n, c, t, h⟩ := h
  exact (Array.getElem?_eq_some_iff.1 h).1
theorem RB.below {B : Nat} (h : RB W g) (hb : Below B W W') (hg : g < B) : RB W' g := by
  obtain ⟨a, A, n, c, t, h⟩ := h
  exact ⟨a, A, n, c, t, (hb.block g hg).trans h⟩
theorem RB.drewN (h : RB W g) (k : Nat) : RB (W.drewN k) g := h
theorem RB.drew (h : RB W g) : RB W.drew g := h
theorem RB.old {B : Nat} {i : Nat} {v : Value} (_ : RB W g) (h : W.cell? ⟨g, i, none⟩ = some v) (hb : Below B W W') (hg : g < B) : W'.cell? ⟨g, i, none⟩ = some v := keepAt hb hg h
theorem RB.facts (h : RB W g) : ∃ a A n c, W.cell? ⟨g, 0, none⟩ = some (.bool a) ∧ W.cell? ⟨g, 1, none⟩ = some (.slice A n c) ∧ W.frozen? ⟨g, 0, none⟩ = false ∧ W.frozen? ⟨g, 1, none⟩ = false := by
  obtain ⟨a, A, n, c, t, h⟩ := h
  exact ⟨a, A, n, c, cell_of_row W g 0 _ t (0, 0) h, cell_of_row W g 1 _ t (0, 0) h, by simp [World.frozen?, h], by simp [World.frozen?, h]⟩
theorem far2 {i j k g' : Nat} {u v : Value} (h : g' ≠ g) : ((W.setCell ⟨g, i, none⟩ u).setCell ⟨g, j, none⟩ v).cell? ⟨g', k, none⟩ = W.cell? ⟨g', k, none⟩ := by
  rw [World.cell?_setCell_other _ _ _ _ (by intro e; injection e with e1; exact h e1.symm), World.cell?_setCell_other _ _ _ _ (by intro e; injection e with e1; exact h e1.symm)]
theorem RB.set0 (h : RB W g) (p : Bool) (s : Value) : ((W.setCell ⟨g, 0, none⟩ (.bool p)).setCell ⟨g, 1, none⟩ s).cell? ⟨g, 0, none⟩ = some (.bool p) := by
  obtain ⟨a, A, n, c, h1, h2, _⟩ := h.facts
  rw [World.cell?_setCell_other _ _ _ _ (by simp), World.cell?_setCell_same _ _ _ h1]
theorem RB.set1 (h : RB W g) (p : Bool) (s : Value) : ((W.setCell ⟨g, 0, none⟩ (.bool p)).setCell ⟨g, 1, none⟩ s).cell? ⟨g, 1, none⟩ = some s := by
  obtain ⟨a, A, n, c, h1, h2, _⟩ := h.facts
  exact World.cell?_setCell_same _ _ _ ((World.cell?_setCell_other _ _ _ _ (by simp)).trans h2)
theorem RB.set (h : RB W g) (p : Bool) (A : Option Addr) (n c : Nat) : RB ((W.setCell ⟨g, 0, none⟩ (.bool p)).setCell ⟨g, 1, none⟩ (.slice A n c)) g := by
  obtain ⟨a', A', n', c', t, h⟩ := h
  refine ⟨p, A, n, c, t, ?_⟩
  simp [World.setCell, Array.getElem?_modify, h]
theorem Wd.rb {v : Value} {l : List Nat} (h : Wd W v l) (hr : RB W g) (u u' : Value) : Wd ((W.setCell ⟨g, 0, none⟩ u).setCell ⟨g, 1, none⟩ u') v l := by
  obtain ⟨A, c, rfl, h1, h2, h3, h4⟩ := h
  refine ⟨A, c, rfl, h1, h2, h3, fun hp => ?_⟩
  obtain ⟨b, off, rfl, hb, hc⟩ := h4 hp
  refine ⟨b, off, rfl, by simpa [World.setCell] using hb, fun j hj => ?_⟩
  have hne : b ≠ g := by
    rintro rfl
    have h0 := hc j hj
    obtain ⟨a, A', n', c', t, hg⟩ := hr
    rw [cell_of_row W b (off + j) _ t (0, 0) hg] at h0
    match hk : off + j with
    | 0 => rw [hk] at h0; simp at h0
    | 1 => rw [hk] at h0; simp at h0
    | k + 2 => rw [hk] at h0; simp at h0
  rw [far2 hne]
  exact hc j hj
theorem ZV.rb {v : Value} {z : Int} (h : ZV W v z) (hr : RB W g) (u u' : Value) : ZV ((W.setCell ⟨g, 0, none⟩ u).setCell ⟨g, 1, none⟩ u') v z := by
  obtain ⟨s, rfl, hs⟩ := h
  exact ⟨s, rfl, hs.rb hr u u'⟩
theorem below_set2 {B : Nat} (h : Below B W W') {i j : Nat} (hg : B ≤ g) (u u' : Value) : Below B W ((W'.setCell ⟨g, i, none⟩ u).setCell ⟨g, j, none⟩ u') :=
  (h.setCell (p := ⟨g, i, none⟩) hg u).setCell (p := ⟨g, j, none⟩) hg u'
end

theorem RB.a1 (w : World) (a : Bool) (A : Option Addr) (n c : Nat) (t : TypeId) (o2 o3 : Obj) : RB (((w.alloc (.cells #[.bool a, .slice A n c] t)).alloc o2).alloc o3) w.heap.size :=
  ⟨a, A, n, c, t, by rw [Below.heap_alloc _ _ _ (by simp; omega), Below.heap_alloc _ _ _ (by simp), heap_alloc_new]⟩
theorem RB.a2 (w : World) (a : Bool) (A : Option Addr) (n c : Nat) (t : TypeId) (o1 o3 : Obj) : RB (((w.alloc o1).alloc (.cells #[.bool a, .slice A n c] t)).alloc o3) (w.heap.size + 1) :=
  ⟨a, A, n, c, t, by
    rw [Below.heap_alloc _ _ _ (by simp)]
    have := heap_alloc_new (w.alloc o1) (.cells #[.bool a, .slice A n c] t)
    simpa using this⟩
theorem RB.a3 (w : World) (a : Bool) (A : Option Addr) (n c : Nat) (t : TypeId) (o1 o2 : Obj) : RB (((w.alloc o1).alloc o2).alloc (.cells #[.bool a, .slice A n c] t)) (w.heap.size + 1 + 1) :=
  ⟨a, A, n, c, t, by
    have := heap_alloc_new ((w.alloc o1).alloc o2) (.cells #[.bool a, .slice A n c] t)
    simpa using this⟩
theorem old1 {w : World} {c1 : Array Value} {t1 : TypeId} {o2 o3 : Obj} (i : Nat) : (((w.alloc (.cells c1 t1)).alloc o2).alloc o3).cell? ⟨w.heap.size, i, none⟩ = c1[i]? := by
  rw [World.cell?_alloc_past _ _ _ (by simp; omega), World.cell?_alloc_past _ _ _ (by simp), World.cell?_alloc_new]
theorem old2 {w : World} {c2 : Array Value} {t2 : TypeId} {o1 o3 : Obj} (i : Nat) : (((w.alloc o1).alloc (.cells c2 t2)).alloc o3).cell? ⟨w.heap.size + 1, i, none⟩ = c2[i]? := by
  rw [World.cell?_alloc_past _ _ _ (by simp), World.cell?_alloc_at _ _ _ _ (by simp)]

/-- a contract's result written out as a slice -/
theorem asSlice {P : Program} {f : FuncId} {args : Array Value} {w : World} {l : List Nat} (h : Calls P f args w fun e w' => ∃ r, e = .returned r ∧ Wd w' r l ∧ Below w.heap.size w w') :
    Calls P f args w fun e w' => ∃ A n c, e = .returned (.slice A n c) ∧ Wd w' (.slice A n c) l ∧ Below w.heap.size w w' := by
  refine h.mono ?_
  rintro e w' ⟨r, rfl, hr, hb⟩
  obtain ⟨A, n, c, rfl⟩ := hr.slice_
  exact ⟨A, n, c, rfl, hr, hb⟩

set_option maxRecDepth 100000 in
theorem wholeOf_any (p : Bool) (A : Option Addr) (n c : Nat) (w : World) :
    Calls Try.prog 49 #[.agg #[.bool p, .slice A n c]] w fun e w' => e = .returned (.agg #[.bool p, .slice A n c]) ∧ Below w.heap.size w w' := by
  go_enter Try.func49, Try.ntmps49
  go_wp2
  exact bodyPost_ret (v := .agg #[.bool p, .slice A n c]) (by simp [results, Try.results49, go_sem]) rfl ⟨rfl, below2 _ _ _⟩

set_option maxRecDepth 100000 in
theorem signed_any (p : Bool) (A : Option Addr) (n c : Nat) (w : World) (hn : n ≤ 9223372036854775807) :
    Calls Try.prog 78 #[.bool p, .slice A n c] w fun e w' => e = .returned (.agg #[.bool (p && decide (0 < n)), .slice A n c]) ∧ Below w.heap.size w w' := by
  cases p
  · go_enter Try.func78, Try.ntmps78
    go_wp2
    exact bodyPost_ret (v := .agg #[.bool false, .slice A n c]) (by simp [results, Try.results78, go_sem]) rfl ⟨rfl, below_alloc _ _⟩
  · go_enter Try.func78, Try.ntmps78
    go_wp2
    exact bodyPost_ret (v := .agg #[.bool (decide (0 < n)), .slice A n c]) (by simp [results, Try.results78, go_sem]) rfl ⟨by simp, below_alloc _ _⟩

set_option maxRecDepth 100000 in
theorem plusZ_same (x y : Nat) (p : Bool) (u v : Value) (w : World) (hx : Wd w u (dig x)) (hy : Wd w v (dig y)) (lx : (dig x).length ≤ 1000000) (ly : (dig y).length ≤ 1000000) :
    Calls Try.prog 57 #[.agg #[.bool p, u], .agg #[.bool p, v]] w fun e w' => ∃ r, e = .returned (.agg #[.bool p, r]) ∧ Wd w' r (dig (x + y)) ∧ Below w.heap.size w w' := by
  have Hx := Lib.hid hx
  have Hy := Lib.hid hy
  obtain ⟨A, n, c, rfl⟩ := hx.slice_
  obtain ⟨A', n', c', rfl⟩ := hy.slice_
  clear hx hy
  have hpp : (p == p) = true := by simp
  go_enter Try.func57, Try.ntmps57
  go_wp2_with fail
  have hb3 := below3 w (Obj.cells #[.bool p, .slice A n c] 60) (Obj.cells #[.bool p, .slice A' n' c'] 60) (Obj.cells #[.bool false, .slice none 0 0] 60)
  have Hx3 := Lib.hid (Hx.out.below hb3)
  have Hy3 := Lib.hid (Hy.out.below hb3)
  have Hb3 := Lib.hid hb3; clear hb3
  have HR := Lib.hid (RB.a3 w false none 0 0 60 (Obj.cells #[.bool p, .slice A n c] 60) (Obj.cells #[.bool p, .slice A' n' c'] 60))
  go_region_held3 (fun w' => w'.cell? ⟨w.heap.size, 0, none⟩ = some (.bool p) ∧ w'.cell? ⟨w.heap.size, 1, none⟩ = some (.slice A n c) ∧ w'.cell? ⟨w.heap.size + 1, 1, none⟩ = some (.slice A' n' c'))
    (first | exact ⟨old1 0, old1 1, old2 1⟩ | (go_split_ands; exact ⟨(far2 (by omega)).trans (by assumption), (far2 (by omega)).trans (by assumption), (far2 (by omega)).trans (by assumption)⟩) | (go_split_ands; exact ⟨keepAt hb1 (by simp <;> omega) (by assumption), keepAt hb1 (by simp <;> omega) (by assumption), keepAt hb1 (by simp <;> omega) (by assumption)⟩))
    (first | (go_at_call 86; refine (asSlice (plusE_any x y _ _ _ (by exact Hx3.out) (by exact Hy3.out) lx ly)).mono ?_; rintro e w1 ⟨A2, n2, c2, rfl, hr, hb1⟩; have hR := HR.out.below (undrew hb1) (by simp); obtain ⟨a0, A0, n0, c0, k10, k11, k20, k21⟩ := hR.facts))
  have s0 := hR.set0 p (.slice A2 n2 c2)
  have s1 := hR.set1 p (.slice A2 n2 c2)
  have fin : Wd ((w1.setCell ⟨w.heap.size + 1 + 1, 0, none⟩ (.bool p)).setCell ⟨w.heap.size + 1 + 1, 1, none⟩ (.slice A2 n2 c2)) (.slice A2 n2 c2) (dig (x + y)) ∧ Below w.heap.size w ((w1.setCell ⟨w.heap.size + 1 + 1, 0, none⟩ (.bool p)).setCell ⟨w.heap.size + 1 + 1, 1, none⟩ (.slice A2 n2 c2)) :=
    ⟨hr.rb hR _ _, below_set2 (Hb3.out.trans ((undrew hb1).mono (by simp <;> omega))) (by omega) _ _⟩
  have Fin := Lib.hid fin; clear fin
  go_wp2
  exact bodyPost_ret (v := .agg #[.bool p, .slice A2 n2 c2]) (by simp [results, Try.results57, go_sem, s0, s1]) rfl ⟨.slice A2 n2 c2, rfl, Fin.out.1, Fin.out.2⟩
end Go.Proofs.Ytmlopkkbgpfdnaa
