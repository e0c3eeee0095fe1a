/- Walks: whole numbers with a sign. · Walks: the sum of whole numbers. · Walks: the sum of whole numbers. · Walks: opposite, sign, minus, compare, absolute. -/
import Derived.Test.YtijhbmdbnnmogaaGreatM13
import Derived.Deep.RegionHeld3
namespace Go.Proofs.YtijhbmdbnnmogaaGreat
open Go.RowKit

/-- a struct of a sign and words stands for z -/
def ZV (w : World) (a : Value) (z : Int) : Prop := ∃ v, a = .agg #[.bool (decide (z < 0)), v] ∧ Wd w v (dig z.natAbs)

theorem ZV.below {w w' : World} {a : Value} {z : Int} (h : ZV w a z) (hb : Below w.heap.size w w') : ZV w' a z := by
  obtain ⟨v, rfl, hv⟩ := h
  exact ⟨v, rfl, hv.below hb⟩

theorem Wd.slice_ {w : World} {v : Value} {l : List Nat} (h : Wd w v l) : ∃ A n c, v = .slice A n c := by
  obtain ⟨A, c, rfl, _⟩ := h
  exact ⟨A, _, c, rfl⟩

theorem keepAt {B : Nat} {W w1 : World} {g i : Nat} {v : Value} (hb : Below B W w1) (hg : g < B) (h : W.cell? ⟨g, i, none⟩ = some v) : w1.cell? ⟨g, i, none⟩ = some v := (hb.cell (p := ⟨g, i, none⟩) hg).trans h

theorem below2 (w : World) (o1 o2 : Obj) : Below w.heap.size w ((w.alloc o1).alloc o2) := ((Below.refl _ _).alloc (Nat.le_refl _) o1).alloc (by simp) o2
theorem below3 (w : World) (o1 o2 o3 : Obj) : Below w.heap.size w (((w.alloc o1).alloc o2).alloc o3) := (below2 w o1 o2).alloc (by simp; omega) o3
theorem undrew {B : Nat} {W w1 : World} (h : Below B W.drew w1) : Below B W w1 := ⟨h.os, h.tape, h.output, h.size, h.block⟩
theorem undrewN {B k : Nat} {W w1 : World} (h : Below B (W.drewN k) w1) : Below B W w1 := ⟨h.os, h.tape, h.output, h.size, h.block⟩
theorem Below.toDrewN {B : Nat} {W w1 : World} (h : Below B W w1) (k : Nat) : Below B W (w1.drewN k) := ⟨h.os, h.tape, h.output, h.size, h.block⟩

/-- block g holds a struct of a sign and a slice, and may be written -/
def RB (W : World) (g : Nat) : Prop := ∃ a A n c t, W.heap[g]? = some (.cells #[.bool a, .slice A n c] t (0, 0))

section
variable {W W' : World} {g : Nat}
theorem RB.mk {cs : Array Value} {t : TypeId} (h : W.heap[g]? = some (.cells cs t (0, 0))) (a : Bool) (A : Option Addr) (n c : Nat) (hc : cs = #[.bool a, .slice A n c]) : RB W g := ⟨a, A, n, c, t, by rw [h, hc]⟩
theorem RB.lt (h : RB W g) : g < W.heap.size := by
  obtain ⟨a, A, n, c, t, h⟩ := h
  exact (Array.getElem?_eq_some_iff.1 h).1
theorem RB.below {B : Nat} (h : RB W g) (hb : Below B W W') (hg : g < B) : RB W' g := by
  obtain ⟨a, A, n, c, t, h⟩ := h
  exact ⟨a, A, n, c, t, (hb.block g hg).trans h⟩
theorem RB.drewN (h : RB W g) (k : Nat) : RB (W.drewN k) g := h
theorem RB.drew (h : RB W g) : RB W.drew g := h
theorem RB.old {B : Nat} {i : Nat} {v : Value} (_ : RB W g) (h : W.cell? ⟨g, i, none⟩ = some v) (hb : Below B W W') (hg : g < B) : W'.cell? ⟨g, i, none⟩ = some v := keepAt hb hg h
theorem RB.facts (h : RB W g) : ∃ a A n c, W.cell? ⟨g, 0, none⟩ = some (.bool a) ∧ W.cell? ⟨g, 1, none⟩ = some (.slice A n c) ∧ W.frozen? ⟨g, 0, none⟩ = false ∧ W.frozen? ⟨g, 1, none⟩ = false := by
  obtain ⟨a, A, n, c, t, h⟩ := h
  exact ⟨a, A, n, c, cell_of_row W g 0 _ t (0, 0) h, cell_of_row W g 1 _ t (0, 0) h, by simp [World.frozen?, h], by simp [World.frozen?, h]⟩
theorem far2 {i j k g' : Nat} {u v : Value} (h : g' ≠ g) : ((W.setCell ⟨g, i, none⟩ u).setCell ⟨g, j, none⟩ v).cell? ⟨g', k, none⟩ = W.cell? ⟨g', k, none⟩ := by
  rw [World.cell?_setCell_other _ _ _ _ (by intro e; injection e with e1; exact h e1.symm), World.cell?_setCell_other _ _ _ _ (by intro e; injection e with e1; exact h e1.symm)]
theorem RB.set0 (h : RB W g) (p : Bool) (s : Value) : ((W.setCell ⟨g, 0, none⟩ (.bool p)).setCell ⟨g, 1, none⟩ s).cell? ⟨g, 0, none⟩ = some (.bool p) := by
  obtain ⟨a, A, n, c, h1, h2, _⟩ := h.facts
  rw [World.cell?_setCell_other _ _ _ _ (by simp), World.cell?_setCell_same _ _ _ h1]
theorem RB.set1 (h : RB W g) (p : Bool) (s : Value) : ((W.setCell ⟨g, 0, none⟩ (.bool p)).setCell ⟨g, 1, none⟩ s).cell? ⟨g, 1, none⟩ = some s := by
  obtain ⟨a, A, n, c, h1, h2, _⟩ := h.facts
  exact World.cell?_setCell_same _ _ _ ((World.cell?_setCell_other _ _ _ _ (by simp)).trans h2)
theorem RB.set (h : RB W g) (p : Bool) (A : Option Addr) (n c : Nat) : RB ((W.setCell ⟨g, 0, none⟩ (.bool p)).setCell ⟨g, 1, none⟩ (.slice A n c)) g := by
  obtain ⟨a', A', n', c', t, h⟩ := h
  refine ⟨p, A, n, c, t, ?_⟩
  simp [World.setCell, Array.getElem?_modify, h]
theorem Wd.rb {v : Value} {l : List Nat} (h : Wd W v l) (hr : RB W g) (u u' : Value) : Wd ((W.setCell ⟨g, 0, none⟩ u).setCell ⟨g, 1, none⟩ u') v l := by
  obtain ⟨A, c, rfl, h1, h2, h3, h4⟩ := h
  refine ⟨A, c, rfl, h1, h2, h3, fun hp => ?_⟩
  obtain ⟨b, off, rfl, hb, hc⟩ := h4 hp
  refine ⟨b, off, rfl, by simpa [World.setCell] using hb, fun j hj => ?_⟩
  have hne : b ≠ g := by
    rintro rfl
    have h0 := hc j hj
    obtain ⟨a, A', n', c', t, hg⟩ := hr
    rw [cell_of_row W b (off + j) _ t (0, 0) hg] at h0
    match hk : off + j with
    | 0 => rw [hk] at h0; simp at h0
    | 1 => rw [hk] at h0; simp at h0
    | k + 2 => rw [hk] at h0; simp at h0
  rw [far2 hne]
  exact hc j hj
theorem ZV.rb {v : Value} {z : Int} (h : ZV W v z) (hr : RB W g) (u u' : Value) : ZV ((W.setCell ⟨g, 0, none⟩ u).setCell ⟨g, 1, none⟩ u') v z := by
  obtain ⟨s, rfl, hs⟩ := h
  exact ⟨s, rfl, hs.rb hr u u'⟩
theorem below_set2 {B : Nat} (h : Below B W W') {i j : Nat} (hg : B ≤ g) (u u' : Value) : Below B W ((W'.setCell ⟨g, i, none⟩ u).setCell ⟨g, j, none⟩ u') :=
  (h.setCell (p := ⟨g, i, none⟩) hg u).setCell (p := ⟨g, j, none⟩) hg u'
end

theorem RB.a1 (w : World) (a : Bool) (A : Option Addr) (n c : Nat) (t : TypeId) (o2 o3 : Obj) : RB (((w.alloc (.cells #[.bool a, .slice A n c] t)).alloc o2).alloc o3) w.heap.size :=
  ⟨a, A, n, c, t, by rw [Below.heap_alloc _ _ _ (by simp; omega), Below.heap_alloc _ _ _ (by simp), heap_alloc_new]⟩
theorem RB.a2 (w : World) (a : Bool) (A : Option Addr) (n c : Nat) (t : TypeId) (o1 o3 : Obj) : RB (((w.alloc o1).alloc (.cells #[.bool a, .slice A n c] t)).alloc o3) (w.heap.size + 1) :=
  ⟨a, A, n, c, t, by
    rw [Below.heap_alloc _ _ _ (by simp)]
    have := heap_alloc_new (w.alloc o1) (.cells #[.bool a, .slice A n c] t)
    simpa using this⟩
theorem RB.a3 (w : World) (a : Bool) (A : Option Addr) (n c : Nat) (t : TypeId) (o1 o2 : Obj) : RB (((w.alloc o1).alloc o2).alloc (.cells #[.bool a, .slice A n c] t)) (w.heap.size + 1 + 1) :=
  ⟨a, A, n, c, t, by
    have := heap_alloc_new ((w.alloc o1).alloc o2) (.cells #[.bool a, .slice A n c] t)
    simpa using this⟩
theorem old1 {w : World} {c1 : Array Value} {t1 : TypeId} {o2 o3 : Obj} (i : Nat) : (((w.alloc (.cells c1 t1)).alloc o2).alloc o3).cell? ⟨w.heap.size, i, none⟩ = c1[i]? := by
  rw [World.cell?_alloc_past _ _ _ (by simp; omega), World.cell?_alloc_past _ _ _ (by simp), World.cell?_alloc_new]
theorem old2 {w : World} {c2 : Array Value} {t2 : TypeId} {o1 o3 : Obj} (i : Nat) : (((w.alloc o1).alloc (.cells c2 t2)).alloc o3).cell? ⟨w.heap.size + 1, i, none⟩ = c2[i]? := by
  rw [World.cell?_alloc_past _ _ _ (by simp), World.cell?_alloc_at _ _ _ _ (by simp)]

/-- a contract's result written out as a slice -/
theorem asSlice {P : Program} {f : FuncId} {args : Array Value} {w : World} {l : List Nat} (h : Calls P f args w fun e w' => ∃ r, e = .returned r ∧ Wd w' r l ∧ Below w.heap.size w w') :
    Calls P f args w fun e w' => ∃ A n c, e = .returned (.slice A n c) ∧ Wd w' (.slice A n c) l ∧ Below w.heap.size w w' := by
  refine h.mono ?_
  rintro e w' ⟨r, rfl, hr, hb⟩
  obtain ⟨A, n, c, rfl⟩ := hr.slice_
  exact ⟨A, n, c, rfl, hr, hb⟩

set_option maxRecDepth 100000 in
theorem wholeOf_any (p : Bool) (A : Option Addr) (n c : Nat) (w : World) :
    Calls Tryz.prog 121 #[.agg #[.bool p, .slice A n c]] w fun e w' => e = .returned (.agg #[.bool p, .slice A n c]) ∧ Below w.heap.size w w' := by
  go_enter Tryz.func121, Tryz.ntmps121
  go_wp2
  exact bodyPost_ret (v := .agg #[.bool p, .slice A n c]) (by simp [results, Tryz.results121, go_sem]) rfl ⟨rfl, below2 _ _ _⟩

set_option maxRecDepth 100000 in
theorem signed_any (p : Bool) (A : Option Addr) (n c : Nat) (w : World) (hn : n ≤ 9223372036854775807) :
    Calls Tryz.prog 225 #[.bool p, .slice A n c] w fun e w' => e = .returned (.agg #[.bool (p && decide (0 < n)), .slice A n c]) ∧ Below w.heap.size w w' := by
  cases p
  · go_enter Tryz.func225, Tryz.ntmps225
    go_wp2
    exact bodyPost_ret (v := .agg #[.bool false, .slice A n c]) (by simp [results, Tryz.results225, go_sem]) rfl ⟨rfl, below_alloc _ _⟩
  · go_enter Tryz.func225, Tryz.ntmps225
    go_wp2
    exact bodyPost_ret (v := .agg #[.bool (decide (0 < n)), .slice A n c]) (by simp [results, Tryz.results225, go_sem]) rfl ⟨by simp, below_alloc _ _⟩

set_option maxRecDepth 100000 in
theorem plusZ_same (x y : Nat) (p : Bool) (u v : Value) (w : World) (hx : Wd w u (dig x)) (hy : Wd w v (dig y)) (lx : (dig x).length ≤ 1000000) (ly : (dig y).length ≤ 1000000) :
    Calls Tryz.prog 206 #[.agg #[.bool p, u], .agg #[.bool p, v]] w fun e w' => ∃ r, e = .returned (.agg #[.bool p, r]) ∧ Wd w' r (dig (x + y)) ∧ Below w.heap.size w w' := by
  have Hx := Lib.hid hx
  have Hy := Lib.hid hy
  obtain ⟨A, n, c, rfl⟩ := hx.slice_
  obtain ⟨A', n', c', rfl⟩ := hy.slice_
  clear hx hy
  have hpp : (p == p) = true := by simp
  go_enter Tryz.func206, Tryz.ntmps206
  go_wp2_with fail
  have hb3 := below3 w (Obj.cells #[.bool p, .slice A n c] 152) (Obj.cells #[.bool p, .slice A' n' c'] 152) (Obj.cells #[.bool false, .slice none 0 0] 152)
  have Hx3 := Lib.hid (Hx.out.below hb3)
  have Hy3 := Lib.hid (Hy.out.below hb3)
  have Hb3 := Lib.hid hb3; clear hb3
  have HR := Lib.hid (RB.a3 w false none 0 0 152 (Obj.cells #[.bool p, .slice A n c] 152) (Obj.cells #[.bool p, .slice A' n' c'] 152))
  go_region_held3 (fun w' => w'.cell? ⟨w.heap.size, 0, none⟩ = some (.bool p) ∧ w'.cell? ⟨w.heap.size, 1, none⟩ = some (.slice A n c) ∧ w'.cell? ⟨w.heap.size + 1, 1, none⟩ = some (.slice A' n' c'))
    (first | exact ⟨old1 0, old1 1, old2 1⟩ | (go_split_ands; exact ⟨(far2 (by omega)).trans (by assumption), (far2 (by omega)).trans (by assumption), (far2 (by omega)).trans (by assumption)⟩) | (go_split_ands; exact ⟨keepAt hb1 (by simp <;> omega) (by assumption), keepAt hb1 (by simp <;> omega) (by assumption), keepAt hb1 (by simp <;> omega) (by assumption)⟩))
    (first | (go_at_call 227; refine (asSlice (plusE_any x y _ _ _ (by exact Hx3.out) (by exact Hy3.out) lx ly)).mono ?_; rintro e w1 ⟨A2, n2, c2, rfl, hr, hb1⟩; have hR := HR.out.below (undrew hb1) (by simp); obtain ⟨a0, A0, n0, c0, k10, k11, k20, k21⟩ := hR.facts))
  have s0 := hR.set0 p (.slice A2 n2 c2)
  have s1 := hR.set1 p (.slice A2 n2 c2)
  have fin : Wd ((w1.setCell ⟨w.heap.size + 1 + 1, 0, none⟩ (.bool p)).setCell ⟨w.heap.size + 1 + 1, 1, none⟩ (.slice A2 n2 c2)) (.slice A2 n2 c2) (dig (x + y)) ∧ Below w.heap.size w ((w1.setCell ⟨w.heap.size + 1 + 1, 0, none⟩ (.bool p)).setCell ⟨w.heap.size + 1 + 1, 1, none⟩ (.slice A2 n2 c2)) :=
    ⟨hr.rb hR _ _, below_set2 (Hb3.out.trans ((undrew hb1).mono (by simp <;> omega))) (by omega) _ _⟩
  have Fin := Lib.hid fin; clear fin
  go_wp2
  exact bodyPost_ret (v := .agg #[.bool p, .slice A2 n2 c2]) (by simp [results, Tryz.results206, go_sem, s0, s1]) rfl ⟨.slice A2 n2 c2, rfl, Fin.out.1, Fin.out.2⟩
end Go.Proofs.YtijhbmdbnnmogaaGreat
namespace Go.Proofs.YtijhbmdbnnmogaaGreat
open Go.RowKit

theorem Wd.len_le {w : World} {A : Option Addr} {n c : Nat} {l : List Nat} (h : Wd w (.slice A n c) l) : n ≤ 9223372036854775807 := by
  obtain ⟨A', c', he, h1, h2, _⟩ := h
  injection he
  omega

set_option maxHeartbeats 400000 in
set_option maxRecDepth 100000 in
theorem plusZ_big (x y : Nat) (p q : Bool) (u v : Value) (w : World) (hpq : (p == q) = false) (hx : Wd w u (dig x)) (hy : Wd w v (dig y)) (lx : (dig x).length ≤ 1000000) (hyx : y ≤ x) :
    Calls Tryz.prog 206 #[.agg #[.bool p, u], .agg #[.bool q, v]] w fun e w' => ∃ r, e = .returned (.agg #[.bool (p && decide (0 < (dig (x - y)).length)), r]) ∧ Wd w' r (dig (x - y)) ∧ Below w.heap.size w w' := by
  have Hx := Lib.hid hx
  have Hy := Lib.hid hy
  obtain ⟨A, n, c, rfl⟩ := hx.slice_
  obtain ⟨A', n', c', rfl⟩ := hy.slice_
  clear hx hy
  have hcm : cmpN x y = 0 ∨ cmpN x y = 1 := by
    rcases Nat.lt_or_ge y x with h | h
    · right; exact cmpN_gt h
    · left; exact cmpN_eq (by omega)
  go_enter Tryz.func206, Tryz.ntmps206
  go_wp2_with fail
  have hb3 := below3 w (Obj.cells #[.bool p, .slice A n c] 152) (Obj.cells #[.bool q, .slice A' n' c'] 152) (Obj.cells #[.bool false, .slice none 0 0] 152)
  have Hx3 := Lib.hid (Hx.out.below hb3)
  have Hy3 := Lib.hid (Hy.out.below hb3)
  refine (compareE_any x y _ _ _ Hx3.out Hy3.out).mono ?_
  rintro e w2 ⟨rfl, nq, rfl⟩
  obtain ⟨cm, hcme, hcm0⟩ : ∃ cm : Int, cm = cmpN x y ∧ 0 ≤ cm := ⟨_, rfl, by omega⟩
  rw [← hcme]
  have Hcm := Lib.hid hcme; clear hcme hcm
  go_wp2_with fail
  have f1 : ((((w.alloc (Obj.cells #[.bool p, .slice A n c] 152)).alloc (Obj.cells #[.bool q, .slice A' n' c'] 152)).alloc (Obj.cells #[.bool false, .slice none 0 0] 152)).drewN nq).cell? ⟨w.heap.size, 0, none⟩ = some (.bool p) := old1 0
  have f2 : ((((w.alloc (Obj.cells #[.bool p, .slice A n c] 152)).alloc (Obj.cells #[.bool q, .slice A' n' c'] 152)).alloc (Obj.cells #[.bool false, .slice none 0 0] 152)).drewN nq).cell? ⟨w.heap.size, 1, none⟩ = some (.slice A n c) := old1 1
  have f3 : ((((w.alloc (Obj.cells #[.bool p, .slice A n c] 152)).alloc (Obj.cells #[.bool q, .slice A' n' c'] 152)).alloc (Obj.cells #[.bool false, .slice none 0 0] 152)).drewN nq).cell? ⟨w.heap.size + 1, 1, none⟩ = some (.slice A' n' c') := old2 1
  have HRx : RB ((((w.alloc (Obj.cells #[.bool p, .slice A n c] 152)).alloc (Obj.cells #[.bool q, .slice A' n' c'] 152)).alloc (Obj.cells #[.bool false, .slice none 0 0] 152)).drewN nq) (w.heap.size + 1 + 1) := (RB.a3 w false none 0 0 152 _ _).drewN nq
  have hx4 := Hx3.out.drewN nq
  have hy4 := Hy3.out.drewN nq
  have hb4 := Below.toDrewN hb3 nq
  have z0 : w.heap.size + 1 + 1 + 1 ≤ ((((w.alloc (Obj.cells #[.bool p, .slice A n c] 152)).alloc (Obj.cells #[.bool q, .slice A' n' c'] 152)).alloc (Obj.cells #[.bool false, .slice none 0 0] 152)).drewN nq).heap.size := by simp [World.drewN]
  clear Hx3 Hy3 hb3 Hx Hy
  generalize ((((w.alloc (Obj.cells #[.bool p, .slice A n c] 152)).alloc (Obj.cells #[.bool q, .slice A' n' c'] 152)).alloc (Obj.cells #[.bool false, .slice none 0 0] 152)).drewN nq) = W3 at *
  have Hx3 := Lib.hid hx4; clear hx4
  have Hy3 := Lib.hid hy4; clear hy4
  have Hb3 := Lib.hid hb4; clear hb4
  have HR := Lib.hid HRx; clear HRx
  go_region_held3 (fun w' => w'.cell? ⟨w.heap.size, 0, none⟩ = some (.bool p) ∧ w'.cell? ⟨w.heap.size, 1, none⟩ = some (.slice A n c) ∧ w'.cell? ⟨w.heap.size + 1, 1, none⟩ = some (.slice A' n' c'))
    (first | exact ⟨f1, f2, f3⟩ | (go_split_ands; exact ⟨(far2 (by omega)).trans (by assumption), (far2 (by omega)).trans (by assumption), (far2 (by omega)).trans (by assumption)⟩) | (go_split_ands; exact ⟨keepAt hb1 (by simp <;> omega) (by assumption), keepAt hb1 (by simp <;> omega) (by assumption), keepAt hb1 (by simp <;> omega) (by assumption)⟩) | (go_split_ands; exact ⟨keepAt hb2 (by omega) (by assumption), keepAt hb2 (by omega) (by assumption), keepAt hb2 (by omega) (by assumption)⟩))
    (first | (go_at_call 229; refine (asSlice (minusE_any x y _ _ _ (by exact Hx3.out) (by exact Hy3.out) lx hyx)).mono ?_; rintro e w1 ⟨A5, n5, c5, rfl, hr, hb1⟩; have z1 : w.heap.size + 1 + 1 + 1 ≤ w1.heap.size := (by have h := (hb1).size; have h0 := z0; simp at h h0; omega); have hl5 := hr.len_le; have hR1 := HR.out.below (undrew hb1) (by simp <;> omega)) | (go_at_call 225; refine (signed_any p A5 n5 c5 _ hl5).mono ?_; rintro e w2 ⟨rfl, hb2⟩; have z2 := hb2.size; have hR := hR1.below hb2 (by omega); obtain ⟨a0, A0, n0, c0, k10, k11, k20, k21⟩ := hR.facts))
  have s0 := hR.set0 (p && decide (0 < n5)) (.slice A5 n5 c5)
  have s1 := hR.set1 (p && decide (0 < n5)) (.slice A5 n5 c5)
  have fin : Wd ((w2.setCell ⟨w.heap.size + 1 + 1, 0, none⟩ (.bool (p && decide (0 < n5)))).setCell ⟨w.heap.size + 1 + 1, 1, none⟩ (.slice A5 n5 c5)) (.slice A5 n5 c5) (dig (x - y)) ∧ Below w.heap.size w ((w2.setCell ⟨w.heap.size + 1 + 1, 0, none⟩ (.bool (p && decide (0 < n5)))).setCell ⟨w.heap.size + 1 + 1, 1, none⟩ (.slice A5 n5 c5)) :=
    ⟨(hr.below hb2).rb hR _ _, below_set2 ((Hb3.out.trans ((undrew hb1).mono (by simp <;> omega))).trans (hb2.mono (by omega))) (by omega) _ _⟩
  have Fin := Lib.hid fin; clear fin
  have hn5 := hr.len
  have Hn5 := Lib.hid hn5; clear hn5
  go_wp2
  exact bodyPost_ret (v := .agg #[.bool (p && decide (0 < n5)), .slice A5 n5 c5]) (by simp [results, Tryz.results206, go_sem, s0, s1]) rfl ⟨.slice A5 n5 c5, by rw [← Hn5.out], Fin.out.1, Fin.out.2⟩

end Go.Proofs.YtijhbmdbnnmogaaGreat
namespace Go.Proofs.YtijhbmdbnnmogaaGreat
open Go.RowKit

theorem RB.far {W : World} {g h : Nat} (r : RB W g) (r' : RB W h) (hne : g ≠ h) (u u' : Value) : RB ((W.setCell ⟨h, 0, none⟩ u).setCell ⟨h, 1, none⟩ u') g := by
  obtain ⟨a, A, n, c, t, hh⟩ := r
  exact ⟨a, A, n, c, t, by rw [Below.heap_setCell _ _ _ _ hne, Below.heap_setCell _ _ _ _ hne]; exact hh⟩

set_option maxHeartbeats 400000 in
set_option maxRecDepth 100000 in
theorem plusZ_small (x y : Nat) (p q : Bool) (u v : Value) (w : World) (hpq : (p == q) = false) (hx : Wd w u (dig x)) (hy : Wd w v (dig y)) (lx : (dig y).length ≤ 1000000) (hxy : x < y) :
    Calls Tryz.prog 206 #[.agg #[.bool p, u], .agg #[.bool q, v]] w fun e w' => ∃ r, e = .returned (.agg #[.bool (q && decide (0 < (dig (y - x)).length)), r]) ∧ Wd w' r (dig (y - x)) ∧ Below w.heap.size w w' := by
  have Hx := Lib.hid hx
  have Hy := Lib.hid hy
  obtain ⟨A, n, c, rfl⟩ := hx.slice_
  obtain ⟨A', n', c', rfl⟩ := hy.slice_
  clear hx hy
  have hcm : cmpN x y = -1 := cmpN_lt hxy
  go_enter Tryz.func206, Tryz.ntmps206
  go_wp2_with fail
  have hb3 := below3 w (Obj.cells #[.bool p, .slice A n c] 152) (Obj.cells #[.bool q, .slice A' n' c'] 152) (Obj.cells #[.bool false, .slice none 0 0] 152)
  have Hx3 := Lib.hid (Hx.out.below hb3)
  have Hy3 := Lib.hid (Hy.out.below hb3)
  refine (compareE_any x y _ _ _ Hx3.out Hy3.out).mono ?_
  rintro e w2 ⟨rfl, nq, rfl⟩
  rw [hcm]
  clear hcm
  have R1 : RB ((((w.alloc (Obj.cells #[.bool p, .slice A n c] 152)).alloc (Obj.cells #[.bool q, .slice A' n' c'] 152)).alloc (Obj.cells #[.bool false, .slice none 0 0] 152)).drewN nq) w.heap.size := (RB.a1 w p A n c 152 _ _).drewN nq
  have R2 : RB ((((w.alloc (Obj.cells #[.bool p, .slice A n c] 152)).alloc (Obj.cells #[.bool q, .slice A' n' c'] 152)).alloc (Obj.cells #[.bool false, .slice none 0 0] 152)).drewN nq) (w.heap.size + 1) := (RB.a2 w q A' n' c' 152 _ _).drewN nq
  have R3 : RB ((((w.alloc (Obj.cells #[.bool p, .slice A n c] 152)).alloc (Obj.cells #[.bool q, .slice A' n' c'] 152)).alloc (Obj.cells #[.bool false, .slice none 0 0] 152)).drewN nq) (w.heap.size + 1 + 1) := (RB.a3 w false none 0 0 152 _ _).drewN nq
  have hx4 := Hx3.out.drewN nq
  have hy4 := Hy3.out.drewN nq
  have hb4 := Below.toDrewN hb3 nq
  have e10 : ((((w.alloc (Obj.cells #[.bool p, .slice A n c] 152)).alloc (Obj.cells #[.bool q, .slice A' n' c'] 152)).alloc (Obj.cells #[.bool false, .slice none 0 0] 152)).drewN nq).cell? ⟨w.heap.size, 0, none⟩ = some (.bool p) := old1 0
  have e11 : ((((w.alloc (Obj.cells #[.bool p, .slice A n c] 152)).alloc (Obj.cells #[.bool q, .slice A' n' c'] 152)).alloc (Obj.cells #[.bool false, .slice none 0 0] 152)).drewN nq).cell? ⟨w.heap.size, 1, none⟩ = some (.slice A n c) := old1 1
  have e20 : ((((w.alloc (Obj.cells #[.bool p, .slice A n c] 152)).alloc (Obj.cells #[.bool q, .slice A' n' c'] 152)).alloc (Obj.cells #[.bool false, .slice none 0 0] 152)).drewN nq).cell? ⟨w.heap.size + 1, 0, none⟩ = some (.bool q) := old2 0
  have e21 : ((((w.alloc (Obj.cells #[.bool p, .slice A n c] 152)).alloc (Obj.cells #[.bool q, .slice A' n' c'] 152)).alloc (Obj.cells #[.bool false, .slice none 0 0] 152)).drewN nq).cell? ⟨w.heap.size + 1, 1, none⟩ = some (.slice A' n' c') := old2 1
  have z0 : w.heap.size + 1 + 1 + 1 ≤ ((((w.alloc (Obj.cells #[.bool p, .slice A n c] 152)).alloc (Obj.cells #[.bool q, .slice A' n' c'] 152)).alloc (Obj.cells #[.bool false, .slice none 0 0] 152)).drewN nq).heap.size := by simp [World.drewN]
  clear Hx3 Hy3 hb3 Hx Hy
  generalize ((((w.alloc (Obj.cells #[.bool p, .slice A n c] 152)).alloc (Obj.cells #[.bool q, .slice A' n' c'] 152)).alloc (Obj.cells #[.bool false, .slice none 0 0] 152)).drewN nq) = W0 at *
  obtain ⟨_, _, _, _, -, -, g10, g11⟩ := R1.facts
  obtain ⟨_, _, _, _, -, -, g20, g21⟩ := R2.facts
  have T2 : RB ((W0.setCell ⟨w.heap.size, 0, none⟩ (.bool q)).setCell ⟨w.heap.size, 1, none⟩ (.slice A' n' c')) (w.heap.size + 1) := R2.far R1 (by omega) _ _
  have HRy : RB ((((W0.setCell ⟨w.heap.size, 0, none⟩ (.bool q)).setCell ⟨w.heap.size, 1, none⟩ (.slice A' n' c')).setCell ⟨w.heap.size + 1, 0, none⟩ (.bool p)).setCell ⟨w.heap.size + 1, 1, none⟩ (.slice A n c)) (w.heap.size + 1 + 1) := (R3.far R1 (by omega) _ _).far T2 (by omega) _ _
  have hx5 : Wd ((((W0.setCell ⟨w.heap.size, 0, none⟩ (.bool q)).setCell ⟨w.heap.size, 1, none⟩ (.slice A' n' c')).setCell ⟨w.heap.size + 1, 0, none⟩ (.bool p)).setCell ⟨w.heap.size + 1, 1, none⟩ (.slice A n c)) (.slice A n c) (dig x) := (hx4.rb R1 _ _).rb T2 _ _
  have hy5 : Wd ((((W0.setCell ⟨w.heap.size, 0, none⟩ (.bool q)).setCell ⟨w.heap.size, 1, none⟩ (.slice A' n' c')).setCell ⟨w.heap.size + 1, 0, none⟩ (.bool p)).setCell ⟨w.heap.size + 1, 1, none⟩ (.slice A n c)) (.slice A' n' c') (dig y) := (hy4.rb R1 _ _).rb T2 _ _
  have hb5 : Below w.heap.size w ((((W0.setCell ⟨w.heap.size, 0, none⟩ (.bool q)).setCell ⟨w.heap.size, 1, none⟩ (.slice A' n' c')).setCell ⟨w.heap.size + 1, 0, none⟩ (.bool p)).setCell ⟨w.heap.size + 1, 1, none⟩ (.slice A n c)) := below_set2 (below_set2 hb4 (Nat.le_refl _) _ _) (by omega) _ _
  have f1 : ((((W0.setCell ⟨w.heap.size, 0, none⟩ (.bool q)).setCell ⟨w.heap.size, 1, none⟩ (.slice A' n' c')).setCell ⟨w.heap.size + 1, 0, none⟩ (.bool p)).setCell ⟨w.heap.size + 1, 1, none⟩ (.slice A n c)).cell? ⟨w.heap.size, 0, none⟩ = some (.bool q) := (far2 (by omega)).trans (R1.set0 _ _)
  have f2 : ((((W0.setCell ⟨w.heap.size, 0, none⟩ (.bool q)).setCell ⟨w.heap.size, 1, none⟩ (.slice A' n' c')).setCell ⟨w.heap.size + 1, 0, none⟩ (.bool p)).setCell ⟨w.heap.size + 1, 1, none⟩ (.slice A n c)).cell? ⟨w.heap.size, 1, none⟩ = some (.slice A' n' c') := (far2 (by omega)).trans (R1.set1 _ _)
  have f3 : ((((W0.setCell ⟨w.heap.size, 0, none⟩ (.bool q)).setCell ⟨w.heap.size, 1, none⟩ (.slice A' n' c')).setCell ⟨w.heap.size + 1, 0, none⟩ (.bool p)).setCell ⟨w.heap.size + 1, 1, none⟩ (.slice A n c)).cell? ⟨w.heap.size + 1, 1, none⟩ = some (.slice A n c) := T2.set1 _ _
  have z5 : w.heap.size + 1 + 1 + 1 ≤ ((((W0.setCell ⟨w.heap.size, 0, none⟩ (.bool q)).setCell ⟨w.heap.size, 1, none⟩ (.slice A' n' c')).setCell ⟨w.heap.size + 1, 0, none⟩ (.bool p)).setCell ⟨w.heap.size + 1, 1, none⟩ (.slice A n c)).heap.size := by simpa [World.setCell] using z0
  have HF := Lib.hid (And.intro HRy (And.intro hx5 (And.intro hy5 (And.intro hb5 (And.intro f1 (And.intro f2 (And.intro f3 z5)))))))
  clear HRy hx5 hy5 hb5 f1 f2 f3 z5 T2 R1 R2 R3 hx4 hy4 hb4 z0
  go_wp2_with fail
  obtain ⟨HRx, hx5, hy5, hb5, f1, f2, f3, z0⟩ := HF.out
  clear HF e10 e11 e20 e21 g10 g11 g20 g21
  generalize ((((W0.setCell ⟨w.heap.size, 0, none⟩ (.bool q)).setCell ⟨w.heap.size, 1, none⟩ (.slice A' n' c')).setCell ⟨w.heap.size + 1, 0, none⟩ (.bool p)).setCell ⟨w.heap.size + 1, 1, none⟩ (.slice A n c)) = W3 at *
  have Hx3 := Lib.hid hx5; clear hx5
  have Hy3 := Lib.hid hy5; clear hy5
  have Hb3 := Lib.hid hb5; clear hb5
  have HR := Lib.hid HRx; clear HRx
  go_region_held3 (fun w' => w'.cell? ⟨w.heap.size, 0, none⟩ = some (.bool q) ∧ w'.cell? ⟨w.heap.size, 1, none⟩ = some (.slice A' n' c') ∧ w'.cell? ⟨w.heap.size + 1, 1, none⟩ = some (.slice A n c))
    (first | exact ⟨f1, f2, f3⟩ | (go_split_ands; exact ⟨(far2 (by omega)).trans (by assumption), (far2 (by omega)).trans (by assumption), (far2 (by omega)).trans (by assumption)⟩) | (go_split_ands; exact ⟨keepAt hb1 (by simp <;> omega) (by assumption), keepAt hb1 (by simp <;> omega) (by assumption), keepAt hb1 (by simp <;> omega) (by assumption)⟩) | (go_split_ands; exact ⟨keepAt hb2 (by omega) (by assumption), keepAt hb2 (by omega) (by assumption), keepAt hb2 (by omega) (by assumption)⟩))
    (first | (go_at_call 229; refine (asSlice (minusE_any y x _ _ _ (by exact Hy3.out) (by exact Hx3.out) lx (Nat.le_of_lt hxy))).mono ?_; rintro e w1 ⟨A5, n5, c5, rfl, hr, hb1⟩; have z1 : w.heap.size + 1 + 1 + 1 ≤ w1.heap.size := (by have h := (hb1).size; have h0 := z0; simp at h h0; omega); have hl5 := hr.len_le; have hR1 := HR.out.below (undrew hb1) (by simp <;> omega)) | (go_at_call 225; refine (signed_any q A5 n5 c5 _ hl5).mono ?_; rintro e w2 ⟨rfl, hb2⟩; have z2 := hb2.size; have hR := hR1.below hb2 (by omega); obtain ⟨a0, A0, n0, c0, k10, k11, k20, k21⟩ := hR.facts))
  have s0 := hR.set0 (q && decide (0 < n5)) (.slice A5 n5 c5)
  have s1 := hR.set1 (q && decide (0 < n5)) (.slice A5 n5 c5)
  have fin : Wd ((w2.setCell ⟨w.heap.size + 1 + 1, 0, none⟩ (.bool (q && decide (0 < n5)))).setCell ⟨w.heap.size + 1 + 1, 1, none⟩ (.slice A5 n5 c5)) (.slice A5 n5 c5) (dig (y - x)) ∧ Below w.heap.size w ((w2.setCell ⟨w.heap.size + 1 + 1, 0, none⟩ (.bool (q && decide (0 < n5)))).setCell ⟨w.heap.size + 1 + 1, 1, none⟩ (.slice A5 n5 c5)) :=
    ⟨(hr.below hb2).rb hR _ _, below_set2 ((Hb3.out.trans ((undrew hb1).mono (by simp <;> omega))).trans (hb2.mono (by omega))) (by omega) _ _⟩
  have Fin := Lib.hid fin; clear fin
  have hn5 := hr.len
  have Hn5 := Lib.hid hn5; clear hn5
  go_wp2
  exact bodyPost_ret (v := .agg #[.bool (q && decide (0 < n5)), .slice A5 n5 c5]) (by simp [results, Tryz.results206, go_sem, s0, s1]) rfl ⟨.slice A5 n5 c5, by rw [← Hn5.out], Fin.out.1, Fin.out.2⟩

/-- the sum of two whole numbers, in package exact -/
theorem plusZ_any (x y : Int) (u v : Value) (w : World) (hx : ZV w u x) (hy : ZV w v y) (lx : (dig x.natAbs).length ≤ 1000000) (ly : (dig y.natAbs).length ≤ 1000000) :
    Calls Tryz.prog 206 #[u, v] w fun e w' => ∃ r, e = .returned r ∧ ZV w' r (x + y) ∧ Below w.heap.size w w' := by
  obtain ⟨u, rfl, hu⟩ := hx
  obtain ⟨v, rfl, hv⟩ := hy
  by_cases h : decide (x < 0) = decide (y < 0)
  · rw [← h]
    refine (plusZ_same _ _ _ u v w hu hv lx ly).mono ?_
    rintro e w' ⟨r, rfl, hr, hb⟩
    refine ⟨_, rfl, ⟨r, ?_, ?_⟩, hb⟩
    · congr 4
      simp at h ⊢; omega
    · have : (x + y).natAbs = x.natAbs + y.natAbs := by simp at h; omega
      rw [this]; exact hr
  · have hpq : (decide (x < 0) == decide (y < 0)) = false := by simpa using h
    rcases Nat.lt_or_ge x.natAbs y.natAbs with hl | hl
    · refine (plusZ_small _ _ _ _ u v w hpq hu hv ly hl).mono ?_
      rintro e w' ⟨r, rfl, hr, hb⟩
      have e2 : (x + y).natAbs = y.natAbs - x.natAbs := by simp at h; omega
      refine ⟨_, rfl, ⟨r, ?_, by rw [e2]; exact hr⟩, hb⟩
      congr 4
      rw [Bool.eq_iff_iff]
      simp only [Bool.and_eq_true, decide_eq_true_eq, dig_len_pos]
      simp at h; omega
    · refine (plusZ_big _ _ _ _ u v w hpq hu hv lx hl).mono ?_
      rintro e w' ⟨r, rfl, hr, hb⟩
      have e2 : (x + y).natAbs = x.natAbs - y.natAbs := by simp at h; omega
      refine ⟨_, rfl, ⟨r, ?_, by rw [e2]; exact hr⟩, hb⟩
      congr 4
      rw [Bool.eq_iff_iff]
      simp only [Bool.and_eq_true, decide_eq_true_eq, dig_len_pos]
      simp at h; omega

end Go.Proofs.YtijhbmdbnnmogaaGreat
namespace Go.Proofs.YtijhbmdbnnmogaaGreat
open Go.RowKit

/-- the contracts' end for a whole number -/
def RetZ (w : World) (z : Int) (e : Ending) (w' : World) : Prop := ∃ r, e = .returned r ∧ ZV w' r z ∧ Below w.heap.size w w'

theorem ZV.open_ {w : World} {a : Value} {z : Int} (h : ZV w a z) : ∃ A n c, a = .agg #[.bool (decide (z < 0)), .slice A n c] ∧ Wd w (.slice A n c) (dig z.natAbs) ∧ n = (dig z.natAbs).length ∧ n ≤ 9223372036854775807 := by
  obtain ⟨v, rfl, hv⟩ := h
  obtain ⟨A, n, c, rfl⟩ := hv.slice_
  exact ⟨A, n, c, rfl, hv, hv.len, hv.len_le⟩
theorem ZV.mk {w : World} {v : Value} {z : Int} {b : Bool} (hb : b = decide (z < 0)) (hv : Wd w v (dig z.natAbs)) : ZV w (.agg #[.bool b, v]) z := ⟨v, by rw [hb], hv⟩

/-- a contract's result written out as a struct -/
theorem asAgg {P : Program} {f : FuncId} {args : Array Value} {w : World} {z : Int} (h : Calls P f args w (RetZ w z)) :
    Calls P f args w fun e w' => ∃ b A n c, e = .returned (.agg #[.bool b, .slice A n c]) ∧ ZV w' (.agg #[.bool b, .slice A n c]) z ∧ Below w.heap.size w w' := by
  refine h.mono ?_
  rintro e w' ⟨r, rfl, hr, hb⟩
  obtain ⟨A, n, c, rfl, h1, _, _⟩ := hr.open_
  exact ⟨_, A, n, c, rfl, hr, hb⟩

theorem RB.b1 (w : World) (a : Bool) (A : Option Addr) (n c : Nat) (t : TypeId) (o2 : Obj) : RB ((w.alloc (.cells #[.bool a, .slice A n c] t)).alloc o2) w.heap.size :=
  ⟨a, A, n, c, t, by rw [Below.heap_alloc _ _ _ (by simp), heap_alloc_new]⟩
theorem RB.b2 (w : World) (a : Bool) (A : Option Addr) (n c : Nat) (t : TypeId) (o1 : Obj) : RB ((w.alloc o1).alloc (.cells #[.bool a, .slice A n c] t)) (w.heap.size + 1) :=
  ⟨a, A, n, c, t, by
    have := heap_alloc_new (w.alloc o1) (.cells #[.bool a, .slice A n c] t)
    simpa using this⟩
theorem RB.c1 (w : World) (a : Bool) (A : Option Addr) (n c : Nat) (t : TypeId) : RB (w.alloc (.cells #[.bool a, .slice A n c] t)) w.heap.size := ⟨a, A, n, c, t, heap_alloc_new _ _⟩

set_option maxRecDepth 100000 in
/-- whole.opposite -/
theorem oppositeZ_any (z : Int) (a : Value) (w : World) (ha : ZV w a z) : Calls Tryz.prog 212 #[a] w (RetZ w (-z)) := by
  obtain ⟨A, n, c, rfl, hv, hn, hl⟩ := ha.open_
  obtain ⟨p, hp⟩ : ∃ p, p = decide (z < 0) := ⟨_, rfl⟩
  rw [← hp]
  have Hp := Lib.hid hp; clear hp ha
  have Hn := Lib.hid hn; clear hn
  have Hv := Lib.hid hv; clear hv
  go_enter Tryz.func212, Tryz.ntmps212
  go_wp2_with fail
  refine (signed_any (!p) A n c _ hl).mono ?_
  rintro e w1 ⟨rfl, hb1⟩
  have hR := (RB.b2 w false none 0 0 152 (Obj.cells #[.bool p, .slice A n c] 152)).below hb1 (by simp)
  obtain ⟨a0, A0, n0, c0, k10, k11, k20, k21⟩ := hR.facts
  have s0 := hR.set0 (!p && decide (0 < n)) (.slice A n c)
  have s1 := hR.set1 (!p && decide (0 < n)) (.slice A n c)
  have hb := (below2 w (Obj.cells #[.bool p, .slice A n c] 152) (Obj.cells #[.bool false, .slice none 0 0] 152)).trans (hb1.mono (by simp; omega))
  have fin := And.intro ((Hv.out.below hb).rb hR (.bool (!p && decide (0 < n))) (.slice A n c)) (below_set2 (g := w.heap.size + 1) (i := 0) (j := 1) hb (by omega) (.bool (!p && decide (0 < n))) (.slice A n c))
  have Fin := Lib.hid fin; clear fin hR hb hb1
  go_wp2
  refine bodyPost_ret (v := .agg #[.bool (!p && decide (0 < n)), .slice A n c]) (by simp [results, Tryz.results212, go_sem, s0, s1]) rfl ⟨_, rfl, ZV.mk ?_ ?_, Fin.out.2⟩
  · rw [Hp.out, Hn.out, Bool.eq_iff_iff]
    simp only [Bool.and_eq_true, Bool.not_eq_true', decide_eq_false_iff_not, decide_eq_true_eq, dig_len_pos]
    omega
  · rw [Int.natAbs_neg]; exact Fin.out.1

/-- whole.sign -/
theorem signZ_any (z : Int) (a : Value) (w : World) (ha : ZV w a z) : Calls Tryz.prog 168 #[a] w fun e w' => e = .returned (.int .i64 z.sign) ∧ Below w.heap.size w w' := by
  obtain ⟨A, n, c, rfl, hv, hn, hl⟩ := ha.open_
  have hn0 := @dig_len_pos z.natAbs
  rw [← hn] at hn0
  have Hb := Lib.hid (below_alloc w (Obj.cells #[.bool (decide (z < 0)), .slice A n c] 152))
  clear ha hv hn
  rcases Int.lt_trichotomy z 0 with h | h | h
  · have e1 : decide (z < 0) = true := by simpa using h
    have h0 : 0 < n := hn0.2 (by omega)
    rw [Int.sign_eq_neg_one_of_neg h]
    rw [e1] at Hb ⊢
    clear e1 hn0
    go_enter Tryz.func168, Tryz.ntmps168
    go_wp2
    go_ret
    exact ⟨rfl, Hb.out⟩
  · have e1 : decide (z < 0) = false := by simp; omega
    have h0 : n = 0 := by
      rcases Nat.eq_zero_or_pos n with h1 | h1
      · exact h1
      · have := hn0.1 h1; omega
    subst h0 h
    rw [Int.sign_zero]
    rw [e1] at Hb ⊢
    clear hn0 e1
    go_enter Tryz.func168, Tryz.ntmps168
    go_wp2
    go_ret
    exact ⟨rfl, Hb.out⟩
  · have e1 : decide (z < 0) = false := by simp; omega
    have h0 : 0 < n := hn0.2 (by omega)
    rw [Int.sign_eq_one_of_pos h]
    rw [e1] at Hb ⊢
    clear e1 hn0
    go_enter Tryz.func168, Tryz.ntmps168
    go_wp2
    go_ret
    exact ⟨rfl, Hb.out⟩
end Go.Proofs.YtijhbmdbnnmogaaGreat
