/- Walks: combine, Add, Sub, Mul, Cmp. · A block that holds a sign and words, kept over what follows. (L4 has the same words: never import both.) · Worlds that only grow: for regions that draw the order of calls and new blocks. -/
import Derived.Test.YtijhbmdbnnmogaaGreatM15
namespace Go.Proofs.YtijhbmdbnnmogaaGreat
open Go.RowKit

/-- two Ints side by side, as the slice of a variadic call -/
theorem allValid_two (p q : Bool) (A A' : Option Addr) (n c n' c' : Nat) (l l' : List Nat) (w W : World) (g : Nat) (hW : W.heap[g]? = some (.cells #[.bool p, .slice A n c, .bool q, .slice A' n' c'] 56 (0, 0)))
    (hx : Wd W (.slice A n c) l) (hy : Wd W (.slice A' n' c') l') :
    Calls Tryz.prog 120 #[.slice (some ⟨g, 0, none⟩) 2 2] W fun e w' => e = .returned (.bool (vld p l && vld q l')) ∧ Below W.heap.size W w' := by
  have hg : g < W.heap.size := (Array.getElem?_eq_some_iff.1 hW).1
  have h := allValid_any 2 2 g (fun i => if i = 0 then p else q) (fun i => if i = 0 then A else A') (fun i => if i = 0 then n else n') (fun i => if i = 0 then c else c') (fun i => if i = 0 then l else l') W (by omega) hg
    (fun i hi => by
      rw [cell_of_row W g _ _ 56 (0, 0) hW]
      rcases (by omega : i = 0 ∨ i = 1) with rfl | rfl <;> rfl)
    (fun i hi => by
      rw [cell_of_row W g _ _ 56 (0, 0) hW]
      rcases (by omega : i = 0 ∨ i = 1) with rfl | rfl <;> rfl)
    (fun i hi => by
      rcases (by omega : i = 0 ∨ i = 1) with rfl | rfl
      · exact hx
      · exact hy)
  refine h.mono ?_
  rintro e w' ⟨rfl, hb⟩
  exact ⟨by simp [List.range, List.range.loop], hb⟩

theorem allValid_one (p : Bool) (A : Option Addr) (n c : Nat) (l : List Nat) (W : World) (g : Nat) (hW : W.heap[g]? = some (.cells #[.bool p, .slice A n c] 56 (0, 0)))
    (hx : Wd W (.slice A n c) l) :
    Calls Tryz.prog 120 #[.slice (some ⟨g, 0, none⟩) 1 1] W fun e w' => e = .returned (.bool (vld p l)) ∧ Below W.heap.size W w' := by
  have hg : g < W.heap.size := (Array.getElem?_eq_some_iff.1 hW).1
  have h := allValid_any 1 1 g (fun _ => p) (fun _ => A) (fun _ => n) (fun _ => c) (fun _ => l) W (by omega) hg
    (fun i hi => by
      rw [cell_of_row W g _ _ 56 (0, 0) hW]
      obtain rfl : i = 0 := by omega
      rfl)
    (fun i hi => by
      rw [cell_of_row W g _ _ 56 (0, 0) hW]
      obtain rfl : i = 0 := by omega
      rfl)
    (fun i hi => hx)
  refine h.mono ?_
  rintro e w' ⟨rfl, hb⟩
  exact ⟨by simp [List.range, List.range.loop], hb⟩

theorem below4 (w : World) (o1 o2 o3 o4 : Obj) : Below w.heap.size w ((((w.alloc o1).alloc o2).alloc o3).alloc o4) := (below3 w o1 o2 o3).alloc (by simp; omega) o4

set_option maxHeartbeats 800000 in
set_option maxRecDepth 100000 in
theorem combineAdd_no (p q : Bool) (A A' : Option Addr) (n c n' c' : Nat) (l l' : List Nat) (w : World) (hx : Wd w (.slice A n c) l) (hy : Wd w (.slice A' n' c') l') (hno : (vld p l && vld q l') = false) :
    Calls Tryz.prog 213 #[.agg #[.bool p, .slice A n c], .agg #[.bool q, .slice A' n' c'], .func (.func 206) #[] #[]] w fun e w' => e = .returned (.tuple #[.agg #[.bool false, .slice none 0 0], .int .i64 2]) ∧ Below w.heap.size w w' := by
  have Hx := Lib.hid hx; clear hx
  have Hy := Lib.hid hy; clear hy
  have Hno := Lib.hid hno; clear hno
  go_enter Tryz.func213, Tryz.ntmps213
  go_wp2_with fail
  have hb4 := below4 w (Obj.cells #[.bool p, .slice A n c] 56) (Obj.cells #[.bool q, .slice A' n' c'] 56) (Obj.cells #[.bool false, .slice none 0 0] 56) (Obj.cells #[.bool p, .slice A n c, .bool q, .slice A' n' c'] 56)
  have hR3 := (RB.a3 w false none 0 0 56 (Obj.cells #[.bool p, .slice A n c] 56) (Obj.cells #[.bool q, .slice A' n' c'] 56)).alloc (Obj.cells #[.bool p, .slice A n c, .bool q, .slice A' n' c'] 56)
  refine (allValid_two p q A A' n c n' c' l l' w _ _ (by have := heap_alloc_new (((w.alloc (Obj.cells #[.bool p, .slice A n c] 56)).alloc (Obj.cells #[.bool q, .slice A' n' c'] 56)).alloc (Obj.cells #[.bool false, .slice none 0 0] 56)) (Obj.cells #[.bool p, .slice A n c, .bool q, .slice A' n' c'] 56); simpa using this) (Hx.out.below hb4) (Hy.out.below hb4)).mono ?_
  rintro e w1 ⟨rfl, hb1⟩
  rw [Hno.out]
  have hR := hR3.below hb1 (by simp <;> omega)
  obtain ⟨a0, A0, n0, c0, k10, k11, k20, k21⟩ := hR.facts
  have s0 := hR.set0 false (.slice none 0 0)
  have s1 := hR.set1 false (.slice none 0 0)
  have fin := below_set2 (g := w.heap.size + 1 + 1) (i := 0) (j := 1) (hb4.trans (hb1.mono (by simp <;> omega))) (by omega) (.bool false) (.slice none 0 0)
  have Fin := Lib.hid fin; clear fin hb1 hb4 hR hR3
  go_wp2
  exact bodyPost_ret (v := .tuple #[.agg #[.bool false, .slice none 0 0], .int .i64 2]) (by simp [results, Tryz.results213, go_sem, s0, s1]) rfl ⟨rfl, Fin.out⟩
set_option maxHeartbeats 800000 in
set_option maxRecDepth 100000 in
theorem combineAdd_yes (x y : Int) (p q : Bool) (A A' : Option Addr) (n c n' c' : Nat) (l l' : List Nat) (w : World) (hx : Wd w (.slice A n c) l) (hy : Wd w (.slice A' n' c') l') (hp : vld p l = true) (hq : vld q l' = true)
    (ex : x = numOf p l) (ey : y = numOf q l') (hfit : (dig (x + y).natAbs).length ≤ 256) :
    Calls Tryz.prog 213 #[.agg #[.bool p, .slice A n c], .agg #[.bool q, .slice A' n' c'], .func (.func 206) #[] #[]] w fun e w' => ∃ b A n c, e = .returned (.tuple #[.agg #[.bool b, .slice A n c], .int .i64 0]) ∧ ZV w' (.agg #[.bool b, .slice A n c]) (x + y) ∧ Below w.heap.size w w' := by
  have zx := vld_zv hx hp
  have zy := vld_zv hy hq
  have lx : (dig x.natAbs).length ≤ 256 := by rw [ex, vld_dig hx.ok hp]; exact vld_len hp
  have ly : (dig y.natAbs).length ≤ 256 := by rw [ey, vld_dig hy.ok hq]; exact vld_len hq
  rw [← ex] at zx
  rw [← ey] at zy
  have hyes : (vld p l && vld q l') = true := by rw [hp, hq]; rfl
  have Hx := Lib.hid hx; clear hx
  have Hy := Lib.hid hy; clear hy
  have Zx := Lib.hid zx; clear zx
  have Zy := Lib.hid zy; clear zy
  have Hyes := Lib.hid hyes; clear hyes hp hq ex ey
  go_enter Tryz.func213, Tryz.ntmps213
  go_wp2_with fail
  have hb4 := below4 w (Obj.cells #[.bool p, .slice A n c] 56) (Obj.cells #[.bool q, .slice A' n' c'] 56) (Obj.cells #[.bool false, .slice none 0 0] 56) (Obj.cells #[.bool p, .slice A n c, .bool q, .slice A' n' c'] 56)
  have hR3 := (RB.a3 w false none 0 0 56 (Obj.cells #[.bool p, .slice A n c] 56) (Obj.cells #[.bool q, .slice A' n' c'] 56)).alloc (Obj.cells #[.bool p, .slice A n c, .bool q, .slice A' n' c'] 56)
  have o10 : ((((w.alloc (Obj.cells #[.bool p, .slice A n c] 56)).alloc (Obj.cells #[.bool q, .slice A' n' c'] 56)).alloc (Obj.cells #[.bool false, .slice none 0 0] 56)).alloc (Obj.cells #[.bool p, .slice A n c, .bool q, .slice A' n' c'] 56)).cell? ⟨w.heap.size, 0, none⟩ = some (.bool p) := by
    rw [World.cell?_alloc_past _ _ _ (by simp <;> omega)]; exact old1 0
  have o11 : ((((w.alloc (Obj.cells #[.bool p, .slice A n c] 56)).alloc (Obj.cells #[.bool q, .slice A' n' c'] 56)).alloc (Obj.cells #[.bool false, .slice none 0 0] 56)).alloc (Obj.cells #[.bool p, .slice A n c, .bool q, .slice A' n' c'] 56)).cell? ⟨w.heap.size, 1, none⟩ = some (.slice A n c) := by
    rw [World.cell?_alloc_past _ _ _ (by simp <;> omega)]; exact old1 1
  have o20 : ((((w.alloc (Obj.cells #[.bool p, .slice A n c] 56)).alloc (Obj.cells #[.bool q, .slice A' n' c'] 56)).alloc (Obj.cells #[.bool false, .slice none 0 0] 56)).alloc (Obj.cells #[.bool p, .slice A n c, .bool q, .slice A' n' c'] 56)).cell? ⟨w.heap.size + 1, 0, none⟩ = some (.bool q) := by
    rw [World.cell?_alloc_past _ _ _ (by simp <;> omega)]; exact old2 0
  have o21 : ((((w.alloc (Obj.cells #[.bool p, .slice A n c] 56)).alloc (Obj.cells #[.bool q, .slice A' n' c'] 56)).alloc (Obj.cells #[.bool false, .slice none 0 0] 56)).alloc (Obj.cells #[.bool p, .slice A n c, .bool q, .slice A' n' c'] 56)).cell? ⟨w.heap.size + 1, 1, none⟩ = some (.slice A' n' c') := by
    rw [World.cell?_alloc_past _ _ _ (by simp <;> omega)]; exact old2 1
  refine (allValid_two p q A A' n c n' c' l l' w _ _ (by have := heap_alloc_new (((w.alloc (Obj.cells #[.bool p, .slice A n c] 56)).alloc (Obj.cells #[.bool q, .slice A' n' c'] 56)).alloc (Obj.cells #[.bool false, .slice none 0 0] 56)) (Obj.cells #[.bool p, .slice A n c, .bool q, .slice A' n' c'] 56); simpa using this) (Hx.out.below hb4) (Hy.out.below hb4)).mono ?_
  rintro e w1 ⟨rfl, hb1⟩
  rw [Hyes.out]
  have z1 : w.heap.size + 1 + 1 + 1 + 1 ≤ w1.heap.size := by have := hb1.size; simpa using this
  have m10 := keepAt hb1 (by simp <;> omega) o10
  have m11 := keepAt hb1 (by simp <;> omega) o11
  have m20 := keepAt hb1 (by simp <;> omega) o20
  have m21 := keepAt hb1 (by simp <;> omega) o21
  have hR1 := hR3.below hb1 (by simp <;> omega)
  have hb0 : Below w.heap.size w w1 := hb4.trans (hb1.mono (by simp <;> omega))
  clear o10 o11 o20 o21 hb4 hb1 hR3
  have Zx1 := Lib.hid (Zx.out.below hb0)
  have Zy1 := Lib.hid (Zy.out.below hb0)
  have Hb0 := Lib.hid hb0; clear hb0
  have HR1 := Lib.hid hR1; clear hR1
  have tk0 : True := trivial
  go_wp2_with fail
  go_region_held3 (fun w' => w'.cell? ⟨w.heap.size, 0, none⟩ = some (.bool p) ∧ w'.cell? ⟨w.heap.size, 1, none⟩ = some (.slice A n c) ∧ w'.cell? ⟨w.heap.size + 1, 0, none⟩ = some (.bool q) ∧ w'.cell? ⟨w.heap.size + 1, 1, none⟩ = some (.slice A' n' c'))
    (first | exact ⟨m10, m11, m20, m21⟩ | (go_split_ands; exact ⟨(far2 (by omega)).trans (by assumption), (far2 (by omega)).trans (by assumption), (far2 (by omega)).trans (by assumption), (far2 (by omega)).trans (by assumption)⟩) | (go_split_ands; exact ⟨keepAt hb2 (by show _ < w1.heap.size; omega) (by assumption), keepAt hb2 (by show _ < w1.heap.size; omega) (by assumption), keepAt hb2 (by show _ < w1.heap.size; omega) (by assumption), keepAt hb2 (by show _ < w1.heap.size; omega) (by assumption)⟩) | (go_split_ands; exact ⟨keepAt hb3 (by omega) (by assumption), keepAt hb3 (by omega) (by assumption), keepAt hb3 (by omega) (by assumption), keepAt hb3 (by omega) (by assumption)⟩) | (go_split_ands; exact ⟨keepAt hb4 (by omega) (by assumption), keepAt hb4 (by omega) (by assumption), keepAt hb4 (by omega) (by assumption), keepAt hb4 (by omega) (by assumption)⟩) | (go_split_ands; exact ⟨keepAt hb5 (by omega) (by assumption), keepAt hb5 (by omega) (by assumption), keepAt hb5 (by omega) (by assumption), keepAt hb5 (by omega) (by assumption)⟩))
    (first | (go_at_call 121; have _t := tk0; refine (wholeOf_any p A n c _).mono ?_; rintro e w2 ⟨rfl, hb2⟩; clear tk0; have tk1 : True := trivial; have z2 : w1.heap.size ≤ w2.heap.size := (undrew hb2).size; have zx2 := Zx1.out.below (undrew hb2); have zy2 := Zy1.out.below (undrew hb2); have hR2 := HR1.out.below (undrew hb2) (by show _ < w1.heap.size; omega)) | (go_at_call 121; have _t := tk1; refine (wholeOf_any q A' n' c' _).mono ?_; rintro e w3 ⟨rfl, hb3⟩; have z3 := hb3.size; have zx3 := zx2.below hb3; have zy3 := zy2.below hb3; have hR3 := hR2.below hb3 (by omega)) | (go_at_call 206; refine (asAgg (plusZ_any x y _ _ _ zx3 zy3 (by omega) (by omega))).mono ?_; rintro e w4 ⟨b4, A4, n4, c4, rfl, hr, hb4⟩; have z4 := hb4.size; have hR4 := hR3.below hb4 (by omega)) | (go_at_call 232; refine (fitInt_yes _ _ _ hr hfit).mono ?_; rintro e w5 ⟨b6, A6, n6, c6, rfl, hr6, hb5⟩; have z5 := hb5.size; have hR := hR4.below hb5 (by omega); obtain ⟨a0, A0, n0, c0, k10, k11, k20, k21⟩ := hR.facts))
  have s0 := hR.set0 b6 (.slice A6 n6 c6)
  have s1 := hR.set1 b6 (.slice A6 n6 c6)
  have fin := And.intro (hr6.rb hR (.bool b6) (.slice A6 n6 c6)) (below_set2 (g := w.heap.size + 1 + 1) (i := 0) (j := 1) ((((Hb0.out.trans ((undrew hb2).mono (by show _ ≤ w1.heap.size; omega))).trans (hb3.mono (by omega))).trans (hb4.mono (by omega))).trans (hb5.mono (by omega))) (by omega) (.bool b6) (.slice A6 n6 c6))
  have Fin := Lib.hid fin; clear fin
  go_wp2
  exact bodyPost_ret (v := .tuple #[.agg #[.bool b6, .slice A6 n6 c6], .int .i64 0]) (by simp [results, Tryz.results213, go_sem, s0, s1]) rfl ⟨b6, A6, n6, c6, rfl, Fin.out.1, Fin.out.2⟩
set_option maxHeartbeats 800000 in
set_option maxRecDepth 100000 in
theorem combineAdd_big (x y : Int) (p q : Bool) (A A' : Option Addr) (n c n' c' : Nat) (l l' : List Nat) (w : World) (hx : Wd w (.slice A n c) l) (hy : Wd w (.slice A' n' c') l') (hp : vld p l = true) (hq : vld q l' = true)
    (ex : x = numOf p l) (ey : y = numOf q l') (hfit : 256 < (dig (x + y).natAbs).length) :
    Calls Tryz.prog 213 #[.agg #[.bool p, .slice A n c], .agg #[.bool q, .slice A' n' c'], .func (.func 206) #[] #[]] w fun e w' => e = .returned (.tuple #[.agg #[.bool false, .slice none 0 0], .int .i64 5]) ∧ Below w.heap.size w w' := by
  have zx := vld_zv hx hp
  have zy := vld_zv hy hq
  have lx : (dig x.natAbs).length ≤ 256 := by rw [ex, vld_dig hx.ok hp]; exact vld_len hp
  have ly : (dig y.natAbs).length ≤ 256 := by rw [ey, vld_dig hy.ok hq]; exact vld_len hq
  rw [← ex] at zx
  rw [← ey] at zy
  have hyes : (vld p l && vld q l') = true := by rw [hp, hq]; rfl
  have Hx := Lib.hid hx; clear hx
  have Hy := Lib.hid hy; clear hy
  have Zx := Lib.hid zx; clear zx
  have Zy := Lib.hid zy; clear zy
  have Hyes := Lib.hid hyes; clear hyes hp hq ex ey
  go_enter Tryz.func213, Tryz.ntmps213
  go_wp2_with fail
  have hb4 := below4 w (Obj.cells #[.bool p, .slice A n c] 56) (Obj.cells #[.bool q, .slice A' n' c'] 56) (Obj.cells #[.bool false, .slice none 0 0] 56) (Obj.cells #[.bool p, .slice A n c, .bool q, .slice A' n' c'] 56)
  have hR3 := (RB.a3 w false none 0 0 56 (Obj.cells #[.bool p, .slice A n c] 56) (Obj.cells #[.bool q, .slice A' n' c'] 56)).alloc (Obj.cells #[.bool p, .slice A n c, .bool q, .slice A' n' c'] 56)
  have o10 : ((((w.alloc (Obj.cells #[.bool p, .slice A n c] 56)).alloc (Obj.cells #[.bool q, .slice A' n' c'] 56)).alloc (Obj.cells #[.bool false, .slice none 0 0] 56)).alloc (Obj.cells #[.bool p, .slice A n c, .bool q, .slice A' n' c'] 56)).cell? ⟨w.heap.size, 0, none⟩ = some (.bool p) := by
    rw [World.cell?_alloc_past _ _ _ (by simp <;> omega)]; exact old1 0
  have o11 : ((((w.alloc (Obj.cells #[.bool p, .slice A n c] 56)).alloc (Obj.cells #[.bool q, .slice A' n' c'] 56)).alloc (Obj.cells #[.bool false, .slice none 0 0] 56)).alloc (Obj.cells #[.bool p, .slice A n c, .bool q, .slice A' n' c'] 56)).cell? ⟨w.heap.size, 1, none⟩ = some (.slice A n c) := by
    rw [World.cell?_alloc_past _ _ _ (by simp <;> omega)]; exact old1 1
  have o20 : ((((w.alloc (Obj.cells #[.bool p, .slice A n c] 56)).alloc (Obj.cells #[.bool q, .slice A' n' c'] 56)).alloc (Obj.cells #[.bool false, .slice none 0 0] 56)).alloc (Obj.cells #[.bool p, .slice A n c, .bool q, .slice A' n' c'] 56)).cell? ⟨w.heap.size + 1, 0, none⟩ = some (.bool q) := by
    rw [World.cell?_alloc_past _ _ _ (by simp <;> omega)]; exact old2 0
  have o21 : ((((w.alloc (Obj.cells #[.bool p, .slice A n c] 56)).alloc (Obj.cells #[.bool q, .slice A' n' c'] 56)).alloc (Obj.cells #[.bool false, .slice none 0 0] 56)).alloc (Obj.cells #[.bool p, .slice A n c, .bool q, .slice A' n' c'] 56)).cell? ⟨w.heap.size + 1, 1, none⟩ = some (.slice A' n' c') := by
    rw [World.cell?_alloc_past _ _ _ (by simp <;> omega)]; exact old2 1
  refine (allValid_two p q A A' n c n' c' l l' w _ _ (by have := heap_alloc_new (((w.alloc (Obj.cells #[.bool p, .slice A n c] 56)).alloc (Obj.cells #[.bool q, .slice A' n' c'] 56)).alloc (Obj.cells #[.bool false, .slice none 0 0] 56)) (Obj.cells #[.bool p, .slice A n c, .bool q, .slice A' n' c'] 56); simpa using this) (Hx.out.below hb4) (Hy.out.below hb4)).mono ?_
  rintro e w1 ⟨rfl, hb1⟩
  rw [Hyes.out]
  have z1 : w.heap.size + 1 + 1 + 1 + 1 ≤ w1.heap.size := by have := hb1.size; simpa using this
  have m10 := keepAt hb1 (by simp <;> omega) o10
  have m11 := keepAt hb1 (by simp <;> omega) o11
  have m20 := keepAt hb1 (by simp <;> omega) o20
  have m21 := keepAt hb1 (by simp <;> omega) o21
  have hR1 := hR3.below hb1 (by simp <;> omega)
  have hb0 : Below w.heap.size w w1 := hb4.trans (hb1.mono (by simp <;> omega))
  clear o10 o11 o20 o21 hb4 hb1 hR3
  have Zx1 := Lib.hid (Zx.out.below hb0)
  have Zy1 := Lib.hid (Zy.out.below hb0)
  have Hb0 := Lib.hid hb0; clear hb0
  have HR1 := Lib.hid hR1; clear hR1
  have tk0 : True := trivial
  go_wp2_with fail
  go_region_held3 (fun w' => w'.cell? ⟨w.heap.size, 0, none⟩ = some (.bool p) ∧ w'.cell? ⟨w.heap.size, 1, none⟩ = some (.slice A n c) ∧ w'.cell? ⟨w.heap.size + 1, 0, none⟩ = some (.bool q) ∧ w'.cell? ⟨w.heap.size + 1, 1, none⟩ = some (.slice A' n' c'))
    (first | exact ⟨m10, m11, m20, m21⟩ | (go_split_ands; exact ⟨(far2 (by omega)).trans (by assumption), (far2 (by omega)).trans (by assumption), (far2 (by omega)).trans (by assumption), (far2 (by omega)).trans (by assumption)⟩) | (go_split_ands; exact ⟨keepAt hb2 (by show _ < w1.heap.size; omega) (by assumption), keepAt hb2 (by show _ < w1.heap.size; omega) (by assumption), keepAt hb2 (by show _ < w1.heap.size; omega) (by assumption), keepAt hb2 (by show _ < w1.heap.size; omega) (by assumption)⟩) | (go_split_ands; exact ⟨keepAt hb3 (by omega) (by assumption), keepAt hb3 (by omega) (by assumption), keepAt hb3 (by omega) (by assumption), keepAt hb3 (by omega) (by assumption)⟩) | (go_split_ands; exact ⟨keepAt hb4 (by omega) (by assumption), keepAt hb4 (by omega) (by assumption), keepAt hb4 (by omega) (by assumption), keepAt hb4 (by omega) (by assumption)⟩) | (go_split_ands; exact ⟨keepAt hb5 (by omega) (by assumption), keepAt hb5 (by omega) (by assumption), keepAt hb5 (by omega) (by assumption), keepAt hb5 (by omega) (by assumption)⟩))
    (first | (go_at_call 121; have _t := tk0; refine (wholeOf_any p A n c _).mono ?_; rintro e w2 ⟨rfl, hb2⟩; clear tk0; have tk1 : True := trivial; have z2 : w1.heap.size ≤ w2.heap.size := (undrew hb2).size; have zx2 := Zx1.out.below (undrew hb2); have zy2 := Zy1.out.below (undrew hb2); have hR2 := HR1.out.below (undrew hb2) (by show _ < w1.heap.size; omega)) | (go_at_call 121; have _t := tk1; refine (wholeOf_any q A' n' c' _).mono ?_; rintro e w3 ⟨rfl, hb3⟩; have z3 := hb3.size; have zx3 := zx2.below hb3; have zy3 := zy2.below hb3; have hR3 := hR2.below hb3 (by omega)) | (go_at_call 206; refine (asAgg (plusZ_any x y _ _ _ zx3 zy3 (by omega) (by omega))).mono ?_; rintro e w4 ⟨b4, A4, n4, c4, rfl, hr, hb4⟩; have z4 := hb4.size; have hR4 := hR3.below hb4 (by omega)) | (go_at_call 232; refine (fitInt_no _ _ _ hr hfit).mono ?_; rintro e w5 ⟨rfl, hb5⟩; have z5 := hb5.size; have hR := hR4.below hb5 (by omega); obtain ⟨a0, A0, n0, c0, k10, k11, k20, k21⟩ := hR.facts))
  have s0 := hR.set0 false (.slice none 0 0)
  have s1 := hR.set1 false (.slice none 0 0)
  have fin := (below_set2 (g := w.heap.size + 1 + 1) (i := 0) (j := 1) ((((Hb0.out.trans ((undrew hb2).mono (by show _ ≤ w1.heap.size; omega))).trans (hb3.mono (by omega))).trans (hb4.mono (by omega))).trans (hb5.mono (by omega))) (by omega) (.bool false) (.slice none 0 0))
  have Fin := Lib.hid fin; clear fin
  go_wp2
  exact bodyPost_ret (v := .tuple #[.agg #[.bool false, .slice none 0 0], .int .i64 5]) (by simp [results, Tryz.results213, go_sem, s0, s1]) rfl ⟨rfl, Fin.out⟩

end Go.Proofs.YtijhbmdbnnmogaaGreat
namespace Go.Proofs.YtijhbmdbnnmogaaGreat
open Go.RowKit

/-- block g holds a struct of the sign p and the words l -/
structure HW (W : World) (g : Nat) (p : Bool) (A : Option Addr) (n c : Nat) (l : List Nat) : Prop where
  r : RB W g
  c0 : W.cell? ⟨g, 0, none⟩ = some (.bool p)
  c1 : W.cell? ⟨g, 1, none⟩ = some (.slice A n c)
  w : Wd W (.slice A n c) l

section
variable {W W' : World} {g h : Nat} {p : Bool} {A : Option Addr} {n c : Nat} {l : List Nat}
theorem HW.next (H : HW W g p A n c l) (hb : Below W.heap.size W W') : HW W' g p A n c l :=
  ⟨H.r.below hb H.r.lt, keepAt hb H.r.lt H.c0, keepAt hb H.r.lt H.c1, H.w.below hb⟩
theorem HW.alloc (H : HW W g p A n c l) (o : Obj) : HW (W.alloc o) g p A n c l := H.next (below1 _ _)
theorem HW.far (H : HW W g p A n c l) (r : RB W h) (hne : g ≠ h) (u v : Value) : HW ((W.setCell ⟨h, 0, none⟩ u).setCell ⟨h, 1, none⟩ v) g p A n c l :=
  ⟨H.r.far r hne u v, (far2 hne).trans H.c0, (far2 hne).trans H.c1, H.w.rb r u v⟩
theorem HW.new (W : World) (p : Bool) (A : Option Addr) (n c : Nat) (l : List Nat) (t : TypeId) (hw : Wd W (.slice A n c) l) : HW (W.alloc (.cells #[.bool p, .slice A n c] t)) W.heap.size p A n c l :=
  ⟨RB.c1 W p A n c t, by rw [World.cell?_alloc_new]; rfl, by rw [World.cell?_alloc_new]; rfl, hw.below (below1 _ _)⟩
theorem HW.set (r : RB W g) (p : Bool) (A : Option Addr) (n c : Nat) (l : List Nat) (hw : Wd W (.slice A n c) l) : HW ((W.setCell ⟨g, 0, none⟩ (.bool p)).setCell ⟨g, 1, none⟩ (.slice A n c)) g p A n c l :=
  ⟨r.set p A n c, r.set0 p _, r.set1 p _, hw.rb r _ _⟩
end

theorem ZV.words {W : World} {b : Bool} {A : Option Addr} {n c : Nat} {z : Int} (h : ZV W (.agg #[.bool b, .slice A n c]) z) : b = decide (z < 0) ∧ Wd W (.slice A n c) (dig z.natAbs) := by
  obtain ⟨v, he, hv⟩ := h
  injection he with he
  have e0 : (.bool b : Value) = .bool (decide (z < 0)) := by
    have := congrArg (fun a : Array Value => a[0]?) he
    simpa using this
  have e1 : (.slice A n c : Value) = v := by
    have := congrArg (fun a : Array Value => a[1]?) he
    simpa using this
  refine ⟨?_, by rw [e1]; exact hv⟩
  injection e0


/-- what Div answers -/
def divQ (p q : Bool) (l l' : List Nat) : Int := if (vld p l && vld q l') = true then (if numOf q l' = 0 then 0 else numOf p l / numOf q l') else 0
def divR (p q : Bool) (l l' : List Nat) : Int := if (vld p l && vld q l') = true then (if numOf q l' = 0 then 0 else numOf p l % numOf q l') else 0
def divE (p q : Bool) (l l' : List Nat) : Int := if (vld p l && vld q l') = true then (if numOf q l' = 0 then 4 else 0) else 2

def RetDiv (w : World) (y z er : Int) (e : Ending) (w' : World) : Prop := ∃ b A n c b' A' n' c', e = .returned (.tuple #[.agg #[.bool b, .slice A n c], .agg #[.bool b', .slice A' n' c'], .int .i64 er]) ∧ ZV w' (.agg #[.bool b, .slice A n c]) y ∧ ZV w' (.agg #[.bool b', .slice A' n' c']) z ∧ Below w.heap.size w w'

end Go.Proofs.YtijhbmdbnnmogaaGreat
namespace Go.Proofs.YtijhbmdbnnmogaaGreat
open Go.RowKit

/-- Y is X and more -/
def Ext (X Y : World) : Prop := Below X.heap.size X Y
theorem Ext.of {X Y : World} (h : Below X.heap.size X Y) : Ext X Y := h
theorem Ext.below {X Y : World} (h : Ext X Y) : Below X.heap.size X Y := h
theorem Ext.refl (X : World) : Ext X X := Below.refl _ _
theorem Ext.drew (X : World) : Ext X X.drew := (Below.refl _ _).drew
theorem Ext.drw {X Y : World} (h : Ext X Y) : Ext X Y.drew := Below.drew (B := X.heap.size) h
theorem Ext.trans {X Y Z : World} (h : Ext X Y) (k : Ext Y Z) : Ext X Z := Below.trans (B := X.heap.size) h (Below.mono k (Below.size h))
theorem Ext.alc {X Y : World} (h : Ext X Y) (o : Obj) : Ext X (Y.alloc o) := Below.alloc (B := X.heap.size) h (Below.size h) o
theorem Ext.sc {X Y : World} (h : Ext X Y) {g i : Nat} {v : Value} (hg : X.heap.size ≤ g) : Ext X (Y.setCell ⟨g, i, none⟩ v) := Below.setCell (B := X.heap.size) h (p := ⟨g, i, none⟩) hg v
theorem Ext.size {X Y : World} (h : Ext X Y) : X.heap.size ≤ Y.heap.size := Below.size h
theorem RB.ext {X Y : World} {g : Nat} (r : RB X g) (h : Ext X Y) : RB Y g := r.below h r.lt
theorem ZV.ext {X Y : World} {a : Value} {z : Int} (r : ZV X a z) (h : Ext X Y) : ZV Y a z := r.below h
theorem HW.ext {X Y : World} {g : Nat} {p : Bool} {A : Option Addr} {n c : Nat} {l : List Nat} (r : HW X g p A n c l) (h : Ext X Y) : HW Y g p A n c l := r.next h
theorem RB.extAt {X Y : World} {g : Nat} (r : RB X g) (h : Ext X Y) (g' : Nat) (e : g' = g) : RB Y g' := by subst e; exact r.ext h

/-- block g holds a struct that stands for z -/
def HZ (W : World) (g : Nat) (z : Int) : Prop := ∃ b A n c, W.cell? ⟨g, 0, none⟩ = some (.bool b) ∧ W.cell? ⟨g, 1, none⟩ = some (.slice A n c) ∧ ZV W (.agg #[.bool b, .slice A n c]) z

/-- two results in two new blocks of the last steps -/
theorem hz_new (X : World) (b1 : Bool) (A1 : Option Addr) (n1 c1 : Nat) (b2 : Bool) (A2 : Option Addr) (n2 c2 : Nat) (t : TypeId) {z1 z2 : Int}
    (h1 : ZV X (.agg #[.bool b1, .slice A1 n1 c1]) z1) (h2 : ZV X (.agg #[.bool b2, .slice A2 n2 c2]) z2) :
    HZ ((X.alloc (.cells #[.bool b1, .slice A1 n1 c1] t)).alloc (.cells #[.bool b2, .slice A2 n2 c2] t)) X.heap.size z1 ∧ HZ ((X.alloc (.cells #[.bool b1, .slice A1 n1 c1] t)).alloc (.cells #[.bool b2, .slice A2 n2 c2] t)) (X.heap.size + 1) z2 :=
  ⟨⟨b1, A1, n1, c1, by rw [World.cell?_alloc_past _ _ _ (by simp), World.cell?_alloc_new]; rfl, by rw [World.cell?_alloc_past _ _ _ (by simp), World.cell?_alloc_new]; rfl, (h1.below (below1 _ _)).below (below1 _ _)⟩,
   ⟨b2, A2, n2, c2, by rw [World.cell?_alloc_at _ _ _ _ (by simp)]; rfl, by rw [World.cell?_alloc_at _ _ _ _ (by simp)]; rfl, (h2.below (below1 _ _)).below (below1 _ _)⟩⟩

theorem HZ.ext {X Y : World} {g : Nat} {z : Int} (h : HZ X g z) (hg : g < X.heap.size) (e : Ext X Y) : HZ Y g z := by
  obtain ⟨b, A, n, c, h0, h1, h2⟩ := h
  exact ⟨b, A, n, c, keepAt e hg h0, keepAt e hg h1, h2.ext e⟩
theorem HZ.put {X : World} {g : Nat} {z : Int} (r : RB X g) {b : Bool} {A : Option Addr} {n c : Nat} (h : ZV X (.agg #[.bool b, .slice A n c]) z) : HZ ((X.setCell ⟨g, 0, none⟩ (.bool b)).setCell ⟨g, 1, none⟩ (.slice A n c)) g z :=
  ⟨b, A, n, c, r.set0 _ _, r.set1 _ _, h.rb r _ _⟩
theorem HZ.far {X : World} {g h : Nat} {z : Int} (H : HZ X g z) (r : RB X h) (hne : g ≠ h) (u v : Value) : HZ ((X.setCell ⟨h, 0, none⟩ u).setCell ⟨h, 1, none⟩ v) g z := by
  obtain ⟨b, A, n, c, h0, h1, h2⟩ := H
  exact ⟨b, A, n, c, (far2 hne).trans h0, (far2 hne).trans h1, h2.rb r _ _⟩
theorem HZ.lit (X : World) (b : Bool) (A : Option Addr) (n c : Nat) (t : TypeId) {z : Int} (h : ZV X (.agg #[.bool b, .slice A n c]) z) : HZ (X.alloc (.cells #[.bool b, .slice A n c] t)) X.heap.size z :=
  ⟨b, A, n, c, by rw [World.cell?_alloc_new]; rfl, by rw [World.cell?_alloc_new]; rfl, h.below (below1 _ _)⟩
theorem HZ.lt {X : World} {g : Nat} {z : Int} (H : HZ X g z) : g < X.heap.size := by
  obtain ⟨b, A, n, c, h0, -, -⟩ := H
  exact World.block_lt_of_cell? X ⟨g, 0, none⟩ h0

/-- behind a call with two struct results: two blocks hold them -/
def DivCut (w : World) (z1 z2 : Int) (g3 g4 : Nat) (a b : Value) (wx : World) : Prop :=
  ∃ g8 g9, a = .pointer (some ⟨g8, 0, none⟩) ∧ b = .pointer (some ⟨g9, 0, none⟩) ∧ HZ wx g8 z1 ∧ HZ wx g9 z2 ∧ RB wx g3 ∧ RB wx g4 ∧ Below w.heap.size w wx ∧ (g8 ≠ g3 ∧ g8 ≠ g4 ∧ g9 ≠ g3 ∧ g9 ≠ g4)

/-- the world behind the call -/
structure TwoZ (w X : World) (z1 z2 : Int) (g3 g4 B : Nat) (b1 : Bool) (A1 : Option Addr) (n1 c1 : Nat) (b2 : Bool) (A2 : Option Addr) (n2 c2 : Nat) : Prop where
  v1 : ZV X (.agg #[.bool b1, .slice A1 n1 c1]) z1
  v2 : ZV X (.agg #[.bool b2, .slice A2 n2 c2]) z2
  r3 : RB X g3
  r4 : RB X g4
  hb : Below w.heap.size w X
  l3 : g3 < B
  l4 : g4 < B
  lB : w.heap.size ≤ B

section
variable {w X : World} {z1 z2 : Int} {g3 g4 B : Nat} {b1 : Bool} {A1 : Option Addr} {n1 c1 : Nat} {b2 : Bool} {A2 : Option Addr} {n2 c2 : Nat} {t : TypeId}
theorem TwoZ.new (T : TwoZ w X z1 z2 g3 g4 B b1 A1 n1 c1 b2 A2 n2 c2) :
    DivCut w z1 z2 g3 g4 (.pointer (some ⟨X.heap.size, 0, none⟩)) (.pointer (some ⟨X.heap.size + 1, 0, none⟩)) ((X.alloc (.cells #[.bool b1, .slice A1 n1 c1] t)).alloc (.cells #[.bool b2, .slice A2 n2 c2] t)) := by
  obtain ⟨h1, h2⟩ := hz_new X b1 A1 n1 c1 b2 A2 n2 c2 t T.v1 T.v2
  exact ⟨_, _, rfl, rfl, h1, h2, T.r3.ext (((Ext.refl X).alc _).alc _), T.r4.ext (((Ext.refl X).alc _).alc _), T.hb.trans (Below.mono (((Ext.refl X).alc _).alc _) T.hb.size), by have := T.r3.lt; have := T.r4.lt; omega⟩
theorem TwoZ.new' (T : TwoZ w X z1 z2 g3 g4 B b1 A1 n1 c1 b2 A2 n2 c2) :
    DivCut w z1 z2 g3 g4 (.pointer (some ⟨X.heap.size + 1, 0, none⟩)) (.pointer (some ⟨X.heap.size, 0, none⟩)) ((X.alloc (.cells #[.bool b2, .slice A2 n2 c2] t)).alloc (.cells #[.bool b1, .slice A1 n1 c1] t)) := by
  obtain ⟨h1, h2⟩ := hz_new X b2 A2 n2 c2 b1 A1 n1 c1 t T.v2 T.v1
  exact ⟨_, _, rfl, rfl, h2, h1, T.r3.ext (((Ext.refl X).alc _).alc _), T.r4.ext (((Ext.refl X).alc _).alc _), T.hb.trans (Below.mono (((Ext.refl X).alc _).alc _) T.hb.size), by have := T.r3.lt; have := T.r4.lt; omega⟩
theorem TwoZ.mix (T : TwoZ w X z1 z2 g3 g4 B b1 A1 n1 c1 b2 A2 n2 c2) {g : Nat} (r : RB X g) (hg : B ≤ g) :
    DivCut w z1 z2 g3 g4 (.pointer (some ⟨g, 0, none⟩)) (.pointer (some ⟨X.heap.size, 0, none⟩)) (((X.setCell ⟨g, 0, none⟩ (.bool b1)).setCell ⟨g, 1, none⟩ (.slice A1 n1 c1)).alloc (.cells #[.bool b2, .slice A2 n2 c2] t)) := by
  have h1 := HZ.put r T.v1
  have h2 := T.v2.rb r (.bool b1) (.slice A1 n1 c1)
  have hl := HZ.lit _ b2 A2 n2 c2 t h2
  have hs : ((X.setCell ⟨g, 0, none⟩ (.bool b1)).setCell ⟨g, 1, none⟩ (.slice A1 n1 c1)).heap.size = X.heap.size := by simp [World.setCell]
  rw [hs] at hl
  have e := (Ext.refl ((X.setCell ⟨g, 0, none⟩ (.bool b1)).setCell ⟨g, 1, none⟩ (.slice A1 n1 c1))).alc (.cells #[.bool b2, .slice A2 n2 c2] t)
  have hb := below_set2 (i := 0) (j := 1) T.hb (Nat.le_trans T.lB hg) (.bool b1) (.slice A1 n1 c1)
  exact ⟨_, _, rfl, rfl, h1.ext h1.lt e, hl, (T.r3.far r (by have := T.l3; omega) _ _).ext e, (T.r4.far r (by have := T.l4; omega) _ _).ext e, hb.trans (Below.mono e hb.size), by have := T.r3.lt; have := T.r4.lt; have := T.l3; have := T.l4; omega⟩
theorem TwoZ.mix' (T : TwoZ w X z1 z2 g3 g4 B b1 A1 n1 c1 b2 A2 n2 c2) {g : Nat} (r : RB X g) (hg : B ≤ g) :
    DivCut w z1 z2 g3 g4 (.pointer (some ⟨X.heap.size, 0, none⟩)) (.pointer (some ⟨g, 0, none⟩)) (((X.setCell ⟨g, 0, none⟩ (.bool b2)).setCell ⟨g, 1, none⟩ (.slice A2 n2 c2)).alloc (.cells #[.bool b1, .slice A1 n1 c1] t)) := by
  have T' : TwoZ w X z2 z1 g3 g4 B b2 A2 n2 c2 b1 A1 n1 c1 := ⟨T.v2, T.v1, T.r3, T.r4, T.hb, T.l3, T.l4, T.lB⟩
  obtain ⟨_, _, e1, e2, h1, h2, h3, h4, h5, h6, h7, h8, h9⟩ := T'.mix (t := t) r hg
  exact ⟨_, _, e2, e1, h2, h1, h3, h4, h5, h8, h9, h6, h7⟩
theorem TwoZ.old (T : TwoZ w X z1 z2 g3 g4 B b1 A1 n1 c1 b2 A2 n2 c2) {g h : Nat} (r : RB X g) (s : RB X h) (hne : h ≠ g) (hg : B ≤ g) (hh : B ≤ h) :
    DivCut w z1 z2 g3 g4 (.pointer (some ⟨g, 0, none⟩)) (.pointer (some ⟨h, 0, none⟩)) ((((X.setCell ⟨g, 0, none⟩ (.bool b1)).setCell ⟨g, 1, none⟩ (.slice A1 n1 c1)).setCell ⟨h, 0, none⟩ (.bool b2)).setCell ⟨h, 1, none⟩ (.slice A2 n2 c2)) := by
  have h1 := HZ.put r T.v1
  have s' := s.far r hne (.bool b1) (.slice A1 n1 c1)
  have h2 := HZ.put s' (T.v2.rb r (.bool b1) (.slice A1 n1 c1))
  exact ⟨_, _, rfl, rfl, h1.far s' (by omega) _ _, h2, (T.r3.far r (by have := T.l3; omega) _ _).far s' (by have := T.l3; omega) _ _, (T.r4.far r (by have := T.l4; omega) _ _).far s' (by have := T.l4; omega) _ _, below_set2 (below_set2 T.hb (Nat.le_trans T.lB hg) _ _) (Nat.le_trans T.lB hh) _ _, by have := T.l3; have := T.l4; omega⟩
end
end Go.Proofs.YtijhbmdbnnmogaaGreat
