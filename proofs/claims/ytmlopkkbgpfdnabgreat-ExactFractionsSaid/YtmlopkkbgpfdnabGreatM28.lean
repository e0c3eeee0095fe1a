/- Walks: combine, Sub. · Walks: combine, Mul. · Walks: Add, Sub, Mul. · Walks: awake. -/
import Derived.Test.YtmlopkkbgpfdnabGreatM2
import Derived.Test.YtmlopkkbgpfdnabGreatM21
namespace Go.Proofs.YtmlopkkbgpfdnabGreat
open Go.RowKit

set_option maxHeartbeats 800000 in
set_option maxRecDepth 100000 in
theorem combineSub_no (p q : Bool) (A A' : Option Addr) (n c n' c' : Nat) (l l' : List Nat) (w : World) (hx : Wd w (.slice A n c) l) (hy : Wd w (.slice A' n' c') l') (hno : (vld p l && vld q l') = false) :
    Calls Tryz.prog 100 #[.agg #[.bool p, .slice A n c], .agg #[.bool q, .slice A' n' c'], .func (.func 125) #[] #[]] w fun e w' => e = .returned (.tuple #[.agg #[.bool false, .slice none 0 0], .int .i64 2]) ∧ Below w.heap.size w w' := by
  have Hx := Lib.hid hx; clear hx
  have Hy := Lib.hid hy; clear hy
  have Hno := Lib.hid hno; clear hno
  go_enter Tryz.func100, Tryz.ntmps100
  go_wp2_with fail
  have hb4 := below4 w (Obj.cells #[.bool p, .slice A n c] 24) (Obj.cells #[.bool q, .slice A' n' c'] 24) (Obj.cells #[.bool false, .slice none 0 0] 24) (Obj.cells #[.bool p, .slice A n c, .bool q, .slice A' n' c'] 24)
  have hR3 := (RB.a3 w false none 0 0 24 (Obj.cells #[.bool p, .slice A n c] 24) (Obj.cells #[.bool q, .slice A' n' c'] 24)).alloc (Obj.cells #[.bool p, .slice A n c, .bool q, .slice A' n' c'] 24)
  refine (allValid_two p q A A' n c n' c' l l' w _ _ (by have := heap_alloc_new (((w.alloc (Obj.cells #[.bool p, .slice A n c] 24)).alloc (Obj.cells #[.bool q, .slice A' n' c'] 24)).alloc (Obj.cells #[.bool false, .slice none 0 0] 24)) (Obj.cells #[.bool p, .slice A n c, .bool q, .slice A' n' c'] 24); simpa using this) (Hx.out.below hb4) (Hy.out.below hb4)).mono ?_
  rintro e w1 ⟨rfl, hb1⟩
  rw [Hno.out]
  have hR := hR3.below hb1 (by simp <;> omega)
  obtain ⟨a0, A0, n0, c0, k10, k11, k20, k21⟩ := hR.facts
  have s0 := hR.set0 false (.slice none 0 0)
  have s1 := hR.set1 false (.slice none 0 0)
  have fin := below_set2 (g := w.heap.size + 1 + 1) (i := 0) (j := 1) (hb4.trans (hb1.mono (by simp <;> omega))) (by omega) (.bool false) (.slice none 0 0)
  have Fin := Lib.hid fin; clear fin hb1 hb4 hR hR3
  go_wp2
  exact bodyPost_ret (v := .tuple #[.agg #[.bool false, .slice none 0 0], .int .i64 2]) (by simp [results, Tryz.results100, go_sem, s0, s1]) rfl ⟨rfl, Fin.out⟩
set_option maxHeartbeats 800000 in
set_option maxRecDepth 100000 in
theorem combineSub_yes (x y : Int) (p q : Bool) (A A' : Option Addr) (n c n' c' : Nat) (l l' : List Nat) (w : World) (hx : Wd w (.slice A n c) l) (hy : Wd w (.slice A' n' c') l') (hp : vld p l = true) (hq : vld q l' = true)
    (ex : x = numOf p l) (ey : y = numOf q l') (hfit : (dig (x - y).natAbs).length ≤ 256) :
    Calls Tryz.prog 100 #[.agg #[.bool p, .slice A n c], .agg #[.bool q, .slice A' n' c'], .func (.func 125) #[] #[]] w fun e w' => ∃ b A n c, e = .returned (.tuple #[.agg #[.bool b, .slice A n c], .int .i64 0]) ∧ ZV w' (.agg #[.bool b, .slice A n c]) (x - y) ∧ Below w.heap.size w w' := by
  have zx := vld_zv hx hp
  have zy := vld_zv hy hq
  have lx : (dig x.natAbs).length ≤ 256 := by rw [ex, vld_dig hx.ok hp]; exact vld_len hp
  have ly : (dig y.natAbs).length ≤ 256 := by rw [ey, vld_dig hy.ok hq]; exact vld_len hq
  rw [← ex] at zx
  rw [← ey] at zy
  have hyes : (vld p l && vld q l') = true := by rw [hp, hq]; rfl
  have Hx := Lib.hid hx; clear hx
  have Hy := Lib.hid hy; clear hy
  have Zx := Lib.hid zx; clear zx
  have Zy := Lib.hid zy; clear zy
  have Hyes := Lib.hid hyes; clear hyes hp hq ex ey
  go_enter Tryz.func100, Tryz.ntmps100
  go_wp2_with fail
  have hb4 := below4 w (Obj.cells #[.bool p, .slice A n c] 24) (Obj.cells #[.bool q, .slice A' n' c'] 24) (Obj.cells #[.bool false, .slice none 0 0] 24) (Obj.cells #[.bool p, .slice A n c, .bool q, .slice A' n' c'] 24)
  have hR3 := (RB.a3 w false none 0 0 24 (Obj.cells #[.bool p, .slice A n c] 24) (Obj.cells #[.bool q, .slice A' n' c'] 24)).alloc (Obj.cells #[.bool p, .slice A n c, .bool q, .slice A' n' c'] 24)
  have o10 : ((((w.alloc (Obj.cells #[.bool p, .slice A n c] 24)).alloc (Obj.cells #[.bool q, .slice A' n' c'] 24)).alloc (Obj.cells #[.bool false, .slice none 0 0] 24)).alloc (Obj.cells #[.bool p, .slice A n c, .bool q, .slice A' n' c'] 24)).cell? ⟨w.heap.size, 0, none⟩ = some (.bool p) := by
    rw [World.cell?_alloc_past _ _ _ (by simp <;> omega)]; exact old1 0
  have o11 : ((((w.alloc (Obj.cells #[.bool p, .slice A n c] 24)).alloc (Obj.cells #[.bool q, .slice A' n' c'] 24)).alloc (Obj.cells #[.bool false, .slice none 0 0] 24)).alloc (Obj.cells #[.bool p, .slice A n c, .bool q, .slice A' n' c'] 24)).cell? ⟨w.heap.size, 1, none⟩ = some (.slice A n c) := by
    rw [World.cell?_alloc_past _ _ _ (by simp <;> omega)]; exact old1 1
  have o20 : ((((w.alloc (Obj.cells #[.bool p, .slice A n c] 24)).alloc (Obj.cells #[.bool q, .slice A' n' c'] 24)).alloc (Obj.cells #[.bool false, .slice none 0 0] 24)).alloc (Obj.cells #[.bool p, .slice A n c, .bool q, .slice A' n' c'] 24)).cell? ⟨w.heap.size + 1, 0, none⟩ = some (.bool q) := by
    rw [World.cell?_alloc_past _ _ _ (by simp <;> omega)]; exact old2 0
  have o21 : ((((w.alloc (Obj.cells #[.bool p, .slice A n c] 24)).alloc (Obj.cells #[.bool q, .slice A' n' c'] 24)).alloc (Obj.cells #[.bool false, .slice none 0 0] 24)).alloc (Obj.cells #[.bool p, .slice A n c, .bool q, .slice A' n' c'] 24)).cell? ⟨w.heap.size + 1, 1, none⟩ = some (.slice A' n' c') := by
    rw [World.cell?_alloc_past _ _ _ (by simp <;> omega)]; exact old2 1
  refine (allValid_two p q A A' n c n' c' l l' w _ _ (by have := heap_alloc_new (((w.alloc (Obj.cells #[.bool p, .slice A n c] 24)).alloc (Obj.cells #[.bool q, .slice A' n' c'] 24)).alloc (Obj.cells #[.bool false, .slice none 0 0] 24)) (Obj.cells #[.bool p, .slice A n c, .bool q, .slice A' n' c'] 24); simpa using this) (Hx.out.below hb4) (Hy.out.below hb4)).mono ?_
  rintro e w1 ⟨rfl, hb1⟩
  rw [Hyes.out]
  have z1 : w.heap.size + 1 + 1 + 1 + 1 ≤ w1.heap.size := by have := hb1.size; simpa using this
  have m10 := keepAt hb1 (by simp <;> omega) o10
  have m11 := keepAt hb1 (by simp <;> omega) o11
  have m20 := keepAt hb1 (by simp <;> omega) o20
  have m21 := keepAt hb1 (by simp <;> omega) o21
  have hR1 := hR3.below hb1 (by simp <;> omega)
  have hb0 : Below w.heap.size w w1 := hb4.trans (hb1.mono (by simp <;> omega))
  clear o10 o11 o20 o21 hb4 hb1 hR3
  have Zx1 := Lib.hid (Zx.out.below hb0)
  have Zy1 := Lib.hid (Zy.out.below hb0)
  have Hb0 := Lib.hid hb0; clear hb0
  have HR1 := Lib.hid hR1; clear hR1
  have tk0 : True := trivial
  go_wp2_with fail
  go_region_held3 (fun w' => w'.cell? ⟨w.heap.size, 0, none⟩ = some (.bool p) ∧ w'.cell? ⟨w.heap.size, 1, none⟩ = some (.slice A n c) ∧ w'.cell? ⟨w.heap.size + 1, 0, none⟩ = some (.bool q) ∧ w'.cell? ⟨w.heap.size + 1, 1, none⟩ = some (.slice A' n' c'))
    (first | exact ⟨m10, m11, m20, m21⟩ | (go_split_ands; exact ⟨(far2 (by omega)).trans (by assumption), (far2 (by omega)).trans (by assumption), (far2 (by omega)).trans (by assumption), (far2 (by omega)).trans (by assumption)⟩) | (go_split_ands; exact ⟨keepAt hb2 (by show _ < w1.heap.size; omega) (by assumption), keepAt hb2 (by show _ < w1.heap.size; omega) (by assumption), keepAt hb2 (by show _ < w1.heap.size; omega) (by assumption), keepAt hb2 (by show _ < w1.heap.size; omega) (by assumption)⟩) | (go_split_ands; exact ⟨keepAt hb3 (by omega) (by assumption), keepAt hb3 (by omega) (by assumption), keepAt hb3 (by omega) (by assumption), keepAt hb3 (by omega) (by assumption)⟩) | (go_split_ands; exact ⟨keepAt hb4 (by omega) (by assumption), keepAt hb4 (by omega) (by assumption), keepAt hb4 (by omega) (by assumption), keepAt hb4 (by omega) (by assumption)⟩) | (go_split_ands; exact ⟨keepAt hb5 (by omega) (by assumption), keepAt hb5 (by omega) (by assumption), keepAt hb5 (by omega) (by assumption), keepAt hb5 (by omega) (by assumption)⟩))
    (first | (go_at_call 98; have _t := tk0; refine (wholeOf_any p A n c _).mono ?_; rintro e w2 ⟨rfl, hb2⟩; clear tk0; have tk1 : True := trivial; have z2 : w1.heap.size ≤ w2.heap.size := (undrew hb2).size; have zx2 := Zx1.out.below (undrew hb2); have zy2 := Zy1.out.below (undrew hb2); have hR2 := HR1.out.below (undrew hb2) (by show _ < w1.heap.size; omega)) | (go_at_call 98; have _t := tk1; refine (wholeOf_any q A' n' c' _).mono ?_; rintro e w3 ⟨rfl, hb3⟩; have z3 := hb3.size; have zx3 := zx2.below hb3; have zy3 := zy2.below hb3; have hR3 := hR2.below hb3 (by omega)) | (go_at_call 125; refine (asAgg (minusZ_any x y _ _ _ zx3 zy3 (by omega) (by omega))).mono ?_; rintro e w4 ⟨b4, A4, n4, c4, rfl, hr, hb4⟩; have z4 := hb4.size; have hR4 := hR3.below hb4 (by omega)) | (go_at_call 126; refine (fitInt_yes _ _ _ hr hfit).mono ?_; rintro e w5 ⟨b6, A6, n6, c6, rfl, hr6, hb5⟩; have z5 := hb5.size; have hR := hR4.below hb5 (by omega); obtain ⟨a0, A0, n0, c0, k10, k11, k20, k21⟩ := hR.facts))
  have s0 := hR.set0 b6 (.slice A6 n6 c6)
  have s1 := hR.set1 b6 (.slice A6 n6 c6)
  have fin := And.intro (hr6.rb hR (.bool b6) (.slice A6 n6 c6)) (below_set2 (g := w.heap.size + 1 + 1) (i := 0) (j := 1) ((((Hb0.out.trans ((undrew hb2).mono (by show _ ≤ w1.heap.size; omega))).trans (hb3.mono (by omega))).trans (hb4.mono (by omega))).trans (hb5.mono (by omega))) (by omega) (.bool b6) (.slice A6 n6 c6))
  have Fin := Lib.hid fin; clear fin
  go_wp2
  exact bodyPost_ret (v := .tuple #[.agg #[.bool b6, .slice A6 n6 c6], .int .i64 0]) (by simp [results, Tryz.results100, go_sem, s0, s1]) rfl ⟨b6, A6, n6, c6, rfl, Fin.out.1, Fin.out.2⟩
set_option maxHeartbeats 800000 in
set_option maxRecDepth 100000 in
theorem combineSub_big (x y : Int) (p q : Bool) (A A' : Option Addr) (n c n' c' : Nat) (l l' : List Nat) (w : World) (hx : Wd w (.slice A n c) l) (hy : Wd w (.slice A' n' c') l') (hp : vld p l = true) (hq : vld q l' = true)
    (ex : x = numOf p l) (ey : y = numOf q l') (hfit : 256 < (dig (x - y).natAbs).length) :
    Calls Tryz.prog 100 #[.agg #[.bool p, .slice A n c], .agg #[.bool q, .slice A' n' c'], .func (.func 125) #[] #[]] w fun e w' => e = .returned (.tuple #[.agg #[.bool false, .slice none 0 0], .int .i64 5]) ∧ Below w.heap.size w w' := by
  have zx := vld_zv hx hp
  have zy := vld_zv hy hq
  have lx : (dig x.natAbs).length ≤ 256 := by rw [ex, vld_dig hx.ok hp]; exact vld_len hp
  have ly : (dig y.natAbs).length ≤ 256 := by rw [ey, vld_dig hy.ok hq]; exact vld_len hq
  rw [← ex] at zx
  rw [← ey] at zy
  have hyes : (vld p l && vld q l') = true := by rw [hp, hq]; rfl
  have Hx := Lib.hid hx; clear hx
  have Hy := Lib.hid hy; clear hy
  have Zx := Lib.hid zx; clear zx
  have Zy := Lib.hid zy; clear zy
  have Hyes := Lib.hid hyes; clear hyes hp hq ex ey
  go_enter Tryz.func100, Tryz.ntmps100
  go_wp2_with fail
  have hb4 := below4 w (Obj.cells #[.bool p, .slice A n c] 24) (Obj.cells #[.bool q, .slice A' n' c'] 24) (Obj.cells #[.bool false, .slice none 0 0] 24) (Obj.cells #[.bool p, .slice A n c, .bool q, .slice A' n' c'] 24)
  have hR3 := (RB.a3 w false none 0 0 24 (Obj.cells #[.bool p, .slice A n c] 24) (Obj.cells #[.bool q, .slice A' n' c'] 24)).alloc (Obj.cells #[.bool p, .slice A n c, .bool q, .slice A' n' c'] 24)
  have o10 : ((((w.alloc (Obj.cells #[.bool p, .slice A n c] 24)).alloc (Obj.cells #[.bool q, .slice A' n' c'] 24)).alloc (Obj.cells #[.bool false, .slice none 0 0] 24)).alloc (Obj.cells #[.bool p, .slice A n c, .bool q, .slice A' n' c'] 24)).cell? ⟨w.heap.size, 0, none⟩ = some (.bool p) := by
    rw [World.cell?_alloc_past _ _ _ (by simp <;> omega)]; exact old1 0
  have o11 : ((((w.alloc (Obj.cells #[.bool p, .slice A n c] 24)).alloc (Obj.cells #[.bool q, .slice A' n' c'] 24)).alloc (Obj.cells #[.bool false, .slice none 0 0] 24)).alloc (Obj.cells #[.bool p, .slice A n c, .bool q, .slice A' n' c'] 24)).cell? ⟨w.heap.size, 1, none⟩ = some (.slice A n c) := by
    rw [World.cell?_alloc_past _ _ _ (by simp <;> omega)]; exact old1 1
  have o20 : ((((w.alloc (Obj.cells #[.bool p, .slice A n c] 24)).alloc (Obj.cells #[.bool q, .slice A' n' c'] 24)).alloc (Obj.cells #[.bool false, .slice none 0 0] 24)).alloc (Obj.cells #[.bool p, .slice A n c, .bool q, .slice A' n' c'] 24)).cell? ⟨w.heap.size + 1, 0, none⟩ = some (.bool q) := by
    rw [World.cell?_alloc_past _ _ _ (by simp <;> omega)]; exact old2 0
  have o21 : ((((w.alloc (Obj.cells #[.bool p, .slice A n c] 24)).alloc (Obj.cells #[.bool q, .slice A' n' c'] 24)).alloc (Obj.cells #[.bool false, .slice none 0 0] 24)).alloc (Obj.cells #[.bool p, .slice A n c, .bool q, .slice A' n' c'] 24)).cell? ⟨w.heap.size + 1, 1, none⟩ = some (.slice A' n' c') := by
    rw [World.cell?_alloc_past _ _ _ (by simp <;> omega)]; exact old2 1
  refine (allValid_two p q A A' n c n' c' l l' w _ _ (by have := heap_alloc_new (((w.alloc (Obj.cells #[.bool p, .slice A n c] 24)).alloc (Obj.cells #[.bool q, .slice A' n' c'] 24)).alloc (Obj.cells #[.bool false, .slice none 0 0] 24)) (Obj.cells #[.bool p, .slice A n c, .bool q, .slice A' n' c'] 24); simpa using this) (Hx.out.below hb4) (Hy.out.below hb4)).mono ?_
  rintro e w1 ⟨rfl, hb1⟩
  rw [Hyes.out]
  have z1 : w.heap.size + 1 + 1 + 1 + 1 ≤ w1.heap.size := by have := hb1.size; simpa using this
  have m10 := keepAt hb1 (by simp <;> omega) o10
  have m11 := keepAt hb1 (by simp <;> omega) o11
  have m20 := keepAt hb1 (by simp <;> omega) o20
  have m21 := keepAt hb1 (by simp <;> omega) o21
  have hR1 := hR3.below hb1 (by simp <;> omega)
  have hb0 : Below w.heap.size w w1 := hb4.trans (hb1.mono (by simp <;> omega))
  clear o10 o11 o20 o21 hb4 hb1 hR3
  have Zx1 := Lib.hid (Zx.out.below hb0)
  have Zy1 := Lib.hid (Zy.out.below hb0)
  have Hb0 := Lib.hid hb0; clear hb0
  have HR1 := Lib.hid hR1; clear hR1
  have tk0 : True := trivial
  go_wp2_with fail
  go_region_held3 (fun w' => w'.cell? ⟨w.heap.size, 0, none⟩ = some (.bool p) ∧ w'.cell? ⟨w.heap.size, 1, none⟩ = some (.slice A n c) ∧ w'.cell? ⟨w.heap.size + 1, 0, none⟩ = some (.bool q) ∧ w'.cell? ⟨w.heap.size + 1, 1, none⟩ = some (.slice A' n' c'))
    (first | exact ⟨m10, m11, m20, m21⟩ | (go_split_ands; exact ⟨(far2 (by omega)).trans (by assumption), (far2 (by omega)).trans (by assumption), (far2 (by omega)).trans (by assumption), (far2 (by omega)).trans (by assumption)⟩) | (go_split_ands; exact ⟨keepAt hb2 (by show _ < w1.heap.size; omega) (by assumption), keepAt hb2 (by show _ < w1.heap.size; omega) (by assumption), keepAt hb2 (by show _ < w1.heap.size; omega) (by assumption), keepAt hb2 (by show _ < w1.heap.size; omega) (by assumption)⟩) | (go_split_ands; exact ⟨keepAt hb3 (by omega) (by assumption), keepAt hb3 (by omega) (by assumption), keepAt hb3 (by omega) (by assumption), keepAt hb3 (by omega) (by assumption)⟩) | (go_split_ands; exact ⟨keepAt hb4 (by omega) (by assumption), keepAt hb4 (by omega) (by assumption), keepAt hb4 (by omega) (by assumption), keepAt hb4 (by omega) (by assumption)⟩) | (go_split_ands; exact ⟨keepAt hb5 (by omega) (by assumption), keepAt hb5 (by omega) (by assumption), keepAt hb5 (by omega) (by assumption), keepAt hb5 (by omega) (by assumption)⟩))
    (first | (go_at_call 98; have _t := tk0; refine (wholeOf_any p A n c _).mono ?_; rintro e w2 ⟨rfl, hb2⟩; clear tk0; have tk1 : True := trivial; have z2 : w1.heap.size ≤ w2.heap.size := (undrew hb2).size; have zx2 := Zx1.out.below (undrew hb2); have zy2 := Zy1.out.below (undrew hb2); have hR2 := HR1.out.below (undrew hb2) (by show _ < w1.heap.size; omega)) | (go_at_call 98; have _t := tk1; refine (wholeOf_any q A' n' c' _).mono ?_; rintro e w3 ⟨rfl, hb3⟩; have z3 := hb3.size; have zx3 := zx2.below hb3; have zy3 := zy2.below hb3; have hR3 := hR2.below hb3 (by omega)) | (go_at_call 125; refine (asAgg (minusZ_any x y _ _ _ zx3 zy3 (by omega) (by omega))).mono ?_; rintro e w4 ⟨b4, A4, n4, c4, rfl, hr, hb4⟩; have z4 := hb4.size; have hR4 := hR3.below hb4 (by omega)) | (go_at_call 126; refine (fitInt_no _ _ _ hr hfit).mono ?_; rintro e w5 ⟨rfl, hb5⟩; have z5 := hb5.size; have hR := hR4.below hb5 (by omega); obtain ⟨a0, A0, n0, c0, k10, k11, k20, k21⟩ := hR.facts))
  have s0 := hR.set0 false (.slice none 0 0)
  have s1 := hR.set1 false (.slice none 0 0)
  have fin := (below_set2 (g := w.heap.size + 1 + 1) (i := 0) (j := 1) ((((Hb0.out.trans ((undrew hb2).mono (by show _ ≤ w1.heap.size; omega))).trans (hb3.mono (by omega))).trans (hb4.mono (by omega))).trans (hb5.mono (by omega))) (by omega) (.bool false) (.slice none 0 0))
  have Fin := Lib.hid fin; clear fin
  go_wp2
  exact bodyPost_ret (v := .tuple #[.agg #[.bool false, .slice none 0 0], .int .i64 5]) (by simp [results, Tryz.results100, go_sem, s0, s1]) rfl ⟨rfl, Fin.out⟩

end Go.Proofs.YtmlopkkbgpfdnabGreat
namespace Go.Proofs.YtmlopkkbgpfdnabGreat
open Go.RowKit

set_option maxHeartbeats 800000 in
set_option maxRecDepth 100000 in
theorem combineMul_no (p q : Bool) (A A' : Option Addr) (n c n' c' : Nat) (l l' : List Nat) (w : World) (hx : Wd w (.slice A n c) l) (hy : Wd w (.slice A' n' c') l') (hno : (vld p l && vld q l') = false) :
    Calls Tryz.prog 100 #[.agg #[.bool p, .slice A n c], .agg #[.bool q, .slice A' n' c'], .func (.func 73) #[] #[]] w fun e w' => e = .returned (.tuple #[.agg #[.bool false, .slice none 0 0], .int .i64 2]) ∧ Below w.heap.size w w' := by
  have Hx := Lib.hid hx; clear hx
  have Hy := Lib.hid hy; clear hy
  have Hno := Lib.hid hno; clear hno
  go_enter Tryz.func100, Tryz.ntmps100
  go_wp2_with fail
  have hb4 := below4 w (Obj.cells #[.bool p, .slice A n c] 24) (Obj.cells #[.bool q, .slice A' n' c'] 24) (Obj.cells #[.bool false, .slice none 0 0] 24) (Obj.cells #[.bool p, .slice A n c, .bool q, .slice A' n' c'] 24)
  have hR3 := (RB.a3 w false none 0 0 24 (Obj.cells #[.bool p, .slice A n c] 24) (Obj.cells #[.bool q, .slice A' n' c'] 24)).alloc (Obj.cells #[.bool p, .slice A n c, .bool q, .slice A' n' c'] 24)
  refine (allValid_two p q A A' n c n' c' l l' w _ _ (by have := heap_alloc_new (((w.alloc (Obj.cells #[.bool p, .slice A n c] 24)).alloc (Obj.cells #[.bool q, .slice A' n' c'] 24)).alloc (Obj.cells #[.bool false, .slice none 0 0] 24)) (Obj.cells #[.bool p, .slice A n c, .bool q, .slice A' n' c'] 24); simpa using this) (Hx.out.below hb4) (Hy.out.below hb4)).mono ?_
  rintro e w1 ⟨rfl, hb1⟩
  rw [Hno.out]
  have hR := hR3.below hb1 (by simp <;> omega)
  obtain ⟨a0, A0, n0, c0, k10, k11, k20, k21⟩ := hR.facts
  have s0 := hR.set0 false (.slice none 0 0)
  have s1 := hR.set1 false (.slice none 0 0)
  have fin := below_set2 (g := w.heap.size + 1 + 1) (i := 0) (j := 1) (hb4.trans (hb1.mono (by simp <;> omega))) (by omega) (.bool false) (.slice none 0 0)
  have Fin := Lib.hid fin; clear fin hb1 hb4 hR hR3
  go_wp2
  exact bodyPost_ret (v := .tuple #[.agg #[.bool false, .slice none 0 0], .int .i64 2]) (by simp [results, Tryz.results100, go_sem, s0, s1]) rfl ⟨rfl, Fin.out⟩
set_option maxHeartbeats 800000 in
set_option maxRecDepth 100000 in
theorem combineMul_yes (x y : Int) (p q : Bool) (A A' : Option Addr) (n c n' c' : Nat) (l l' : List Nat) (w : World) (hx : Wd w (.slice A n c) l) (hy : Wd w (.slice A' n' c') l') (hp : vld p l = true) (hq : vld q l' = true)
    (ex : x = numOf p l) (ey : y = numOf q l') (hfit : (dig (x * y).natAbs).length ≤ 256) :
    Calls Tryz.prog 100 #[.agg #[.bool p, .slice A n c], .agg #[.bool q, .slice A' n' c'], .func (.func 73) #[] #[]] w fun e w' => ∃ b A n c, e = .returned (.tuple #[.agg #[.bool b, .slice A n c], .int .i64 0]) ∧ ZV w' (.agg #[.bool b, .slice A n c]) (x * y) ∧ Below w.heap.size w w' := by
  have zx := vld_zv hx hp
  have zy := vld_zv hy hq
  have lx : (dig x.natAbs).length ≤ 256 := by rw [ex, vld_dig hx.ok hp]; exact vld_len hp
  have ly : (dig y.natAbs).length ≤ 256 := by rw [ey, vld_dig hy.ok hq]; exact vld_len hq
  rw [← ex] at zx
  rw [← ey] at zy
  have hyes : (vld p l && vld q l') = true := by rw [hp, hq]; rfl
  have Hx := Lib.hid hx; clear hx
  have Hy := Lib.hid hy; clear hy
  have Zx := Lib.hid zx; clear zx
  have Zy := Lib.hid zy; clear zy
  have Hyes := Lib.hid hyes; clear hyes hp hq ex ey
  go_enter Tryz.func100, Tryz.ntmps100
  go_wp2_with fail
  have hb4 := below4 w (Obj.cells #[.bool p, .slice A n c] 24) (Obj.cells #[.bool q, .slice A' n' c'] 24) (Obj.cells #[.bool false, .slice none 0 0] 24) (Obj.cells #[.bool p, .slice A n c, .bool q, .slice A' n' c'] 24)
  have hR3 := (RB.a3 w false none 0 0 24 (Obj.cells #[.bool p, .slice A n c] 24) (Obj.cells #[.bool q, .slice A' n' c'] 24)).alloc (Obj.cells #[.bool p, .slice A n c, .bool q, .slice A' n' c'] 24)
  have o10 : ((((w.alloc (Obj.cells #[.bool p, .slice A n c] 24)).alloc (Obj.cells #[.bool q, .slice A' n' c'] 24)).alloc (Obj.cells #[.bool false, .slice none 0 0] 24)).alloc (Obj.cells #[.bool p, .slice A n c, .bool q, .slice A' n' c'] 24)).cell? ⟨w.heap.size, 0, none⟩ = some (.bool p) := by
    rw [World.cell?_alloc_past _ _ _ (by simp <;> omega)]; exact old1 0
  have o11 : ((((w.alloc (Obj.cells #[.bool p, .slice A n c] 24)).alloc (Obj.cells #[.bool q, .slice A' n' c'] 24)).alloc (Obj.cells #[.bool false, .slice none 0 0] 24)).alloc (Obj.cells #[.bool p, .slice A n c, .bool q, .slice A' n' c'] 24)).cell? ⟨w.heap.size, 1, none⟩ = some (.slice A n c) := by
    rw [World.cell?_alloc_past _ _ _ (by simp <;> omega)]; exact old1 1
  have o20 : ((((w.alloc (Obj.cells #[.bool p, .slice A n c] 24)).alloc (Obj.cells #[.bool q, .slice A' n' c'] 24)).alloc (Obj.cells #[.bool false, .slice none 0 0] 24)).alloc (Obj.cells #[.bool p, .slice A n c, .bool q, .slice A' n' c'] 24)).cell? ⟨w.heap.size + 1, 0, none⟩ = some (.bool q) := by
    rw [World.cell?_alloc_past _ _ _ (by simp <;> omega)]; exact old2 0
  have o21 : ((((w.alloc (Obj.cells #[.bool p, .slice A n c] 24)).alloc (Obj.cells #[.bool q, .slice A' n' c'] 24)).alloc (Obj.cells #[.bool false, .slice none 0 0] 24)).alloc (Obj.cells #[.bool p, .slice A n c, .bool q, .slice A' n' c'] 24)).cell? ⟨w.heap.size + 1, 1, none⟩ = some (.slice A' n' c') := by
    rw [World.cell?_alloc_past _ _ _ (by simp <;> omega)]; exact old2 1
  refine (allValid_two p q A A' n c n' c' l l' w _ _ (by have := heap_alloc_new (((w.alloc (Obj.cells #[.bool p, .slice A n c] 24)).alloc (Obj.cells #[.bool q, .slice A' n' c'] 24)).alloc (Obj.cells #[.bool false, .slice none 0 0] 24)) (Obj.cells #[.bool p, .slice A n c, .bool q, .slice A' n' c'] 24); simpa using this) (Hx.out.below hb4) (Hy.out.below hb4)).mono ?_
  rintro e w1 ⟨rfl, hb1⟩
  rw [Hyes.out]
  have z1 : w.heap.size + 1 + 1 + 1 + 1 ≤ w1.heap.size := by have := hb1.size; simpa using this
  have m10 := keepAt hb1 (by simp <;> omega) o10
  have m11 := keepAt hb1 (by simp <;> omega) o11
  have m20 := keepAt hb1 (by simp <;> omega) o20
  have m21 := keepAt hb1 (by simp <;> omega) o21
  have hR1 := hR3.below hb1 (by simp <;> omega)
  have hb0 : Below w.heap.size w w1 := hb4.trans (hb1.mono (by simp <;> omega))
  clear o10 o11 o20 o21 hb4 hb1 hR3
  have Zx1 := Lib.hid (Zx.out.below hb0)
  have Zy1 := Lib.hid (Zy.out.below hb0)
  have Hb0 := Lib.hid hb0; clear hb0
  have HR1 := Lib.hid hR1; clear hR1
  have tk0 : True := trivial
  go_wp2_with fail
  go_region_held3 (fun w' => w'.cell? ⟨w.heap.size, 0, none⟩ = some (.bool p) ∧ w'.cell? ⟨w.heap.size, 1, none⟩ = some (.slice A n c) ∧ w'.cell? ⟨w.heap.size + 1, 0, none⟩ = some (.bool q) ∧ w'.cell? ⟨w.heap.size + 1, 1, none⟩ = some (.slice A' n' c'))
    (first | exact ⟨m10, m11, m20, m21⟩ | (go_split_ands; exact ⟨(far2 (by omega)).trans (by assumption), (far2 (by omega)).trans (by assumption), (far2 (by omega)).trans (by assumption), (far2 (by omega)).trans (by assumption)⟩) | (go_split_ands; exact ⟨keepAt hb2 (by show _ < w1.heap.size; omega) (by assumption), keepAt hb2 (by show _ < w1.heap.size; omega) (by assumption), keepAt hb2 (by show _ < w1.heap.size; omega) (by assumption), keepAt hb2 (by show _ < w1.heap.size; omega) (by assumption)⟩) | (go_split_ands; exact ⟨keepAt hb3 (by omega) (by assumption), keepAt hb3 (by omega) (by assumption), keepAt hb3 (by omega) (by assumption), keepAt hb3 (by omega) (by assumption)⟩) | (go_split_ands; exact ⟨keepAt hb4 (by omega) (by assumption), keepAt hb4 (by omega) (by assumption), keepAt hb4 (by omega) (by assumption), keepAt hb4 (by omega) (by assumption)⟩) | (go_split_ands; exact ⟨keepAt hb5 (by omega) (by assumption), keepAt hb5 (by omega) (by assumption), keepAt hb5 (by omega) (by assumption), keepAt hb5 (by omega) (by assumption)⟩))
    (first | (go_at_call 98; have _t := tk0; refine (wholeOf_any p A n c _).mono ?_; rintro e w2 ⟨rfl, hb2⟩; clear tk0; have tk1 : True := trivial; have z2 : w1.heap.size ≤ w2.heap.size := (undrew hb2).size; have zx2 := Zx1.out.below (undrew hb2); have zy2 := Zy1.out.below (undrew hb2); have hR2 := HR1.out.below (undrew hb2) (by show _ < w1.heap.size; omega)) | (go_at_call 98; have _t := tk1; refine (wholeOf_any q A' n' c' _).mono ?_; rintro e w3 ⟨rfl, hb3⟩; have z3 := hb3.size; have zx3 := zx2.below hb3; have zy3 := zy2.below hb3; have hR3 := hR2.below hb3 (by omega)) | (go_at_call 73; refine (asAgg (timesZ_any x y _ _ _ zx3 zy3 (by omega) (by omega))).mono ?_; rintro e w4 ⟨b4, A4, n4, c4, rfl, hr, hb4⟩; have z4 := hb4.size; have hR4 := hR3.below hb4 (by omega)) | (go_at_call 126; refine (fitInt_yes _ _ _ hr hfit).mono ?_; rintro e w5 ⟨b6, A6, n6, c6, rfl, hr6, hb5⟩; have z5 := hb5.size; have hR := hR4.below hb5 (by omega); obtain ⟨a0, A0, n0, c0, k10, k11, k20, k21⟩ := hR.facts))
  have s0 := hR.set0 b6 (.slice A6 n6 c6)
  have s1 := hR.set1 b6 (.slice A6 n6 c6)
  have fin := And.intro (hr6.rb hR (.bool b6) (.slice A6 n6 c6)) (below_set2 (g := w.heap.size + 1 + 1) (i := 0) (j := 1) ((((Hb0.out.trans ((undrew hb2).mono (by show _ ≤ w1.heap.size; omega))).trans (hb3.mono (by omega))).trans (hb4.mono (by omega))).trans (hb5.mono (by omega))) (by omega) (.bool b6) (.slice A6 n6 c6))
  have Fin := Lib.hid fin; clear fin
  go_wp2
  exact bodyPost_ret (v := .tuple #[.agg #[.bool b6, .slice A6 n6 c6], .int .i64 0]) (by simp [results, Tryz.results100, go_sem, s0, s1]) rfl ⟨b6, A6, n6, c6, rfl, Fin.out.1, Fin.out.2⟩
set_option maxHeartbeats 800000 in
set_option maxRecDepth 100000 in
theorem combineMul_big (x y : Int) (p q : Bool) (A A' : Option Addr) (n c n' c' : Nat) (l l' : List Nat) (w : World) (hx : Wd w (.slice A n c) l) (hy : Wd w (.slice A' n' c') l') (hp : vld p l = true) (hq : vld q l' = true)
    (ex : x = numOf p l) (ey : y = numOf q l') (hfit : 256 < (dig (x * y).natAbs).length) :
    Calls Tryz.prog 100 #[.agg #[.bool p, .slice A n c], .agg #[.bool q, .slice A' n' c'], .func (.func 73) #[] #[]] w fun e w' => e = .returned (.tuple #[.agg #[.bool false, .slice none 0 0], .int .i64 5]) ∧ Below w.heap.size w w' := by
  have zx := vld_zv hx hp
  have zy := vld_zv hy hq
  have lx : (dig x.natAbs).length ≤ 256 := by rw [ex, vld_dig hx.ok hp]; exact vld_len hp
  have ly : (dig y.natAbs).length ≤ 256 := by rw [ey, vld_dig hy.ok hq]; exact vld_len hq
  rw [← ex] at zx
  rw [← ey] at zy
  have hyes : (vld p l && vld q l') = true := by rw [hp, hq]; rfl
  have Hx := Lib.hid hx; clear hx
  have Hy := Lib.hid hy; clear hy
  have Zx := Lib.hid zx; clear zx
  have Zy := Lib.hid zy; clear zy
  have Hyes := Lib.hid hyes; clear hyes hp hq ex ey
  go_enter Tryz.func100, Tryz.ntmps100
  go_wp2_with fail
  have hb4 := below4 w (Obj.cells #[.bool p, .slice A n c] 24) (Obj.cells #[.bool q, .slice A' n' c'] 24) (Obj.cells #[.bool false, .slice none 0 0] 24) (Obj.cells #[.bool p, .slice A n c, .bool q, .slice A' n' c'] 24)
  have hR3 := (RB.a3 w false none 0 0 24 (Obj.cells #[.bool p, .slice A n c] 24) (Obj.cells #[.bool q, .slice A' n' c'] 24)).alloc (Obj.cells #[.bool p, .slice A n c, .bool q, .slice A' n' c'] 24)
  have o10 : ((((w.alloc (Obj.cells #[.bool p, .slice A n c] 24)).alloc (Obj.cells #[.bool q, .slice A' n' c'] 24)).alloc (Obj.cells #[.bool false, .slice none 0 0] 24)).alloc (Obj.cells #[.bool p, .slice A n c, .bool q, .slice A' n' c'] 24)).cell? ⟨w.heap.size, 0, none⟩ = some (.bool p) := by
    rw [World.cell?_alloc_past _ _ _ (by simp <;> omega)]; exact old1 0
  have o11 : ((((w.alloc (Obj.cells #[.bool p, .slice A n c] 24)).alloc (Obj.cells #[.bool q, .slice A' n' c'] 24)).alloc (Obj.cells #[.bool false, .slice none 0 0] 24)).alloc (Obj.cells #[.bool p, .slice A n c, .bool q, .slice A' n' c'] 24)).cell? ⟨w.heap.size, 1, none⟩ = some (.slice A n c) := by
    rw [World.cell?_alloc_past _ _ _ (by simp <;> omega)]; exact old1 1
  have o20 : ((((w.alloc (Obj.cells #[.bool p, .slice A n c] 24)).alloc (Obj.cells #[.bool q, .slice A' n' c'] 24)).alloc (Obj.cells #[.bool false, .slice none 0 0] 24)).alloc (Obj.cells #[.bool p, .slice A n c, .bool q, .slice A' n' c'] 24)).cell? ⟨w.heap.size + 1, 0, none⟩ = some (.bool q) := by
    rw [World.cell?_alloc_past _ _ _ (by simp <;> omega)]; exact old2 0
  have o21 : ((((w.alloc (Obj.cells #[.bool p, .slice A n c] 24)).alloc (Obj.cells #[.bool q, .slice A' n' c'] 24)).alloc (Obj.cells #[.bool false, .slice none 0 0] 24)).alloc (Obj.cells #[.bool p, .slice A n c, .bool q, .slice A' n' c'] 24)).cell? ⟨w.heap.size + 1, 1, none⟩ = some (.slice A' n' c') := by
    rw [World.cell?_alloc_past _ _ _ (by simp <;> omega)]; exact old2 1
  refine (allValid_two p q A A' n c n' c' l l' w _ _ (by have := heap_alloc_new (((w.alloc (Obj.cells #[.bool p, .slice A n c] 24)).alloc (Obj.cells #[.bool q, .slice A' n' c'] 24)).alloc (Obj.cells #[.bool false, .slice none 0 0] 24)) (Obj.cells #[.bool p, .slice A n c, .bool q, .slice A' n' c'] 24); simpa using this) (Hx.out.below hb4) (Hy.out.below hb4)).mono ?_
  rintro e w1 ⟨rfl, hb1⟩
  rw [Hyes.out]
  have z1 : w.heap.size + 1 + 1 + 1 + 1 ≤ w1.heap.size := by have := hb1.size; simpa using this
  have m10 := keepAt hb1 (by simp <;> omega) o10
  have m11 := keepAt hb1 (by simp <;> omega) o11
  have m20 := keepAt hb1 (by simp <;> omega) o20
  have m21 := keepAt hb1 (by simp <;> omega) o21
  have hR1 := hR3.below hb1 (by simp <;> omega)
  have hb0 : Below w.heap.size w w1 := hb4.trans (hb1.mono (by simp <;> omega))
  clear o10 o11 o20 o21 hb4 hb1 hR3
  have Zx1 := Lib.hid (Zx.out.below hb0)
  have Zy1 := Lib.hid (Zy.out.below hb0)
  have Hb0 := Lib.hid hb0; clear hb0
  have HR1 := Lib.hid hR1; clear hR1
  have tk0 : True := trivial
  go_wp2_with fail
  go_region_held3 (fun w' => w'.cell? ⟨w.heap.size, 0, none⟩ = some (.bool p) ∧ w'.cell? ⟨w.heap.size, 1, none⟩ = some (.slice A n c) ∧ w'.cell? ⟨w.heap.size + 1, 0, none⟩ = some (.bool q) ∧ w'.cell? ⟨w.heap.size + 1, 1, none⟩ = some (.slice A' n' c'))
    (first | exact ⟨m10, m11, m20, m21⟩ | (go_split_ands; exact ⟨(far2 (by omega)).trans (by assumption), (far2 (by omega)).trans (by assumption), (far2 (by omega)).trans (by assumption), (far2 (by omega)).trans (by assumption)⟩) | (go_split_ands; exact ⟨keepAt hb2 (by show _ < w1.heap.size; omega) (by assumption), keepAt hb2 (by show _ < w1.heap.size; omega) (by assumption), keepAt hb2 (by show _ < w1.heap.size; omega) (by assumption), keepAt hb2 (by show _ < w1.heap.size; omega) (by assumption)⟩) | (go_split_ands; exact ⟨keepAt hb3 (by omega) (by assumption), keepAt hb3 (by omega) (by assumption), keepAt hb3 (by omega) (by assumption), keepAt hb3 (by omega) (by assumption)⟩) | (go_split_ands; exact ⟨keepAt hb4 (by omega) (by assumption), keepAt hb4 (by omega) (by assumption), keepAt hb4 (by omega) (by assumption), keepAt hb4 (by omega) (by assumption)⟩) | (go_split_ands; exact ⟨keepAt hb5 (by omega) (by assumption), keepAt hb5 (by omega) (by assumption), keepAt hb5 (by omega) (by assumption), keepAt hb5 (by omega) (by assumption)⟩))
    (first | (go_at_call 98; have _t := tk0; refine (wholeOf_any p A n c _).mono ?_; rintro e w2 ⟨rfl, hb2⟩; clear tk0; have tk1 : True := trivial; have z2 : w1.heap.size ≤ w2.heap.size := (undrew hb2).size; have zx2 := Zx1.out.below (undrew hb2); have zy2 := Zy1.out.below (undrew hb2); have hR2 := HR1.out.below (undrew hb2) (by show _ < w1.heap.size; omega)) | (go_at_call 98; have _t := tk1; refine (wholeOf_any q A' n' c' _).mono ?_; rintro e w3 ⟨rfl, hb3⟩; have z3 := hb3.size; have zx3 := zx2.below hb3; have zy3 := zy2.below hb3; have hR3 := hR2.below hb3 (by omega)) | (go_at_call 73; refine (asAgg (timesZ_any x y _ _ _ zx3 zy3 (by omega) (by omega))).mono ?_; rintro e w4 ⟨b4, A4, n4, c4, rfl, hr, hb4⟩; have z4 := hb4.size; have hR4 := hR3.below hb4 (by omega)) | (go_at_call 126; refine (fitInt_no _ _ _ hr hfit).mono ?_; rintro e w5 ⟨rfl, hb5⟩; have z5 := hb5.size; have hR := hR4.below hb5 (by omega); obtain ⟨a0, A0, n0, c0, k10, k11, k20, k21⟩ := hR.facts))
  have s0 := hR.set0 false (.slice none 0 0)
  have s1 := hR.set1 false (.slice none 0 0)
  have fin := (below_set2 (g := w.heap.size + 1 + 1) (i := 0) (j := 1) ((((Hb0.out.trans ((undrew hb2).mono (by show _ ≤ w1.heap.size; omega))).trans (hb3.mono (by omega))).trans (hb4.mono (by omega))).trans (hb5.mono (by omega))) (by omega) (.bool false) (.slice none 0 0))
  have Fin := Lib.hid fin; clear fin
  go_wp2
  exact bodyPost_ret (v := .tuple #[.agg #[.bool false, .slice none 0 0], .int .i64 5]) (by simp [results, Tryz.results100, go_sem, s0, s1]) rfl ⟨rfl, Fin.out⟩

end Go.Proofs.YtmlopkkbgpfdnabGreat
namespace Go.Proofs.YtmlopkkbgpfdnabGreat
open Go.RowKit

set_option maxRecDepth 100000 in
theorem exactMul_no (p q : Bool) (A A' : Option Addr) (n c n' c' : Nat) (l l' : List Nat) (w : World) (hx : Wd w (.slice A n c) l) (hy : Wd w (.slice A' n' c') l') (hno : (vld p l && vld q l') = false) :
    Calls Tryz.prog 48 #[.agg #[.bool p, .slice A n c], .agg #[.bool q, .slice A' n' c']] w fun e w' => e = .returned (.tuple #[.agg #[.bool false, .slice none 0 0], .int .i64 2]) ∧ Below w.heap.size w w' := by
  have Hx := Lib.hid hx; clear hx
  have Hy := Lib.hid hy; clear hy
  go_enter Tryz.func48, Tryz.ntmps48
  go_wp2_with fail
  have hb3 := below3 w (Obj.cells #[.bool p, .slice A n c] 24) (Obj.cells #[.bool q, .slice A' n' c'] 24) (Obj.cells #[.bool false, .slice none 0 0] 24)
  have hR3 := RB.a3 w false none 0 0 24 (Obj.cells #[.bool p, .slice A n c] 24) (Obj.cells #[.bool q, .slice A' n' c'] 24)
  refine (combineMul_no p q A A' n c n' c' l l' _ (Hx.out.below hb3) (Hy.out.below hb3) hno).mono ?_
  rintro e w1 ⟨rfl, hb1⟩
  have hR := hR3.below hb1 (by simp <;> omega)
  obtain ⟨a0, A0, n0, c0, k10, k11, k20, k21⟩ := hR.facts
  have s0 := hR.set0 false (.slice none 0 0)
  have s1 := hR.set1 false (.slice none 0 0)
  have fin := (below_set2 (g := w.heap.size + 1 + 1) (i := 0) (j := 1) (hb3.trans (hb1.mono (by simp <;> omega))) (by omega) (.bool false) (.slice none 0 0))
  have Fin := Lib.hid fin; clear fin hR hb1 hb3 hR3
  go_wp2
  exact bodyPost_ret (v := .tuple #[.agg #[.bool false, .slice none 0 0], .int .i64 2]) (by simp [results, Tryz.results48, go_sem, s0, s1]) rfl ⟨rfl, Fin.out⟩

set_option maxRecDepth 100000 in
theorem exactMul_yes (x y : Int) (p q : Bool) (A A' : Option Addr) (n c n' c' : Nat) (l l' : List Nat) (w : World) (hx : Wd w (.slice A n c) l) (hy : Wd w (.slice A' n' c') l') (hp : vld p l = true) (hq : vld q l' = true) (ex : x = numOf p l) (ey : y = numOf q l') (hfit : (dig (x * y).natAbs).length ≤ 256) :
    Calls Tryz.prog 48 #[.agg #[.bool p, .slice A n c], .agg #[.bool q, .slice A' n' c']] w fun e w' => ∃ b A n c, e = .returned (.tuple #[.agg #[.bool b, .slice A n c], .int .i64 0]) ∧ ZV w' (.agg #[.bool b, .slice A n c]) (x * y) ∧ Below w.heap.size w w' := by
  have Hxy := Lib.hid (And.intro ex ey)
  clear ex ey
  have Hx := Lib.hid hx; clear hx
  have Hy := Lib.hid hy; clear hy
  go_enter Tryz.func48, Tryz.ntmps48
  go_wp2_with fail
  have hb3 := below3 w (Obj.cells #[.bool p, .slice A n c] 24) (Obj.cells #[.bool q, .slice A' n' c'] 24) (Obj.cells #[.bool false, .slice none 0 0] 24)
  have hR3 := RB.a3 w false none 0 0 24 (Obj.cells #[.bool p, .slice A n c] 24) (Obj.cells #[.bool q, .slice A' n' c'] 24)
  refine (combineMul_yes x y p q A A' n c n' c' l l' _ (Hx.out.below hb3) (Hy.out.below hb3) hp hq Hxy.out.1 Hxy.out.2 hfit).mono ?_
  rintro e w1 ⟨b6, A6, n6, c6, rfl, hr6, hb1⟩
  have hR := hR3.below hb1 (by simp <;> omega)
  obtain ⟨a0, A0, n0, c0, k10, k11, k20, k21⟩ := hR.facts
  have s0 := hR.set0 b6 (.slice A6 n6 c6)
  have s1 := hR.set1 b6 (.slice A6 n6 c6)
  have fin := And.intro (hr6.rb hR (.bool b6) (.slice A6 n6 c6)) (below_set2 (g := w.heap.size + 1 + 1) (i := 0) (j := 1) (hb3.trans (hb1.mono (by simp <;> omega))) (by omega) (.bool b6) (.slice A6 n6 c6))
  have Fin := Lib.hid fin; clear fin hR hb1 hb3 hR3
  go_wp2
  exact bodyPost_ret (v := .tuple #[.agg #[.bool b6, .slice A6 n6 c6], .int .i64 0]) (by simp [results, Tryz.results48, go_sem, s0, s1]) rfl ⟨b6, A6, n6, c6, rfl, Fin.out.1, Fin.out.2⟩

set_option maxRecDepth 100000 in
theorem exactMul_big (x y : Int) (p q : Bool) (A A' : Option Addr) (n c n' c' : Nat) (l l' : List Nat) (w : World) (hx : Wd w (.slice A n c) l) (hy : Wd w (.slice A' n' c') l') (hp : vld p l = true) (hq : vld q l' = true) (ex : x = numOf p l) (ey : y = numOf q l') (hfit : 256 < (dig (x * y).natAbs).length) :
    Calls Tryz.prog 48 #[.agg #[.bool p, .slice A n c], .agg #[.bool q, .slice A' n' c']] w fun e w' => e = .returned (.tuple #[.agg #[.bool false, .slice none 0 0], .int .i64 5]) ∧ Below w.heap.size w w' := by
  have Hxy := Lib.hid (And.intro ex ey)
  clear ex ey
  have Hx := Lib.hid hx; clear hx
  have Hy := Lib.hid hy; clear hy
  go_enter Tryz.func48, Tryz.ntmps48
  go_wp2_with fail
  have hb3 := below3 w (Obj.cells #[.bool p, .slice A n c] 24) (Obj.cells #[.bool q, .slice A' n' c'] 24) (Obj.cells #[.bool false, .slice none 0 0] 24)
  have hR3 := RB.a3 w false none 0 0 24 (Obj.cells #[.bool p, .slice A n c] 24) (Obj.cells #[.bool q, .slice A' n' c'] 24)
  refine (combineMul_big x y p q A A' n c n' c' l l' _ (Hx.out.below hb3) (Hy.out.below hb3) hp hq Hxy.out.1 Hxy.out.2 hfit).mono ?_
  rintro e w1 ⟨rfl, hb1⟩
  have hR := hR3.below hb1 (by simp <;> omega)
  obtain ⟨a0, A0, n0, c0, k10, k11, k20, k21⟩ := hR.facts
  have s0 := hR.set0 false (.slice none 0 0)
  have s1 := hR.set1 false (.slice none 0 0)
  have fin := (below_set2 (g := w.heap.size + 1 + 1) (i := 0) (j := 1) (hb3.trans (hb1.mono (by simp <;> omega))) (by omega) (.bool false) (.slice none 0 0))
  have Fin := Lib.hid fin; clear fin hR hb1 hb3 hR3
  go_wp2
  exact bodyPost_ret (v := .tuple #[.agg #[.bool false, .slice none 0 0], .int .i64 5]) (by simp [results, Tryz.results48, go_sem, s0, s1]) rfl ⟨rfl, Fin.out⟩

end Go.Proofs.YtmlopkkbgpfdnabGreat
namespace Go.Proofs.YtmlopkkbgpfdnabGreat
open Go.RowKit

theorem aw_ok : Ok [0, 1] := by intro x hx; simp at hx; omega
theorem aw_vld : vld false [0, 1] = true := by decide
theorem aw_ok3 : Ok [0, 0, 1] := by intro x hx; simp at hx; omega
theorem aw_vld3 : vld false [0, 0, 1] = true := by decide
theorem aw_mul : numOf false [0, 1] * numOf false [0, 1] = numOf false [0, 0, 1] := by decide
theorem aw_fit : (dig (numOf false [0, 1] * numOf false [0, 1]).natAbs).length ≤ 256 := by
  rw [aw_mul, vld_dig aw_ok3 aw_vld3]; simp

set_option maxHeartbeats 400000 in
set_option maxRecDepth 100000 in
theorem awake_any (w : World) : Calls Tryz.prog 11 #[] w fun e w' => e = .returned (.bool true) ∧ Below w.heap.size w w' := by
  obtain ⟨x, hx⟩ : ∃ x, x = numOf false [0, 1] := ⟨_, rfl⟩
  have hfit := aw_fit
  have hmul := aw_mul
  rw [← hx] at hfit hmul
  have Hx := Lib.hid hx; clear hx
  have Hm := Lib.hid hmul; clear hmul
  have Hfit := Lib.hid hfit; clear hfit
  go_enter Tryz.func11, Tryz.ntmps11
  go_wp2_with fail
  have hw := (Wd.new w [0, 1] aw_ok #[.int .u32 0, .int .u32 1] 75 2 2 rfl (by omega) (by omega) (by
    intro j hj
    match j, hj with
    | 0, _ => rfl
    | 1, _ => rfl)).below (below1 _ (Obj.cells #[.bool false, .slice (some ⟨w.heap.size, 0, none⟩) 2 2] 24))
  have hb2 := below2 w (Obj.cells #[.int .u32 0, .int .u32 1] 75) (Obj.cells #[.bool false, .slice (some ⟨w.heap.size, 0, none⟩) 2 2] 24)
  refine (exactMul_yes x x false false _ _ 2 2 2 2 [0, 1] [0, 1] _ hw hw aw_vld aw_vld Hx.out Hx.out Hfit.out).mono ?_
  rintro e w1 ⟨b, A, n, c, rfl, hr, hb1⟩
  have hb01 := hb2.trans (hb1.mono (by simp <;> omega))
  have Hb := Lib.hid hb01
  have Hr := Lib.hid hr
  clear hw hb2 hb1 hr hb01
  go_wp2_with fail
  have hr2 := Hr.out.below (below2 w1 (Obj.cells #[.bool b, .slice A n c] 24) (Obj.cells #[.int .u32 0, .int .u32 0, .int .u32 1] 75))
  have hw3 := (Wd.new (w1.alloc (Obj.cells #[.bool b, .slice A n c] 24)) [0, 0, 1] aw_ok3 #[.int .u32 0, .int .u32 0, .int .u32 1] 75 3 3 rfl (by omega) (by omega) (by
    intro j hj
    match j, hj with
    | 0, _ => rfl
    | 1, _ => rfl
    | 2, _ => rfl))
  rw [World.size_alloc] at hw3
  refine (sameR_any (x * x) (x * x) _ _ _ hr2 (by rw [Hm.out]; exact vld_zv hw3 aw_vld3)).mono ?_
  rintro e w2 ⟨rfl, hb2⟩
  have hb := Hb.out.trans (((below2 w1 _ _).trans (hb2.mono (by simp <;> omega))).mono Hb.out.size)
  have Hbf := Lib.hid hb
  have ht : decide (x * x = x * x) = true := by simp
  rw [ht]
  clear ht hb hb2 hr2 hw3
  go_wp2
  go_ret
  exact ⟨rfl, Hbf.out⟩
end Go.Proofs.YtmlopkkbgpfdnabGreat
