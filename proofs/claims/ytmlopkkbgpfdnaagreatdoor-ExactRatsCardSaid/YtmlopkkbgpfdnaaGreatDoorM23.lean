/- Walks: combine, Mul. · Walks: Add, Sub, Mul. · Walks: awake. · Walks: the law ExactPrints. · Walks: the reference's small; texts of numbers. · Walks: the law ExactParses. -/
import Derived.Test.YtmlopkkbgpfdnaaGreatDoorM2
import Derived.Test.YtmlopkkbgpfdnaaGreatDoorM22
import Derived.Test.YtmlopkkbgpfdnaaGreatDoorM15
namespace Go.Proofs.YtmlopkkbgpfdnaaGreatDoor
open Go.RowKit

set_option maxHeartbeats 800000 in
set_option maxRecDepth 100000 in
theorem combineMul_no (p q : Bool) (A A' : Option Addr) (n c n' c' : Nat) (l l' : List Nat) (w : World) (hx : Wd w (.slice A n c) l) (hy : Wd w (.slice A' n' c') l') (hno : (vld p l && vld q l') = false) :
    Calls Tryz.prog 58 #[.agg #[.bool p, .slice A n c], .agg #[.bool q, .slice A' n' c'], .func (.func 59) #[] #[]] w fun e w' => e = .returned (.tuple #[.agg #[.bool false, .slice none 0 0], .int .i64 2]) ∧ Below w.heap.size w w' := by
  have Hx := Lib.hid hx; clear hx
  have Hy := Lib.hid hy; clear hy
  have Hno := Lib.hid hno; clear hno
  go_enter Tryz.func58, Tryz.ntmps58
  go_wp2_with fail
  have hb4 := below4 w (Obj.cells #[.bool p, .slice A n c] 24) (Obj.cells #[.bool q, .slice A' n' c'] 24) (Obj.cells #[.bool false, .slice none 0 0] 24) (Obj.cells #[.bool p, .slice A n c, .bool q, .slice A' n' c'] 24)
  have hR3 := (RB.a3 w false none 0 0 24 (Obj.cells #[.bool p, .slice A n c] 24) (Obj.cells #[.bool q, .slice A' n' c'] 24)).alloc (Obj.cells #[.bool p, .slice A n c, .bool q, .slice A' n' c'] 24)
  refine (allValid_two p q A A' n c n' c' l l' w _ _ (by have := heap_alloc_new (((w.alloc (Obj.cells #[.bool p, .slice A n c] 24)).alloc (Obj.cells #[.bool q, .slice A' n' c'] 24)).alloc (Obj.cells #[.bool false, .slice none 0 0] 24)) (Obj.cells #[.bool p, .slice A n c, .bool q, .slice A' n' c'] 24); simpa using this) (Hx.out.below hb4) (Hy.out.below hb4)).mono ?_
  rintro e w1 ⟨rfl, hb1⟩
  rw [Hno.out]
  have hR := hR3.below hb1 (by simp <;> omega)
  obtain ⟨a0, A0, n0, c0, k10, k11, k20, k21⟩ := hR.facts
  have s0 := hR.set0 false (.slice none 0 0)
  have s1 := hR.set1 false (.slice none 0 0)
  have fin := below_set2 (g := w.heap.size + 1 + 1) (i := 0) (j := 1) (hb4.trans (hb1.mono (by simp <;> omega))) (by omega) (.bool false) (.slice none 0 0)
  have Fin := Lib.hid fin; clear fin hb1 hb4 hR hR3
  go_wp2
  exact bodyPost_ret (v := .tuple #[.agg #[.bool false, .slice none 0 0], .int .i64 2]) (by simp [results, Tryz.results58, go_sem, s0, s1]) rfl ⟨rfl, Fin.out⟩
set_option maxHeartbeats 800000 in
set_option maxRecDepth 100000 in
theorem combineMul_yes (x y : Int) (p q : Bool) (A A' : Option Addr) (n c n' c' : Nat) (l l' : List Nat) (w : World) (hx : Wd w (.slice A n c) l) (hy : Wd w (.slice A' n' c') l') (hp : vld p l = true) (hq : vld q l' = true)
    (ex : x = numOf p l) (ey : y = numOf q l') (hfit : (dig (x * y).natAbs).length ≤ 256) :
    Calls Tryz.prog 58 #[.agg #[.bool p, .slice A n c], .agg #[.bool q, .slice A' n' c'], .func (.func 59) #[] #[]] w fun e w' => ∃ b A n c, e = .returned (.tuple #[.agg #[.bool b, .slice A n c], .int .i64 0]) ∧ ZV w' (.agg #[.bool b, .slice A n c]) (x * y) ∧ Below w.heap.size w w' := by
  have zx := vld_zv hx hp
  have zy := vld_zv hy hq
  have lx : (dig x.natAbs).length ≤ 256 := by rw [ex, vld_dig hx.ok hp]; exact vld_len hp
  have ly : (dig y.natAbs).length ≤ 256 := by rw [ey, vld_dig hy.ok hq]; exact vld_len hq
  rw [← ex] at zx
  rw [← ey] at zy
  have hyes : (vld p l && vld q l') = true := by rw [hp, hq]; rfl
  have Hx := Lib.hid hx; clear hx
  have Hy := Lib.hid hy; clear hy
  have Zx := Lib.hid zx; clear zx
  have Zy := Lib.hid zy; clear zy
  have Hyes := Lib.hid hyes; clear hyes hp hq ex ey
  go_enter Tryz.func58, Tryz.ntmps58
  go_wp2_with fail
  have hb4 := below4 w (Obj.cells #[.bool p, .slice A n c] 24) (Obj.cells #[.bool q, .slice A' n' c'] 24) (Obj.cells #[.bool false, .slice none 0 0] 24) (Obj.cells #[.bool p, .slice A n c, .bool q, .slice A' n' c'] 24)
  have hR3 := (RB.a3 w false none 0 0 24 (Obj.cells #[.bool p, .slice A n c] 24) (Obj.cells #[.bool q, .slice A' n' c'] 24)).alloc (Obj.cells #[.bool p, .slice A n c, .bool q, .slice A' n' c'] 24)
  have o10 : ((((w.alloc (Obj.cells #[.bool p, .slice A n c] 24)).alloc (Obj.cells #[.bool q, .slice A' n' c'] 24)).alloc (Obj.cells #[.bool false, .slice none 0 0] 24)).alloc (Obj.cells #[.bool p, .slice A n c, .bool q, .slice A' n' c'] 24)).cell? ⟨w.heap.size, 0, none⟩ = some (.bool p) := by
    rw [World.cell?_alloc_past _ _ _ (by simp <;> omega)]; exact old1 0
  have o11 : ((((w.alloc (Obj.cells #[.bool p, .slice A n c] 24)).alloc (Obj.cells #[.bool q, .slice A' n' c'] 24)).alloc (Obj.cells #[.bool false, .slice none 0 0] 24)).alloc (Obj.cells #[.bool p, .slice A n c, .bool q, .slice A' n' c'] 24)).cell? ⟨w.heap.size, 1, none⟩ = some (.slice A n c) := by
    rw [World.cell?_alloc_past _ _ _ (by simp <;> omega)]; exact old1 1
  have o20 : ((((w.alloc (Obj.cells #[.bool p, .slice A n c] 24)).alloc (Obj.cells #[.bool q, .slice A' n' c'] 24)).alloc (Obj.cells #[.bool false, .slice none 0 0] 24)).alloc (Obj.cells #[.bool p, .slice A n c, .bool q, .slice A' n' c'] 24)).cell? ⟨w.heap.size + 1, 0, none⟩ = some (.bool q) := by
    rw [World.cell?_alloc_past _ _ _ (by simp <;> omega)]; exact old2 0
  have o21 : ((((w.alloc (Obj.cells #[.bool p, .slice A n c] 24)).alloc (Obj.cells #[.bool q, .slice A' n' c'] 24)).alloc (Obj.cells #[.bool false, .slice none 0 0] 24)).alloc (Obj.cells #[.bool p, .slice A n c, .bool q, .slice A' n' c'] 24)).cell? ⟨w.heap.size + 1, 1, none⟩ = some (.slice A' n' c') := by
    rw [World.cell?_alloc_past _ _ _ (by simp <;> omega)]; exact old2 1
  refine (allValid_two p q A A' n c n' c' l l' w _ _ (by have := heap_alloc_new (((w.alloc (Obj.cells #[.bool p, .slice A n c] 24)).alloc (Obj.cells #[.bool q, .slice A' n' c'] 24)).alloc (Obj.cells #[.bool false, .slice none 0 0] 24)) (Obj.cells #[.bool p, .slice A n c, .bool q, .slice A' n' c'] 24); simpa using this) (Hx.out.below hb4) (Hy.out.below hb4)).mono ?_
  rintro e w1 ⟨rfl, hb1⟩
  rw [Hyes.out]
  have z1 : w.heap.size + 1 + 1 + 1 + 1 ≤ w1.heap.size := by have := hb1.size; simpa using this
  have m10 := keepAt hb1 (by simp <;> omega) o10
  have m11 := keepAt hb1 (by simp <;> omega) o11
  have m20 := keepAt hb1 (by simp <;> omega) o20
  have m21 := keepAt hb1 (by simp <;> omega) o21
  have hR1 := hR3.below hb1 (by simp <;> omega)
  have hb0 : Below w.heap.size w w1 := hb4.trans (hb1.mono (by simp <;> omega))
  clear o10 o11 o20 o21 hb4 hb1 hR3
  have Zx1 := Lib.hid (Zx.out.below hb0)
  have Zy1 := Lib.hid (Zy.out.below hb0)
  have Hb0 := Lib.hid hb0; clear hb0
  have HR1 := Lib.hid hR1; clear hR1
  have tk0 : True := trivial
  go_wp2_with fail
  go_region_held3 (fun w' => w'.cell? ⟨w.heap.size, 0, none⟩ = some (.bool p) ∧ w'.cell? ⟨w.heap.size, 1, none⟩ = some (.slice A n c) ∧ w'.cell? ⟨w.heap.size + 1, 0, none⟩ = some (.bool q) ∧ w'.cell? ⟨w.heap.size + 1, 1, none⟩ = some (.slice A' n' c'))
    (first | exact ⟨m10, m11, m20, m21⟩ | (go_split_ands; exact ⟨(far2 (by omega)).trans (by assumption), (far2 (by omega)).trans (by assumption), (far2 (by omega)).trans (by assumption), (far2 (by omega)).trans (by assumption)⟩) | (go_split_ands; exact ⟨keepAt hb2 (by show _ < w1.heap.size; omega) (by assumption), keepAt hb2 (by show _ < w1.heap.size; omega) (by assumption), keepAt hb2 (by show _ < w1.heap.size; omega) (by assumption), keepAt hb2 (by show _ < w1.heap.size; omega) (by assumption)⟩) | (go_split_ands; exact ⟨keepAt hb3 (by omega) (by assumption), keepAt hb3 (by omega) (by assumption), keepAt hb3 (by omega) (by assumption), keepAt hb3 (by omega) (by assumption)⟩) | (go_split_ands; exact ⟨keepAt hb4 (by omega) (by assumption), keepAt hb4 (by omega) (by assumption), keepAt hb4 (by omega) (by assumption), keepAt hb4 (by omega) (by assumption)⟩) | (go_split_ands; exact ⟨keepAt hb5 (by omega) (by assumption), keepAt hb5 (by omega) (by assumption), keepAt hb5 (by omega) (by assumption), keepAt hb5 (by omega) (by assumption)⟩))
    (first | (go_at_call 19; have _t := tk0; refine (wholeOf_any p A n c _).mono ?_; rintro e w2 ⟨rfl, hb2⟩; clear tk0; have tk1 : True := trivial; have z2 : w1.heap.size ≤ w2.heap.size := (undrew hb2).size; have zx2 := Zx1.out.below (undrew hb2); have zy2 := Zy1.out.below (undrew hb2); have hR2 := HR1.out.below (undrew hb2) (by show _ < w1.heap.size; omega)) | (go_at_call 19; have _t := tk1; refine (wholeOf_any q A' n' c' _).mono ?_; rintro e w3 ⟨rfl, hb3⟩; have z3 := hb3.size; have zx3 := zx2.below hb3; have zy3 := zy2.below hb3; have hR3 := hR2.below hb3 (by omega)) | (go_at_call 59; refine (asAgg (timesZ_any x y _ _ _ zx3 zy3 (by omega) (by omega))).mono ?_; rintro e w4 ⟨b4, A4, n4, c4, rfl, hr, hb4⟩; have z4 := hb4.size; have hR4 := hR3.below hb4 (by omega)) | (go_at_call 84; refine (fitInt_yes _ _ _ hr hfit).mono ?_; rintro e w5 ⟨b6, A6, n6, c6, rfl, hr6, hb5⟩; have z5 := hb5.size; have hR := hR4.below hb5 (by omega); obtain ⟨a0, A0, n0, c0, k10, k11, k20, k21⟩ := hR.facts))
  have s0 := hR.set0 b6 (.slice A6 n6 c6)
  have s1 := hR.set1 b6 (.slice A6 n6 c6)
  have fin := And.intro (hr6.rb hR (.bool b6) (.slice A6 n6 c6)) (below_set2 (g := w.heap.size + 1 + 1) (i := 0) (j := 1) ((((Hb0.out.trans ((undrew hb2).mono (by show _ ≤ w1.heap.size; omega))).trans (hb3.mono (by omega))).trans (hb4.mono (by omega))).trans (hb5.mono (by omega))) (by omega) (.bool b6) (.slice A6 n6 c6))
  have Fin := Lib.hid fin; clear fin
  go_wp2
  exact bodyPost_ret (v := .tuple #[.agg #[.bool b6, .slice A6 n6 c6], .int .i64 0]) (by simp [results, Tryz.results58, go_sem, s0, s1]) rfl ⟨b6, A6, n6, c6, rfl, Fin.out.1, Fin.out.2⟩
set_option maxHeartbeats 800000 in
set_option maxRecDepth 100000 in
theorem combineMul_big (x y : Int) (p q : Bool) (A A' : Option Addr) (n c n' c' : Nat) (l l' : List Nat) (w : World) (hx : Wd w (.slice A n c) l) (hy : Wd w (.slice A' n' c') l') (hp : vld p l = true) (hq : vld q l' = true)
    (ex : x = numOf p l) (ey : y = numOf q l') (hfit : 256 < (dig (x * y).natAbs).length) :
    Calls Tryz.prog 58 #[.agg #[.bool p, .slice A n c], .agg #[.bool q, .slice A' n' c'], .func (.func 59) #[] #[]] w fun e w' => e = .returned (.tuple #[.agg #[.bool false, .slice none 0 0], .int .i64 5]) ∧ Below w.heap.size w w' := by
  have zx := vld_zv hx hp
  have zy := vld_zv hy hq
  have lx : (dig x.natAbs).length ≤ 256 := by rw [ex, vld_dig hx.ok hp]; exact vld_len hp
  have ly : (dig y.natAbs).length ≤ 256 := by rw [ey, vld_dig hy.ok hq]; exact vld_len hq
  rw [← ex] at zx
  rw [← ey] at zy
  have hyes : (vld p l && vld q l') = true := by rw [hp, hq]; rfl
  have Hx := Lib.hid hx; clear hx
  have Hy := Lib.hid hy; clear hy
  have Zx := Lib.hid zx; clear zx
  have Zy := Lib.hid zy; clear zy
  have Hyes := Lib.hid hyes; clear hyes hp hq ex ey
  go_enter Tryz.func58, Tryz.ntmps58
  go_wp2_with fail
  have hb4 := below4 w (Obj.cells #[.bool p, .slice A n c] 24) (Obj.cells #[.bool q, .slice A' n' c'] 24) (Obj.cells #[.bool false, .slice none 0 0] 24) (Obj.cells #[.bool p, .slice A n c, .bool q, .slice A' n' c'] 24)
  have hR3 := (RB.a3 w false none 0 0 24 (Obj.cells #[.bool p, .slice A n c] 24) (Obj.cells #[.bool q, .slice A' n' c'] 24)).alloc (Obj.cells #[.bool p, .slice A n c, .bool q, .slice A' n' c'] 24)
  have o10 : ((((w.alloc (Obj.cells #[.bool p, .slice A n c] 24)).alloc (Obj.cells #[.bool q, .slice A' n' c'] 24)).alloc (Obj.cells #[.bool false, .slice none 0 0] 24)).alloc (Obj.cells #[.bool p, .slice A n c, .bool q, .slice A' n' c'] 24)).cell? ⟨w.heap.size, 0, none⟩ = some (.bool p) := by
    rw [World.cell?_alloc_past _ _ _ (by simp <;> omega)]; exact old1 0
  have o11 : ((((w.alloc (Obj.cells #[.bool p, .slice A n c] 24)).alloc (Obj.cells #[.bool q, .slice A' n' c'] 24)).alloc (Obj.cells #[.bool false, .slice none 0 0] 24)).alloc (Obj.cells #[.bool p, .slice A n c, .bool q, .slice A' n' c'] 24)).cell? ⟨w.heap.size, 1, none⟩ = some (.slice A n c) := by
    rw [World.cell?_alloc_past _ _ _ (by simp <;> omega)]; exact old1 1
  have o20 : ((((w.alloc (Obj.cells #[.bool p, .slice A n c] 24)).alloc (Obj.cells #[.bool q, .slice A' n' c'] 24)).alloc (Obj.cells #[.bool false, .slice none 0 0] 24)).alloc (Obj.cells #[.bool p, .slice A n c, .bool q, .slice A' n' c'] 24)).cell? ⟨w.heap.size + 1, 0, none⟩ = some (.bool q) := by
    rw [World.cell?_alloc_past _ _ _ (by simp <;> omega)]; exact old2 0
  have o21 : ((((w.alloc (Obj.cells #[.bool p, .slice A n c] 24)).alloc (Obj.cells #[.bool q, .slice A' n' c'] 24)).alloc (Obj.cells #[.bool false, .slice none 0 0] 24)).alloc (Obj.cells #[.bool p, .slice A n c, .bool q, .slice A' n' c'] 24)).cell? ⟨w.heap.size + 1, 1, none⟩ = some (.slice A' n' c') := by
    rw [World.cell?_alloc_past _ _ _ (by simp <;> omega)]; exact old2 1
  refine (allValid_two p q A A' n c n' c' l l' w _ _ (by have := heap_alloc_new (((w.alloc (Obj.cells #[.bool p, .slice A n c] 24)).alloc (Obj.cells #[.bool q, .slice A' n' c'] 24)).alloc (Obj.cells #[.bool false, .slice none 0 0] 24)) (Obj.cells #[.bool p, .slice A n c, .bool q, .slice A' n' c'] 24); simpa using this) (Hx.out.below hb4) (Hy.out.below hb4)).mono ?_
  rintro e w1 ⟨rfl, hb1⟩
  rw [Hyes.out]
  have z1 : w.heap.size + 1 + 1 + 1 + 1 ≤ w1.heap.size := by have := hb1.size; simpa using this
  have m10 := keepAt hb1 (by simp <;> omega) o10
  have m11 := keepAt hb1 (by simp <;> omega) o11
  have m20 := keepAt hb1 (by simp <;> omega) o20
  have m21 := keepAt hb1 (by simp <;> omega) o21
  have hR1 := hR3.below hb1 (by simp <;> omega)
  have hb0 : Below w.heap.size w w1 := hb4.trans (hb1.mono (by simp <;> omega))
  clear o10 o11 o20 o21 hb4 hb1 hR3
  have Zx1 := Lib.hid (Zx.out.below hb0)
  have Zy1 := Lib.hid (Zy.out.below hb0)
  have Hb0 := Lib.hid hb0; clear hb0
  have HR1 := Lib.hid hR1; clear hR1
  have tk0 : True := trivial
  go_wp2_with fail
  go_region_held3 (fun w' => w'.cell? ⟨w.heap.size, 0, none⟩ = some (.bool p) ∧ w'.cell? ⟨w.heap.size, 1, none⟩ = some (.slice A n c) ∧ w'.cell? ⟨w.heap.size + 1, 0, none⟩ = some (.bool q) ∧ w'.cell? ⟨w.heap.size + 1, 1, none⟩ = some (.slice A' n' c'))
    (first | exact ⟨m10, m11, m20, m21⟩ | (go_split_ands; exact ⟨(far2 (by omega)).trans (by assumption), (far2 (by omega)).trans (by assumption), (far2 (by omega)).trans (by assumption), (far2 (by omega)).trans (by assumption)⟩) | (go_split_ands; exact ⟨keepAt hb2 (by show _ < w1.heap.size; omega) (by assumption), keepAt hb2 (by show _ < w1.heap.size; omega) (by assumption), keepAt hb2 (by show _ < w1.heap.size; omega) (by assumption), keepAt hb2 (by show _ < w1.heap.size; omega) (by assumption)⟩) | (go_split_ands; exact ⟨keepAt hb3 (by omega) (by assumption), keepAt hb3 (by omega) (by assumption), keepAt hb3 (by omega) (by assumption), keepAt hb3 (by omega) (by assumption)⟩) | (go_split_ands; exact ⟨keepAt hb4 (by omega) (by assumption), keepAt hb4 (by omega) (by assumption), keepAt hb4 (by omega) (by assumption), keepAt hb4 (by omega) (by assumption)⟩) | (go_split_ands; exact ⟨keepAt hb5 (by omega) (by assumption), keepAt hb5 (by omega) (by assumption), keepAt hb5 (by omega) (by assumption), keepAt hb5 (by omega) (by assumption)⟩))
    (first | (go_at_call 19; have _t := tk0; refine (wholeOf_any p A n c _).mono ?_; rintro e w2 ⟨rfl, hb2⟩; clear tk0; have tk1 : True := trivial; have z2 : w1.heap.size ≤ w2.heap.size := (undrew hb2).size; have zx2 := Zx1.out.below (undrew hb2); have zy2 := Zy1.out.below (undrew hb2); have hR2 := HR1.out.below (undrew hb2) (by show _ < w1.heap.size; omega)) | (go_at_call 19; have _t := tk1; refine (wholeOf_any q A' n' c' _).mono ?_; rintro e w3 ⟨rfl, hb3⟩; have z3 := hb3.size; have zx3 := zx2.below hb3; have zy3 := zy2.below hb3; have hR3 := hR2.below hb3 (by omega)) | (go_at_call 59; refine (asAgg (timesZ_any x y _ _ _ zx3 zy3 (by omega) (by omega))).mono ?_; rintro e w4 ⟨b4, A4, n4, c4, rfl, hr, hb4⟩; have z4 := hb4.size; have hR4 := hR3.below hb4 (by omega)) | (go_at_call 84; refine (fitInt_no _ _ _ hr hfit).mono ?_; rintro e w5 ⟨rfl, hb5⟩; have z5 := hb5.size; have hR := hR4.below hb5 (by omega); obtain ⟨a0, A0, n0, c0, k10, k11, k20, k21⟩ := hR.facts))
  have s0 := hR.set0 false (.slice none 0 0)
  have s1 := hR.set1 false (.slice none 0 0)
  have fin := (below_set2 (g := w.heap.size + 1 + 1) (i := 0) (j := 1) ((((Hb0.out.trans ((undrew hb2).mono (by show _ ≤ w1.heap.size; omega))).trans (hb3.mono (by omega))).trans (hb4.mono (by omega))).trans (hb5.mono (by omega))) (by omega) (.bool false) (.slice none 0 0))
  have Fin := Lib.hid fin; clear fin
  go_wp2
  exact bodyPost_ret (v := .tuple #[.agg #[.bool false, .slice none 0 0], .int .i64 5]) (by simp [results, Tryz.results58, go_sem, s0, s1]) rfl ⟨rfl, Fin.out⟩

end Go.Proofs.YtmlopkkbgpfdnaaGreatDoor
namespace Go.Proofs.YtmlopkkbgpfdnaaGreatDoor
open Go.RowKit

set_option maxRecDepth 100000 in
theorem exactMul_no (p q : Bool) (A A' : Option Addr) (n c n' c' : Nat) (l l' : List Nat) (w : World) (hx : Wd w (.slice A n c) l) (hy : Wd w (.slice A' n' c') l') (hno : (vld p l && vld q l') = false) :
    Calls Tryz.prog 34 #[.agg #[.bool p, .slice A n c], .agg #[.bool q, .slice A' n' c']] w fun e w' => e = .returned (.tuple #[.agg #[.bool false, .slice none 0 0], .int .i64 2]) ∧ Below w.heap.size w w' := by
  have Hx := Lib.hid hx; clear hx
  have Hy := Lib.hid hy; clear hy
  go_enter Tryz.func34, Tryz.ntmps34
  go_wp2_with fail
  have hb3 := below3 w (Obj.cells #[.bool p, .slice A n c] 24) (Obj.cells #[.bool q, .slice A' n' c'] 24) (Obj.cells #[.bool false, .slice none 0 0] 24)
  have hR3 := RB.a3 w false none 0 0 24 (Obj.cells #[.bool p, .slice A n c] 24) (Obj.cells #[.bool q, .slice A' n' c'] 24)
  refine (combineMul_no p q A A' n c n' c' l l' _ (Hx.out.below hb3) (Hy.out.below hb3) hno).mono ?_
  rintro e w1 ⟨rfl, hb1⟩
  have hR := hR3.below hb1 (by simp <;> omega)
  obtain ⟨a0, A0, n0, c0, k10, k11, k20, k21⟩ := hR.facts
  have s0 := hR.set0 false (.slice none 0 0)
  have s1 := hR.set1 false (.slice none 0 0)
  have fin := (below_set2 (g := w.heap.size + 1 + 1) (i := 0) (j := 1) (hb3.trans (hb1.mono (by simp <;> omega))) (by omega) (.bool false) (.slice none 0 0))
  have Fin := Lib.hid fin; clear fin hR hb1 hb3 hR3
  go_wp2
  exact bodyPost_ret (v := .tuple #[.agg #[.bool false, .slice none 0 0], .int .i64 2]) (by simp [results, Tryz.results34, go_sem, s0, s1]) rfl ⟨rfl, Fin.out⟩

set_option maxRecDepth 100000 in
theorem exactMul_yes (x y : Int) (p q : Bool) (A A' : Option Addr) (n c n' c' : Nat) (l l' : List Nat) (w : World) (hx : Wd w (.slice A n c) l) (hy : Wd w (.slice A' n' c') l') (hp : vld p l = true) (hq : vld q l' = true) (ex : x = numOf p l) (ey : y = numOf q l') (hfit : (dig (x * y).natAbs).length ≤ 256) :
    Calls Tryz.prog 34 #[.agg #[.bool p, .slice A n c], .agg #[.bool q, .slice A' n' c']] w fun e w' => ∃ b A n c, e = .returned (.tuple #[.agg #[.bool b, .slice A n c], .int .i64 0]) ∧ ZV w' (.agg #[.bool b, .slice A n c]) (x * y) ∧ Below w.heap.size w w' := by
  have Hxy := Lib.hid (And.intro ex ey)
  clear ex ey
  have Hx := Lib.hid hx; clear hx
  have Hy := Lib.hid hy; clear hy
  go_enter Tryz.func34, Tryz.ntmps34
  go_wp2_with fail
  have hb3 := below3 w (Obj.cells #[.bool p, .slice A n c] 24) (Obj.cells #[.bool q, .slice A' n' c'] 24) (Obj.cells #[.bool false, .slice none 0 0] 24)
  have hR3 := RB.a3 w false none 0 0 24 (Obj.cells #[.bool p, .slice A n c] 24) (Obj.cells #[.bool q, .slice A' n' c'] 24)
  refine (combineMul_yes x y p q A A' n c n' c' l l' _ (Hx.out.below hb3) (Hy.out.below hb3) hp hq Hxy.out.1 Hxy.out.2 hfit).mono ?_
  rintro e w1 ⟨b6, A6, n6, c6, rfl, hr6, hb1⟩
  have hR := hR3.below hb1 (by simp <;> omega)
  obtain ⟨a0, A0, n0, c0, k10, k11, k20, k21⟩ := hR.facts
  have s0 := hR.set0 b6 (.slice A6 n6 c6)
  have s1 := hR.set1 b6 (.slice A6 n6 c6)
  have fin := And.intro (hr6.rb hR (.bool b6) (.slice A6 n6 c6)) (below_set2 (g := w.heap.size + 1 + 1) (i := 0) (j := 1) (hb3.trans (hb1.mono (by simp <;> omega))) (by omega) (.bool b6) (.slice A6 n6 c6))
  have Fin := Lib.hid fin; clear fin hR hb1 hb3 hR3
  go_wp2
  exact bodyPost_ret (v := .tuple #[.agg #[.bool b6, .slice A6 n6 c6], .int .i64 0]) (by simp [results, Tryz.results34, go_sem, s0, s1]) rfl ⟨b6, A6, n6, c6, rfl, Fin.out.1, Fin.out.2⟩

set_option maxRecDepth 100000 in
theorem exactMul_big (x y : Int) (p q : Bool) (A A' : Option Addr) (n c n' c' : Nat) (l l' : List Nat) (w : World) (hx : Wd w (.slice A n c) l) (hy : Wd w (.slice A' n' c') l') (hp : vld p l = true) (hq : vld q l' = true) (ex : x = numOf p l) (ey : y = numOf q l') (hfit : 256 < (dig (x * y).natAbs).length) :
    Calls Tryz.prog 34 #[.agg #[.bool p, .slice A n c], .agg #[.bool q, .slice A' n' c']] w fun e w' => e = .returned (.tuple #[.agg #[.bool false, .slice none 0 0], .int .i64 5]) ∧ Below w.heap.size w w' := by
  have Hxy := Lib.hid (And.intro ex ey)
  clear ex ey
  have Hx := Lib.hid hx; clear hx
  have Hy := Lib.hid hy; clear hy
  go_enter Tryz.func34, Tryz.ntmps34
  go_wp2_with fail
  have hb3 := below3 w (Obj.cells #[.bool p, .slice A n c] 24) (Obj.cells #[.bool q, .slice A' n' c'] 24) (Obj.cells #[.bool false, .slice none 0 0] 24)
  have hR3 := RB.a3 w false none 0 0 24 (Obj.cells #[.bool p, .slice A n c] 24) (Obj.cells #[.bool q, .slice A' n' c'] 24)
  refine (combineMul_big x y p q A A' n c n' c' l l' _ (Hx.out.below hb3) (Hy.out.below hb3) hp hq Hxy.out.1 Hxy.out.2 hfit).mono ?_
  rintro e w1 ⟨rfl, hb1⟩
  have hR := hR3.below hb1 (by simp <;> omega)
  obtain ⟨a0, A0, n0, c0, k10, k11, k20, k21⟩ := hR.facts
  have s0 := hR.set0 false (.slice none 0 0)
  have s1 := hR.set1 false (.slice none 0 0)
  have fin := (below_set2 (g := w.heap.size + 1 + 1) (i := 0) (j := 1) (hb3.trans (hb1.mono (by simp <;> omega))) (by omega) (.bool false) (.slice none 0 0))
  have Fin := Lib.hid fin; clear fin hR hb1 hb3 hR3
  go_wp2
  exact bodyPost_ret (v := .tuple #[.agg #[.bool false, .slice none 0 0], .int .i64 5]) (by simp [results, Tryz.results34, go_sem, s0, s1]) rfl ⟨rfl, Fin.out⟩

end Go.Proofs.YtmlopkkbgpfdnaaGreatDoor
namespace Go.Proofs.YtmlopkkbgpfdnaaGreatDoor
open Go.RowKit

theorem aw_ok : Ok [0, 1] := by intro x hx; simp at hx; omega
theorem aw_vld : vld false [0, 1] = true := by decide
theorem aw_ok3 : Ok [0, 0, 1] := by intro x hx; simp at hx; omega
theorem aw_vld3 : vld false [0, 0, 1] = true := by decide
theorem aw_mul : numOf false [0, 1] * numOf false [0, 1] = numOf false [0, 0, 1] := by decide
theorem aw_fit : (dig (numOf false [0, 1] * numOf false [0, 1]).natAbs).length ≤ 256 := by
  rw [aw_mul, vld_dig aw_ok3 aw_vld3]; simp

set_option maxHeartbeats 400000 in
set_option maxRecDepth 100000 in
theorem awake_any (w : World) : Calls Tryz.prog 10 #[] w fun e w' => e = .returned (.bool true) ∧ Below w.heap.size w w' := by
  obtain ⟨x, hx⟩ : ∃ x, x = numOf false [0, 1] := ⟨_, rfl⟩
  have hfit := aw_fit
  have hmul := aw_mul
  rw [← hx] at hfit hmul
  have Hx := Lib.hid hx; clear hx
  have Hm := Lib.hid hmul; clear hmul
  have Hfit := Lib.hid hfit; clear hfit
  go_enter Tryz.func10, Tryz.ntmps10
  go_wp2_with fail
  have hw := (Wd.new w [0, 1] aw_ok #[.int .u32 0, .int .u32 1] 66 2 2 rfl (by omega) (by omega) (by
    intro j hj
    match j, hj with
    | 0, _ => rfl
    | 1, _ => rfl)).below (below1 _ (Obj.cells #[.bool false, .slice (some ⟨w.heap.size, 0, none⟩) 2 2] 24))
  have hb2 := below2 w (Obj.cells #[.int .u32 0, .int .u32 1] 66) (Obj.cells #[.bool false, .slice (some ⟨w.heap.size, 0, none⟩) 2 2] 24)
  refine (exactMul_yes x x false false _ _ 2 2 2 2 [0, 1] [0, 1] _ hw hw aw_vld aw_vld Hx.out Hx.out Hfit.out).mono ?_
  rintro e w1 ⟨b, A, n, c, rfl, hr, hb1⟩
  have hb01 := hb2.trans (hb1.mono (by simp <;> omega))
  have Hb := Lib.hid hb01
  have Hr := Lib.hid hr
  clear hw hb2 hb1 hr hb01
  go_wp2_with fail
  have hr2 := Hr.out.below (below2 w1 (Obj.cells #[.bool b, .slice A n c] 24) (Obj.cells #[.int .u32 0, .int .u32 0, .int .u32 1] 66))
  have hw3 := (Wd.new (w1.alloc (Obj.cells #[.bool b, .slice A n c] 24)) [0, 0, 1] aw_ok3 #[.int .u32 0, .int .u32 0, .int .u32 1] 66 3 3 rfl (by omega) (by omega) (by
    intro j hj
    match j, hj with
    | 0, _ => rfl
    | 1, _ => rfl
    | 2, _ => rfl))
  rw [World.size_alloc] at hw3
  refine (sameR_any (x * x) (x * x) _ _ _ hr2 (by rw [Hm.out]; exact vld_zv hw3 aw_vld3)).mono ?_
  rintro e w2 ⟨rfl, hb2⟩
  have hb := Hb.out.trans (((below2 w1 _ _).trans (hb2.mono (by simp <;> omega))).mono Hb.out.size)
  have Hbf := Lib.hid hb
  have ht : decide (x * x = x * x) = true := by simp
  rw [ht]
  clear ht hb hb2 hr2 hw3
  go_wp2
  go_ret
  exact ⟨rfl, Hbf.out⟩
end Go.Proofs.YtmlopkkbgpfdnaaGreatDoor
namespace Go.Proofs.YtmlopkkbgpfdnaaGreatDoor
open Go.RowKit

theorem dec_cons (n : Nat) : ∃ c l, dec n = c :: l ∧ isD c := by
  cases hd : dec n with
  | nil => exact absurd hd (dec_ne n)
  | cons c l => exact ⟨c, l, rfl, dec_isD n c (by rw [hd]; simp)⟩
theorem neg_dec (n : Nat) : negT (dec n) = false := by
  obtain ⟨c, l, hd, hc⟩ := dec_cons n
  rw [hd]
  unfold negT Lib.hasPrefix
  have h1 := hc.1
  have : c ≠ 45 := fun e => by rw [e] at h1; exact absurd h1 (by decide)
  simp [List.isPrefixOf]
  exact fun e => this e.symm
theorem dig_dec (n : Nat) : digT (dec n) = dec n := by
  have h := neg_dec n
  unfold negT at h
  unfold digT Lib.trimPrefix
  rw [h]; rfl
theorem neg_cons (l : List UInt8) : negT (45 :: l) = true := by simp [negT, Lib.hasPrefix, List.isPrefixOf]
theorem digT_cons (l : List UInt8) : digT (45 :: l) = l := by
  have h := neg_cons l
  unfold negT at h
  unfold digT Lib.trimPrefix
  rw [h]; rfl
theorem okT_txt (z : Int) (h : (dec z.natAbs).length ≤ 2500) : okT (txt z) := by
  unfold txt
  by_cases hz : z < 0
  · rw [if_pos hz]
    refine ⟨⟨by rw [digT_cons]; exact dec_canon _, by rw [digT_cons]; exact h⟩, fun e => ?_⟩
    rw [digT_cons] at e
    have h2 := congrArg ofD e.2
    rw [ofD_dec] at h2
    have : ofD [48] = 0 := rfl
    omega
  · rw [if_neg hz]
    refine ⟨⟨by rw [dig_dec]; exact dec_canon _, by rw [dig_dec]; exact h⟩, fun e => ?_⟩
    rw [neg_dec] at e
    exact absurd e.1 (by decide)
theorem numT_txt (z : Int) : numT (txt z) = z := by
  unfold txt numT
  by_cases hz : z < 0
  · rw [if_pos hz, neg_cons, digT_cons, ofD_dec]; simp; omega
  · rw [if_neg hz, neg_dec, dig_dec, ofD_dec]; simp; omega
theorem dec_len_three {n L a : Nat} (h : n < 4294967296 ^ L) (hL : L ≤ 3 * a + 1) : (dec n).length ≤ 29 * a + 10 := by
  refine dec_len_le (Nat.lt_of_lt_of_le h ?_) (by omega)
  have h1 : 4294967296 ^ (3 * a) ≤ 10 ^ (29 * a) := by
    rw [Nat.pow_mul, Nat.pow_mul]
    exact Nat.pow_le_pow_left (by decide) a
  have h2 : 4294967296 ^ L ≤ 4294967296 ^ (3 * a + 1) := Nat.pow_le_pow_right (by decide) hL
  rw [Nat.pow_add] at h2
  rw [Nat.pow_add]
  exact Nat.le_trans h2 (Nat.mul_le_mul h1 (by decide))
theorem sameR_yes (z : Int) (a b : Value) (W : World) (ha : ZV W a z) (hb : ZV W b z) : Calls Tryz.prog 16 #[a, b] W fun e w' => e = .returned (.bool true) ∧ Below W.heap.size W w' := by
  have h := sameR_any z z a b W ha hb
  rwa [decide_eq_true rfl] at h
theorem okT_nil : ¬ okT [] := fun h => h.1.1.1 (by rfl)

end Go.Proofs.YtmlopkkbgpfdnaaGreatDoor
namespace Go.Proofs.YtmlopkkbgpfdnaaGreatDoor
open Go.RowKit

theorem cut_text (l : List UInt8) : l = if negT l then 45 :: digT l else digT l := by
  cases hn : negT l with
  | false =>
    unfold negT at hn
    unfold digT Lib.trimPrefix
    rw [hn]; rfl
  | true =>
    unfold negT at hn
    unfold digT Lib.trimPrefix
    rw [hn]
    cases l with
    | nil => cases hn
    | cons c t =>
      simp [Lib.hasPrefix, List.isPrefixOf] at hn
      rw [← hn]; rfl
theorem txt_numT {l : List UInt8} (h : okT l) : txt (numT l) = l := by
  have h1 := okT_neg h
  have h2 := okT_abs l
  have h3 := dec_ofD _ h.1.1
  have h4 := cut_text l
  unfold txt
  rw [h2, h3]
  by_cases hz : numT l < 0
  · rw [decide_eq_true hz] at h1
    rw [h1] at h4
    rw [if_pos hz]; exact h4.symm
  · rw [decide_eq_false hz] at h1
    rw [h1] at h4
    rw [if_neg hz]; exact h4.symm

/-- the text of a representable number -/
def okF (l : List UInt8) : Prop := okT l ∧ (dig (numT l).natAbs).length ≤ 256

theorem okF_of_txt {l : List UInt8} {z : Int} (h : txt z = l) (hl : (dig z.natAbs).length ≤ 256) : okF l ∧ numT l = z := by
  subst h
  have h1 := numT_txt z
  exact ⟨⟨okT_txt z (Nat.le_trans (dec_len_three (a := 85) (lt_of_dig_len hl) (by omega)) (by omega)), by rw [h1]; exact hl⟩, h1⟩

/-- what Parse of the reference comes to -/
def PP (l : List UInt8) (w : World) (e : Ending) (w' : World) : Prop :=
  (okF l ∧ ∃ b A n c, e = .returned (.tuple #[.agg #[.bool b, .slice A n c], .int .i64 0]) ∧ ZV w' (.agg #[.bool b, .slice A n c]) (numT l) ∧ Below w.heap.size w w') ∨
  (¬ okF l ∧ e = .returned (.tuple #[.agg #[.bool false, .slice none 0 0], .int .i64 6]) ∧ Below w.heap.size w w')
theorem PP.no {l : List UInt8} {w w' : World} (h : ¬ okF l) (hb : Below w.heap.size w w') : PP l w (.returned (.tuple #[.agg #[.bool false, .slice none 0 0], .int .i64 6])) w' := .inr ⟨h, rfl, hb⟩

theorem no_len {l : List UInt8} (h : (digT l).length = 0 ∨ 2500 < (digT l).length) : ¬ okF l := fun e => by
  have h1 := e.1.1.1.1
  have h2 := e.1.1.2
  have := List.length_pos_iff.2 h1
  omega
theorem no_digit {l : List UInt8} {k : Nat} (hk : k < (digT l).length) (h : ¬ isD ((digT l)[k])) : ¬ okF l := fun e => h (e.1.1.1.2.1 _ (List.getElem_mem _))

set_option maxHeartbeats 400000 in
set_option maxRecDepth 100000 in
theorem parseR_len (s : ByteArray) (w : World) (h : (digT s.data.toList).length = 0 ∨ 2500 < (digT s.data.toList).length) : Calls Tryz.prog 47 #[.string s] w (PP s.data.toList w) := by
  have hno := no_len h
  obtain ⟨d, hd⟩ : ∃ d : ByteArray, d.data.toList = digT s.data.toList := ⟨⟨(digT s.data.toList).toArray⟩, rfl⟩
  obtain ⟨neg, hn⟩ : ∃ neg, neg = negT s.data.toList := ⟨_, rfl⟩
  have CM := Lib.hid (cut_minus s d neg hd hn)
  rw [← hd, ba_len] at h
  clear hd hn
  have Hno := Lib.hid hno; clear hno
  rcases h with h | h
  · go_enter Tryz.func47, Tryz.ntmps47
    go_wp2_with fail
    refine (CM.out _).mono ?_
    rintro e w1 ⟨rfl, rfl⟩
    go_wp2
    exact bodyPost_ret (v := .tuple #[.agg #[.bool false, .slice none 0 0], .int .i64 6]) (by simp [results, Tryz.results47, go_sem]) rfl (PP.no Hno.out (below_alloc _ _))
  · go_enter Tryz.func47, Tryz.ntmps47
    go_wp2_with fail
    refine (CM.out _).mono ?_
    rintro e w1 ⟨rfl, rfl⟩
    go_wp2
    exact bodyPost_ret (v := .tuple #[.agg #[.bool false, .slice none 0 0], .int .i64 6]) (by simp [results, Tryz.results47, go_sem]) rfl (PP.no Hno.out (below_alloc _ _))

set_option maxHeartbeats 400000 in
set_option maxRecDepth 100000 in
theorem parseR_go (s d : ByteArray) (neg : Bool) (w : World) (hd : d.data.toList = digT s.data.toList) (hn : neg = negT s.data.toList) (h1 : 0 < d.size) (h2 : d.size ≤ 2500) (htab : Tab w) : Calls Tryz.prog 47 #[.string s] w (PP s.data.toList w) := by
  have CM := Lib.hid (cut_minus s d neg hd hn)
  have Hd := Lib.hid hd; clear hd
  have Hn := Lib.hid hn; clear hn
  have Htab := Lib.hid htab; clear htab
  go_enter Tryz.func47, Tryz.ntmps47
  go_wp2_with fail
  refine (CM.out _).mono ?_
  rintro e w1 ⟨rfl, rfl⟩
  have hR := RB.c1 w false none 0 0 24
  have he := below_alloc w (Obj.cells #[.bool false, .slice none 0 0] 24)
  obtain ⟨W1, hW1⟩ : ∃ W1, W1 = w.alloc (Obj.cells #[.bool false, .slice none 0 0] 24) := ⟨_, rfl⟩
  have hs1 : W1.heap.size = w.heap.size + 1 := by rw [hW1]; simp
  rw [← hW1] at hR he ⊢
  clear hW1
  have HR1 := Lib.hid hR; clear hR
  have HE1 := Lib.hid he; clear he
  go_wp2_with fail
  go_loopw [6, 25] (fun mv iv wr => ∃ k : Nat, iv = .int .i64 k ∧ k ≤ d.size ∧ (∀ c ∈ d.data.toList.take k, isD c) ∧ Wd wr mv (dig (ofD (d.data.toList.take k))) ∧ Below W1.heap.size W1 wr) (fun _ iv _ => d.size - (intOf iv).toNat)
  case atStart => exact ⟨0, rfl, Nat.zero_le _, fun c hc => by simp at hc, by rw [List.take_zero, ofD_nil, dig_zero]; exact Wd.nil_ _, Below.refl _ _⟩
  case round =>
    obtain ⟨k, rfl, hk, hall, hmv, hbel⟩ := hrel
    have Hall := Lib.hid hall; clear hall
    have Hmv := Lib.hid hmv
    obtain ⟨A, c, rfl, -, -⟩ := hmv.shape
    clear hmv
    by_cases hlt : k < d.size
    · have hR2 := HR1.out.below hbel (by omega)
      have hbad : ¬ isD d[k] → ¬ okF s.data.toList := fun h => by
        have hlen : k < (digT s.data.toList).length := by rw [← Hd.out]; exact hlt
        refine no_digit hlen ?_
        have e : (digT s.data.toList)[k] = d[k] := by rw [ba_get]; simp only [Hd.out]
        rw [e]; exact h
      have Hbad := Lib.hid hbad; clear hbad
      have hb9 := HE1.out.trans (hbel.mono (by omega))
      obtain ⟨a0, A0, n0, c0, k10, k11, k20, k21⟩ := hR2.facts
      have s0 := hR2.set0 false (.slice none 0 0)
      have s1 := hR2.set1 false (.slice none 0 0)
      have Fin := Lib.hid (below_set2 (g := w.heap.size) (i := 0) (j := 1) hb9 (Nat.le_refl _) (.bool false) (.slice none 0 0))
      clear hb9 hR2
      by_cases hc1 : (d[k].toNat : Int) < 48
      · have hno := Hbad.out (fun h => by have := h.1; omega)
        have Hno := Lib.hid hno; clear hno
        go_wp2
        exact bodyPost_ret (v := .tuple #[.agg #[.bool false, .slice none 0 0], .int .i64 6]) (by simp [results, Tryz.results47, go_sem, s0, s1]) rfl (PP.no Hno.out Fin.out)
      · by_cases hc2 : (57 : Int) < (d[k].toNat : Int)
        · have hno := Hbad.out (fun h => by have := h.2; omega)
          have Hno := Lib.hid hno; clear hno
          go_wp2
          exact bodyPost_ret (v := .tuple #[.agg #[.bool false, .slice none 0 0], .int .i64 6]) (by simp [results, Tryz.results47, go_sem, s0, s1]) rfl (PP.no Hno.out Fin.out)
        · have hcd : isD d[k] := ⟨by omega, by omega⟩
          obtain ⟨cn, hcn⟩ : ∃ cn : Nat, d[k].toNat = cn := ⟨_, rfl⟩
          obtain ⟨dn, hdn⟩ : ∃ dn : Nat, ((cn : Int) - 48) % 256 = (dn : Int) := ⟨cn - 48, by omega⟩
          obtain ⟨P, hP⟩ : ∃ P, P = ofD (d.data.toList.take k) := ⟨_, rfl⟩
          have hof : ofD (d.data.toList.take (k + 1)) = 10 * P + dn := by
            rw [ofD_take _ k hlt, ← hP]
            have : (d.data.toList[k]'hlt).toNat = cn := hcn
            rw [this]; omega
          have hdn9 : dn ≤ 9 := by omega
          have hPl : (dig P).length ≤ 278 := by rw [hP]; exact ofD_len _ _ Hall.out (by rw [List.length_take, ba_len]; omega)
          have HP : Hid ((dig P).length ≤ 1000000) := Lib.hid (by omega)
          have HP2 : Hid ((dig (P * 10)).length ≤ 1000000) := Lib.hid (by
            have h5 := dig_mul_giga hPl
            have h6 := dig_len_mono (show P * 10 ≤ P * 1000000000 by exact Nat.mul_le_mul_left _ (by omega))
            omega)
          have HD2 : Hid ((dig dn).length ≤ 1000000) := Lib.hid (by have := dig_len_le (n := dn) (k := 1) (by omega); omega)
          rw [← hP] at Hmv ⊢
          obtain ⟨nP, hnP⟩ : ∃ n, n = (dig P).length := ⟨_, rfl⟩
          rw [← hnP] at Hmv ⊢
          have HPe := Lib.hid hP
          have Hcn := Lib.hid hcn
          have Hdn := Lib.hid hdn
          have Hof := Lib.hid hof
          have Hcd := Lib.hid hcd
          clear hcd hP hnP hdn hof hPl k10 k11 k20 k21 s0 s1
          go_upto_region 10 with fail
          refine wp_region_noPanic ?_
          refine wp_pool 9 [some 39, some 40, some 41, some 42, some 43, some 44, some 45, some 46, some 47] [] [] [(fun (v : Value) (X : World) => ∃ A n c, v = .slice A n c ∧ Wd X (.slice A n c) (dig (P))), (fun (v : Value) (X : World) => ∃ A n c, v = .slice A n c ∧ Wd X (.slice A n c) (dig (P * 10))), (fun (v : Value) (_ : World) => v = .string d), (fun (v : Value) (_ : World) => v = .int .i64 (k : Int)), (fun (v : Value) (_ : World) => v = .int .u8 (cn : Int)), (fun (v : Value) (_ : World) => v = .int .u8 (dn : Int)), (fun (v : Value) (_ : World) => v = .int .u64 (dn : Int)), (fun (v : Value) (X : World) => ∃ A n c, v = .slice A n c ∧ Wd X (.slice A n c) (dig (dn))), (fun (v : Value) (X : World) => ∃ A n c, v = .slice A n c ∧ Wd X (.slice A n c) (dig (P * 10 + dn)))] [noF, noF, noF, noF, noF, noF, noF, noF, noF] (by kernel_rfl) (by kernel_rfl) (by kernel_rfl) (by kernel_rfl) (by kernel_rfl) (by kernel_rfl) (by kernel_rfl) (by kernel_rfl) (fun _ _ _ _ h => h) ⟨(fun _ _ _ e ⟨A, n, c, h1, h2⟩ => ⟨A, n, c, h1, h2.below e⟩), (fun _ _ _ e ⟨A, n, c, h1, h2⟩ => ⟨A, n, c, h1, h2.below e⟩), Stays.pure _, Stays.pure _, Stays.pure _, Stays.pure _, Stays.pure _, (fun _ _ _ e ⟨A, n, c, h1, h2⟩ => ⟨A, n, c, h1, h2.below e⟩), (fun _ _ _ e ⟨A, n, c, h1, h2⟩ => ⟨A, n, c, h1, h2.below e⟩), True.intro⟩ ?steps ?done
          case steps =>
            simp only [List.take_succ_cons, List.take_zero]
            refine Steps.cons (fun (v : Value) (X : World) => ∃ A n c, v = .slice A n c ∧ Wd X (.slice A n c) (dig (P))) [] rfl (by kernel_rfl) rfl (by kernel_rfl) (fun y X ex0 hf K hK => ?_) ?_
            · clear hf
              have ex := (Ext.drw (Ext.refl _)).trans ex0
              refine Box.mk ?_
              simp only [fill, Act.put, Nat.reduceAdd, List.setIfInBounds_toArray, List.set_cons_zero, List.set_cons_succ] at hK ⊢
              have kw := Hmv.out.below ex
              go_simp
              exact hK.out _ _ ⟨_, _, _, rfl, kw⟩ (Ext.refl _) (fun b hb => by cases hb)
            refine Steps.cons (fun (v : Value) (X : World) => ∃ A n c, v = .slice A n c ∧ Wd X (.slice A n c) (dig (P * 10))) [0] rfl (by kernel_rfl) rfl (by kernel_rfl) (fun y X ex0 hf K hK => ?_) ?_
            · obtain ⟨A0, n0, c0, h0, z0⟩ : ((fun (v : Value) (X : World) => ∃ A n c, v = .slice A n c ∧ Wd X (.slice A n c) (dig (P)))) (y 0) X := hf.1
              clear hf
              have ex := (Ext.drw (Ext.refl _)).trans ex0
              refine Box.mk ?_
              simp only [fill, Act.put, Nat.reduceAdd, List.setIfInBounds_toArray, List.set_cons_zero, List.set_cons_succ, h0] at hK ⊢
              go_simp
              refine (asSl (smallR_any P 10 _ _ z0 HP.out (by omega))).mono ?_
              rintro e V ⟨A9, n9, c9, rfl, hz, hb⟩
              try go_wp2_with fail
              exact hK.out _ _ ⟨_, _, _, rfl, hz⟩ hb (fun b hb => by cases hb)
            refine Steps.cons (fun (v : Value) (_ : World) => v = .string d) [] rfl (by kernel_rfl) rfl (by kernel_rfl) (fun y X ex0 hf K hK => ?_) ?_
            · clear hf
              have ex := (Ext.drw (Ext.refl _)).trans ex0
              refine Box.mk ?_
              simp only [fill, Act.put, Nat.reduceAdd, List.setIfInBounds_toArray, List.set_cons_zero, List.set_cons_succ] at hK ⊢
              go_simp
              exact hK.out _ _ rfl (Ext.refl _) (fun b hb => by cases hb)
            refine Steps.cons (fun (v : Value) (_ : World) => v = .int .i64 (k : Int)) [] rfl (by kernel_rfl) rfl (by kernel_rfl) (fun y X ex0 hf K hK => ?_) ?_
            · clear hf
              have ex := (Ext.drw (Ext.refl _)).trans ex0
              refine Box.mk ?_
              simp only [fill, Act.put, Nat.reduceAdd, List.setIfInBounds_toArray, List.set_cons_zero, List.set_cons_succ] at hK ⊢
              go_simp
              exact hK.out _ _ rfl (Ext.refl _) (fun b hb => by cases hb)
            refine Steps.cons (fun (v : Value) (_ : World) => v = .int .u8 (cn : Int)) [2, 3] rfl (by kernel_rfl) rfl (by kernel_rfl) (fun y X ex0 hf K hK => ?_) ?_
            · have h2 : ((fun (v : Value) (_ : World) => v = .string d)) (y 2) X := hf.1
              have h3 : ((fun (v : Value) (_ : World) => v = .int .i64 (k : Int))) (y 3) X := hf.2.1
              clear hf
              have ex := (Ext.drw (Ext.refl _)).trans ex0
              refine Box.mk ?_
              simp only [fill, Act.put, Nat.reduceAdd, List.setIfInBounds_toArray, List.set_cons_zero, List.set_cons_succ, h2, h3] at hK ⊢
              go_simp
              exact hK.out _ _ rfl (Ext.refl _) (fun b hb => by cases hb)
            refine Steps.cons (fun (v : Value) (_ : World) => v = .int .u8 (dn : Int)) [4] rfl (by kernel_rfl) rfl (by kernel_rfl) (fun y X ex0 hf K hK => ?_) ?_
            · have h4 : ((fun (v : Value) (_ : World) => v = .int .u8 (cn : Int))) (y 4) X := hf.1
              clear hf
              have ex := (Ext.drw (Ext.refl _)).trans ex0
              refine Box.mk ?_
              simp only [fill, Act.put, Nat.reduceAdd, List.setIfInBounds_toArray, List.set_cons_zero, List.set_cons_succ, h4] at hK ⊢
              go_simp
              exact hK.out _ _ (by rw [IntKind.wrap_u8, Hdn.out]) (Ext.refl _) (fun b hb => by cases hb)
            refine Steps.cons (fun (v : Value) (_ : World) => v = .int .u64 (dn : Int)) [5] rfl (by kernel_rfl) rfl (by kernel_rfl) (fun y X ex0 hf K hK => ?_) ?_
            · have h5 : ((fun (v : Value) (_ : World) => v = .int .u8 (dn : Int))) (y 5) X := hf.1
              clear hf
              have ex := (Ext.drw (Ext.refl _)).trans ex0
              refine Box.mk ?_
              simp only [fill, Act.put, Nat.reduceAdd, List.setIfInBounds_toArray, List.set_cons_zero, List.set_cons_succ, h5] at hK ⊢
              go_simp
              exact hK.out _ _ (by rw [IntKind.wrap_u64]; congr 1; omega) (Ext.refl _) (fun b hb => by cases hb)
            refine Steps.cons (fun (v : Value) (X : World) => ∃ A n c, v = .slice A n c ∧ Wd X (.slice A n c) (dig (dn))) [6, 1] rfl (by kernel_rfl) rfl (by kernel_rfl) (fun y X ex0 hf K hK => ?_) ?_
            · have h6 : ((fun (v : Value) (_ : World) => v = .int .u64 (dn : Int))) (y 6) X := hf.1
              obtain ⟨A1, n1, c1, h1, z1⟩ : ((fun (v : Value) (X : World) => ∃ A n c, v = .slice A n c ∧ Wd X (.slice A n c) (dig (P * 10)))) (y 1) X := hf.2.1
              clear hf
              have ex := (Ext.drw (Ext.refl _)).trans ex0
              refine Box.mk ?_
              simp only [fill, Act.put, Nat.reduceAdd, List.setIfInBounds_toArray, List.set_cons_zero, List.set_cons_succ, h6, h1] at hK ⊢
              go_simp
              refine (asSl (naturalR_any dn (by omega) _)).mono ?_
              rintro e V ⟨A9, n9, c9, rfl, hz, hb⟩
              try go_wp2_with fail
              exact hK.out _ _ ⟨_, _, _, rfl, hz⟩ hb (fun b hb => by cases hb)
            refine Steps.cons (fun (v : Value) (X : World) => ∃ A n c, v = .slice A n c ∧ Wd X (.slice A n c) (dig (P * 10 + dn))) [1, 7] rfl (by kernel_rfl) rfl (by kernel_rfl) (fun y X ex0 hf K hK => ?_) ?_
            · obtain ⟨A1, n1, c1, h1, z1⟩ : ((fun (v : Value) (X : World) => ∃ A n c, v = .slice A n c ∧ Wd X (.slice A n c) (dig (P * 10)))) (y 1) X := hf.1
              obtain ⟨A7, n7, c7, h7, z7⟩ : ((fun (v : Value) (X : World) => ∃ A n c, v = .slice A n c ∧ Wd X (.slice A n c) (dig (dn)))) (y 7) X := hf.2.1
              clear hf
              have ex := (Ext.drw (Ext.refl _)).trans ex0
              refine Box.mk ?_
              simp only [fill, Act.put, Nat.reduceAdd, List.setIfInBounds_toArray, List.set_cons_zero, List.set_cons_succ, h1, h7] at hK ⊢
              go_simp
              refine (asSl (plusR_any _ _ _ _ _ z1 z7 HP2.out HD2.out)).mono ?_
              rintro e V ⟨A9, n9, c9, rfl, hz, hb⟩
              try go_wp2_with fail
              exact hK.out _ _ ⟨_, _, _, rfl, hz⟩ hb (fun b hb => by cases hb)
            exact Steps.nil
          case done =>
            intro y X ex hf hlt hsep
            obtain ⟨A0, n0, c0, h0, z0⟩ : ((fun (v : Value) (X : World) => ∃ A n c, v = .slice A n c ∧ Wd X (.slice A n c) (dig (P)))) (y 0) X := hf.1
            obtain ⟨A1, n1, c1, h1, z1⟩ : ((fun (v : Value) (X : World) => ∃ A n c, v = .slice A n c ∧ Wd X (.slice A n c) (dig (P * 10)))) (y 1) X := hf.2.1
            have h2 : ((fun (v : Value) (_ : World) => v = .string d)) (y 2) X := hf.2.2.1
            have h3 : ((fun (v : Value) (_ : World) => v = .int .i64 (k : Int))) (y 3) X := hf.2.2.2.1
            have h4 : ((fun (v : Value) (_ : World) => v = .int .u8 (cn : Int))) (y 4) X := hf.2.2.2.2.1
            have h5 : ((fun (v : Value) (_ : World) => v = .int .u8 (dn : Int))) (y 5) X := hf.2.2.2.2.2.1
            have h6 : ((fun (v : Value) (_ : World) => v = .int .u64 (dn : Int))) (y 6) X := hf.2.2.2.2.2.2.1
            obtain ⟨A7, n7, c7, h7, z7⟩ : ((fun (v : Value) (X : World) => ∃ A n c, v = .slice A n c ∧ Wd X (.slice A n c) (dig (dn)))) (y 7) X := hf.2.2.2.2.2.2.2.1
            obtain ⟨A8, n8, c8, h8, z8⟩ : ((fun (v : Value) (X : World) => ∃ A n c, v = .slice A n c ∧ Wd X (.slice A n c) (dig (P * 10 + dn)))) (y 8) X := hf.2.2.2.2.2.2.2.2.1
            clear hf
            clear hsep hlt
            refine Box.mk ?_
            simp only [List.drop_succ_cons, List.drop_zero, fill, Act.put, Nat.reduceAdd, List.setIfInBounds_toArray, List.set_cons_zero, List.set_cons_succ, h0, h1, h2, h3, h4, h5, h6, h7, h8]
            clear h0 h1 h2 h3 h4 h5 h6 h7 h8
            have EX := Lib.hid ex; clear ex
            have kz := Lib.hid z8
            clear z0 z1 z7 z8
            go_wp2_with fail
            refine NoPanic.normal ?_
            go_wp2_with fail
            go_roundw
            case rel =>
              refine ⟨k + 1, by go_num, by omega, fun x hx => ?_, ?_, hbel.trans (EX.out.mono hbel.size)⟩
              · rw [← List.take_append_getElem hlt] at hx
                rcases List.mem_append.1 hx with hx | hx
                · exact Hall.out x hx
                · rw [List.mem_singleton.1 hx]; exact Hcd.out
              · rw [Hof.out, Nat.mul_comm 10]; exact kz.out
            case measure => simp [intOf]; omega

    · have hkd : k = d.size := by omega
      subst hkd
      have hall := Hall.out
      rw [List.take_of_length_le (by rw [ba_len]; exact Nat.le_refl _)] at hall Hmv ⊢
      obtain ⟨P, hP⟩ : ∃ P, P = ofD d.data.toList := ⟨_, rfl⟩
      rw [← hP] at Hmv ⊢
      obtain ⟨nP, hnP⟩ : ∃ n, n = (dig P).length := ⟨_, rfl⟩
      rw [← hnP] at Hmv ⊢
      have hPl : (dig P).length ≤ 278 := by rw [hP]; exact ofD_len _ _ hall (by rw [ba_len]; omega)
      obtain ⟨z, hz⟩ : ∃ z : Int, z = if (neg && decide (0 < P)) = true then -(P : Int) else (P : Int) := ⟨_, rfl⟩
      have hza : z.natAbs = P := by rw [hz]; split <;> omega
      have hzn : decide (z < 0) = (neg && decide (0 < P)) := by
        rw [hz]
        cases neg <;> by_cases h0 : 0 < P <;> simp [h0]
      have hnum : okT s.data.toList → numT s.data.toList = z := fun h => by
        unfold numT
        rw [← Hn.out, ← Hd.out, ← hP, hz]
        cases hneg : neg with
        | false => simp
        | true =>
          have h5 := okT_neg h
          rw [← Hn.out, hneg] at h5
          have h6 := okT_abs s.data.toList
          rw [← Hd.out, ← hP] at h6
          have h7 : numT s.data.toList < 0 := of_decide_eq_true h5.symm
          have h8 : 0 < P := by omega
          simp [h8]
      have Hnum := Lib.hid hnum; clear hnum
      have Hza := Lib.hid hza
      have Hzn := Lib.hid hzn
      have HnP := Lib.hid hnP
      have HPl := Lib.hid hPl
      have hd0 : decide (0 < nP) = decide (0 < P) := by
        have h3 := @dig_len_pos P
        by_cases h : 0 < P
        · have h2 := h3.2 h
          rw [decide_eq_true h]; exact decide_eq_true (by omega)
        · have h2 : ¬ 0 < (dig P).length := fun e => h (h3.1 e)
          rw [decide_eq_false h]; exact decide_eq_false (by omega)
      have hnm : nP ≤ 9223372036854775807 := by omega
      have Hd0 := Lib.hid hd0
      have Hbel := Lib.hid hbel
      clear hP hnP hz hza hzn hall hPl hd0 hbel
      go_wp2_with fail
      refine (signedR_any neg _ _ _ wr hnm).mono ?_
      rintro e w2 ⟨rfl, hb2⟩
      rw [Hd0.out]
      obtain ⟨sg, hsg⟩ : ∃ sg : Bool, sg = (neg && decide (0 < P)) := ⟨_, rfl⟩
      rw [← hsg]
      have hzv : ZV w2 (.agg #[.bool sg, .slice A nP c]) z := ZV.mk (by rw [hsg]; exact Hzn.out.symm) (by rw [Hza.out]; exact Hmv.out.below hb2)
      have hz6 := HZ.lit w2 sg A nP c 55 hzv
      have hb6 := below_alloc w2 (Obj.cells #[.bool sg, .slice A nP c] 55)
      have hbw := Hbel.out.trans (hb2.mono Hbel.out.size)
      have hbx := hbw.trans (hb6.mono hbw.size)
      have hsW : (w2.alloc (Obj.cells #[.bool sg, .slice A nP c] 55)).heap.size = w2.heap.size + 1 := by simp
      obtain ⟨b8, A8, n8, c8, k80, k81, kz8⟩ := hz6
      have Hz8 := Lib.hid kz8
      have Hbx := Lib.hid hbx
      clear hsg hzv hb2 hb6 hbw hbx kz8
      go_wp2_with fail
      refine (fitsR_any z _ _ Hz8.out).mono ?_
      rintro e w3 ⟨rfl, hb3⟩
      rw [Hza.out]
      have hb4 := Hbx.out.trans (hb3.mono Hbx.out.size)
      have hb5 := HE1.out.trans (hb4.mono (by omega))
      have hR4 := HR1.out.below hb4 (by omega)
      have q80 := keepAt hb3 (by simp) k80
      have q81 := keepAt hb3 (by simp) k81
      have Hz9 := Lib.hid (Hz8.out.below hb3)
      have hT := tab_below (tab_below Htab.out HE1.out) hb4
      have HT := Lib.hid hT
      have HR4 := Lib.hid hR4
      have HB5 := Lib.hid hb5
      have hs3 : w2.heap.size < w3.heap.size := by have := hb3.size; simp at this; omega
      clear hb3 hb4 hb5 hR4 hT k80 k81
      by_cases hf : (dig P).length ≤ 256
      · rw [decide_eq_true hf]
        have hfz : (dig z.natAbs).length ≤ 256 := by rw [Hza.out]; exact hf
        have hfz2 : (dig z.natAbs).length ≤ 1000 := by omega
        have Hfz2 := Lib.hid hfz2
        obtain ⟨D, hD⟩ : ∃ D : ByteArray, D = ⟨(txt z).toArray⟩ := ⟨_, rfl⟩
        have hDt : D.data.toList = txt z := by rw [hD]
        have DG := Lib.hid (digits_any z _ _ Hz9.out Hfz2.out HT.out)
        rw [← hD] at DG
        clear hfz2 hD
        by_cases he : txt z = s.data.toList
        · have hDs : D = s := by
            rw [ba_mk D, hDt, he, ← ba_mk s]
          subst hDs
          have hok := okF_of_txt he hfz
          have Hok := Lib.hid hok
          clear hok he hfz hDt hf
          go_wp2_with fail
          refine DG.out.mono ?_
          rintro e w4 ⟨rfl, hb6⟩
          have q80 := keepAt hb6 hs3 q80
          have q81 := keepAt hb6 hs3 q81
          have hz4 := Hz9.out.below hb6
          have hR5 := HR4.out.below hb6 (HR4.out.lt)
          have hb7 := HB5.out.trans (hb6.mono HB5.out.size)
          have Hz4 := Lib.hid hz4
          have HR5 := Lib.hid hR5
          have HB7 := Lib.hid hb7
          clear hb6 hz4 hR5 hb7
          go_wp2_with fail
          refine (int_any _ _ _ _ _).mono ?_
          rintro e w5 ⟨rfl, hb8⟩
          have hR6 := HR5.out.below hb8 (HR5.out.lt)
          have hb9 := HB7.out.trans (hb8.mono HB7.out.size)
          obtain ⟨a0, A0, n0, c0, k10, k11, k20, k21⟩ := hR6.facts
          have s0 := hR6.set0 b8 (.slice A8 n8 c8)
          have s1 := hR6.set1 b8 (.slice A8 n8 c8)
          have Fin := Lib.hid (And.intro ((Hz4.out.below hb8).rb hR6 (.bool b8) (.slice A8 n8 c8)) (below_set2 (g := w.heap.size) (i := 0) (j := 1) hb9 (Nat.le_refl _) (.bool b8) (.slice A8 n8 c8)))
          clear hR6 hb9 hb8
          go_wp2
          exact bodyPost_ret (v := .tuple #[.agg #[.bool b8, .slice A8 n8 c8], .int .i64 0]) (by simp [results, Tryz.results47, go_sem, s0, s1]) rfl (.inl ⟨Hok.out.1, b8, A8, n8, c8, rfl, by rw [Hok.out.2]; exact Fin.out.1, Fin.out.2⟩)
        · have hno : ¬ okF s.data.toList := fun h => he (by rw [← Hnum.out h.1]; exact txt_numT h.1)
          have hne : (D.toList == s.toList) = false := by
            rw [Bool.eq_false_iff]
            intro e
            have e2 := eq_of_beq e
            rw [Lib.toList_data, Lib.toList_data, hDt] at e2
            exact he e2
          have Hno := Lib.hid hno
          clear hno he hfz hDt hf
          go_wp2_with fail
          refine DG.out.mono ?_
          rintro e w4 ⟨rfl, hb6⟩
          have hR5 := HR4.out.below hb6 (HR4.out.lt)
          have hb7 := HB5.out.trans (hb6.mono HB5.out.size)
          obtain ⟨a0, A0, n0, c0, k10, k11, k20, k21⟩ := hR5.facts
          have s0 := hR5.set0 false (.slice none 0 0)
          have s1 := hR5.set1 false (.slice none 0 0)
          have Fin := Lib.hid (below_set2 (g := w.heap.size) (i := 0) (j := 1) hb7 (Nat.le_refl _) (.bool false) (.slice none 0 0))
          clear hb6 hR5 hb7
          go_wp2
          exact bodyPost_ret (v := .tuple #[.agg #[.bool false, .slice none 0 0], .int .i64 6]) (by simp [results, Tryz.results47, go_sem, s0, s1]) rfl (PP.no Hno.out Fin.out)
      · rw [decide_eq_false hf]
        have hno : ¬ okF s.data.toList := fun h => hf (by
          have := h.2
          rwa [Hnum.out h.1, Hza.out] at this)
        have Hno := Lib.hid hno
        obtain ⟨a0, A0, n0, c0, k10, k11, k20, k21⟩ := HR4.out.facts
        have s0 := HR4.out.set0 false (.slice none 0 0)
        have s1 := HR4.out.set1 false (.slice none 0 0)
        have Fin := Lib.hid (below_set2 (g := w.heap.size) (i := 0) (j := 1) HB5.out (Nat.le_refl _) (.bool false) (.slice none 0 0))
        clear hno hf
        go_wp2
        exact bodyPost_ret (v := .tuple #[.agg #[.bool false, .slice none 0 0], .int .i64 6]) (by simp [results, Tryz.results47, go_sem, s0, s1]) rfl (PP.no Hno.out Fin.out)
end Go.Proofs.YtmlopkkbgpfdnaaGreatDoor
namespace Go.Proofs.YtmlopkkbgpfdnaaGreatDoor
open Go.RowKit

theorem parseR_any (s : ByteArray) (w : World) (htab : Tab w) : Calls Tryz.prog 47 #[.string s] w (PP s.data.toList w) := by
  by_cases h : (digT s.data.toList).length = 0 ∨ 2500 < (digT s.data.toList).length
  · exact parseR_len s w h
  · have e : (⟨(digT s.data.toList).toArray⟩ : ByteArray).size = (digT s.data.toList).length := rfl
    exact parseR_go s ⟨(digT s.data.toList).toArray⟩ _ w rfl rfl (by rw [e]; omega) (by rw [e]; omega) htab

/-- both have the same value -/
theorem PP.val {l : List UInt8} {w w' : World} {e : Ending} (h : PP l w e w') : ∃ (b : Bool) (A : Option Addr) (n c : Nat) (k : Int), e = .returned (.tuple #[.agg #[.bool b, .slice A n c], .int .i64 k]) ∧ ZV w' (.agg #[.bool b, .slice A n c]) (if k = 0 then numT l else 0) ∧ (k = 0 ∧ okF l ∨ k = 6 ∧ ¬ okF l) ∧ Below w.heap.size w w' := by
  rcases h with ⟨hf, b, A, n, c, rfl, hz, hb⟩ | ⟨hf, rfl, hb⟩
  · exact ⟨b, A, n, c, 0, rfl, by rw [if_pos rfl]; exact hz, .inl ⟨rfl, hf⟩, hb⟩
  · exact ⟨false, none, 0, 0, 6, rfl, by rw [if_neg (by decide)]; exact ZV.mk (by simp) (by rw [Int.natAbs_zero, dig_zero]; exact Wd.nil_ _), .inr ⟨rfl, hf⟩, hb⟩

end Go.Proofs.YtmlopkkbgpfdnaaGreatDoor
