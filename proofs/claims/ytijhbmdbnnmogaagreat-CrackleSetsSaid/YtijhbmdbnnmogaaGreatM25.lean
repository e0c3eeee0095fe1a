/- Walks: combine, Sub. · Walks: combine, Mul. -/
import Derived.Test.YtijhbmdbnnmogaaGreatM16
namespace Go.Proofs.YtijhbmdbnnmogaaGreat
open Go.RowKit

set_option maxHeartbeats 800000 in
set_option maxRecDepth 100000 in
theorem combineSub_no (p q : Bool) (A A' : Option Addr) (n c n' c' : Nat) (l l' : List Nat) (w : World) (hx : Wd w (.slice A n c) l) (hy : Wd w (.slice A' n' c') l') (hno : (vld p l && vld q l') = false) :
    Calls Tryz.prog 213 #[.agg #[.bool p, .slice A n c], .agg #[.bool q, .slice A' n' c'], .func (.func 171) #[] #[]] w fun e w' => e = .returned (.tuple #[.agg #[.bool false, .slice none 0 0], .int .i64 2]) ∧ Below w.heap.size w w' := by
  have Hx := Lib.hid hx; clear hx
  have Hy := Lib.hid hy; clear hy
  have Hno := Lib.hid hno; clear hno
  go_enter Tryz.func213, Tryz.ntmps213
  go_wp2_with fail
  have hb4 := below4 w (Obj.cells #[.bool p, .slice A n c] 56) (Obj.cells #[.bool q, .slice A' n' c'] 56) (Obj.cells #[.bool false, .slice none 0 0] 56) (Obj.cells #[.bool p, .slice A n c, .bool q, .slice A' n' c'] 56)
  have hR3 := (RB.a3 w false none 0 0 56 (Obj.cells #[.bool p, .slice A n c] 56) (Obj.cells #[.bool q, .slice A' n' c'] 56)).alloc (Obj.cells #[.bool p, .slice A n c, .bool q, .slice A' n' c'] 56)
  refine (allValid_two p q A A' n c n' c' l l' w _ _ (by have := heap_alloc_new (((w.alloc (Obj.cells #[.bool p, .slice A n c] 56)).alloc (Obj.cells #[.bool q, .slice A' n' c'] 56)).alloc (Obj.cells #[.bool false, .slice none 0 0] 56)) (Obj.cells #[.bool p, .slice A n c, .bool q, .slice A' n' c'] 56); simpa using this) (Hx.out.below hb4) (Hy.out.below hb4)).mono ?_
  rintro e w1 ⟨rfl, hb1⟩
  rw [Hno.out]
  have hR := hR3.below hb1 (by simp <;> omega)
  obtain ⟨a0, A0, n0, c0, k10, k11, k20, k21⟩ := hR.facts
  have s0 := hR.set0 false (.slice none 0 0)
  have s1 := hR.set1 false (.slice none 0 0)
  have fin := below_set2 (g := w.heap.size + 1 + 1) (i := 0) (j := 1) (hb4.trans (hb1.mono (by simp <;> omega))) (by omega) (.bool false) (.slice none 0 0)
  have Fin := Lib.hid fin; clear fin hb1 hb4 hR hR3
  go_wp2
  exact bodyPost_ret (v := .tuple #[.agg #[.bool false, .slice none 0 0], .int .i64 2]) (by simp [results, Tryz.results213, go_sem, s0, s1]) rfl ⟨rfl, Fin.out⟩
set_option maxHeartbeats 800000 in
set_option maxRecDepth 100000 in
theorem combineSub_yes (x y : Int) (p q : Bool) (A A' : Option Addr) (n c n' c' : Nat) (l l' : List Nat) (w : World) (hx : Wd w (.slice A n c) l) (hy : Wd w (.slice A' n' c') l') (hp : vld p l = true) (hq : vld q l' = true)
    (ex : x = numOf p l) (ey : y = numOf q l') (hfit : (dig (x - y).natAbs).length ≤ 256) :
    Calls Tryz.prog 213 #[.agg #[.bool p, .slice A n c], .agg #[.bool q, .slice A' n' c'], .func (.func 171) #[] #[]] w fun e w' => ∃ b A n c, e = .returned (.tuple #[.agg #[.bool b, .slice A n c], .int .i64 0]) ∧ ZV w' (.agg #[.bool b, .slice A n c]) (x - y) ∧ Below w.heap.size w w' := by
  have zx := vld_zv hx hp
  have zy := vld_zv hy hq
  have lx : (dig x.natAbs).length ≤ 256 := by rw [ex, vld_dig hx.ok hp]; exact vld_len hp
  have ly : (dig y.natAbs).length ≤ 256 := by rw [ey, vld_dig hy.ok hq]; exact vld_len hq
  rw [← ex] at zx
  rw [← ey] at zy
  have hyes : (vld p l && vld q l') = true := by rw [hp, hq]; rfl
  have Hx := Lib.hid hx; clear hx
  have Hy := Lib.hid hy; clear hy
  have Zx := Lib.hid zx; clear zx
  have Zy := Lib.hid zy; clear zy
  have Hyes := Lib.hid hyes; clear hyes hp hq ex ey
  go_enter Tryz.func213, Tryz.ntmps213
  go_wp2_with fail
  have hb4 := below4 w (Obj.cells #[.bool p, .slice A n c] 56) (Obj.cells #[.bool q, .slice A' n' c'] 56) (Obj.cells #[.bool false, .slice none 0 0] 56) (Obj.cells #[.bool p, .slice A n c, .bool q, .slice A' n' c'] 56)
  have hR3 := (RB.a3 w false none 0 0 56 (Obj.cells #[.bool p, .slice A n c] 56) (Obj.cells #[.bool q, .slice A' n' c'] 56)).alloc (Obj.cells #[.bool p, .slice A n c, .bool q, .slice A' n' c'] 56)
  have o10 : ((((w.alloc (Obj.cells #[.bool p, .slice A n c] 56)).alloc (Obj.cells #[.bool q, .slice A' n' c'] 56)).alloc (Obj.cells #[.bool false, .slice none 0 0] 56)).alloc (Obj.cells #[.bool p, .slice A n c, .bool q, .slice A' n' c'] 56)).cell? ⟨w.heap.size, 0, none⟩ = some (.bool p) := by
    rw [World.cell?_alloc_past _ _ _ (by simp <;> omega)]; exact old1 0
  have o11 : ((((w.alloc (Obj.cells #[.bool p, .slice A n c] 56)).alloc (Obj.cells #[.bool q, .slice A' n' c'] 56)).alloc (Obj.cells #[.bool false, .slice none 0 0] 56)).alloc (Obj.cells #[.bool p, .slice A n c, .bool q, .slice A' n' c'] 56)).cell? ⟨w.heap.size, 1, none⟩ = some (.slice A n c) := by
    rw [World.cell?_alloc_past _ _ _ (by simp <;> omega)]; exact old1 1
  have o20 : ((((w.alloc (Obj.cells #[.bool p, .slice A n c] 56)).alloc (Obj.cells #[.bool q, .slice A' n' c'] 56)).alloc (Obj.cells #[.bool false, .slice none 0 0] 56)).alloc (Obj.cells #[.bool p, .slice A n c, .bool q, .slice A' n' c'] 56)).cell? ⟨w.heap.size + 1, 0, none⟩ = some (.bool q) := by
    rw [World.cell?_alloc_past _ _ _ (by simp <;> omega)]; exact old2 0
  have o21 : ((((w.alloc (Obj.cells #[.bool p, .slice A n c] 56)).alloc (Obj.cells #[.bool q, .slice A' n' c'] 56)).alloc (Obj.cells #[.bool false, .slice none 0 0] 56)).alloc (Obj.cells #[.bool p, .slice A n c, .bool q, .slice A' n' c'] 56)).cell? ⟨w.heap.size + 1, 1, none⟩ = some (.slice A' n' c') := by
    rw [World.cell?_alloc_past _ _ _ (by simp <;> omega)]; exact old2 1
  refine (allValid_two p q A A' n c n' c' l l' w _ _ (by have := heap_alloc_new (((w.alloc (Obj.cells #[.bool p, .slice A n c] 56)).alloc (Obj.cells #[.bool q, .slice A' n' c'] 56)).alloc (Obj.cells #[.bool false, .slice none 0 0] 56)) (Obj.cells #[.bool p, .slice A n c, .bool q, .slice A' n' c'] 56); simpa using this) (Hx.out.below hb4) (Hy.out.below hb4)).mono ?_
  rintro e w1 ⟨rfl, hb1⟩
  rw [Hyes.out]
  have z1 : w.heap.size + 1 + 1 + 1 + 1 ≤ w1.heap.size := by have := hb1.size; simpa using this
  have m10 := keepAt hb1 (by simp <;> omega) o10
  have m11 := keepAt hb1 (by simp <;> omega) o11
  have m20 := keepAt hb1 (by simp <;> omega) o20
  have m21 := keepAt hb1 (by simp <;> omega) o21
  have hR1 := hR3.below hb1 (by simp <;> omega)
  have hb0 : Below w.heap.size w w1 := hb4.trans (hb1.mono (by simp <;> omega))
  clear o10 o11 o20 o21 hb4 hb1 hR3
  have Zx1 := Lib.hid (Zx.out.below hb0)
  have Zy1 := Lib.hid (Zy.out.below hb0)
  have Hb0 := Lib.hid hb0; clear hb0
  have HR1 := Lib.hid hR1; clear hR1
  have tk0 : True := trivial
  go_wp2_with fail
  go_region_held3 (fun w' => w'.cell? ⟨w.heap.size, 0, none⟩ = some (.bool p) ∧ w'.cell? ⟨w.heap.size, 1, none⟩ = some (.slice A n c) ∧ w'.cell? ⟨w.heap.size + 1, 0, none⟩ = some (.bool q) ∧ w'.cell? ⟨w.heap.size + 1, 1, none⟩ = some (.slice A' n' c'))
    (first | exact ⟨m10, m11, m20, m21⟩ | (go_split_ands; exact ⟨(far2 (by omega)).trans (by assumption), (far2 (by omega)).trans (by assumption), (far2 (by omega)).trans (by assumption), (far2 (by omega)).trans (by assumption)⟩) | (go_split_ands; exact ⟨keepAt hb2 (by show _ < w1.heap.size; omega) (by assumption), keepAt hb2 (by show _ < w1.heap.size; omega) (by assumption), keepAt hb2 (by show _ < w1.heap.size; omega) (by assumption), keepAt hb2 (by show _ < w1.heap.size; omega) (by assumption)⟩) | (go_split_ands; exact ⟨keepAt hb3 (by omega) (by assumption), keepAt hb3 (by omega) (by assumption), keepAt hb3 (by omega) (by assumption), keepAt hb3 (by omega) (by assumption)⟩) | (go_split_ands; exact ⟨keepAt hb4 (by omega) (by assumption), keepAt hb4 (by omega) (by assumption), keepAt hb4 (by omega) (by assumption), keepAt hb4 (by omega) (by assumption)⟩) | (go_split_ands; exact ⟨keepAt hb5 (by omega) (by assumption), keepAt hb5 (by omega) (by assumption), keepAt hb5 (by omega) (by assumption), keepAt hb5 (by omega) (by assumption)⟩))
    (first | (go_at_call 121; have _t := tk0; refine (wholeOf_any p A n c _).mono ?_; rintro e w2 ⟨rfl, hb2⟩; clear tk0; have tk1 : True := trivial; have z2 : w1.heap.size ≤ w2.heap.size := (undrew hb2).size; have zx2 := Zx1.out.below (undrew hb2); have zy2 := Zy1.out.below (undrew hb2); have hR2 := HR1.out.below (undrew hb2) (by show _ < w1.heap.size; omega)) | (go_at_call 121; have _t := tk1; refine (wholeOf_any q A' n' c' _).mono ?_; rintro e w3 ⟨rfl, hb3⟩; have z3 := hb3.size; have zx3 := zx2.below hb3; have zy3 := zy2.below hb3; have hR3 := hR2.below hb3 (by omega)) | (go_at_call 171; refine (asAgg (minusZ_any x y _ _ _ zx3 zy3 (by omega) (by omega))).mono ?_; rintro e w4 ⟨b4, A4, n4, c4, rfl, hr, hb4⟩; have z4 := hb4.size; have hR4 := hR3.below hb4 (by omega)) | (go_at_call 232; refine (fitInt_yes _ _ _ hr hfit).mono ?_; rintro e w5 ⟨b6, A6, n6, c6, rfl, hr6, hb5⟩; have z5 := hb5.size; have hR := hR4.below hb5 (by omega); obtain ⟨a0, A0, n0, c0, k10, k11, k20, k21⟩ := hR.facts))
  have s0 := hR.set0 b6 (.slice A6 n6 c6)
  have s1 := hR.set1 b6 (.slice A6 n6 c6)
  have fin := And.intro (hr6.rb hR (.bool b6) (.slice A6 n6 c6)) (below_set2 (g := w.heap.size + 1 + 1) (i := 0) (j := 1) ((((Hb0.out.trans ((undrew hb2).mono (by show _ ≤ w1.heap.size; omega))).trans (hb3.mono (by omega))).trans (hb4.mono (by omega))).trans (hb5.mono (by omega))) (by omega) (.bool b6) (.slice A6 n6 c6))
  have Fin := Lib.hid fin; clear fin
  go_wp2
  exact bodyPost_ret (v := .tuple #[.agg #[.bool b6, .slice A6 n6 c6], .int .i64 0]) (by simp [results, Tryz.results213, go_sem, s0, s1]) rfl ⟨b6, A6, n6, c6, rfl, Fin.out.1, Fin.out.2⟩
set_option maxHeartbeats 800000 in
set_option maxRecDepth 100000 in
theorem combineSub_big (x y : Int) (p q : Bool) (A A' : Option Addr) (n c n' c' : Nat) (l l' : List Nat) (w : World) (hx : Wd w (.slice A n c) l) (hy : Wd w (.slice A' n' c') l') (hp : vld p l = true) (hq : vld q l' = true)
    (ex : x = numOf p l) (ey : y = numOf q l') (hfit : 256 < (dig (x - y).natAbs).length) :
    Calls Tryz.prog 213 #[.agg #[.bool p, .slice A n c], .agg #[.bool q, .slice A' n' c'], .func (.func 171) #[] #[]] w fun e w' => e = .returned (.tuple #[.agg #[.bool false, .slice none 0 0], .int .i64 5]) ∧ Below w.heap.size w w' := by
  have zx := vld_zv hx hp
  have zy := vld_zv hy hq
  have lx : (dig x.natAbs).length ≤ 256 := by rw [ex, vld_dig hx.ok hp]; exact vld_len hp
  have ly : (dig y.natAbs).length ≤ 256 := by rw [ey, vld_dig hy.ok hq]; exact vld_len hq
  rw [← ex] at zx
  rw [← ey] at zy
  have hyes : (vld p l && vld q l') = true := by rw [hp, hq]; rfl
  have Hx := Lib.hid hx; clear hx
  have Hy := Lib.hid hy; clear hy
  have Zx := Lib.hid zx; clear zx
  have Zy := Lib.hid zy; clear zy
  have Hyes := Lib.hid hyes; clear hyes hp hq ex ey
  go_enter Tryz.func213, Tryz.ntmps213
  go_wp2_with fail
  have hb4 := below4 w (Obj.cells #[.bool p, .slice A n c] 56) (Obj.cells #[.bool q, .slice A' n' c'] 56) (Obj.cells #[.bool false, .slice none 0 0] 56) (Obj.cells #[.bool p, .slice A n c, .bool q, .slice A' n' c'] 56)
  have hR3 := (RB.a3 w false none 0 0 56 (Obj.cells #[.bool p, .slice A n c] 56) (Obj.cells #[.bool q, .slice A' n' c'] 56)).alloc (Obj.cells #[.bool p, .slice A n c, .bool q, .slice A' n' c'] 56)
  have o10 : ((((w.alloc (Obj.cells #[.bool p, .slice A n c] 56)).alloc (Obj.cells #[.bool q, .slice A' n' c'] 56)).alloc (Obj.cells #[.bool false, .slice none 0 0] 56)).alloc (Obj.cells #[.bool p, .slice A n c, .bool q, .slice A' n' c'] 56)).cell? ⟨w.heap.size, 0, none⟩ = some (.bool p) := by
    rw [World.cell?_alloc_past _ _ _ (by simp <;> omega)]; exact old1 0
  have o11 : ((((w.alloc (Obj.cells #[.bool p, .slice A n c] 56)).alloc (Obj.cells #[.bool q, .slice A' n' c'] 56)).alloc (Obj.cells #[.bool false, .slice none 0 0] 56)).alloc (Obj.cells #[.bool p, .slice A n c, .bool q, .slice A' n' c'] 56)).cell? ⟨w.heap.size, 1, none⟩ = some (.slice A n c) := by
    rw [World.cell?_alloc_past _ _ _ (by simp <;> omega)]; exact old1 1
  have o20 : ((((w.alloc (Obj.cells #[.bool p, .slice A n c] 56)).alloc (Obj.cells #[.bool q, .slice A' n' c'] 56)).alloc (Obj.cells #[.bool false, .slice none 0 0] 56)).alloc (Obj.cells #[.bool p, .slice A n c, .bool q, .slice A' n' c'] 56)).cell? ⟨w.heap.size + 1, 0, none⟩ = some (.bool q) := by
    rw [World.cell?_alloc_past _ _ _ (by simp <;> omega)]; exact old2 0
  have o21 : ((((w.alloc (Obj.cells #[.bool p, .slice A n c] 56)).alloc (Obj.cells #[.bool q, .slice A' n' c'] 56)).alloc (Obj.cells #[.bool false, .slice none 0 0] 56)).alloc (Obj.cells #[.bool p, .slice A n c, .bool q, .slice A' n' c'] 56)).cell? ⟨w.heap.size + 1, 1, none⟩ = some (.slice A' n' c') := by
    rw [World.cell?_alloc_past _ _ _ (by simp <;> omega)]; exact old2 1
  refine (allValid_two p q A A' n c n' c' l l' w _ _ (by have := heap_alloc_new (((w.alloc (Obj.cells #[.bool p, .slice A n c] 56)).alloc (Obj.cells #[.bool q, .slice A' n' c'] 56)).alloc (Obj.cells #[.bool false, .slice none 0 0] 56)) (Obj.cells #[.bool p, .slice A n c, .bool q, .slice A' n' c'] 56); simpa using this) (Hx.out.below hb4) (Hy.out.below hb4)).mono ?_
  rintro e w1 ⟨rfl, hb1⟩
  rw [Hyes.out]
  have z1 : w.heap.size + 1 + 1 + 1 + 1 ≤ w1.heap.size := by have := hb1.size; simpa using this
  have m10 := keepAt hb1 (by simp <;> omega) o10
  have m11 := keepAt hb1 (by simp <;> omega) o11
  have m20 := keepAt hb1 (by simp <;> omega) o20
  have m21 := keepAt hb1 (by simp <;> omega) o21
  have hR1 := hR3.below hb1 (by simp <;> omega)
  have hb0 : Below w.heap.size w w1 := hb4.trans (hb1.mono (by simp <;> omega))
  clear o10 o11 o20 o21 hb4 hb1 hR3
  have Zx1 := Lib.hid (Zx.out.below hb0)
  have Zy1 := Lib.hid (Zy.out.below hb0)
  have Hb0 := Lib.hid hb0; clear hb0
  have HR1 := Lib.hid hR1; clear hR1
  have tk0 : True := trivial
  go_wp2_with fail
  go_region_held3 (fun w' => w'.cell? ⟨w.heap.size, 0, none⟩ = some (.bool p) ∧ w'.cell? ⟨w.heap.size, 1, none⟩ = some (.slice A n c) ∧ w'.cell? ⟨w.heap.size + 1, 0, none⟩ = some (.bool q) ∧ w'.cell? ⟨w.heap.size + 1, 1, none⟩ = some (.slice A' n' c'))
    (first | exact ⟨m10, m11, m20, m21⟩ | (go_split_ands; exact ⟨(far2 (by omega)).trans (by assumption), (far2 (by omega)).trans (by assumption), (far2 (by omega)).trans (by assumption), (far2 (by omega)).trans (by assumption)⟩) | (go_split_ands; exact ⟨keepAt hb2 (by show _ < w1.heap.size; omega) (by assumption), keepAt hb2 (by show _ < w1.heap.size; omega) (by assumption), keepAt hb2 (by show _ < w1.heap.size; omega) (by assumption), keepAt hb2 (by show _ < w1.heap.size; omega) (by assumption)⟩) | (go_split_ands; exact ⟨keepAt hb3 (by omega) (by assumption), keepAt hb3 (by omega) (by assumption), keepAt hb3 (by omega) (by assumption), keepAt hb3 (by omega) (by assumption)⟩) | (go_split_ands; exact ⟨keepAt hb4 (by omega) (by assumption), keepAt hb4 (by omega) (by assumption), keepAt hb4 (by omega) (by assumption), keepAt hb4 (by omega) (by assumption)⟩) | (go_split_ands; exact ⟨keepAt hb5 (by omega) (by assumption), keepAt hb5 (by omega) (by assumption), keepAt hb5 (by omega) (by assumption), keepAt hb5 (by omega) (by assumption)⟩))
    (first | (go_at_call 121; have _t := tk0; refine (wholeOf_any p A n c _).mono ?_; rintro e w2 ⟨rfl, hb2⟩; clear tk0; have tk1 : True := trivial; have z2 : w1.heap.size ≤ w2.heap.size := (undrew hb2).size; have zx2 := Zx1.out.below (undrew hb2); have zy2 := Zy1.out.below (undrew hb2); have hR2 := HR1.out.below (undrew hb2) (by show _ < w1.heap.size; omega)) | (go_at_call 121; have _t := tk1; refine (wholeOf_any q A' n' c' _).mono ?_; rintro e w3 ⟨rfl, hb3⟩; have z3 := hb3.size; have zx3 := zx2.below hb3; have zy3 := zy2.below hb3; have hR3 := hR2.below hb3 (by omega)) | (go_at_call 171; refine (asAgg (minusZ_any x y _ _ _ zx3 zy3 (by omega) (by omega))).mono ?_; rintro e w4 ⟨b4, A4, n4, c4, rfl, hr, hb4⟩; have z4 := hb4.size; have hR4 := hR3.below hb4 (by omega)) | (go_at_call 232; refine (fitInt_no _ _ _ hr hfit).mono ?_; rintro e w5 ⟨rfl, hb5⟩; have z5 := hb5.size; have hR := hR4.below hb5 (by omega); obtain ⟨a0, A0, n0, c0, k10, k11, k20, k21⟩ := hR.facts))
  have s0 := hR.set0 false (.slice none 0 0)
  have s1 := hR.set1 false (.slice none 0 0)
  have fin := (below_set2 (g := w.heap.size + 1 + 1) (i := 0) (j := 1) ((((Hb0.out.trans ((undrew hb2).mono (by show _ ≤ w1.heap.size; omega))).trans (hb3.mono (by omega))).trans (hb4.mono (by omega))).trans (hb5.mono (by omega))) (by omega) (.bool false) (.slice none 0 0))
  have Fin := Lib.hid fin; clear fin
  go_wp2
  exact bodyPost_ret (v := .tuple #[.agg #[.bool false, .slice none 0 0], .int .i64 5]) (by simp [results, Tryz.results213, go_sem, s0, s1]) rfl ⟨rfl, Fin.out⟩

end Go.Proofs.YtijhbmdbnnmogaaGreat
namespace Go.Proofs.YtijhbmdbnnmogaaGreat
open Go.RowKit

set_option maxHeartbeats 800000 in
set_option maxRecDepth 100000 in
theorem combineMul_no (p q : Bool) (A A' : Option Addr) (n c n' c' : Nat) (l l' : List Nat) (w : World) (hx : Wd w (.slice A n c) l) (hy : Wd w (.slice A' n' c') l') (hno : (vld p l && vld q l') = false) :
    Calls Tryz.prog 213 #[.agg #[.bool p, .slice A n c], .agg #[.bool q, .slice A' n' c'], .func (.func 205) #[] #[]] w fun e w' => e = .returned (.tuple #[.agg #[.bool false, .slice none 0 0], .int .i64 2]) ∧ Below w.heap.size w w' := by
  have Hx := Lib.hid hx; clear hx
  have Hy := Lib.hid hy; clear hy
  have Hno := Lib.hid hno; clear hno
  go_enter Tryz.func213, Tryz.ntmps213
  go_wp2_with fail
  have hb4 := below4 w (Obj.cells #[.bool p, .slice A n c] 56) (Obj.cells #[.bool q, .slice A' n' c'] 56) (Obj.cells #[.bool false, .slice none 0 0] 56) (Obj.cells #[.bool p, .slice A n c, .bool q, .slice A' n' c'] 56)
  have hR3 := (RB.a3 w false none 0 0 56 (Obj.cells #[.bool p, .slice A n c] 56) (Obj.cells #[.bool q, .slice A' n' c'] 56)).alloc (Obj.cells #[.bool p, .slice A n c, .bool q, .slice A' n' c'] 56)
  refine (allValid_two p q A A' n c n' c' l l' w _ _ (by have := heap_alloc_new (((w.alloc (Obj.cells #[.bool p, .slice A n c] 56)).alloc (Obj.cells #[.bool q, .slice A' n' c'] 56)).alloc (Obj.cells #[.bool false, .slice none 0 0] 56)) (Obj.cells #[.bool p, .slice A n c, .bool q, .slice A' n' c'] 56); simpa using this) (Hx.out.below hb4) (Hy.out.below hb4)).mono ?_
  rintro e w1 ⟨rfl, hb1⟩
  rw [Hno.out]
  have hR := hR3.below hb1 (by simp <;> omega)
  obtain ⟨a0, A0, n0, c0, k10, k11, k20, k21⟩ := hR.facts
  have s0 := hR.set0 false (.slice none 0 0)
  have s1 := hR.set1 false (.slice none 0 0)
  have fin := below_set2 (g := w.heap.size + 1 + 1) (i := 0) (j := 1) (hb4.trans (hb1.mono (by simp <;> omega))) (by omega) (.bool false) (.slice none 0 0)
  have Fin := Lib.hid fin; clear fin hb1 hb4 hR hR3
  go_wp2
  exact bodyPost_ret (v := .tuple #[.agg #[.bool false, .slice none 0 0], .int .i64 2]) (by simp [results, Tryz.results213, go_sem, s0, s1]) rfl ⟨rfl, Fin.out⟩
set_option maxHeartbeats 800000 in
set_option maxRecDepth 100000 in
theorem combineMul_yes (x y : Int) (p q : Bool) (A A' : Option Addr) (n c n' c' : Nat) (l l' : List Nat) (w : World) (hx : Wd w (.slice A n c) l) (hy : Wd w (.slice A' n' c') l') (hp : vld p l = true) (hq : vld q l' = true)
    (ex : x = numOf p l) (ey : y = numOf q l') (hfit : (dig (x * y).natAbs).length ≤ 256) :
    Calls Tryz.prog 213 #[.agg #[.bool p, .slice A n c], .agg #[.bool q, .slice A' n' c'], .func (.func 205) #[] #[]] w fun e w' => ∃ b A n c, e = .returned (.tuple #[.agg #[.bool b, .slice A n c], .int .i64 0]) ∧ ZV w' (.agg #[.bool b, .slice A n c]) (x * y) ∧ Below w.heap.size w w' := by
  have zx := vld_zv hx hp
  have zy := vld_zv hy hq
  have lx : (dig x.natAbs).length ≤ 256 := by rw [ex, vld_dig hx.ok hp]; exact vld_len hp
  have ly : (dig y.natAbs).length ≤ 256 := by rw [ey, vld_dig hy.ok hq]; exact vld_len hq
  rw [← ex] at zx
  rw [← ey] at zy
  have hyes : (vld p l && vld q l') = true := by rw [hp, hq]; rfl
  have Hx := Lib.hid hx; clear hx
  have Hy := Lib.hid hy; clear hy
  have Zx := Lib.hid zx; clear zx
  have Zy := Lib.hid zy; clear zy
  have Hyes := Lib.hid hyes; clear hyes hp hq ex ey
  go_enter Tryz.func213, Tryz.ntmps213
  go_wp2_with fail
  have hb4 := below4 w (Obj.cells #[.bool p, .slice A n c] 56) (Obj.cells #[.bool q, .slice A' n' c'] 56) (Obj.cells #[.bool false, .slice none 0 0] 56) (Obj.cells #[.bool p, .slice A n c, .bool q, .slice A' n' c'] 56)
  have hR3 := (RB.a3 w false none 0 0 56 (Obj.cells #[.bool p, .slice A n c] 56) (Obj.cells #[.bool q, .slice A' n' c'] 56)).alloc (Obj.cells #[.bool p, .slice A n c, .bool q, .slice A' n' c'] 56)
  have o10 : ((((w.alloc (Obj.cells #[.bool p, .slice A n c] 56)).alloc (Obj.cells #[.bool q, .slice A' n' c'] 56)).alloc (Obj.cells #[.bool false, .slice none 0 0] 56)).alloc (Obj.cells #[.bool p, .slice A n c, .bool q, .slice A' n' c'] 56)).cell? ⟨w.heap.size, 0, none⟩ = some (.bool p) := by
    rw [World.cell?_alloc_past _ _ _ (by simp <;> omega)]; exact old1 0
  have o11 : ((((w.alloc (Obj.cells #[.bool p, .slice A n c] 56)).alloc (Obj.cells #[.bool q, .slice A' n' c'] 56)).alloc (Obj.cells #[.bool false, .slice none 0 0] 56)).alloc (Obj.cells #[.bool p, .slice A n c, .bool q, .slice A' n' c'] 56)).cell? ⟨w.heap.size, 1, none⟩ = some (.slice A n c) := by
    rw [World.cell?_alloc_past _ _ _ (by simp <;> omega)]; exact old1 1
  have o20 : ((((w.alloc (Obj.cells #[.bool p, .slice A n c] 56)).alloc (Obj.cells #[.bool q, .slice A' n' c'] 56)).alloc (Obj.cells #[.bool false, .slice none 0 0] 56)).alloc (Obj.cells #[.bool p, .slice A n c, .bool q, .slice A' n' c'] 56)).cell? ⟨w.heap.size + 1, 0, none⟩ = some (.bool q) := by
    rw [World.cell?_alloc_past _ _ _ (by simp <;> omega)]; exact old2 0
  have o21 : ((((w.alloc (Obj.cells #[.bool p, .slice A n c] 56)).alloc (Obj.cells #[.bool q, .slice A' n' c'] 56)).alloc (Obj.cells #[.bool false, .slice none 0 0] 56)).alloc (Obj.cells #[.bool p, .slice A n c, .bool q, .slice A' n' c'] 56)).cell? ⟨w.heap.size + 1, 1, none⟩ = some (.slice A' n' c') := by
    rw [World.cell?_alloc_past _ _ _ (by simp <;> omega)]; exact old2 1
  refine (allValid_two p q A A' n c n' c' l l' w _ _ (by have := heap_alloc_new (((w.alloc (Obj.cells #[.bool p, .slice A n c] 56)).alloc (Obj.cells #[.bool q, .slice A' n' c'] 56)).alloc (Obj.cells #[.bool false, .slice none 0 0] 56)) (Obj.cells #[.bool p, .slice A n c, .bool q, .slice A' n' c'] 56); simpa using this) (Hx.out.below hb4) (Hy.out.below hb4)).mono ?_
  rintro e w1 ⟨rfl, hb1⟩
  rw [Hyes.out]
  have z1 : w.heap.size + 1 + 1 + 1 + 1 ≤ w1.heap.size := by have := hb1.size; simpa using this
  have m10 := keepAt hb1 (by simp <;> omega) o10
  have m11 := keepAt hb1 (by simp <;> omega) o11
  have m20 := keepAt hb1 (by simp <;> omega) o20
  have m21 := keepAt hb1 (by simp <;> omega) o21
  have hR1 := hR3.below hb1 (by simp <;> omega)
  have hb0 : Below w.heap.size w w1 := hb4.trans (hb1.mono (by simp <;> omega))
  clear o10 o11 o20 o21 hb4 hb1 hR3
  have Zx1 := Lib.hid (Zx.out.below hb0)
  have Zy1 := Lib.hid (Zy.out.below hb0)
  have Hb0 := Lib.hid hb0; clear hb0
  have HR1 := Lib.hid hR1; clear hR1
  have tk0 : True := trivial
  go_wp2_with fail
  go_region_held3 (fun w' => w'.cell? ⟨w.heap.size, 0, none⟩ = some (.bool p) ∧ w'.cell? ⟨w.heap.size, 1, none⟩ = some (.slice A n c) ∧ w'.cell? ⟨w.heap.size + 1, 0, none⟩ = some (.bool q) ∧ w'.cell? ⟨w.heap.size + 1, 1, none⟩ = some (.slice A' n' c'))
    (first | exact ⟨m10, m11, m20, m21⟩ | (go_split_ands; exact ⟨(far2 (by omega)).trans (by assumption), (far2 (by omega)).trans (by assumption), (far2 (by omega)).trans (by assumption), (far2 (by omega)).trans (by assumption)⟩) | (go_split_ands; exact ⟨keepAt hb2 (by show _ < w1.heap.size; omega) (by assumption), keepAt hb2 (by show _ < w1.heap.size; omega) (by assumption), keepAt hb2 (by show _ < w1.heap.size; omega) (by assumption), keepAt hb2 (by show _ < w1.heap.size; omega) (by assumption)⟩) | (go_split_ands; exact ⟨keepAt hb3 (by omega) (by assumption), keepAt hb3 (by omega) (by assumption), keepAt hb3 (by omega) (by assumption), keepAt hb3 (by omega) (by assumption)⟩) | (go_split_ands; exact ⟨keepAt hb4 (by omega) (by assumption), keepAt hb4 (by omega) (by assumption), keepAt hb4 (by omega) (by assumption), keepAt hb4 (by omega) (by assumption)⟩) | (go_split_ands; exact ⟨keepAt hb5 (by omega) (by assumption), keepAt hb5 (by omega) (by assumption), keepAt hb5 (by omega) (by assumption), keepAt hb5 (by omega) (by assumption)⟩))
    (first | (go_at_call 121; have _t := tk0; refine (wholeOf_any p A n c _).mono ?_; rintro e w2 ⟨rfl, hb2⟩; clear tk0; have tk1 : True := trivial; have z2 : w1.heap.size ≤ w2.heap.size := (undrew hb2).size; have zx2 := Zx1.out.below (undrew hb2); have zy2 := Zy1.out.below (undrew hb2); have hR2 := HR1.out.below (undrew hb2) (by show _ < w1.heap.size; omega)) | (go_at_call 121; have _t := tk1; refine (wholeOf_any q A' n' c' _).mono ?_; rintro e w3 ⟨rfl, hb3⟩; have z3 := hb3.size; have zx3 := zx2.below hb3; have zy3 := zy2.below hb3; have hR3 := hR2.below hb3 (by omega)) | (go_at_call 205; refine (asAgg (timesZ_any x y _ _ _ zx3 zy3 (by omega) (by omega))).mono ?_; rintro e w4 ⟨b4, A4, n4, c4, rfl, hr, hb4⟩; have z4 := hb4.size; have hR4 := hR3.below hb4 (by omega)) | (go_at_call 232; refine (fitInt_yes _ _ _ hr hfit).mono ?_; rintro e w5 ⟨b6, A6, n6, c6, rfl, hr6, hb5⟩; have z5 := hb5.size; have hR := hR4.below hb5 (by omega); obtain ⟨a0, A0, n0, c0, k10, k11, k20, k21⟩ := hR.facts))
  have s0 := hR.set0 b6 (.slice A6 n6 c6)
  have s1 := hR.set1 b6 (.slice A6 n6 c6)
  have fin := And.intro (hr6.rb hR (.bool b6) (.slice A6 n6 c6)) (below_set2 (g := w.heap.size + 1 + 1) (i := 0) (j := 1) ((((Hb0.out.trans ((undrew hb2).mono (by show _ ≤ w1.heap.size; omega))).trans (hb3.mono (by omega))).trans (hb4.mono (by omega))).trans (hb5.mono (by omega))) (by omega) (.bool b6) (.slice A6 n6 c6))
  have Fin := Lib.hid fin; clear fin
  go_wp2
  exact bodyPost_ret (v := .tuple #[.agg #[.bool b6, .slice A6 n6 c6], .int .i64 0]) (by simp [results, Tryz.results213, go_sem, s0, s1]) rfl ⟨b6, A6, n6, c6, rfl, Fin.out.1, Fin.out.2⟩
set_option maxHeartbeats 800000 in
set_option maxRecDepth 100000 in
theorem combineMul_big (x y : Int) (p q : Bool) (A A' : Option Addr) (n c n' c' : Nat) (l l' : List Nat) (w : World) (hx : Wd w (.slice A n c) l) (hy : Wd w (.slice A' n' c') l') (hp : vld p l = true) (hq : vld q l' = true)
    (ex : x = numOf p l) (ey : y = numOf q l') (hfit : 256 < (dig (x * y).natAbs).length) :
    Calls Tryz.prog 213 #[.agg #[.bool p, .slice A n c], .agg #[.bool q, .slice A' n' c'], .func (.func 205) #[] #[]] w fun e w' => e = .returned (.tuple #[.agg #[.bool false, .slice none 0 0], .int .i64 5]) ∧ Below w.heap.size w w' := by
  have zx := vld_zv hx hp
  have zy := vld_zv hy hq
  have lx : (dig x.natAbs).length ≤ 256 := by rw [ex, vld_dig hx.ok hp]; exact vld_len hp
  have ly : (dig y.natAbs).length ≤ 256 := by rw [ey, vld_dig hy.ok hq]; exact vld_len hq
  rw [← ex] at zx
  rw [← ey] at zy
  have hyes : (vld p l && vld q l') = true := by rw [hp, hq]; rfl
  have Hx := Lib.hid hx; clear hx
  have Hy := Lib.hid hy; clear hy
  have Zx := Lib.hid zx; clear zx
  have Zy := Lib.hid zy; clear zy
  have Hyes := Lib.hid hyes; clear hyes hp hq ex ey
  go_enter Tryz.func213, Tryz.ntmps213
  go_wp2_with fail
  have hb4 := below4 w (Obj.cells #[.bool p, .slice A n c] 56) (Obj.cells #[.bool q, .slice A' n' c'] 56) (Obj.cells #[.bool false, .slice none 0 0] 56) (Obj.cells #[.bool p, .slice A n c, .bool q, .slice A' n' c'] 56)
  have hR3 := (RB.a3 w false none 0 0 56 (Obj.cells #[.bool p, .slice A n c] 56) (Obj.cells #[.bool q, .slice A' n' c'] 56)).alloc (Obj.cells #[.bool p, .slice A n c, .bool q, .slice A' n' c'] 56)
  have o10 : ((((w.alloc (Obj.cells #[.bool p, .slice A n c] 56)).alloc (Obj.cells #[.bool q, .slice A' n' c'] 56)).alloc (Obj.cells #[.bool false, .slice none 0 0] 56)).alloc (Obj.cells #[.bool p, .slice A n c, .bool q, .slice A' n' c'] 56)).cell? ⟨w.heap.size, 0, none⟩ = some (.bool p) := by
    rw [World.cell?_alloc_past _ _ _ (by simp <;> omega)]; exact old1 0
  have o11 : ((((w.alloc (Obj.cells #[.bool p, .slice A n c] 56)).alloc (Obj.cells #[.bool q, .slice A' n' c'] 56)).alloc (Obj.cells #[.bool false, .slice none 0 0] 56)).alloc (Obj.cells #[.bool p, .slice A n c, .bool q, .slice A' n' c'] 56)).cell? ⟨w.heap.size, 1, none⟩ = some (.slice A n c) := by
    rw [World.cell?_alloc_past _ _ _ (by simp <;> omega)]; exact old1 1
  have o20 : ((((w.alloc (Obj.cells #[.bool p, .slice A n c] 56)).alloc (Obj.cells #[.bool q, .slice A' n' c'] 56)).alloc (Obj.cells #[.bool false, .slice none 0 0] 56)).alloc (Obj.cells #[.bool p, .slice A n c, .bool q, .slice A' n' c'] 56)).cell? ⟨w.heap.size + 1, 0, none⟩ = some (.bool q) := by
    rw [World.cell?_alloc_past _ _ _ (by simp <;> omega)]; exact old2 0
  have o21 : ((((w.alloc (Obj.cells #[.bool p, .slice A n c] 56)).alloc (Obj.cells #[.bool q, .slice A' n' c'] 56)).alloc (Obj.cells #[.bool false, .slice none 0 0] 56)).alloc (Obj.cells #[.bool p, .slice A n c, .bool q, .slice A' n' c'] 56)).cell? ⟨w.heap.size + 1, 1, none⟩ = some (.slice A' n' c') := by
    rw [World.cell?_alloc_past _ _ _ (by simp <;> omega)]; exact old2 1
  refine (allValid_two p q A A' n c n' c' l l' w _ _ (by have := heap_alloc_new (((w.alloc (Obj.cells #[.bool p, .slice A n c] 56)).alloc (Obj.cells #[.bool q, .slice A' n' c'] 56)).alloc (Obj.cells #[.bool false, .slice none 0 0] 56)) (Obj.cells #[.bool p, .slice A n c, .bool q, .slice A' n' c'] 56); simpa using this) (Hx.out.below hb4) (Hy.out.below hb4)).mono ?_
  rintro e w1 ⟨rfl, hb1⟩
  rw [Hyes.out]
  have z1 : w.heap.size + 1 + 1 + 1 + 1 ≤ w1.heap.size := by have := hb1.size; simpa using this
  have m10 := keepAt hb1 (by simp <;> omega) o10
  have m11 := keepAt hb1 (by simp <;> omega) o11
  have m20 := keepAt hb1 (by simp <;> omega) o20
  have m21 := keepAt hb1 (by simp <;> omega) o21
  have hR1 := hR3.below hb1 (by simp <;> omega)
  have hb0 : Below w.heap.size w w1 := hb4.trans (hb1.mono (by simp <;> omega))
  clear o10 o11 o20 o21 hb4 hb1 hR3
  have Zx1 := Lib.hid (Zx.out.below hb0)
  have Zy1 := Lib.hid (Zy.out.below hb0)
  have Hb0 := Lib.hid hb0; clear hb0
  have HR1 := Lib.hid hR1; clear hR1
  have tk0 : True := trivial
  go_wp2_with fail
  go_region_held3 (fun w' => w'.cell? ⟨w.heap.size, 0, none⟩ = some (.bool p) ∧ w'.cell? ⟨w.heap.size, 1, none⟩ = some (.slice A n c) ∧ w'.cell? ⟨w.heap.size + 1, 0, none⟩ = some (.bool q) ∧ w'.cell? ⟨w.heap.size + 1, 1, none⟩ = some (.slice A' n' c'))
    (first | exact ⟨m10, m11, m20, m21⟩ | (go_split_ands; exact ⟨(far2 (by omega)).trans (by assumption), (far2 (by omega)).trans (by assumption), (far2 (by omega)).trans (by assumption), (far2 (by omega)).trans (by assumption)⟩) | (go_split_ands; exact ⟨keepAt hb2 (by show _ < w1.heap.size; omega) (by assumption), keepAt hb2 (by show _ < w1.heap.size; omega) (by assumption), keepAt hb2 (by show _ < w1.heap.size; omega) (by assumption), keepAt hb2 (by show _ < w1.heap.size; omega) (by assumption)⟩) | (go_split_ands; exact ⟨keepAt hb3 (by omega) (by assumption), keepAt hb3 (by omega) (by assumption), keepAt hb3 (by omega) (by assumption), keepAt hb3 (by omega) (by assumption)⟩) | (go_split_ands; exact ⟨keepAt hb4 (by omega) (by assumption), keepAt hb4 (by omega) (by assumption), keepAt hb4 (by omega) (by assumption), keepAt hb4 (by omega) (by assumption)⟩) | (go_split_ands; exact ⟨keepAt hb5 (by omega) (by assumption), keepAt hb5 (by omega) (by assumption), keepAt hb5 (by omega) (by assumption), keepAt hb5 (by omega) (by assumption)⟩))
    (first | (go_at_call 121; have _t := tk0; refine (wholeOf_any p A n c _).mono ?_; rintro e w2 ⟨rfl, hb2⟩; clear tk0; have tk1 : True := trivial; have z2 : w1.heap.size ≤ w2.heap.size := (undrew hb2).size; have zx2 := Zx1.out.below (undrew hb2); have zy2 := Zy1.out.below (undrew hb2); have hR2 := HR1.out.below (undrew hb2) (by show _ < w1.heap.size; omega)) | (go_at_call 121; have _t := tk1; refine (wholeOf_any q A' n' c' _).mono ?_; rintro e w3 ⟨rfl, hb3⟩; have z3 := hb3.size; have zx3 := zx2.below hb3; have zy3 := zy2.below hb3; have hR3 := hR2.below hb3 (by omega)) | (go_at_call 205; refine (asAgg (timesZ_any x y _ _ _ zx3 zy3 (by omega) (by omega))).mono ?_; rintro e w4 ⟨b4, A4, n4, c4, rfl, hr, hb4⟩; have z4 := hb4.size; have hR4 := hR3.below hb4 (by omega)) | (go_at_call 232; refine (fitInt_no _ _ _ hr hfit).mono ?_; rintro e w5 ⟨rfl, hb5⟩; have z5 := hb5.size; have hR := hR4.below hb5 (by omega); obtain ⟨a0, A0, n0, c0, k10, k11, k20, k21⟩ := hR.facts))
  have s0 := hR.set0 false (.slice none 0 0)
  have s1 := hR.set1 false (.slice none 0 0)
  have fin := (below_set2 (g := w.heap.size + 1 + 1) (i := 0) (j := 1) ((((Hb0.out.trans ((undrew hb2).mono (by show _ ≤ w1.heap.size; omega))).trans (hb3.mono (by omega))).trans (hb4.mono (by omega))).trans (hb5.mono (by omega))) (by omega) (.bool false) (.slice none 0 0))
  have Fin := Lib.hid fin; clear fin
  go_wp2
  exact bodyPost_ret (v := .tuple #[.agg #[.bool false, .slice none 0 0], .int .i64 5]) (by simp [results, Tryz.results213, go_sem, s0, s1]) rfl ⟨rfl, Fin.out⟩

end Go.Proofs.YtijhbmdbnnmogaaGreat
