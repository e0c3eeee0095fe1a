/- Walks: ref Add. -/
import Derived.Test.YtmlopkkbgpfdnaaR7
import Derived.Test.YtmlopkkbgpfdnaaR10
namespace Go.Proofs.Ytmlopkkbgpfdnaa
open Go.RowKit

set_option maxHeartbeats 400000 in
set_option maxRecDepth 100000 in
theorem refAdd_noa (p q : Bool) (A A' : Option Addr) (n c n' c' : Nat) (l l' : List Nat) (w : World) (hx : Wd w (.slice A n c) l) (hy : Wd w (.slice A' n' c') l') (hno : vld p l = false) :
    Calls Try.prog 23 #[.agg #[.bool p, .slice A n c], .agg #[.bool q, .slice A' n' c']] w fun e w' => e = .returned (.tuple #[.agg #[.bool false, .slice none 0 0], .int .i64 2]) ∧ Below w.heap.size w w' := by
  have Hx := Lib.hid hx; clear hx
  have Hy := Lib.hid hy; clear hy
  have Hno := Lib.hid hno; clear hno
  go_enter Try.func23, Try.ntmps23
  go_wp2_with fail
  have hb3 := below3 w (Obj.cells #[.bool p, .slice A n c] 24) (Obj.cells #[.bool q, .slice A' n' c'] 24) (Obj.cells #[.bool false, .slice none 0 0] 24)
  have hR3 := RB.a3 w false none 0 0 24 (Obj.cells #[.bool p, .slice A n c] 24) (Obj.cells #[.bool q, .slice A' n' c'] 24)
  refine (validR_any p A n c l _ (Hx.out.below hb3)).mono ?_
  rintro e w1 ⟨rfl, hb1⟩
  rw [Hno.out]
  have hR := hR3.below hb1 (by simp <;> omega)
  have hbf := hb3.trans (hb1.mono (by simp <;> omega))
  obtain ⟨a0, A0, n0, c0, k10, k11, k20, k21⟩ := hR.facts
  have s0 := hR.set0 false (.slice none 0 0)
  have s1 := hR.set1 false (.slice none 0 0)
  have fin := below_set2 (g := w.heap.size + 1 + 1) (i := 0) (j := 1) hbf (by omega) (.bool false) (.slice none 0 0)
  have Fin := Lib.hid fin; clear fin hR hbf
  go_wp2
  exact bodyPost_ret (v := .tuple #[.agg #[.bool false, .slice none 0 0], .int .i64 2]) (by simp [results, Try.results23, go_sem, s0, s1]) rfl ⟨rfl, Fin.out⟩

set_option maxHeartbeats 400000 in
set_option maxRecDepth 100000 in
theorem refAdd_nob (p q : Bool) (A A' : Option Addr) (n c n' c' : Nat) (l l' : List Nat) (w : World) (hx : Wd w (.slice A n c) l) (hy : Wd w (.slice A' n' c') l') (hyes : vld p l = true) (hno : vld q l' = false) :
    Calls Try.prog 23 #[.agg #[.bool p, .slice A n c], .agg #[.bool q, .slice A' n' c']] w fun e w' => e = .returned (.tuple #[.agg #[.bool false, .slice none 0 0], .int .i64 2]) ∧ Below w.heap.size w w' := by
  have Hx := Lib.hid hx; clear hx
  have Hy := Lib.hid hy; clear hy
  have Hno := Lib.hid hno; clear hno
  have Hyes := Lib.hid hyes; clear hyes
  go_enter Try.func23, Try.ntmps23
  go_wp2_with fail
  have hb3 := below3 w (Obj.cells #[.bool p, .slice A n c] 24) (Obj.cells #[.bool q, .slice A' n' c'] 24) (Obj.cells #[.bool false, .slice none 0 0] 24)
  have hR3 := RB.a3 w false none 0 0 24 (Obj.cells #[.bool p, .slice A n c] 24) (Obj.cells #[.bool q, .slice A' n' c'] 24)
  refine (validR_any p A n c l _ (Hx.out.below hb3)).mono ?_
  rintro e w1 ⟨rfl, hb1⟩
  rw [Hyes.out]
  have q0 : w1.cell? ⟨w.heap.size + 1, 0, none⟩ = some (.bool q) := keepAt hb1 (by simp <;> omega) (old2 0)
  have q1 : w1.cell? ⟨w.heap.size + 1, 1, none⟩ = some (.slice A' n' c') := keepAt hb1 (by simp <;> omega) (old2 1)
  have z1 : w.heap.size + 1 + 1 + 1 ≤ w1.heap.size := by have := hb1.size; simpa using this
  have hR1 := Lib.hid (hR3.below hb1 (by simp <;> omega))
  have hb01 := hb3.trans (hb1.mono (by simp <;> omega))
  have Hy1 := Lib.hid (Hy.out.below hb01)
  have Hb01 := Lib.hid hb01
  clear hb1 hb3 hR3 hb01
  go_wp2_with fail
  refine (validR_any q A' n' c' l' _ Hy1.out).mono ?_
  rintro e w2 ⟨rfl, hb2⟩
  rw [Hno.out]
  have hR := hR1.out.below hb2 (by omega)
  have hbf := Hb01.out.trans (hb2.mono Hb01.out.size)
  obtain ⟨a0, A0, n0, c0, k10, k11, k20, k21⟩ := hR.facts
  have s0 := hR.set0 false (.slice none 0 0)
  have s1 := hR.set1 false (.slice none 0 0)
  have fin := below_set2 (g := w.heap.size + 1 + 1) (i := 0) (j := 1) hbf (by omega) (.bool false) (.slice none 0 0)
  have Fin := Lib.hid fin; clear fin hR hbf
  go_wp2
  exact bodyPost_ret (v := .tuple #[.agg #[.bool false, .slice none 0 0], .int .i64 2]) (by simp [results, Try.results23, go_sem, s0, s1]) rfl ⟨rfl, Fin.out⟩

set_option maxHeartbeats 800000 in
set_option maxRecDepth 100000 in
theorem refAdd_yes (x y : Int) (p q : Bool) (A A' : Option Addr) (n c n' c' : Nat) (l l' : List Nat) (w : World) (hx : Wd w (.slice A n c) l) (hy : Wd w (.slice A' n' c') l') (hp : vld p l = true) (hq : vld q l' = true)
    (ex : x = numOf p l) (ey : y = numOf q l') (hfit : (dig (x + y).natAbs).length ≤ 256) :
    Calls Try.prog 23 #[.agg #[.bool p, .slice A n c], .agg #[.bool q, .slice A' n' c']] w fun e w' => ∃ b A n c, e = .returned (.tuple #[.agg #[.bool b, .slice A n c], .int .i64 0]) ∧ ZV w' (.agg #[.bool b, .slice A n c]) (x + y) ∧ Below w.heap.size w w' := by
  have zx := vld_zv hx hp
  have zy := vld_zv hy hq
  have lx : (dig x.natAbs).length ≤ 256 := by rw [ex, vld_dig hx.ok hp]; exact vld_len hp
  have ly : (dig y.natAbs).length ≤ 256 := by rw [ey, vld_dig hy.ok hq]; exact vld_len hq
  rw [← ex] at zx
  rw [← ey] at zy
  have Hx := Lib.hid hx; clear hx
  have Hy := Lib.hid hy; clear hy
  have Zx := Lib.hid zx; clear zx
  have Zy := Lib.hid zy; clear zy
  have Hp := Lib.hid hp; clear hp
  have Hq := Lib.hid hq; clear hq ex ey
  go_enter Try.func23, Try.ntmps23
  go_wp2_with fail
  have hb3 := below3 w (Obj.cells #[.bool p, .slice A n c] 24) (Obj.cells #[.bool q, .slice A' n' c'] 24) (Obj.cells #[.bool false, .slice none 0 0] 24)
  have hR3 := RB.a3 w false none 0 0 24 (Obj.cells #[.bool p, .slice A n c] 24) (Obj.cells #[.bool q, .slice A' n' c'] 24)
  refine (validR_any p A n c l _ (Hx.out.below hb3)).mono ?_
  rintro e w1 ⟨rfl, hb1⟩
  rw [Hp.out]
  have q00 : w1.cell? ⟨w.heap.size, 0, none⟩ = some (.bool p) := keepAt hb1 (by simp <;> omega) (old1 0)
  have q01 : w1.cell? ⟨w.heap.size, 1, none⟩ = some (.slice A n c) := keepAt hb1 (by simp <;> omega) (old1 1)
  have q0 : w1.cell? ⟨w.heap.size + 1, 0, none⟩ = some (.bool q) := keepAt hb1 (by simp <;> omega) (old2 0)
  have q1 : w1.cell? ⟨w.heap.size + 1, 1, none⟩ = some (.slice A' n' c') := keepAt hb1 (by simp <;> omega) (old2 1)
  have z1 : w.heap.size + 1 + 1 + 1 ≤ w1.heap.size := by have := hb1.size; simpa using this
  have hR1 := Lib.hid (hR3.below hb1 (by simp <;> omega))
  have hb01 := hb3.trans (hb1.mono (by simp <;> omega))
  have Hy1 := Lib.hid (Hy.out.below hb01)
  have Hb01 := Lib.hid hb01
  clear hb1 hb3 hR3 hb01
  go_wp2_with fail
  refine (validR_any q A' n' c' l' _ Hy1.out).mono ?_
  rintro e w2 ⟨rfl, hb2⟩
  rw [Hq.out]
  have m10 := keepAt hb2 (by omega) q00
  have m11 := keepAt hb2 (by omega) q01
  have m20 := keepAt hb2 (by omega) q0
  have m21 := keepAt hb2 (by omega) q1
  have z2 : w.heap.size + 1 + 1 + 1 ≤ w2.heap.size := Nat.le_trans z1 hb2.size
  have HR2 := Lib.hid (hR1.out.below hb2 (by omega))
  have Hb0 := Lib.hid (Hb01.out.trans (hb2.mono Hb01.out.size))
  have Zx1 := Lib.hid (Zx.out.below Hb0.out)
  have Zy1 := Lib.hid (Zy.out.below Hb0.out)
  clear hb2 q00 q01 q0 q1 hR1 Hb01 z1
  have tk0 : True := trivial
  go_wp2_with fail
  go_region_held3 (fun w' => w'.cell? ⟨w.heap.size, 0, none⟩ = some (.bool p) ∧ w'.cell? ⟨w.heap.size, 1, none⟩ = some (.slice A n c) ∧ w'.cell? ⟨w.heap.size + 1, 0, none⟩ = some (.bool q) ∧ w'.cell? ⟨w.heap.size + 1, 1, none⟩ = some (.slice A' n' c'))
    (first | exact ⟨m10, m11, m20, m21⟩ | (go_split_ands; exact ⟨(far2 (by omega)).trans (by assumption), (far2 (by omega)).trans (by assumption), (far2 (by omega)).trans (by assumption), (far2 (by omega)).trans (by assumption)⟩) | (go_split_ands; exact ⟨keepAt hb3 (by show _ < w2.heap.size; omega) (by assumption), keepAt hb3 (by show _ < w2.heap.size; omega) (by assumption), keepAt hb3 (by show _ < w2.heap.size; omega) (by assumption), keepAt hb3 (by show _ < w2.heap.size; omega) (by assumption)⟩) | (go_split_ands; exact ⟨keepAt hb4 (by omega) (by assumption), keepAt hb4 (by omega) (by assumption), keepAt hb4 (by omega) (by assumption), keepAt hb4 (by omega) (by assumption)⟩) | (go_split_ands; exact ⟨keepAt hb6 (by omega) (by assumption), keepAt hb6 (by omega) (by assumption), keepAt hb6 (by omega) (by assumption), keepAt hb6 (by omega) (by assumption)⟩) | (go_split_ands; exact ⟨keepAt hb7 (by omega) (by assumption), keepAt hb7 (by omega) (by assumption), keepAt hb7 (by omega) (by assumption), keepAt hb7 (by omega) (by assumption)⟩))
    (first | (go_at_call 36; have _t := tk0; refine (of_any p A n c _).mono ?_; rintro e w3 ⟨rfl, hb3⟩; clear tk0; have tk1 : True := trivial; have z3 : w2.heap.size ≤ w3.heap.size := (undrew hb3).size; have zx3 := Zx1.out.below (undrew hb3); have zy3 := Zy1.out.below (undrew hb3); have hR3 := HR2.out.below (undrew hb3) (by show _ < w2.heap.size; omega)) | (go_at_call 36; have _t := tk1; refine (of_any q A' n' c' _).mono ?_; rintro e w4 ⟨rfl, hb4⟩; have z4 := hb4.size; have zx4 := zx3.below hb4; have zy4 := zy3.below hb4; have hR4 := hR3.below hb4 (by omega)) | (go_at_call 34; refine (asAgg (plusRZ_any x y _ _ _ zx4 zy4 (by omega) (by omega))).mono ?_; rintro e w6 ⟨b4, A4, n4, c4, rfl, hr, hb6⟩; have z6 := hb6.size; have hR6 := hR4.below hb6 (by omega)) | (go_at_call 58; refine (answer_yes _ _ _ hr hfit).mono ?_; rintro e w7 ⟨b6, A6, n6, c6, rfl, hr6, hb7⟩; have z7 := hb7.size; have hR := hR6.below hb7 (by omega); obtain ⟨a0, A0, n0, c0, k10, k11, k20, k21⟩ := hR.facts))
  have s0 := hR.set0 b6 (.slice A6 n6 c6)
  have s1 := hR.set1 b6 (.slice A6 n6 c6)
  have fin := And.intro (hr6.rb hR (.bool b6) (.slice A6 n6 c6)) (below_set2 (g := w.heap.size + 1 + 1) (i := 0) (j := 1) ((((Hb0.out.trans ((undrew hb3).mono (by show _ ≤ w2.heap.size; omega))).trans (hb4.mono (by omega))).trans (hb6.mono (by omega))).trans (hb7.mono (by omega))) (by omega) (.bool b6) (.slice A6 n6 c6))
  have Fin := Lib.hid fin; clear fin
  go_wp2
  exact bodyPost_ret (v := .tuple #[.agg #[.bool b6, .slice A6 n6 c6], .int .i64 0]) (by simp [results, Try.results23, go_sem, s0, s1]) rfl ⟨b6, A6, n6, c6, rfl, Fin.out.1, Fin.out.2⟩

set_option maxHeartbeats 800000 in
set_option maxRecDepth 100000 in
theorem refAdd_big (x y : Int) (p q : Bool) (A A' : Option Addr) (n c n' c' : Nat) (l l' : List Nat) (w : World) (hx : Wd w (.slice A n c) l) (hy : Wd w (.slice A' n' c') l') (hp : vld p l = true) (hq : vld q l' = true)
    (ex : x = numOf p l) (ey : y = numOf q l') (hfit : 256 < (dig (x + y).natAbs).length) :
    Calls Try.prog 23 #[.agg #[.bool p, .slice A n c], .agg #[.bool q, .slice A' n' c']] w fun e w' => e = .returned (.tuple #[.agg #[.bool false, .slice none 0 0], .int .i64 5]) ∧ Below w.heap.size w w' := by
  have zx := vld_zv hx hp
  have zy := vld_zv hy hq
  have lx : (dig x.natAbs).length ≤ 256 := by rw [ex, vld_dig hx.ok hp]; exact vld_len hp
  have ly : (dig y.natAbs).length ≤ 256 := by rw [ey, vld_dig hy.ok hq]; exact vld_len hq
  rw [← ex] at zx
  rw [← ey] at zy
  have Hx := Lib.hid hx; clear hx
  have Hy := Lib.hid hy; clear hy
  have Zx := Lib.hid zx; clear zx
  have Zy := Lib.hid zy; clear zy
  have Hp := Lib.hid hp; clear hp
  have Hq := Lib.hid hq; clear hq ex ey
  go_enter Try.func23, Try.ntmps23
  go_wp2_with fail
  have hb3 := below3 w (Obj.cells #[.bool p, .slice A n c] 24) (Obj.cells #[.bool q, .slice A' n' c'] 24) (Obj.cells #[.bool false, .slice none 0 0] 24)
  have hR3 := RB.a3 w false none 0 0 24 (Obj.cells #[.bool p, .slice A n c] 24) (Obj.cells #[.bool q, .slice A' n' c'] 24)
  refine (validR_any p A n c l _ (Hx.out.below hb3)).mono ?_
  rintro e w1 ⟨rfl, hb1⟩
  rw [Hp.out]
  have q00 : w1.cell? ⟨w.heap.size, 0, none⟩ = some (.bool p) := keepAt hb1 (by simp <;> omega) (old1 0)
  have q01 : w1.cell? ⟨w.heap.size, 1, none⟩ = some (.slice A n c) := keepAt hb1 (by simp <;> omega) (old1 1)
  have q0 : w1.cell? ⟨w.heap.size + 1, 0, none⟩ = some (.bool q) := keepAt hb1 (by simp <;> omega) (old2 0)
  have q1 : w1.cell? ⟨w.heap.size + 1, 1, none⟩ = some (.slice A' n' c') := keepAt hb1 (by simp <;> omega) (old2 1)
  have z1 : w.heap.size + 1 + 1 + 1 ≤ w1.heap.size := by have := hb1.size; simpa using this
  have hR1 := Lib.hid (hR3.below hb1 (by simp <;> omega))
  have hb01 := hb3.trans (hb1.mono (by simp <;> omega))
  have Hy1 := Lib.hid (Hy.out.below hb01)
  have Hb01 := Lib.hid hb01
  clear hb1 hb3 hR3 hb01
  go_wp2_with fail
  refine (validR_any q A' n' c' l' _ Hy1.out).mono ?_
  rintro e w2 ⟨rfl, hb2⟩
  rw [Hq.out]
  have m10 := keepAt hb2 (by omega) q00
  have m11 := keepAt hb2 (by omega) q01
  have m20 := keepAt hb2 (by omega) q0
  have m21 := keepAt hb2 (by omega) q1
  have z2 : w.heap.size + 1 + 1 + 1 ≤ w2.heap.size := Nat.le_trans z1 hb2.size
  have HR2 := Lib.hid (hR1.out.below hb2 (by omega))
  have Hb0 := Lib.hid (Hb01.out.trans (hb2.mono Hb01.out.size))
  have Zx1 := Lib.hid (Zx.out.below Hb0.out)
  have Zy1 := Lib.hid (Zy.out.below Hb0.out)
  clear hb2 q00 q01 q0 q1 hR1 Hb01 z1
  have tk0 : True := trivial
  go_wp2_with fail
  go_region_held3 (fun w' => w'.cell? ⟨w.heap.size, 0, none⟩ = some (.bool p) ∧ w'.cell? ⟨w.heap.size, 1, none⟩ = some (.slice A n c) ∧ w'.cell? ⟨w.heap.size + 1, 0, none⟩ = some (.bool q) ∧ w'.cell? ⟨w.heap.size + 1, 1, none⟩ = some (.slice A' n' c'))
    (first | exact ⟨m10, m11, m20, m21⟩ | (go_split_ands; exact ⟨(far2 (by omega)).trans (by assumption), (far2 (by omega)).trans (by assumption), (far2 (by omega)).trans (by assumption), (far2 (by omega)).trans (by assumption)⟩) | (go_split_ands; exact ⟨keepAt hb3 (by show _ < w2.heap.size; omega) (by assumption), keepAt hb3 (by show _ < w2.heap.size; omega) (by assumption), keepAt hb3 (by show _ < w2.heap.size; omega) (by assumption), keepAt hb3 (by show _ < w2.heap.size; omega) (by assumption)⟩) | (go_split_ands; exact ⟨keepAt hb4 (by omega) (by assumption), keepAt hb4 (by omega) (by assumption), keepAt hb4 (by omega) (by assumption), keepAt hb4 (by omega) (by assumption)⟩) | (go_split_ands; exact ⟨keepAt hb6 (by omega) (by assumption), keepAt hb6 (by omega) (by assumption), keepAt hb6 (by omega) (by assumption), keepAt hb6 (by omega) (by assumption)⟩) | (go_split_ands; exact ⟨keepAt hb7 (by omega) (by assumption), keepAt hb7 (by omega) (by assumption), keepAt hb7 (by omega) (by assumption), keepAt hb7 (by omega) (by assumption)⟩))
    (first | (go_at_call 36; have _t := tk0; refine (of_any p A n c _).mono ?_; rintro e w3 ⟨rfl, hb3⟩; clear tk0; have tk1 : True := trivial; have z3 : w2.heap.size ≤ w3.heap.size := (undrew hb3).size; have zx3 := Zx1.out.below (undrew hb3); have zy3 := Zy1.out.below (undrew hb3); have hR3 := HR2.out.below (undrew hb3) (by show _ < w2.heap.size; omega)) | (go_at_call 36; have _t := tk1; refine (of_any q A' n' c' _).mono ?_; rintro e w4 ⟨rfl, hb4⟩; have z4 := hb4.size; have zx4 := zx3.below hb4; have zy4 := zy3.below hb4; have hR4 := hR3.below hb4 (by omega)) | (go_at_call 34; refine (asAgg (plusRZ_any x y _ _ _ zx4 zy4 (by omega) (by omega))).mono ?_; rintro e w6 ⟨b4, A4, n4, c4, rfl, hr, hb6⟩; have z6 := hb6.size; have hR6 := hR4.below hb6 (by omega)) | (go_at_call 58; refine (answer_no _ _ _ hr hfit).mono ?_; rintro e w7 ⟨rfl, hb7⟩; have z7 := hb7.size; have hR := hR6.below hb7 (by omega); obtain ⟨a0, A0, n0, c0, k10, k11, k20, k21⟩ := hR.facts))
  have s0 := hR.set0 false (.slice none 0 0)
  have s1 := hR.set1 false (.slice none 0 0)
  have fin := (below_set2 (g := w.heap.size + 1 + 1) (i := 0) (j := 1) ((((Hb0.out.trans ((undrew hb3).mono (by show _ ≤ w2.heap.size; omega))).trans (hb4.mono (by omega))).trans (hb6.mono (by omega))).trans (hb7.mono (by omega))) (by omega) (.bool false) (.slice none 0 0))
  have Fin := Lib.hid fin; clear fin
  go_wp2
  exact bodyPost_ret (v := .tuple #[.agg #[.bool false, .slice none 0 0], .int .i64 5]) (by simp [results, Try.results23, go_sem, s0, s1]) rfl ⟨rfl, Fin.out⟩

end Go.Proofs.Ytmlopkkbgpfdnaa
