/- Walks: the reference's whole numbers. · Walks: ref Mul. · Walks: the operations, uniformly. · Walks: combine, Gcd. · The reference's divisor and inverse, as mathematics. -/
import Derived.Test.YtmlopkkbgpfdnaaM12
import Derived.Test.YtmlopkkbgpfdnaaM13
import Derived.Test.YtmlopkkbgpfdnaaM11
import Derived.Test.YtmlopkkbgpfdnaaM10
import Derived.Test.YtmlopkkbgpfdnaaM2
import Derived.Test.YtmlopkkbgpfdnaaM7
namespace Go.Proofs.Ytmlopkkbgpfdnaa
open Go.RowKit

set_option maxHeartbeats 400000 in
set_option maxRecDepth 100000 in
/-- ref Times -/
theorem timesRZ_any (x y : Int) (u v : Value) (w : World) (hx : ZV w u x) (hy : ZV w v y) (lx : (dig x.natAbs).length ≤ 1000000) (ly : (dig y.natAbs).length ≤ 1000000) :
    Calls Try.prog 35 #[u, v] w (RetZ w (x * y)) := by
  obtain ⟨A, n, c, rfl, hx0, -, -⟩ := hx.open_
  obtain ⟨A', n', c', rfl, hy0, -, -⟩ := hy.open_
  obtain ⟨p, hp⟩ : ∃ p, p = decide (x < 0) := ⟨_, rfl⟩
  obtain ⟨q, hq⟩ : ∃ q, q = decide (y < 0) := ⟨_, rfl⟩
  rw [← hp, ← hq]
  obtain ⟨sg, hsg⟩ : ∃ sg, sg = (p == q) := ⟨_, rfl⟩
  have hsg' : (p == q) = sg := hsg.symm
  have Hp := Lib.hid hp; clear hp
  have Hq := Lib.hid hq; clear hq
  have Hsg := Lib.hid hsg; clear hsg hx hy
  have Hx := Lib.hid hx0; clear hx0
  have Hy := Lib.hid hy0; clear hy0
  go_enter Try.func35, Try.ntmps35
  go_wp2_with fail
  have hb3 := below3 w (Obj.cells #[.bool p, .slice A n c] 34) (Obj.cells #[.bool q, .slice A' n' c'] 34) (Obj.cells #[.bool false, .slice none 0 0] 34)
  have Hx3 := Lib.hid (Hx.out.below hb3)
  have Hy3 := Lib.hid (Hy.out.below hb3)
  have Hb3 := Lib.hid hb3; clear hb3
  have HR := Lib.hid (RB.a3 w false none 0 0 34 (Obj.cells #[.bool p, .slice A n c] 34) (Obj.cells #[.bool q, .slice A' n' c'] 34))
  go_region_held3 (fun w' => w'.cell? ⟨w.heap.size, 0, none⟩ = some (.bool p) ∧ w'.cell? ⟨w.heap.size, 1, none⟩ = some (.slice A n c) ∧ w'.cell? ⟨w.heap.size + 1, 0, none⟩ = some (.bool q) ∧ w'.cell? ⟨w.heap.size + 1, 1, none⟩ = some (.slice A' n' c'))
    (first | exact ⟨old1 0, old1 1, old2 0, old2 1⟩ | (go_split_ands; exact ⟨(far2 (by omega)).trans (by assumption), (far2 (by omega)).trans (by assumption), (far2 (by omega)).trans (by assumption), (far2 (by omega)).trans (by assumption)⟩) | (go_split_ands; exact ⟨keepAt hb1 (by simp <;> omega) (by assumption), keepAt hb1 (by simp <;> omega) (by assumption), keepAt hb1 (by simp <;> omega) (by assumption), keepAt hb1 (by simp <;> omega) (by assumption)⟩) | (go_split_ands; exact ⟨keepAt hb2 (by omega) (by assumption), keepAt hb2 (by omega) (by assumption), keepAt hb2 (by omega) (by assumption), keepAt hb2 (by omega) (by assumption)⟩))
    (first | (go_at_call 74; refine (asSlice (timesR_any _ _ _ _ _ (by exact Hx3.out) (by exact Hy3.out) lx ly)).mono ?_; rintro e w1 ⟨A5, n5, c5, rfl, hr, hb1⟩; have z1 : w.heap.size + 1 + 1 + 1 ≤ w1.heap.size := (by have h := (undrew hb1).size; simp at h; omega); have hl5 := hr.len_le; have hR1 := HR.out.below (undrew hb1) (by simp <;> omega)) | (go_at_call 70; refine (signedR_any (!sg) A5 n5 c5 _ hl5).mono ?_; rintro e w2 ⟨rfl, hb2⟩; have z2 := hb2.size; have hR := hR1.below hb2 (by omega); obtain ⟨a0, A0, n0, c0, k10, k11, k20, k21⟩ := hR.facts))
  have s0 := hR.set0 (!sg && decide (0 < n5)) (.slice A5 n5 c5)
  have s1 := hR.set1 (!sg && decide (0 < n5)) (.slice A5 n5 c5)
  have fin := And.intro ((hr.below hb2).rb hR (.bool (!sg && decide (0 < n5))) (.slice A5 n5 c5)) (below_set2 (g := w.heap.size + 1 + 1) (i := 0) (j := 1) ((Hb3.out.trans ((undrew hb1).mono (by simp <;> omega))).trans (hb2.mono (by omega))) (by omega) (.bool (!sg && decide (0 < n5))) (.slice A5 n5 c5))
  have Fin := Lib.hid fin; clear fin
  have hn5 := hr.len
  have Hn5 := Lib.hid hn5; clear hn5
  go_wp2
  refine bodyPost_ret (v := .agg #[.bool (!sg && decide (0 < n5)), .slice A5 n5 c5]) (by simp [results, Try.results35, go_sem, s0, s1]) rfl ⟨_, rfl, ZV.mk ?_ ?_, Fin.out.2⟩
  · rw [Hsg.out, Hp.out, Hq.out, Hn5.out, Bool.eq_iff_iff]
    simp only [Bool.and_eq_true, Bool.not_eq_true', beq_eq_false_iff_ne, ne_eq, decide_eq_decide, decide_eq_true_eq, dig_len_pos]
    rcases Int.lt_trichotomy x 0 with hx | hx | hx <;> rcases Int.lt_trichotomy y 0 with hy | hy | hy
    · have := Int.mul_pos_of_neg_of_neg hx hy; have h2 : 0 < x.natAbs * y.natAbs := Nat.mul_pos (by omega) (by omega); omega
    · subst hy; simp
    · have := Int.mul_neg_of_neg_of_pos hx hy; have h2 : 0 < x.natAbs * y.natAbs := Nat.mul_pos (by omega) (by omega); omega
    · subst hx; simp
    · subst hx; simp
    · subst hx; simp
    · have := Int.mul_neg_of_pos_of_neg hx hy; have h2 : 0 < x.natAbs * y.natAbs := Nat.mul_pos (by omega) (by omega); omega
    · subst hy; simp
    · have := Int.mul_pos hx hy; have h2 : 0 < x.natAbs * y.natAbs := Nat.mul_pos (by omega) (by omega); omega
  · rw [Int.natAbs_mul]; exact Fin.out.1
end Go.Proofs.Ytmlopkkbgpfdnaa
namespace Go.Proofs.Ytmlopkkbgpfdnaa
open Go.RowKit

set_option maxHeartbeats 400000 in
set_option maxRecDepth 100000 in
theorem refMul_noa (p q : Bool) (A A' : Option Addr) (n c n' c' : Nat) (l l' : List Nat) (w : World) (hx : Wd w (.slice A n c) l) (hy : Wd w (.slice A' n' c') l') (hno : vld p l = false) :
    Calls Try.prog 27 #[.agg #[.bool p, .slice A n c], .agg #[.bool q, .slice A' n' c']] w fun e w' => e = .returned (.tuple #[.agg #[.bool false, .slice none 0 0], .int .i64 2]) ∧ Below w.heap.size w w' := by
  have Hx := Lib.hid hx; clear hx
  have Hy := Lib.hid hy; clear hy
  have Hno := Lib.hid hno; clear hno
  go_enter Try.func27, Try.ntmps27
  go_wp2_with fail
  have hb3 := below3 w (Obj.cells #[.bool p, .slice A n c] 24) (Obj.cells #[.bool q, .slice A' n' c'] 24) (Obj.cells #[.bool false, .slice none 0 0] 24)
  have hR3 := RB.a3 w false none 0 0 24 (Obj.cells #[.bool p, .slice A n c] 24) (Obj.cells #[.bool q, .slice A' n' c'] 24)
  refine (validR_any p A n c l _ (Hx.out.below hb3)).mono ?_
  rintro e w1 ⟨rfl, hb1⟩
  rw [Hno.out]
  have hR := hR3.below hb1 (by simp <;> omega)
  have hbf := hb3.trans (hb1.mono (by simp <;> omega))
  obtain ⟨a0, A0, n0, c0, k10, k11, k20, k21⟩ := hR.facts
  have s0 := hR.set0 false (.slice none 0 0)
  have s1 := hR.set1 false (.slice none 0 0)
  have fin := below_set2 (g := w.heap.size + 1 + 1) (i := 0) (j := 1) hbf (by omega) (.bool false) (.slice none 0 0)
  have Fin := Lib.hid fin; clear fin hR hbf
  go_wp2
  exact bodyPost_ret (v := .tuple #[.agg #[.bool false, .slice none 0 0], .int .i64 2]) (by simp [results, Try.results27, go_sem, s0, s1]) rfl ⟨rfl, Fin.out⟩

set_option maxHeartbeats 400000 in
set_option maxRecDepth 100000 in
theorem refMul_nob (p q : Bool) (A A' : Option Addr) (n c n' c' : Nat) (l l' : List Nat) (w : World) (hx : Wd w (.slice A n c) l) (hy : Wd w (.slice A' n' c') l') (hyes : vld p l = true) (hno : vld q l' = false) :
    Calls Try.prog 27 #[.agg #[.bool p, .slice A n c], .agg #[.bool q, .slice A' n' c']] w fun e w' => e = .returned (.tuple #[.agg #[.bool false, .slice none 0 0], .int .i64 2]) ∧ Below w.heap.size w w' := by
  have Hx := Lib.hid hx; clear hx
  have Hy := Lib.hid hy; clear hy
  have Hno := Lib.hid hno; clear hno
  have Hyes := Lib.hid hyes; clear hyes
  go_enter Try.func27, Try.ntmps27
  go_wp2_with fail
  have hb3 := below3 w (Obj.cells #[.bool p, .slice A n c] 24) (Obj.cells #[.bool q, .slice A' n' c'] 24) (Obj.cells #[.bool false, .slice none 0 0] 24)
  have hR3 := RB.a3 w false none 0 0 24 (Obj.cells #[.bool p, .slice A n c] 24) (Obj.cells #[.bool q, .slice A' n' c'] 24)
  refine (validR_any p A n c l _ (Hx.out.below hb3)).mono ?_
  rintro e w1 ⟨rfl, hb1⟩
  rw [Hyes.out]
  have q0 : w1.cell? ⟨w.heap.size + 1, 0, none⟩ = some (.bool q) := keepAt hb1 (by simp <;> omega) (old2 0)
  have q1 : w1.cell? ⟨w.heap.size + 1, 1, none⟩ = some (.slice A' n' c') := keepAt hb1 (by simp <;> omega) (old2 1)
  have z1 : w.heap.size + 1 + 1 + 1 ≤ w1.heap.size := by have := hb1.size; simpa using this
  have hR1 := Lib.hid (hR3.below hb1 (by simp <;> omega))
  have hb01 := hb3.trans (hb1.mono (by simp <;> omega))
  have Hy1 := Lib.hid (Hy.out.below hb01)
  have Hb01 := Lib.hid hb01
  clear hb1 hb3 hR3 hb01
  go_wp2_with fail
  refine (validR_any q A' n' c' l' _ Hy1.out).mono ?_
  rintro e w2 ⟨rfl, hb2⟩
  rw [Hno.out]
  have hR := hR1.out.below hb2 (by omega)
  have hbf := Hb01.out.trans (hb2.mono Hb01.out.size)
  obtain ⟨a0, A0, n0, c0, k10, k11, k20, k21⟩ := hR.facts
  have s0 := hR.set0 false (.slice none 0 0)
  have s1 := hR.set1 false (.slice none 0 0)
  have fin := below_set2 (g := w.heap.size + 1 + 1) (i := 0) (j := 1) hbf (by omega) (.bool false) (.slice none 0 0)
  have Fin := Lib.hid fin; clear fin hR hbf
  go_wp2
  exact bodyPost_ret (v := .tuple #[.agg #[.bool false, .slice none 0 0], .int .i64 2]) (by simp [results, Try.results27, go_sem, s0, s1]) rfl ⟨rfl, Fin.out⟩

set_option maxHeartbeats 800000 in
set_option maxRecDepth 100000 in
theorem refMul_yes (x y : Int) (p q : Bool) (A A' : Option Addr) (n c n' c' : Nat) (l l' : List Nat) (w : World) (hx : Wd w (.slice A n c) l) (hy : Wd w (.slice A' n' c') l') (hp : vld p l = true) (hq : vld q l' = true)
    (ex : x = numOf p l) (ey : y = numOf q l') (hfit : (dig (x * y).natAbs).length ≤ 256) :
    Calls Try.prog 27 #[.agg #[.bool p, .slice A n c], .agg #[.bool q, .slice A' n' c']] w fun e w' => ∃ b A n c, e = .returned (.tuple #[.agg #[.bool b, .slice A n c], .int .i64 0]) ∧ ZV w' (.agg #[.bool b, .slice A n c]) (x * y) ∧ Below w.heap.size w w' := by
  have zx := vld_zv hx hp
  have zy := vld_zv hy hq
  have lx : (dig x.natAbs).length ≤ 256 := by rw [ex, vld_dig hx.ok hp]; exact vld_len hp
  have ly : (dig y.natAbs).length ≤ 256 := by rw [ey, vld_dig hy.ok hq]; exact vld_len hq
  rw [← ex] at zx
  rw [← ey] at zy
  have Hx := Lib.hid hx; clear hx
  have Hy := Lib.hid hy; clear hy
  have Zx := Lib.hid zx; clear zx
  have Zy := Lib.hid zy; clear zy
  have Hp := Lib.hid hp; clear hp
  have Hq := Lib.hid hq; clear hq ex ey
  go_enter Try.func27, Try.ntmps27
  go_wp2_with fail
  have hb3 := below3 w (Obj.cells #[.bool p, .slice A n c] 24) (Obj.cells #[.bool q, .slice A' n' c'] 24) (Obj.cells #[.bool false, .slice none 0 0] 24)
  have hR3 := RB.a3 w false none 0 0 24 (Obj.cells #[.bool p, .slice A n c] 24) (Obj.cells #[.bool q, .slice A' n' c'] 24)
  refine (validR_any p A n c l _ (Hx.out.below hb3)).mono ?_
  rintro e w1 ⟨rfl, hb1⟩
  rw [Hp.out]
  have q00 : w1.cell? ⟨w.heap.size, 0, none⟩ = some (.bool p) := keepAt hb1 (by simp <;> omega) (old1 0)
  have q01 : w1.cell? ⟨w.heap.size, 1, none⟩ = some (.slice A n c) := keepAt hb1 (by simp <;> omega) (old1 1)
  have q0 : w1.cell? ⟨w.heap.size + 1, 0, none⟩ = some (.bool q) := keepAt hb1 (by simp <;> omega) (old2 0)
  have q1 : w1.cell? ⟨w.heap.size + 1, 1, none⟩ = some (.slice A' n' c') := keepAt hb1 (by simp <;> omega) (old2 1)
  have z1 : w.heap.size + 1 + 1 + 1 ≤ w1.heap.size := by have := hb1.size; simpa using this
  have hR1 := Lib.hid (hR3.below hb1 (by simp <;> omega))
  have hb01 := hb3.trans (hb1.mono (by simp <;> omega))
  have Hy1 := Lib.hid (Hy.out.below hb01)
  have Hb01 := Lib.hid hb01
  clear hb1 hb3 hR3 hb01
  go_wp2_with fail
  refine (validR_any q A' n' c' l' _ Hy1.out).mono ?_
  rintro e w2 ⟨rfl, hb2⟩
  rw [Hq.out]
  have m10 := keepAt hb2 (by omega) q00
  have m11 := keepAt hb2 (by omega) q01
  have m20 := keepAt hb2 (by omega) q0
  have m21 := keepAt hb2 (by omega) q1
  have z2 : w.heap.size + 1 + 1 + 1 ≤ w2.heap.size := Nat.le_trans z1 hb2.size
  have HR2 := Lib.hid (hR1.out.below hb2 (by omega))
  have Hb0 := Lib.hid (Hb01.out.trans (hb2.mono Hb01.out.size))
  have Zx1 := Lib.hid (Zx.out.below Hb0.out)
  have Zy1 := Lib.hid (Zy.out.below Hb0.out)
  clear hb2 q00 q01 q0 q1 hR1 Hb01 z1
  have tk0 : True := trivial
  go_wp2_with fail
  go_region_held3 (fun w' => w'.cell? ⟨w.heap.size, 0, none⟩ = some (.bool p) ∧ w'.cell? ⟨w.heap.size, 1, none⟩ = some (.slice A n c) ∧ w'.cell? ⟨w.heap.size + 1, 0, none⟩ = some (.bool q) ∧ w'.cell? ⟨w.heap.size + 1, 1, none⟩ = some (.slice A' n' c'))
    (first | exact ⟨m10, m11, m20, m21⟩ | (go_split_ands; exact ⟨(far2 (by omega)).trans (by assumption), (far2 (by omega)).trans (by assumption), (far2 (by omega)).trans (by assumption), (far2 (by omega)).trans (by assumption)⟩) | (go_split_ands; exact ⟨keepAt hb3 (by show _ < w2.heap.size; omega) (by assumption), keepAt hb3 (by show _ < w2.heap.size; omega) (by assumption), keepAt hb3 (by show _ < w2.heap.size; omega) (by assumption), keepAt hb3 (by show _ < w2.heap.size; omega) (by assumption)⟩) | (go_split_ands; exact ⟨keepAt hb4 (by omega) (by assumption), keepAt hb4 (by omega) (by assumption), keepAt hb4 (by omega) (by assumption), keepAt hb4 (by omega) (by assumption)⟩) | (go_split_ands; exact ⟨keepAt hb6 (by omega) (by assumption), keepAt hb6 (by omega) (by assumption), keepAt hb6 (by omega) (by assumption), keepAt hb6 (by omega) (by assumption)⟩) | (go_split_ands; exact ⟨keepAt hb7 (by omega) (by assumption), keepAt hb7 (by omega) (by assumption), keepAt hb7 (by omega) (by assumption), keepAt hb7 (by omega) (by assumption)⟩))
    (first | (go_at_call 36; have _t := tk0; refine (of_any p A n c _).mono ?_; rintro e w3 ⟨rfl, hb3⟩; clear tk0; have tk1 : True := trivial; have z3 : w2.heap.size ≤ w3.heap.size := (undrew hb3).size; have zx3 := Zx1.out.below (undrew hb3); have zy3 := Zy1.out.below (undrew hb3); have hR3 := HR2.out.below (undrew hb3) (by show _ < w2.heap.size; omega)) | (go_at_call 36; have _t := tk1; refine (of_any q A' n' c' _).mono ?_; rintro e w4 ⟨rfl, hb4⟩; have z4 := hb4.size; have zx4 := zx3.below hb4; have zy4 := zy3.below hb4; have hR4 := hR3.below hb4 (by omega)) | (go_at_call 35; refine (asAgg (timesRZ_any x y _ _ _ zx4 zy4 (by omega) (by omega))).mono ?_; rintro e w6 ⟨b4, A4, n4, c4, rfl, hr, hb6⟩; have z6 := hb6.size; have hR6 := hR4.below hb6 (by omega)) | (go_at_call 58; refine (answer_yes _ _ _ hr hfit).mono ?_; rintro e w7 ⟨b6, A6, n6, c6, rfl, hr6, hb7⟩; have z7 := hb7.size; have hR := hR6.below hb7 (by omega); obtain ⟨a0, A0, n0, c0, k10, k11, k20, k21⟩ := hR.facts))
  have s0 := hR.set0 b6 (.slice A6 n6 c6)
  have s1 := hR.set1 b6 (.slice A6 n6 c6)
  have fin := And.intro (hr6.rb hR (.bool b6) (.slice A6 n6 c6)) (below_set2 (g := w.heap.size + 1 + 1) (i := 0) (j := 1) ((((Hb0.out.trans ((undrew hb3).mono (by show _ ≤ w2.heap.size; omega))).trans (hb4.mono (by omega))).trans (hb6.mono (by omega))).trans (hb7.mono (by omega))) (by omega) (.bool b6) (.slice A6 n6 c6))
  have Fin := Lib.hid fin; clear fin
  go_wp2
  exact bodyPost_ret (v := .tuple #[.agg #[.bool b6, .slice A6 n6 c6], .int .i64 0]) (by simp [results, Try.results27, go_sem, s0, s1]) rfl ⟨b6, A6, n6, c6, rfl, Fin.out.1, Fin.out.2⟩

set_option maxHeartbeats 800000 in
set_option maxRecDepth 100000 in
theorem refMul_big (x y : Int) (p q : Bool) (A A' : Option Addr) (n c n' c' : Nat) (l l' : List Nat) (w : World) (hx : Wd w (.slice A n c) l) (hy : Wd w (.slice A' n' c') l') (hp : vld p l = true) (hq : vld q l' = true)
    (ex : x = numOf p l) (ey : y = numOf q l') (hfit : 256 < (dig (x * y).natAbs).length) :
    Calls Try.prog 27 #[.agg #[.bool p, .slice A n c], .agg #[.bool q, .slice A' n' c']] w fun e w' => e = .returned (.tuple #[.agg #[.bool false, .slice none 0 0], .int .i64 5]) ∧ Below w.heap.size w w' := by
  have zx := vld_zv hx hp
  have zy := vld_zv hy hq
  have lx : (dig x.natAbs).length ≤ 256 := by rw [ex, vld_dig hx.ok hp]; exact vld_len hp
  have ly : (dig y.natAbs).length ≤ 256 := by rw [ey, vld_dig hy.ok hq]; exact vld_len hq
  rw [← ex] at zx
  rw [← ey] at zy
  have Hx := Lib.hid hx; clear hx
  have Hy := Lib.hid hy; clear hy
  have Zx := Lib.hid zx; clear zx
  have Zy := Lib.hid zy; clear zy
  have Hp := Lib.hid hp; clear hp
  have Hq := Lib.hid hq; clear hq ex ey
  go_enter Try.func27, Try.ntmps27
  go_wp2_with fail
  have hb3 := below3 w (Obj.cells #[.bool p, .slice A n c] 24) (Obj.cells #[.bool q, .slice A' n' c'] 24) (Obj.cells #[.bool false, .slice none 0 0] 24)
  have hR3 := RB.a3 w false none 0 0 24 (Obj.cells #[.bool p, .slice A n c] 24) (Obj.cells #[.bool q, .slice A' n' c'] 24)
  refine (validR_any p A n c l _ (Hx.out.below hb3)).mono ?_
  rintro e w1 ⟨rfl, hb1⟩
  rw [Hp.out]
  have q00 : w1.cell? ⟨w.heap.size, 0, none⟩ = some (.bool p) := keepAt hb1 (by simp <;> omega) (old1 0)
  have q01 : w1.cell? ⟨w.heap.size, 1, none⟩ = some (.slice A n c) := keepAt hb1 (by simp <;> omega) (old1 1)
  have q0 : w1.cell? ⟨w.heap.size + 1, 0, none⟩ = some (.bool q) := keepAt hb1 (by simp <;> omega) (old2 0)
  have q1 : w1.cell? ⟨w.heap.size + 1, 1, none⟩ = some (.slice A' n' c') := keepAt hb1 (by simp <;> omega) (old2 1)
  have z1 : w.heap.size + 1 + 1 + 1 ≤ w1.heap.size := by have := hb1.size; simpa using this
  have hR1 := Lib.hid (hR3.below hb1 (by simp <;> omega))
  have hb01 := hb3.trans (hb1.mono (by simp <;> omega))
  have Hy1 := Lib.hid (Hy.out.below hb01)
  have Hb01 := Lib.hid hb01
  clear hb1 hb3 hR3 hb01
  go_wp2_with fail
  refine (validR_any q A' n' c' l' _ Hy1.out).mono ?_
  rintro e w2 ⟨rfl, hb2⟩
  rw [Hq.out]
  have m10 := keepAt hb2 (by omega) q00
  have m11 := keepAt hb2 (by omega) q01
  have m20 := keepAt hb2 (by omega) q0
  have m21 := keepAt hb2 (by omega) q1
  have z2 : w.heap.size + 1 + 1 + 1 ≤ w2.heap.size := Nat.le_trans z1 hb2.size
  have HR2 := Lib.hid (hR1.out.below hb2 (by omega))
  have Hb0 := Lib.hid (Hb01.out.trans (hb2.mono Hb01.out.size))
  have Zx1 := Lib.hid (Zx.out.below Hb0.out)
  have Zy1 := Lib.hid (Zy.out.below Hb0.out)
  clear hb2 q00 q01 q0 q1 hR1 Hb01 z1
  have tk0 : True := trivial
  go_wp2_with fail
  go_region_held3 (fun w' => w'.cell? ⟨w.heap.size, 0, none⟩ = some (.bool p) ∧ w'.cell? ⟨w.heap.size, 1, none⟩ = some (.slice A n c) ∧ w'.cell? ⟨w.heap.size + 1, 0, none⟩ = some (.bool q) ∧ w'.cell? ⟨w.heap.size + 1, 1, none⟩ = some (.slice A' n' c'))
    (first | exact ⟨m10, m11, m20, m21⟩ | (go_split_ands; exact ⟨(far2 (by omega)).trans (by assumption), (far2 (by omega)).trans (by assumption), (far2 (by omega)).trans (by assumption), (far2 (by omega)).trans (by assumption)⟩) | (go_split_ands; exact ⟨keepAt hb3 (by show _ < w2.heap.size; omega) (by assumption), keepAt hb3 (by show _ < w2.heap.size; omega) (by assumption), keepAt hb3 (by show _ < w2.heap.size; omega) (by assumption), keepAt hb3 (by show _ < w2.heap.size; omega) (by assumption)⟩) | (go_split_ands; exact ⟨keepAt hb4 (by omega) (by assumption), keepAt hb4 (by omega) (by assumption), keepAt hb4 (by omega) (by assumption), keepAt hb4 (by omega) (by assumption)⟩) | (go_split_ands; exact ⟨keepAt hb6 (by omega) (by assumption), keepAt hb6 (by omega) (by assumption), keepAt hb6 (by omega) (by assumption), keepAt hb6 (by omega) (by assumption)⟩) | (go_split_ands; exact ⟨keepAt hb7 (by omega) (by assumption), keepAt hb7 (by omega) (by assumption), keepAt hb7 (by omega) (by assumption), keepAt hb7 (by omega) (by assumption)⟩))
    (first | (go_at_call 36; have _t := tk0; refine (of_any p A n c _).mono ?_; rintro e w3 ⟨rfl, hb3⟩; clear tk0; have tk1 : True := trivial; have z3 : w2.heap.size ≤ w3.heap.size := (undrew hb3).size; have zx3 := Zx1.out.below (undrew hb3); have zy3 := Zy1.out.below (undrew hb3); have hR3 := HR2.out.below (undrew hb3) (by show _ < w2.heap.size; omega)) | (go_at_call 36; have _t := tk1; refine (of_any q A' n' c' _).mono ?_; rintro e w4 ⟨rfl, hb4⟩; have z4 := hb4.size; have zx4 := zx3.below hb4; have zy4 := zy3.below hb4; have hR4 := hR3.below hb4 (by omega)) | (go_at_call 35; refine (asAgg (timesRZ_any x y _ _ _ zx4 zy4 (by omega) (by omega))).mono ?_; rintro e w6 ⟨b4, A4, n4, c4, rfl, hr, hb6⟩; have z6 := hb6.size; have hR6 := hR4.below hb6 (by omega)) | (go_at_call 58; refine (answer_no _ _ _ hr hfit).mono ?_; rintro e w7 ⟨rfl, hb7⟩; have z7 := hb7.size; have hR := hR6.below hb7 (by omega); obtain ⟨a0, A0, n0, c0, k10, k11, k20, k21⟩ := hR.facts))
  have s0 := hR.set0 false (.slice none 0 0)
  have s1 := hR.set1 false (.slice none 0 0)
  have fin := (below_set2 (g := w.heap.size + 1 + 1) (i := 0) (j := 1) ((((Hb0.out.trans ((undrew hb3).mono (by show _ ≤ w2.heap.size; omega))).trans (hb4.mono (by omega))).trans (hb6.mono (by omega))).trans (hb7.mono (by omega))) (by omega) (.bool false) (.slice none 0 0))
  have Fin := Lib.hid fin; clear fin
  go_wp2
  exact bodyPost_ret (v := .tuple #[.agg #[.bool false, .slice none 0 0], .int .i64 5]) (by simp [results, Try.results27, go_sem, s0, s1]) rfl ⟨rfl, Fin.out⟩

end Go.Proofs.Ytmlopkkbgpfdnaa
namespace Go.Proofs.Ytmlopkkbgpfdnaa
open Go.RowKit

/-- what an operation answers: the number and the error -/
def ansZ (p q : Bool) (l l' : List Nat) (z : Int) : Int := if (vld p l && vld q l') = true then (if (dig z.natAbs).length ≤ 256 then z else 0) else 0
def ansE (p q : Bool) (l l' : List Nat) (z : Int) : Int := if (vld p l && vld q l') = true then (if (dig z.natAbs).length ≤ 256 then 0 else 5) else 2
def cmpA (p q : Bool) (l l' : List Nat) : Int := if (vld p l && vld q l') = true then (numOf p l - numOf q l').sign else 0
def cmpE (p q : Bool) (l l' : List Nat) : Int := if (vld p l && vld q l') = true then 0 else 2

theorem zv_zero (w : World) : ZV w (.agg #[.bool false, .slice none 0 0]) 0 := ZV.mk (by simp) (by rw [Int.natAbs_zero, dig_zero]; exact Wd.nil_ _)

def RetA (w : World) (z er : Int) (e : Ending) (w' : World) : Prop := ∃ b A n c, e = .returned (.tuple #[.agg #[.bool b, .slice A n c], .int .i64 er]) ∧ ZV w' (.agg #[.bool b, .slice A n c]) z ∧ Below w.heap.size w w'

theorem exactAdd_u (p q : Bool) (A A' : Option Addr) (n c n' c' : Nat) (l l' : List Nat) (w : World) (hx : Wd w (.slice A n c) l) (hy : Wd w (.slice A' n' c') l') :
    Calls Try.prog 22 #[.agg #[.bool p, .slice A n c], .agg #[.bool q, .slice A' n' c']] w (RetA w (ansZ p q l l' (numOf p l + numOf q l')) (ansE p q l l' (numOf p l + numOf q l'))) := by
  unfold ansZ ansE
  by_cases h : (vld p l && vld q l') = true
  · rw [if_pos h, if_pos h]
    have hp : vld p l = true := by simp at h; exact h.1
    have hq : vld q l' = true := by simp at h; exact h.2
    by_cases hf : (dig (numOf p l + numOf q l').natAbs).length ≤ 256
    · rw [if_pos hf, if_pos hf]
      exact exactAdd_yes _ _ p q A A' n c n' c' l l' w hx hy hp hq rfl rfl hf
    · rw [if_neg hf, if_neg hf]
      refine (exactAdd_big _ _ p q A A' n c n' c' l l' w hx hy hp hq rfl rfl (by omega)).mono ?_
      rintro e w' ⟨rfl, hb⟩
      exact ⟨false, none, 0, 0, rfl, zv_zero _, hb⟩
  · rw [if_neg h, if_neg h]
    have h : (vld p l && vld q l') = false := by simpa using h
    refine ((exactAdd_no p q A A' n c n' c' l l' w hx hy h).mono ?_)
    rintro e w' ⟨rfl, hb⟩
    exact ⟨false, none, 0, 0, rfl, zv_zero _, hb⟩

theorem exactSub_u (p q : Bool) (A A' : Option Addr) (n c n' c' : Nat) (l l' : List Nat) (w : World) (hx : Wd w (.slice A n c) l) (hy : Wd w (.slice A' n' c') l') :
    Calls Try.prog 24 #[.agg #[.bool p, .slice A n c], .agg #[.bool q, .slice A' n' c']] w (RetA w (ansZ p q l l' (numOf p l - numOf q l')) (ansE p q l l' (numOf p l - numOf q l'))) := by
  unfold ansZ ansE
  by_cases h : (vld p l && vld q l') = true
  · rw [if_pos h, if_pos h]
    have hp : vld p l = true := by simp at h; exact h.1
    have hq : vld q l' = true := by simp at h; exact h.2
    by_cases hf : (dig (numOf p l - numOf q l').natAbs).length ≤ 256
    · rw [if_pos hf, if_pos hf]
      exact exactSub_yes _ _ p q A A' n c n' c' l l' w hx hy hp hq rfl rfl hf
    · rw [if_neg hf, if_neg hf]
      refine (exactSub_big _ _ p q A A' n c n' c' l l' w hx hy hp hq rfl rfl (by omega)).mono ?_
      rintro e w' ⟨rfl, hb⟩
      exact ⟨false, none, 0, 0, rfl, zv_zero _, hb⟩
  · rw [if_neg h, if_neg h]
    have h : (vld p l && vld q l') = false := by simpa using h
    refine ((exactSub_no p q A A' n c n' c' l l' w hx hy h).mono ?_)
    rintro e w' ⟨rfl, hb⟩
    exact ⟨false, none, 0, 0, rfl, zv_zero _, hb⟩

theorem exactMul_u (p q : Bool) (A A' : Option Addr) (n c n' c' : Nat) (l l' : List Nat) (w : World) (hx : Wd w (.slice A n c) l) (hy : Wd w (.slice A' n' c') l') :
    Calls Try.prog 26 #[.agg #[.bool p, .slice A n c], .agg #[.bool q, .slice A' n' c']] w (RetA w (ansZ p q l l' (numOf p l * numOf q l')) (ansE p q l l' (numOf p l * numOf q l'))) := by
  unfold ansZ ansE
  by_cases h : (vld p l && vld q l') = true
  · rw [if_pos h, if_pos h]
    have hp : vld p l = true := by simp at h; exact h.1
    have hq : vld q l' = true := by simp at h; exact h.2
    by_cases hf : (dig (numOf p l * numOf q l').natAbs).length ≤ 256
    · rw [if_pos hf, if_pos hf]
      exact exactMul_yes _ _ p q A A' n c n' c' l l' w hx hy hp hq rfl rfl hf
    · rw [if_neg hf, if_neg hf]
      refine (exactMul_big _ _ p q A A' n c n' c' l l' w hx hy hp hq rfl rfl (by omega)).mono ?_
      rintro e w' ⟨rfl, hb⟩
      exact ⟨false, none, 0, 0, rfl, zv_zero _, hb⟩
  · rw [if_neg h, if_neg h]
    have h : (vld p l && vld q l') = false := by simpa using h
    refine ((exactMul_no p q A A' n c n' c' l l' w hx hy h).mono ?_)
    rintro e w' ⟨rfl, hb⟩
    exact ⟨false, none, 0, 0, rfl, zv_zero _, hb⟩

theorem refAdd_u (p q : Bool) (A A' : Option Addr) (n c n' c' : Nat) (l l' : List Nat) (w : World) (hx : Wd w (.slice A n c) l) (hy : Wd w (.slice A' n' c') l') :
    Calls Try.prog 23 #[.agg #[.bool p, .slice A n c], .agg #[.bool q, .slice A' n' c']] w (RetA w (ansZ p q l l' (numOf p l + numOf q l')) (ansE p q l l' (numOf p l + numOf q l'))) := by
  unfold ansZ ansE
  by_cases h : (vld p l && vld q l') = true
  · rw [if_pos h, if_pos h]
    have hp : vld p l = true := by simp at h; exact h.1
    have hq : vld q l' = true := by simp at h; exact h.2
    by_cases hf : (dig (numOf p l + numOf q l').natAbs).length ≤ 256
    · rw [if_pos hf, if_pos hf]
      exact refAdd_yes _ _ p q A A' n c n' c' l l' w hx hy hp hq rfl rfl hf
    · rw [if_neg hf, if_neg hf]
      refine (refAdd_big _ _ p q A A' n c n' c' l l' w hx hy hp hq rfl rfl (by omega)).mono ?_
      rintro e w' ⟨rfl, hb⟩
      exact ⟨false, none, 0, 0, rfl, zv_zero _, hb⟩
  · rw [if_neg h, if_neg h]
    have h : (vld p l && vld q l') = false := by simpa using h
    by_cases hp : vld p l = true
    · have hq : vld q l' = false := by rw [hp] at h; simpa using h
      refine ((refAdd_nob p q A A' n c n' c' l l' w hx hy hp hq).mono ?_)
      rintro e w' ⟨rfl, hb⟩
      exact ⟨false, none, 0, 0, rfl, zv_zero _, hb⟩
    · have hp : vld p l = false := by simpa using hp
      refine ((refAdd_noa p q A A' n c n' c' l l' w hx hy hp).mono ?_)
      rintro e w' ⟨rfl, hb⟩
      exact ⟨false, none, 0, 0, rfl, zv_zero _, hb⟩

theorem refSub_u (p q : Bool) (A A' : Option Addr) (n c n' c' : Nat) (l l' : List Nat) (w : World) (hx : Wd w (.slice A n c) l) (hy : Wd w (.slice A' n' c') l') :
    Calls Try.prog 25 #[.agg #[.bool p, .slice A n c], .agg #[.bool q, .slice A' n' c']] w (RetA w (ansZ p q l l' (numOf p l - numOf q l')) (ansE p q l l' (numOf p l - numOf q l'))) := by
  unfold ansZ ansE
  by_cases h : (vld p l && vld q l') = true
  · rw [if_pos h, if_pos h]
    have hp : vld p l = true := by simp at h; exact h.1
    have hq : vld q l' = true := by simp at h; exact h.2
    by_cases hf : (dig (numOf p l - numOf q l').natAbs).length ≤ 256
    · rw [if_pos hf, if_pos hf]
      exact refSub_yes _ _ p q A A' n c n' c' l l' w hx hy hp hq rfl rfl hf
    · rw [if_neg hf, if_neg hf]
      refine (refSub_big _ _ p q A A' n c n' c' l l' w hx hy hp hq rfl rfl (by omega)).mono ?_
      rintro e w' ⟨rfl, hb⟩
      exact ⟨false, none, 0, 0, rfl, zv_zero _, hb⟩
  · rw [if_neg h, if_neg h]
    have h : (vld p l && vld q l') = false := by simpa using h
    by_cases hp : vld p l = true
    · have hq : vld q l' = false := by rw [hp] at h; simpa using h
      refine ((refSub_nob p q A A' n c n' c' l l' w hx hy hp hq).mono ?_)
      rintro e w' ⟨rfl, hb⟩
      exact ⟨false, none, 0, 0, rfl, zv_zero _, hb⟩
    · have hp : vld p l = false := by simpa using hp
      refine ((refSub_noa p q A A' n c n' c' l l' w hx hy hp).mono ?_)
      rintro e w' ⟨rfl, hb⟩
      exact ⟨false, none, 0, 0, rfl, zv_zero _, hb⟩

theorem refMul_u (p q : Bool) (A A' : Option Addr) (n c n' c' : Nat) (l l' : List Nat) (w : World) (hx : Wd w (.slice A n c) l) (hy : Wd w (.slice A' n' c') l') :
    Calls Try.prog 27 #[.agg #[.bool p, .slice A n c], .agg #[.bool q, .slice A' n' c']] w (RetA w (ansZ p q l l' (numOf p l * numOf q l')) (ansE p q l l' (numOf p l * numOf q l'))) := by
  unfold ansZ ansE
  by_cases h : (vld p l && vld q l') = true
  · rw [if_pos h, if_pos h]
    have hp : vld p l = true := by simp at h; exact h.1
    have hq : vld q l' = true := by simp at h; exact h.2
    by_cases hf : (dig (numOf p l * numOf q l').natAbs).length ≤ 256
    · rw [if_pos hf, if_pos hf]
      exact refMul_yes _ _ p q A A' n c n' c' l l' w hx hy hp hq rfl rfl hf
    · rw [if_neg hf, if_neg hf]
      refine (refMul_big _ _ p q A A' n c n' c' l l' w hx hy hp hq rfl rfl (by omega)).mono ?_
      rintro e w' ⟨rfl, hb⟩
      exact ⟨false, none, 0, 0, rfl, zv_zero _, hb⟩
  · rw [if_neg h, if_neg h]
    have h : (vld p l && vld q l') = false := by simpa using h
    by_cases hp : vld p l = true
    · have hq : vld q l' = false := by rw [hp] at h; simpa using h
      refine ((refMul_nob p q A A' n c n' c' l l' w hx hy hp hq).mono ?_)
      rintro e w' ⟨rfl, hb⟩
      exact ⟨false, none, 0, 0, rfl, zv_zero _, hb⟩
    · have hp : vld p l = false := by simpa using hp
      refine ((refMul_noa p q A A' n c n' c' l l' w hx hy hp).mono ?_)
      rintro e w' ⟨rfl, hb⟩
      exact ⟨false, none, 0, 0, rfl, zv_zero _, hb⟩

theorem exactCmp_u (p q : Bool) (A A' : Option Addr) (n c n' c' : Nat) (l l' : List Nat) (w : World) (hx : Wd w (.slice A n c) l) (hy : Wd w (.slice A' n' c') l') :
    Calls Try.prog 20 #[.agg #[.bool p, .slice A n c], .agg #[.bool q, .slice A' n' c']] w fun e w' => e = .returned (.tuple #[.int .i64 (cmpA p q l l'), .int .i64 (cmpE p q l l')]) ∧ Below w.heap.size w w' := by
  unfold cmpA cmpE
  by_cases h : (vld p l && vld q l') = true
  · rw [if_pos h, if_pos h]
    have hp : vld p l = true := by simp at h; exact h.1
    have hq : vld q l' = true := by simp at h; exact h.2
    exact exactCmp_yes _ _ p q A A' n c n' c' l l' w hx hy hp hq rfl rfl
  · rw [if_neg h, if_neg h]
    exact exactCmp_no p q A A' n c n' c' l l' w hx hy (by simpa using h)

theorem refCmp_u (p q : Bool) (A A' : Option Addr) (n c n' c' : Nat) (l l' : List Nat) (w : World) (hx : Wd w (.slice A n c) l) (hy : Wd w (.slice A' n' c') l') :
    Calls Try.prog 21 #[.agg #[.bool p, .slice A n c], .agg #[.bool q, .slice A' n' c']] w fun e w' => e = .returned (.tuple #[.int .i64 (cmpA p q l l'), .int .i64 (cmpE p q l l')]) ∧ Below w.heap.size w w' := by
  unfold cmpA cmpE
  by_cases h : (vld p l && vld q l') = true
  · rw [if_pos h, if_pos h]
    have hp : vld p l = true := by simp at h; exact h.1
    have hq : vld q l' = true := by simp at h; exact h.2
    exact refCmp_yes _ _ p q A A' n c n' c' l l' w hx hy hp hq rfl rfl
  · rw [if_neg h, if_neg h]
    by_cases hp : vld p l = true
    · exact refCmp_nob p q A A' n c n' c' l l' w hx hy hp (by rw [hp] at h; simpa using h)
    · exact refCmp_noa p q A A' n c n' c' l l' w hx hy (by simpa using hp)

end Go.Proofs.Ytmlopkkbgpfdnaa
namespace Go.Proofs.Ytmlopkkbgpfdnaa
open Go.RowKit

theorem gcdE_any (x y : Int) (u v : Value) (w : World) (hx : ZV w u x) (hy : ZV w v y) (lx : (dig x.natAbs).length ≤ 400000) (ly : (dig y.natAbs).length ≤ 400000) :
    Calls Try.prog 64 #[u, v] w (RetZ w ((Int.gcd x y : Nat) : Int)) :=
  gcdZ_any x y u v w 400000 hx hy lx ly (by omega) (by omega)
set_option maxHeartbeats 800000 in
set_option maxRecDepth 100000 in
theorem combineGcd_no (p q : Bool) (A A' : Option Addr) (n c n' c' : Nat) (l l' : List Nat) (w : World) (hx : Wd w (.slice A n c) l) (hy : Wd w (.slice A' n' c') l') (hno : (vld p l && vld q l') = false) :
    Calls Try.prog 56 #[.agg #[.bool p, .slice A n c], .agg #[.bool q, .slice A' n' c'], .func (.func 64) #[] #[]] w fun e w' => e = .returned (.tuple #[.agg #[.bool false, .slice none 0 0], .int .i64 2]) ∧ Below w.heap.size w w' := by
  have Hx := Lib.hid hx; clear hx
  have Hy := Lib.hid hy; clear hy
  have Hno := Lib.hid hno; clear hno
  go_enter Try.func56, Try.ntmps56
  go_wp2_with fail
  have hb4 := below4 w (Obj.cells #[.bool p, .slice A n c] 24) (Obj.cells #[.bool q, .slice A' n' c'] 24) (Obj.cells #[.bool false, .slice none 0 0] 24) (Obj.cells #[.bool p, .slice A n c, .bool q, .slice A' n' c'] 24)
  have hR3 := (RB.a3 w false none 0 0 24 (Obj.cells #[.bool p, .slice A n c] 24) (Obj.cells #[.bool q, .slice A' n' c'] 24)).alloc (Obj.cells #[.bool p, .slice A n c, .bool q, .slice A' n' c'] 24)
  refine (allValid_two p q A A' n c n' c' l l' w _ _ (by have := heap_alloc_new (((w.alloc (Obj.cells #[.bool p, .slice A n c] 24)).alloc (Obj.cells #[.bool q, .slice A' n' c'] 24)).alloc (Obj.cells #[.bool false, .slice none 0 0] 24)) (Obj.cells #[.bool p, .slice A n c, .bool q, .slice A' n' c'] 24); simpa using this) (Hx.out.below hb4) (Hy.out.below hb4)).mono ?_
  rintro e w1 ⟨rfl, hb1⟩
  rw [Hno.out]
  have hR := hR3.below hb1 (by simp <;> omega)
  obtain ⟨a0, A0, n0, c0, k10, k11, k20, k21⟩ := hR.facts
  have s0 := hR.set0 false (.slice none 0 0)
  have s1 := hR.set1 false (.slice none 0 0)
  have fin := below_set2 (g := w.heap.size + 1 + 1) (i := 0) (j := 1) (hb4.trans (hb1.mono (by simp <;> omega))) (by omega) (.bool false) (.slice none 0 0)
  have Fin := Lib.hid fin; clear fin hb1 hb4 hR hR3
  go_wp2
  exact bodyPost_ret (v := .tuple #[.agg #[.bool false, .slice none 0 0], .int .i64 2]) (by simp [results, Try.results56, go_sem, s0, s1]) rfl ⟨rfl, Fin.out⟩
set_option maxHeartbeats 800000 in
set_option maxRecDepth 100000 in
theorem combineGcd_yes (x y : Int) (p q : Bool) (A A' : Option Addr) (n c n' c' : Nat) (l l' : List Nat) (w : World) (hx : Wd w (.slice A n c) l) (hy : Wd w (.slice A' n' c') l') (hp : vld p l = true) (hq : vld q l' = true)
    (ex : x = numOf p l) (ey : y = numOf q l') (hfit : (dig (((Int.gcd x y : Nat) : Int)).natAbs).length ≤ 256) :
    Calls Try.prog 56 #[.agg #[.bool p, .slice A n c], .agg #[.bool q, .slice A' n' c'], .func (.func 64) #[] #[]] w fun e w' => ∃ b A n c, e = .returned (.tuple #[.agg #[.bool b, .slice A n c], .int .i64 0]) ∧ ZV w' (.agg #[.bool b, .slice A n c]) (((Int.gcd x y : Nat) : Int)) ∧ Below w.heap.size w w' := by
  have zx := vld_zv hx hp
  have zy := vld_zv hy hq
  have lx : (dig x.natAbs).length ≤ 256 := by rw [ex, vld_dig hx.ok hp]; exact vld_len hp
  have ly : (dig y.natAbs).length ≤ 256 := by rw [ey, vld_dig hy.ok hq]; exact vld_len hq
  rw [← ex] at zx
  rw [← ey] at zy
  have hyes : (vld p l && vld q l') = true := by rw [hp, hq]; rfl
  have Hx := Lib.hid hx; clear hx
  have Hy := Lib.hid hy; clear hy
  have Zx := Lib.hid zx; clear zx
  have Zy := Lib.hid zy; clear zy
  have Hyes := Lib.hid hyes; clear hyes hp hq ex ey
  go_enter Try.func56, Try.ntmps56
  go_wp2_with fail
  have hb4 := below4 w (Obj.cells #[.bool p, .slice A n c] 24) (Obj.cells #[.bool q, .slice A' n' c'] 24) (Obj.cells #[.bool false, .slice none 0 0] 24) (Obj.cells #[.bool p, .slice A n c, .bool q, .slice A' n' c'] 24)
  have hR3 := (RB.a3 w false none 0 0 24 (Obj.cells #[.bool p, .slice A n c] 24) (Obj.cells #[.bool q, .slice A' n' c'] 24)).alloc (Obj.cells #[.bool p, .slice A n c, .bool q, .slice A' n' c'] 24)
  have o10 : ((((w.alloc (Obj.cells #[.bool p, .slice A n c] 24)).alloc (Obj.cells #[.bool q, .slice A' n' c'] 24)).alloc (Obj.cells #[.bool false, .slice none 0 0] 24)).alloc (Obj.cells #[.bool p, .slice A n c, .bool q, .slice A' n' c'] 24)).cell? ⟨w.heap.size, 0, none⟩ = some (.bool p) := by
    rw [World.cell?_alloc_past _ _ _ (by simp <;> omega)]; exact old1 0
  have o11 : ((((w.alloc (Obj.cells #[.bool p, .slice A n c] 24)).alloc (Obj.cells #[.bool q, .slice A' n' c'] 24)).alloc (Obj.cells #[.bool false, .slice none 0 0] 24)).alloc (Obj.cells #[.bool p, .slice A n c, .bool q, .slice A' n' c'] 24)).cell? ⟨w.heap.size, 1, none⟩ = some (.slice A n c) := by
    rw [World.cell?_alloc_past _ _ _ (by simp <;> omega)]; exact old1 1
  have o20 : ((((w.alloc (Obj.cells #[.bool p, .slice A n c] 24)).alloc (Obj.cells #[.bool q, .slice A' n' c'] 24)).alloc (Obj.cells #[.bool false, .slice none 0 0] 24)).alloc (Obj.cells #[.bool p, .slice A n c, .bool q, .slice A' n' c'] 24)).cell? ⟨w.heap.size + 1, 0, none⟩ = some (.bool q) := by
    rw [World.cell?_alloc_past _ _ _ (by simp <;> omega)]; exact old2 0
  have o21 : ((((w.alloc (Obj.cells #[.bool p, .slice A n c] 24)).alloc (Obj.cells #[.bool q, .slice A' n' c'] 24)).alloc (Obj.cells #[.bool false, .slice none 0 0] 24)).alloc (Obj.cells #[.bool p, .slice A n c, .bool q, .slice A' n' c'] 24)).cell? ⟨w.heap.size + 1, 1, none⟩ = some (.slice A' n' c') := by
    rw [World.cell?_alloc_past _ _ _ (by simp <;> omega)]; exact old2 1
  refine (allValid_two p q A A' n c n' c' l l' w _ _ (by have := heap_alloc_new (((w.alloc (Obj.cells #[.bool p, .slice A n c] 24)).alloc (Obj.cells #[.bool q, .slice A' n' c'] 24)).alloc (Obj.cells #[.bool false, .slice none 0 0] 24)) (Obj.cells #[.bool p, .slice A n c, .bool q, .slice A' n' c'] 24); simpa using this) (Hx.out.below hb4) (Hy.out.below hb4)).mono ?_
  rintro e w1 ⟨rfl, hb1⟩
  rw [Hyes.out]
  have z1 : w.heap.size + 1 + 1 + 1 + 1 ≤ w1.heap.size := by have := hb1.size; simpa using this
  have m10 := keepAt hb1 (by simp <;> omega) o10
  have m11 := keepAt hb1 (by simp <;> omega) o11
  have m20 := keepAt hb1 (by simp <;> omega) o20
  have m21 := keepAt hb1 (by simp <;> omega) o21
  have hR1 := hR3.below hb1 (by simp <;> omega)
  have hb0 : Below w.heap.size w w1 := hb4.trans (hb1.mono (by simp <;> omega))
  clear o10 o11 o20 o21 hb4 hb1 hR3
  have Zx1 := Lib.hid (Zx.out.below hb0)
  have Zy1 := Lib.hid (Zy.out.below hb0)
  have Hb0 := Lib.hid hb0; clear hb0
  have HR1 := Lib.hid hR1; clear hR1
  have tk0 : True := trivial
  go_wp2_with fail
  go_region_held3 (fun w' => w'.cell? ⟨w.heap.size, 0, none⟩ = some (.bool p) ∧ w'.cell? ⟨w.heap.size, 1, none⟩ = some (.slice A n c) ∧ w'.cell? ⟨w.heap.size + 1, 0, none⟩ = some (.bool q) ∧ w'.cell? ⟨w.heap.size + 1, 1, none⟩ = some (.slice A' n' c'))
    (first | exact ⟨m10, m11, m20, m21⟩ | (go_split_ands; exact ⟨(far2 (by omega)).trans (by assumption), (far2 (by omega)).trans (by assumption), (far2 (by omega)).trans (by assumption), (far2 (by omega)).trans (by assumption)⟩) | (go_split_ands; exact ⟨keepAt hb2 (by show _ < w1.heap.size; omega) (by assumption), keepAt hb2 (by show _ < w1.heap.size; omega) (by assumption), keepAt hb2 (by show _ < w1.heap.size; omega) (by assumption), keepAt hb2 (by show _ < w1.heap.size; omega) (by assumption)⟩) | (go_split_ands; exact ⟨keepAt hb3 (by omega) (by assumption), keepAt hb3 (by omega) (by assumption), keepAt hb3 (by omega) (by assumption), keepAt hb3 (by omega) (by assumption)⟩) | (go_split_ands; exact ⟨keepAt hb4 (by omega) (by assumption), keepAt hb4 (by omega) (by assumption), keepAt hb4 (by omega) (by assumption), keepAt hb4 (by omega) (by assumption)⟩) | (go_split_ands; exact ⟨keepAt hb5 (by omega) (by assumption), keepAt hb5 (by omega) (by assumption), keepAt hb5 (by omega) (by assumption), keepAt hb5 (by omega) (by assumption)⟩))
    (first | (go_at_call 49; have _t := tk0; refine (wholeOf_any p A n c _).mono ?_; rintro e w2 ⟨rfl, hb2⟩; clear tk0; have tk1 : True := trivial; have z2 : w1.heap.size ≤ w2.heap.size := (undrew hb2).size; have zx2 := Zx1.out.below (undrew hb2); have zy2 := Zy1.out.below (undrew hb2); have hR2 := HR1.out.below (undrew hb2) (by show _ < w1.heap.size; omega)) | (go_at_call 49; have _t := tk1; refine (wholeOf_any q A' n' c' _).mono ?_; rintro e w3 ⟨rfl, hb3⟩; have z3 := hb3.size; have zx3 := zx2.below hb3; have zy3 := zy2.below hb3; have hR3 := hR2.below hb3 (by omega)) | (go_at_call 64; refine (asAgg (gcdE_any x y _ _ _ zx3 zy3 (by omega) (by omega))).mono ?_; rintro e w4 ⟨b4, A4, n4, c4, rfl, hr, hb4⟩; have z4 := hb4.size; have hR4 := hR3.below hb4 (by omega)) | (go_at_call 77; refine (fitInt_yes _ _ _ hr hfit).mono ?_; rintro e w5 ⟨b6, A6, n6, c6, rfl, hr6, hb5⟩; have z5 := hb5.size; have hR := hR4.below hb5 (by omega); obtain ⟨a0, A0, n0, c0, k10, k11, k20, k21⟩ := hR.facts))
  have s0 := hR.set0 b6 (.slice A6 n6 c6)
  have s1 := hR.set1 b6 (.slice A6 n6 c6)
  have fin := And.intro (hr6.rb hR (.bool b6) (.slice A6 n6 c6)) (below_set2 (g := w.heap.size + 1 + 1) (i := 0) (j := 1) ((((Hb0.out.trans ((undrew hb2).mono (by show _ ≤ w1.heap.size; omega))).trans (hb3.mono (by omega))).trans (hb4.mono (by omega))).trans (hb5.mono (by omega))) (by omega) (.bool b6) (.slice A6 n6 c6))
  have Fin := Lib.hid fin; clear fin
  go_wp2
  exact bodyPost_ret (v := .tuple #[.agg #[.bool b6, .slice A6 n6 c6], .int .i64 0]) (by simp [results, Try.results56, go_sem, s0, s1]) rfl ⟨b6, A6, n6, c6, rfl, Fin.out.1, Fin.out.2⟩
set_option maxRecDepth 100000 in
theorem exactGcd_no (p q : Bool) (A A' : Option Addr) (n c n' c' : Nat) (l l' : List Nat) (w : World) (hx : Wd w (.slice A n c) l) (hy : Wd w (.slice A' n' c') l') (hno : (vld p l && vld q l') = false) :
    Calls Try.prog 30 #[.agg #[.bool p, .slice A n c], .agg #[.bool q, .slice A' n' c']] w fun e w' => e = .returned (.tuple #[.agg #[.bool false, .slice none 0 0], .int .i64 2]) ∧ Below w.heap.size w w' := by
  have Hx := Lib.hid hx; clear hx
  have Hy := Lib.hid hy; clear hy
  go_enter Try.func30, Try.ntmps30
  go_wp2_with fail
  have hb3 := below3 w (Obj.cells #[.bool p, .slice A n c] 24) (Obj.cells #[.bool q, .slice A' n' c'] 24) (Obj.cells #[.bool false, .slice none 0 0] 24)
  have hR3 := RB.a3 w false none 0 0 24 (Obj.cells #[.bool p, .slice A n c] 24) (Obj.cells #[.bool q, .slice A' n' c'] 24)
  refine (combineGcd_no p q A A' n c n' c' l l' _ (Hx.out.below hb3) (Hy.out.below hb3) hno).mono ?_
  rintro e w1 ⟨rfl, hb1⟩
  have hR := hR3.below hb1 (by simp <;> omega)
  obtain ⟨a0, A0, n0, c0, k10, k11, k20, k21⟩ := hR.facts
  have s0 := hR.set0 false (.slice none 0 0)
  have s1 := hR.set1 false (.slice none 0 0)
  have fin := (below_set2 (g := w.heap.size + 1 + 1) (i := 0) (j := 1) (hb3.trans (hb1.mono (by simp <;> omega))) (by omega) (.bool false) (.slice none 0 0))
  have Fin := Lib.hid fin; clear fin hR hb1 hb3 hR3
  go_wp2
  exact bodyPost_ret (v := .tuple #[.agg #[.bool false, .slice none 0 0], .int .i64 2]) (by simp [results, Try.results30, go_sem, s0, s1]) rfl ⟨rfl, Fin.out⟩

set_option maxRecDepth 100000 in
theorem exactGcd_yes (x y : Int) (p q : Bool) (A A' : Option Addr) (n c n' c' : Nat) (l l' : List Nat) (w : World) (hx : Wd w (.slice A n c) l) (hy : Wd w (.slice A' n' c') l') (hp : vld p l = true) (hq : vld q l' = true) (ex : x = numOf p l) (ey : y = numOf q l') (hfit : (dig (((Int.gcd x y : Nat) : Int)).natAbs).length ≤ 256) :
    Calls Try.prog 30 #[.agg #[.bool p, .slice A n c], .agg #[.bool q, .slice A' n' c']] w fun e w' => ∃ b A n c, e = .returned (.tuple #[.agg #[.bool b, .slice A n c], .int .i64 0]) ∧ ZV w' (.agg #[.bool b, .slice A n c]) (((Int.gcd x y : Nat) : Int)) ∧ Below w.heap.size w w' := by
  have Hxy := Lib.hid (And.intro ex ey)
  clear ex ey
  have Hx := Lib.hid hx; clear hx
  have Hy := Lib.hid hy; clear hy
  go_enter Try.func30, Try.ntmps30
  go_wp2_with fail
  have hb3 := below3 w (Obj.cells #[.bool p, .slice A n c] 24) (Obj.cells #[.bool q, .slice A' n' c'] 24) (Obj.cells #[.bool false, .slice none 0 0] 24)
  have hR3 := RB.a3 w false none 0 0 24 (Obj.cells #[.bool p, .slice A n c] 24) (Obj.cells #[.bool q, .slice A' n' c'] 24)
  refine (combineGcd_yes x y p q A A' n c n' c' l l' _ (Hx.out.below hb3) (Hy.out.below hb3) hp hq Hxy.out.1 Hxy.out.2 hfit).mono ?_
  rintro e w1 ⟨b6, A6, n6, c6, rfl, hr6, hb1⟩
  have hR := hR3.below hb1 (by simp <;> omega)
  obtain ⟨a0, A0, n0, c0, k10, k11, k20, k21⟩ := hR.facts
  have s0 := hR.set0 b6 (.slice A6 n6 c6)
  have s1 := hR.set1 b6 (.slice A6 n6 c6)
  have fin := And.intro (hr6.rb hR (.bool b6) (.slice A6 n6 c6)) (below_set2 (g := w.heap.size + 1 + 1) (i := 0) (j := 1) (hb3.trans (hb1.mono (by simp <;> omega))) (by omega) (.bool b6) (.slice A6 n6 c6))
  have Fin := Lib.hid fin; clear fin hR hb1 hb3 hR3
  go_wp2
  exact bodyPost_ret (v := .tuple #[.agg #[.bool b6, .slice A6 n6 c6], .int .i64 0]) (by simp [results, Try.results30, go_sem, s0, s1]) rfl ⟨b6, A6, n6, c6, rfl, Fin.out.1, Fin.out.2⟩


theorem gcd_len {x y : Int} {L : Nat} (lx : (dig x.natAbs).length ≤ L) (ly : (dig y.natAbs).length ≤ L) : (dig ((Int.gcd x y : Nat) : Int).natAbs).length ≤ L := by
  rw [Int.natAbs_natCast]
  by_cases h : y = 0
  · subst h; rw [Int.gcd_zero_right]; exact lx
  · exact Nat.le_trans (len_mono (Nat.gcd_le_right _ (by omega))) ly
theorem exactGcd_u (p q : Bool) (A A' : Option Addr) (n c n' c' : Nat) (l l' : List Nat) (w : World) (hx : Wd w (.slice A n c) l) (hy : Wd w (.slice A' n' c') l') :
    Calls Try.prog 30 #[.agg #[.bool p, .slice A n c], .agg #[.bool q, .slice A' n' c']] w (RetA w (ansZ p q l l' ((Int.gcd (numOf p l) (numOf q l') : Nat) : Int)) (ansE p q l l' ((Int.gcd (numOf p l) (numOf q l') : Nat) : Int))) := by
  unfold ansZ ansE
  by_cases h : (vld p l && vld q l') = true
  · rw [if_pos h, if_pos h]
    have hp : vld p l = true := by simp at h; exact h.1
    have hq : vld q l' = true := by simp at h; exact h.2
    have hf : (dig ((Int.gcd (numOf p l) (numOf q l') : Nat) : Int).natAbs).length ≤ 256 :=
      gcd_len (by rw [vld_dig hx.ok hp]; exact vld_len hp) (by rw [vld_dig hy.ok hq]; exact vld_len hq)
    rw [if_pos hf, if_pos hf]
    exact exactGcd_yes _ _ p q A A' n c n' c' l l' w hx hy hp hq rfl rfl hf
  · rw [if_neg h, if_neg h]
    have h : (vld p l && vld q l') = false := by simpa using h
    refine ((exactGcd_no p q A A' n c n' c' l l' w hx hy h).mono ?_)
    rintro e w' ⟨rfl, hb⟩
    exact ⟨false, none, 0, 0, rfl, zv_zero _, hb⟩
end Go.Proofs.Ytmlopkkbgpfdnaa
namespace Go.Proofs.Ytmlopkkbgpfdnaa

theorem gcd_half_left {a b : Nat} (ha : a % 2 = 0) (hb : b % 2 = 1) : Nat.gcd (a / 2) b = Nat.gcd a b := by
  have e : a = 2 * (a / 2) := by omega
  have hc : Nat.Coprime 2 b := by
    rw [Nat.coprime_iff_gcd_eq_one, Nat.gcd_rec, hb]; rfl
  conv => rhs; rw [e]
  exact (Nat.Coprime.gcd_mul_left_cancel (a / 2) hc).symm
theorem gcd_half_right {a b : Nat} (ha : a % 2 = 1) (hb : b % 2 = 0) : Nat.gcd a (b / 2) = Nat.gcd a b := by
  rw [Nat.gcd_comm, gcd_half_left hb ha, Nat.gcd_comm]
theorem gcd_half_both {a b : Nat} (ha : a % 2 = 0) (hb : b % 2 = 0) : Nat.gcd a b = 2 * Nat.gcd (a / 2) (b / 2) := by
  have e : a = 2 * (a / 2) := by omega
  have f : b = 2 * (b / 2) := by omega
  conv => lhs; rw [e, f]
  exact Nat.gcd_mul_left 2 _ _
theorem gcd_less {a b : Nat} (h : b ≤ a) : Nat.gcd (a - b) b = Nat.gcd a b := Nat.gcd_sub_self_left h
theorem gcd_emod' (p m : Int) : Int.gcd (p % m) m = Int.gcd p m := by
  have e := Int.emod_add_mul_ediv p m
  refine Nat.dvd_antisymm (gcd_le_dvd fun n h1 h2 => ⟨?_, h2⟩) (gcd_le_dvd fun n h1 h2 => ⟨?_, h2⟩)
  · rw [← e]; exact Int.dvd_add h1 (Int.dvd_mul_of_dvd_left h2)
  · have : p % m = p - m * (p / m) := by omega
    rw [this]; exact Int.dvd_sub h1 (Int.dvd_mul_of_dvd_left h2)
/-- the inverse -/
theorem inv_end {p m g u v : Int} (hm : 0 < m) (hc : Int.gcd p m = 1) (h : Ex (p % m) m g 0 u v) : 0 ≤ u % m ∧ u % m < m ∧ m ∣ 1 - p * (u % m) := by
  have hg : g = 1 := by
    have h1 := h.gcd
    rw [Int.gcd_zero_right, gcd_emod' p m, hc] at h1
    have h0 := h.g0
    omega
  obtain ⟨k, hk⟩ := h.gu
  refine ⟨Int.emod_nonneg _ (by omega), Int.emod_lt_of_pos _ hm, ?_⟩
  have d1 := Int.emod_add_mul_ediv p m
  have d2 := Int.emod_add_mul_ediv u m
  have e1 : p % m = p - m * (p / m) := by omega
  have e2 : u % m = u - m * (u / m) := by omega
  rw [hg, e1] at hk
  refine ⟨k - u * (p / m) + p * (u / m), ?_⟩
  rw [e2]; grind
theorem ext_ref {a b g m x : Int} (hb : b ≠ 0) (hg : g = (Int.gcd a b : Int)) (hm : m = (b.natAbs : Int) / g) (h0 : 0 ≤ x) (h1 : x < m) (hd : m ∣ 1 - a / g * x) : IsExt a b g x ((g - a * x) / b) := by
  have hgp : 0 < Int.gcd a b := Int.gcd_pos_iff.2 (.inr hb)
  have hg0 : g ≠ 0 := by omega
  have da : g ∣ a := by rw [hg]; exact Int.gcd_dvd_left ..
  have db : g ∣ b := by rw [hg]; exact Int.gcd_dvd_right ..
  obtain ⟨a', ha⟩ := da
  obtain ⟨b', hb'⟩ := db
  have hbq : b / g = b' := by rw [hb']; exact Int.mul_ediv_cancel_left b' hg0
  have haq : a / g = a' := by rw [ha]; exact Int.mul_ediv_cancel_left a' hg0
  have hma : m = (b'.natAbs : Int) := by
    rw [hm, hb', Int.natAbs_mul]
    have : ((g.natAbs * b'.natAbs : Nat) : Int) = g * (b'.natAbs : Int) := by
      rw [Int.natCast_mul]
      have : (g.natAbs : Int) = g := by omega
      rw [this]
    rw [this]; exact Int.mul_ediv_cancel_left _ hg0
  rw [haq] at hd
  have hd2 : b' ∣ 1 - a' * x := by rw [hma] at hd; exact Int.natAbs_dvd.1 hd
  have hdvd : b ∣ g - a * x := by
    obtain ⟨k, hk⟩ := hd2
    refine ⟨k, ?_⟩
    rw [ha, hb']; grind
  refine ⟨hg, h0, by rw [hbq]; omega, ?_⟩
  have := Int.mul_ediv_cancel' hdvd
  omega
theorem isExt_only {a b g x y g' x' y' : Int} (hb : b ≠ 0) (h : IsExt a b g x y) (k : IsExt a b g' x' y') : g = g' ∧ x = x' ∧ y = y' := by
  have hg : g = g' := h.is.trans k.is.symm
  subst hg
  have hx : x = x' := coef_only hb h.is ⟨h.x0, h.x1⟩ ⟨k.x0, k.x1⟩ ⟨y, by have := h.sum; omega⟩ ⟨y', by have := k.sum; omega⟩
  subst hx
  have h1 := h.sum; have k1 := k.sum
  have : b * y = b * y' := by omega
  exact ⟨rfl, rfl, Int.eq_of_mul_eq_mul_left hb this⟩
/-- the parts of a pair have no common divisor -/
theorem gcd_parts {a b g : Int} (hb : b ≠ 0) (hg : g = (Int.gcd a b : Int)) : Int.gcd (a / g) ((b.natAbs : Int) / g) = 1 := by
  have hgp : 0 < Int.gcd a b := Int.gcd_pos_iff.2 (.inr hb)
  have hg0 : g ≠ 0 := by omega
  have da : g ∣ a := by rw [hg]; exact Int.gcd_dvd_left ..
  have db : g ∣ b := by rw [hg]; exact Int.gcd_dvd_right ..
  obtain ⟨a', ha⟩ := da
  obtain ⟨b', hb'⟩ := db
  have haq : a / g = a' := by rw [ha]; exact Int.mul_ediv_cancel_left a' hg0
  have hma : (b.natAbs : Int) / g = (b'.natAbs : Int) := by
    rw [hb', Int.natAbs_mul]
    have : ((g.natAbs * b'.natAbs : Nat) : Int) = g * (b'.natAbs : Int) := by
      rw [Int.natCast_mul]
      have : (g.natAbs : Int) = g := by omega
      rw [this]
    rw [this]; exact Int.mul_ediv_cancel_left _ hg0
  rw [haq, hma]
  have := Int.gcd_mul_left g a' b'
  rw [← ha, ← hb'] at this
  have e : g.natAbs = Int.gcd a b := by omega
  rw [e] at this
  have h3 : Int.gcd a b * Int.gcd a' b' = Int.gcd a b * 1 := by omega
  have h4 := Nat.eq_of_mul_eq_mul_left hgp h3
  have e2 : Int.gcd a' (b'.natAbs : Int) = Int.gcd a' b' := by simp [Int.gcd]
  rw [e2]; exact h4
end Go.Proofs.Ytmlopkkbgpfdnaa
