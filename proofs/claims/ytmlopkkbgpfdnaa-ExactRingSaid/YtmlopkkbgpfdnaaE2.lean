/- Walks: Cmp. -/
import Derived.Test.YtmlopkkbgpfdnaaW13
import Derived.Test.YtmlopkkbgpfdnaaR8
import Derived.Test.YtmlopkkbgpfdnaaR10
namespace Go.Proofs.Ytmlopkkbgpfdnaa
open Go.RowKit

theorem two1 {w : World} {c1 : Array Value} {t1 : TypeId} {o2 : Obj} (i : Nat) : ((w.alloc (.cells c1 t1)).alloc o2).cell? ⟨w.heap.size, i, none⟩ = c1[i]? := by
  rw [World.cell?_alloc_past _ _ _ (by simp), World.cell?_alloc_new]
theorem two2 {w : World} {c2 : Array Value} {t2 : TypeId} {o1 : Obj} (i : Nat) : ((w.alloc o1).alloc (.cells c2 t2)).cell? ⟨w.heap.size + 1, i, none⟩ = c2[i]? := by
  rw [World.cell?_alloc_at _ _ _ _ (by simp)]

set_option maxRecDepth 100000 in
theorem exactCmp_no (p q : Bool) (A A' : Option Addr) (n c n' c' : Nat) (l l' : List Nat) (w : World) (hx : Wd w (.slice A n c) l) (hy : Wd w (.slice A' n' c') l') (hno : (vld p l && vld q l') = false) :
    Calls Try.prog 20 #[.agg #[.bool p, .slice A n c], .agg #[.bool q, .slice A' n' c']] w fun e w' => e = .returned (.tuple #[.int .i64 0, .int .i64 2]) ∧ Below w.heap.size w w' := by
  have Hx := Lib.hid hx; clear hx
  have Hy := Lib.hid hy; clear hy
  have Hno := Lib.hid hno; clear hno
  go_enter Try.func20, Try.ntmps20
  go_wp2_with fail
  have hb3 := below3 w (Obj.cells #[.bool p, .slice A n c] 24) (Obj.cells #[.bool q, .slice A' n' c'] 24) (Obj.cells #[.bool p, .slice A n c, .bool q, .slice A' n' c'] 24)
  refine (allValid_two p q A A' n c n' c' l l' w _ _ (by have := heap_alloc_new ((w.alloc (Obj.cells #[.bool p, .slice A n c] 24)).alloc (Obj.cells #[.bool q, .slice A' n' c'] 24)) (Obj.cells #[.bool p, .slice A n c, .bool q, .slice A' n' c'] 24); simpa using this) (Hx.out.below hb3) (Hy.out.below hb3)).mono ?_
  rintro e w1 ⟨rfl, hb1⟩
  rw [Hno.out]
  have Hb := Lib.hid (hb3.trans (hb1.mono (by simp <;> omega)))
  clear hb1 hb3
  go_wp2
  go_ret2
  exact ⟨rfl, Hb.out⟩

set_option maxHeartbeats 800000 in
set_option maxRecDepth 100000 in
theorem exactCmp_yes (x y : Int) (p q : Bool) (A A' : Option Addr) (n c n' c' : Nat) (l l' : List Nat) (w : World) (hx : Wd w (.slice A n c) l) (hy : Wd w (.slice A' n' c') l') (hp : vld p l = true) (hq : vld q l' = true) (ex : x = numOf p l) (ey : y = numOf q l') :
    Calls Try.prog 20 #[.agg #[.bool p, .slice A n c], .agg #[.bool q, .slice A' n' c']] w fun e w' => e = .returned (.tuple #[.int .i64 (x - y).sign, .int .i64 0]) ∧ Below w.heap.size w w' := by
  have zx := vld_zv hx hp
  have zy := vld_zv hy hq
  have lx : (dig x.natAbs).length ≤ 256 := by rw [ex, vld_dig hx.ok hp]; exact vld_len hp
  have ly : (dig y.natAbs).length ≤ 256 := by rw [ey, vld_dig hy.ok hq]; exact vld_len hq
  rw [← ex] at zx
  rw [← ey] at zy
  have hyes : (vld p l && vld q l') = true := by rw [hp, hq]; rfl
  have Hx := Lib.hid hx; clear hx
  have Hy := Lib.hid hy; clear hy
  have Zx := Lib.hid zx; clear zx
  have Zy := Lib.hid zy; clear zy
  have Hyes := Lib.hid hyes; clear hyes hp hq ex ey
  obtain ⟨sg, hsg⟩ : ∃ sg, sg = (x - y).sign := ⟨_, rfl⟩
  rw [← hsg]
  have Hsg := Lib.hid hsg; clear hsg
  go_enter Try.func20, Try.ntmps20
  go_wp2_with fail
  have hb3 := below3 w (Obj.cells #[.bool p, .slice A n c] 24) (Obj.cells #[.bool q, .slice A' n' c'] 24) (Obj.cells #[.bool p, .slice A n c, .bool q, .slice A' n' c'] 24)
  refine (allValid_two p q A A' n c n' c' l l' w _ _ (by have := heap_alloc_new ((w.alloc (Obj.cells #[.bool p, .slice A n c] 24)).alloc (Obj.cells #[.bool q, .slice A' n' c'] 24)) (Obj.cells #[.bool p, .slice A n c, .bool q, .slice A' n' c'] 24); simpa using this) (Hx.out.below hb3) (Hy.out.below hb3)).mono ?_
  rintro e w1 ⟨rfl, hb1⟩
  rw [Hyes.out]
  have z1 : w.heap.size + 1 + 1 + 1 ≤ w1.heap.size := by have := hb1.size; simpa using this
  have m10 : w1.cell? ⟨w.heap.size, 0, none⟩ = some (.bool p) := keepAt hb1 (by simp <;> omega) (old1 0)
  have m11 : w1.cell? ⟨w.heap.size, 1, none⟩ = some (.slice A n c) := keepAt hb1 (by simp <;> omega) (old1 1)
  have m20 : w1.cell? ⟨w.heap.size + 1, 0, none⟩ = some (.bool q) := keepAt hb1 (by simp <;> omega) (old2 0)
  have m21 : w1.cell? ⟨w.heap.size + 1, 1, none⟩ = some (.slice A' n' c') := keepAt hb1 (by simp <;> omega) (old2 1)
  have hb0 : Below w.heap.size w w1 := hb3.trans (hb1.mono (by simp <;> omega))
  clear hb3 hb1
  have Zx1 := Lib.hid (Zx.out.below hb0)
  have Zy1 := Lib.hid (Zy.out.below hb0)
  have Hb0 := Lib.hid hb0; clear hb0
  have tk0 : True := trivial
  go_wp2_with fail
  go_region_held3 (fun w' => w'.cell? ⟨w.heap.size, 0, none⟩ = some (.bool p) ∧ w'.cell? ⟨w.heap.size, 1, none⟩ = some (.slice A n c) ∧ w'.cell? ⟨w.heap.size + 1, 0, none⟩ = some (.bool q) ∧ w'.cell? ⟨w.heap.size + 1, 1, none⟩ = some (.slice A' n' c'))
    (first | exact ⟨m10, m11, m20, m21⟩ | (go_split_ands; exact ⟨by assumption, by assumption, by assumption, by assumption⟩) | (go_split_ands; exact ⟨keepAt hb2 (by show _ < w1.heap.size; omega) (by assumption), keepAt hb2 (by show _ < w1.heap.size; omega) (by assumption), keepAt hb2 (by show _ < w1.heap.size; omega) (by assumption), keepAt hb2 (by show _ < w1.heap.size; omega) (by assumption)⟩) | (go_split_ands; exact ⟨keepAt hb4 (by omega) (by assumption), keepAt hb4 (by omega) (by assumption), keepAt hb4 (by omega) (by assumption), keepAt hb4 (by omega) (by assumption)⟩) | (go_split_ands; exact ⟨keepAt hb5 (by omega) (by assumption), keepAt hb5 (by omega) (by assumption), keepAt hb5 (by omega) (by assumption), keepAt hb5 (by omega) (by assumption)⟩))
    (first | (go_at_call 49; have _t := tk0; refine (wholeOf_any p A n c _).mono ?_; rintro e w2 ⟨rfl, hb2⟩; clear tk0; have tk1 : True := trivial; have z2 : w1.heap.size ≤ w2.heap.size := (undrew hb2).size; have zx2 := Zx1.out.below (undrew hb2); have zy2 := Zy1.out.below (undrew hb2)) | (go_at_call 49; have _t := tk1; refine (wholeOf_any q A' n' c' _).mono ?_; rintro e w4 ⟨rfl, hb4⟩; have z4 := hb4.size; have zx4 := zx2.below hb4; have zy4 := zy2.below hb4) | (go_at_call 50; refine (compareZ_any x y _ _ _ zx4 zy4 (by omega) (by omega)).mono ?_; rintro e w5 ⟨rfl, hb5⟩; have z5 := hb5.size))
  rw [← Hsg.out]
  have Hb := Lib.hid (((Hb0.out.trans ((undrew hb2).mono (by show _ ≤ w1.heap.size; omega))).trans (hb4.mono (by omega))).trans (hb5.mono (by omega)))
  go_wp2
  go_ret2
  exact ⟨rfl, Hb.out⟩

set_option maxRecDepth 100000 in
theorem refCmp_noa (p q : Bool) (A A' : Option Addr) (n c n' c' : Nat) (l l' : List Nat) (w : World) (hx : Wd w (.slice A n c) l) (hy : Wd w (.slice A' n' c') l') (hno : vld p l = false) :
    Calls Try.prog 21 #[.agg #[.bool p, .slice A n c], .agg #[.bool q, .slice A' n' c']] w fun e w' => e = .returned (.tuple #[.int .i64 0, .int .i64 2]) ∧ Below w.heap.size w w' := by
  have Hx := Lib.hid hx; clear hx
  have Hy := Lib.hid hy; clear hy
  have Hno := Lib.hid hno; clear hno
  go_enter Try.func21, Try.ntmps21
  go_wp2_with fail
  have hb2 := below2 w (Obj.cells #[.bool p, .slice A n c] 24) (Obj.cells #[.bool q, .slice A' n' c'] 24)
  refine (validR_any p A n c l _ (Hx.out.below hb2)).mono ?_
  rintro e w1 ⟨rfl, hb1⟩
  rw [Hno.out]
  have Hb := Lib.hid (hb2.trans (hb1.mono (by simp <;> omega)))
  clear hb1 hb2
  go_wp2
  go_ret2
  exact ⟨rfl, Hb.out⟩

set_option maxRecDepth 100000 in
theorem refCmp_nob (p q : Bool) (A A' : Option Addr) (n c n' c' : Nat) (l l' : List Nat) (w : World) (hx : Wd w (.slice A n c) l) (hy : Wd w (.slice A' n' c') l') (hyes : vld p l = true) (hno : vld q l' = false) :
    Calls Try.prog 21 #[.agg #[.bool p, .slice A n c], .agg #[.bool q, .slice A' n' c']] w fun e w' => e = .returned (.tuple #[.int .i64 0, .int .i64 2]) ∧ Below w.heap.size w w' := by
  have Hx := Lib.hid hx; clear hx
  have Hy := Lib.hid hy; clear hy
  have Hno := Lib.hid hno; clear hno
  have Hyes := Lib.hid hyes; clear hyes
  go_enter Try.func21, Try.ntmps21
  go_wp2_with fail
  have hb2 := below2 w (Obj.cells #[.bool p, .slice A n c] 24) (Obj.cells #[.bool q, .slice A' n' c'] 24)
  refine (validR_any p A n c l _ (Hx.out.below hb2)).mono ?_
  rintro e w1 ⟨rfl, hb1⟩
  rw [Hyes.out]
  have q0 : w1.cell? ⟨w.heap.size + 1, 0, none⟩ = some (.bool q) := keepAt hb1 (by simp <;> omega) (two2 0)
  have q1 : w1.cell? ⟨w.heap.size + 1, 1, none⟩ = some (.slice A' n' c') := keepAt hb1 (by simp <;> omega) (two2 1)
  have hb01 := hb2.trans (hb1.mono (by simp <;> omega))
  have Hy1 := Lib.hid (Hy.out.below hb01)
  have Hb01 := Lib.hid hb01
  clear hb1 hb2 hb01
  go_wp2_with fail
  refine (validR_any q A' n' c' l' _ Hy1.out).mono ?_
  rintro e w2 ⟨rfl, hb2⟩
  rw [Hno.out]
  have Hb := Lib.hid (Hb01.out.trans (hb2.mono Hb01.out.size))
  clear hb2
  go_wp2
  go_ret2
  exact ⟨rfl, Hb.out⟩

set_option maxHeartbeats 800000 in
set_option maxRecDepth 100000 in
theorem refCmp_yes (x y : Int) (p q : Bool) (A A' : Option Addr) (n c n' c' : Nat) (l l' : List Nat) (w : World) (hx : Wd w (.slice A n c) l) (hy : Wd w (.slice A' n' c') l') (hp : vld p l = true) (hq : vld q l' = true) (ex : x = numOf p l) (ey : y = numOf q l') :
    Calls Try.prog 21 #[.agg #[.bool p, .slice A n c], .agg #[.bool q, .slice A' n' c']] w fun e w' => e = .returned (.tuple #[.int .i64 (x - y).sign, .int .i64 0]) ∧ Below w.heap.size w w' := by
  have zx := vld_zv hx hp
  have zy := vld_zv hy hq
  have lx : (dig x.natAbs).length ≤ 256 := by rw [ex, vld_dig hx.ok hp]; exact vld_len hp
  have ly : (dig y.natAbs).length ≤ 256 := by rw [ey, vld_dig hy.ok hq]; exact vld_len hq
  rw [← ex] at zx
  rw [← ey] at zy
  have Hx := Lib.hid hx; clear hx
  have Hy := Lib.hid hy; clear hy
  have Zx := Lib.hid zx; clear zx
  have Zy := Lib.hid zy; clear zy
  have Hp := Lib.hid hp; clear hp
  have Hq := Lib.hid hq; clear hq ex ey
  obtain ⟨sg, hsg⟩ : ∃ sg, sg = (x - y).sign := ⟨_, rfl⟩
  rw [← hsg]
  have Hsg := Lib.hid hsg; clear hsg
  go_enter Try.func21, Try.ntmps21
  go_wp2_with fail
  have hb2 := below2 w (Obj.cells #[.bool p, .slice A n c] 24) (Obj.cells #[.bool q, .slice A' n' c'] 24)
  refine (validR_any p A n c l _ (Hx.out.below hb2)).mono ?_
  rintro e w1 ⟨rfl, hb1⟩
  rw [Hp.out]
  have q00 : w1.cell? ⟨w.heap.size, 0, none⟩ = some (.bool p) := keepAt hb1 (by simp <;> omega) (two1 0)
  have q01 : w1.cell? ⟨w.heap.size, 1, none⟩ = some (.slice A n c) := keepAt hb1 (by simp <;> omega) (two1 1)
  have q0 : w1.cell? ⟨w.heap.size + 1, 0, none⟩ = some (.bool q) := keepAt hb1 (by simp <;> omega) (two2 0)
  have q1 : w1.cell? ⟨w.heap.size + 1, 1, none⟩ = some (.slice A' n' c') := keepAt hb1 (by simp <;> omega) (two2 1)
  have z1 : w.heap.size + 1 + 1 ≤ w1.heap.size := by have := hb1.size; simpa using this
  have hb01 := hb2.trans (hb1.mono (by simp <;> omega))
  have Hy1 := Lib.hid (Hy.out.below hb01)
  have Hb01 := Lib.hid hb01
  clear hb1 hb2 hb01
  go_wp2_with fail
  refine (validR_any q A' n' c' l' _ Hy1.out).mono ?_
  rintro e w2 ⟨rfl, hb2⟩
  rw [Hq.out]
  have m10 := keepAt hb2 (by omega) q00
  have m11 := keepAt hb2 (by omega) q01
  have m20 := keepAt hb2 (by omega) q0
  have m21 := keepAt hb2 (by omega) q1
  have z2 : w.heap.size + 1 + 1 ≤ w2.heap.size := Nat.le_trans z1 hb2.size
  have Hb0 := Lib.hid (Hb01.out.trans (hb2.mono Hb01.out.size))
  have Zx1 := Lib.hid (Zx.out.below Hb0.out)
  have Zy1 := Lib.hid (Zy.out.below Hb0.out)
  clear hb2 q00 q01 q0 q1 Hb01 z1
  have tk0 : True := trivial
  go_wp2_with fail
  go_region_held3 (fun w' => w'.cell? ⟨w.heap.size, 0, none⟩ = some (.bool p) ∧ w'.cell? ⟨w.heap.size, 1, none⟩ = some (.slice A n c) ∧ w'.cell? ⟨w.heap.size + 1, 0, none⟩ = some (.bool q) ∧ w'.cell? ⟨w.heap.size + 1, 1, none⟩ = some (.slice A' n' c'))
    (first | exact ⟨m10, m11, m20, m21⟩ | (go_split_ands; exact ⟨by assumption, by assumption, by assumption, by assumption⟩) | (go_split_ands; exact ⟨keepAt hb3 (by show _ < w2.heap.size; omega) (by assumption), keepAt hb3 (by show _ < w2.heap.size; omega) (by assumption), keepAt hb3 (by show _ < w2.heap.size; omega) (by assumption), keepAt hb3 (by show _ < w2.heap.size; omega) (by assumption)⟩) | (go_split_ands; exact ⟨keepAt hb4 (by omega) (by assumption), keepAt hb4 (by omega) (by assumption), keepAt hb4 (by omega) (by assumption), keepAt hb4 (by omega) (by assumption)⟩) | (go_split_ands; exact ⟨keepAt hb5 (by omega) (by assumption), keepAt hb5 (by omega) (by assumption), keepAt hb5 (by omega) (by assumption), keepAt hb5 (by omega) (by assumption)⟩))
    (first | (go_at_call 36; have _t := tk0; refine (of_any p A n c _).mono ?_; rintro e w3 ⟨rfl, hb3⟩; clear tk0; have tk1 : True := trivial; have z3 : w2.heap.size ≤ w3.heap.size := (undrew hb3).size; have zx2 := Zx1.out.below (undrew hb3); have zy2 := Zy1.out.below (undrew hb3)) | (go_at_call 36; have _t := tk1; refine (of_any q A' n' c' _).mono ?_; rintro e w4 ⟨rfl, hb4⟩; have z4 := hb4.size; have zx4 := zx2.below hb4; have zy4 := zy2.below hb4) | (go_at_call 37; refine (orderRZ_any x y _ _ _ zx4 zy4 (by omega) (by omega)).mono ?_; rintro e w5 ⟨rfl, hb5⟩; have z5 := hb5.size))
  rw [← Hsg.out]
  have Hb := Lib.hid (((Hb0.out.trans ((undrew hb3).mono (by show _ ≤ w2.heap.size; omega))).trans (hb4.mono (by omega))).trans (hb5.mono (by omega)))
  go_wp2
  go_ret2
  exact ⟨rfl, Hb.out⟩

end Go.Proofs.Ytmlopkkbgpfdnaa
