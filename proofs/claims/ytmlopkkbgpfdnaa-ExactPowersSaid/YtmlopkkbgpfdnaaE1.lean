/- Walks: Add, Sub, Mul. -/
import Derived.Test.YtmlopkkbgpfdnaaW13
import Derived.Test.YtmlopkkbgpfdnaaW14
import Derived.Test.YtmlopkkbgpfdnaaW15
namespace Go.Proofs.Ytmlopkkbgpfdnaa
open Go.RowKit

set_option maxRecDepth 100000 in
theorem exactAdd_no (p q : Bool) (A A' : Option Addr) (n c n' c' : Nat) (l l' : List Nat) (w : World) (hx : Wd w (.slice A n c) l) (hy : Wd w (.slice A' n' c') l') (hno : (vld p l && vld q l') = false) :
    Calls Try.prog 22 #[.agg #[.bool p, .slice A n c], .agg #[.bool q, .slice A' n' c']] w fun e w' => e = .returned (.tuple #[.agg #[.bool false, .slice none 0 0], .int .i64 2]) ∧ Below w.heap.size w w' := by
  have Hx := Lib.hid hx; clear hx
  have Hy := Lib.hid hy; clear hy
  go_enter Try.func22, Try.ntmps22
  go_wp2_with fail
  have hb3 := below3 w (Obj.cells #[.bool p, .slice A n c] 24) (Obj.cells #[.bool q, .slice A' n' c'] 24) (Obj.cells #[.bool false, .slice none 0 0] 24)
  have hR3 := RB.a3 w false none 0 0 24 (Obj.cells #[.bool p, .slice A n c] 24) (Obj.cells #[.bool q, .slice A' n' c'] 24)
  refine (combineAdd_no p q A A' n c n' c' l l' _ (Hx.out.below hb3) (Hy.out.below hb3) hno).mono ?_
  rintro e w1 ⟨rfl, hb1⟩
  have hR := hR3.below hb1 (by simp <;> omega)
  obtain ⟨a0, A0, n0, c0, k10, k11, k20, k21⟩ := hR.facts
  have s0 := hR.set0 false (.slice none 0 0)
  have s1 := hR.set1 false (.slice none 0 0)
  have fin := (below_set2 (g := w.heap.size + 1 + 1) (i := 0) (j := 1) (hb3.trans (hb1.mono (by simp <;> omega))) (by omega) (.bool false) (.slice none 0 0))
  have Fin := Lib.hid fin; clear fin hR hb1 hb3 hR3
  go_wp2
  exact bodyPost_ret (v := .tuple #[.agg #[.bool false, .slice none 0 0], .int .i64 2]) (by simp [results, Try.results22, go_sem, s0, s1]) rfl ⟨rfl, Fin.out⟩

set_option maxRecDepth 100000 in
theorem exactAdd_yes (x y : Int) (p q : Bool) (A A' : Option Addr) (n c n' c' : Nat) (l l' : List Nat) (w : World) (hx : Wd w (.slice A n c) l) (hy : Wd w (.slice A' n' c') l') (hp : vld p l = true) (hq : vld q l' = true) (ex : x = numOf p l) (ey : y = numOf q l') (hfit : (dig (x + y).natAbs).length ≤ 256) :
    Calls Try.prog 22 #[.agg #[.bool p, .slice A n c], .agg #[.bool q, .slice A' n' c']] w fun e w' => ∃ b A n c, e = .returned (.tuple #[.agg #[.bool b, .slice A n c], .int .i64 0]) ∧ ZV w' (.agg #[.bool b, .slice A n c]) (x + y) ∧ Below w.heap.size w w' := by
  have Hxy := Lib.hid (And.intro ex ey)
  clear ex ey
  have Hx := Lib.hid hx; clear hx
  have Hy := Lib.hid hy; clear hy
  go_enter Try.func22, Try.ntmps22
  go_wp2_with fail
  have hb3 := below3 w (Obj.cells #[.bool p, .slice A n c] 24) (Obj.cells #[.bool q, .slice A' n' c'] 24) (Obj.cells #[.bool false, .slice none 0 0] 24)
  have hR3 := RB.a3 w false none 0 0 24 (Obj.cells #[.bool p, .slice A n c] 24) (Obj.cells #[.bool q, .slice A' n' c'] 24)
  refine (combineAdd_yes x y p q A A' n c n' c' l l' _ (Hx.out.below hb3) (Hy.out.below hb3) hp hq Hxy.out.1 Hxy.out.2 hfit).mono ?_
  rintro e w1 ⟨b6, A6, n6, c6, rfl, hr6, hb1⟩
  have hR := hR3.below hb1 (by simp <;> omega)
  obtain ⟨a0, A0, n0, c0, k10, k11, k20, k21⟩ := hR.facts
  have s0 := hR.set0 b6 (.slice A6 n6 c6)
  have s1 := hR.set1 b6 (.slice A6 n6 c6)
  have fin := And.intro (hr6.rb hR (.bool b6) (.slice A6 n6 c6)) (below_set2 (g := w.heap.size + 1 + 1) (i := 0) (j := 1) (hb3.trans (hb1.mono (by simp <;> omega))) (by omega) (.bool b6) (.slice A6 n6 c6))
  have Fin := Lib.hid fin; clear fin hR hb1 hb3 hR3
  go_wp2
  exact bodyPost_ret (v := .tuple #[.agg #[.bool b6, .slice A6 n6 c6], .int .i64 0]) (by simp [results, Try.results22, go_sem, s0, s1]) rfl ⟨b6, A6, n6, c6, rfl, Fin.out.1, Fin.out.2⟩

set_option maxRecDepth 100000 in
theorem exactAdd_big (x y : Int) (p q : Bool) (A A' : Option Addr) (n c n' c' : Nat) (l l' : List Nat) (w : World) (hx : Wd w (.slice A n c) l) (hy : Wd w (.slice A' n' c') l') (hp : vld p l = true) (hq : vld q l' = true) (ex : x = numOf p l) (ey : y = numOf q l') (hfit : 256 < (dig (x + y).natAbs).length) :
    Calls Try.prog 22 #[.agg #[.bool p, .slice A n c], .agg #[.bool q, .slice A' n' c']] w fun e w' => e = .returned (.tuple #[.agg #[.bool false, .slice none 0 0], .int .i64 5]) ∧ Below w.heap.size w w' := by
  have Hxy := Lib.hid (And.intro ex ey)
  clear ex ey
  have Hx := Lib.hid hx; clear hx
  have Hy := Lib.hid hy; clear hy
  go_enter Try.func22, Try.ntmps22
  go_wp2_with fail
  have hb3 := below3 w (Obj.cells #[.bool p, .slice A n c] 24) (Obj.cells #[.bool q, .slice A' n' c'] 24) (Obj.cells #[.bool false, .slice none 0 0] 24)
  have hR3 := RB.a3 w false none 0 0 24 (Obj.cells #[.bool p, .slice A n c] 24) (Obj.cells #[.bool q, .slice A' n' c'] 24)
  refine (combineAdd_big x y p q A A' n c n' c' l l' _ (Hx.out.below hb3) (Hy.out.below hb3) hp hq Hxy.out.1 Hxy.out.2 hfit).mono ?_
  rintro e w1 ⟨rfl, hb1⟩
  have hR := hR3.below hb1 (by simp <;> omega)
  obtain ⟨a0, A0, n0, c0, k10, k11, k20, k21⟩ := hR.facts
  have s0 := hR.set0 false (.slice none 0 0)
  have s1 := hR.set1 false (.slice none 0 0)
  have fin := (below_set2 (g := w.heap.size + 1 + 1) (i := 0) (j := 1) (hb3.trans (hb1.mono (by simp <;> omega))) (by omega) (.bool false) (.slice none 0 0))
  have Fin := Lib.hid fin; clear fin hR hb1 hb3 hR3
  go_wp2
  exact bodyPost_ret (v := .tuple #[.agg #[.bool false, .slice none 0 0], .int .i64 5]) (by simp [results, Try.results22, go_sem, s0, s1]) rfl ⟨rfl, Fin.out⟩

set_option maxRecDepth 100000 in
theorem exactSub_no (p q : Bool) (A A' : Option Addr) (n c n' c' : Nat) (l l' : List Nat) (w : World) (hx : Wd w (.slice A n c) l) (hy : Wd w (.slice A' n' c') l') (hno : (vld p l && vld q l') = false) :
    Calls Try.prog 24 #[.agg #[.bool p, .slice A n c], .agg #[.bool q, .slice A' n' c']] w fun e w' => e = .returned (.tuple #[.agg #[.bool false, .slice none 0 0], .int .i64 2]) ∧ Below w.heap.size w w' := by
  have Hx := Lib.hid hx; clear hx
  have Hy := Lib.hid hy; clear hy
  go_enter Try.func24, Try.ntmps24
  go_wp2_with fail
  have hb3 := below3 w (Obj.cells #[.bool p, .slice A n c] 24) (Obj.cells #[.bool q, .slice A' n' c'] 24) (Obj.cells #[.bool false, .slice none 0 0] 24)
  have hR3 := RB.a3 w false none 0 0 24 (Obj.cells #[.bool p, .slice A n c] 24) (Obj.cells #[.bool q, .slice A' n' c'] 24)
  refine (combineSub_no p q A A' n c n' c' l l' _ (Hx.out.below hb3) (Hy.out.below hb3) hno).mono ?_
  rintro e w1 ⟨rfl, hb1⟩
  have hR := hR3.below hb1 (by simp <;> omega)
  obtain ⟨a0, A0, n0, c0, k10, k11, k20, k21⟩ := hR.facts
  have s0 := hR.set0 false (.slice none 0 0)
  have s1 := hR.set1 false (.slice none 0 0)
  have fin := (below_set2 (g := w.heap.size + 1 + 1) (i := 0) (j := 1) (hb3.trans (hb1.mono (by simp <;> omega))) (by omega) (.bool false) (.slice none 0 0))
  have Fin := Lib.hid fin; clear fin hR hb1 hb3 hR3
  go_wp2
  exact bodyPost_ret (v := .tuple #[.agg #[.bool false, .slice none 0 0], .int .i64 2]) (by simp [results, Try.results24, go_sem, s0, s1]) rfl ⟨rfl, Fin.out⟩

set_option maxRecDepth 100000 in
theorem exactSub_yes (x y : Int) (p q : Bool) (A A' : Option Addr) (n c n' c' : Nat) (l l' : List Nat) (w : World) (hx : Wd w (.slice A n c) l) (hy : Wd w (.slice A' n' c') l') (hp : vld p l = true) (hq : vld q l' = true) (ex : x = numOf p l) (ey : y = numOf q l') (hfit : (dig (x - y).natAbs).length ≤ 256) :
    Calls Try.prog 24 #[.agg #[.bool p, .slice A n c], .agg #[.bool q, .slice A' n' c']] w fun e w' => ∃ b A n c, e = .returned (.tuple #[.agg #[.bool b, .slice A n c], .int .i64 0]) ∧ ZV w' (.agg #[.bool b, .slice A n c]) (x - y) ∧ Below w.heap.size w w' := by
  have Hxy := Lib.hid (And.intro ex ey)
  clear ex ey
  have Hx := Lib.hid hx; clear hx
  have Hy := Lib.hid hy; clear hy
  go_enter Try.func24, Try.ntmps24
  go_wp2_with fail
  have hb3 := below3 w (Obj.cells #[.bool p, .slice A n c] 24) (Obj.cells #[.bool q, .slice A' n' c'] 24) (Obj.cells #[.bool false, .slice none 0 0] 24)
  have hR3 := RB.a3 w false none 0 0 24 (Obj.cells #[.bool p, .slice A n c] 24) (Obj.cells #[.bool q, .slice A' n' c'] 24)
  refine (combineSub_yes x y p q A A' n c n' c' l l' _ (Hx.out.below hb3) (Hy.out.below hb3) hp hq Hxy.out.1 Hxy.out.2 hfit).mono ?_
  rintro e w1 ⟨b6, A6, n6, c6, rfl, hr6, hb1⟩
  have hR := hR3.below hb1 (by simp <;> omega)
  obtain ⟨a0, A0, n0, c0, k10, k11, k20, k21⟩ := hR.facts
  have s0 := hR.set0 b6 (.slice A6 n6 c6)
  have s1 := hR.set1 b6 (.slice A6 n6 c6)
  have fin := And.intro (hr6.rb hR (.bool b6) (.slice A6 n6 c6)) (below_set2 (g := w.heap.size + 1 + 1) (i := 0) (j := 1) (hb3.trans (hb1.mono (by simp <;> omega))) (by omega) (.bool b6) (.slice A6 n6 c6))
  have Fin := Lib.hid fin; clear fin hR hb1 hb3 hR3
  go_wp2
  exact bodyPost_ret (v := .tuple #[.agg #[.bool b6, .slice A6 n6 c6], .int .i64 0]) (by simp [results, Try.results24, go_sem, s0, s1]) rfl ⟨b6, A6, n6, c6, rfl, Fin.out.1, Fin.out.2⟩

set_option maxRecDepth 100000 in
theorem exactSub_big (x y : Int) (p q : Bool) (A A' : Option Addr) (n c n' c' : Nat) (l l' : List Nat) (w : World) (hx : Wd w (.slice A n c) l) (hy : Wd w (.slice A' n' c') l') (hp : vld p l = true) (hq : vld q l' = true) (ex : x = numOf p l) (ey : y = numOf q l') (hfit : 256 < (dig (x - y).natAbs).length) :
    Calls Try.prog 24 #[.agg #[.bool p, .slice A n c], .agg #[.bool q, .slice A' n' c']] w fun e w' => e = .returned (.tuple #[.agg #[.bool false, .slice none 0 0], .int .i64 5]) ∧ Below w.heap.size w w' := by
  have Hxy := Lib.hid (And.intro ex ey)
  clear ex ey
  have Hx := Lib.hid hx; clear hx
  have Hy := Lib.hid hy; clear hy
  go_enter Try.func24, Try.ntmps24
  go_wp2_with fail
  have hb3 := below3 w (Obj.cells #[.bool p, .slice A n c] 24) (Obj.cells #[.bool q, .slice A' n' c'] 24) (Obj.cells #[.bool false, .slice none 0 0] 24)
  have hR3 := RB.a3 w false none 0 0 24 (Obj.cells #[.bool p, .slice A n c] 24) (Obj.cells #[.bool q, .slice A' n' c'] 24)
  refine (combineSub_big x y p q A A' n c n' c' l l' _ (Hx.out.below hb3) (Hy.out.below hb3) hp hq Hxy.out.1 Hxy.out.2 hfit).mono ?_
  rintro e w1 ⟨rfl, hb1⟩
  have hR := hR3.below hb1 (by simp <;> omega)
  obtain ⟨a0, A0, n0, c0, k10, k11, k20, k21⟩ := hR.facts
  have s0 := hR.set0 false (.slice none 0 0)
  have s1 := hR.set1 false (.slice none 0 0)
  have fin := (below_set2 (g := w.heap.size + 1 + 1) (i := 0) (j := 1) (hb3.trans (hb1.mono (by simp <;> omega))) (by omega) (.bool false) (.slice none 0 0))
  have Fin := Lib.hid fin; clear fin hR hb1 hb3 hR3
  go_wp2
  exact bodyPost_ret (v := .tuple #[.agg #[.bool false, .slice none 0 0], .int .i64 5]) (by simp [results, Try.results24, go_sem, s0, s1]) rfl ⟨rfl, Fin.out⟩

set_option maxRecDepth 100000 in
theorem exactMul_no (p q : Bool) (A A' : Option Addr) (n c n' c' : Nat) (l l' : List Nat) (w : World) (hx : Wd w (.slice A n c) l) (hy : Wd w (.slice A' n' c') l') (hno : (vld p l && vld q l') = false) :
    Calls Try.prog 26 #[.agg #[.bool p, .slice A n c], .agg #[.bool q, .slice A' n' c']] w fun e w' => e = .returned (.tuple #[.agg #[.bool false, .slice none 0 0], .int .i64 2]) ∧ Below w.heap.size w w' := by
  have Hx := Lib.hid hx; clear hx
  have Hy := Lib.hid hy; clear hy
  go_enter Try.func26, Try.ntmps26
  go_wp2_with fail
  have hb3 := below3 w (Obj.cells #[.bool p, .slice A n c] 24) (Obj.cells #[.bool q, .slice A' n' c'] 24) (Obj.cells #[.bool false, .slice none 0 0] 24)
  have hR3 := RB.a3 w false none 0 0 24 (Obj.cells #[.bool p, .slice A n c] 24) (Obj.cells #[.bool q, .slice A' n' c'] 24)
  refine (combineMul_no p q A A' n c n' c' l l' _ (Hx.out.below hb3) (Hy.out.below hb3) hno).mono ?_
  rintro e w1 ⟨rfl, hb1⟩
  have hR := hR3.below hb1 (by simp <;> omega)
  obtain ⟨a0, A0, n0, c0, k10, k11, k20, k21⟩ := hR.facts
  have s0 := hR.set0 false (.slice none 0 0)
  have s1 := hR.set1 false (.slice none 0 0)
  have fin := (below_set2 (g := w.heap.size + 1 + 1) (i := 0) (j := 1) (hb3.trans (hb1.mono (by simp <;> omega))) (by omega) (.bool false) (.slice none 0 0))
  have Fin := Lib.hid fin; clear fin hR hb1 hb3 hR3
  go_wp2
  exact bodyPost_ret (v := .tuple #[.agg #[.bool false, .slice none 0 0], .int .i64 2]) (by simp [results, Try.results26, go_sem, s0, s1]) rfl ⟨rfl, Fin.out⟩

set_option maxRecDepth 100000 in
theorem exactMul_yes (x y : Int) (p q : Bool) (A A' : Option Addr) (n c n' c' : Nat) (l l' : List Nat) (w : World) (hx : Wd w (.slice A n c) l) (hy : Wd w (.slice A' n' c') l') (hp : vld p l = true) (hq : vld q l' = true) (ex : x = numOf p l) (ey : y = numOf q l') (hfit : (dig (x * y).natAbs).length ≤ 256) :
    Calls Try.prog 26 #[.agg #[.bool p, .slice A n c], .agg #[.bool q, .slice A' n' c']] w fun e w' => ∃ b A n c, e = .returned (.tuple #[.agg #[.bool b, .slice A n c], .int .i64 0]) ∧ ZV w' (.agg #[.bool b, .slice A n c]) (x * y) ∧ Below w.heap.size w w' := by
  have Hxy := Lib.hid (And.intro ex ey)
  clear ex ey
  have Hx := Lib.hid hx; clear hx
  have Hy := Lib.hid hy; clear hy
  go_enter Try.func26, Try.ntmps26
  go_wp2_with fail
  have hb3 := below3 w (Obj.cells #[.bool p, .slice A n c] 24) (Obj.cells #[.bool q, .slice A' n' c'] 24) (Obj.cells #[.bool false, .slice none 0 0] 24)
  have hR3 := RB.a3 w false none 0 0 24 (Obj.cells #[.bool p, .slice A n c] 24) (Obj.cells #[.bool q, .slice A' n' c'] 24)
  refine (combineMul_yes x y p q A A' n c n' c' l l' _ (Hx.out.below hb3) (Hy.out.below hb3) hp hq Hxy.out.1 Hxy.out.2 hfit).mono ?_
  rintro e w1 ⟨b6, A6, n6, c6, rfl, hr6, hb1⟩
  have hR := hR3.below hb1 (by simp <;> omega)
  obtain ⟨a0, A0, n0, c0, k10, k11, k20, k21⟩ := hR.facts
  have s0 := hR.set0 b6 (.slice A6 n6 c6)
  have s1 := hR.set1 b6 (.slice A6 n6 c6)
  have fin := And.intro (hr6.rb hR (.bool b6) (.slice A6 n6 c6)) (below_set2 (g := w.heap.size + 1 + 1) (i := 0) (j := 1) (hb3.trans (hb1.mono (by simp <;> omega))) (by omega) (.bool b6) (.slice A6 n6 c6))
  have Fin := Lib.hid fin; clear fin hR hb1 hb3 hR3
  go_wp2
  exact bodyPost_ret (v := .tuple #[.agg #[.bool b6, .slice A6 n6 c6], .int .i64 0]) (by simp [results, Try.results26, go_sem, s0, s1]) rfl ⟨b6, A6, n6, c6, rfl, Fin.out.1, Fin.out.2⟩

set_option maxRecDepth 100000 in
theorem exactMul_big (x y : Int) (p q : Bool) (A A' : Option Addr) (n c n' c' : Nat) (l l' : List Nat) (w : World) (hx : Wd w (.slice A n c) l) (hy : Wd w (.slice A' n' c') l') (hp : vld p l = true) (hq : vld q l' = true) (ex : x = numOf p l) (ey : y = numOf q l') (hfit : 256 < (dig (x * y).natAbs).length) :
    Calls Try.prog 26 #[.agg #[.bool p, .slice A n c], .agg #[.bool q, .slice A' n' c']] w fun e w' => e = .returned (.tuple #[.agg #[.bool false, .slice none 0 0], .int .i64 5]) ∧ Below w.heap.size w w' := by
  have Hxy := Lib.hid (And.intro ex ey)
  clear ex ey
  have Hx := Lib.hid hx; clear hx
  have Hy := Lib.hid hy; clear hy
  go_enter Try.func26, Try.ntmps26
  go_wp2_with fail
  have hb3 := below3 w (Obj.cells #[.bool p, .slice A n c] 24) (Obj.cells #[.bool q, .slice A' n' c'] 24) (Obj.cells #[.bool false, .slice none 0 0] 24)
  have hR3 := RB.a3 w false none 0 0 24 (Obj.cells #[.bool p, .slice A n c] 24) (Obj.cells #[.bool q, .slice A' n' c'] 24)
  refine (combineMul_big x y p q A A' n c n' c' l l' _ (Hx.out.below hb3) (Hy.out.below hb3) hp hq Hxy.out.1 Hxy.out.2 hfit).mono ?_
  rintro e w1 ⟨rfl, hb1⟩
  have hR := hR3.below hb1 (by simp <;> omega)
  obtain ⟨a0, A0, n0, c0, k10, k11, k20, k21⟩ := hR.facts
  have s0 := hR.set0 false (.slice none 0 0)
  have s1 := hR.set1 false (.slice none 0 0)
  have fin := (below_set2 (g := w.heap.size + 1 + 1) (i := 0) (j := 1) (hb3.trans (hb1.mono (by simp <;> omega))) (by omega) (.bool false) (.slice none 0 0))
  have Fin := Lib.hid fin; clear fin hR hb1 hb3 hR3
  go_wp2
  exact bodyPost_ret (v := .tuple #[.agg #[.bool false, .slice none 0 0], .int .i64 5]) (by simp [results, Try.results26, go_sem, s0, s1]) rfl ⟨rfl, Fin.out⟩

end Go.Proofs.Ytmlopkkbgpfdnaa
