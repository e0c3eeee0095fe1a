/- Walks: Add, Sub, Mul. · Whole numbers at crackle: the calls of package exact with numbers that fit; crossed. · A matrix of whole numbers in memory; Bareiss as the program does it. -/
import Derived.Test.YtijhbmdbnnmogaaGreatM16
import Derived.Test.YtijhbmdbnnmogaaGreatM25
import Derived.Test.YtijhbmdbnnmogaaGreatM2
import Derived.Test.YtijhbmdbnnmogaaGreatM23
import Derived.Test.YtijhbmdbnnmogaaGreatM24
namespace Go.Proofs.YtijhbmdbnnmogaaGreat
open Go.RowKit

set_option maxRecDepth 100000 in
theorem exactSub_no (p q : Bool) (A A' : Option Addr) (n c n' c' : Nat) (l l' : List Nat) (w : World) (hx : Wd w (.slice A n c) l) (hy : Wd w (.slice A' n' c') l') (hno : (vld p l && vld q l') = false) :
    Calls Tryz.prog 174 #[.agg #[.bool p, .slice A n c], .agg #[.bool q, .slice A' n' c']] w fun e w' => e = .returned (.tuple #[.agg #[.bool false, .slice none 0 0], .int .i64 2]) ∧ Below w.heap.size w w' := by
  have Hx := Lib.hid hx; clear hx
  have Hy := Lib.hid hy; clear hy
  go_enter Tryz.func174, Tryz.ntmps174
  go_wp2_with fail
  have hb3 := below3 w (Obj.cells #[.bool p, .slice A n c] 56) (Obj.cells #[.bool q, .slice A' n' c'] 56) (Obj.cells #[.bool false, .slice none 0 0] 56)
  have hR3 := RB.a3 w false none 0 0 56 (Obj.cells #[.bool p, .slice A n c] 56) (Obj.cells #[.bool q, .slice A' n' c'] 56)
  refine (combineSub_no p q A A' n c n' c' l l' _ (Hx.out.below hb3) (Hy.out.below hb3) hno).mono ?_
  rintro e w1 ⟨rfl, hb1⟩
  have hR := hR3.below hb1 (by simp <;> omega)
  obtain ⟨a0, A0, n0, c0, k10, k11, k20, k21⟩ := hR.facts
  have s0 := hR.set0 false (.slice none 0 0)
  have s1 := hR.set1 false (.slice none 0 0)
  have fin := (below_set2 (g := w.heap.size + 1 + 1) (i := 0) (j := 1) (hb3.trans (hb1.mono (by simp <;> omega))) (by omega) (.bool false) (.slice none 0 0))
  have Fin := Lib.hid fin; clear fin hR hb1 hb3 hR3
  go_wp2
  exact bodyPost_ret (v := .tuple #[.agg #[.bool false, .slice none 0 0], .int .i64 2]) (by simp [results, Tryz.results174, go_sem, s0, s1]) rfl ⟨rfl, Fin.out⟩

set_option maxRecDepth 100000 in
theorem exactSub_yes (x y : Int) (p q : Bool) (A A' : Option Addr) (n c n' c' : Nat) (l l' : List Nat) (w : World) (hx : Wd w (.slice A n c) l) (hy : Wd w (.slice A' n' c') l') (hp : vld p l = true) (hq : vld q l' = true) (ex : x = numOf p l) (ey : y = numOf q l') (hfit : (dig (x - y).natAbs).length ≤ 256) :
    Calls Tryz.prog 174 #[.agg #[.bool p, .slice A n c], .agg #[.bool q, .slice A' n' c']] w fun e w' => ∃ b A n c, e = .returned (.tuple #[.agg #[.bool b, .slice A n c], .int .i64 0]) ∧ ZV w' (.agg #[.bool b, .slice A n c]) (x - y) ∧ Below w.heap.size w w' := by
  have Hxy := Lib.hid (And.intro ex ey)
  clear ex ey
  have Hx := Lib.hid hx; clear hx
  have Hy := Lib.hid hy; clear hy
  go_enter Tryz.func174, Tryz.ntmps174
  go_wp2_with fail
  have hb3 := below3 w (Obj.cells #[.bool p, .slice A n c] 56) (Obj.cells #[.bool q, .slice A' n' c'] 56) (Obj.cells #[.bool false, .slice none 0 0] 56)
  have hR3 := RB.a3 w false none 0 0 56 (Obj.cells #[.bool p, .slice A n c] 56) (Obj.cells #[.bool q, .slice A' n' c'] 56)
  refine (combineSub_yes x y p q A A' n c n' c' l l' _ (Hx.out.below hb3) (Hy.out.below hb3) hp hq Hxy.out.1 Hxy.out.2 hfit).mono ?_
  rintro e w1 ⟨b6, A6, n6, c6, rfl, hr6, hb1⟩
  have hR := hR3.below hb1 (by simp <;> omega)
  obtain ⟨a0, A0, n0, c0, k10, k11, k20, k21⟩ := hR.facts
  have s0 := hR.set0 b6 (.slice A6 n6 c6)
  have s1 := hR.set1 b6 (.slice A6 n6 c6)
  have fin := And.intro (hr6.rb hR (.bool b6) (.slice A6 n6 c6)) (below_set2 (g := w.heap.size + 1 + 1) (i := 0) (j := 1) (hb3.trans (hb1.mono (by simp <;> omega))) (by omega) (.bool b6) (.slice A6 n6 c6))
  have Fin := Lib.hid fin; clear fin hR hb1 hb3 hR3
  go_wp2
  exact bodyPost_ret (v := .tuple #[.agg #[.bool b6, .slice A6 n6 c6], .int .i64 0]) (by simp [results, Tryz.results174, go_sem, s0, s1]) rfl ⟨b6, A6, n6, c6, rfl, Fin.out.1, Fin.out.2⟩

set_option maxRecDepth 100000 in
theorem exactSub_big (x y : Int) (p q : Bool) (A A' : Option Addr) (n c n' c' : Nat) (l l' : List Nat) (w : World) (hx : Wd w (.slice A n c) l) (hy : Wd w (.slice A' n' c') l') (hp : vld p l = true) (hq : vld q l' = true) (ex : x = numOf p l) (ey : y = numOf q l') (hfit : 256 < (dig (x - y).natAbs).length) :
    Calls Tryz.prog 174 #[.agg #[.bool p, .slice A n c], .agg #[.bool q, .slice A' n' c']] w fun e w' => e = .returned (.tuple #[.agg #[.bool false, .slice none 0 0], .int .i64 5]) ∧ Below w.heap.size w w' := by
  have Hxy := Lib.hid (And.intro ex ey)
  clear ex ey
  have Hx := Lib.hid hx; clear hx
  have Hy := Lib.hid hy; clear hy
  go_enter Tryz.func174, Tryz.ntmps174
  go_wp2_with fail
  have hb3 := below3 w (Obj.cells #[.bool p, .slice A n c] 56) (Obj.cells #[.bool q, .slice A' n' c'] 56) (Obj.cells #[.bool false, .slice none 0 0] 56)
  have hR3 := RB.a3 w false none 0 0 56 (Obj.cells #[.bool p, .slice A n c] 56) (Obj.cells #[.bool q, .slice A' n' c'] 56)
  refine (combineSub_big x y p q A A' n c n' c' l l' _ (Hx.out.below hb3) (Hy.out.below hb3) hp hq Hxy.out.1 Hxy.out.2 hfit).mono ?_
  rintro e w1 ⟨rfl, hb1⟩
  have hR := hR3.below hb1 (by simp <;> omega)
  obtain ⟨a0, A0, n0, c0, k10, k11, k20, k21⟩ := hR.facts
  have s0 := hR.set0 false (.slice none 0 0)
  have s1 := hR.set1 false (.slice none 0 0)
  have fin := (below_set2 (g := w.heap.size + 1 + 1) (i := 0) (j := 1) (hb3.trans (hb1.mono (by simp <;> omega))) (by omega) (.bool false) (.slice none 0 0))
  have Fin := Lib.hid fin; clear fin hR hb1 hb3 hR3
  go_wp2
  exact bodyPost_ret (v := .tuple #[.agg #[.bool false, .slice none 0 0], .int .i64 5]) (by simp [results, Tryz.results174, go_sem, s0, s1]) rfl ⟨rfl, Fin.out⟩

set_option maxRecDepth 100000 in
theorem exactMul_no (p q : Bool) (A A' : Option Addr) (n c n' c' : Nat) (l l' : List Nat) (w : World) (hx : Wd w (.slice A n c) l) (hy : Wd w (.slice A' n' c') l') (hno : (vld p l && vld q l') = false) :
    Calls Tryz.prog 173 #[.agg #[.bool p, .slice A n c], .agg #[.bool q, .slice A' n' c']] w fun e w' => e = .returned (.tuple #[.agg #[.bool false, .slice none 0 0], .int .i64 2]) ∧ Below w.heap.size w w' := by
  have Hx := Lib.hid hx; clear hx
  have Hy := Lib.hid hy; clear hy
  go_enter Tryz.func173, Tryz.ntmps173
  go_wp2_with fail
  have hb3 := below3 w (Obj.cells #[.bool p, .slice A n c] 56) (Obj.cells #[.bool q, .slice A' n' c'] 56) (Obj.cells #[.bool false, .slice none 0 0] 56)
  have hR3 := RB.a3 w false none 0 0 56 (Obj.cells #[.bool p, .slice A n c] 56) (Obj.cells #[.bool q, .slice A' n' c'] 56)
  refine (combineMul_no p q A A' n c n' c' l l' _ (Hx.out.below hb3) (Hy.out.below hb3) hno).mono ?_
  rintro e w1 ⟨rfl, hb1⟩
  have hR := hR3.below hb1 (by simp <;> omega)
  obtain ⟨a0, A0, n0, c0, k10, k11, k20, k21⟩ := hR.facts
  have s0 := hR.set0 false (.slice none 0 0)
  have s1 := hR.set1 false (.slice none 0 0)
  have fin := (below_set2 (g := w.heap.size + 1 + 1) (i := 0) (j := 1) (hb3.trans (hb1.mono (by simp <;> omega))) (by omega) (.bool false) (.slice none 0 0))
  have Fin := Lib.hid fin; clear fin hR hb1 hb3 hR3
  go_wp2
  exact bodyPost_ret (v := .tuple #[.agg #[.bool false, .slice none 0 0], .int .i64 2]) (by simp [results, Tryz.results173, go_sem, s0, s1]) rfl ⟨rfl, Fin.out⟩

set_option maxRecDepth 100000 in
theorem exactMul_yes (x y : Int) (p q : Bool) (A A' : Option Addr) (n c n' c' : Nat) (l l' : List Nat) (w : World) (hx : Wd w (.slice A n c) l) (hy : Wd w (.slice A' n' c') l') (hp : vld p l = true) (hq : vld q l' = true) (ex : x = numOf p l) (ey : y = numOf q l') (hfit : (dig (x * y).natAbs).length ≤ 256) :
    Calls Tryz.prog 173 #[.agg #[.bool p, .slice A n c], .agg #[.bool q, .slice A' n' c']] w fun e w' => ∃ b A n c, e = .returned (.tuple #[.agg #[.bool b, .slice A n c], .int .i64 0]) ∧ ZV w' (.agg #[.bool b, .slice A n c]) (x * y) ∧ Below w.heap.size w w' := by
  have Hxy := Lib.hid (And.intro ex ey)
  clear ex ey
  have Hx := Lib.hid hx; clear hx
  have Hy := Lib.hid hy; clear hy
  go_enter Tryz.func173, Tryz.ntmps173
  go_wp2_with fail
  have hb3 := below3 w (Obj.cells #[.bool p, .slice A n c] 56) (Obj.cells #[.bool q, .slice A' n' c'] 56) (Obj.cells #[.bool false, .slice none 0 0] 56)
  have hR3 := RB.a3 w false none 0 0 56 (Obj.cells #[.bool p, .slice A n c] 56) (Obj.cells #[.bool q, .slice A' n' c'] 56)
  refine (combineMul_yes x y p q A A' n c n' c' l l' _ (Hx.out.below hb3) (Hy.out.below hb3) hp hq Hxy.out.1 Hxy.out.2 hfit).mono ?_
  rintro e w1 ⟨b6, A6, n6, c6, rfl, hr6, hb1⟩
  have hR := hR3.below hb1 (by simp <;> omega)
  obtain ⟨a0, A0, n0, c0, k10, k11, k20, k21⟩ := hR.facts
  have s0 := hR.set0 b6 (.slice A6 n6 c6)
  have s1 := hR.set1 b6 (.slice A6 n6 c6)
  have fin := And.intro (hr6.rb hR (.bool b6) (.slice A6 n6 c6)) (below_set2 (g := w.heap.size + 1 + 1) (i := 0) (j := 1) (hb3.trans (hb1.mono (by simp <;> omega))) (by omega) (.bool b6) (.slice A6 n6 c6))
  have Fin := Lib.hid fin; clear fin hR hb1 hb3 hR3
  go_wp2
  exact bodyPost_ret (v := .tuple #[.agg #[.bool b6, .slice A6 n6 c6], .int .i64 0]) (by simp [results, Tryz.results173, go_sem, s0, s1]) rfl ⟨b6, A6, n6, c6, rfl, Fin.out.1, Fin.out.2⟩

set_option maxRecDepth 100000 in
theorem exactMul_big (x y : Int) (p q : Bool) (A A' : Option Addr) (n c n' c' : Nat) (l l' : List Nat) (w : World) (hx : Wd w (.slice A n c) l) (hy : Wd w (.slice A' n' c') l') (hp : vld p l = true) (hq : vld q l' = true) (ex : x = numOf p l) (ey : y = numOf q l') (hfit : 256 < (dig (x * y).natAbs).length) :
    Calls Tryz.prog 173 #[.agg #[.bool p, .slice A n c], .agg #[.bool q, .slice A' n' c']] w fun e w' => e = .returned (.tuple #[.agg #[.bool false, .slice none 0 0], .int .i64 5]) ∧ Below w.heap.size w w' := by
  have Hxy := Lib.hid (And.intro ex ey)
  clear ex ey
  have Hx := Lib.hid hx; clear hx
  have Hy := Lib.hid hy; clear hy
  go_enter Tryz.func173, Tryz.ntmps173
  go_wp2_with fail
  have hb3 := below3 w (Obj.cells #[.bool p, .slice A n c] 56) (Obj.cells #[.bool q, .slice A' n' c'] 56) (Obj.cells #[.bool false, .slice none 0 0] 56)
  have hR3 := RB.a3 w false none 0 0 56 (Obj.cells #[.bool p, .slice A n c] 56) (Obj.cells #[.bool q, .slice A' n' c'] 56)
  refine (combineMul_big x y p q A A' n c n' c' l l' _ (Hx.out.below hb3) (Hy.out.below hb3) hp hq Hxy.out.1 Hxy.out.2 hfit).mono ?_
  rintro e w1 ⟨rfl, hb1⟩
  have hR := hR3.below hb1 (by simp <;> omega)
  obtain ⟨a0, A0, n0, c0, k10, k11, k20, k21⟩ := hR.facts
  have s0 := hR.set0 false (.slice none 0 0)
  have s1 := hR.set1 false (.slice none 0 0)
  have fin := (below_set2 (g := w.heap.size + 1 + 1) (i := 0) (j := 1) (hb3.trans (hb1.mono (by simp <;> omega))) (by omega) (.bool false) (.slice none 0 0))
  have Fin := Lib.hid fin; clear fin hR hb1 hb3 hR3
  go_wp2
  exact bodyPost_ret (v := .tuple #[.agg #[.bool false, .slice none 0 0], .int .i64 5]) (by simp [results, Tryz.results173, go_sem, s0, s1]) rfl ⟨rfl, Fin.out⟩

end Go.Proofs.YtijhbmdbnnmogaaGreat
namespace Go.Proofs.YtijhbmdbnnmogaaGreat.G
open Go.RowKit

theorem num_of (z : Int) : numOf (decide (z < 0)) (dig z.natAbs) = z := by
  unfold numOf
  rw [val_dig]
  by_cases h : z < 0
  · simp [h]; omega
  · simp [h]; omega
theorem vld_of {z : Int} (h : (dig z.natAbs).length ≤ 256) : vld (decide (z < 0)) (dig z.natAbs) = true := by
  unfold vld
  split
  · rename_i h0
    have : ¬ 0 < z.natAbs := fun hp => by have := dig_len_pos.2 hp; omega
    simp; omega
  · rename_i h0
    have hn := norm_dig z.natAbs
    unfold Norm at hn
    rw [List.getLast?_eq_getElem?] at hn
    have hlt : (dig z.natAbs).length - 1 < (dig z.natAbs).length := by omega
    rw [List.getElem?_eq_getElem hlt] at hn
    have : (dig z.natAbs).getD ((dig z.natAbs).length - 1) 0 ≠ 0 := by
      rw [List.getD_eq_getElem?_getD, List.getElem?_eq_getElem hlt]
      simpa using hn
    simp only [decide_eq_true h, Bool.true_and, decide_eq_false this, Bool.not_false]
/-- z has no more than 256 words -/
def Fz (z : Int) : Prop := (dig z.natAbs).length ≤ 256
/-- z lies at v, with its words -/
def Zv (w : World) (b : Bool) (A : Option Addr) (n c : Nat) (z : Int) : Prop := ZV w (.agg #[.bool b, .slice A n c]) z
theorem Zv.ext {w w' : World} {b : Bool} {A : Option Addr} {n c : Nat} {z : Int} (h : Zv w b A n c z) (e : Ext w w') : Zv w' b A n c z := ZV.below h e
theorem Zv.parts {w : World} {b : Bool} {A : Option Addr} {n c : Nat} {z : Int} (h : Zv w b A n c z) : b = decide (z < 0) ∧ Wd w (.slice A n c) (dig z.natAbs) := by
  obtain ⟨v, e, hv⟩ := h
  injection e with e
  have e1 : #[Value.bool b, Value.slice A n c] = #[Value.bool (decide (z < 0)), v] := e
  simp at e1
  exact ⟨e1.1, by rw [e1.2]; exact hv⟩
theorem zmul_any {w : World} {p q : Bool} {A A' : Option Addr} {n c n' c' : Nat} {x y : Int} (hx : Zv w p A n c x) (hy : Zv w q A' n' c' y) (fx : Fz x) (fy : Fz y) (fxy : Fz (x * y)) :
    Calls Tryz.prog 173 #[.agg #[.bool p, .slice A n c], .agg #[.bool q, .slice A' n' c']] w fun e w' => ∃ b A n c, e = .returned (.tuple #[.agg #[.bool b, .slice A n c], .int .i64 0]) ∧ Zv w' b A n c (x * y) ∧ Ext w w' := by
  obtain ⟨rfl, hx'⟩ := hx.parts
  obtain ⟨rfl, hy'⟩ := hy.parts
  exact exactMul_yes x y _ _ A A' n c n' c' _ _ w hx' hy' (vld_of fx) (vld_of fy) (num_of x).symm (num_of y).symm fxy
theorem zsub_any {w : World} {p q : Bool} {A A' : Option Addr} {n c n' c' : Nat} {x y : Int} (hx : Zv w p A n c x) (hy : Zv w q A' n' c' y) (fx : Fz x) (fy : Fz y) (fxy : Fz (x - y)) :
    Calls Tryz.prog 174 #[.agg #[.bool p, .slice A n c], .agg #[.bool q, .slice A' n' c']] w fun e w' => ∃ b A n c, e = .returned (.tuple #[.agg #[.bool b, .slice A n c], .int .i64 0]) ∧ Zv w' b A n c (x - y) ∧ Ext w w' := by
  obtain ⟨rfl, hx'⟩ := hx.parts
  obtain ⟨rfl, hy'⟩ := hy.parts
  exact exactSub_yes x y _ _ A A' n c n' c' _ _ w hx' hy' (vld_of fx) (vld_of fy) (num_of x).symm (num_of y).symm fxy
theorem zdiv_any {w : World} {p q : Bool} {A A' : Option Addr} {n c n' c' : Nat} {x y : Int} (hx : Zv w p A n c x) (hy : Zv w q A' n' c' y) (fx : Fz x) (fy : Fz y) (hy0 : y ≠ 0) :
    Calls Tryz.prog 175 #[.agg #[.bool p, .slice A n c], .agg #[.bool q, .slice A' n' c']] w fun e w' => ∃ b A n c b' A' n' c', e = .returned (.tuple #[.agg #[.bool b, .slice A n c], .agg #[.bool b', .slice A' n' c'], .int .i64 0]) ∧ Zv w' b A n c (x / y) ∧ Ext w w' := by
  obtain ⟨rfl, hx'⟩ := hx.parts
  obtain ⟨rfl, hy'⟩ := hy.parts
  refine (exactDiv_yes _ _ A A' n c n' c' _ _ w hx' hy' (vld_of fx) (vld_of fy) (by rw [num_of]; exact hy0)).mono ?_
  rintro e w' ⟨b, A1, n1, c1, b', A2, n2, c2, rfl, h1, -, h3⟩
  rw [num_of, num_of] at h1
  exact ⟨b, A1, n1, c1, b', A2, n2, c2, rfl, h1, h3⟩
theorem zfrom_any (z : Int) (w : World) (h1 : -9223372036854775808 ≤ z) (h2 : z ≤ 9223372036854775807) :
    Calls Tryz.prog 56 #[.int .i64 z] w fun e w' => ∃ b A n c, e = .returned (.agg #[.bool b, .slice A n c]) ∧ Zv w' b A n c z ∧ Ext w w' := by
  refine (fromInt_any z w h1 h2).mono ?_
  rintro e w' ⟨r, rfl, hz, hb⟩
  obtain ⟨A, n, c, rfl, -⟩ := hz.open_
  exact ⟨_, A, n, c, rfl, hz, hb⟩
theorem ztoInt_any {w : World} {p : Bool} {A : Option Addr} {n c m : Nat} (hx : Zv w p A n c (m : Int)) (fx : Fz (m : Int)) (hm : m ≤ 9223372036854775807) :
    Calls Tryz.prog 57 #[.agg #[.bool p, .slice A n c]] w fun e w' => e = .returned (.tuple #[.int .i64 (m : Int), .int .i64 0]) ∧ Ext w w' := by
  obtain ⟨rfl, hx'⟩ := hx.parts
  exact toInt_pos (m : Int) _ A n c _ w hx' (vld_of fx) (num_of _).symm m (by simp) rfl hm

theorem kp {w : World} {b : Nat} {x : Obj} (h : w.heap[b]? = some x) (o : Obj) : (w.alloc o).heap[b]? = some x := (Below.heap_alloc w o b (Array.getElem?_eq_some_iff.1 h).1).trans h
theorem kn (w : World) (k : Nat) (cs : Array Value) (t : TypeId) (hk : w.heap.size = k) : (w.alloc (.cells cs t)).heap[k]? = some (.cells cs t (0, 0)) := by subst hk; exact heap_alloc_new w _
theorem six_blocks (W : World) (c0 c1 c2 c3 c4 c5 : Array Value) (t : TypeId) : ∃ X, X = ((((((W.alloc (.cells c0 t)).alloc (.cells c1 t)).alloc (.cells c2 t)).alloc (.cells c3 t)).alloc (.cells c4 t)).alloc (.cells c5 t)) ∧
    X.heap[W.heap.size]? = some (.cells c0 t (0, 0)) ∧ X.heap[W.heap.size + 1]? = some (.cells c1 t (0, 0)) ∧ X.heap[W.heap.size + 1 + 1]? = some (.cells c2 t (0, 0)) ∧ X.heap[W.heap.size + 1 + 1 + 1]? = some (.cells c3 t (0, 0)) ∧
    X.heap[W.heap.size + 1 + 1 + 1 + 1]? = some (.cells c4 t (0, 0)) ∧ X.heap[W.heap.size + 1 + 1 + 1 + 1 + 1]? = some (.cells c5 t (0, 0)) ∧ X.heap.size = W.heap.size + 1 + 1 + 1 + 1 + 1 + 1 ∧ Ext W X := by
  refine ⟨_, rfl, kp (kp (kp (kp (kp (kn W _ _ _ rfl) _) _) _) _) _, kp (kp (kp (kp (kn _ _ _ _ (by simp)) _) _) _) _, kp (kp (kp (kn _ _ _ _ (by simp)) _) _) _, kp (kp (kn _ _ _ _ (by simp)) _) _, kp (kn _ _ _ _ (by simp)) _, kn _ _ _ _ (by simp), by simp, al (al5 W _ _ _ _ _) _⟩

set_option maxHeartbeats 4000000 in
set_option maxRecDepth 100000 in
/-- (a b - c d) / t -/
theorem crossed_any (a b c d t : Int) (pa pb pc pd pt_ : Bool) (Aa Ab Ac Ad At : Option Addr) (na nb nc nd nt ca cb cc cd ct : Nat) (W : World)
    (ha : Zv W pa Aa na ca a) (hb : Zv W pb Ab nb cb b) (hc : Zv W pc Ac nc cc c) (hd : Zv W pd Ad nd cd d) (ht : Zv W pt_ At nt ct t)
    (fa : Fz a) (fb : Fz b) (fc : Fz c) (fd : Fz d) (ft : Fz t) (fab : Fz (a * b)) (fcd : Fz (c * d)) (fs : Fz (a * b - c * d)) (ht0 : t ≠ 0) :
    Calls Tryz.prog 124 #[.agg #[.bool pa, .slice Aa na ca], .agg #[.bool pb, .slice Ab nb cb], .agg #[.bool pc, .slice Ac nc cc], .agg #[.bool pd, .slice Ad nd cd], .agg #[.bool pt_, .slice At nt ct]] W
      fun e W' => ∃ b' A' n' c', e = .returned (.agg #[.bool b', .slice A' n' c']) ∧ Zv W' b' A' n' c' ((a * b - c * d) / t) ∧ Ext W W' := by
  have HA := Lib.hid ha; have HB := Lib.hid hb; have HC := Lib.hid hc; have HD := Lib.hid hd; have HT := Lib.hid ht
  have HF := Lib.hid (And.intro fa (And.intro fb (And.intro fc (And.intro fd (And.intro ft (And.intro fab (And.intro fcd (And.intro fs ht0))))))))
  clear ha hb hc hd ht fa fb fc fd ft fab fcd fs ht0
  go_enter Tryz.func124, Tryz.ntmps124
  go_upto_region 1 with fail
  obtain ⟨X, hX, h0, h1, h2, h3, h4, h5, hz, he⟩ := six_blocks W #[.bool pa, .slice Aa na ca] #[.bool pb, .slice Ab nb cb] #[.bool pc, .slice Ac nc cc] #[.bool pd, .slice Ad nd cd] #[.bool pt_, .slice At nt ct] #[.bool false, .slice none 0 0] 56
  rw [← hX]
  have HE := Lib.hid he
  have HH := Lib.hid (And.intro h0 (And.intro h1 (And.intro h2 (And.intro h3 (And.intro h4 (And.intro h5 hz))))))
  obtain ⟨a0, a1, -, -⟩ := two h0
  obtain ⟨b0, b1, -, -⟩ := two h1
  clear hX h0 h1 h2 h3 h4 h5 hz he
  go_wp2_with fail
  refine (zmul_any (HA.out.ext HE.out) (HB.out.ext HE.out) HF.out.1 HF.out.2.1 HF.out.2.2.2.2.2.1).mono ?_
  rintro e w1 ⟨p1, A1, n1, c1, rfl, hz1, hx1⟩
  clear a0 a1 b0 b1
  go_upto_region 2 with fail
  have r1 := kn w1 _ #[.bool p1, .slice A1 n1 c1] 56 rfl
  have e1 : Ext X (w1.alloc (.cells #[.bool p1, .slice A1 n1 c1] 56)) := hx1.alc _
  have z1 := hz1.ext (Ext.alc (Ext.refl w1) (.cells #[.bool p1, .slice A1 n1 c1] 56))
  obtain ⟨g1, hg1⟩ : ∃ g, g = w1.heap.size := ⟨_, rfl⟩
  rw [← hg1] at r1 ⊢
  have hg1X : X.heap.size ≤ g1 := by rw [hg1]; exact hx1.size
  generalize w1.alloc (.cells #[.bool p1, .slice A1 n1 c1] 56) = v1 at *
  have HR1 := Lib.hid (And.intro r1 z1)
  have HE1 := Lib.hid e1
  have hl1 : g1 < v1.heap.size := (two r1).2.2.2
  obtain ⟨a0, a1, -, -⟩ := two ((Below.block e1 (W.heap.size + 1 + 1) (by have := HH.out.2.2.2.2.2.2; omega)).trans HH.out.2.2.1)
  obtain ⟨b0, b1, -, -⟩ := two ((Below.block e1 (W.heap.size + 1 + 1 + 1) (by have := HH.out.2.2.2.2.2.2; omega)).trans HH.out.2.2.2.1)
  clear r1 e1 z1 hg1 hx1 hz1
  go_wp2_with fail
  refine (zmul_any (HC.out.ext (HE.out.trans HE1.out)) (HD.out.ext (HE.out.trans HE1.out)) HF.out.2.2.1 HF.out.2.2.2.1 HF.out.2.2.2.2.2.2.1).mono ?_
  rintro e w2 ⟨p2, A2, n2, c2, rfl, hz2, hx2⟩
  clear a0 a1 b0 b1
  go_upto_region 3 with fail
  have r2 := kn w2 _ #[.bool p2, .slice A2 n2 c2] 56 rfl
  have e2 : Ext v1 (w2.alloc (.cells #[.bool p2, .slice A2 n2 c2] 56)) := hx2.alc _
  have z2 := hz2.ext (Ext.alc (Ext.refl w2) (.cells #[.bool p2, .slice A2 n2 c2] 56))
  obtain ⟨g2, hg2⟩ : ∃ g, g = w2.heap.size := ⟨_, rfl⟩
  rw [← hg2] at r2 ⊢
  generalize w2.alloc (.cells #[.bool p2, .slice A2 n2 c2] 56) = v2 at *
  have HR2 := Lib.hid (And.intro r2 z2)
  have HE2 := Lib.hid e2
  have r1' := (Below.block e2 g1 hl1).trans HR1.out.1
  obtain ⟨a0, a1, -, -⟩ := two r1'
  obtain ⟨b0, b1, -, -⟩ := two r2
  clear r2 e2 z2 hg2 hx2 hz2 r1'
  go_wp2_with fail
  refine (zsub_any (HR1.out.2.ext HE2.out) HR2.out.2 HF.out.2.2.2.2.2.1 HF.out.2.2.2.2.2.2.1 HF.out.2.2.2.2.2.2.2.1).mono ?_
  rintro e w3 ⟨p3, A3, n3, c3, rfl, hz3, hx3⟩
  clear a0 a1 b0 b1
  go_upto_region 4 with fail
  have r3 := kn w3 _ #[.bool p3, .slice A3 n3 c3] 56 rfl
  have e3 : Ext v2 (w3.alloc (.cells #[.bool p3, .slice A3 n3 c3] 56)) := hx3.alc _
  have z3 := hz3.ext (Ext.alc (Ext.refl w3) (.cells #[.bool p3, .slice A3 n3 c3] 56))
  obtain ⟨g3, hg3⟩ : ∃ g, g = w3.heap.size := ⟨_, rfl⟩
  rw [← hg3] at r3 ⊢
  generalize w3.alloc (.cells #[.bool p3, .slice A3 n3 c3] 56) = v3 at *
  have HR3 := Lib.hid (And.intro r3 z3)
  have HE3 : Hid (Ext X v3) := Lib.hid (HE1.out.trans (HE2.out.trans e3))
  obtain ⟨a0, a1, -, -⟩ := two r3
  obtain ⟨b0, b1, -, -⟩ := two ((Below.block HE3.out (W.heap.size + 1 + 1 + 1 + 1) (by have := HH.out.2.2.2.2.2.2; omega)).trans HH.out.2.2.2.2.1)
  clear r3 e3 z3 hg3 hx3 hz3
  go_wp2_with fail
  refine (zdiv_any HR3.out.2 (HT.out.ext (HE.out.trans HE3.out)) HF.out.2.2.2.2.2.2.2.1 HF.out.2.2.2.2.1 HF.out.2.2.2.2.2.2.2.2).mono ?_
  rintro e w4 ⟨p4, A4, n4, c4, p5, A5, n5, c5, rfl, hz4, hx4⟩
  clear a0 a1 b0 b1
  go_upto_region 5 with fail
  have e4 : Ext v3 ((w4.alloc (.cells #[.bool p4, .slice A4 n4 c4] 56)).alloc (.cells #[.bool p5, .slice A5 n5 c5] 56)) := (hx4.alc _).alc _
  have r4 := kp (kn w4 _ #[.bool p4, .slice A4 n4 c4] 56 rfl) (.cells #[.bool p5, .slice A5 n5 c5] 56)
  have z4 := hz4.ext (((Ext.refl w4).alc (.cells #[.bool p4, .slice A4 n4 c4] 56)).alc (.cells #[.bool p5, .slice A5 n5 c5] 56))
  obtain ⟨g4, hg4⟩ : ∃ g, g = w4.heap.size := ⟨_, rfl⟩
  rw [← hg4] at r4 ⊢
  generalize (w4.alloc (.cells #[.bool p4, .slice A4 n4 c4] 56)).alloc (.cells #[.bool p5, .slice A5 n5 c5] 56) = v4 at *
  have HE4 : Hid (Ext X v4) := Lib.hid (HE3.out.trans e4)
  have rr := (Below.block HE4.out (W.heap.size + 1 + 1 + 1 + 1 + 1) (by have := HH.out.2.2.2.2.2.2; omega)).trans HH.out.2.2.2.2.2.1
  obtain ⟨a0, a1, -, -⟩ := two r4
  obtain ⟨b0, b1, b2, -⟩ := two rr
  obtain ⟨s0, s1, -, -⟩ := two (set2 rr (.bool p4) (.slice A4 n4 c4))
  have FZ : Zv ((v4.setCell ⟨W.heap.size + 1 + 1 + 1 + 1 + 1, 0, none⟩ (.bool p4)).setCell ⟨W.heap.size + 1 + 1 + 1 + 1 + 1, 1, none⟩ (.slice A4 n4 c4)) p4 A4 n4 c4 ((a * b - c * d) / t) :=
    ZV.rb z4 ⟨false, none, 0, 0, 56, rr⟩ (.bool p4) (.slice A4 n4 c4)
  have FE : Ext W ((v4.setCell ⟨W.heap.size + 1 + 1 + 1 + 1 + 1, 0, none⟩ (.bool p4)).setCell ⟨W.heap.size + 1 + 1 + 1 + 1 + 1, 1, none⟩ (.slice A4 n4 c4)) := ((HE.out.trans HE4.out).sc (by omega)).sc (by omega)
  have FF := Lib.hid (And.intro FZ FE)
  clear r4 e4 z4 hg4 hx4 hz4 rr FZ FE
  go_wp2
  exact bodyPost_ret (v := .agg #[.bool p4, .slice A4 n4 c4]) (by simp [results, Tryz.results124, go_sem, s0, s1]) rfl ⟨p4, A4, n4, c4, rfl, FF.out.1, FF.out.2⟩
end Go.Proofs.YtijhbmdbnnmogaaGreat.G
namespace Go.Proofs.YtijhbmdbnnmogaaGreat.G
open Go.RowKit

theorem Wd.st {w : World} {v u0 : Value} {l : List Nat} {p : Addr} (h : Wd w v l) (h0 : w.cell? p = some u0) (hn : ∀ k z, u0 ≠ .int k z) (u : Value) : Wd (w.setCell p u) v l := by
  obtain ⟨A, c, rfl, h1, h2, h3, h4⟩ := h
  refine ⟨A, c, rfl, h1, h2, h3, fun hp => ?_⟩
  obtain ⟨b, off, rfl, hb, hc⟩ := h4 hp
  refine ⟨b, off, rfl, by simpa [World.setCell] using hb, fun j hj => ?_⟩
  refine (World.cell?_setCell_other _ _ _ _ ?_).trans (hc j hj)
  · rintro rfl
    have := hc j hj
    rw [h0] at this
    injection this with this
    exact hn _ _ this
theorem oth {w : World} {g o g' o' : Nat} {v : Value} (h : g ≠ g' ∨ o ≠ o') : (w.setCell ⟨g, o, none⟩ v).cell? ⟨g', o', none⟩ = w.cell? ⟨g', o', none⟩ :=
  World.cell?_setCell_other _ _ _ _ (by
    intro e; injection e with e1 e2
    rcases h with h | h
    · exact h e1
    · exact h e2)
theorem oth2 {w : World} {g o g' o' : Nat} {u v x : Value} (h : g ≠ g' ∨ (o ≠ o' ∧ o + 1 ≠ o')) (hx : w.cell? ⟨g', o', none⟩ = some x) : ((w.setCell ⟨g, o, none⟩ u).setCell ⟨g, o + 1, none⟩ v).cell? ⟨g', o', none⟩ = some x :=
  ((oth (h.imp id (·.2))).trans (oth (h.imp id (·.1)))).trans hx
theorem Zv.st2 {w : World} {b p0 p1 : Bool} {A A0 A1 : Option Addr} {n c n0 c0 n1 c1 g o : Nat} {z : Int} (h : Zv w b A n c z) (h0 : w.cell? ⟨g, o, none⟩ = some (.bool p0)) (h1 : w.cell? ⟨g, o + 1, none⟩ = some (.slice A0 n0 c0)) :
    Zv ((w.setCell ⟨g, o, none⟩ (.bool p1)).setCell ⟨g, o + 1, none⟩ (.slice A1 n1 c1)) b A n c z := by
  obtain ⟨v, e, hv⟩ := h
  refine ⟨v, e, Wd.st (Wd.st hv h0 (fun _ _ e => by cases e) _) (u0 := .slice A0 n0 c0) ?_ (fun _ _ e => by cases e) _⟩
  exact (oth (.inr (by omega))).trans h1

/-- the N rows of the matrix M: the slices at block tb, row i at block gb i -/
structure Zg (W : World) (tb tf N : Nat) (gb cp : Nat → Nat) (M : Nat → Nat → Int) : Prop where
  top : ∀ i, i < N → W.cell? ⟨tb, tf + i, none⟩ = some (.slice (some ⟨gb i, 0, none⟩) N (cp i))
  cap : ∀ i, i < N → N ≤ cp i ∧ cp i ≤ 9223372036854775807
  el : ∀ i j, i < N → j < N → ∃ p A n c, W.cell? ⟨gb i, j * 2, none⟩ = some (.bool p) ∧ W.cell? ⟨gb i, j * 2 + 1, none⟩ = some (.slice A n c) ∧ Zv W p A n c (M i j)
  free : ∀ i o, i < N → W.frozen? ⟨gb i, o, none⟩ = false
  inj : ∀ i i', i < N → i' < N → gb i = gb i' → i = i'
  ne : ∀ i, i < N → gb i ≠ tb
  lt : ∀ i, i < N → gb i < W.heap.size
  tl : 0 < N → tb < W.heap.size
section
variable {w w' : World} {tb tf N : Nat} {gb cp : Nat → Nat} {M : Nat → Nat → Int}
theorem Zg.ext (h : Zg w tb tf N gb cp M) (e : Ext w w') : Zg w' tb tf N gb cp M :=
  ⟨fun i hi => keepAt e (h.tl (by omega)) (h.top i hi), h.cap, fun i j hi hj => by
    obtain ⟨p, A, n, c, h1, h2, h3⟩ := h.el i j hi hj
    exact ⟨p, A, n, c, keepAt e (h.lt i hi) h1, keepAt e (h.lt i hi) h2, h3.ext e⟩, fun i o hi => ((bcell e).2 _ _ (h.lt i hi)).trans (h.free i o hi), h.inj, h.ne, fun i hi => Nat.lt_of_lt_of_le (h.lt i hi) e.size, fun hn => Nat.lt_of_lt_of_le (h.tl hn) e.size⟩
theorem Zg.congr {M' : Nat → Nat → Int} (h : Zg w tb tf N gb cp M) (e : ∀ i j, i < N → j < N → M i j = M' i j) : Zg w tb tf N gb cp M' :=
  ⟨h.top, h.cap, fun i j hi hj => by rw [← e i j hi hj]; exact h.el i j hi hj, h.free, h.inj, h.ne, h.lt, h.tl⟩
/-- an element is written -/
theorem Zg.set_ (h : Zg w tb tf N gb cp M) {i j : Nat} (hi : i < N) (hj : j < N) {p : Bool} {A : Option Addr} {n c : Nat} {z : Int} (hz : Zv w p A n c z) :
    Zg ((w.setCell ⟨gb i, j * 2, none⟩ (.bool p)).setCell ⟨gb i, j * 2 + 1, none⟩ (.slice A n c)) tb tf N gb cp (fun i' j' => if i' = i ∧ j' = j then z else M i' j') := by
  obtain ⟨p0, A0, n0, c0, g1, g2, g3⟩ := h.el i j hi hj
  refine ⟨fun k hk => ?_, h.cap, fun i' j' hi' hj' => ?_, fun k o hk => by rw [World.frozen?_setCell, World.frozen?_setCell]; exact h.free k o hk, h.inj, h.ne, fun k hk => by simpa [World.setCell] using h.lt k hk, fun hn => by simpa [World.setCell] using h.tl hn⟩
  · exact oth2 (.inl (h.ne i hi)) (h.top k hk)
  · by_cases e : i' = i ∧ j' = j
    · obtain ⟨rfl, rfl⟩ := e
      refine ⟨p, A, n, c, ?_, ?_, by rw [if_pos ⟨rfl, rfl⟩]; exact hz.st2 g1 g2⟩
      · exact (oth (.inr (by omega))).trans (World.cell?_setCell_same _ _ _ g1)
      · exact World.cell?_setCell_same _ _ _ (u := .slice A0 n0 c0) ((oth (.inr (by omega))).trans g2)
    · rw [if_neg e]
      obtain ⟨p2, A2, n2, c2, k1, k2, k3⟩ := h.el i' j' hi' hj'
      have hne : ∀ o, o = j' * 2 ∨ o = j' * 2 + 1 → gb i ≠ gb i' ∨ (j * 2 ≠ o ∧ j * 2 + 1 ≠ o) := fun o ho => by
        by_cases e2 : gb i = gb i'
        · have := h.inj i i' hi hi' e2
          right
          have : j' ≠ j := fun c => e ⟨this.symm, c⟩
          omega
        · exact .inl e2
      exact ⟨p2, A2, n2, c2, oth2 (hne _ (.inl rfl)) k1, oth2 (hne _ (.inr rfl)) k2, k3.st2 g1 g2⟩
/-- another number is written, in a block apart -/
theorem Zg.far2 (h : Zg w tb tf N gb cp M) {g : Nat} (hg : ∀ i, i < N → gb i ≠ g) (ht : tb ≠ g) {p p0 : Bool} {A A0 : Option Addr} {n c n0 c0 : Nat} (g1 : w.cell? ⟨g, 0, none⟩ = some (.bool p0)) (g2 : w.cell? ⟨g, 1, none⟩ = some (.slice A0 n0 c0)) :
    Zg ((w.setCell ⟨g, 0, none⟩ (.bool p)).setCell ⟨g, 1, none⟩ (.slice A n c)) tb tf N gb cp M := by
  refine ⟨fun k hk => ?_, h.cap, fun i' j' hi' hj' => ?_, fun k o hk => by rw [World.frozen?_setCell, World.frozen?_setCell]; exact h.free k o hk, h.inj, h.ne, fun k hk => by simpa [World.setCell] using h.lt k hk, fun hn => by simpa [World.setCell] using h.tl hn⟩
  · exact oth2 (g := g) (o := 0) (.inl ht.symm) (h.top k hk)
  · obtain ⟨p2, A2, n2, c2, k1, k2, k3⟩ := h.el i' j' hi' hj'
    exact ⟨p2, A2, n2, c2, oth2 (g := g) (o := 0) (.inl (hg i' hi').symm) k1, oth2 (g := g) (o := 0) (.inl (hg i' hi').symm) k2, Zv.st2 (g := g) (o := 0) k3 g1 g2⟩
end

/-- a number in a block of its own -/
def Bx (W : World) (g : Nat) (z : Int) : Prop := ∃ p A n c, W.heap[g]? = some (.cells #[.bool p, .slice A n c] 56 (0, 0)) ∧ Zv W p A n c z
theorem Bx.lt {w : World} {g : Nat} {z : Int} (h : Bx w g z) : g < w.heap.size := by
  obtain ⟨p, A, n, c, h1, -⟩ := h
  exact (two h1).2.2.2
theorem Bx.ext {w w' : World} {g : Nat} {z : Int} (h : Bx w g z) (e : Ext w w') : Bx w' g z := by
  have hl := h.lt
  obtain ⟨p, A, n, c, h1, h2⟩ := h
  exact ⟨p, A, n, c, (Below.block e g hl).trans h1, h2.ext e⟩
/-- a number is written elsewhere -/
theorem Bx.st2 {w : World} {b o g n0 c0 n1 c1 : Nat} {z : Int} {p0 p1 : Bool} {A0 A1 : Option Addr} (h : Bx w b z) (hne : b ≠ g) (h0 : w.cell? ⟨g, o, none⟩ = some (.bool p0)) (h1 : w.cell? ⟨g, o + 1, none⟩ = some (.slice A0 n0 c0)) :
    Bx ((w.setCell ⟨g, o, none⟩ (.bool p1)).setCell ⟨g, o + 1, none⟩ (.slice A1 n1 c1)) b z := by
  obtain ⟨p, A, n, c, g1, g2⟩ := h
  exact ⟨p, A, n, c, (Below.heap_setCell _ _ _ b (by exact hne)).trans ((Below.heap_setCell w _ _ b (by exact hne)).trans g1), g2.st2 h0 h1⟩
/-- a number is written into the block -/
theorem Bx.put {w : World} {g n c : Nat} {z z' : Int} {p : Bool} {A : Option Addr} (h : Bx w g z') (hz : Zv w p A n c z) :
    Bx ((w.setCell ⟨g, 0, none⟩ (.bool p)).setCell ⟨g, 1, none⟩ (.slice A n c)) g z := by
  obtain ⟨p', A', n', c', g1, g2⟩ := h
  obtain ⟨a0, a1, -, -⟩ := two g1
  exact ⟨p, A, n, c, set2 g1 _ _, Zv.st2 (g := g) (o := 0) hz a0 a1⟩

/-- the pivot before step k -/
def lst (B : Nat → Nat → Int) (k : Nat) : Int := if k = 0 then 1 else B (k - 1) (k - 1)
/-- the matrix after k steps of Bareiss -/
def bz (M : Nat → Nat → Int) : Nat → Nat → Nat → Int
  | 0 => M
  | k + 1 => fun i j => if k < i ∧ k < j then (bz M k i j * bz M k k k - bz M k k j * bz M k i k) / lst (bz M k) k else bz M k i j
theorem bz_in {M : Nat → Nat → Int} {k i j : Nat} (h1 : k < i) (h2 : k < j) : bz M (k + 1) i j = (bz M k i j * bz M k k k - bz M k k j * bz M k i k) / lst (bz M k) k := by
  show (if k < i ∧ k < j then _ else _) = _
  rw [if_pos ⟨h1, h2⟩]
theorem bz_out {M : Nat → Nat → Int} {k i j : Nat} (h : ¬ (k < i ∧ k < j)) : bz M (k + 1) i j = bz M k i j := by
  show (if k < i ∧ k < j then _ else _) = _
  rw [if_neg h]
/-- on the way in step k: rows below r are done, of row r the columns below c -/
def bm (M : Nat → Nat → Int) (k r c i j : Nat) : Int := if i < r ∨ (i = r ∧ j < c) then bz M (k + 1) i j else bz M k i j
/-- all numbers that are met fit, and no divisor is 0 -/
structure Fit (M : Nat → Nat → Int) (N : Nat) : Prop where
  el : ∀ k i j, k < N → i < N → j < N → Fz (bz M k i j)
  m1 : ∀ k i j, k < i → k < j → i < N → j < N → Fz (bz M k i j * bz M k k k)
  m2 : ∀ k i j, k < i → k < j → i < N → j < N → Fz (bz M k k j * bz M k i k)
  df : ∀ k i j, k < i → k < j → i < N → j < N → Fz (bz M k i j * bz M k k k - bz M k k j * bz M k i k)
  ls : ∀ k, k < N → Fz (lst (bz M k) k) ∧ lst (bz M k) k ≠ 0
end Go.Proofs.YtijhbmdbnnmogaaGreat.G
