/- Walks: Add, Sub, Mul. · Walks: awake. · Walks: the law ExactPrints. -/
import Derived.Test.YtmlopkkbgpfdnaaDoorM4
import Derived.Test.YtmlopkkbgpfdnaaDoorM8
import Derived.Test.YtmlopkkbgpfdnaaDoorM6
namespace Go.Proofs.YtmlopkkbgpfdnaaDoor
open Go.RowKit

set_option maxRecDepth 100000 in
theorem exactMul_no (p q : Bool) (A A' : Option Addr) (n c n' c' : Nat) (l l' : List Nat) (w : World) (hx : Wd w (.slice A n c) l) (hy : Wd w (.slice A' n' c') l') (hno : (vld p l && vld q l') = false) :
    Calls Tryd.prog 17 #[.agg #[.bool p, .slice A n c], .agg #[.bool q, .slice A' n' c']] w fun e w' => e = .returned (.tuple #[.agg #[.bool false, .slice none 0 0], .int .i64 2]) ∧ Below w.heap.size w w' := by
  have Hx := Lib.hid hx; clear hx
  have Hy := Lib.hid hy; clear hy
  go_enter Tryd.func17, Tryd.ntmps17
  go_wp2_with fail
  have hb3 := below3 w (Obj.cells #[.bool p, .slice A n c] 24) (Obj.cells #[.bool q, .slice A' n' c'] 24) (Obj.cells #[.bool false, .slice none 0 0] 24)
  have hR3 := RB.a3 w false none 0 0 24 (Obj.cells #[.bool p, .slice A n c] 24) (Obj.cells #[.bool q, .slice A' n' c'] 24)
  refine (combineMul_no p q A A' n c n' c' l l' _ (Hx.out.below hb3) (Hy.out.below hb3) hno).mono ?_
  rintro e w1 ⟨rfl, hb1⟩
  have hR := hR3.below hb1 (by simp <;> omega)
  obtain ⟨a0, A0, n0, c0, k10, k11, k20, k21⟩ := hR.facts
  have s0 := hR.set0 false (.slice none 0 0)
  have s1 := hR.set1 false (.slice none 0 0)
  have fin := (below_set2 (g := w.heap.size + 1 + 1) (i := 0) (j := 1) (hb3.trans (hb1.mono (by simp <;> omega))) (by omega) (.bool false) (.slice none 0 0))
  have Fin := Lib.hid fin; clear fin hR hb1 hb3 hR3
  go_wp2
  exact bodyPost_ret (v := .tuple #[.agg #[.bool false, .slice none 0 0], .int .i64 2]) (by simp [results, Tryd.results17, go_sem, s0, s1]) rfl ⟨rfl, Fin.out⟩

set_option maxRecDepth 100000 in
theorem exactMul_yes (x y : Int) (p q : Bool) (A A' : Option Addr) (n c n' c' : Nat) (l l' : List Nat) (w : World) (hx : Wd w (.slice A n c) l) (hy : Wd w (.slice A' n' c') l') (hp : vld p l = true) (hq : vld q l' = true) (ex : x = numOf p l) (ey : y = numOf q l') (hfit : (dig (x * y).natAbs).length ≤ 256) :
    Calls Tryd.prog 17 #[.agg #[.bool p, .slice A n c], .agg #[.bool q, .slice A' n' c']] w fun e w' => ∃ b A n c, e = .returned (.tuple #[.agg #[.bool b, .slice A n c], .int .i64 0]) ∧ ZV w' (.agg #[.bool b, .slice A n c]) (x * y) ∧ Below w.heap.size w w' := by
  have Hxy := Lib.hid (And.intro ex ey)
  clear ex ey
  have Hx := Lib.hid hx; clear hx
  have Hy := Lib.hid hy; clear hy
  go_enter Tryd.func17, Tryd.ntmps17
  go_wp2_with fail
  have hb3 := below3 w (Obj.cells #[.bool p, .slice A n c] 24) (Obj.cells #[.bool q, .slice A' n' c'] 24) (Obj.cells #[.bool false, .slice none 0 0] 24)
  have hR3 := RB.a3 w false none 0 0 24 (Obj.cells #[.bool p, .slice A n c] 24) (Obj.cells #[.bool q, .slice A' n' c'] 24)
  refine (combineMul_yes x y p q A A' n c n' c' l l' _ (Hx.out.below hb3) (Hy.out.below hb3) hp hq Hxy.out.1 Hxy.out.2 hfit).mono ?_
  rintro e w1 ⟨b6, A6, n6, c6, rfl, hr6, hb1⟩
  have hR := hR3.below hb1 (by simp <;> omega)
  obtain ⟨a0, A0, n0, c0, k10, k11, k20, k21⟩ := hR.facts
  have s0 := hR.set0 b6 (.slice A6 n6 c6)
  have s1 := hR.set1 b6 (.slice A6 n6 c6)
  have fin := And.intro (hr6.rb hR (.bool b6) (.slice A6 n6 c6)) (below_set2 (g := w.heap.size + 1 + 1) (i := 0) (j := 1) (hb3.trans (hb1.mono (by simp <;> omega))) (by omega) (.bool b6) (.slice A6 n6 c6))
  have Fin := Lib.hid fin; clear fin hR hb1 hb3 hR3
  go_wp2
  exact bodyPost_ret (v := .tuple #[.agg #[.bool b6, .slice A6 n6 c6], .int .i64 0]) (by simp [results, Tryd.results17, go_sem, s0, s1]) rfl ⟨b6, A6, n6, c6, rfl, Fin.out.1, Fin.out.2⟩

set_option maxRecDepth 100000 in
theorem exactMul_big (x y : Int) (p q : Bool) (A A' : Option Addr) (n c n' c' : Nat) (l l' : List Nat) (w : World) (hx : Wd w (.slice A n c) l) (hy : Wd w (.slice A' n' c') l') (hp : vld p l = true) (hq : vld q l' = true) (ex : x = numOf p l) (ey : y = numOf q l') (hfit : 256 < (dig (x * y).natAbs).length) :
    Calls Tryd.prog 17 #[.agg #[.bool p, .slice A n c], .agg #[.bool q, .slice A' n' c']] w fun e w' => e = .returned (.tuple #[.agg #[.bool false, .slice none 0 0], .int .i64 5]) ∧ Below w.heap.size w w' := by
  have Hxy := Lib.hid (And.intro ex ey)
  clear ex ey
  have Hx := Lib.hid hx; clear hx
  have Hy := Lib.hid hy; clear hy
  go_enter Tryd.func17, Tryd.ntmps17
  go_wp2_with fail
  have hb3 := below3 w (Obj.cells #[.bool p, .slice A n c] 24) (Obj.cells #[.bool q, .slice A' n' c'] 24) (Obj.cells #[.bool false, .slice none 0 0] 24)
  have hR3 := RB.a3 w false none 0 0 24 (Obj.cells #[.bool p, .slice A n c] 24) (Obj.cells #[.bool q, .slice A' n' c'] 24)
  refine (combineMul_big x y p q A A' n c n' c' l l' _ (Hx.out.below hb3) (Hy.out.below hb3) hp hq Hxy.out.1 Hxy.out.2 hfit).mono ?_
  rintro e w1 ⟨rfl, hb1⟩
  have hR := hR3.below hb1 (by simp <;> omega)
  obtain ⟨a0, A0, n0, c0, k10, k11, k20, k21⟩ := hR.facts
  have s0 := hR.set0 false (.slice none 0 0)
  have s1 := hR.set1 false (.slice none 0 0)
  have fin := (below_set2 (g := w.heap.size + 1 + 1) (i := 0) (j := 1) (hb3.trans (hb1.mono (by simp <;> omega))) (by omega) (.bool false) (.slice none 0 0))
  have Fin := Lib.hid fin; clear fin hR hb1 hb3 hR3
  go_wp2
  exact bodyPost_ret (v := .tuple #[.agg #[.bool false, .slice none 0 0], .int .i64 5]) (by simp [results, Tryd.results17, go_sem, s0, s1]) rfl ⟨rfl, Fin.out⟩

end Go.Proofs.YtmlopkkbgpfdnaaDoor
namespace Go.Proofs.YtmlopkkbgpfdnaaDoor
open Go.RowKit

theorem aw_ok : Ok [0, 1] := by intro x hx; simp at hx; omega
theorem aw_vld : vld false [0, 1] = true := by decide
theorem aw_ok3 : Ok [0, 0, 1] := by intro x hx; simp at hx; omega
theorem aw_vld3 : vld false [0, 0, 1] = true := by decide
theorem aw_mul : numOf false [0, 1] * numOf false [0, 1] = numOf false [0, 0, 1] := by decide
theorem aw_fit : (dig (numOf false [0, 1] * numOf false [0, 1]).natAbs).length ≤ 256 := by
  rw [aw_mul, vld_dig aw_ok3 aw_vld3]; simp

set_option maxHeartbeats 400000 in
set_option maxRecDepth 100000 in
theorem awake_any (w : World) : Calls Tryd.prog 7 #[] w fun e w' => e = .returned (.bool true) ∧ Below w.heap.size w w' := by
  obtain ⟨x, hx⟩ : ∃ x, x = numOf false [0, 1] := ⟨_, rfl⟩
  have hfit := aw_fit
  have hmul := aw_mul
  rw [← hx] at hfit hmul
  have Hx := Lib.hid hx; clear hx
  have Hm := Lib.hid hmul; clear hmul
  have Hfit := Lib.hid hfit; clear hfit
  go_enter Tryd.func7, Tryd.ntmps7
  go_wp2_with fail
  have hw := (Wd.new w [0, 1] aw_ok #[.int .u32 0, .int .u32 1] 45 2 2 rfl (by omega) (by omega) (by
    intro j hj
    match j, hj with
    | 0, _ => rfl
    | 1, _ => rfl)).below (below1 _ (Obj.cells #[.bool false, .slice (some ⟨w.heap.size, 0, none⟩) 2 2] 24))
  have hb2 := below2 w (Obj.cells #[.int .u32 0, .int .u32 1] 45) (Obj.cells #[.bool false, .slice (some ⟨w.heap.size, 0, none⟩) 2 2] 24)
  refine (exactMul_yes x x false false _ _ 2 2 2 2 [0, 1] [0, 1] _ hw hw aw_vld aw_vld Hx.out Hx.out Hfit.out).mono ?_
  rintro e w1 ⟨b, A, n, c, rfl, hr, hb1⟩
  have hb01 := hb2.trans (hb1.mono (by simp <;> omega))
  have Hb := Lib.hid hb01
  have Hr := Lib.hid hr
  clear hw hb2 hb1 hr hb01
  go_wp2_with fail
  have hr2 := Hr.out.below (below2 w1 (Obj.cells #[.bool b, .slice A n c] 24) (Obj.cells #[.int .u32 0, .int .u32 0, .int .u32 1] 45))
  have hw3 := (Wd.new (w1.alloc (Obj.cells #[.bool b, .slice A n c] 24)) [0, 0, 1] aw_ok3 #[.int .u32 0, .int .u32 0, .int .u32 1] 45 3 3 rfl (by omega) (by omega) (by
    intro j hj
    match j, hj with
    | 0, _ => rfl
    | 1, _ => rfl
    | 2, _ => rfl))
  rw [World.size_alloc] at hw3
  refine (sameR_any (x * x) (x * x) _ _ _ hr2 (by rw [Hm.out]; exact vld_zv hw3 aw_vld3)).mono ?_
  rintro e w2 ⟨rfl, hb2⟩
  have hb := Hb.out.trans (((below2 w1 _ _).trans (hb2.mono (by simp <;> omega))).mono Hb.out.size)
  have Hbf := Lib.hid hb
  have ht : decide (x * x = x * x) = true := by simp
  rw [ht]
  clear ht hb hb2 hr2 hw3
  go_wp2
  go_ret
  exact ⟨rfl, Hbf.out⟩
end Go.Proofs.YtmlopkkbgpfdnaaDoor
namespace Go.Proofs.YtmlopkkbgpfdnaaDoor
open Go.RowKit

theorem dec_cons (n : Nat) : ∃ c l, dec n = c :: l ∧ isD c := by
  cases hd : dec n with
  | nil => exact absurd hd (dec_ne n)
  | cons c l => exact ⟨c, l, rfl, dec_isD n c (by rw [hd]; simp)⟩
theorem neg_dec (n : Nat) : negT (dec n) = false := by
  obtain ⟨c, l, hd, hc⟩ := dec_cons n
  rw [hd]
  unfold negT Lib.hasPrefix
  have h1 := hc.1
  have : c ≠ 45 := fun e => by rw [e] at h1; exact absurd h1 (by decide)
  simp [List.isPrefixOf]
  exact fun e => this e.symm
theorem dig_dec (n : Nat) : digT (dec n) = dec n := by
  have h := neg_dec n
  unfold negT at h
  unfold digT Lib.trimPrefix
  rw [h]; rfl
theorem neg_cons (l : List UInt8) : negT (45 :: l) = true := by simp [negT, Lib.hasPrefix, List.isPrefixOf]
theorem digT_cons (l : List UInt8) : digT (45 :: l) = l := by
  have h := neg_cons l
  unfold negT at h
  unfold digT Lib.trimPrefix
  rw [h]; rfl
theorem okT_txt (z : Int) (h : (dec z.natAbs).length ≤ 2500) : okT (txt z) := by
  unfold txt
  by_cases hz : z < 0
  · rw [if_pos hz]
    refine ⟨⟨by rw [digT_cons]; exact dec_canon _, by rw [digT_cons]; exact h⟩, fun e => ?_⟩
    rw [digT_cons] at e
    have h2 := congrArg ofD e.2
    rw [ofD_dec] at h2
    have : ofD [48] = 0 := rfl
    omega
  · rw [if_neg hz]
    refine ⟨⟨by rw [dig_dec]; exact dec_canon _, by rw [dig_dec]; exact h⟩, fun e => ?_⟩
    rw [neg_dec] at e
    exact absurd e.1 (by decide)
theorem numT_txt (z : Int) : numT (txt z) = z := by
  unfold txt numT
  by_cases hz : z < 0
  · rw [if_pos hz, neg_cons, digT_cons, ofD_dec]; simp; omega
  · rw [if_neg hz, neg_dec, dig_dec, ofD_dec]; simp; omega
theorem dec_len_three {n L a : Nat} (h : n < 4294967296 ^ L) (hL : L ≤ 3 * a + 1) : (dec n).length ≤ 29 * a + 10 := by
  refine dec_len_le (Nat.lt_of_lt_of_le h ?_) (by omega)
  have h1 : 4294967296 ^ (3 * a) ≤ 10 ^ (29 * a) := by
    rw [Nat.pow_mul, Nat.pow_mul]
    exact Nat.pow_le_pow_left (by decide) a
  have h2 : 4294967296 ^ L ≤ 4294967296 ^ (3 * a + 1) := Nat.pow_le_pow_right (by decide) hL
  rw [Nat.pow_add] at h2
  rw [Nat.pow_add]
  exact Nat.le_trans h2 (Nat.mul_le_mul h1 (by decide))
theorem sameR_yes (z : Int) (a b : Value) (W : World) (ha : ZV W a z) (hb : ZV W b z) : Calls Tryd.prog 9 #[a, b] W fun e w' => e = .returned (.bool true) ∧ Below W.heap.size W w' := by
  have h := sameR_any z z a b W ha hb
  rwa [decide_eq_true rfl] at h
theorem okT_nil : ¬ okT [] := fun h => h.1.1.1 (by rfl)

set_option maxHeartbeats 400000 in
set_option maxRecDepth 100000 in
theorem exactPrints_no (p : Bool) (A : Option Addr) (n c : Nat) (l : List Nat) (w : World) (hx : Wd w (.slice A n c) l) (h : vld p l = false) :
    Calls Tryd.prog 3 #[.agg #[.bool p, .slice A n c]] w fun e w' => e = .returned (.bool true) ∧ Below w.heap.size w w' := by
  have PN := Lib.hid (fun W (hW : Wd W (.slice A n c) l) => print_no p A n c l W hW h)
  have RN := Lib.hid (fun W (hW : Wd W (.slice A n c) l) => printR_no p A n c l W hW h)
  have PS := Lib.hid (fun W => parse_no ⟨#[]⟩ W okT_nil)
  have Hx := Lib.hid hx; clear hx h
  go_enter Tryd.func3, Tryd.ntmps3
  go_wp2_with fail
  have hb0 := (below_alloc w (Obj.cells #[.bool p, .slice A n c] 24))
  have q0 : (w.alloc (Obj.cells #[.bool p, .slice A n c] 24)).cell? ⟨w.heap.size, 0, none⟩ = some (.bool p) := by rw [World.cell?_alloc_new]; rfl
  have q1 : (w.alloc (Obj.cells #[.bool p, .slice A n c] 24)).cell? ⟨w.heap.size, 1, none⟩ = some (.slice A n c) := by rw [World.cell?_alloc_new]; rfl
  have z0 : w.heap.size < (w.alloc (Obj.cells #[.bool p, .slice A n c] 24)).heap.size := by simp
  refine (PN.out _ (Hx.out.below hb0)).mono ?_
  rintro e w1 ⟨rfl, hb1⟩
  have q0 := keepAt hb1 z0 q0
  have q1 := keepAt hb1 z0 q1
  have z1 := Nat.lt_of_lt_of_le z0 hb1.size
  have hb1 := hb0.trans (hb1.mono hb0.size)
  clear hb0 z0
  go_wp2_with fail
  refine (RN.out _ (Hx.out.below hb1)).mono ?_
  rintro e w2 ⟨rfl, hb2⟩
  have q0 := keepAt hb2 z1 q0
  have q1 := keepAt hb2 z1 q1
  have z2 := Nat.lt_of_lt_of_le z1 hb2.size
  have hb2 := hb1.trans (hb2.mono hb1.size)
  clear hb1 z1
  go_wp2_with fail
  refine (awake_any _).mono ?_
  rintro e w3 ⟨rfl, hb3⟩
  have q0 := keepAt hb3 z2 q0
  have q1 := keepAt hb3 z2 q1
  have z3 := Nat.lt_of_lt_of_le z2 hb3.size
  have hb3 := hb2.trans (hb3.mono hb2.size)
  clear hb2 z2
  go_wp2_with fail
  refine (PS.out _).mono ?_
  rintro e w4 ⟨rfl, hb4⟩
  have hb4 := hb3.trans (hb4.mono hb3.size)
  have hb5 := hb4.alloc (o := Obj.cells #[.bool false, .slice none 0 0] 24) hb4.size
  clear hb3 z3 hb4 q0 q1
  go_wp2
  go_ret
  exact ⟨rfl, hb5⟩

set_option maxHeartbeats 400000 in
set_option maxRecDepth 100000 in
theorem exactPrints_yes (p : Bool) (A : Option Addr) (n c : Nat) (l : List Nat) (w : World) (hx : Wd w (.slice A n c) l) (h : vld p l = true) (htab : Tab w) :
    Calls Tryd.prog 3 #[.agg #[.bool p, .slice A n c]] w fun e w' => e = .returned (.bool true) ∧ Below w.heap.size w w' := by
  have hzv := vld_zv hx h
  have hl := vld_len h
  have hdl : (dig (numOf p l).natAbs).length ≤ 256 := by rw [vld_dig hx.ok h]; exact hl
  obtain ⟨S, hS⟩ : ∃ S : ByteArray, S = ⟨(txt (numOf p l)).toArray⟩ := ⟨_, rfl⟩
  have hSt : S.data.toList = txt (numOf p l) := by rw [hS]
  have hok : okT S.data.toList := by
    rw [hSt]
    exact okT_txt _ (Nat.le_trans (dec_len_three (a := 85) (lt_of_dig_len hdl) (by omega)) (by omega))
  have hnum : numOf p l = numT S.data.toList := by rw [hSt, numT_txt]
  have PN := Lib.hid (fun W (hW : Wd W (.slice A n c) l) (hT : Tab W) => print_yes p A n c l W hW h hT)
  have RN := Lib.hid (fun W (hW : Wd W (.slice A n c) l) (hT : Tab W) => printR_yes p A n c l W hW h hT)
  rw [← hS] at PN RN
  obtain ⟨z, hze⟩ : ∃ z, z = numOf p l := ⟨_, rfl⟩
  rw [← hze] at hnum hzv hdl
  have PS := Lib.hid (fun W => parse_yes S W hok z hnum hdl)
  have Hx := Lib.hid hx
  have Hzv := Lib.hid hzv
  have Htab := Lib.hid htab
  clear hx h hze hnum hok hSt hS hzv hdl hl htab
  go_enter Tryd.func3, Tryd.ntmps3
  go_wp2_with fail
  have hb0 := (below_alloc w (Obj.cells #[.bool p, .slice A n c] 24))
  have q0 : (w.alloc (Obj.cells #[.bool p, .slice A n c] 24)).cell? ⟨w.heap.size, 0, none⟩ = some (.bool p) := by rw [World.cell?_alloc_new]; rfl
  have q1 : (w.alloc (Obj.cells #[.bool p, .slice A n c] 24)).cell? ⟨w.heap.size, 1, none⟩ = some (.slice A n c) := by rw [World.cell?_alloc_new]; rfl
  have z0 : w.heap.size < (w.alloc (Obj.cells #[.bool p, .slice A n c] 24)).heap.size := by simp
  refine (PN.out _ (Hx.out.below hb0) (tab_below Htab.out hb0)).mono ?_
  rintro e w1 ⟨rfl, hb1⟩
  have q0 := keepAt hb1 z0 q0
  have q1 := keepAt hb1 z0 q1
  have z1 := Nat.lt_of_lt_of_le z0 hb1.size
  have hb1 := hb0.trans (hb1.mono hb0.size)
  clear hb0 z0
  go_wp2_with fail
  refine (RN.out _ (Hx.out.below hb1) (tab_below Htab.out hb1)).mono ?_
  rintro e w2 ⟨rfl, hb2⟩
  have q0 := keepAt hb2 z1 q0
  have q1 := keepAt hb2 z1 q1
  have z2 := Nat.lt_of_lt_of_le z1 hb2.size
  have hb2 := hb1.trans (hb2.mono hb1.size)
  clear hb1 z1
  go_wp2_with fail
  refine (awake_any _).mono ?_
  rintro e w3 ⟨rfl, hb3⟩
  have q0 := keepAt hb3 z2 q0
  have q1 := keepAt hb3 z2 q1
  have z3 := Nat.lt_of_lt_of_le z2 hb3.size
  have hb3 := hb2.trans (hb3.mono hb2.size)
  clear hb2 z2
  go_wp2_with fail
  refine (PS.out _).mono ?_
  rintro e w4 ⟨b5, A5, n5, c5, rfl, hz5, hb4⟩
  have q0 := keepAt hb4 z3 q0
  have q1 := keepAt hb4 z3 q1
  have hb4 := hb3.trans (hb4.mono hb3.size)
  have ha5 := below_alloc w4 (Obj.cells #[.bool b5, .slice A5 n5 c5] 24)
  have hb5 := hb4.trans (ha5.mono hb4.size)
  have z4 : w.heap.size < w4.heap.size := by have := q0; exact World.block_lt_of_cell? w4 ⟨w.heap.size, 0, none⟩ q0
  have q0 := keepAt ha5 z4 q0
  have q1 := keepAt ha5 z4 q1
  have hz6 := hz5.below ha5
  have hzw := Hzv.out.below hb5
  have SR := Lib.hid (sameR_yes z _ _ _ hzw hz6)
  have Hb5 := Lib.hid hb5
  clear hb3 z3 hb4 hb5 hz5 hz6 hzw ha5
  go_wp2_with fail
  refine SR.out.mono ?_
  rintro e w6 ⟨rfl, hb6⟩
  go_wp2
  go_ret
  exact ⟨rfl, Hb5.out.trans (hb6.mono Hb5.out.size)⟩

end Go.Proofs.YtmlopkkbgpfdnaaDoor
