/- Walks: the reference's Div. · Walks: the law ExactDiv. -/
import Derived.Test.YtmlopkkbgpfdnaaM15
import Derived.Test.YtmlopkkbgpfdnaaM18
import Derived.Test.YtmlopkkbgpfdnaaM13
import Derived.Test.YtmlopkkbgpfdnaaM12
namespace Go.Proofs.Ytmlopkkbgpfdnaa
open Go.RowKit

theorem four_hw (t : TypeId) (w : World) (p q : Bool) (A A' : Option Addr) (n c n' c' : Nat) (l l' : List Nat) (hx : Wd w (.slice A n c) l) (hy : Wd w (.slice A' n' c') l') :
    ∃ W, W = ((((w.alloc (Obj.cells #[.bool p, .slice A n c] t)).alloc (Obj.cells #[.bool q, .slice A' n' c'] t)).alloc (Obj.cells #[.bool false, .slice none 0 0] t)).alloc (Obj.cells #[.bool false, .slice none 0 0] t)) ∧
    HW W w.heap.size p A n c l ∧ HW W (w.heap.size + 1) q A' n' c' l' ∧ RB W (w.heap.size + 1 + 1) ∧ RB W (w.heap.size + 1 + 1 + 1) ∧ Below w.heap.size w W ∧ w.heap.size + 4 ≤ W.heap.size := by
  have h1 : HW (w.alloc (Obj.cells #[.bool p, .slice A n c] t)) w.heap.size p A n c l := HW.new w p A n c l t hx
  have h2 : HW ((w.alloc (Obj.cells #[.bool p, .slice A n c] t)).alloc (Obj.cells #[.bool q, .slice A' n' c'] t)) (w.heap.size + 1) q A' n' c' l' := by
    have := HW.new (w.alloc (Obj.cells #[.bool p, .slice A n c] t)) q A' n' c' l' t (hy.below (below1 _ _))
    simpa using this
  have h3 : RB (((w.alloc (Obj.cells #[.bool p, .slice A n c] t)).alloc (Obj.cells #[.bool q, .slice A' n' c'] t)).alloc (Obj.cells #[.bool false, .slice none 0 0] t)) (w.heap.size + 1 + 1) := RB.a3 w false none 0 0 t _ _
  have h4 : RB ((((w.alloc (Obj.cells #[.bool p, .slice A n c] t)).alloc (Obj.cells #[.bool q, .slice A' n' c'] t)).alloc (Obj.cells #[.bool false, .slice none 0 0] t)).alloc (Obj.cells #[.bool false, .slice none 0 0] t)) (w.heap.size + 1 + 1 + 1) := by
    have := RB.c1 (((w.alloc (Obj.cells #[.bool p, .slice A n c] t)).alloc (Obj.cells #[.bool q, .slice A' n' c'] t)).alloc (Obj.cells #[.bool false, .slice none 0 0] t)) false none 0 0 t
    simpa using this
  exact ⟨_, rfl, ((h1.alloc _).alloc _).alloc _, (h2.alloc _).alloc _, h3.below (below1 _ _) h3.lt, h4, below4 w _ _ _ _, by simp⟩

set_option maxHeartbeats 800000 in
set_option maxRecDepth 100000 in
theorem refDiv_noa (p q : Bool) (A A' : Option Addr) (n c n' c' : Nat) (l l' : List Nat) (w : World) (hx : Wd w (.slice A n c) l) (hy : Wd w (.slice A' n' c') l') (hno : vld p l = false) :
    Calls Try.prog 29 #[.agg #[.bool p, .slice A n c], .agg #[.bool q, .slice A' n' c']] w (RetDiv w 0 0 2) := by
  obtain ⟨W0, hW0, hH1, hH2, hR3, hR4, hb, z0⟩ := four_hw 24 w p q A A' n c n' c' l l' hx hy
  have HW0 := Lib.hid hW0; clear hW0
  have HF := Lib.hid (And.intro hH1 (And.intro hH2 (And.intro hR3 (And.intro hR4 (And.intro hb z0)))))
  clear hH1 hH2 hR3 hR4 hb z0 hx hy
  go_enter Try.func29, Try.ntmps29
  go_wp2_with fail
  rw [← HW0.out]
  obtain ⟨hH1, hH2, hR3, hR4, hb, z0⟩ := HF.out
  clear HF
  refine (validR_any p A n c l _ hH1.w).mono ?_
  rintro e W1 ⟨rfl, hb1⟩
  have hx1 : Ext W0 W1 := hb1
  rw [hno]
  have hH1 := hH1.ext hx1
  have hH2 := hH2.ext hx1
  have hR3 := hR3.ext hx1
  have hR4 := hR4.ext hx1
  have hb := hb.trans (Below.mono hx1 hb.size)
  have z0 : w.heap.size + 4 ≤ W1.heap.size := by have := hx1.size; omega
  clear hno hx1 hb1 HW0
  have R3' := hR3
  have R4' := hR4
  obtain ⟨_, _, _, _, g30, g31, g32, g33⟩ := R3'.facts
  obtain ⟨_, _, _, _, g40, g41, g42, g43⟩ := R4'.facts
  obtain ⟨W', hW', f1, f2, f3, f4, hbf⟩ := two_zero (w := w) R3' R4' (by omega) hb (by omega) (by omega)
  have T := R4'.far R3' (by omega) (.bool false) (.slice none 0 0)
  obtain ⟨_, _, _, _, g50, g51, g52, g53⟩ := T.facts
  have HG := Lib.hid (And.intro hbf (And.intro f1 (And.intro f2 (And.intro f3 f4))))
  have HW' := Lib.hid hW'
  clear hbf f1 f2 f3 f4 hW' T R3' R4' hR3 hR4 hb hH1 hH2
  go_wp2
  rw [← HW'.out]
  obtain ⟨hbf, f1, f2, f3, f4⟩ := HG.out
  exact bodyPost_ret (v := .tuple #[.agg #[.bool false, .slice none 0 0], .agg #[.bool false, .slice none 0 0], .int .i64 2]) (by simp [results, Try.results29, go_sem, f1, f2, f3, f4]) rfl ⟨_, _, _, _, _, _, _, _, rfl, zv_zero' _, zv_zero' _, hbf⟩

set_option maxHeartbeats 800000 in
set_option maxRecDepth 100000 in
theorem refDiv_nob (p q : Bool) (A A' : Option Addr) (n c n' c' : Nat) (l l' : List Nat) (w : World) (hx : Wd w (.slice A n c) l) (hy : Wd w (.slice A' n' c') l') (hyes : vld p l = true) (hno : vld q l' = false) :
    Calls Try.prog 29 #[.agg #[.bool p, .slice A n c], .agg #[.bool q, .slice A' n' c']] w (RetDiv w 0 0 2) := by
  obtain ⟨W0, hW0, hH1, hH2, hR3, hR4, hb, z0⟩ := four_hw 24 w p q A A' n c n' c' l l' hx hy
  have HW0 := Lib.hid hW0; clear hW0
  have HF := Lib.hid (And.intro hH1 (And.intro hH2 (And.intro hR3 (And.intro hR4 (And.intro hb z0)))))
  clear hH1 hH2 hR3 hR4 hb z0 hx hy
  go_enter Try.func29, Try.ntmps29
  go_wp2_with fail
  rw [← HW0.out]
  obtain ⟨hH1, hH2, hR3, hR4, hb, z0⟩ := HF.out
  clear HF
  refine (validR_any p A n c l _ hH1.w).mono ?_
  rintro e W1 ⟨rfl, hb1⟩
  have hx1 : Ext W0 W1 := hb1
  rw [hyes]
  have hH1 := hH1.ext hx1
  have hH2 := hH2.ext hx1
  have hR3 := hR3.ext hx1
  have hR4 := hR4.ext hx1
  have hb := hb.trans (Below.mono hx1 hb.size)
  have z0 : w.heap.size + 4 ≤ W1.heap.size := by have := hx1.size; omega
  clear hyes hx1 hb1 HW0
  have FH1 := Lib.hid hH1
  have FH2 := Lib.hid hH2
  have FR3 := Lib.hid hR3
  have FR4 := Lib.hid hR4
  have Fb := Lib.hid hb
  have k20 := hH2.c0
  have k21 := hH2.c1
  clear hH1 hH2 hR3 hR4 hb
  go_wp2_with fail
  have hH1 := FH1.out
  have hH2 := FH2.out
  have hR3 := FR3.out
  have hR4 := FR4.out
  have hb := Fb.out
  clear FH1 FH2 FR3 FR4 Fb
  refine (validR_any q A' n' c' l' _ hH2.w).mono ?_
  rintro e W2 ⟨rfl, hb2⟩
  have hx2 : Ext W1 W2 := hb2
  rw [hno]
  have hH1 := hH1.ext hx2
  have hH2 := hH2.ext hx2
  have hR3 := hR3.ext hx2
  have hR4 := hR4.ext hx2
  have hb := hb.trans (Below.mono hx2 hb.size)
  have z0 : w.heap.size + 4 ≤ W2.heap.size := by have := hx2.size; omega
  clear hno hx2 hb2 k20 k21
  have R3' := hR3
  have R4' := hR4
  obtain ⟨_, _, _, _, g30, g31, g32, g33⟩ := R3'.facts
  obtain ⟨_, _, _, _, g40, g41, g42, g43⟩ := R4'.facts
  obtain ⟨W', hW', f1, f2, f3, f4, hbf⟩ := two_zero (w := w) R3' R4' (by omega) hb (by omega) (by omega)
  have T := R4'.far R3' (by omega) (.bool false) (.slice none 0 0)
  obtain ⟨_, _, _, _, g50, g51, g52, g53⟩ := T.facts
  have HG := Lib.hid (And.intro hbf (And.intro f1 (And.intro f2 (And.intro f3 f4))))
  have HW' := Lib.hid hW'
  clear hbf f1 f2 f3 f4 hW' T R3' R4' hR3 hR4 hb hH1 hH2
  go_wp2
  rw [← HW'.out]
  obtain ⟨hbf, f1, f2, f3, f4⟩ := HG.out
  exact bodyPost_ret (v := .tuple #[.agg #[.bool false, .slice none 0 0], .agg #[.bool false, .slice none 0 0], .int .i64 2]) (by simp [results, Try.results29, go_sem, f1, f2, f3, f4]) rfl ⟨_, _, _, _, _, _, _, _, rfl, zv_zero' _, zv_zero' _, hbf⟩

set_option maxHeartbeats 800000 in
set_option maxRecDepth 100000 in
theorem refDiv_zero (p q : Bool) (A A' : Option Addr) (n c n' c' : Nat) (l l' : List Nat) (w : World) (hx : Wd w (.slice A n c) l) (hy : Wd w (.slice A' n' c') l') (hp : vld p l = true) (hq : vld q l' = true) (h0 : numOf q l' = 0) :
    Calls Try.prog 29 #[.agg #[.bool p, .slice A n c], .agg #[.bool q, .slice A' n' c']] w (RetDiv w 0 0 4) := by
  have zy := vld_zv hy hq
  rw [h0] at zy
  have Zy := Lib.hid zy; clear zy h0
  have Hp := Lib.hid hp; clear hp
  have Hq := Lib.hid hq; clear hq
  obtain ⟨W0, hW0, hH1, hH2, hR3, hR4, hb, z0⟩ := four_hw 24 w p q A A' n c n' c' l l' hx hy
  have HW0 := Lib.hid hW0; clear hW0
  have HF := Lib.hid (And.intro hH1 (And.intro hH2 (And.intro hR3 (And.intro hR4 (And.intro hb z0)))))
  clear hH1 hH2 hR3 hR4 hb z0 hx hy
  go_enter Try.func29, Try.ntmps29
  go_wp2_with fail
  rw [← HW0.out]
  obtain ⟨hH1, hH2, hR3, hR4, hb, z0⟩ := HF.out
  clear HF
  refine (validR_any p A n c l _ hH1.w).mono ?_
  rintro e W1 ⟨rfl, hb1⟩
  have hx1 : Ext W0 W1 := hb1
  rw [Hp.out]
  have hH1 := hH1.ext hx1
  have hH2 := hH2.ext hx1
  have hR3 := hR3.ext hx1
  have hR4 := hR4.ext hx1
  have hb := hb.trans (Below.mono hx1 hb.size)
  have z0 : w.heap.size + 4 ≤ W1.heap.size := by have := hx1.size; omega
  clear hx1 hb1 HW0
  have FH1 := Lib.hid hH1
  have FH2 := Lib.hid hH2
  have FR3 := Lib.hid hR3
  have FR4 := Lib.hid hR4
  have Fb := Lib.hid hb
  have k20 := hH2.c0
  have k21 := hH2.c1
  clear hH1 hH2 hR3 hR4 hb
  go_wp2_with fail
  have hH1 := FH1.out
  have hH2 := FH2.out
  have hR3 := FR3.out
  have hR4 := FR4.out
  have hb := Fb.out
  clear FH1 FH2 FR3 FR4 Fb
  refine (validR_any q A' n' c' l' _ hH2.w).mono ?_
  rintro e W2 ⟨rfl, hb2⟩
  have hx2 : Ext W1 W2 := hb2
  rw [Hq.out]
  have hH1 := hH1.ext hx2
  have hH2 := hH2.ext hx2
  have hR3 := hR3.ext hx2
  have hR4 := hR4.ext hx2
  have hb := hb.trans (Below.mono hx2 hb.size)
  have z0 : w.heap.size + 4 ≤ W2.heap.size := by have := hx2.size; omega
  clear hx2 hb2 k20 k21
  have FH1 := Lib.hid hH1
  have FH2 := Lib.hid hH2
  have FR3 := Lib.hid hR3
  have FR4 := Lib.hid hR4
  have Fb := Lib.hid hb
  have k20 := hH2.c0
  have k21 := hH2.c1
  clear hH1 hH2 hR3 hR4 hb
  go_wp2_with fail
  have hH1 := FH1.out
  have hH2 := FH2.out
  have hR3 := FR3.out
  have hR4 := FR4.out
  have hb := Fb.out
  clear FH1 FH2 FR3 FR4 Fb
  refine (of_any q A' n' c' W2).mono ?_
  rintro e W3 ⟨rfl, hb3⟩
  have hx3 : Ext W2 W3 := hb3
  have hH1 := hH1.ext hx3
  have hH2 := hH2.ext hx3
  have hR3 := hR3.ext hx3
  have hR4 := hR4.ext hx3
  have hb := hb.trans (Below.mono hx3 hb.size)
  have z0 : w.heap.size + 4 ≤ W3.heap.size := by have := hx3.size; omega
  clear hx3 hb3 k20 k21
  have FH1 := Lib.hid hH1
  have FH2 := Lib.hid hH2
  have FR3 := Lib.hid hR3
  have FR4 := Lib.hid hR4
  have Fb := Lib.hid hb
  have k20 := hH2.c0
  have k21 := hH2.c1
  clear hH1 hH2 hR3 hR4 hb
  clear k20 k21
  go_wp2_with fail
  have hH1 := FH1.out
  have hH2 := FH2.out
  have hR3 := FR3.out
  have hR4 := FR4.out
  have hb := Fb.out
  clear FH1 FH2 FR3 FR4 Fb
  refine (zeroR_any 0 _ _ (Zy.out.below hb)).mono ?_
  rintro e W4 ⟨rfl, hb4⟩
  have hx4 : Ext W3 W4 := hb4
  rw [show decide ((0 : Int) = 0) = true from rfl]
  have hH1 := hH1.ext hx4
  have hH2 := hH2.ext hx4
  have hR3 := hR3.ext hx4
  have hR4 := hR4.ext hx4
  have hb := hb.trans (Below.mono hx4 hb.size)
  have z0 : w.heap.size + 4 ≤ W4.heap.size := by have := hx4.size; omega
  clear hx4 hb4
  have R3' := hR3
  have R4' := hR4
  obtain ⟨_, _, _, _, g30, g31, g32, g33⟩ := R3'.facts
  obtain ⟨_, _, _, _, g40, g41, g42, g43⟩ := R4'.facts
  obtain ⟨W', hW', f1, f2, f3, f4, hbf⟩ := two_zero (w := w) R3' R4' (by omega) hb (by omega) (by omega)
  have T := R4'.far R3' (by omega) (.bool false) (.slice none 0 0)
  obtain ⟨_, _, _, _, g50, g51, g52, g53⟩ := T.facts
  have HG := Lib.hid (And.intro hbf (And.intro f1 (And.intro f2 (And.intro f3 f4))))
  have HW' := Lib.hid hW'
  clear hbf f1 f2 f3 f4 hW' T R3' R4' hR3 hR4 hb hH1 hH2
  go_wp2
  rw [← HW'.out]
  obtain ⟨hbf, f1, f2, f3, f4⟩ := HG.out
  exact bodyPost_ret (v := .tuple #[.agg #[.bool false, .slice none 0 0], .agg #[.bool false, .slice none 0 0], .int .i64 4]) (by simp [results, Try.results29, go_sem, f1, f2, f3, f4]) rfl ⟨_, _, _, _, _, _, _, _, rfl, zv_zero' _, zv_zero' _, hbf⟩

set_option maxHeartbeats 8000000 in
set_option maxRecDepth 100000 in
theorem refDiv_yes (p q : Bool) (A A' : Option Addr) (n c n' c' : Nat) (l l' : List Nat) (w : World) (hx : Wd w (.slice A n c) l) (hy : Wd w (.slice A' n' c') l') (hp : vld p l = true) (hq : vld q l' = true) (h0 : numOf q l' ≠ 0) :
    Calls Try.prog 29 #[.agg #[.bool p, .slice A n c], .agg #[.bool q, .slice A' n' c']] w (RetDiv w (numOf p l / numOf q l') (numOf p l % numOf q l') 0) := by
  have zy := vld_zv hy hq
  have zx := vld_zv hx hp
  have lx : (dig (numOf p l).natAbs).length ≤ 256 := by rw [vld_dig hx.ok hp]; exact vld_len hp
  have ly : (dig (numOf q l').natAbs).length ≤ 256 := by rw [vld_dig hy.ok hq]; exact vld_len hq
  obtain ⟨x, hxx⟩ : ∃ x, x = numOf p l := ⟨_, rfl⟩
  obtain ⟨y, hyy⟩ : ∃ y, y = numOf q l' := ⟨_, rfl⟩
  rw [← hxx] at zx lx ⊢
  rw [← hyy] at zy ly h0 ⊢
  clear hxx hyy
  obtain ⟨z1, hz1⟩ : ∃ z, z = x / y := ⟨_, rfl⟩
  obtain ⟨z2, hz2⟩ : ∃ z, z = x % y := ⟨_, rfl⟩
  rw [← hz1, ← hz2]
  have Hz1 := Lib.hid hz1; clear hz1
  have Hz2 := Lib.hid hz2; clear hz2
  have Zx := Lib.hid zx; clear zx
  have Zy := Lib.hid zy; clear zy
  have Hp := Lib.hid hp; clear hp
  have Hq := Lib.hid hq; clear hq
  have H0 := Lib.hid h0; clear h0
  obtain ⟨W0, hW0, hH1, hH2, hR3, hR4, hb, z0⟩ := four_hw 24 w p q A A' n c n' c' l l' hx hy
  have HW0 := Lib.hid hW0; clear hW0
  have HF := Lib.hid (And.intro hH1 (And.intro hH2 (And.intro hR3 (And.intro hR4 (And.intro hb z0)))))
  clear hH1 hH2 hR3 hR4 hb z0 hx hy
  go_enter Try.func29, Try.ntmps29
  go_wp2_with fail
  rw [← HW0.out]
  obtain ⟨hH1, hH2, hR3, hR4, hb, z0⟩ := HF.out
  clear HF
  refine (validR_any p A n c l _ hH1.w).mono ?_
  rintro e W1 ⟨rfl, hb1⟩
  have hx1 : Ext W0 W1 := hb1
  rw [Hp.out]
  have hH1 := hH1.ext hx1
  have hH2 := hH2.ext hx1
  have hR3 := hR3.ext hx1
  have hR4 := hR4.ext hx1
  have hb := hb.trans (Below.mono hx1 hb.size)
  have z0 : w.heap.size + 4 ≤ W1.heap.size := by have := hx1.size; omega
  clear hx1 hb1 HW0
  have FH1 := Lib.hid hH1
  have FH2 := Lib.hid hH2
  have FR3 := Lib.hid hR3
  have FR4 := Lib.hid hR4
  have Fb := Lib.hid hb
  have k20 := hH2.c0
  have k21 := hH2.c1
  clear hH1 hH2 hR3 hR4 hb
  go_wp2_with fail
  have hH1 := FH1.out
  have hH2 := FH2.out
  have hR3 := FR3.out
  have hR4 := FR4.out
  have hb := Fb.out
  clear FH1 FH2 FR3 FR4 Fb
  refine (validR_any q A' n' c' l' _ hH2.w).mono ?_
  rintro e W2 ⟨rfl, hb2⟩
  have hx2 : Ext W1 W2 := hb2
  rw [Hq.out]
  have hH1 := hH1.ext hx2
  have hH2 := hH2.ext hx2
  have hR3 := hR3.ext hx2
  have hR4 := hR4.ext hx2
  have hb := hb.trans (Below.mono hx2 hb.size)
  have z0 : w.heap.size + 4 ≤ W2.heap.size := by have := hx2.size; omega
  clear hx2 hb2 k20 k21
  have FH1 := Lib.hid hH1
  have FH2 := Lib.hid hH2
  have FR3 := Lib.hid hR3
  have FR4 := Lib.hid hR4
  have Fb := Lib.hid hb
  have k20 := hH2.c0
  have k21 := hH2.c1
  clear hH1 hH2 hR3 hR4 hb
  go_wp2_with fail
  have hH1 := FH1.out
  have hH2 := FH2.out
  have hR3 := FR3.out
  have hR4 := FR4.out
  have hb := Fb.out
  clear FH1 FH2 FR3 FR4 Fb
  refine (of_any q A' n' c' W2).mono ?_
  rintro e W3 ⟨rfl, hb3⟩
  have hx3 : Ext W2 W3 := hb3
  have hH1 := hH1.ext hx3
  have hH2 := hH2.ext hx3
  have hR3 := hR3.ext hx3
  have hR4 := hR4.ext hx3
  have hb := hb.trans (Below.mono hx3 hb.size)
  have z0 : w.heap.size + 4 ≤ W3.heap.size := by have := hx3.size; omega
  clear hx3 hb3 k20 k21
  have FH1 := Lib.hid hH1
  have FH2 := Lib.hid hH2
  have FR3 := Lib.hid hR3
  have FR4 := Lib.hid hR4
  have Fb := Lib.hid hb
  have k20 := hH2.c0
  have k21 := hH2.c1
  clear hH1 hH2 hR3 hR4 hb
  clear k20 k21
  go_wp2_with fail
  have hH1 := FH1.out
  have hH2 := FH2.out
  have hR3 := FR3.out
  have hR4 := FR4.out
  have hb := Fb.out
  clear FH1 FH2 FR3 FR4 Fb
  refine (zeroR_any y _ _ (Zy.out.below hb)).mono ?_
  rintro e W4 ⟨rfl, hb4⟩
  have hx4 : Ext W3 W4 := hb4
  rw [show decide (y = 0) = false by simpa using H0.out]
  have hH1 := hH1.ext hx4
  have hH2 := hH2.ext hx4
  have hR3 := hR3.ext hx4
  have hR4 := hR4.ext hx4
  have hb := hb.trans (Below.mono hx4 hb.size)
  have z0 : w.heap.size + 4 ≤ W4.heap.size := by have := hx4.size; omega
  clear hx4 hb4
  have Hx3 := Lib.hid (Zx.out.below hb)
  have Hy3 := Lib.hid (Zy.out.below hb)
  have HR3 := Lib.hid hR3
  have HR4 := Lib.hid hR4
  have Hb3 := Lib.hid hb
  have j10 := hH1.c0
  have j11 := hH1.c1
  have j20 := hH2.c0
  have j21 := hH2.c1
  clear hR3 hR4 hb hH1 hH2
  go_upto_region 5 with fail
  go_cut [7, 8] (fun a b wx => DivCut w z1 z2 (w.heap.size + 1 + 1) (w.heap.size + 1 + 1 + 1) a b wx)
  case first =>
    have ks : ∀ Y, Ext W4 Y → Y.cell? ⟨w.heap.size, 0, none⟩ = some (.bool p) ∧ Y.cell? ⟨w.heap.size, 1, none⟩ = some (.slice A n c) ∧ Y.cell? ⟨w.heap.size + 1, 0, none⟩ = some (.bool q) ∧ Y.cell? ⟨w.heap.size + 1, 1, none⟩ = some (.slice A' n' c') := fun Y h => ⟨keepAt h (by omega) j10, keepAt h (by omega) j11, keepAt h (by omega) j20, keepAt h (by omega) j21⟩
    have KS := Lib.hid ks; clear ks
    have c1 : ∀ W, Calls Try.prog 36 #[.agg #[.bool p, .slice A n c]] W fun e w' => e = .returned (.agg #[.bool p, .slice A n c]) ∧ Ext W w' := fun W => of_any p A n c W
    have c2 : ∀ W, Calls Try.prog 36 #[.agg #[.bool q, .slice A' n' c']] W fun e w' => e = .returned (.agg #[.bool q, .slice A' n' c']) ∧ Ext W w' := fun W => of_any q A' n' c' W
    have c3 : ∀ W, Ext W4 W → Calls Try.prog 40 #[.agg #[.bool p, .slice A n c], .agg #[.bool q, .slice A' n' c']] W fun e w' => ∃ b1 A1 n1 c1 b2 A2 n2 c2, e = .returned (.tuple #[.agg #[.bool b1, .slice A1 n1 c1], .agg #[.bool b2, .slice A2 n2 c2]]) ∧ ZV w' (.agg #[.bool b1, .slice A1 n1 c1]) z1 ∧ ZV w' (.agg #[.bool b2, .slice A2 n2 c2]) z2 ∧ Ext W w' := fun W h => by
      rw [Hz1.out, Hz2.out]
      exact overR_any x y _ _ W (Hx3.out.ext h) (Hy3.out.ext h) (by omega) (by omega) H0.out
    have C1 := Lib.hid c1; clear c1
    have C2 := Lib.hid c2; clear c2
    have C3 := Lib.hid c3; clear c3
    have tk1 : True := trivial
    go_region_held3 (fun w' => w'.cell? ⟨w.heap.size, 0, none⟩ = some (.bool p) ∧ w'.cell? ⟨w.heap.size, 1, none⟩ = some (.slice A n c) ∧ w'.cell? ⟨w.heap.size + 1, 0, none⟩ = some (.bool q) ∧ w'.cell? ⟨w.heap.size + 1, 1, none⟩ = some (.slice A' n' c'))
      (first | with_reducible exact ⟨j10, j11, j20, j21⟩ | (refine KS.out _ ?_; with_reducible (repeat (first | exact Ext.refl _ | refine Ext.drw ?_ | refine Ext.trans ?_ hx3 | refine Ext.trans ?_ hx2 | refine Ext.trans ?_ hx1 | refine Ext.alc ?_ _ | refine Ext.sc ?_ (by omega))); done))
      (first | (go_at_call 36; have _t := tk1; refine (C1.out _).mono ?_; rintro e v1 ⟨rfl, hx1⟩; clear tk1; have tk2 : True := trivial; have bl1 : Ext W4 v1 := (by with_reducible (repeat (first | exact Ext.refl _ | refine Ext.drw ?_ | refine Ext.trans ?_ hx1 | refine Ext.alc ?_ _))); have sz1 : W4.heap.size ≤ v1.heap.size := bl1.size; (try have r0a1 : RB v1 W4.heap.size := RB.ext (RB.drew (RB.c1 _ false none 0 0 34)) hx1); (try have r0a1 : RB v1 W4.heap.size := RB.ext (RB.drew (RB.b1 _ false none 0 0 34 _)) hx1); (try have r0b1 : RB v1 (W4.heap.size + 1) := RB.ext (RB.drew (RB.b2 _ false none 0 0 34 _)) hx1); (try have l0a1 := r0a1.lt); (try have l0b1 := r0b1.lt)) | (go_at_call 36; have _t := tk2; refine (C2.out _).mono ?_; rintro e v2 ⟨rfl, hx2⟩; clear tk2; have bl2 : Ext v1 v2 := (by with_reducible (repeat (first | exact Ext.refl _ | refine Ext.drw ?_ | refine Ext.trans ?_ hx2 | refine Ext.alc ?_ _))); have sz2 : v1.heap.size ≤ v2.heap.size := bl2.size; (try have r0a2 : RB v2 (W4.heap.size) := r0a1.ext bl2); (try have r0b2 : RB v2 (W4.heap.size + 1) := r0b1.ext bl2); (try have r1a2 : RB v2 v1.heap.size := RB.ext (RB.c1 _ false none 0 0 34) hx2); (try have r1a2 : RB v2 v1.heap.size := RB.ext (RB.b1 _ false none 0 0 34 _) hx2); (try have r1b2 : RB v2 (v1.heap.size + 1) := RB.ext (RB.b2 _ false none 0 0 34 _) hx2); (try have l0a2 := r0a2.lt); (try have l0b2 := r0b2.lt); (try have l1a2 := r1a2.lt); (try have l1b2 := r1b2.lt)) | (go_at_call 40; refine (C3.out _ (by with_reducible (repeat (first | exact Ext.refl _ | refine Ext.drw ?_ | refine Ext.trans ?_ hx2 | refine Ext.trans ?_ hx1 | refine Ext.alc ?_ _)))).mono ?_; rintro e v3 ⟨b1, A1, n1, c1, b2, A2, n2, c2, rfl, hz1, hz2, hx3⟩; have bl3 : Ext v2 v3 := (by with_reducible (repeat (first | exact Ext.refl _ | refine Ext.drw ?_ | refine Ext.trans ?_ hx3 | refine Ext.alc ?_ _))); have sz3 : v2.heap.size ≤ v3.heap.size := bl3.size; (try have r0a3 : RB v3 (W4.heap.size) := r0a2.ext bl3); (try have r0b3 : RB v3 (W4.heap.size + 1) := r0b2.ext bl3); (try have r1a3 : RB v3 (v1.heap.size) := r1a2.ext bl3); (try have r1b3 : RB v3 (v1.heap.size + 1) := r1b2.ext bl3); (try have r2a3 : RB v3 v2.heap.size := RB.ext (RB.c1 _ false none 0 0 34) hx3); (try have r2a3 : RB v3 v2.heap.size := RB.ext (RB.b1 _ false none 0 0 34 _) hx3); (try have r2b3 : RB v3 (v2.heap.size + 1) := RB.ext (RB.b2 _ false none 0 0 34 _) hx3); (try have l0a3 := r0a3.lt); (try have l0b3 := r0b3.lt); (try have l1a3 := r1a3.lt); (try have l1b3 := r1b3.lt); (try have l2a3 := r2a3.lt); (try have l2b3 := r2b3.lt); (try (have _q := r0a3.lt; obtain ⟨_, _, _, _, k0a0, k0a1, k0a2, k0a3⟩ := r0a3.facts)); (try (have _q := r0b3.lt; obtain ⟨_, _, _, _, k0b0, k0b1, k0b2, k0b3⟩ := r0b3.facts)); (try (have _q := r1a3.lt; obtain ⟨_, _, _, _, k1a0, k1a1, k1a2, k1a3⟩ := r1a3.facts)); (try (have _q := r1b3.lt; obtain ⟨_, _, _, _, k1b0, k1b1, k1b2, k1b3⟩ := r1b3.facts)); (try (have _q := r2a3.lt; obtain ⟨_, _, _, _, k2a0, k2a1, k2a2, k2a3⟩ := r2a3.facts)); (try (have _q := r2b3.lt; obtain ⟨_, _, _, _, k2b0, k2b1, k2b2, k2b3⟩ := r2b3.facts)); (try (have _q1 := r0a3.lt; have _q2 := r0b3.lt; obtain ⟨_, _, _, _, k0a0b0, k0a0b1, k0a0b2, k0a0b3⟩ := (r0a3.far r0b3 (by omega) (.bool b1) (.slice A1 n1 c1)).facts)); (try (have _q1 := r0a3.lt; have _q2 := r1a3.lt; obtain ⟨_, _, _, _, k0a1a0, k0a1a1, k0a1a2, k0a1a3⟩ := (r0a3.far r1a3 (by omega) (.bool b1) (.slice A1 n1 c1)).facts)); (try (have _q1 := r0a3.lt; have _q2 := r2a3.lt; obtain ⟨_, _, _, _, k0a2a0, k0a2a1, k0a2a2, k0a2a3⟩ := (r0a3.far r2a3 (by omega) (.bool b1) (.slice A1 n1 c1)).facts)); (try (have _q1 := r0b3.lt; have _q2 := r0a3.lt; obtain ⟨_, _, _, _, k0b0a0, k0b0a1, k0b0a2, k0b0a3⟩ := (r0b3.far r0a3 (by omega) (.bool b1) (.slice A1 n1 c1)).facts)); (try (have _q1 := r1a3.lt; have _q2 := r0a3.lt; obtain ⟨_, _, _, _, k1a0a0, k1a0a1, k1a0a2, k1a0a3⟩ := (r1a3.far r0a3 (by omega) (.bool b1) (.slice A1 n1 c1)).facts)); (try (have _q1 := r1a3.lt; have _q2 := r1b3.lt; obtain ⟨_, _, _, _, k1a1b0, k1a1b1, k1a1b2, k1a1b3⟩ := (r1a3.far r1b3 (by omega) (.bool b1) (.slice A1 n1 c1)).facts)); (try (have _q1 := r1a3.lt; have _q2 := r2a3.lt; obtain ⟨_, _, _, _, k1a2a0, k1a2a1, k1a2a2, k1a2a3⟩ := (r1a3.far r2a3 (by omega) (.bool b1) (.slice A1 n1 c1)).facts)); (try (have _q1 := r1b3.lt; have _q2 := r1a3.lt; obtain ⟨_, _, _, _, k1b1a0, k1b1a1, k1b1a2, k1b1a3⟩ := (r1b3.far r1a3 (by omega) (.bool b1) (.slice A1 n1 c1)).facts)); (try (have _q1 := r2a3.lt; have _q2 := r0a3.lt; obtain ⟨_, _, _, _, k2a0a0, k2a0a1, k2a0a2, k2a0a3⟩ := (r2a3.far r0a3 (by omega) (.bool b1) (.slice A1 n1 c1)).facts)); (try (have _q1 := r2a3.lt; have _q2 := r1a3.lt; obtain ⟨_, _, _, _, k2a1a0, k2a1a1, k2a1a2, k2a1a3⟩ := (r2a3.far r1a3 (by omega) (.bool b1) (.slice A1 n1 c1)).facts)); (try (have _q1 := r2a3.lt; have _q2 := r2b3.lt; obtain ⟨_, _, _, _, k2a2b0, k2a2b1, k2a2b2, k2a2b3⟩ := (r2a3.far r2b3 (by omega) (.bool b1) (.slice A1 n1 c1)).facts)); (try (have _q1 := r2b3.lt; have _q2 := r2a3.lt; obtain ⟨_, _, _, _, k2b2a0, k2b2a1, k2b2a2, k2b2a3⟩ := (r2b3.far r2a3 (by omega) (.bool b1) (.slice A1 n1 c1)).facts))))
    all_goals go_wp2_with fail
    all_goals
      have bl := (bl1.trans bl2).trans bl3
      have TZ : TwoZ w v3 z1 z2 (w.heap.size + 1 + 1) (w.heap.size + 1 + 1 + 1) W4.heap.size b1 A1 n1 c1 b2 A2 n2 c2 := ⟨hz1, hz2, HR3.out.ext bl, HR4.out.ext bl, Hb3.out.trans (Below.mono bl Hb3.out.size), by omega, by omega, by omega⟩
      go_meet
      with_reducible first
        | exact TZ.new
        | exact TZ.new'
        | exact TZ.mix r0a3 (by omega)
        | exact TZ.mix' r0a3 (by omega)
        | exact TZ.mix r1a3 (by omega)
        | exact TZ.mix' r1a3 (by omega)
        | exact TZ.mix r2a3 (by omega)
        | exact TZ.mix' r2a3 (by omega)
        | exact TZ.old r0a3 r0b3 (by omega) (by omega) (by omega)
        | exact TZ.old r0a3 r1a3 (by omega) (by omega) (by omega)
        | exact TZ.old r0a3 r2a3 (by omega) (by omega) (by omega)
        | exact TZ.old r0b3 r0a3 (by omega) (by omega) (by omega)
        | exact TZ.old r1a3 r0a3 (by omega) (by omega) (by omega)
        | exact TZ.old r1a3 r1b3 (by omega) (by omega) (by omega)
        | exact TZ.old r1a3 r2a3 (by omega) (by omega) (by omega)
        | exact TZ.old r1b3 r1a3 (by omega) (by omega) (by omega)
        | exact TZ.old r2a3 r0a3 (by omega) (by omega) (by omega)
        | exact TZ.old r2a3 r1a3 (by omega) (by omega) (by omega)
        | exact TZ.old r2a3 r2b3 (by omega) (by omega) (by omega)
        | exact TZ.old r2b3 r2a3 (by omega) (by omega) (by omega)
  case rest =>
    obtain ⟨g8, g9, rfl, rfl, h8, h9, r3, r4, hbc, n1, n2, n3, n4⟩ := hcut
    have l8 := h8.lt
    have l9 := h9.lt
    obtain ⟨b8, A8, n8, c8, k80, k81, hz8⟩ := h8
    obtain ⟨b9, A9, n9, c9, k90, k91, hz9⟩ := h9
    have ks : ∀ Y, Ext wc Y → Y.cell? ⟨g8, 0, none⟩ = some (.bool b8) ∧ Y.cell? ⟨g8, 1, none⟩ = some (.slice A8 n8 c8) ∧ Y.cell? ⟨g9, 0, none⟩ = some (.bool b9) ∧ Y.cell? ⟨g9, 1, none⟩ = some (.slice A9 n9 c9) := fun Y h => ⟨keepAt h (by omega) k80, keepAt h (by omega) k81, keepAt h (by omega) k90, keepAt h (by omega) k91⟩
    have KS := Lib.hid ks; clear ks
    have ks3 : ∀ (Y : World) (u v : Value), (Y.cell? ⟨g8, 0, none⟩ = some (.bool b8) ∧ Y.cell? ⟨g8, 1, none⟩ = some (.slice A8 n8 c8) ∧ Y.cell? ⟨g9, 0, none⟩ = some (.bool b9) ∧ Y.cell? ⟨g9, 1, none⟩ = some (.slice A9 n9 c9)) → ((Y.setCell ⟨w.heap.size + 1 + 1, 0, none⟩ u).setCell ⟨w.heap.size + 1 + 1, 1, none⟩ v).cell? ⟨g8, 0, none⟩ = some (.bool b8) ∧ ((Y.setCell ⟨w.heap.size + 1 + 1, 0, none⟩ u).setCell ⟨w.heap.size + 1 + 1, 1, none⟩ v).cell? ⟨g8, 1, none⟩ = some (.slice A8 n8 c8) ∧ ((Y.setCell ⟨w.heap.size + 1 + 1, 0, none⟩ u).setCell ⟨w.heap.size + 1 + 1, 1, none⟩ v).cell? ⟨g9, 0, none⟩ = some (.bool b9) ∧ ((Y.setCell ⟨w.heap.size + 1 + 1, 0, none⟩ u).setCell ⟨w.heap.size + 1 + 1, 1, none⟩ v).cell? ⟨g9, 1, none⟩ = some (.slice A9 n9 c9) := fun Y u v ⟨a, b, c, d⟩ => ⟨(far2 n1).trans a, (far2 n1).trans b, (far2 n3).trans c, (far2 n3).trans d⟩
    have ks4 : ∀ (Y : World) (u v : Value), (Y.cell? ⟨g8, 0, none⟩ = some (.bool b8) ∧ Y.cell? ⟨g8, 1, none⟩ = some (.slice A8 n8 c8) ∧ Y.cell? ⟨g9, 0, none⟩ = some (.bool b9) ∧ Y.cell? ⟨g9, 1, none⟩ = some (.slice A9 n9 c9)) → ((Y.setCell ⟨w.heap.size + 1 + 1 + 1, 0, none⟩ u).setCell ⟨w.heap.size + 1 + 1 + 1, 1, none⟩ v).cell? ⟨g8, 0, none⟩ = some (.bool b8) ∧ ((Y.setCell ⟨w.heap.size + 1 + 1 + 1, 0, none⟩ u).setCell ⟨w.heap.size + 1 + 1 + 1, 1, none⟩ v).cell? ⟨g8, 1, none⟩ = some (.slice A8 n8 c8) ∧ ((Y.setCell ⟨w.heap.size + 1 + 1 + 1, 0, none⟩ u).setCell ⟨w.heap.size + 1 + 1 + 1, 1, none⟩ v).cell? ⟨g9, 0, none⟩ = some (.bool b9) ∧ ((Y.setCell ⟨w.heap.size + 1 + 1 + 1, 0, none⟩ u).setCell ⟨w.heap.size + 1 + 1 + 1, 1, none⟩ v).cell? ⟨g9, 1, none⟩ = some (.slice A9 n9 c9) := fun Y u v ⟨a, b, c, d⟩ => ⟨(far2 n2).trans a, (far2 n2).trans b, (far2 n4).trans c, (far2 n4).trans d⟩
    have KS3 := Lib.hid ks3; clear ks3
    have KS4 := Lib.hid ks4; clear ks4
    have c531 : ∀ W, Ext wc W → Calls Try.prog 17 #[.agg #[.bool b8, .slice A8 n8 c8]] W fun e w' => ∃ b A n c, e = .returned (.agg #[.bool b, .slice A n c]) ∧ ZV w' (.agg #[.bool b, .slice A n c]) z1 ∧ Ext W w' := fun W h => asAgg ((int_any b8 A8 n8 c8 W).mono fun e w' ⟨he, hbb⟩ => ⟨_, he, (hz8.ext h).below hbb, hbb⟩)
    have c532 : ∀ W, Ext wc W → Calls Try.prog 17 #[.agg #[.bool b9, .slice A9 n9 c9]] W fun e w' => ∃ b A n c, e = .returned (.agg #[.bool b, .slice A n c]) ∧ ZV w' (.agg #[.bool b, .slice A n c]) z2 ∧ Ext W w' := fun W h => asAgg ((int_any b9 A9 n9 c9 W).mono fun e w' ⟨he, hbb⟩ => ⟨_, he, (hz9.ext h).below hbb, hbb⟩)
    have C1 := Lib.hid c531; clear c531
    have C2 := Lib.hid c532; clear c532
    have R3 := Lib.hid r3; clear r3
    have R4 := Lib.hid r4; clear r4
    have Hbc := Lib.hid hbc; clear hbc HR3 HR4 Hb3 Hx3 Hy3 j10 j11 j20 j21
    have tk0 : True := trivial
    go_wp2_with fail
    go_region_held3 (fun w' => w'.cell? ⟨g8, 0, none⟩ = some (.bool b8) ∧ w'.cell? ⟨g8, 1, none⟩ = some (.slice A8 n8 c8) ∧ w'.cell? ⟨g9, 0, none⟩ = some (.bool b9) ∧ w'.cell? ⟨g9, 1, none⟩ = some (.slice A9 n9 c9))
      (first | with_reducible exact ⟨k80, k81, k90, k91⟩ | (refine KS.out _ ?_; with_reducible (repeat (first | exact Ext.refl _ | refine Ext.drw ?_ | refine Ext.trans ?_ hx7 | refine Ext.trans ?_ hx6)); done) | (with_reducible refine KS3.out _ _ _ ?_; with_reducible exact HI.out) | (with_reducible refine KS4.out _ _ _ ?_; with_reducible refine KS3.out _ _ _ ?_; with_reducible exact HI.out))
      (first | (go_at_call 17; have _t := tk0; refine (C1.out _ (by with_reducible (repeat (first | exact Ext.refl _ | refine Ext.drw ?_)))).mono ?_; rintro e w6 ⟨b1, A1, n1', c1, rfl, hz1, hx6⟩; clear tk0) | (go_at_call 17; refine (C2.out _ (by with_reducible (repeat (first | exact Ext.refl _ | refine Ext.drw ?_ | refine Ext.trans ?_ hx6)))).mono ?_; rintro e w7 ⟨b2, A2, n2', c2, rfl, hz2, hx7⟩; have bl7 : Ext wc w7 := (by with_reducible (repeat (first | exact Ext.refl _ | refine Ext.drw ?_ | refine Ext.trans ?_ hx7 | refine Ext.trans ?_ hx6))); have s3 := R3.out.ext bl7; have s4 := R4.out.ext bl7; have HI := Lib.hid (KS.out w7 bl7); obtain ⟨_, _, _, _, g30, g31, g32, g33⟩ := s3.facts; obtain ⟨_, _, _, _, g40, g41, g42, g43⟩ := s4.facts; obtain ⟨_, _, _, _, g50, g51, g52, g53⟩ := (s4.far s3 (by omega) (.bool b1) (.slice A1 n1' c1)).facts))
    obtain ⟨W', hW', f1, f2, f3, f4, hzz1, hzz2, hbf⟩ := two_res s3 s4 (by omega) b1 A1 n1' c1 b2 A2 n2' c2 (hz1.ext hx7) hz2 (Hbc.out.trans (Below.mono bl7 Hbc.out.size)) (by omega) (by omega)
    have HF := Lib.hid (And.intro hzz1 (And.intro hzz2 (And.intro hbf (And.intro f1 (And.intro f2 (And.intro f3 f4))))))
    have HW' := Lib.hid hW'
    clear hzz1 hzz2 hbf f1 f2 f3 f4 hW'
    go_wp2
    rw [← HW'.out]
    obtain ⟨hzz1, hzz2, hbf, f1, f2, f3, f4⟩ := HF.out
    exact bodyPost_ret (v := .tuple #[.agg #[.bool b1, .slice A1 n1' c1], .agg #[.bool b2, .slice A2 n2' c2], .int .i64 0]) (by simp [results, Try.results29, go_sem, f1, f2, f3, f4]) rfl ⟨_, _, _, _, _, _, _, _, rfl, hzz1, hzz2, hbf⟩

/-- ref Div -/
theorem refDiv_u (p q : Bool) (A A' : Option Addr) (n c n' c' : Nat) (l l' : List Nat) (w : World) (hx : Wd w (.slice A n c) l) (hy : Wd w (.slice A' n' c') l') :
    Calls Try.prog 29 #[.agg #[.bool p, .slice A n c], .agg #[.bool q, .slice A' n' c']] w (RetDiv w (divQ p q l l') (divR p q l l') (divE p q l l')) := by
  unfold divQ divR divE
  by_cases h : (vld p l && vld q l') = true
  · rw [if_pos h, if_pos h, if_pos h]
    have h' := h
    simp at h'
    by_cases h0 : numOf q l' = 0
    · rw [if_pos h0, if_pos h0, if_pos h0]
      exact refDiv_zero p q A A' n c n' c' l l' w hx hy h'.1 h'.2 h0
    · rw [if_neg h0, if_neg h0, if_neg h0]
      exact refDiv_yes p q A A' n c n' c' l l' w hx hy h'.1 h'.2 h0
  · rw [if_neg h, if_neg h, if_neg h]
    by_cases hp : vld p l = true
    · exact refDiv_nob p q A A' n c n' c' l l' w hx hy hp (by simpa [hp] using h)
    · exact refDiv_noa p q A A' n c n' c' l l' w hx hy (by simpa using hp)
end Go.Proofs.Ytmlopkkbgpfdnaa
namespace Go.Proofs.Ytmlopkkbgpfdnaa
open Go.RowKit

theorem sameR_true (z : Int) (a b : Value) (W : World) (ha : ZV W a z) (hb : ZV W b z) : Calls Try.prog 16 #[a, b] W fun e w' => e = .returned (.bool true) ∧ Ext W w' := by
  have := sameR_any z z a b W ha hb
  rwa [show decide (z = z) = true from by simp] at this

/-- two new blocks with structs -/
theorem two_new (X : World) (b1 : Bool) (A1 : Option Addr) (n1 c1 : Nat) (b2 : Bool) (A2 : Option Addr) (n2 c2 : Nat) (t : TypeId) (l1 l2 : List Nat) (h1 : Wd X (.slice A1 n1 c1) l1) (h2 : Wd X (.slice A2 n2 c2) l2) :
    HW ((X.alloc (.cells #[.bool b1, .slice A1 n1 c1] t)).alloc (.cells #[.bool b2, .slice A2 n2 c2] t)) X.heap.size b1 A1 n1 c1 l1 ∧ HW ((X.alloc (.cells #[.bool b1, .slice A1 n1 c1] t)).alloc (.cells #[.bool b2, .slice A2 n2 c2] t)) (X.heap.size + 1) b2 A2 n2 c2 l2 := by
  refine ⟨(HW.new X b1 A1 n1 c1 l1 t h1).alloc _, ?_⟩
  have := HW.new (X.alloc (.cells #[.bool b1, .slice A1 n1 c1] t)) b2 A2 n2 c2 l2 t (h2.below (below1 _ _))
  simpa using this

theorem HW.zv {W : World} {g : Nat} {b : Bool} {A : Option Addr} {n c : Nat} {z : Int} (H : HW W g b A n c (dig z.natAbs)) (hb : b = decide (z < 0)) : ZV W (.agg #[.bool b, .slice A n c]) z := ZV.mk hb H.w

set_option maxHeartbeats 2000000 in
set_option maxRecDepth 100000 in
theorem exactDiv_walk (p q : Bool) (A A' : Option Addr) (n c n' c' : Nat) (l l' : List Nat) (w : World) (hx : Wd w (.slice A n c) l) (hy : Wd w (.slice A' n' c') l') :
    Calls Try.prog 6 #[.agg #[.bool p, .slice A n c], .agg #[.bool q, .slice A' n' c']] w fun e w' => e = .returned (.bool true) ∧ Below w.heap.size w w' := by
  obtain ⟨h1, h2⟩ := two_new w p A n c q A' n' c' 24 l l' hx hy
  have hb := below2 w (Obj.cells #[.bool p, .slice A n c] 24) (Obj.cells #[.bool q, .slice A' n' c'] 24)
  have H1 := Lib.hid h1; clear h1
  have H2 := Lib.hid h2; clear h2
  have Hb := Lib.hid hb; clear hb hx hy
  obtain ⟨zq, hzq⟩ : ∃ z, z = divQ p q l l' := ⟨_, rfl⟩
  obtain ⟨zr, hzr⟩ : ∃ z, z = divR p q l l' := ⟨_, rfl⟩
  obtain ⟨er, her⟩ : ∃ z, z = divE p q l l' := ⟨_, rfl⟩
  have d1 : ∀ W : World, Wd W (.slice A n c) l → Wd W (.slice A' n' c') l' → Calls Try.prog 28 #[.agg #[.bool p, .slice A n c], .agg #[.bool q, .slice A' n' c']] W (RetDiv W zq zr er) := fun W a b => by rw [hzq, hzr, her]; exact exactDiv_u p q A A' n c n' c' l l' W a b
  have d2 : ∀ W : World, Wd W (.slice A n c) l → Wd W (.slice A' n' c') l' → Calls Try.prog 29 #[.agg #[.bool p, .slice A n c], .agg #[.bool q, .slice A' n' c']] W (RetDiv W zq zr er) := fun W a b => by rw [hzq, hzr, her]; exact refDiv_u p q A A' n c n' c' l l' W a b
  have D1 := Lib.hid d1; clear d1
  have D2 := Lib.hid d2; clear d2
  clear hzq hzr her
  have ht : (er == er) = true := by simp
  go_enter Try.func6, Try.ntmps6
  go_wp2_with fail
  refine (D1.out _ H1.out.w H2.out.w).mono ?_
  rintro e w2 ⟨b1, A1, n1, c1, b2, A2, n2, c2, rfl, hz1, hz2, hb2⟩
  have hx2 : Ext _ w2 := hb2
  have s2 : w.heap.size + 2 ≤ w2.heap.size := by have := hx2.size; simpa using this
  obtain ⟨e1, w1⟩ := hz1.words
  obtain ⟨e2, w2'⟩ := hz2.words
  obtain ⟨k1, k2⟩ := two_new w2 b1 A1 n1 c1 b2 A2 n2 c2 24 _ _ w1 w2'
  have x3 : Ext w2 ((w2.alloc (Obj.cells #[.bool b1, .slice A1 n1 c1] 24)).alloc (Obj.cells #[.bool b2, .slice A2 n2 c2] 24)) := ((Ext.refl w2).alc _).alc _
  have m1 := (H1.out.ext hx2).ext x3
  have m2 := (H2.out.ext hx2).ext x3
  have hbb := (Hb.out.trans (Below.mono hx2 Hb.out.size))
  have hb3 := hbb.trans (Below.mono x3 hbb.size)
  have c10 := m1.c0
  have c11 := m1.c1
  have c20 := m2.c0
  have c21 := m2.c1
  have HF := Lib.hid (And.intro k1 (And.intro k2 (And.intro m1 (And.intro m2 (And.intro hb3 (And.intro e1 (And.intro e2 x3.size)))))))
  clear k1 k2 m1 m2 hb3 hbb x3 w1 w2' hz1 hz2 hb2 hx2 H1 H2 Hb e1 e2
  go_wp2_with fail
  obtain ⟨k1, k2, m1, m2, hb3, e1, e2, s3⟩ := HF.out
  clear HF c10 c11 c20 c21
  generalize ((w2.alloc (Obj.cells #[.bool b1, .slice A1 n1 c1] 24)).alloc (Obj.cells #[.bool b2, .slice A2 n2 c2] 24)) = W3 at *
  refine (D2.out _ m1.w m2.w).mono ?_
  rintro e w4 ⟨b3, A3, n3, c3, b4, A4, n4, c4, rfl, hz3, hz4, hb4⟩
  have hx4 : Ext W3 w4 := hb4
  obtain ⟨e3, w3⟩ := hz3.words
  obtain ⟨e4, w4'⟩ := hz4.words
  obtain ⟨k3, k4⟩ := two_new w4 b3 A3 n3 c3 b4 A4 n4 c4 24 _ _ w3 w4'
  have x5 : Ext w4 ((w4.alloc (Obj.cells #[.bool b3, .slice A3 n3 c3] 24)).alloc (Obj.cells #[.bool b4, .slice A4 n4 c4] 24)) := ((Ext.refl w4).alc _).alc _
  have j1 := (k1.ext hx4).ext x5
  have j2 := (k2.ext hx4).ext x5
  have hbb := (hb3.trans (Below.mono hx4 hb3.size))
  have hb5 := hbb.trans (Below.mono x5 hbb.size)
  have c10 := j1.c0
  have c11 := j1.c1
  have c20 := j2.c0
  have c21 := j2.c1
  have c30 := k3.c0
  have c31 := k3.c1
  have c40 := k4.c0
  have c41 := k4.c1
  have HF := Lib.hid (And.intro j1 (And.intro j2 (And.intro k3 (And.intro k4 (And.intro hb5 (And.intro e1 (And.intro e2 (And.intro e3 e4))))))))
  clear k1 k2 m1 m2 hb3 hbb x5 w3 w4' hz3 hz4 hb4 hx4 e1 e2 e3 e4 j1 j2 k3 k4 s3
  obtain ⟨g1, hg1⟩ : ∃ g, g = w2.heap.size := ⟨_, rfl⟩
  rw [← hg1] at c10 c11 c20 c21 HF s2 ⊢
  clear hg1
  go_wp2_with fail
  obtain ⟨j1, j2, k3, k4, hb5, e1, e2, e3, e4⟩ := HF.out
  clear HF c10 c11 c20 c21 c30 c31 c40 c41
  generalize ((w4.alloc (Obj.cells #[.bool b3, .slice A3 n3 c3] 24)).alloc (Obj.cells #[.bool b4, .slice A4 n4 c4] 24)) = W5 at *
  obtain ⟨g2, hg2⟩ : ∃ g, g = w4.heap.size := ⟨_, rfl⟩
  rw [← hg2] at k3 k4
  try rw [← hg2]
  clear hg2
  refine (sameR_true zq _ _ _ (j1.zv e1) (k3.zv e3)).mono ?_
  rintro e w6 ⟨rfl, hx6⟩
  have j2' := j2.ext hx6
  have k4' := k4.ext hx6
  have hb6 := hb5.trans (Below.mono hx6 hb5.size)
  have c20 := j2'.c0
  have c21 := j2'.c1
  have c40 := k4'.c0
  have c41 := k4'.c1
  have za := j2'.zv e2
  have zb := k4'.zv e4
  have HF := Lib.hid (And.intro za (And.intro zb hb6))
  clear za zb hb6 j2' k4' j1 j2 k3 k4 hb5 e1 e2 e3 e4 hx6
  go_wp2_with fail
  obtain ⟨za, zb, hb6⟩ := HF.out
  clear HF
  refine (sameR_true zr _ _ _ za zb).mono ?_
  rintro e w7 ⟨rfl, hx7⟩
  have HF := Lib.hid (hb6.trans (Below.mono hx7 hb6.size))
  clear za zb hb6 hx7 c20 c21 c40 c41
  go_wp2_with fail
  refine (awake_any _).mono ?_
  rintro e w8 ⟨rfl, hb8⟩
  have hb7 := HF.out
  have HF2 := Lib.hid (hb7.trans (hb8.mono hb7.size))
  clear HF hb7 hb8
  go_wp2
  go_ret
  exact ⟨rfl, HF2.out⟩
end Go.Proofs.Ytmlopkkbgpfdnaa
