/- Walks: the reference's Div. · Walks: the law ExactDiv. · Walks: the law ExactGcd. -/
import Derived.Test.YtmlopkkbgpfdnaaM15
import Derived.Test.YtmlopkkbgpfdnaaM19
import Derived.Test.YtmlopkkbgpfdnaaM13
import Derived.Test.YtmlopkkbgpfdnaaM12
import Derived.Test.YtmlopkkbgpfdnaaM17
import Derived.Test.YtmlopkkbgpfdnaaM21
namespace Go.Proofs.Ytmlopkkbgpfdnaa
open Go.RowKit

theorem four_hw (t : TypeId) (w : World) (p q : Bool) (A A' : Option Addr) (n c n' c' : Nat) (l l' : List Nat) (hx : Wd w (.slice A n c) l) (hy : Wd w (.slice A' n' c') l') :
    ∃ W, W = ((((w.alloc (Obj.cells #[.bool p, .slice A n c] t)).alloc (Obj.cells #[.bool q, .slice A' n' c'] t)).alloc (Obj.cells #[.bool false, .slice none 0 0] t)).alloc (Obj.cells #[.bool false, .slice none 0 0] t)) ∧
    HW W w.heap.size p A n c l ∧ HW W (w.heap.size + 1) q A' n' c' l' ∧ RB W (w.heap.size + 1 + 1) ∧ RB W (w.heap.size + 1 + 1 + 1) ∧ Below w.heap.size w W ∧ w.heap.size + 4 ≤ W.heap.size := by
  have h1 : HW (w.alloc (Obj.cells #[.bool p, .slice A n c] t)) w.heap.size p A n c l := HW.new w p A n c l t hx
  have h2 : HW ((w.alloc (Obj.cells #[.bool p, .slice A n c] t)).alloc (Obj.cells #[.bool q, .slice A' n' c'] t)) (w.heap.size + 1) q A' n' c' l' := by
    have := HW.new (w.alloc (Obj.cells #[.bool p, .slice A n c] t)) q A' n' c' l' t (hy.below (below1 _ _))
    simpa using this
  have h3 : RB (((w.alloc (Obj.cells #[.bool p, .slice A n c] t)).alloc (Obj.cells #[.bool q, .slice A' n' c'] t)).alloc (Obj.cells #[.bool false, .slice none 0 0] t)) (w.heap.size + 1 + 1) := RB.a3 w false none 0 0 t _ _
  have h4 : RB ((((w.alloc (Obj.cells #[.bool p, .slice A n c] t)).alloc (Obj.cells #[.bool q, .slice A' n' c'] t)).alloc (Obj.cells #[.bool false, .slice none 0 0] t)).alloc (Obj.cells #[.bool false, .slice none 0 0] t)) (w.heap.size + 1 + 1 + 1) := by
    have := RB.c1 (((w.alloc (Obj.cells #[.bool p, .slice A n c] t)).alloc (Obj.cells #[.bool q, .slice A' n' c'] t)).alloc (Obj.cells #[.bool false, .slice none 0 0] t)) false none 0 0 t
    simpa using this
  exact ⟨_, rfl, ((h1.alloc _).alloc _).alloc _, (h2.alloc _).alloc _, h3.below (below1 _ _) h3.lt, h4, below4 w _ _ _ _, by simp⟩

set_option maxHeartbeats 800000 in
set_option maxRecDepth 100000 in
theorem refDiv_noa (p q : Bool) (A A' : Option Addr) (n c n' c' : Nat) (l l' : List Nat) (w : World) (hx : Wd w (.slice A n c) l) (hy : Wd w (.slice A' n' c') l') (hno : vld p l = false) :
    Calls Try.prog 29 #[.agg #[.bool p, .slice A n c], .agg #[.bool q, .slice A' n' c']] w (RetDiv w 0 0 2) := by
  obtain ⟨W0, hW0, hH1, hH2, hR3, hR4, hb, z0⟩ := four_hw 24 w p q A A' n c n' c' l l' hx hy
  have HW0 := Lib.hid hW0; clear hW0
  have HF := Lib.hid (And.intro hH1 (And.intro hH2 (And.intro hR3 (And.intro hR4 (And.intro hb z0)))))
  clear hH1 hH2 hR3 hR4 hb z0 hx hy
  go_enter Try.func29, Try.ntmps29
  go_wp2_with fail
  rw [← HW0.out]
  obtain ⟨hH1, hH2, hR3, hR4, hb, z0⟩ := HF.out
  clear HF
  refine (validR_any p A n c l _ hH1.w).mono ?_
  rintro e W1 ⟨rfl, hb1⟩
  have hx1 : Ext W0 W1 := hb1
  rw [hno]
  have hH1 := hH1.ext hx1
  have hH2 := hH2.ext hx1
  have hR3 := hR3.ext hx1
  have hR4 := hR4.ext hx1
  have hb := hb.trans (Below.mono hx1 hb.size)
  have z0 : w.heap.size + 4 ≤ W1.heap.size := by have := hx1.size; omega
  clear hno hx1 hb1 HW0
  have R3' := hR3
  have R4' := hR4
  obtain ⟨_, _, _, _, g30, g31, g32, g33⟩ := R3'.facts
  obtain ⟨_, _, _, _, g40, g41, g42, g43⟩ := R4'.facts
  obtain ⟨W', hW', f1, f2, f3, f4, hbf⟩ := two_zero (w := w) R3' R4' (by omega) hb (by omega) (by omega)
  have T := R4'.far R3' (by omega) (.bool false) (.slice none 0 0)
  obtain ⟨_, _, _, _, g50, g51, g52, g53⟩ := T.facts
  have HG := Lib.hid (And.intro hbf (And.intro f1 (And.intro f2 (And.intro f3 f4))))
  have HW' := Lib.hid hW'
  clear hbf f1 f2 f3 f4 hW' T R3' R4' hR3 hR4 hb hH1 hH2
  go_wp2
  rw [← HW'.out]
  obtain ⟨hbf, f1, f2, f3, f4⟩ := HG.out
  exact bodyPost_ret (v := .tuple #[.agg #[.bool false, .slice none 0 0], .agg #[.bool false, .slice none 0 0], .int .i64 2]) (by simp [results, Try.results29, go_sem, f1, f2, f3, f4]) rfl ⟨_, _, _, _, _, _, _, _, rfl, zv_zero' _, zv_zero' _, hbf⟩

set_option maxHeartbeats 800000 in
set_option maxRecDepth 100000 in
theorem refDiv_nob (p q : Bool) (A A' : Option Addr) (n c n' c' : Nat) (l l' : List Nat) (w : World) (hx : Wd w (.slice A n c) l) (hy : Wd w (.slice A' n' c') l') (hyes : vld p l = true) (hno : vld q l' = false) :
    Calls Try.prog 29 #[.agg #[.bool p, .slice A n c], .agg #[.bool q, .slice A' n' c']] w (RetDiv w 0 0 2) := by
  obtain ⟨W0, hW0, hH1, hH2, hR3, hR4, hb, z0⟩ := four_hw 24 w p q A A' n c n' c' l l' hx hy
  have HW0 := Lib.hid hW0; clear hW0
  have HF := Lib.hid (And.intro hH1 (And.intro hH2 (And.intro hR3 (And.intro hR4 (And.intro hb z0)))))
  clear hH1 hH2 hR3 hR4 hb z0 hx hy
  go_enter Try.func29, Try.ntmps29
  go_wp2_with fail
  rw [← HW0.out]
  obtain ⟨hH1, hH2, hR3, hR4, hb, z0⟩ := HF.out
  clear HF
  refine (validR_any p A n c l _ hH1.w).mono ?_
  rintro e W1 ⟨rfl, hb1⟩
  have hx1 : Ext W0 W1 := hb1
  rw [hyes]
  have hH1 := hH1.ext hx1
  have hH2 := hH2.ext hx1
  have hR3 := hR3.ext hx1
  have hR4 := hR4.ext hx1
  have hb := hb.trans (Below.mono hx1 hb.size)
  have z0 : w.heap.size + 4 ≤ W1.heap.size := by have := hx1.size; omega
  clear hyes hx1 hb1 HW0
  have FH1 := Lib.hid hH1
  have FH2 := Lib.hid hH2
  have FR3 := Lib.hid hR3
  have FR4 := Lib.hid hR4
  have Fb := Lib.hid hb
  have k20 := hH2.c0
  have k21 := hH2.c1
  clear hH1 hH2 hR3 hR4 hb
  go_wp2_with fail
  have hH1 := FH1.out
  have hH2 := FH2.out
  have hR3 := FR3.out
  have hR4 := FR4.out
  have hb := Fb.out
  clear FH1 FH2 FR3 FR4 Fb
  refine (validR_any q A' n' c' l' _ hH2.w).mono ?_
  rintro e W2 ⟨rfl, hb2⟩
  have hx2 : Ext W1 W2 := hb2
  rw [hno]
  have hH1 := hH1.ext hx2
  have hH2 := hH2.ext hx2
  have hR3 := hR3.ext hx2
  have hR4 := hR4.ext hx2
  have hb := hb.trans (Below.mono hx2 hb.size)
  have z0 : w.heap.size + 4 ≤ W2.heap.size := by have := hx2.size; omega
  clear hno hx2 hb2 k20 k21
  have R3' := hR3
  have R4' := hR4
  obtain ⟨_, _, _, _, g30, g31, g32, g33⟩ := R3'.facts
  obtain ⟨_, _, _, _, g40, g41, g42, g43⟩ := R4'.facts
  obtain ⟨W', hW', f1, f2, f3, f4, hbf⟩ := two_zero (w := w) R3' R4' (by omega) hb (by omega) (by omega)
  have T := R4'.far R3' (by omega) (.bool false) (.slice none 0 0)
  obtain ⟨_, _, _, _, g50, g51, g52, g53⟩ := T.facts
  have HG := Lib.hid (And.intro hbf (And.intro f1 (And.intro f2 (And.intro f3 f4))))
  have HW' := Lib.hid hW'
  clear hbf f1 f2 f3 f4 hW' T R3' R4' hR3 hR4 hb hH1 hH2
  go_wp2
  rw [← HW'.out]
  obtain ⟨hbf, f1, f2, f3, f4⟩ := HG.out
  exact bodyPost_ret (v := .tuple #[.agg #[.bool false, .slice none 0 0], .agg #[.bool false, .slice none 0 0], .int .i64 2]) (by simp [results, Try.results29, go_sem, f1, f2, f3, f4]) rfl ⟨_, _, _, _, _, _, _, _, rfl, zv_zero' _, zv_zero' _, hbf⟩

set_option maxHeartbeats 800000 in
set_option maxRecDepth 100000 in
theorem refDiv_zero (p q : Bool) (A A' : Option Addr) (n c n' c' : Nat) (l l' : List Nat) (w : World) (hx : Wd w (.slice A n c) l) (hy : Wd w (.slice A' n' c') l') (hp : vld p l = true) (hq : vld q l' = true) (h0 : numOf q l' = 0) :
    Calls Try.prog 29 #[.agg #[.bool p, .slice A n c], .agg #[.bool q, .slice A' n' c']] w (RetDiv w 0 0 4) := by
  have zy := vld_zv hy hq
  rw [h0] at zy
  have Zy := Lib.hid zy; clear zy h0
  have Hp := Lib.hid hp; clear hp
  have Hq := Lib.hid hq; clear hq
  obtain ⟨W0, hW0, hH1, hH2, hR3, hR4, hb, z0⟩ := four_hw 24 w p q A A' n c n' c' l l' hx hy
  have HW0 := Lib.hid hW0; clear hW0
  have HF := Lib.hid (And.intro hH1 (And.intro hH2 (And.intro hR3 (And.intro hR4 (And.intro hb z0)))))
  clear hH1 hH2 hR3 hR4 hb z0 hx hy
  go_enter Try.func29, Try.ntmps29
  go_wp2_with fail
  rw [← HW0.out]
  obtain ⟨hH1, hH2, hR3, hR4, hb, z0⟩ := HF.out
  clear HF
  refine (validR_any p A n c l _ hH1.w).mono ?_
  rintro e W1 ⟨rfl, hb1⟩
  have hx1 : Ext W0 W1 := hb1
  rw [Hp.out]
  have hH1 := hH1.ext hx1
  have hH2 := hH2.ext hx1
  have hR3 := hR3.ext hx1
  have hR4 := hR4.ext hx1
  have hb := hb.trans (Below.mono hx1 hb.size)
  have z0 : w.heap.size + 4 ≤ W1.heap.size := by have := hx1.size; omega
  clear hx1 hb1 HW0
  have FH1 := Lib.hid hH1
  have FH2 := Lib.hid hH2
  have FR3 := Lib.hid hR3
  have FR4 := Lib.hid hR4
  have Fb := Lib.hid hb
  have k20 := hH2.c0
  have k21 := hH2.c1
  clear hH1 hH2 hR3 hR4 hb
  go_wp2_with fail
  have hH1 := FH1.out
  have hH2 := FH2.out
  have hR3 := FR3.out
  have hR4 := FR4.out
  have hb := Fb.out
  clear FH1 FH2 FR3 FR4 Fb
  refine (validR_any q A' n' c' l' _ hH2.w).mono ?_
  rintro e W2 ⟨rfl, hb2⟩
  have hx2 : Ext W1 W2 := hb2
  rw [Hq.out]
  have hH1 := hH1.ext hx2
  have hH2 := hH2.ext hx2
  have hR3 := hR3.ext hx2
  have hR4 := hR4.ext hx2
  have hb := hb.trans (Below.mono hx2 hb.size)
  have z0 : w.heap.size + 4 ≤ W2.heap.size := by have := hx2.size; omega
  clear hx2 hb2 k20 k21
  have FH1 := Lib.hid hH1
  have FH2 := Lib.hid hH2
  have FR3 := Lib.hid hR3
  have FR4 := Lib.hid hR4
  have Fb := Lib.hid hb
  have k20 := hH2.c0
  have k21 := hH2.c1
  clear hH1 hH2 hR3 hR4 hb
  go_wp2_with fail
  have hH1 := FH1.out
  have hH2 := FH2.out
  have hR3 := FR3.out
  have hR4 := FR4.out
  have hb := Fb.out
  clear FH1 FH2 FR3 FR4 Fb
  refine (of_any q A' n' c' W2).mono ?_
  rintro e W3 ⟨rfl, hb3⟩
  have hx3 : Ext W2 W3 := hb3
  have hH1 := hH1.ext hx3
  have hH2 := hH2.ext hx3
  have hR3 := hR3.ext hx3
  have hR4 := hR4.ext hx3
  have hb := hb.trans (Below.mono hx3 hb.size)
  have z0 : w.heap.size + 4 ≤ W3.heap.size := by have := hx3.size; omega
  clear hx3 hb3 k20 k21
  have FH1 := Lib.hid hH1
  have FH2 := Lib.hid hH2
  have FR3 := Lib.hid hR3
  have FR4 := Lib.hid hR4
  have Fb := Lib.hid hb
  have k20 := hH2.c0
  have k21 := hH2.c1
  clear hH1 hH2 hR3 hR4 hb
  clear k20 k21
  go_wp2_with fail
  have hH1 := FH1.out
  have hH2 := FH2.out
  have hR3 := FR3.out
  have hR4 := FR4.out
  have hb := Fb.out
  clear FH1 FH2 FR3 FR4 Fb
  refine (zeroR_any 0 _ _ (Zy.out.below hb)).mono ?_
  rintro e W4 ⟨rfl, hb4⟩
  have hx4 : Ext W3 W4 := hb4
  rw [show decide ((0 : Int) = 0) = true from rfl]
  have hH1 := hH1.ext hx4
  have hH2 := hH2.ext hx4
  have hR3 := hR3.ext hx4
  have hR4 := hR4.ext hx4
  have hb := hb.trans (Below.mono hx4 hb.size)
  have z0 : w.heap.size + 4 ≤ W4.heap.size := by have := hx4.size; omega
  clear hx4 hb4
  have R3' := hR3
  have R4' := hR4
  obtain ⟨_, _, _, _, g30, g31, g32, g33⟩ := R3'.facts
  obtain ⟨_, _, _, _, g40, g41, g42, g43⟩ := R4'.facts
  obtain ⟨W', hW', f1, f2, f3, f4, hbf⟩ := two_zero (w := w) R3' R4' (by omega) hb (by omega) (by omega)
  have T := R4'.far R3' (by omega) (.bool false) (.slice none 0 0)
  obtain ⟨_, _, _, _, g50, g51, g52, g53⟩ := T.facts
  have HG := Lib.hid (And.intro hbf (And.intro f1 (And.intro f2 (And.intro f3 f4))))
  have HW' := Lib.hid hW'
  clear hbf f1 f2 f3 f4 hW' T R3' R4' hR3 hR4 hb hH1 hH2
  go_wp2
  rw [← HW'.out]
  obtain ⟨hbf, f1, f2, f3, f4⟩ := HG.out
  exact bodyPost_ret (v := .tuple #[.agg #[.bool false, .slice none 0 0], .agg #[.bool false, .slice none 0 0], .int .i64 4]) (by simp [results, Try.results29, go_sem, f1, f2, f3, f4]) rfl ⟨_, _, _, _, _, _, _, _, rfl, zv_zero' _, zv_zero' _, hbf⟩

set_option maxHeartbeats 8000000 in
set_option maxRecDepth 100000 in
theorem refDiv_yes (p q : Bool) (A A' : Option Addr) (n c n' c' : Nat) (l l' : List Nat) (w : World) (hx : Wd w (.slice A n c) l) (hy : Wd w (.slice A' n' c') l') (hp : vld p l = true) (hq : vld q l' = true) (h0 : numOf q l' ≠ 0) :
    Calls Try.prog 29 #[.agg #[.bool p, .slice A n c], .agg #[.bool q, .slice A' n' c']] w (RetDiv w (numOf p l / numOf q l') (numOf p l % numOf q l') 0) := by
  have zy := vld_zv hy hq
  have zx := vld_zv hx hp
  have lx : (dig (numOf p l).natAbs).length ≤ 256 := by rw [vld_dig hx.ok hp]; exact vld_len hp
  have ly : (dig (numOf q l').natAbs).length ≤ 256 := by rw [vld_dig hy.ok hq]; exact vld_len hq
  obtain ⟨x, hxx⟩ : ∃ x, x = numOf p l := ⟨_, rfl⟩
  obtain ⟨y, hyy⟩ : ∃ y, y = numOf q l' := ⟨_, rfl⟩
  rw [← hxx] at zx lx ⊢
  rw [← hyy] at zy ly h0 ⊢
  clear hxx hyy
  obtain ⟨z1, hz1⟩ : ∃ z, z = x / y := ⟨_, rfl⟩
  obtain ⟨z2, hz2⟩ : ∃ z, z = x % y := ⟨_, rfl⟩
  rw [← hz1, ← hz2]
  have Hz1 := Lib.hid hz1; clear hz1
  have Hz2 := Lib.hid hz2; clear hz2
  have Zx := Lib.hid zx; clear zx
  have Zy := Lib.hid zy; clear zy
  have Hp := Lib.hid hp; clear hp
  have Hq := Lib.hid hq; clear hq
  have H0 := Lib.hid h0; clear h0
  obtain ⟨W0, hW0, hH1, hH2, hR3, hR4, hb, z0⟩ := four_hw 24 w p q A A' n c n' c' l l' hx hy
  have HW0 := Lib.hid hW0; clear hW0
  have HF := Lib.hid (And.intro hH1 (And.intro hH2 (And.intro hR3 (And.intro hR4 (And.intro hb z0)))))
  clear hH1 hH2 hR3 hR4 hb z0 hx hy
  go_enter Try.func29, Try.ntmps29
  go_wp2_with fail
  rw [← HW0.out]
  obtain ⟨hH1, hH2, hR3, hR4, hb, z0⟩ := HF.out
  clear HF
  refine (validR_any p A n c l _ hH1.w).mono ?_
  rintro e W1 ⟨rfl, hb1⟩
  have hx1 : Ext W0 W1 := hb1
  rw [Hp.out]
  have hH1 := hH1.ext hx1
  have hH2 := hH2.ext hx1
  have hR3 := hR3.ext hx1
  have hR4 := hR4.ext hx1
  have hb := hb.trans (Below.mono hx1 hb.size)
  have z0 : w.heap.size + 4 ≤ W1.heap.size := by have := hx1.size; omega
  clear hx1 hb1 HW0
  have FH1 := Lib.hid hH1
  have FH2 := Lib.hid hH2
  have FR3 := Lib.hid hR3
  have FR4 := Lib.hid hR4
  have Fb := Lib.hid hb
  have k20 := hH2.c0
  have k21 := hH2.c1
  clear hH1 hH2 hR3 hR4 hb
  go_wp2_with fail
  have hH1 := FH1.out
  have hH2 := FH2.out
  have hR3 := FR3.out
  have hR4 := FR4.out
  have hb := Fb.out
  clear FH1 FH2 FR3 FR4 Fb
  refine (validR_any q A' n' c' l' _ hH2.w).mono ?_
  rintro e W2 ⟨rfl, hb2⟩
  have hx2 : Ext W1 W2 := hb2
  rw [Hq.out]
  have hH1 := hH1.ext hx2
  have hH2 := hH2.ext hx2
  have hR3 := hR3.ext hx2
  have hR4 := hR4.ext hx2
  have hb := hb.trans (Below.mono hx2 hb.size)
  have z0 : w.heap.size + 4 ≤ W2.heap.size := by have := hx2.size; omega
  clear hx2 hb2 k20 k21
  have FH1 := Lib.hid hH1
  have FH2 := Lib.hid hH2
  have FR3 := Lib.hid hR3
  have FR4 := Lib.hid hR4
  have Fb := Lib.hid hb
  have k20 := hH2.c0
  have k21 := hH2.c1
  clear hH1 hH2 hR3 hR4 hb
  go_wp2_with fail
  have hH1 := FH1.out
  have hH2 := FH2.out
  have hR3 := FR3.out
  have hR4 := FR4.out
  have hb := Fb.out
  clear FH1 FH2 FR3 FR4 Fb
  refine (of_any q A' n' c' W2).mono ?_
  rintro e W3 ⟨rfl, hb3⟩
  have hx3 : Ext W2 W3 := hb3
  have hH1 := hH1.ext hx3
  have hH2 := hH2.ext hx3
  have hR3 := hR3.ext hx3
  have hR4 := hR4.ext hx3
  have hb := hb.trans (Below.mono hx3 hb.size)
  have z0 : w.heap.size + 4 ≤ W3.heap.size := by have := hx3.size; omega
  clear hx3 hb3 k20 k21
  have FH1 := Lib.hid hH1
  have FH2 := Lib.hid hH2
  have FR3 := Lib.hid hR3
  have FR4 := Lib.hid hR4
  have Fb := Lib.hid hb
  have k20 := hH2.c0
  have k21 := hH2.c1
  clear hH1 hH2 hR3 hR4 hb
  clear k20 k21
  go_wp2_with fail
  have hH1 := FH1.out
  have hH2 := FH2.out
  have hR3 := FR3.out
  have hR4 := FR4.out
  have hb := Fb.out
  clear FH1 FH2 FR3 FR4 Fb
  refine (zeroR_any y _ _ (Zy.out.below hb)).mono ?_
  rintro e W4 ⟨rfl, hb4⟩
  have hx4 : Ext W3 W4 := hb4
  rw [show decide (y = 0) = false by simpa using H0.out]
  have hH1 := hH1.ext hx4
  have hH2 := hH2.ext hx4
  have hR3 := hR3.ext hx4
  have hR4 := hR4.ext hx4
  have hb := hb.trans (Below.mono hx4 hb.size)
  have z0 : w.heap.size + 4 ≤ W4.heap.size := by have := hx4.size; omega
  clear hx4 hb4
  have Hx3 := Lib.hid (Zx.out.below hb)
  have Hy3 := Lib.hid (Zy.out.below hb)
  have HR3 := Lib.hid hR3
  have HR4 := Lib.hid hR4
  have Hb3 := Lib.hid hb
  have j10 := hH1.c0
  have j11 := hH1.c1
  have j20 := hH2.c0
  have j21 := hH2.c1
  clear hR3 hR4 hb hH1 hH2
  go_upto_region 5 with fail
  go_cut [7, 8] (fun a b wx => DivCut w z1 z2 (w.heap.size + 1 + 1) (w.heap.size + 1 + 1 + 1) a b wx)
  case first =>
    have ks : ∀ Y, Ext W4 Y → Y.cell? ⟨w.heap.size, 0, none⟩ = some (.bool p) ∧ Y.cell? ⟨w.heap.size, 1, none⟩ = some (.slice A n c) ∧ Y.cell? ⟨w.heap.size + 1, 0, none⟩ = some (.bool q) ∧ Y.cell? ⟨w.heap.size + 1, 1, none⟩ = some (.slice A' n' c') := fun Y h => ⟨keepAt h (by omega) j10, keepAt h (by omega) j11, keepAt h (by omega) j20, keepAt h (by omega) j21⟩
    have KS := Lib.hid ks; clear ks
    have c1 : ∀ W, Calls Try.prog 36 #[.agg #[.bool p, .slice A n c]] W fun e w' => e = .returned (.agg #[.bool p, .slice A n c]) ∧ Ext W w' := fun W => of_any p A n c W
    have c2 : ∀ W, Calls Try.prog 36 #[.agg #[.bool q, .slice A' n' c']] W fun e w' => e = .returned (.agg #[.bool q, .slice A' n' c']) ∧ Ext W w' := fun W => of_any q A' n' c' W
    have c3 : ∀ W, Ext W4 W → Calls Try.prog 40 #[.agg #[.bool p, .slice A n c], .agg #[.bool q, .slice A' n' c']] W fun e w' => ∃ b1 A1 n1 c1 b2 A2 n2 c2, e = .returned (.tuple #[.agg #[.bool b1, .slice A1 n1 c1], .agg #[.bool b2, .slice A2 n2 c2]]) ∧ ZV w' (.agg #[.bool b1, .slice A1 n1 c1]) z1 ∧ ZV w' (.agg #[.bool b2, .slice A2 n2 c2]) z2 ∧ Ext W w' := fun W h => by
      rw [Hz1.out, Hz2.out]
      exact overR_any x y _ _ W (Hx3.out.ext h) (Hy3.out.ext h) (by omega) (by omega) H0.out
    have C1 := Lib.hid c1; clear c1
    have C2 := Lib.hid c2; clear c2
    have C3 := Lib.hid c3; clear c3
    have tk1 : True := trivial
    go_region_held3 (fun w' => w'.cell? ⟨w.heap.size, 0, none⟩ = some (.bool p) ∧ w'.cell? ⟨w.heap.size, 1, none⟩ = some (.slice A n c) ∧ w'.cell? ⟨w.heap.size + 1, 0, none⟩ = some (.bool q) ∧ w'.cell? ⟨w.heap.size + 1, 1, none⟩ = some (.slice A' n' c'))
      (first | with_reducible exact ⟨j10, j11, j20, j21⟩ | (refine KS.out _ ?_; with_reducible (repeat (first | exact Ext.refl _ | refine Ext.drw ?_ | refine Ext.trans ?_ hx3 | refine Ext.trans ?_ hx2 | refine Ext.trans ?_ hx1 | refine Ext.alc ?_ _ | refine Ext.sc ?_ (by omega))); done))
      (first | (go_at_call 36; have _t := tk1; refine (C1.out _).mono ?_; rintro e v1 ⟨rfl, hx1⟩; clear tk1; have tk2 : True := trivial; have bl1 : Ext W4 v1 := (by with_reducible (repeat (first | exact Ext.refl _ | refine Ext.drw ?_ | refine Ext.trans ?_ hx1 | refine Ext.alc ?_ _))); have sz1 : W4.heap.size ≤ v1.heap.size := bl1.size; (try have r0a1 : RB v1 W4.heap.size := RB.ext (RB.drew (RB.c1 _ false none 0 0 34)) hx1); (try have r0a1 : RB v1 W4.heap.size := RB.ext (RB.drew (RB.b1 _ false none 0 0 34 _)) hx1); (try have r0b1 : RB v1 (W4.heap.size + 1) := RB.ext (RB.drew (RB.b2 _ false none 0 0 34 _)) hx1); (try have l0a1 := r0a1.lt); (try have l0b1 := r0b1.lt)) | (go_at_call 36; have _t := tk2; refine (C2.out _).mono ?_; rintro e v2 ⟨rfl, hx2⟩; clear tk2; have bl2 : Ext v1 v2 := (by with_reducible (repeat (first | exact Ext.refl _ | refine Ext.drw ?_ | refine Ext.trans ?_ hx2 | refine Ext.alc ?_ _))); have sz2 : v1.heap.size ≤ v2.heap.size := bl2.size; (try have r0a2 : RB v2 (W4.heap.size) := r0a1.ext bl2); (try have r0b2 : RB v2 (W4.heap.size + 1) := r0b1.ext bl2); (try have r1a2 : RB v2 v1.heap.size := RB.ext (RB.c1 _ false none 0 0 34) hx2); (try have r1a2 : RB v2 v1.heap.size := RB.ext (RB.b1 _ false none 0 0 34 _) hx2); (try have r1b2 : RB v2 (v1.heap.size + 1) := RB.ext (RB.b2 _ false none 0 0 34 _) hx2); (try have l0a2 := r0a2.lt); (try have l0b2 := r0b2.lt); (try have l1a2 := r1a2.lt); (try have l1b2 := r1b2.lt)) | (go_at_call 40; refine (C3.out _ (by with_reducible (repeat (first | exact Ext.refl _ | refine Ext.drw ?_ | refine Ext.trans ?_ hx2 | refine Ext.trans ?_ hx1 | refine Ext.alc ?_ _)))).mono ?_; rintro e v3 ⟨b1, A1, n1, c1, b2, A2, n2, c2, rfl, hz1, hz2, hx3⟩; have bl3 : Ext v2 v3 := (by with_reducible (repeat (first | exact Ext.refl _ | refine Ext.drw ?_ | refine Ext.trans ?_ hx3 | refine Ext.alc ?_ _))); have sz3 : v2.heap.size ≤ v3.heap.size := bl3.size; (try have r0a3 : RB v3 (W4.heap.size) := r0a2.ext bl3); (try have r0b3 : RB v3 (W4.heap.size + 1) := r0b2.ext bl3); (try have r1a3 : RB v3 (v1.heap.size) := r1a2.ext bl3); (try have r1b3 : RB v3 (v1.heap.size + 1) := r1b2.ext bl3); (try have r2a3 : RB v3 v2.heap.size := RB.ext (RB.c1 _ false none 0 0 34) hx3); (try have r2a3 : RB v3 v2.heap.size := RB.ext (RB.b1 _ false none 0 0 34 _) hx3); (try have r2b3 : RB v3 (v2.heap.size + 1) := RB.ext (RB.b2 _ false none 0 0 34 _) hx3); (try have l0a3 := r0a3.lt); (try have l0b3 := r0b3.lt); (try have l1a3 := r1a3.lt); (try have l1b3 := r1b3.lt); (try have l2a3 := r2a3.lt); (try have l2b3 := r2b3.lt); (try (have _q := r0a3.lt; obtain ⟨_, _, _, _, k0a0, k0a1, k0a2, k0a3⟩ := r0a3.facts)); (try (have _q := r0b3.lt; obtain ⟨_, _, _, _, k0b0, k0b1, k0b2, k0b3⟩ := r0b3.facts)); (try (have _q := r1a3.lt; obtain ⟨_, _, _, _, k1a0, k1a1, k1a2, k1a3⟩ := r1a3.facts)); (try (have _q := r1b3.lt; obtain ⟨_, _, _, _, k1b0, k1b1, k1b2, k1b3⟩ := r1b3.facts)); (try (have _q := r2a3.lt; obtain ⟨_, _, _, _, k2a0, k2a1, k2a2, k2a3⟩ := r2a3.facts)); (try (have _q := r2b3.lt; obtain ⟨_, _, _, _, k2b0, k2b1, k2b2, k2b3⟩ := r2b3.facts)); (try (have _q1 := r0a3.lt; have _q2 := r0b3.lt; obtain ⟨_, _, _, _, k0a0b0, k0a0b1, k0a0b2, k0a0b3⟩ := (r0a3.far r0b3 (by omega) (.bool b1) (.slice A1 n1 c1)).facts)); (try (have _q1 := r0a3.lt; have _q2 := r1a3.lt; obtain ⟨_, _, _, _, k0a1a0, k0a1a1, k0a1a2, k0a1a3⟩ := (r0a3.far r1a3 (by omega) (.bool b1) (.slice A1 n1 c1)).facts)); (try (have _q1 := r0a3.lt; have _q2 := r2a3.lt; obtain ⟨_, _, _, _, k0a2a0, k0a2a1, k0a2a2, k0a2a3⟩ := (r0a3.far r2a3 (by omega) (.bool b1) (.slice A1 n1 c1)).facts)); (try (have _q1 := r0b3.lt; have _q2 := r0a3.lt; obtain ⟨_, _, _, _, k0b0a0, k0b0a1, k0b0a2, k0b0a3⟩ := (r0b3.far r0a3 (by omega) (.bool b1) (.slice A1 n1 c1)).facts)); (try (have _q1 := r1a3.lt; have _q2 := r0a3.lt; obtain ⟨_, _, _, _, k1a0a0, k1a0a1, k1a0a2, k1a0a3⟩ := (r1a3.far r0a3 (by omega) (.bool b1) (.slice A1 n1 c1)).facts)); (try (have _q1 := r1a3.lt; have _q2 := r1b3.lt; obtain ⟨_, _, _, _, k1a1b0, k1a1b1, k1a1b2, k1a1b3⟩ := (r1a3.far r1b3 (by omega) (.bool b1) (.slice A1 n1 c1)).facts)); (try (have _q1 := r1a3.lt; have _q2 := r2a3.lt; obtain ⟨_, _, _, _, k1a2a0, k1a2a1, k1a2a2, k1a2a3⟩ := (r1a3.far r2a3 (by omega) (.bool b1) (.slice A1 n1 c1)).facts)); (try (have _q1 := r1b3.lt; have _q2 := r1a3.lt; obtain ⟨_, _, _, _, k1b1a0, k1b1a1, k1b1a2, k1b1a3⟩ := (r1b3.far r1a3 (by omega) (.bool b1) (.slice A1 n1 c1)).facts)); (try (have _q1 := r2a3.lt; have _q2 := r0a3.lt; obtain ⟨_, _, _, _, k2a0a0, k2a0a1, k2a0a2, k2a0a3⟩ := (r2a3.far r0a3 (by omega) (.bool b1) (.slice A1 n1 c1)).facts)); (try (have _q1 := r2a3.lt; have _q2 := r1a3.lt; obtain ⟨_, _, _, _, k2a1a0, k2a1a1, k2a1a2, k2a1a3⟩ := (r2a3.far r1a3 (by omega) (.bool b1) (.slice A1 n1 c1)).facts)); (try (have _q1 := r2a3.lt; have _q2 := r2b3.lt; obtain ⟨_, _, _, _, k2a2b0, k2a2b1, k2a2b2, k2a2b3⟩ := (r2a3.far r2b3 (by omega) (.bool b1) (.slice A1 n1 c1)).facts)); (try (have _q1 := r2b3.lt; have _q2 := r2a3.lt; obtain ⟨_, _, _, _, k2b2a0, k2b2a1, k2b2a2, k2b2a3⟩ := (r2b3.far r2a3 (by omega) (.bool b1) (.slice A1 n1 c1)).facts))))
    all_goals go_wp2_with fail
    all_goals
      have bl := (bl1.trans bl2).trans bl3
      have TZ : TwoZ w v3 z1 z2 (w.heap.size + 1 + 1) (w.heap.size + 1 + 1 + 1) W4.heap.size b1 A1 n1 c1 b2 A2 n2 c2 := ⟨hz1, hz2, HR3.out.ext bl, HR4.out.ext bl, Hb3.out.trans (Below.mono bl Hb3.out.size), by omega, by omega, by omega⟩
      go_meet
      with_reducible first
        | exact TZ.new
        | exact TZ.new'
        | exact TZ.mix r0a3 (by omega)
        | exact TZ.mix' r0a3 (by omega)
        | exact TZ.mix r1a3 (by omega)
        | exact TZ.mix' r1a3 (by omega)
        | exact TZ.mix r2a3 (by omega)
        | exact TZ.mix' r2a3 (by omega)
        | exact TZ.old r0a3 r0b3 (by omega) (by omega) (by omega)
        | exact TZ.old r0a3 r1a3 (by omega) (by omega) (by omega)
        | exact TZ.old r0a3 r2a3 (by omega) (by omega) (by omega)
        | exact TZ.old r0b3 r0a3 (by omega) (by omega) (by omega)
        | exact TZ.old r1a3 r0a3 (by omega) (by omega) (by omega)
        | exact TZ.old r1a3 r1b3 (by omega) (by omega) (by omega)
        | exact TZ.old r1a3 r2a3 (by omega) (by omega) (by omega)
        | exact TZ.old r1b3 r1a3 (by omega) (by omega) (by omega)
        | exact TZ.old r2a3 r0a3 (by omega) (by omega) (by omega)
        | exact TZ.old r2a3 r1a3 (by omega) (by omega) (by omega)
        | exact TZ.old r2a3 r2b3 (by omega) (by omega) (by omega)
        | exact TZ.old r2b3 r2a3 (by omega) (by omega) (by omega)
  case rest =>
    obtain ⟨g8, g9, rfl, rfl, h8, h9, r3, r4, hbc, n1, n2, n3, n4⟩ := hcut
    have l8 := h8.lt
    have l9 := h9.lt
    obtain ⟨b8, A8, n8, c8, k80, k81, hz8⟩ := h8
    obtain ⟨b9, A9, n9, c9, k90, k91, hz9⟩ := h9
    have ks : ∀ Y, Ext wc Y → Y.cell? ⟨g8, 0, none⟩ = some (.bool b8) ∧ Y.cell? ⟨g8, 1, none⟩ = some (.slice A8 n8 c8) ∧ Y.cell? ⟨g9, 0, none⟩ = some (.bool b9) ∧ Y.cell? ⟨g9, 1, none⟩ = some (.slice A9 n9 c9) := fun Y h => ⟨keepAt h (by omega) k80, keepAt h (by omega) k81, keepAt h (by omega) k90, keepAt h (by omega) k91⟩
    have KS := Lib.hid ks; clear ks
    have ks3 : ∀ (Y : World) (u v : Value), (Y.cell? ⟨g8, 0, none⟩ = some (.bool b8) ∧ Y.cell? ⟨g8, 1, none⟩ = some (.slice A8 n8 c8) ∧ Y.cell? ⟨g9, 0, none⟩ = some (.bool b9) ∧ Y.cell? ⟨g9, 1, none⟩ = some (.slice A9 n9 c9)) → ((Y.setCell ⟨w.heap.size + 1 + 1, 0, none⟩ u).setCell ⟨w.heap.size + 1 + 1, 1, none⟩ v).cell? ⟨g8, 0, none⟩ = some (.bool b8) ∧ ((Y.setCell ⟨w.heap.size + 1 + 1, 0, none⟩ u).setCell ⟨w.heap.size + 1 + 1, 1, none⟩ v).cell? ⟨g8, 1, none⟩ = some (.slice A8 n8 c8) ∧ ((Y.setCell ⟨w.heap.size + 1 + 1, 0, none⟩ u).setCell ⟨w.heap.size + 1 + 1, 1, none⟩ v).cell? ⟨g9, 0, none⟩ = some (.bool b9) ∧ ((Y.setCell ⟨w.heap.size + 1 + 1, 0, none⟩ u).setCell ⟨w.heap.size + 1 + 1, 1, none⟩ v).cell? ⟨g9, 1, none⟩ = some (.slice A9 n9 c9) := fun Y u v ⟨a, b, c, d⟩ => ⟨(far2 n1).trans a, (far2 n1).trans b, (far2 n3).trans c, (far2 n3).trans d⟩
    have ks4 : ∀ (Y : World) (u v : Value), (Y.cell? ⟨g8, 0, none⟩ = some (.bool b8) ∧ Y.cell? ⟨g8, 1, none⟩ = some (.slice A8 n8 c8) ∧ Y.cell? ⟨g9, 0, none⟩ = some (.bool b9) ∧ Y.cell? ⟨g9, 1, none⟩ = some (.slice A9 n9 c9)) → ((Y.setCell ⟨w.heap.size + 1 + 1 + 1, 0, none⟩ u).setCell ⟨w.heap.size + 1 + 1 + 1, 1, none⟩ v).cell? ⟨g8, 0, none⟩ = some (.bool b8) ∧ ((Y.setCell ⟨w.heap.size + 1 + 1 + 1, 0, none⟩ u).setCell ⟨w.heap.size + 1 + 1 + 1, 1, none⟩ v).cell? ⟨g8, 1, none⟩ = some (.slice A8 n8 c8) ∧ ((Y.setCell ⟨w.heap.size + 1 + 1 + 1, 0, none⟩ u).setCell ⟨w.heap.size + 1 + 1 + 1, 1, none⟩ v).cell? ⟨g9, 0, none⟩ = some (.bool b9) ∧ ((Y.setCell ⟨w.heap.size + 1 + 1 + 1, 0, none⟩ u).setCell ⟨w.heap.size + 1 + 1 + 1, 1, none⟩ v).cell? ⟨g9, 1, none⟩ = some (.slice A9 n9 c9) := fun Y u v ⟨a, b, c, d⟩ => ⟨(far2 n2).trans a, (far2 n2).trans b, (far2 n4).trans c, (far2 n4).trans d⟩
    have KS3 := Lib.hid ks3; clear ks3
    have KS4 := Lib.hid ks4; clear ks4
    have c531 : ∀ W, Ext wc W → Calls Try.prog 17 #[.agg #[.bool b8, .slice A8 n8 c8]] W fun e w' => ∃ b A n c, e = .returned (.agg #[.bool b, .slice A n c]) ∧ ZV w' (.agg #[.bool b, .slice A n c]) z1 ∧ Ext W w' := fun W h => asAgg ((int_any b8 A8 n8 c8 W).mono fun e w' ⟨he, hbb⟩ => ⟨_, he, (hz8.ext h).below hbb, hbb⟩)
    have c532 : ∀ W, Ext wc W → Calls Try.prog 17 #[.agg #[.bool b9, .slice A9 n9 c9]] W fun e w' => ∃ b A n c, e = .returned (.agg #[.bool b, .slice A n c]) ∧ ZV w' (.agg #[.bool b, .slice A n c]) z2 ∧ Ext W w' := fun W h => asAgg ((int_any b9 A9 n9 c9 W).mono fun e w' ⟨he, hbb⟩ => ⟨_, he, (hz9.ext h).below hbb, hbb⟩)
    have C1 := Lib.hid c531; clear c531
    have C2 := Lib.hid c532; clear c532
    have R3 := Lib.hid r3; clear r3
    have R4 := Lib.hid r4; clear r4
    have Hbc := Lib.hid hbc; clear hbc HR3 HR4 Hb3 Hx3 Hy3 j10 j11 j20 j21
    have tk0 : True := trivial
    go_wp2_with fail
    go_region_held3 (fun w' => w'.cell? ⟨g8, 0, none⟩ = some (.bool b8) ∧ w'.cell? ⟨g8, 1, none⟩ = some (.slice A8 n8 c8) ∧ w'.cell? ⟨g9, 0, none⟩ = some (.bool b9) ∧ w'.cell? ⟨g9, 1, none⟩ = some (.slice A9 n9 c9))
      (first | with_reducible exact ⟨k80, k81, k90, k91⟩ | (refine KS.out _ ?_; with_reducible (repeat (first | exact Ext.refl _ | refine Ext.drw ?_ | refine Ext.trans ?_ hx7 | refine Ext.trans ?_ hx6)); done) | (with_reducible refine KS3.out _ _ _ ?_; with_reducible exact HI.out) | (with_reducible refine KS4.out _ _ _ ?_; with_reducible refine KS3.out _ _ _ ?_; with_reducible exact HI.out))
      (first | (go_at_call 17; have _t := tk0; refine (C1.out _ (by with_reducible (repeat (first | exact Ext.refl _ | refine Ext.drw ?_)))).mono ?_; rintro e w6 ⟨b1, A1, n1', c1, rfl, hz1, hx6⟩; clear tk0) | (go_at_call 17; refine (C2.out _ (by with_reducible (repeat (first | exact Ext.refl _ | refine Ext.drw ?_ | refine Ext.trans ?_ hx6)))).mono ?_; rintro e w7 ⟨b2, A2, n2', c2, rfl, hz2, hx7⟩; have bl7 : Ext wc w7 := (by with_reducible (repeat (first | exact Ext.refl _ | refine Ext.drw ?_ | refine Ext.trans ?_ hx7 | refine Ext.trans ?_ hx6))); have s3 := R3.out.ext bl7; have s4 := R4.out.ext bl7; have HI := Lib.hid (KS.out w7 bl7); obtain ⟨_, _, _, _, g30, g31, g32, g33⟩ := s3.facts; obtain ⟨_, _, _, _, g40, g41, g42, g43⟩ := s4.facts; obtain ⟨_, _, _, _, g50, g51, g52, g53⟩ := (s4.far s3 (by omega) (.bool b1) (.slice A1 n1' c1)).facts))
    obtain ⟨W', hW', f1, f2, f3, f4, hzz1, hzz2, hbf⟩ := two_res s3 s4 (by omega) b1 A1 n1' c1 b2 A2 n2' c2 (hz1.ext hx7) hz2 (Hbc.out.trans (Below.mono bl7 Hbc.out.size)) (by omega) (by omega)
    have HF := Lib.hid (And.intro hzz1 (And.intro hzz2 (And.intro hbf (And.intro f1 (And.intro f2 (And.intro f3 f4))))))
    have HW' := Lib.hid hW'
    clear hzz1 hzz2 hbf f1 f2 f3 f4 hW'
    go_wp2
    rw [← HW'.out]
    obtain ⟨hzz1, hzz2, hbf, f1, f2, f3, f4⟩ := HF.out
    exact bodyPost_ret (v := .tuple #[.agg #[.bool b1, .slice A1 n1' c1], .agg #[.bool b2, .slice A2 n2' c2], .int .i64 0]) (by simp [results, Try.results29, go_sem, f1, f2, f3, f4]) rfl ⟨_, _, _, _, _, _, _, _, rfl, hzz1, hzz2, hbf⟩

/-- ref Div -/
theorem refDiv_u (p q : Bool) (A A' : Option Addr) (n c n' c' : Nat) (l l' : List Nat) (w : World) (hx : Wd w (.slice A n c) l) (hy : Wd w (.slice A' n' c') l') :
    Calls Try.prog 29 #[.agg #[.bool p, .slice A n c], .agg #[.bool q, .slice A' n' c']] w (RetDiv w (divQ p q l l') (divR p q l l') (divE p q l l')) := by
  unfold divQ divR divE
  by_cases h : (vld p l && vld q l') = true
  · rw [if_pos h, if_pos h, if_pos h]
    have h' := h
    simp at h'
    by_cases h0 : numOf q l' = 0
    · rw [if_pos h0, if_pos h0, if_pos h0]
      exact refDiv_zero p q A A' n c n' c' l l' w hx hy h'.1 h'.2 h0
    · rw [if_neg h0, if_neg h0, if_neg h0]
      exact refDiv_yes p q A A' n c n' c' l l' w hx hy h'.1 h'.2 h0
  · rw [if_neg h, if_neg h, if_neg h]
    by_cases hp : vld p l = true
    · exact refDiv_nob p q A A' n c n' c' l l' w hx hy hp (by simpa [hp] using h)
    · exact refDiv_noa p q A A' n c n' c' l l' w hx hy (by simpa using hp)
end Go.Proofs.Ytmlopkkbgpfdnaa
namespace Go.Proofs.Ytmlopkkbgpfdnaa
open Go.RowKit

theorem sameR_true (z : Int) (a b : Value) (W : World) (ha : ZV W a z) (hb : ZV W b z) : Calls Try.prog 16 #[a, b] W fun e w' => e = .returned (.bool true) ∧ Ext W w' := by
  have := sameR_any z z a b W ha hb
  rwa [show decide (z = z) = true from by simp] at this

/-- two new blocks with structs -/
theorem two_new (X : World) (b1 : Bool) (A1 : Option Addr) (n1 c1 : Nat) (b2 : Bool) (A2 : Option Addr) (n2 c2 : Nat) (t : TypeId) (l1 l2 : List Nat) (h1 : Wd X (.slice A1 n1 c1) l1) (h2 : Wd X (.slice A2 n2 c2) l2) :
    HW ((X.alloc (.cells #[.bool b1, .slice A1 n1 c1] t)).alloc (.cells #[.bool b2, .slice A2 n2 c2] t)) X.heap.size b1 A1 n1 c1 l1 ∧ HW ((X.alloc (.cells #[.bool b1, .slice A1 n1 c1] t)).alloc (.cells #[.bool b2, .slice A2 n2 c2] t)) (X.heap.size + 1) b2 A2 n2 c2 l2 := by
  refine ⟨(HW.new X b1 A1 n1 c1 l1 t h1).alloc _, ?_⟩
  have := HW.new (X.alloc (.cells #[.bool b1, .slice A1 n1 c1] t)) b2 A2 n2 c2 l2 t (h2.below (below1 _ _))
  simpa using this

theorem HW.zv {W : World} {g : Nat} {b : Bool} {A : Option Addr} {n c : Nat} {z : Int} (H : HW W g b A n c (dig z.natAbs)) (hb : b = decide (z < 0)) : ZV W (.agg #[.bool b, .slice A n c]) z := ZV.mk hb H.w

set_option maxHeartbeats 2000000 in
set_option maxRecDepth 100000 in
theorem exactDiv_walk (p q : Bool) (A A' : Option Addr) (n c n' c' : Nat) (l l' : List Nat) (w : World) (hx : Wd w (.slice A n c) l) (hy : Wd w (.slice A' n' c') l') :
    Calls Try.prog 6 #[.agg #[.bool p, .slice A n c], .agg #[.bool q, .slice A' n' c']] w fun e w' => e = .returned (.bool true) ∧ Below w.heap.size w w' := by
  obtain ⟨h1, h2⟩ := two_new w p A n c q A' n' c' 24 l l' hx hy
  have hb := below2 w (Obj.cells #[.bool p, .slice A n c] 24) (Obj.cells #[.bool q, .slice A' n' c'] 24)
  have H1 := Lib.hid h1; clear h1
  have H2 := Lib.hid h2; clear h2
  have Hb := Lib.hid hb; clear hb hx hy
  obtain ⟨zq, hzq⟩ : ∃ z, z = divQ p q l l' := ⟨_, rfl⟩
  obtain ⟨zr, hzr⟩ : ∃ z, z = divR p q l l' := ⟨_, rfl⟩
  obtain ⟨er, her⟩ : ∃ z, z = divE p q l l' := ⟨_, rfl⟩
  have d1 : ∀ W : World, Wd W (.slice A n c) l → Wd W (.slice A' n' c') l' → Calls Try.prog 28 #[.agg #[.bool p, .slice A n c], .agg #[.bool q, .slice A' n' c']] W (RetDiv W zq zr er) := fun W a b => by rw [hzq, hzr, her]; exact exactDiv_u p q A A' n c n' c' l l' W a b
  have d2 : ∀ W : World, Wd W (.slice A n c) l → Wd W (.slice A' n' c') l' → Calls Try.prog 29 #[.agg #[.bool p, .slice A n c], .agg #[.bool q, .slice A' n' c']] W (RetDiv W zq zr er) := fun W a b => by rw [hzq, hzr, her]; exact refDiv_u p q A A' n c n' c' l l' W a b
  have D1 := Lib.hid d1; clear d1
  have D2 := Lib.hid d2; clear d2
  clear hzq hzr her
  have ht : (er == er) = true := by simp
  go_enter Try.func6, Try.ntmps6
  go_wp2_with fail
  refine (D1.out _ H1.out.w H2.out.w).mono ?_
  rintro e w2 ⟨b1, A1, n1, c1, b2, A2, n2, c2, rfl, hz1, hz2, hb2⟩
  have hx2 : Ext _ w2 := hb2
  have s2 : w.heap.size + 2 ≤ w2.heap.size := by have := hx2.size; simpa using this
  obtain ⟨e1, w1⟩ := hz1.words
  obtain ⟨e2, w2'⟩ := hz2.words
  obtain ⟨k1, k2⟩ := two_new w2 b1 A1 n1 c1 b2 A2 n2 c2 24 _ _ w1 w2'
  have x3 : Ext w2 ((w2.alloc (Obj.cells #[.bool b1, .slice A1 n1 c1] 24)).alloc (Obj.cells #[.bool b2, .slice A2 n2 c2] 24)) := ((Ext.refl w2).alc _).alc _
  have m1 := (H1.out.ext hx2).ext x3
  have m2 := (H2.out.ext hx2).ext x3
  have hbb := (Hb.out.trans (Below.mono hx2 Hb.out.size))
  have hb3 := hbb.trans (Below.mono x3 hbb.size)
  have c10 := m1.c0
  have c11 := m1.c1
  have c20 := m2.c0
  have c21 := m2.c1
  have HF := Lib.hid (And.intro k1 (And.intro k2 (And.intro m1 (And.intro m2 (And.intro hb3 (And.intro e1 (And.intro e2 x3.size)))))))
  clear k1 k2 m1 m2 hb3 hbb x3 w1 w2' hz1 hz2 hb2 hx2 H1 H2 Hb e1 e2
  go_wp2_with fail
  obtain ⟨k1, k2, m1, m2, hb3, e1, e2, s3⟩ := HF.out
  clear HF c10 c11 c20 c21
  generalize ((w2.alloc (Obj.cells #[.bool b1, .slice A1 n1 c1] 24)).alloc (Obj.cells #[.bool b2, .slice A2 n2 c2] 24)) = W3 at *
  refine (D2.out _ m1.w m2.w).mono ?_
  rintro e w4 ⟨b3, A3, n3, c3, b4, A4, n4, c4, rfl, hz3, hz4, hb4⟩
  have hx4 : Ext W3 w4 := hb4
  obtain ⟨e3, w3⟩ := hz3.words
  obtain ⟨e4, w4'⟩ := hz4.words
  obtain ⟨k3, k4⟩ := two_new w4 b3 A3 n3 c3 b4 A4 n4 c4 24 _ _ w3 w4'
  have x5 : Ext w4 ((w4.alloc (Obj.cells #[.bool b3, .slice A3 n3 c3] 24)).alloc (Obj.cells #[.bool b4, .slice A4 n4 c4] 24)) := ((Ext.refl w4).alc _).alc _
  have j1 := (k1.ext hx4).ext x5
  have j2 := (k2.ext hx4).ext x5
  have hbb := (hb3.trans (Below.mono hx4 hb3.size))
  have hb5 := hbb.trans (Below.mono x5 hbb.size)
  have c10 := j1.c0
  have c11 := j1.c1
  have c20 := j2.c0
  have c21 := j2.c1
  have c30 := k3.c0
  have c31 := k3.c1
  have c40 := k4.c0
  have c41 := k4.c1
  have HF := Lib.hid (And.intro j1 (And.intro j2 (And.intro k3 (And.intro k4 (And.intro hb5 (And.intro e1 (And.intro e2 (And.intro e3 e4))))))))
  clear k1 k2 m1 m2 hb3 hbb x5 w3 w4' hz3 hz4 hb4 hx4 e1 e2 e3 e4 j1 j2 k3 k4 s3
  obtain ⟨g1, hg1⟩ : ∃ g, g = w2.heap.size := ⟨_, rfl⟩
  rw [← hg1] at c10 c11 c20 c21 HF s2 ⊢
  clear hg1
  go_wp2_with fail
  obtain ⟨j1, j2, k3, k4, hb5, e1, e2, e3, e4⟩ := HF.out
  clear HF c10 c11 c20 c21 c30 c31 c40 c41
  generalize ((w4.alloc (Obj.cells #[.bool b3, .slice A3 n3 c3] 24)).alloc (Obj.cells #[.bool b4, .slice A4 n4 c4] 24)) = W5 at *
  obtain ⟨g2, hg2⟩ : ∃ g, g = w4.heap.size := ⟨_, rfl⟩
  rw [← hg2] at k3 k4
  try rw [← hg2]
  clear hg2
  refine (sameR_true zq _ _ _ (j1.zv e1) (k3.zv e3)).mono ?_
  rintro e w6 ⟨rfl, hx6⟩
  have j2' := j2.ext hx6
  have k4' := k4.ext hx6
  have hb6 := hb5.trans (Below.mono hx6 hb5.size)
  have c20 := j2'.c0
  have c21 := j2'.c1
  have c40 := k4'.c0
  have c41 := k4'.c1
  have za := j2'.zv e2
  have zb := k4'.zv e4
  have HF := Lib.hid (And.intro za (And.intro zb hb6))
  clear za zb hb6 j2' k4' j1 j2 k3 k4 hb5 e1 e2 e3 e4 hx6
  go_wp2_with fail
  obtain ⟨za, zb, hb6⟩ := HF.out
  clear HF
  refine (sameR_true zr _ _ _ za zb).mono ?_
  rintro e w7 ⟨rfl, hx7⟩
  have HF := Lib.hid (hb6.trans (Below.mono hx7 hb6.size))
  clear za zb hb6 hx7 c20 c21 c40 c41
  go_wp2_with fail
  refine (awake_any _).mono ?_
  rintro e w8 ⟨rfl, hb8⟩
  have hb7 := HF.out
  have HF2 := Lib.hid (hb7.trans (hb8.mono hb7.size))
  clear HF hb7 hb8
  go_wp2
  go_ret
  exact ⟨rfl, HF2.out⟩
end Go.Proofs.Ytmlopkkbgpfdnaa
namespace Go.Proofs.Ytmlopkkbgpfdnaa
open Go.RowKit

/-- the reference's Gcd, uniformly -/
theorem refGcd_u (p q : Bool) (A A' : Option Addr) (n c n' c' : Nat) (l l' : List Nat) (w : World) (hx : Wd w (.slice A n c) l) (hy : Wd w (.slice A' n' c') l') :
    Calls Try.prog 31 #[.agg #[.bool p, .slice A n c], .agg #[.bool q, .slice A' n' c']] w (RetA w (ansZ p q l l' ((Int.gcd (numOf p l) (numOf q l') : Nat) : Int)) (ansE p q l l' ((Int.gcd (numOf p l) (numOf q l') : Nat) : Int))) := by
  unfold ansZ ansE
  by_cases h : (vld p l && vld q l') = true
  · rw [if_pos h, if_pos h]
    have hp : vld p l = true := by simp at h; exact h.1
    have hq : vld q l' = true := by simp at h; exact h.2
    have hf : (dig ((Int.gcd (numOf p l) (numOf q l') : Nat) : Int).natAbs).length ≤ 256 :=
      gcd_len (by rw [vld_dig hx.ok hp]; exact vld_len hp) (by rw [vld_dig hy.ok hq]; exact vld_len hq)
    rw [if_pos hf, if_pos hf]
    exact refGcd_yes p q A A' n c n' c' l l' w hx hy hp hq
  · rw [if_neg h, if_neg h]
    have h : (vld p l && vld q l') = false := by simpa using h
    by_cases hp : vld p l = true
    · have hq : vld q l' = false := by rw [hp] at h; simpa using h
      refine ((refGcd_nob p q A A' n c n' c' l l' w hx hy hp hq).mono ?_)
      rintro e w' ⟨rfl, hb⟩
      exact ⟨false, none, 0, 0, rfl, zv_zero _, hb⟩
    · have hp : vld p l = false := by simpa using hp
      refine ((refGcd_noa p q A A' n c n' c' l l' w hx hy hp).mono ?_)
      rintro e w' ⟨rfl, hb⟩
      exact ⟨false, none, 0, 0, rfl, zv_zero _, hb⟩

/-- three results in their blocks, and all that stays -/
theorem three_put {W : World} {g h k : Nat} (R1 : RB W g) (R2 : RB W h) (R3 : RB W k) (n1 : h ≠ g) (n2 : k ≠ g) (n3 : k ≠ h) (b1 : Bool) (A1 : Option Addr) (m1 c1 : Nat) (b2 : Bool) (A2 : Option Addr) (m2 c2 : Nat) (b3 : Bool) (A3 : Option Addr) (m3 c3 : Nat) {z1 z2 z3 : Int}
    (h1 : ZV W (.agg #[.bool b1, .slice A1 m1 c1]) z1) (h2 : ZV W (.agg #[.bool b2, .slice A2 m2 c2]) z2) (h3 : ZV W (.agg #[.bool b3, .slice A3 m3 c3]) z3)
    {B : Nat} {w : World} (hb : Below B w W) (hg : B ≤ g) (hh : B ≤ h) (hk : B ≤ k) :
    ∃ W', W' = (((((W.setCell ⟨g, 0, none⟩ (.bool b1)).setCell ⟨g, 1, none⟩ (.slice A1 m1 c1)).setCell ⟨h, 0, none⟩ (.bool b2)).setCell ⟨h, 1, none⟩ (.slice A2 m2 c2)).setCell ⟨k, 0, none⟩ (.bool b3)).setCell ⟨k, 1, none⟩ (.slice A3 m3 c3) ∧
    HZ W' g z1 ∧ HZ W' h z2 ∧ HZ W' k z3 ∧ RB W' g ∧ RB W' h ∧ RB W' k ∧ Below B w W' ∧
    (∀ j, RB W j → j ≠ g → j ≠ h → j ≠ k → RB W' j) ∧ (∀ j z, HZ W j z → j ≠ g → j ≠ h → j ≠ k → HZ W' j z) ∧ (∀ j p A n c l, HW W j p A n c l → j ≠ g → j ≠ h → j ≠ k → HW W' j p A n c l) ∧
    RB ((W.setCell ⟨g, 0, none⟩ (.bool b1)).setCell ⟨g, 1, none⟩ (.slice A1 m1 c1)) h ∧
    RB ((((W.setCell ⟨g, 0, none⟩ (.bool b1)).setCell ⟨g, 1, none⟩ (.slice A1 m1 c1)).setCell ⟨h, 0, none⟩ (.bool b2)).setCell ⟨h, 1, none⟩ (.slice A2 m2 c2)) k := by
  have T := R2.far R1 n1 (.bool b1) (.slice A1 m1 c1)
  have U := (R3.far R1 n2 (.bool b1) (.slice A1 m1 c1)).far T n3 (.bool b2) (.slice A2 m2 c2)
  have G := R1.set b1 A1 m1 c1
  have H := T.set b2 A2 m2 c2
  refine ⟨_, rfl, ((HZ.put R1 h1).far T (by omega) _ _).far U (by omega) _ _, (HZ.put T (h2.rb R1 _ _)).far U (by omega) _ _, HZ.put U ((h3.rb R1 _ _).rb T _ _), (G.far T (by omega) _ _).far U (by omega) _ _, H.far U (by omega) _ _, U.set _ _ _ _, below_set2 (below_set2 (below_set2 hb hg _ _) hh _ _) hk _ _,
    fun j r a b c => ((r.far R1 a _ _).far T b _ _).far U c _ _, fun j z r a b c => ((r.far R1 a _ _).far T b _ _).far U c _ _, fun j p A n c l r a b d => ((r.far R1 a _ _).far T b _ _).far U d _ _, T, U⟩

set_option maxHeartbeats 2000000 in
set_option maxRecDepth 100000 in
theorem exactGcd_walk (p q : Bool) (A A' : Option Addr) (n c n' c' : Nat) (l l' : List Nat) (w : World) (hx : Wd w (.slice A n c) l) (hy : Wd w (.slice A' n' c') l') :
    Calls Try.prog 7 #[.agg #[.bool p, .slice A n c], .agg #[.bool q, .slice A' n' c']] w fun e w' => e = .returned (.bool true) ∧ Below w.heap.size w w' := by
  obtain ⟨h1, h2⟩ := two_new w p A n c q A' n' c' 24 l l' hx hy
  obtain ⟨W0, hW0⟩ : ∃ W0, W0 = (w.alloc (Obj.cells #[.bool p, .slice A n c] 24)).alloc (Obj.cells #[.bool q, .slice A' n' c'] 24) := ⟨_, rfl⟩
  have e0 : Ext w W0 := by rw [hW0]; exact ((Ext.refl w).alc _).alc _
  have s0 : W0.heap.size = w.heap.size + 1 + 1 := by rw [hW0]; simp
  rw [← hW0] at h1 h2
  have H1 := Lib.hid h1; have H2 := Lib.hid h2; have E0 := Lib.hid e0; have HW0 := Lib.hid hW0
  obtain ⟨zg, hzg⟩ : ∃ z, z = ansZ p q l l' ((Int.gcd (numOf p l) (numOf q l') : Nat) : Int) := ⟨_, rfl⟩
  obtain ⟨er, her⟩ : ∃ z, z = ansE p q l l' ((Int.gcd (numOf p l) (numOf q l') : Nat) : Int) := ⟨_, rfl⟩
  have C1 := Lib.hid (show ∀ W : World, Wd W (.slice A n c) l → Wd W (.slice A' n' c') l' → Calls Try.prog 30 #[.agg #[.bool p, .slice A n c], .agg #[.bool q, .slice A' n' c']] W (RetA W zg er) from fun W a b => by rw [hzg, her]; exact exactGcd_u p q A A' n c n' c' l l' W a b)
  have C2 := Lib.hid (show ∀ W : World, Wd W (.slice A n c) l → Wd W (.slice A' n' c') l' → Calls Try.prog 31 #[.agg #[.bool p, .slice A n c], .agg #[.bool q, .slice A' n' c']] W (RetA W zg er) from fun W a b => by rw [hzg, her]; exact refGcd_u p q A A' n c n' c' l l' W a b)
  have C3 := Lib.hid (show ∀ W : World, Wd W (.slice A n c) l → Wd W (.slice A' n' c') l' → Calls Try.prog 32 #[.agg #[.bool p, .slice A n c], .agg #[.bool q, .slice A' n' c']] W fun e w' => ∃ g x y er, ExtIs p q l l' g x y er ∧ RetExt W g x y er e w' from fun W a b => exactExt_u p q A A' n c n' c' l l' W a b)
  have C4 := Lib.hid (show ∀ W : World, Wd W (.slice A n c) l → Wd W (.slice A' n' c') l' → Calls Try.prog 33 #[.agg #[.bool p, .slice A n c], .agg #[.bool q, .slice A' n' c']] W fun e w' => ∃ g x y er, ExtIs p q l l' g x y er ∧ RetExt W g x y er e w' from fun W a b => refExt_u p q A A' n c n' c' l l' W a b)
  clear hzg her hW0 h1 h2 e0 hx hy
  go_enter Try.func7, Try.ntmps7
  go_upto_region 1 with fail
  rw [← HW0.out]
  have c10 := H1.out.c0; have c11 := H1.out.c1; have c20 := H2.out.c0; have c21 := H2.out.c1
  clear HW0
  go_wp2_with fail
  refine (C1.out _ H1.out.w H2.out.w).mono ?_
  rintro e w1 ⟨b1, A1, n1, c1, rfl, hz, hb⟩
  have Z1 := Lib.hid hz; have X1 := Lib.hid (show Ext W0 w1 from hb)
  clear hz hb c10 c11 c20 c21 C1
  go_upto_region 2 with fail
  obtain ⟨W1, hW1⟩ : ∃ W1, W1 = w1.alloc (Obj.cells #[.bool b1, .slice A1 n1 c1] 24) := ⟨_, rfl⟩
  have e1 : Ext W0 W1 := by rw [hW1]; exact X1.out.alc _
  have i5 : HZ W1 w1.heap.size zg := by rw [hW1]; exact HZ.lit w1 b1 A1 n1 c1 24 Z1.out
  have r5 : RB W1 w1.heap.size := by rw [hW1]; exact RB.c1 w1 b1 A1 n1 c1 24
  rw [← hW1]
  obtain ⟨g5, hg5⟩ : ∃ k, k = w1.heap.size := ⟨_, rfl⟩
  have l5 : w.heap.size + 1 < g5 := by rw [hg5]; have := X1.out.size; omega
  rw [← hg5] at i5 r5 ⊢
  have H1 := Lib.hid (H1.out.ext e1); have H2 := Lib.hid (H2.out.ext e1); have E1 := Lib.hid (E0.out.trans e1)
  have I5 := Lib.hid i5; have R5 := Lib.hid r5
  have c10 := H1.out.c0; have c11 := H1.out.c1; have c20 := H2.out.c0; have c21 := H2.out.c1
  have m5 := r5.lt
  clear e1 i5 r5 hW1 hg5 E0 X1 Z1
  go_wp2_with fail
  refine (C2.out _ H1.out.w H2.out.w).mono ?_
  rintro e w2 ⟨b2, A2, n2, c2, rfl, hz, hb⟩
  have Z2 := Lib.hid hz; have X2 := Lib.hid (show Ext W1 w2 from hb)
  clear hz hb c10 c11 c20 c21 C2
  go_upto_region 3 with fail
  obtain ⟨W2, hW2⟩ : ∃ W2, W2 = w2.alloc (Obj.cells #[.bool b2, .slice A2 n2 c2] 24) := ⟨_, rfl⟩
  have e2 : Ext W1 W2 := by rw [hW2]; exact X2.out.alc _
  have i7 : HZ W2 w2.heap.size zg := by rw [hW2]; exact HZ.lit w2 b2 A2 n2 c2 24 Z2.out
  have r7 : RB W2 w2.heap.size := by rw [hW2]; exact RB.c1 w2 b2 A2 n2 c2 24
  rw [← hW2]
  obtain ⟨g7, hg7⟩ : ∃ k, k = w2.heap.size := ⟨_, rfl⟩
  have l7 : g5 < g7 := by rw [hg7]; exact Nat.lt_of_lt_of_le m5 X2.out.size
  rw [← hg7] at i7 r7 ⊢
  have i5 := I5.out.ext m5 e2
  have H1 := Lib.hid (H1.out.ext e2); have H2 := Lib.hid (H2.out.ext e2); have E2 := Lib.hid (E1.out.trans e2)
  have R5 := Lib.hid (R5.out.ext e2); have R7 := Lib.hid r7
  have m7 := r7.lt
  obtain ⟨b3, A3, n3, c3, k0, k1, kz⟩ := i5
  obtain ⟨b4, A4, n4, c4, j0, j1, jz⟩ := i7
  have SM := Lib.hid (sameR_true zg _ _ W2 kz jz)
  have ha1 : (er != er) = false := by simp
  clear e2 kz jz r7 hW2 hg7 E1 X2 Z2 I5
  go_wp2_with fail
  refine SM.out.mono ?_
  rintro e w3 ⟨rfl, x3⟩
  have X3 := Lib.hid x3; clear x3 k0 k1 j0 j1 SM
  go_wp2_with fail
  refine (awake_any _).mono ?_
  rintro e w4 ⟨rfl, hb⟩
  have x4 : Ext W2 w4 := X3.out.trans hb
  have H1 := Lib.hid (H1.out.ext x4); have H2 := Lib.hid (H2.out.ext x4); have E4 := Lib.hid (E2.out.trans x4)
  have R5 := Lib.hid (R5.out.ext x4); have R7 := Lib.hid (R7.out.ext x4)
  have m7 := R7.out.lt
  clear x4 hb X3 E2 ha1
  go_upto_region 5 with fail
  have c10 := H1.out.c0; have c11 := H1.out.c1; have c20 := H2.out.c0; have c21 := H2.out.c1
  go_wp2_with fail
  refine (C3.out _ H1.out.w H2.out.w).mono ?_
  rintro e w5 ⟨zg, zx, zy, er2, hie, b1, A1, n1, c1, b2, A2, n2, c2, b3, A3, n3, c3, rfl, hz1, hz2, hz3, hb⟩
  have HIE := Lib.hid hie
  have Z1 := Lib.hid hz1; have Z2 := Lib.hid hz2; have Z3 := Lib.hid hz3; have X5 := Lib.hid (show Ext w4 w5 from hb)
  clear hie hz1 hz2 hz3 hb c10 c11 c20 c21 C3
  obtain ⟨WA, hWA⟩ : ∃ WA, WA = (w5.alloc (.cells #[.bool false, .slice none 0 0] 24)).alloc (.cells #[.bool false, .slice none 0 0] 24) := ⟨_, rfl⟩
  have ea : Ext w5 WA := by rw [hWA]; exact ((Ext.refl _).alc _).alc _
  have q9 : RB WA w5.heap.size := by rw [hWA]; exact (RB.c1 w5 false none 0 0 24).ext ((Ext.refl _).alc _)
  have q10 : RB WA (w5.heap.size + 1) := by
    have := RB.c1 (w5.alloc (.cells #[.bool false, .slice none 0 0] 24)) false none 0 0 24
    rw [World.size_alloc] at this
    rw [hWA]; exact this
  have x5 := X5.out.trans ea
  have q5 := R5.out.ext x5
  have l9 : g7 < w5.heap.size := Nat.lt_of_lt_of_le m7 X5.out.size
  obtain ⟨W6, hW6, t1, t2, t3, t4, t5, t6, t7, t8, t9, t10, T, U⟩ := three_put q5 q9 q10 (by omega) (by omega) (by omega) b1 A1 n1 c1 b2 A2 n2 c2 b3 A3 n3 c3 (Z1.out.ext ea) (Z2.out.ext ea) (Z3.out.ext ea) (Ext.below (E4.out.trans x5)) (by omega) (by omega) (by omega)
  obtain ⟨_, _, _, _, g30, g31, g32, g33⟩ := q5.facts
  obtain ⟨_, _, _, _, g40, g41, g42, g43⟩ := T.facts
  obtain ⟨_, _, _, _, g50, g51, g52, g53⟩ := U.facts
  have s7 := t8 _ (R7.out.ext x5) (by omega) (by omega) (by omega)
  have H1 := Lib.hid (t10 _ _ _ _ _ _ (H1.out.ext x5) (by omega) (by omega) (by omega)); have H2 := Lib.hid (t10 _ _ _ _ _ _ (H2.out.ext x5) (by omega) (by omega) (by omega))
  have HM := Lib.hid (And.intro t1 (And.intro t2 (And.intro t3 (And.intro s7 t7))))
  have HW6 := Lib.hid hW6; have HWA := Lib.hid hWA
  obtain ⟨g9, hg9⟩ : ∃ k, k = w5.heap.size := ⟨_, rfl⟩
  rw [hWA] at g30 g31 g32 g33 g40 g41 g42 g43 g50 g51 g52 g53
  clear t1 t2 t3 t4 t5 t6 t7 t8 t9 t10 T U q5 q9 q10 x5 ea hW6 hWA s7 R5 R7 Z1 Z2 Z3 E4
  go_upto_region 6 with fail
  rw [← HWA.out, ← HW6.out, ← hg9]
  rw [← hg9] at HM l9
  have X5 := X5
  clear g30 g31 g32 g33 g40 g41 g42 g43 g50 g51 g52 g53 HWA HW6 hg9
  have c10 := H1.out.c0; have c11 := H1.out.c1; have c20 := H2.out.c0; have c21 := H2.out.c1
  have u5 := HM.out.1.lt; have u9 := HM.out.2.1.lt; have u10 := HM.out.2.2.1.lt; have u7 := HM.out.2.2.2.1.lt
  go_wp2_with fail
  refine (C4.out _ H1.out.w H2.out.w).mono ?_
  rintro e w7 ⟨zg', zx', zy', er3, hie, b1', A1', n1', c1', b2', A2', n2', c2', b3', A3', n3', c3', rfl, hz1, hz2, hz3, hb⟩
  obtain ⟨rfl, rfl, rfl, rfl⟩ := HIE.out.only hie
  have Z1 := Lib.hid hz1; have Z2 := Lib.hid hz2; have Z3 := Lib.hid hz3; have X7 := Lib.hid (show Ext W6 w7 from hb)
  clear hie hz1 hz2 hz3 hb c10 c11 c20 c21 C4 H1 H2 HIE
  obtain ⟨WA, hWA⟩ : ∃ WA, WA = (w7.alloc (.cells #[.bool false, .slice none 0 0] 24)).alloc (.cells #[.bool false, .slice none 0 0] 24) := ⟨_, rfl⟩
  have ea : Ext w7 WA := by rw [hWA]; exact ((Ext.refl _).alc _).alc _
  have q9 : RB WA w7.heap.size := by rw [hWA]; exact (RB.c1 w7 false none 0 0 24).ext ((Ext.refl _).alc _)
  have q10 : RB WA (w7.heap.size + 1) := by
    have := RB.c1 (w7.alloc (.cells #[.bool false, .slice none 0 0] 24)) false none 0 0 24
    rw [World.size_alloc] at this
    rw [hWA]; exact this
  have x7 := X7.out.trans ea
  have q7 := HM.out.2.2.2.1.ext x7
  have l11 : g9 + 1 < w7.heap.size := Nat.lt_of_lt_of_le u10 X7.out.size
  obtain ⟨W8, hW8, t1, t2, t3, -, -, -, t7, -, t9, -, T, U⟩ := three_put q7 q9 q10 (by omega) (by omega) (by omega) b1' A1' n1' c1' b2' A2' n2' c2' b3' A3' n3' c3' (Z1.out.ext ea) (Z2.out.ext ea) (Z3.out.ext ea) (Below.trans HM.out.2.2.2.2 (Below.mono x7 (Below.size HM.out.2.2.2.2))) (by omega) (by omega) (by omega)
  obtain ⟨_, _, _, _, g30, g31, g32, g33⟩ := q7.facts
  obtain ⟨_, _, _, _, g40, g41, g42, g43⟩ := T.facts
  obtain ⟨_, _, _, _, g50, g51, g52, g53⟩ := U.facts
  have v5 := t9 _ _ (HM.out.1.ext u5 x7) (by omega) (by omega) (by omega)
  have v9 := t9 _ _ (HM.out.2.1.ext u9 x7) (by omega) (by omega) (by omega)
  have v10 := t9 _ _ (HM.out.2.2.1.ext u10 x7) (by omega) (by omega) (by omega)
  have HN := Lib.hid (And.intro v5 (And.intro v9 (And.intro v10 (And.intro t1 (And.intro t2 (And.intro t3 t7))))))
  have HW8 := Lib.hid hW8; have HWA := Lib.hid hWA
  obtain ⟨g11, hg11⟩ : ∃ k, k = w7.heap.size := ⟨_, rfl⟩
  rw [hWA] at g30 g31 g32 g33 g40 g41 g42 g43 g50 g51 g52 g53
  clear t1 t2 t3 t7 t9 T U q7 q9 q10 x7 ea hW8 hWA v5 v9 v10 Z1 Z2 Z3 HM
  go_upto_region 7 with fail
  rw [← HWA.out, ← HW8.out, ← hg11]
  rw [← hg11] at HN l11
  clear g30 g31 g32 g33 g40 g41 g42 g43 g50 g51 g52 g53 HWA HW8 hg11
  obtain ⟨h5, h9, h10, h7, h11, h12, hbf⟩ := HN.out
  have HB := Lib.hid hbf
  have L := And.intro h9.lt (And.intro h10.lt (And.intro h11.lt h12.lt))
  have H9 := Lib.hid h9; have H10 := Lib.hid h10; have H11 := Lib.hid h11; have H12 := Lib.hid h12
  obtain ⟨b3, A3, n3, c3, k0, k1, kz⟩ := h5
  obtain ⟨b4, A4, n4, c4, j0, j1, jz⟩ := h7
  have SM := Lib.hid (sameR_true _ _ _ W8 kz jz)
  clear kz jz h9 h10 h11 h12 hbf HN
  have ht : (er3 == er3) = true := by simp
  go_wp2_with fail
  refine SM.out.mono ?_
  rintro e w9 ⟨rfl, x9⟩
  have X9 := Lib.hid x9
  obtain ⟨b5, A5, n5, c5, i0, i1, iz⟩ := H9.out.ext L.1 x9
  obtain ⟨b6, A6, n6, c6, m0, m1, mz⟩ := H11.out.ext L.2.2.1 x9
  have SM2 := Lib.hid (sameR_true _ _ _ w9 iz mz)
  clear iz mz x9 SM k0 k1 j0 j1
  go_wp2_with fail
  refine SM2.out.mono ?_
  rintro e w10 ⟨rfl, x10⟩
  have X10 := Lib.hid (X9.out.trans x10)
  obtain ⟨b7, A7, n7, c7, k0, k1, kz⟩ := H10.out.ext L.2.1 X10.out
  obtain ⟨b8, A8, n8, c8, j0, j1, jz⟩ := H12.out.ext L.2.2.2 X10.out
  have SM3 := Lib.hid (sameR_true _ _ _ w10 kz jz)
  clear kz jz x10 SM2 i0 i1 m0 m1
  go_wp2_with fail
  refine SM3.out.mono ?_
  rintro e w11 ⟨rfl, x11⟩
  have FX := Lib.hid (HB.out.trans (Below.mono (X10.out.trans x11) HB.out.size))
  clear x11 SM3 k0 k1 j0 j1
  go_wp2
  go_ret
  exact ⟨rfl, FX.out⟩
end Go.Proofs.Ytmlopkkbgpfdnaa
