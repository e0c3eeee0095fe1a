/- Walks: exact.Div. · Walks: small, low. · Walks: Cmp. -/
import Derived.Test.YtijhbmdbnnmogaaGreatM16
import Derived.Test.YtijhbmdbnnmogaaGreatM22
import Derived.Deep.DeepCutAuto
import Derived.Test.YtijhbmdbnnmogaaGreatM15
import Derived.Laws.BitsAllLaws
namespace Go.Proofs.YtijhbmdbnnmogaaGreat
open Go.RowKit

theorem zv_zero' (w : World) : ZV w (.agg #[.bool false, .slice none 0 0]) 0 := ZV.mk (by simp) (by rw [Int.natAbs_zero, dig_zero]; exact Wd.nil_ _)

/-- the four blocks of a function of two Ints with two results, and the slice of its check -/
theorem five_blocks (t : TypeId) (w : World) (p q : Bool) (A A' : Option Addr) (n c n' c' : Nat) (l l' : List Nat) (hx : Wd w (.slice A n c) l) (hy : Wd w (.slice A' n' c') l') :
    ∃ W, W = (((((w.alloc (Obj.cells #[.bool p, .slice A n c] t)).alloc (Obj.cells #[.bool q, .slice A' n' c'] t)).alloc (Obj.cells #[.bool false, .slice none 0 0] t)).alloc (Obj.cells #[.bool false, .slice none 0 0] t)).alloc (Obj.cells #[.bool p, .slice A n c, .bool q, .slice A' n' c'] t)) ∧
    HW W w.heap.size p A n c l ∧ HW W (w.heap.size + 1) q A' n' c' l' ∧ RB W (w.heap.size + 1 + 1) ∧ RB W (w.heap.size + 1 + 1 + 1) ∧ W.heap[w.heap.size + 1 + 1 + 1 + 1]? = some (.cells #[.bool p, .slice A n c, .bool q, .slice A' n' c'] t (0, 0)) ∧
    Below w.heap.size w W ∧ W.heap.size = w.heap.size + 5 := by
  have h1 : HW (w.alloc (Obj.cells #[.bool p, .slice A n c] t)) w.heap.size p A n c l := HW.new w p A n c l t hx
  have h2 : HW ((w.alloc (Obj.cells #[.bool p, .slice A n c] t)).alloc (Obj.cells #[.bool q, .slice A' n' c'] t)) (w.heap.size + 1) q A' n' c' l' := by
    have := HW.new (w.alloc (Obj.cells #[.bool p, .slice A n c] t)) q A' n' c' l' t (hy.below (below1 _ _))
    simpa using this
  have h3 : RB (((w.alloc (Obj.cells #[.bool p, .slice A n c] t)).alloc (Obj.cells #[.bool q, .slice A' n' c'] t)).alloc (Obj.cells #[.bool false, .slice none 0 0] t)) (w.heap.size + 1 + 1) := RB.a3 w false none 0 0 t _ _
  have h4 : RB ((((w.alloc (Obj.cells #[.bool p, .slice A n c] t)).alloc (Obj.cells #[.bool q, .slice A' n' c'] t)).alloc (Obj.cells #[.bool false, .slice none 0 0] t)).alloc (Obj.cells #[.bool false, .slice none 0 0] t)) (w.heap.size + 1 + 1 + 1) := by
    have := RB.c1 (((w.alloc (Obj.cells #[.bool p, .slice A n c] t)).alloc (Obj.cells #[.bool q, .slice A' n' c'] t)).alloc (Obj.cells #[.bool false, .slice none 0 0] t)) false none 0 0 t
    simpa using this
  refine ⟨_, rfl, (((h1.alloc _).alloc _).alloc _).alloc _, ((h2.alloc _).alloc _).alloc _, (h3.below (below1 _ _) h3.lt).below (below1 _ _) (by simp), h4.below (below1 _ _) h4.lt, ?_, ?_, by simp⟩
  · have := heap_alloc_new ((((w.alloc (Obj.cells #[.bool p, .slice A n c] t)).alloc (Obj.cells #[.bool q, .slice A' n' c'] t)).alloc (Obj.cells #[.bool false, .slice none 0 0] t)).alloc (Obj.cells #[.bool false, .slice none 0 0] t)) (Obj.cells #[.bool p, .slice A n c, .bool q, .slice A' n' c'] t)
    simpa using this
  · exact (below4 w _ _ _ _).alloc (by simp; omega) _

/-- two results that are zero -/
theorem two_zero {W w : World} {g h : Nat} (R1 : RB W g) (R2 : RB W h) (hne : h ≠ g) (hb : Below w.heap.size w W) (hg : w.heap.size ≤ g) (hh : w.heap.size ≤ h) :
    ∃ W', W' = (((W.setCell ⟨g, 0, none⟩ (.bool false)).setCell ⟨g, 1, none⟩ (.slice none 0 0)).setCell ⟨h, 0, none⟩ (.bool false)).setCell ⟨h, 1, none⟩ (.slice none 0 0) ∧
    W'.cell? ⟨g, 0, none⟩ = some (.bool false) ∧ W'.cell? ⟨g, 1, none⟩ = some (.slice none 0 0) ∧ W'.cell? ⟨h, 0, none⟩ = some (.bool false) ∧ W'.cell? ⟨h, 1, none⟩ = some (.slice none 0 0) ∧ Below w.heap.size w W' := by
  obtain ⟨W', a, b, c, d, e, -, -, f⟩ := two_res R1 R2 hne false none 0 0 false none 0 0 (zv_zero' W) (zv_zero' W) hb hg hh
  exact ⟨W', a, b, c, d, e, f⟩

theorem emod_abs (x y : Int) (h0 : y ≠ 0) : (x % y).natAbs ≤ y.natAbs := by
  have h1 := Int.emod_nonneg x h0
  rcases Int.lt_or_gt_of_ne h0 with h | h
  · have h2 := Int.emod_lt_of_pos x (show 0 < -y by omega)
    rw [Int.emod_neg] at h2
    omega
  · have h2 := Int.emod_lt_of_pos x h
    omega

set_option maxHeartbeats 800000 in
set_option maxRecDepth 100000 in
theorem exactDiv_no (p q : Bool) (A A' : Option Addr) (n c n' c' : Nat) (l l' : List Nat) (w : World) (hx : Wd w (.slice A n c) l) (hy : Wd w (.slice A' n' c') l') (hno : (vld p l && vld q l') = false) :
    Calls Tryz.prog 175 #[.agg #[.bool p, .slice A n c], .agg #[.bool q, .slice A' n' c']] w (RetDiv w 0 0 2) := by
  obtain ⟨W0, hW0, hH1, hH2, hR3, hR4, h5, hb0, z0⟩ := five_blocks 56 w p q A A' n c n' c' l l' hx hy
  have Hno := Lib.hid hno; clear hno
  have HW0 := Lib.hid hW0; clear hW0
  have HF := Lib.hid (And.intro hH1 (And.intro hH2 (And.intro hR3 (And.intro hR4 (And.intro h5 (And.intro hb0 z0))))))
  clear hH1 hH2 hR3 hR4 h5 hb0 z0 hx hy
  go_enter Tryz.func175, Tryz.ntmps175
  go_wp2_with fail
  rw [← HW0.out]
  obtain ⟨hH1, hH2, hR3, hR4, h5, hb0, z0⟩ := HF.out
  refine (allValid_two p q A A' n c n' c' l l' w _ _ h5 hH1.w hH2.w).mono ?_
  rintro e W1 ⟨rfl, hb1⟩
  rw [Hno.out]
  have R3 := hR3.below hb1 (by omega)
  have R4 := hR4.below hb1 (by omega)
  obtain ⟨_, _, _, _, g30, g31, g32, g33⟩ := R3.facts
  obtain ⟨_, _, _, _, g40, g41, g42, g43⟩ := R4.facts
  obtain ⟨W', hW', f1, f2, f3, f4, hbf⟩ := two_zero (w := w) R3 R4 (by omega) (hb0.trans (hb1.mono (by omega))) (by omega) (by omega)
  have T := R4.far R3 (by omega) (.bool false) (.slice none 0 0)
  obtain ⟨_, _, _, _, g50, g51, g52, g53⟩ := T.facts
  have HG := Lib.hid (And.intro hbf (And.intro f1 (And.intro f2 (And.intro f3 f4))))
  have HW' := Lib.hid hW'
  clear hbf f1 f2 f3 f4 hW' T R3 R4 hb1 hH1 hH2 hR3 hR4 h5 hb0 z0 HF HW0
  go_wp2
  rw [← HW'.out]
  obtain ⟨hbf, f1, f2, f3, f4⟩ := HG.out
  exact bodyPost_ret (v := .tuple #[.agg #[.bool false, .slice none 0 0], .agg #[.bool false, .slice none 0 0], .int .i64 2]) (by simp [results, Tryz.results175, go_sem, f1, f2, f3, f4]) rfl ⟨_, _, _, _, _, _, _, _, rfl, zv_zero' _, zv_zero' _, hbf⟩

set_option maxHeartbeats 800000 in
set_option maxRecDepth 100000 in
theorem exactDiv_zero (p q : Bool) (A A' : Option Addr) (n c n' c' : Nat) (l l' : List Nat) (w : World) (hx : Wd w (.slice A n c) l) (hy : Wd w (.slice A' n' c') l') (hp : vld p l = true) (hq : vld q l' = true) (h0 : numOf q l' = 0) :
    Calls Tryz.prog 175 #[.agg #[.bool p, .slice A n c], .agg #[.bool q, .slice A' n' c']] w (RetDiv w 0 0 4) := by
  obtain ⟨W0, hW0, hH1, hH2, hR3, hR4, h5, hb0, z0⟩ := five_blocks 56 w p q A A' n c n' c' l l' hx hy
  have zy := vld_zv hy hq
  rw [h0] at zy
  have hyes : (vld p l && vld q l') = true := by rw [hp, hq]; rfl
  have Zy := Lib.hid zy; clear zy
  have Hyes := Lib.hid hyes; clear hyes hp hq h0
  have HW0 := Lib.hid hW0; clear hW0
  have HF := Lib.hid (And.intro hH1 (And.intro hH2 (And.intro hR3 (And.intro hR4 (And.intro h5 (And.intro hb0 z0))))))
  clear hH1 hH2 hR3 hR4 h5 hb0 z0 hx hy
  go_enter Tryz.func175, Tryz.ntmps175
  go_wp2_with fail
  rw [← HW0.out]
  obtain ⟨hH1, hH2, hR3, hR4, h5, hb0, z0⟩ := HF.out
  clear HF
  refine (allValid_two p q A A' n c n' c' l l' w _ _ h5 hH1.w hH2.w).mono ?_
  rintro e W1 ⟨rfl, hb1⟩
  rw [Hyes.out]
  have R3 := Lib.hid (hR3.below hb1 (by omega))
  have R4 := Lib.hid (hR4.below hb1 (by omega))
  have H1 := Lib.hid (hH1.next hb1)
  have H2 := Lib.hid (hH2.next hb1)
  have Hb := Lib.hid (hb0.trans (hb1.mono (by omega)))
  have z1 : w.heap.size + 5 ≤ W1.heap.size := by have := hb1.size; omega
  have k20 := H2.out.c0
  have k21 := H2.out.c1
  clear hH1 hH2 hR3 hR4 h5 hb0 z0 hb1 HW0
  go_wp2_with fail
  refine (wholeOf_any q A' n' c' W1).mono ?_
  rintro e W2 ⟨rfl, hb2⟩
  have HH2 := HW.new W2 q A' n' c' l' 152 (H2.out.next hb2).w
  have hba := below1 W2 (Obj.cells #[.bool q, .slice A' n' c'] 152)
  obtain ⟨g7, hg7⟩ : ∃ g, g = W2.heap.size := ⟨_, rfl⟩
  have k70 : (W2.alloc (Obj.cells #[.bool q, .slice A' n' c'] 152)).cell? ⟨W2.heap.size, 0, none⟩ = some (.bool q) := HH2.c0
  have k71 : (W2.alloc (Obj.cells #[.bool q, .slice A' n' c'] 152)).cell? ⟨W2.heap.size, 1, none⟩ = some (.slice A' n' c') := HH2.c1
  have hb12 := hb2.trans (hba.mono hb2.size)
  have Hb12 := Lib.hid hb12
  clear HH2 hba hg7 hb2 hb12 k20 k21
  go_wp2_with fail
  have hb02 := Hb.out.trans (Hb12.out.mono Hb.out.size)
  have zs := Zy.out.below hb02
  have hsz := Hb12.out.size
  refine (signZ_any 0 _ _ zs).mono ?_
  rintro e W3 ⟨rfl, hb3⟩
  rw [show Int.sign 0 = 0 from rfl]
  have R3' := (R3.out.below Hb12.out (by omega)).below hb3 (by omega)
  have R4' := (R4.out.below Hb12.out (by omega)).below hb3 (by omega)
  obtain ⟨_, _, _, _, g30, g31, g32, g33⟩ := R3'.facts
  obtain ⟨_, _, _, _, g40, g41, g42, g43⟩ := R4'.facts
  obtain ⟨W', hW', f1, f2, f3, f4, hbf⟩ := two_zero (w := w) R3' R4' (by omega) (hb02.trans (hb3.mono hb02.size)) (by omega) (by omega)
  have T := R4'.far R3' (by omega) (.bool false) (.slice none 0 0)
  obtain ⟨_, _, _, _, g50, g51, g52, g53⟩ := T.facts
  have HG := Lib.hid (And.intro hbf (And.intro f1 (And.intro f2 (And.intro f3 f4))))
  have HW' := Lib.hid hW'
  clear hbf f1 f2 f3 f4 hW' T R3' R4' hb3 zs hb02 hsz k70 k71
  go_wp2
  rw [← HW'.out]
  obtain ⟨hbf, f1, f2, f3, f4⟩ := HG.out
  exact bodyPost_ret (v := .tuple #[.agg #[.bool false, .slice none 0 0], .agg #[.bool false, .slice none 0 0], .int .i64 4]) (by simp [results, Tryz.results175, go_sem, f1, f2, f3, f4]) rfl ⟨_, _, _, _, _, _, _, _, rfl, zv_zero' _, zv_zero' _, hbf⟩

set_option maxHeartbeats 800000 in
set_option maxRecDepth 100000 in
theorem exactDiv_yes (p q : Bool) (A A' : Option Addr) (n c n' c' : Nat) (l l' : List Nat) (w : World) (hx : Wd w (.slice A n c) l) (hy : Wd w (.slice A' n' c') l') (hp : vld p l = true) (hq : vld q l' = true) (h0 : numOf q l' ≠ 0) :
    Calls Tryz.prog 175 #[.agg #[.bool p, .slice A n c], .agg #[.bool q, .slice A' n' c']] w (RetDiv w (numOf p l / numOf q l') (numOf p l % numOf q l') 0) := by
  obtain ⟨W0, hW0, hH1, hH2, hR3, hR4, h5, hb0, z0⟩ := five_blocks 56 w p q A A' n c n' c' l l' hx hy
  have zy := vld_zv hy hq
  have zx := vld_zv hx hp
  have lx : (dig (numOf p l).natAbs).length ≤ 256 := by rw [vld_dig hx.ok hp]; exact vld_len hp
  have ly : (dig (numOf q l').natAbs).length ≤ 256 := by rw [vld_dig hy.ok hq]; exact vld_len hq
  obtain ⟨x, hxx⟩ : ∃ x, x = numOf p l := ⟨_, rfl⟩
  obtain ⟨y, hyy⟩ : ∃ y, y = numOf q l' := ⟨_, rfl⟩
  rw [← hxx] at zx lx ⊢
  rw [← hyy] at zy ly h0 ⊢
  have hlq : (dig (x / y).natAbs).length ≤ 1000000 := by have := dig_len_mono (Int.natAbs_ediv_le_natAbs x y); omega
  have hlr : (dig (x % y).natAbs).length ≤ 1000000 := by
    have h1 : (x % y).natAbs ≤ y.natAbs := emod_abs x y h0
    have := dig_len_mono h1
    omega
  clear hxx hyy
  obtain ⟨z1, hz1⟩ : ∃ z, z = x / y := ⟨_, rfl⟩
  obtain ⟨z2, hz2⟩ : ∃ z, z = x % y := ⟨_, rfl⟩
  rw [← hz1] at hlq ⊢
  rw [← hz2] at hlr ⊢
  have Hz1 := Lib.hid hz1; clear hz1
  have Hz2 := Lib.hid hz2; clear hz2
  have Zx := Lib.hid zx; clear zx
  have hyes : (vld p l && vld q l') = true := by rw [hp, hq]; rfl
  have Zy := Lib.hid zy; clear zy
  have Hyes := Lib.hid hyes; clear hyes hp hq
  have HW0 := Lib.hid hW0; clear hW0
  have HF := Lib.hid (And.intro hH1 (And.intro hH2 (And.intro hR3 (And.intro hR4 (And.intro h5 (And.intro hb0 z0))))))
  clear hH1 hH2 hR3 hR4 h5 hb0 z0 hx hy
  go_enter Tryz.func175, Tryz.ntmps175
  go_wp2_with fail
  rw [← HW0.out]
  obtain ⟨hH1, hH2, hR3, hR4, h5, hb0, z0⟩ := HF.out
  clear HF
  refine (allValid_two p q A A' n c n' c' l l' w _ _ h5 hH1.w hH2.w).mono ?_
  rintro e W1 ⟨rfl, hb1⟩
  rw [Hyes.out]
  have R3 := Lib.hid (hR3.below hb1 (by omega))
  have R4 := Lib.hid (hR4.below hb1 (by omega))
  have H1 := Lib.hid (hH1.next hb1)
  have H2 := Lib.hid (hH2.next hb1)
  have Hb := Lib.hid (hb0.trans (hb1.mono (by omega)))
  have zz1 : w.heap.size + 5 ≤ W1.heap.size := by have := hb1.size; omega
  have k20 := H2.out.c0
  have k21 := H2.out.c1
  clear hH1 hH2 hR3 hR4 h5 hb0 z0 hb1 HW0
  go_wp2_with fail
  refine (wholeOf_any q A' n' c' W1).mono ?_
  rintro e W2 ⟨rfl, hb2⟩
  have HH2 := HW.new W2 q A' n' c' l' 152 (H2.out.next hb2).w
  have hba := below1 W2 (Obj.cells #[.bool q, .slice A' n' c'] 152)
  obtain ⟨g7, hg7⟩ : ∃ g, g = W2.heap.size := ⟨_, rfl⟩
  have k70 : (W2.alloc (Obj.cells #[.bool q, .slice A' n' c'] 152)).cell? ⟨W2.heap.size, 0, none⟩ = some (.bool q) := HH2.c0
  have k71 : (W2.alloc (Obj.cells #[.bool q, .slice A' n' c'] 152)).cell? ⟨W2.heap.size, 1, none⟩ = some (.slice A' n' c') := HH2.c1
  have hb12 := hb2.trans (hba.mono hb2.size)
  have Hb12 := Lib.hid hb12
  clear HH2 hba hg7 hb2 hb12 k20 k21
  go_wp2_with fail
  have hb02 := Hb.out.trans (Hb12.out.mono Hb.out.size)
  have zs := Zy.out.below hb02
  have hsz := Hb12.out.size
  refine (signZ_any y _ _ zs).mono ?_
  rintro e W3 ⟨rfl, hb3⟩
  obtain ⟨sv, hsv⟩ : ∃ s, s = y.sign := ⟨_, rfl⟩
  have hsv0 : (sv == 0) = false := by
    have : sv ≠ 0 := by rw [hsv]; exact fun h => h0 (Int.sign_eq_zero_iff_zero.1 h)
    simpa using this
  rw [← hsv]
  clear hsv
  have hb03 := hb02.trans (hb3.mono hb02.size)
  have hR3 := (R3.out.below Hb12.out (by omega)).below hb3 (by omega)
  have hR4 := (R4.out.below Hb12.out (by omega)).below hb3 (by omega)
  have hH1 := (H1.out.next Hb12.out).next hb3
  have j70 := keepAt hb3 (by rw [World.size_alloc]; omega) k70
  have j71 := keepAt hb3 (by rw [World.size_alloc]; omega) k71
  have hsz3 : w.heap.size + 5 ≤ W3.heap.size := by have h1 := hb3.size; have h2 := Hb12.out.size; rw [World.size_alloc] at h1 h2; omega
  obtain ⟨g7, hg7⟩ : ∃ g, g = W2.heap.size := ⟨_, rfl⟩
  rw [← hg7] at j70 j71
  try rw [← hg7]
  have hg73 : g7 < W3.heap.size := by have h1 := hb3.size; rw [World.size_alloc] at h1; omega
  have Hx3 := Lib.hid (Zx.out.below hb03)
  have Hy3 := Lib.hid (Zy.out.below hb03)
  have HR3 := Lib.hid hR3
  have HR4 := Lib.hid hR4
  have Hb3 := Lib.hid hb03
  have j10 := hH1.c0
  have j11 := hH1.c1
  clear hg7 hb3 zs hb02 hsz k70 k71 R3 R4 H1 H2 Hb Hb12 hR3 hR4 hH1 hb03 zz1
  go_upto_region 6 with fail
  go_cut [8, 9] (fun a b wx => DivCut w z1 z2 (w.heap.size + 1 + 1) (w.heap.size + 1 + 1 + 1) a b wx)
  case first =>
    have ks : ∀ Y, Ext W3 Y → Y.cell? ⟨w.heap.size, 0, none⟩ = some (.bool p) ∧ Y.cell? ⟨w.heap.size, 1, none⟩ = some (.slice A n c) ∧ Y.cell? ⟨g7, 0, none⟩ = some (.bool q) ∧ Y.cell? ⟨g7, 1, none⟩ = some (.slice A' n' c') := fun Y h => ⟨keepAt h (by omega) j10, keepAt h (by omega) j11, keepAt h (by omega) j70, keepAt h (by omega) j71⟩
    have KS := Lib.hid ks; clear ks
    have c49 : ∀ W, Calls Tryz.prog 121 #[.agg #[.bool p, .slice A n c]] W fun e w' => e = .returned (.agg #[.bool p, .slice A n c]) ∧ Ext W w' := fun W => wholeOf_any p A n c W
    have C49 := Lib.hid c49; clear c49
    have c63 : ∀ W, Ext W3 W → Calls Tryz.prog 214 #[.agg #[.bool p, .slice A n c], .agg #[.bool q, .slice A' n' c']] W fun e w' => ∃ b1 A1 n1 c1 b2 A2 n2 c2, e = .returned (.tuple #[.agg #[.bool b1, .slice A1 n1 c1], .agg #[.bool b2, .slice A2 n2 c2]]) ∧ ZV w' (.agg #[.bool b1, .slice A1 n1 c1]) z1 ∧ ZV w' (.agg #[.bool b2, .slice A2 n2 c2]) z2 ∧ Ext W w' := fun W h => by
      rw [Hz1.out, Hz2.out]
      exact divideZ_any x y _ _ W (Hx3.out.ext h) (Hy3.out.ext h) (by omega) (by omega) h0
    have C63 := Lib.hid c63; clear c63
    go_region_held3 (fun w' => w'.cell? ⟨w.heap.size, 0, none⟩ = some (.bool p) ∧ w'.cell? ⟨w.heap.size, 1, none⟩ = some (.slice A n c) ∧ w'.cell? ⟨g7, 0, none⟩ = some (.bool q) ∧ w'.cell? ⟨g7, 1, none⟩ = some (.slice A' n' c'))
      (first | with_reducible exact ⟨j10, j11, j70, j71⟩ | (refine KS.out _ ?_; with_reducible (repeat (first | exact Ext.refl _ | refine Ext.drw ?_ | refine Ext.trans ?_ hx5 | refine Ext.trans ?_ hx4 | refine Ext.alc ?_ _ | refine Ext.sc ?_ (by omega)))))
      (first | (go_at_call 121; refine (C49.out _).mono ?_; rintro e w4 ⟨rfl, hx4⟩; have bl4 : Ext W3 w4 := (by with_reducible (repeat (first | exact Ext.refl _ | refine Ext.drw ?_ | refine Ext.trans ?_ hx4 | refine Ext.alc ?_ _))); have s4 : W3.heap.size ≤ w4.heap.size := bl4.size; (try have rA : RB w4 W3.heap.size := RB.ext (RB.drew (RB.c1 _ false none 0 0 152)) hx4); (try have rA : RB w4 W3.heap.size := RB.ext (RB.drew (RB.b1 _ false none 0 0 152 _)) hx4); (try have rB : RB w4 (W3.heap.size + 1) := RB.ext (RB.drew (RB.b2 _ false none 0 0 152 _)) hx4); (try have mA := rA.lt); (try have mB := rB.lt)) | (go_at_call 214; refine (C63.out _ (by with_reducible (repeat (first | exact Ext.refl _ | refine Ext.drw ?_ | refine Ext.trans ?_ hx4 | refine Ext.alc ?_ _)))).mono ?_; rintro e w5 ⟨b1, A1, n1, c1, b2, A2, n2, c2, rfl, hz1, hz2, hx5⟩; have bl5 : Ext w4 w5 := (by with_reducible (repeat (first | exact Ext.refl _ | refine Ext.drw ?_ | refine Ext.trans ?_ hx5 | refine Ext.alc ?_ _))); have s5 : w4.heap.size ≤ w5.heap.size := bl5.size; (try have sA : RB w5 W3.heap.size := rA.ext bl5); (try have sB : RB w5 (W3.heap.size + 1) := rB.ext bl5); (try have sC : RB w5 w4.heap.size := RB.ext (RB.c1 _ false none 0 0 152) hx5); (try have sC : RB w5 w4.heap.size := RB.ext (RB.b1 _ false none 0 0 152 _) hx5); (try have sD : RB w5 (w4.heap.size + 1) := RB.ext (RB.b2 _ false none 0 0 152 _) hx5); (try (have lA := sA.lt; obtain ⟨_, _, _, _, kA0, kA1, kA2, kA3⟩ := sA.facts)); (try (have lB := sB.lt; obtain ⟨_, _, _, _, kB0, kB1, kB2, kB3⟩ := sB.facts)); (try (have lC := sC.lt; obtain ⟨_, _, _, _, kC0, kC1, kC2, kC3⟩ := sC.facts)); (try (have lD := sD.lt; obtain ⟨_, _, _, _, kD0, kD1, kD2, kD3⟩ := sD.facts)); (try (have _q1 := sA.lt; have _q2 := sB.lt; obtain ⟨_, _, _, _, kAB0, kAB1, kAB2, kAB3⟩ := (sA.far sB (by omega) (.bool b1) (.slice A1 n1 c1)).facts)); (try (have _q1 := sB.lt; have _q2 := sA.lt; obtain ⟨_, _, _, _, kBA0, kBA1, kBA2, kBA3⟩ := (sB.far sA (by omega) (.bool b1) (.slice A1 n1 c1)).facts)); (try (have _q1 := sA.lt; have _q2 := sC.lt; obtain ⟨_, _, _, _, kAC0, kAC1, kAC2, kAC3⟩ := (sA.far sC (by omega) (.bool b1) (.slice A1 n1 c1)).facts)); (try (have _q1 := sC.lt; have _q2 := sA.lt; obtain ⟨_, _, _, _, kCA0, kCA1, kCA2, kCA3⟩ := (sC.far sA (by omega) (.bool b1) (.slice A1 n1 c1)).facts)); (try (have _q1 := sC.lt; have _q2 := sD.lt; obtain ⟨_, _, _, _, kCD0, kCD1, kCD2, kCD3⟩ := (sC.far sD (by omega) (.bool b1) (.slice A1 n1 c1)).facts)); (try (have _q1 := sD.lt; have _q2 := sC.lt; obtain ⟨_, _, _, _, kDC0, kDC1, kDC2, kDC3⟩ := (sD.far sC (by omega) (.bool b1) (.slice A1 n1 c1)).facts))))
    all_goals go_wp2_with fail
    all_goals
      have bl35 := bl4.trans bl5
      have TZ : TwoZ w w5 z1 z2 (w.heap.size + 1 + 1) (w.heap.size + 1 + 1 + 1) W3.heap.size b1 A1 n1 c1 b2 A2 n2 c2 := ⟨hz1, hz2, HR3.out.ext bl35, HR4.out.ext bl35, Hb3.out.trans (Below.mono bl35 Hb3.out.size), by omega, by omega, by omega⟩
      go_meet
      with_reducible first
        | exact TZ.new
        | exact TZ.new'
        | exact TZ.mix sA (Nat.le_refl _)
        | exact TZ.mix sC (by omega)
        | exact TZ.mix' sA (Nat.le_refl _)
        | exact TZ.mix' sC (by omega)
        | exact TZ.old sA sB (by omega) (Nat.le_refl _) (by omega)
        | exact TZ.old sB sA (by omega) (by omega) (Nat.le_refl _)
        | exact TZ.old sA sC (by omega) (Nat.le_refl _) (by omega)
        | exact TZ.old sC sA (by omega) (by omega) (Nat.le_refl _)
        | exact TZ.old sC sD (by omega) (by omega) (by omega)
        | exact TZ.old sD sC (by omega) (by omega) (by omega)
  case rest =>
    obtain ⟨g8, g9, rfl, rfl, h8, h9, r3, r4, hbc, n1, n2, n3, n4⟩ := hcut
    have l8 := h8.lt
    have l9 := h9.lt
    obtain ⟨b8, A8, n8, c8, k80, k81, hz8⟩ := h8
    obtain ⟨b9, A9, n9, c9, k90, k91, hz9⟩ := h9
    have ks : ∀ Y, Ext wc Y → Y.cell? ⟨g8, 0, none⟩ = some (.bool b8) ∧ Y.cell? ⟨g8, 1, none⟩ = some (.slice A8 n8 c8) ∧ Y.cell? ⟨g9, 0, none⟩ = some (.bool b9) ∧ Y.cell? ⟨g9, 1, none⟩ = some (.slice A9 n9 c9) := fun Y h => ⟨keepAt h (by omega) k80, keepAt h (by omega) k81, keepAt h (by omega) k90, keepAt h (by omega) k91⟩
    have KS := Lib.hid ks; clear ks
    have ks3 : ∀ (Y : World) (u v : Value), (Y.cell? ⟨g8, 0, none⟩ = some (.bool b8) ∧ Y.cell? ⟨g8, 1, none⟩ = some (.slice A8 n8 c8) ∧ Y.cell? ⟨g9, 0, none⟩ = some (.bool b9) ∧ Y.cell? ⟨g9, 1, none⟩ = some (.slice A9 n9 c9)) → ((Y.setCell ⟨w.heap.size + 1 + 1, 0, none⟩ u).setCell ⟨w.heap.size + 1 + 1, 1, none⟩ v).cell? ⟨g8, 0, none⟩ = some (.bool b8) ∧ ((Y.setCell ⟨w.heap.size + 1 + 1, 0, none⟩ u).setCell ⟨w.heap.size + 1 + 1, 1, none⟩ v).cell? ⟨g8, 1, none⟩ = some (.slice A8 n8 c8) ∧ ((Y.setCell ⟨w.heap.size + 1 + 1, 0, none⟩ u).setCell ⟨w.heap.size + 1 + 1, 1, none⟩ v).cell? ⟨g9, 0, none⟩ = some (.bool b9) ∧ ((Y.setCell ⟨w.heap.size + 1 + 1, 0, none⟩ u).setCell ⟨w.heap.size + 1 + 1, 1, none⟩ v).cell? ⟨g9, 1, none⟩ = some (.slice A9 n9 c9) := fun Y u v ⟨a, b, c, d⟩ => ⟨(far2 n1).trans a, (far2 n1).trans b, (far2 n3).trans c, (far2 n3).trans d⟩
    have ks4 : ∀ (Y : World) (u v : Value), (Y.cell? ⟨g8, 0, none⟩ = some (.bool b8) ∧ Y.cell? ⟨g8, 1, none⟩ = some (.slice A8 n8 c8) ∧ Y.cell? ⟨g9, 0, none⟩ = some (.bool b9) ∧ Y.cell? ⟨g9, 1, none⟩ = some (.slice A9 n9 c9)) → ((Y.setCell ⟨w.heap.size + 1 + 1 + 1, 0, none⟩ u).setCell ⟨w.heap.size + 1 + 1 + 1, 1, none⟩ v).cell? ⟨g8, 0, none⟩ = some (.bool b8) ∧ ((Y.setCell ⟨w.heap.size + 1 + 1 + 1, 0, none⟩ u).setCell ⟨w.heap.size + 1 + 1 + 1, 1, none⟩ v).cell? ⟨g8, 1, none⟩ = some (.slice A8 n8 c8) ∧ ((Y.setCell ⟨w.heap.size + 1 + 1 + 1, 0, none⟩ u).setCell ⟨w.heap.size + 1 + 1 + 1, 1, none⟩ v).cell? ⟨g9, 0, none⟩ = some (.bool b9) ∧ ((Y.setCell ⟨w.heap.size + 1 + 1 + 1, 0, none⟩ u).setCell ⟨w.heap.size + 1 + 1 + 1, 1, none⟩ v).cell? ⟨g9, 1, none⟩ = some (.slice A9 n9 c9) := fun Y u v ⟨a, b, c, d⟩ => ⟨(far2 n2).trans a, (far2 n2).trans b, (far2 n4).trans c, (far2 n4).trans d⟩
    have KS3 := Lib.hid ks3; clear ks3
    have KS4 := Lib.hid ks4; clear ks4
    have c531 : ∀ W, Ext wc W → Calls Tryz.prog 118 #[.agg #[.bool b8, .slice A8 n8 c8]] W fun e w' => ∃ b A n c, e = .returned (.agg #[.bool b, .slice A n c]) ∧ ZV w' (.agg #[.bool b, .slice A n c]) z1 ∧ Ext W w' := fun W h => asAgg (intOf_any z1 _ W (hz8.ext h) hlq)
    have c532 : ∀ W, Ext wc W → Calls Tryz.prog 118 #[.agg #[.bool b9, .slice A9 n9 c9]] W fun e w' => ∃ b A n c, e = .returned (.agg #[.bool b, .slice A n c]) ∧ ZV w' (.agg #[.bool b, .slice A n c]) z2 ∧ Ext W w' := fun W h => asAgg (intOf_any z2 _ W (hz9.ext h) hlr)
    have C1 := Lib.hid c531; clear c531
    have C2 := Lib.hid c532; clear c532
    have R3 := Lib.hid r3; clear r3
    have R4 := Lib.hid r4; clear r4
    have Hbc := Lib.hid hbc; clear hbc HR3 HR4 Hb3 Hx3 Hy3 j10 j11 j70 j71
    have tk0 : True := trivial
    go_wp2_with fail
    go_region_held3 (fun w' => w'.cell? ⟨g8, 0, none⟩ = some (.bool b8) ∧ w'.cell? ⟨g8, 1, none⟩ = some (.slice A8 n8 c8) ∧ w'.cell? ⟨g9, 0, none⟩ = some (.bool b9) ∧ w'.cell? ⟨g9, 1, none⟩ = some (.slice A9 n9 c9))
      (first | with_reducible exact ⟨k80, k81, k90, k91⟩ | (refine KS.out _ ?_; with_reducible (repeat (first | exact Ext.refl _ | refine Ext.drw ?_ | refine Ext.trans ?_ hx7 | refine Ext.trans ?_ hx6)); done) | (with_reducible refine KS3.out _ _ _ ?_; with_reducible exact HI.out) | (with_reducible refine KS4.out _ _ _ ?_; with_reducible refine KS3.out _ _ _ ?_; with_reducible exact HI.out))
      (first | (go_at_call 118; have _t := tk0; refine (C1.out _ (by with_reducible (repeat (first | exact Ext.refl _ | refine Ext.drw ?_)))).mono ?_; rintro e w6 ⟨b1, A1, n1', c1, rfl, hz1, hx6⟩; clear tk0) | (go_at_call 118; refine (C2.out _ (by with_reducible (repeat (first | exact Ext.refl _ | refine Ext.drw ?_ | refine Ext.trans ?_ hx6)))).mono ?_; rintro e w7 ⟨b2, A2, n2', c2, rfl, hz2, hx7⟩; have bl7 : Ext wc w7 := (by with_reducible (repeat (first | exact Ext.refl _ | refine Ext.drw ?_ | refine Ext.trans ?_ hx7 | refine Ext.trans ?_ hx6))); have s3 := R3.out.ext bl7; have s4 := R4.out.ext bl7; have HI := Lib.hid (KS.out w7 bl7); obtain ⟨_, _, _, _, g30, g31, g32, g33⟩ := s3.facts; obtain ⟨_, _, _, _, g40, g41, g42, g43⟩ := s4.facts; obtain ⟨_, _, _, _, g50, g51, g52, g53⟩ := (s4.far s3 (by omega) (.bool b1) (.slice A1 n1' c1)).facts))
    obtain ⟨W', hW', f1, f2, f3, f4, hzz1, hzz2, hbf⟩ := two_res s3 s4 (by omega) b1 A1 n1' c1 b2 A2 n2' c2 (hz1.ext hx7) hz2 (Hbc.out.trans (Below.mono bl7 Hbc.out.size)) (by omega) (by omega)
    have HF := Lib.hid (And.intro hzz1 (And.intro hzz2 (And.intro hbf (And.intro f1 (And.intro f2 (And.intro f3 f4))))))
    have HW' := Lib.hid hW'
    clear hzz1 hzz2 hbf f1 f2 f3 f4 hW'
    go_wp2
    rw [← HW'.out]
    obtain ⟨hzz1, hzz2, hbf, f1, f2, f3, f4⟩ := HF.out
    exact bodyPost_ret (v := .tuple #[.agg #[.bool b1, .slice A1 n1' c1], .agg #[.bool b2, .slice A2 n2' c2], .int .i64 0]) (by simp [results, Tryz.results175, go_sem, f1, f2, f3, f4]) rfl ⟨_, _, _, _, _, _, _, _, rfl, hzz1, hzz2, hbf⟩

/-- exact.Div -/
theorem exactDiv_u (p q : Bool) (A A' : Option Addr) (n c n' c' : Nat) (l l' : List Nat) (w : World) (hx : Wd w (.slice A n c) l) (hy : Wd w (.slice A' n' c') l') :
    Calls Tryz.prog 175 #[.agg #[.bool p, .slice A n c], .agg #[.bool q, .slice A' n' c']] w (RetDiv w (divQ p q l l') (divR p q l l') (divE p q l l')) := by
  unfold divQ divR divE
  by_cases h : (vld p l && vld q l') = true
  · rw [if_pos h, if_pos h, if_pos h]
    have h' := h
    simp at h'
    by_cases h0 : numOf q l' = 0
    · rw [if_pos h0, if_pos h0, if_pos h0]
      exact exactDiv_zero p q A A' n c n' c' l l' w hx hy h'.1 h'.2 h0
    · rw [if_neg h0, if_neg h0, if_neg h0]
      exact exactDiv_yes p q A A' n c n' c' l l' w hx hy h'.1 h'.2 h0
  · rw [if_neg h, if_neg h, if_neg h]
    exact exactDiv_no p q A A' n c n' c' l l' w hx hy (by simpa using h)
end Go.Proofs.YtijhbmdbnnmogaaGreat
namespace Go.Proofs.YtijhbmdbnnmogaaGreat
open Go.RowKit

def MinI : Int := -9223372036854775808
def MaxI : Int := 9223372036854775807

theorem neg_wrap (n : Int) (h1 : n < 0) (h2 : -9223372036854775808 ≤ n) : IntKind.u64.wrap (-(IntKind.u64.wrap n)) = (n.natAbs : Int) := by
  rw [IntKind.wrap_u64, IntKind.wrap_u64]; omega
theorem pos_wrap (n : Int) (h1 : 0 ≤ n) (h2 : n ≤ 9223372036854775807) : IntKind.u64.wrap n = (n.natAbs : Int) := by
  rw [IntKind.wrap_u64]; omega

set_option maxRecDepth 100000 in
/-- exact.small -/
theorem smallE_any (n : Int) (w : World) (h1 : -9223372036854775808 ≤ n) (h2 : n ≤ 9223372036854775807) : Calls Tryz.prog 119 #[.int .i64 n] w (RetZ w n) := by
  have hw : n.natAbs < 18446744073709551616 := by omega
  by_cases h : n < 0
  · have hn := neg_wrap n h h1
    have Hn := Lib.hid hn; clear hn
    go_enter Tryz.func119, Tryz.ntmps119
    go_wp2_with fail
    rw [Hn.out]
    have hb0 := below1 w (Obj.cells #[.bool false, .slice none 0 0] 152)
    refine (asSlice (naturalOf_any n.natAbs hw _)).mono ?_
    rintro e w1 ⟨A5, n5, c5, rfl, hr, hb1⟩
    have hR := (RB.c1 w false none 0 0 152).below hb1 (by simp)
    obtain ⟨a0, A0, n0, c0, k10, k11, k20, k21⟩ := hR.facts
    have s0 := hR.set0 true (.slice A5 n5 c5)
    have s1 := hR.set1 true (.slice A5 n5 c5)
    have fin := And.intro (hr.rb hR (.bool true) (.slice A5 n5 c5)) (below_set2 (g := w.heap.size) (i := 0) (j := 1) (hb0.trans (hb1.mono (by simp))) (Nat.le_refl _) (.bool true) (.slice A5 n5 c5))
    have Fin := Lib.hid fin; clear fin hb1 hb0 hR
    go_wp2
    exact bodyPost_ret (v := .agg #[.bool true, .slice A5 n5 c5]) (by simp [results, Tryz.results119, go_sem, s0, s1]) rfl ⟨_, rfl, ZV.mk (by simp; omega) Fin.out.1, Fin.out.2⟩
  · have h0 : 0 ≤ n := by omega
    have hn : n = (n.natAbs : Int) := by omega
    have Hn := Lib.hid hn; clear hn
    go_enter Tryz.func119, Tryz.ntmps119
    go_wp2_with fail
    have hb0 := below1 w (Obj.cells #[.bool false, .slice none 0 0] 152)
    refine (asSlice ((by have := naturalOf_any n.natAbs hw (w.alloc (Obj.cells #[.bool false, .slice none 0 0] 152)); rwa [← Hn.out] at this))).mono ?_
    rintro e w1 ⟨A5, n5, c5, rfl, hr, hb1⟩
    have hR := (RB.c1 w false none 0 0 152).below hb1 (by simp)
    obtain ⟨a0, A0, n0, c0, k10, k11, k20, k21⟩ := hR.facts
    have s0 := hR.set0 false (.slice A5 n5 c5)
    have s1 := hR.set1 false (.slice A5 n5 c5)
    have fin := And.intro (hr.rb hR (.bool false) (.slice A5 n5 c5)) (below_set2 (g := w.heap.size) (i := 0) (j := 1) (hb0.trans (hb1.mono (by simp))) (Nat.le_refl _) (.bool false) (.slice A5 n5 c5))
    have Fin := Lib.hid fin; clear fin hb1 hb0 hR
    go_wp2
    exact bodyPost_ret (v := .agg #[.bool false, .slice A5 n5 c5]) (by simp [results, Tryz.results119, go_sem, s0, s1]) rfl ⟨_, rfl, ZV.mk (by simp; omega) Fin.out.1, Fin.out.2⟩

theorem or_join (x : Nat) : bits BinOp.or IntKind.u64 ((dg x 1 : Nat) * 4294967296 : Int) (dg x 0 : Nat) = ((x % 18446744073709551616 : Nat) : Int) := by
  have h0 := dg_lt x 0
  have h1 := dg_lt x 1
  have e : ((dg x 1 : Nat) * 4294967296 : Int) = ((dg x 1 * 4294967296 : Nat) : Int) := by omega
  rw [e, u64_or_nat _ _ (by omega) (by omega), nat_join 32 _ _ (by omega) (by omega)]
  have := mod_succ x 1
  have := mod_succ x 0
  simp only [Nat.pow_zero, Nat.mod_one, Nat.one_mul, Nat.zero_add, Nat.pow_one] at *
  omega

set_option maxRecDepth 100000 in
/-- natural.low -/
theorem low_any (x : Nat) (v : Value) (w : World) (hv : Wd w v (dig x)) : Calls Tryz.prog 123 #[v] w fun e w' => e = .returned (.int .u64 (x % 18446744073709551616 : Nat)) ∧ w = w' := by
  have h0 := dg_lt x 0
  have h1 := dg_lt x 1
  have ho := or_join x
  have Ho := Lib.hid ho; clear ho
  go_enter Tryz.func123, Tryz.ntmps123
  go_wp2_with fail
  refine (word_dig v x 1 _ hv).mono ?_
  rintro e w1 ⟨rfl, rfl⟩
  go_wp2_with fail
  refine (word_dig v x 0 _ hv).mono ?_
  rintro e w1 ⟨rfl, rfl⟩
  go_wp2
  go_ret
  exact ⟨by rw [← Ho.out]; rfl, rfl⟩
end Go.Proofs.YtijhbmdbnnmogaaGreat
namespace Go.Proofs.YtijhbmdbnnmogaaGreat
open Go.RowKit

theorem two1 {w : World} {c1 : Array Value} {t1 : TypeId} {o2 : Obj} (i : Nat) : ((w.alloc (.cells c1 t1)).alloc o2).cell? ⟨w.heap.size, i, none⟩ = c1[i]? := by
  rw [World.cell?_alloc_past _ _ _ (by simp), World.cell?_alloc_new]
theorem two2 {w : World} {c2 : Array Value} {t2 : TypeId} {o1 : Obj} (i : Nat) : ((w.alloc o1).alloc (.cells c2 t2)).cell? ⟨w.heap.size + 1, i, none⟩ = c2[i]? := by
  rw [World.cell?_alloc_at _ _ _ _ (by simp)]

end Go.Proofs.YtijhbmdbnnmogaaGreat
