/- Walks of the reference: inverse. · Walks of the reference: Exactly. -/
import Derived.Test.YtmlopkkbgpfdnaaM15
import Derived.Test.YtmlopkkbgpfdnaaM19
import Derived.RegionTactic
import Derived.ChangeAlike
namespace Go.Proofs.Ytmlopkkbgpfdnaa
open Go.RowKit

/-- between the rounds of inverse -/
structure VI (W wr : World) (g2 g3 g4 g5 g6 g7 : Nat) (vA vB : Int) (L : Nat) (g r u v : Int) : Prop where
  ex : Ex vA vB g r u v
  h2 : HZ wr g2 g
  h3 : HZ wr g3 vB
  h5 : HZ wr g5 u
  h6 : HZ wr g6 v
  h7 : HZ wr g7 r
  r2 : RB wr g2
  r4 : RB wr g4
  r5 : RB wr g5
  r6 : RB wr g6
  r7 : RB wr g7
  lg : (dig g.natAbs).length ≤ L
  lr : (dig r.natAbs).length ≤ L
  gr : Ext W wr
theorem VI.ext {W wr X : World} {g2 g3 g4 g5 g6 g7 : Nat} {vA vB : Int} {L : Nat} {g r u v : Int} (h : VI W wr g2 g3 g4 g5 g6 g7 vA vB L g r u v) (e : Ext wr X) : VI W X g2 g3 g4 g5 g6 g7 vA vB L g r u v :=
  ⟨h.ex, h.h2.ext h.h2.lt e, h.h3.ext h.h3.lt e, h.h5.ext h.h5.lt e, h.h6.ext h.h6.lt e, h.h7.ext h.h7.lt e, h.r2.ext e, h.r4.ext e, h.r5.ext e, h.r6.ext e, h.r7.ext e, h.lg, h.lr, h.gr.trans e⟩
theorem VI.step {A B g r u v : Int} (h : Ex A B g r u v) (hr : r ≠ 0) : Ex A B r (g % r) v (u - g / r * v) := by
  have h0 := h.r0
  have s := Ex.step h (SO.plain h.g0 (by omega))
  have e1 : 0 * g + 1 * r = r := by grind
  have e2 : 1 * g + -(g / r) * r = g % r := by have := Int.emod_add_mul_ediv g r; grind
  have e3 : 0 * u + 1 * v = v := by grind
  have e4 : 1 * u + -(g / r) * v = u - g / r * v := by grind
  rwa [e1, e2, e3, e4] at s
set_option maxHeartbeats 800000 in
set_option maxRecDepth 100000 in
theorem inverseR_any (r t : Int) (u u' : Value) (W : World) (hx : ZV W u r) (hy : ZV W u' t) (ht : 0 < t) (hc : Int.gcd r t = 1) (lx : (dig r.natAbs).length ≤ 300) (ly : (dig t.natAbs).length ≤ 300) :
    Calls Try.prog 71 #[u, u'] W fun e w' => ∃ x : Int, 0 ≤ x ∧ x < t ∧ t ∣ 1 - r * x ∧ RetZ W x e w' := by
  obtain ⟨Ax, nx, cx, rfl, -, -, -⟩ := hx.open_
  obtain ⟨Ay, ny, cy, rfl, -, -, -⟩ := hy.open_
  obtain ⟨bx, hbx⟩ : ∃ b, b = decide (r < 0) := ⟨_, rfl⟩
  obtain ⟨bY, hby⟩ : ∃ b, b = decide (t < 0) := ⟨_, rfl⟩
  rw [← hbx] at hx ⊢
  rw [← hby] at hy ⊢
  clear hby hbx
  obtain ⟨W1, hW1⟩ : ∃ W1, W1 = ((W.alloc (.cells #[.bool bx, .slice Ax nx cx] 34)).alloc (.cells #[.bool bY, .slice Ay ny cy] 34)).alloc (.cells #[.bool false, .slice none 0 0] 34) := ⟨_, rfl⟩
  have p1 : HZ (W.alloc (.cells #[.bool bx, .slice Ax nx cx] 34)) W.heap.size r := HZ.lit W bx Ax nx cx 34 hx
  have p2 : HZ ((W.alloc (.cells #[.bool bx, .slice Ax nx cx] 34)).alloc (.cells #[.bool bY, .slice Ay ny cy] 34)) (W.heap.size + 1) t := by
    have := HZ.lit (W.alloc (.cells #[.bool bx, .slice Ax nx cx] 34)) bY Ay ny cy 34 (hy.ext ((Ext.refl _).alc _))
    rwa [World.size_alloc] at this
  have PX : Hid (HZ W1 W.heap.size r) := Lib.hid (by rw [hW1]; exact p1.ext p1.lt (((Ext.refl _).alc _).alc _))
  have PY : Hid (HZ W1 (W.heap.size + 1) t) := Lib.hid (by rw [hW1]; exact p2.ext p2.lt ((Ext.refl _).alc _))
  have R2 : Hid (RB W1 W.heap.size) := Lib.hid (by rw [hW1]; exact RB.a1 W bx Ax nx cx 34 _ _)
  have R4 : Hid (RB W1 (W.heap.size + 1 + 1)) := Lib.hid (by rw [hW1]; exact RB.a3 W false none 0 0 34 _ _)
  have E1 : Hid (Ext W W1) := Lib.hid (by rw [hW1]; exact (((Ext.refl W).alc _).alc _).alc _)
  have zl : W.heap.size + 1 + 1 < W1.heap.size := R4.out.lt
  have HW1 := Lib.hid hW1
  have HLL := Lib.hid (And.intro lx ly)
  have ht0 : t ≠ 0 := by omega
  clear p1 p2 hW1 hx hy lx ly
  go_enter Try.func71, Try.ntmps71
  go_upto_region 1 with fail
  rw [← HW1.out]
  clear HW1
  obtain ⟨b1, A1, n1, c1, k0, k1, kz⟩ := PX.out
  obtain ⟨b2, A2, n2, c2, j0, j1, jz⟩ := PY.out
  have KZ := Lib.hid kz; have JZ := Lib.hid jz
  have l1 := R2.out.lt
  clear kz jz
  have HO := Lib.hid (overR_any r t _ _ _ KZ.out JZ.out (by have := HLL.out; omega) (by have := HLL.out; omega) ht0)
  obtain ⟨A, hA⟩ : ∃ A, A = r % t := ⟨_, rfl⟩
  obtain ⟨Q, hQ⟩ : ∃ Q, Q = r / t := ⟨_, rfl⟩
  have hA0 : 0 ≤ A ∧ A < t := by rw [hA]; exact ⟨Int.emod_nonneg _ ht0, Int.emod_lt_of_pos _ ht⟩
  rw [← hA, ← hQ] at HO
  go_wp2_with fail
  refine HO.out.mono ?_
  rintro e w2 h
  obtain ⟨b3, A3, n3, c3, b4, A4, n4, c4, rfl, y1, y2, x2⟩ := zz_shape h
  replace x2 : Ext W1 w2 := x2
  clear h k0 k1 j0 j1 HO KZ JZ
  have q2 := R2.out.ext x2
  obtain ⟨_, _, _, _, g30, g31, g32, g33⟩ := q2.facts
  obtain ⟨W2, hW2⟩ : ∃ W2, W2 = (w2.setCell ⟨W.heap.size, 0, none⟩ (.bool b4)).setCell ⟨W.heap.size, 1, none⟩ (.slice A4 n4 c4) := ⟨_, rfl⟩
  have m2 : HZ W2 W.heap.size A := by rw [hW2]; exact HZ.put q2 y2
  have m3 : HZ W2 (W.heap.size + 1) t := by rw [hW2]; exact (PY.out.ext (by omega) x2).far q2 (by omega) _ _
  have s2 : RB W2 W.heap.size := by rw [hW2]; exact q2.set _ _ _ _
  have s4 : RB W2 (W.heap.size + 1 + 1) := by rw [hW2]; exact (R4.out.ext x2).far q2 (by omega) _ _
  have e2 : Ext W W2 := by rw [hW2]; exact below_set2 (Ext.below (E1.out.trans x2)) (Nat.le_refl _) _ _
  have HM := Lib.hid (And.intro m2 (And.intro m3 (And.intro s2 (And.intro s4 e2))))
  have HW2 := Lib.hid hW2
  clear m2 m3 s2 s4 e2 hW2 y1 y2 x2 q2 R2 R4 PX PY E1 hQ l1 zl
  go_upto_region 2 with fail
  rw [← HW2.out]
  clear g30 g31 g32 g33 HW2
  go_wp2_with fail
  refine (asAgg (wholeR_any 1 _ (by omega) (by omega))).mono ?_
  rintro e w3 ⟨b5, A5, n5, c5, rfl, hz1, x3⟩
  have X3 := Lib.hid x3; have Y3 := Lib.hid hz1; clear x3 hz1
  go_wp2_with fail
  refine (asAgg (wholeR_any 0 _ (by omega) (by omega))).mono ?_
  rintro e w4 ⟨b6, A6, n6, c6, rfl, hz2, x4⟩
  have X4 := Lib.hid x4; have Y4 := Lib.hid hz2; clear x4 hz2
  go_upto_region 3 with fail
  obtain ⟨W4, hW4⟩ : ∃ W4, W4 = (w4.alloc (Obj.cells #[.bool b5, .slice A5 n5 c5] 34)).alloc (Obj.cells #[.bool b6, .slice A6 n6 c6] 34) := ⟨_, rfl⟩
  have e4 : Ext W2 W4 := by rw [hW4]; exact ((Ext.trans X3.out X4.out).alc _).alc _
  obtain ⟨i5, i6⟩ := hz_new w4 b5 A5 n5 c5 b6 A6 n6 c6 34 (Y3.out.ext X4.out) Y4.out
  have r5 : RB W4 w4.heap.size := by rw [hW4]; exact (RB.c1 w4 b5 A5 n5 c5 34).ext ((Ext.refl _).alc _)
  have r6 : RB W4 (w4.heap.size + 1) := by
    have := RB.c1 (w4.alloc (Obj.cells #[.bool b5, .slice A5 n5 c5] 34)) b6 A6 n6 c6 34
    rw [World.size_alloc] at this
    rw [hW4]; exact this
  rw [← hW4] at i5 i6 ⊢
  obtain ⟨g5, hg5⟩ : ∃ k, k = w4.heap.size := ⟨_, rfl⟩
  have l45 : W.heap.size + 1 + 1 < g5 := by rw [hg5]; exact Nat.lt_of_lt_of_le HM.out.2.2.2.1.lt (Ext.trans X3.out X4.out).size
  rw [← hg5] at i5 i6 r5 r6 ⊢
  have m3 := HM.out.2.1.ext HM.out.2.1.lt e4
  obtain ⟨b2, A2, n2, c2, j0, j1, jz⟩ := m3
  have HJ := Lib.hid (And.intro i5 (And.intro i6 (And.intro r5 (And.intro r6 (And.intro e4 jz)))))
  have l6 := i6.lt
  clear i5 i6 r5 r6 e4 jz hW4 hg5 X3 X4 Y3 Y4
  go_wp2_with fail
  obtain ⟨W5, hW5⟩ : ∃ W5, W5 = W4.alloc (Obj.cells #[.bool b2, .slice A2 n2 c2] 34) := ⟨_, rfl⟩
  obtain ⟨i5, i6, r5, r6, e4, jz⟩ := HJ.out
  have e5 : Ext W4 W5 := by rw [hW5]; exact (Ext.refl _).alc _
  have i7 : HZ W5 W4.heap.size t := by rw [hW5]; exact HZ.lit W4 b2 A2 n2 c2 34 jz
  have r7 : RB W5 W4.heap.size := by rw [hW5]; exact RB.c1 W4 b2 A2 n2 c2 34
  rw [← hW5]
  obtain ⟨g7, hg7⟩ : ∃ k, k = W4.heap.size := ⟨_, rfl⟩
  rw [← hg7] at i7 r7 l6 ⊢
  have m2 := HM.out.1.ext HM.out.1.lt (e4.trans e5)
  have m3 := HM.out.2.1.ext HM.out.2.1.lt (e4.trans e5)
  have s2 := HM.out.2.2.1.ext (e4.trans e5)
  have s4 := HM.out.2.2.2.1.ext (e4.trans e5)
  have HI : Hid (VI W W5 W.heap.size (W.heap.size + 1) (W.heap.size + 1 + 1) g5 (g5 + 1) g7 A t 300 A t 1 0) := Lib.hid ⟨Ex.init hA0.1 (by omega), m2, m3, i5.ext i5.lt e5, i6.ext i6.lt e5, i7, s2, s4, r5.ext e5, r6.ext e5, r7, Nat.le_trans (len_mono (by omega)) HLL.out.2, HLL.out.2, HM.out.2.2.2.2.trans (e4.trans e5)⟩
  have HAA := Lib.hid hA
  clear m2 m3 s2 s4 i5 i6 i7 r5 r6 r7 e4 e5 jz hW5 hg7 HJ HM j0 j1 hA
  go_loopw [] (fun wr => ∃ g r' u v : Int, Hid (VI W wr W.heap.size (W.heap.size + 1) (W.heap.size + 1 + 1) g5 (g5 + 1) g7 A t 300 g r' u v)) (fun wr => hzNum wr g7)
  case atStart => exact ⟨_, _, _, _, HI⟩
  case round =>
    clear HI
    obtain ⟨g, r', uu, vv, hXI⟩ := hrel
    obtain ⟨b7, A7, n7, c7, k0, k1, kz⟩ := hXI.out.h7
    have ZG := Lib.hid (zeroR_any r' _ wr kz)
    have BD := Lib.hid (hXI.out.ex.bounds (by omega))
    clear kz
    go_wp2_with fail
    refine ZG.out.mono ?_
    rintro e w6 ⟨rfl, x6⟩
    replace x6 : Ext wr w6 := x6
    have X6 := Lib.hid (hXI.out.ext x6)
    clear k0 k1
    by_cases hb : r' = 0
    · have hd : decide (r' = 0) = true := by simp [hb]
      rw [hd]
      subst hb
      go_upto_region 8 with fail
      obtain ⟨b8, A8, n8, c8, k0, k1, kz⟩ := X6.out.h5
      obtain ⟨b9, A9, n9, c9, j0, j1, jz⟩ := X6.out.h3
      have HO := Lib.hid (overR_any uu t _ _ w6 kz jz (Nat.le_trans (len_mono BD.out.1) (by have := HLL.out; omega)) (by have := HLL.out; omega) ht0)
      have hend := inv_end ht hc (by rw [← HAA.out]; exact X6.out.ex)
      obtain ⟨fx, hfx⟩ : ∃ fx, fx = uu % t := ⟨_, rfl⟩
      obtain ⟨fq, hfq⟩ : ∃ fq, fq = uu / t := ⟨_, rfl⟩
      rw [← hfx] at hend
      rw [← hfx, ← hfq] at HO
      have HE := Lib.hid hend
      clear kz jz hfx hfq hend
      go_wp2_with fail
      refine HO.out.mono ?_
      rintro e w7 h
      obtain ⟨b3, A3, n3, c3, b4, A4, n4, c4, rfl, y1, y2, x7⟩ := zz_shape h
      replace x7 : Ext w6 w7 := x7
      clear h k0 k1 j0 j1 HO
      have q5 := X6.out.r5.ext x7
      have q4 := X6.out.r4.ext x7
      have e7 := X6.out.gr.trans x7
      obtain ⟨_, _, _, _, g30, g31, g32, g33⟩ := q5.facts
      obtain ⟨W8, hW8⟩ : ∃ W8, W8 = (w7.setCell ⟨g5, 0, none⟩ (.bool b4)).setCell ⟨g5, 1, none⟩ (.slice A4 n4 c4) := ⟨_, rfl⟩
      have m5 : HZ W8 g5 fx := by rw [hW8]; exact HZ.put q5 y2
      have m4 : RB W8 (W.heap.size + 1 + 1) := by rw [hW8]; exact q4.far q5 (by omega) _ _
      have e8 : Ext W W8 := by rw [hW8]; exact below_set2 (Ext.below e7) (by omega) _ _
      have HM := Lib.hid (And.intro m5 (And.intro m4 e8))
      have HW8 := Lib.hid hW8
      clear hW8 m5 m4 e8 e7 q4 q5 y1 y2 x7
      go_upto_region 9 with fail
      rw [← HW8.out]
      clear g30 g31 g32 g33 HW8
      obtain ⟨b8, A8, n8, c8, k0, k1, kz⟩ := HM.out.1
      have R4 := HM.out.2.1
      have s0 := R4.set0 b8 (.slice A8 n8 c8); have s1 := R4.set1 b8 (.slice A8 n8 c8)
      have hz := kz.rb R4 (.bool b8) (.slice A8 n8 c8)
      have hbf := below_set2 (Ext.below HM.out.2.2) (i := 0) (j := 1) (show W.heap.size ≤ W.heap.size + 1 + 1 by omega) (.bool b8) (.slice A8 n8 c8)
      obtain ⟨_, _, _, _, g30, g31, g32, g33⟩ := R4.facts
      have F := Lib.hid (And.intro s0 (And.intro s1 (And.intro hz hbf)))
      clear s0 s1 hz hbf kz R4
      go_wp2
      obtain ⟨s0, s1, hz, hbf⟩ := F.out
      exact bodyPost_ret (v := .agg #[.bool b8, .slice A8 n8 c8]) (by simp [results, Try.results71, go_sem, s0, s1]) rfl ⟨fx, HE.out.1, HE.out.2.1, HE.out.2.2, ⟨_, rfl, hz, hbf⟩⟩
    · have hd : decide (r' = 0) = false := by simp [hb]
      rw [hd]
      have hst := VI.step X6.out.ex hb
      have hr0 := X6.out.ex.r0
      have hmod : 0 ≤ g % r' ∧ g % r' < r' := ⟨Int.emod_nonneg _ hb, Int.emod_lt_of_pos _ (by omega)⟩
      have hg0 := X6.out.ex.g0
      have hq : 0 ≤ g / r' ∧ g / r' ≤ g := ⟨Int.ediv_nonneg hg0 hr0, Int.ediv_le_self _ hg0⟩
      have HN : Hid (hzNum wr g7 = r'.natAbs) := Lib.hid (hzNum_eq hXI.out.h7)
      go_upto_region 5 with fail
      obtain ⟨b8, A8, n8, c8, k0, k1, kz⟩ := X6.out.h2
      obtain ⟨b9, A9, n9, c9, j0, j1, jz⟩ := X6.out.h7
      have HO := Lib.hid (overR_any g r' _ _ w6 kz jz (by have := X6.out.lg; omega) (by have := X6.out.lr; omega) hb)
      obtain ⟨m, hm⟩ : ∃ m, m = g % r' := ⟨_, rfl⟩
      obtain ⟨q, hqq⟩ : ∃ q, q = g / r' := ⟨_, rfl⟩
      rw [← hm] at hst hmod
      rw [← hqq] at hst hq
      rw [← hm, ← hqq] at HO
      have HST := Lib.hid hst; have HMD := Lib.hid (And.intro hmod hq)
      clear kz jz hst hmod hq hm hqq
      go_wp2_with fail
      refine HO.out.mono ?_
      rintro e w7 h
      obtain ⟨b3, A3, n3, c3, b4, A4, n4, c4, rfl, y1, y2, x7⟩ := zz_shape h
      replace x7 : Ext w6 w7 := x7
      clear h k0 k1 j0 j1 HO
      have Y1 := Lib.hid y1; have Y2 := Lib.hid y2; have X7 := Lib.hid x7
      have l27 : g7 < w7.heap.size := Nat.lt_of_lt_of_le X6.out.h7.lt x7.size
      clear y1 y2 x7
      go_upto_region 6 with fail
      obtain ⟨W8, hW8⟩ : ∃ W8, W8 = (w7.alloc (Obj.cells #[.bool b3, .slice A3 n3 c3] 34)).alloc (Obj.cells #[.bool b4, .slice A4 n4 c4] 34) := ⟨_, rfl⟩
      have e8 : Ext w6 W8 := by rw [hW8]; exact (X7.out.alc _).alc _
      obtain ⟨i8, i9⟩ := hz_new w7 b3 A3 n3 c3 b4 A4 n4 c4 34 Y1.out Y2.out
      rw [← hW8] at i8 i9 ⊢
      obtain ⟨g8, hg8⟩ : ∃ k, k = w7.heap.size := ⟨_, rfl⟩
      rw [← hg8] at i8 i9 l27 ⊢
      have X8 := X6.out.ext e8
      obtain ⟨bb, BB, mb, db, k0, k1, kz⟩ := X8.h7
      obtain ⟨bc, BC, mc, dc, j0, j1, jz⟩ := i9
      obtain ⟨_, _, _, _, g20, g21, g22, g23⟩ := X8.r2.facts
      obtain ⟨_, _, _, _, g70, g71, g72, g73⟩ := X8.r7.facts
      have T := X8.r7.far X8.r2 (show g7 ≠ W.heap.size by omega) (.bool bb) (.slice BB mb db)
      obtain ⟨_, _, _, _, g50, g51, g52, g53⟩ := T.facts
      obtain ⟨W9, hW9, m1, m2, m3, m4, m5, m6, m7, -, -⟩ := two_putH X8.r2 X8.r7 (show g7 ≠ W.heap.size by omega) bb BB mb db bc BC mc dc kz jz (Ext.below X8.gr) (by omega) (by omega)
      have t3 := m7 _ _ X8.h3 (by omega) (by omega)
      have t5 := m7 _ _ X8.h5 (by omega) (by omega)
      have t6 := m7 _ _ X8.h6 (by omega) (by omega)
      have t8 := m7 _ _ i8 (by omega) (by omega)
      have u4 := m6 _ X8.r4 (by omega) (by omega)
      have u5 := m6 _ X8.r5 (by omega) (by omega)
      have u6 := m6 _ X8.r6 (by omega) (by omega)
      have c2 : W8.cell? ⟨W.heap.size, 0, none⟩ = W8.cell? ⟨W.heap.size, 0, none⟩ := rfl
      have HT := Lib.hid (And.intro m1 (And.intro m2 (And.intro m3 (And.intro m4 (And.intro t3 (And.intro t5 (And.intro t6 (And.intro t8 (And.intro u4 (And.intro u5 (And.intro u6 m5)))))))))))
      have HW9 := Lib.hid hW9
      clear m1 m2 m3 m4 m5 m6 m7 t3 t5 t6 t8 u4 u5 u6 hW9 X8 kz jz i8 T hW8 hg8 e8 c2 Y1 Y2 X7
      go_cut [] (fun wx => wx = W9.drew)
      case first =>
        go_region
        all_goals (go_wp2_with fail; go_meet; rw [HW9.out])
      case rest =>
        subst hcut
        clear g20 g21 g22 g23 g50 g51 g52 g53 g70 g71 g72 g73 k0 k1 j0 j1 HW9
        have lq : (dig (q * vv).natAbs).length ≤ 600 := len_times (Nat.le_trans (len_mono (show q.natAbs ≤ g.natAbs by have := HMD.out; omega)) X6.out.lg) (Nat.le_trans (len_mono BD.out.2) HLL.out.2)
        have lu : (dig uu.natAbs).length ≤ 300 := Nat.le_trans (len_mono BD.out.1) HLL.out.2
        have lv : (dig vv.natAbs).length ≤ 300 := Nat.le_trans (len_mono BD.out.2) HLL.out.2
        have lqq : (dig q.natAbs).length ≤ 300 := Nat.le_trans (len_mono (show q.natAbs ≤ g.natAbs by have := HMD.out; omega)) X6.out.lg
        go_upto_region 7 with fail
        refine wp_region_noPanic ?_
        refine wp_pool 6 [some 30, some 31, some 32, some 33, some 34, some 35] [] [] [(fun (v : Value) (X : World) => ∃ b A n c, v = .agg #[.bool b, .slice A n c] ∧ ZV X (.agg #[.bool b, .slice A n c]) (vv)), (fun (v : Value) (X : World) => ∃ b A n c, v = .agg #[.bool b, .slice A n c] ∧ ZV X (.agg #[.bool b, .slice A n c]) (uu)), (fun (v : Value) (X : World) => ∃ b A n c, v = .agg #[.bool b, .slice A n c] ∧ ZV X (.agg #[.bool b, .slice A n c]) (q)), (fun (v : Value) (X : World) => ∃ b A n c, v = .agg #[.bool b, .slice A n c] ∧ ZV X (.agg #[.bool b, .slice A n c]) (vv)), (fun (v : Value) (X : World) => ∃ b A n c, v = .agg #[.bool b, .slice A n c] ∧ ZV X (.agg #[.bool b, .slice A n c]) (q * vv)), (fun (v : Value) (X : World) => ∃ b A n c, v = .agg #[.bool b, .slice A n c] ∧ ZV X (.agg #[.bool b, .slice A n c]) (uu - q * vv))] [noF, noF, noF, noF, noF, noF] (by kernel_rfl) (by kernel_rfl) (by kernel_rfl) (by kernel_rfl) (by kernel_rfl) (by kernel_rfl) (by kernel_rfl) (by kernel_rfl) (fun _ _ _ _ h => h) ⟨(fun _ _ _ e ⟨b, A, n, c, h1, h2⟩ => ⟨b, A, n, c, h1, h2.ext e⟩), (fun _ _ _ e ⟨b, A, n, c, h1, h2⟩ => ⟨b, A, n, c, h1, h2.ext e⟩), (fun _ _ _ e ⟨b, A, n, c, h1, h2⟩ => ⟨b, A, n, c, h1, h2.ext e⟩), (fun _ _ _ e ⟨b, A, n, c, h1, h2⟩ => ⟨b, A, n, c, h1, h2.ext e⟩), (fun _ _ _ e ⟨b, A, n, c, h1, h2⟩ => ⟨b, A, n, c, h1, h2.ext e⟩), (fun _ _ _ e ⟨b, A, n, c, h1, h2⟩ => ⟨b, A, n, c, h1, h2.ext e⟩), True.intro⟩ ?steps ?done
        case steps =>
          simp only [List.take_succ_cons, List.take_zero]
          refine Steps.cons (fun (v : Value) (X : World) => ∃ b A n c, v = .agg #[.bool b, .slice A n c] ∧ ZV X (.agg #[.bool b, .slice A n c]) (vv)) [] rfl (by kernel_rfl) rfl (by kernel_rfl) (fun y X ex0 hf K hK => ?_) ?_
          · clear hf
            have ex := (Ext.drw (Ext.refl _)).trans ex0
            refine Box.mk ?_
            simp only [fill, Act.put, Nat.reduceAdd, List.setIfInBounds_toArray, List.set_cons_zero, List.set_cons_succ] at hK ⊢
            obtain ⟨bl, Al, nl, cl, k0, k1, kz⟩ := (HT.out.2.2.2.2.2.2.1.ext HT.out.2.2.2.2.2.2.1.lt ((Ext.drew W9).trans ex))
            go_simp
            exact hK.out _ _ ⟨_, _, _, _, rfl, kz⟩ (Ext.refl _) (fun b hb => by cases hb)
          refine Steps.cons (fun (v : Value) (X : World) => ∃ b A n c, v = .agg #[.bool b, .slice A n c] ∧ ZV X (.agg #[.bool b, .slice A n c]) (uu)) [] rfl (by kernel_rfl) rfl (by kernel_rfl) (fun y X ex0 hf K hK => ?_) ?_
          · clear hf
            have ex := (Ext.drw (Ext.refl _)).trans ex0
            refine Box.mk ?_
            simp only [fill, Act.put, Nat.reduceAdd, List.setIfInBounds_toArray, List.set_cons_zero, List.set_cons_succ] at hK ⊢
            obtain ⟨bl, Al, nl, cl, k0, k1, kz⟩ := (HT.out.2.2.2.2.2.1.ext HT.out.2.2.2.2.2.1.lt ((Ext.drew W9).trans ex))
            go_simp
            exact hK.out _ _ ⟨_, _, _, _, rfl, kz⟩ (Ext.refl _) (fun b hb => by cases hb)
          refine Steps.cons (fun (v : Value) (X : World) => ∃ b A n c, v = .agg #[.bool b, .slice A n c] ∧ ZV X (.agg #[.bool b, .slice A n c]) (q)) [] rfl (by kernel_rfl) rfl (by kernel_rfl) (fun y X ex0 hf K hK => ?_) ?_
          · clear hf
            have ex := (Ext.drw (Ext.refl _)).trans ex0
            refine Box.mk ?_
            simp only [fill, Act.put, Nat.reduceAdd, List.setIfInBounds_toArray, List.set_cons_zero, List.set_cons_succ] at hK ⊢
            obtain ⟨bl, Al, nl, cl, k0, k1, kz⟩ := (HT.out.2.2.2.2.2.2.2.1.ext HT.out.2.2.2.2.2.2.2.1.lt ((Ext.drew W9).trans ex))
            go_simp
            exact hK.out _ _ ⟨_, _, _, _, rfl, kz⟩ (Ext.refl _) (fun b hb => by cases hb)
          refine Steps.cons (fun (v : Value) (X : World) => ∃ b A n c, v = .agg #[.bool b, .slice A n c] ∧ ZV X (.agg #[.bool b, .slice A n c]) (vv)) [] rfl (by kernel_rfl) rfl (by kernel_rfl) (fun y X ex0 hf K hK => ?_) ?_
          · clear hf
            have ex := (Ext.drw (Ext.refl _)).trans ex0
            refine Box.mk ?_
            simp only [fill, Act.put, Nat.reduceAdd, List.setIfInBounds_toArray, List.set_cons_zero, List.set_cons_succ] at hK ⊢
            obtain ⟨bl, Al, nl, cl, k0, k1, kz⟩ := (HT.out.2.2.2.2.2.2.1.ext HT.out.2.2.2.2.2.2.1.lt ((Ext.drew W9).trans ex))
            go_simp
            exact hK.out _ _ ⟨_, _, _, _, rfl, kz⟩ (Ext.refl _) (fun b hb => by cases hb)
          refine Steps.cons (fun (v : Value) (X : World) => ∃ b A n c, v = .agg #[.bool b, .slice A n c] ∧ ZV X (.agg #[.bool b, .slice A n c]) (q * vv)) [2, 3] rfl (by kernel_rfl) rfl (by kernel_rfl) (fun y X ex0 hf K hK => ?_) ?_
          · have hh2 : ((fun (v : Value) (X : World) => ∃ b A n c, v = .agg #[.bool b, .slice A n c] ∧ ZV X (.agg #[.bool b, .slice A n c]) (q))) (y 2) X := hf.1
            refine Exists.elim hh2 (fun b2 hx2_0 => ?_)
            refine Exists.elim hx2_0 (fun A2 hx2_1 => ?_)
            refine Exists.elim hx2_1 (fun n2 hx2_2 => ?_)
            refine Exists.elim hx2_2 (fun c2 hx2_3 => ?_)
            have h2 := hx2_3.1
            have z2 := hx2_3.2
            clear hh2 hx2_0 hx2_1 hx2_2 hx2_3
            have hh3 : ((fun (v : Value) (X : World) => ∃ b A n c, v = .agg #[.bool b, .slice A n c] ∧ ZV X (.agg #[.bool b, .slice A n c]) (vv))) (y 3) X := hf.2.1
            refine Exists.elim hh3 (fun b3 hx3_0 => ?_)
            refine Exists.elim hx3_0 (fun A3 hx3_1 => ?_)
            refine Exists.elim hx3_1 (fun n3 hx3_2 => ?_)
            refine Exists.elim hx3_2 (fun c3 hx3_3 => ?_)
            have h3 := hx3_3.1
            have z3 := hx3_3.2
            clear hh3 hx3_0 hx3_1 hx3_2 hx3_3
            clear hf
            have ex := (Ext.drw (Ext.refl _)).trans ex0
            refine Box.mk ?_
            simp only [fill, Act.put, Nat.reduceAdd, List.setIfInBounds_toArray, List.set_cons_zero, List.set_cons_succ, h2, h3] at hK ⊢
            go_simp
            refine (asAgg (timesRZ_any _ _ _ _ _ z2 z3 (by omega) (by omega))).mono ?_
            rintro e V ⟨b9, A9, n9, c9, rfl, hz, hb⟩
            try go_wp2_with fail
            exact hK.out _ _ ⟨_, _, _, _, rfl, hz⟩ hb (fun b hb => by cases hb)
          refine Steps.cons (fun (v : Value) (X : World) => ∃ b A n c, v = .agg #[.bool b, .slice A n c] ∧ ZV X (.agg #[.bool b, .slice A n c]) (uu - q * vv)) [1, 4] rfl (by kernel_rfl) rfl (by kernel_rfl) (fun y X ex0 hf K hK => ?_) ?_
          · have hh1 : ((fun (v : Value) (X : World) => ∃ b A n c, v = .agg #[.bool b, .slice A n c] ∧ ZV X (.agg #[.bool b, .slice A n c]) (uu))) (y 1) X := hf.1
            refine Exists.elim hh1 (fun b1 hx1_0 => ?_)
            refine Exists.elim hx1_0 (fun A1 hx1_1 => ?_)
            refine Exists.elim hx1_1 (fun n1 hx1_2 => ?_)
            refine Exists.elim hx1_2 (fun c1 hx1_3 => ?_)
            have h1 := hx1_3.1
            have z1 := hx1_3.2
            clear hh1 hx1_0 hx1_1 hx1_2 hx1_3
            have hh4 : ((fun (v : Value) (X : World) => ∃ b A n c, v = .agg #[.bool b, .slice A n c] ∧ ZV X (.agg #[.bool b, .slice A n c]) (q * vv))) (y 4) X := hf.2.1
            refine Exists.elim hh4 (fun b4 hx4_0 => ?_)
            refine Exists.elim hx4_0 (fun A4 hx4_1 => ?_)
            refine Exists.elim hx4_1 (fun n4 hx4_2 => ?_)
            refine Exists.elim hx4_2 (fun c4 hx4_3 => ?_)
            have h4 := hx4_3.1
            have z4 := hx4_3.2
            clear hh4 hx4_0 hx4_1 hx4_2 hx4_3
            clear hf
            have ex := (Ext.drw (Ext.refl _)).trans ex0
            refine Box.mk ?_
            simp only [fill, Act.put, Nat.reduceAdd, List.setIfInBounds_toArray, List.set_cons_zero, List.set_cons_succ, h1, h4] at hK ⊢
            go_simp
            refine (asAgg (lessRZ_any _ _ _ _ _ z1 z4 (by omega) (by omega))).mono ?_
            rintro e V ⟨b9, A9, n9, c9, rfl, hz, hb⟩
            try go_wp2_with fail
            exact hK.out _ _ ⟨_, _, _, _, rfl, hz⟩ hb (fun b hb => by cases hb)
          exact Steps.nil
        case done =>
          intro y X ex hf hlt hsep
          have hh0 : ((fun (v : Value) (X : World) => ∃ b A n c, v = .agg #[.bool b, .slice A n c] ∧ ZV X (.agg #[.bool b, .slice A n c]) (vv))) (y 0) X := hf.1
          refine Exists.elim hh0 (fun b0 hx0_0 => ?_)
          refine Exists.elim hx0_0 (fun A0 hx0_1 => ?_)
          refine Exists.elim hx0_1 (fun n0 hx0_2 => ?_)
          refine Exists.elim hx0_2 (fun c0 hx0_3 => ?_)
          have h0 := hx0_3.1
          have z0 := hx0_3.2
          clear hh0 hx0_0 hx0_1 hx0_2 hx0_3
          have hh1 : ((fun (v : Value) (X : World) => ∃ b A n c, v = .agg #[.bool b, .slice A n c] ∧ ZV X (.agg #[.bool b, .slice A n c]) (uu))) (y 1) X := hf.2.1
          refine Exists.elim hh1 (fun b1 hx1_0 => ?_)
          refine Exists.elim hx1_0 (fun A1 hx1_1 => ?_)
          refine Exists.elim hx1_1 (fun n1 hx1_2 => ?_)
          refine Exists.elim hx1_2 (fun c1 hx1_3 => ?_)
          have h1 := hx1_3.1
          have z1 := hx1_3.2
          clear hh1 hx1_0 hx1_1 hx1_2 hx1_3
          have hh2 : ((fun (v : Value) (X : World) => ∃ b A n c, v = .agg #[.bool b, .slice A n c] ∧ ZV X (.agg #[.bool b, .slice A n c]) (q))) (y 2) X := hf.2.2.1
          refine Exists.elim hh2 (fun b2 hx2_0 => ?_)
          refine Exists.elim hx2_0 (fun A2 hx2_1 => ?_)
          refine Exists.elim hx2_1 (fun n2 hx2_2 => ?_)
          refine Exists.elim hx2_2 (fun c2 hx2_3 => ?_)
          have h2 := hx2_3.1
          have z2 := hx2_3.2
          clear hh2 hx2_0 hx2_1 hx2_2 hx2_3
          have hh3 : ((fun (v : Value) (X : World) => ∃ b A n c, v = .agg #[.bool b, .slice A n c] ∧ ZV X (.agg #[.bool b, .slice A n c]) (vv))) (y 3) X := hf.2.2.2.1
          refine Exists.elim hh3 (fun b3 hx3_0 => ?_)
          refine Exists.elim hx3_0 (fun A3 hx3_1 => ?_)
          refine Exists.elim hx3_1 (fun n3 hx3_2 => ?_)
          refine Exists.elim hx3_2 (fun c3 hx3_3 => ?_)
          have h3 := hx3_3.1
          have z3 := hx3_3.2
          clear hh3 hx3_0 hx3_1 hx3_2 hx3_3
          have hh4 : ((fun (v : Value) (X : World) => ∃ b A n c, v = .agg #[.bool b, .slice A n c] ∧ ZV X (.agg #[.bool b, .slice A n c]) (q * vv))) (y 4) X := hf.2.2.2.2.1
          refine Exists.elim hh4 (fun b4 hx4_0 => ?_)
          refine Exists.elim hx4_0 (fun A4 hx4_1 => ?_)
          refine Exists.elim hx4_1 (fun n4 hx4_2 => ?_)
          refine Exists.elim hx4_2 (fun c4 hx4_3 => ?_)
          have h4 := hx4_3.1
          have z4 := hx4_3.2
          clear hh4 hx4_0 hx4_1 hx4_2 hx4_3
          have hh5 : ((fun (v : Value) (X : World) => ∃ b A n c, v = .agg #[.bool b, .slice A n c] ∧ ZV X (.agg #[.bool b, .slice A n c]) (uu - q * vv))) (y 5) X := hf.2.2.2.2.2.1
          refine Exists.elim hh5 (fun b5 hx5_0 => ?_)
          refine Exists.elim hx5_0 (fun A5 hx5_1 => ?_)
          refine Exists.elim hx5_1 (fun n5 hx5_2 => ?_)
          refine Exists.elim hx5_2 (fun c5 hx5_3 => ?_)
          have h5 := hx5_3.1
          have z5 := hx5_3.2
          clear hh5 hx5_0 hx5_1 hx5_2 hx5_3
          clear hf
          clear hsep hlt
          refine Box.mk ?_
          simp only [List.drop_succ_cons, List.drop_zero, fill, Act.put, Nat.reduceAdd, List.setIfInBounds_toArray, List.set_cons_zero, List.set_cons_succ, h0, h1, h2, h3, h4, h5]
          clear h0 h1 h2 h3 h4 h5
          have y5 := HT.out.2.2.2.2.2.2.2.2.2.1.ext ((Ext.drew W9).trans ex)
          have y6 := HT.out.2.2.2.2.2.2.2.2.2.2.1.ext ((Ext.drew W9).trans ex)
          obtain ⟨W', hW', m1, m2, m3, m4, m5, m6, m7, -, -⟩ := two_putH y5 y6 (by omega) b0 A0 n0 c0 b5 A5 n5 c5 z0 z5 (Ext.below (Ext.trans HT.out.2.2.2.2.2.2.2.2.2.2.2 ((Ext.drew W9).trans ex))) (by omega) (by omega)
          obtain ⟨_, _, _, _, g30, g31, g32, g33⟩ := y5.facts
          have T := y6.far y5 (by omega) (.bool b0) (.slice A0 n0 c0)
          obtain ⟨_, _, _, _, g50, g51, g52, g53⟩ := T.facts
          have t2 := m7 _ _ (HT.out.1.ext HT.out.1.lt ((Ext.drew W9).trans ex)) (by omega) (by omega)
          have t7 := m7 _ _ (HT.out.2.1.ext HT.out.2.1.lt ((Ext.drew W9).trans ex)) (by omega) (by omega)
          have t3 := m7 _ _ (HT.out.2.2.2.2.1.ext HT.out.2.2.2.2.1.lt ((Ext.drew W9).trans ex)) (by omega) (by omega)
          have s2 := m6 _ (HT.out.2.2.1.ext ((Ext.drew W9).trans ex)) (by omega) (by omega)
          have s7 := m6 _ (HT.out.2.2.2.1.ext ((Ext.drew W9).trans ex)) (by omega) (by omega)
          have s4 := m6 _ (HT.out.2.2.2.2.2.2.2.2.1.ext ((Ext.drew W9).trans ex)) (by omega) (by omega)
          have HI8 : Hid (VI W W' W.heap.size (W.heap.size + 1) (W.heap.size + 1 + 1) g5 (g5 + 1) g7 A t 300 r' m vv (uu - q * vv)) := Lib.hid ⟨HST.out, t2, t3, m1, m2, t7, s2, s4, m3, m4, s7, X6.out.lr, Nat.le_trans (len_mono (show m.natAbs ≤ r'.natAbs by have := HMD.out; omega)) X6.out.lr, m5⟩
          have HMM : Hid (hzNum W' g7 = m.natAbs) := Lib.hid (hzNum_eq t7)
          have HW' := Lib.hid hW'
          clear hW' m1 m2 m3 m4 m5 m6 m7 t2 t7 t3 s2 s7 s4 T y5 y6 z0 z1 z2 z3 z4 z5 ex lq lu lv lqq
          go_wp2_with fail
          refine NoPanic.normal ?_
          go_wp2_with fail
          rw [← HW'.out]
          go_roundw
          case rel => exact ⟨_, _, _, _, HI8⟩
          case measure => rw [HMM.out, HN.out]; have := HMD.out; omega
end Go.Proofs.Ytmlopkkbgpfdnaa
namespace Go.Proofs.Ytmlopkkbgpfdnaa
open Go.RowKit

set_option maxRecDepth 100000 in
/-- Exactly -/
theorem exactlyR_any (x y : Int) (u v : Value) (w : World) (hx : ZV w u x) (hy : ZV w v y) (lx : (dig x.natAbs).length ≤ 999999) (ly : (dig y.natAbs).length ≤ 999990) (hy0 : y ≠ 0) :
    Calls Try.prog 69 #[u, v] w (RetZ w (x / y)) := by
  obtain ⟨A, n, c, rfl, -, -, -⟩ := hx.open_
  obtain ⟨A', n', c', rfl, -, -, -⟩ := hy.open_
  obtain ⟨p, hp⟩ : ∃ p, p = decide (x < 0) := ⟨_, rfl⟩
  obtain ⟨q, hq⟩ : ∃ q, q = decide (y < 0) := ⟨_, rfl⟩
  rw [← hp] at hx ⊢
  rw [← hq] at hy ⊢
  clear hp hq
  obtain ⟨W1, hW1⟩ : ∃ W1, W1 = ((w.alloc (.cells #[.bool p, .slice A n c] 34)).alloc (.cells #[.bool q, .slice A' n' c'] 34)).alloc (.cells #[.bool false, .slice none 0 0] 34) := ⟨_, rfl⟩
  have e1 : Ext w W1 := by rw [hW1]; exact (((Ext.refl w).alc _).alc _).alc _
  have hd := overR_any x y _ _ W1 (hx.ext e1) (hy.ext e1) lx ly hy0
  have hR : RB W1 (w.heap.size + 1 + 1) := by
    have := RB.c1 ((w.alloc (.cells #[.bool p, .slice A n c] 34)).alloc (.cells #[.bool q, .slice A' n' c'] 34)) false none 0 0 34
    rw [World.size_alloc, World.size_alloc] at this
    rw [hW1]; exact this
  have zl : W1.heap.size = w.heap.size + 1 + 1 + 1 := by rw [hW1]; simp
  have zl2 : w.heap.size + 1 + 1 + 1 ≤ W1.heap.size := by omega
  have HD := Lib.hid hd; have HR := Lib.hid hR; have E1 := Lib.hid e1; have HW := Lib.hid hW1
  clear hd hR e1 hx hy hW1 zl
  go_enter Try.func69, Try.ntmps69
  go_wp2_with fail
  rw [← HW.out]
  clear HW
  refine HD.out.mono ?_
  rintro e V h
  obtain ⟨b1, A1, n1, c1, b2, A2, n2, c2, rfl, z1, z2, hb⟩ := zz_shape h
  have R3 := HR.out.ext hb
  have hlt := R3.lt
  obtain ⟨_, _, _, _, g0, g1, f0, f1⟩ := (R3.ext (((Ext.refl V).alc (.cells #[.bool b1, .slice A1 n1 c1] 34)).alc (.cells #[.bool b2, .slice A2 n2 c2] 34))).facts
  have hz := (((z1.below (below1 V (.cells #[.bool b1, .slice A1 n1 c1] 34))).below (below1 _ (.cells #[.bool b2, .slice A2 n2 c2] 34))).rb (R3.ext (((Ext.refl V).alc (.cells #[.bool b1, .slice A1 n1 c1] 34)).alc (.cells #[.bool b2, .slice A2 n2 c2] 34))) (.bool b1) (.slice A1 n1 c1))
  have hx : Ext w (((V.alloc (.cells #[.bool b1, .slice A1 n1 c1] 34)).alloc (.cells #[.bool b2, .slice A2 n2 c2] 34)).setCell ⟨w.heap.size + 1 + 1, 0, none⟩ (.bool b1)) := (((E1.out.trans hb).alc _).alc _).sc (by omega)
  have s0 := (R3.ext (((Ext.refl V).alc (.cells #[.bool b1, .slice A1 n1 c1] 34)).alc (.cells #[.bool b2, .slice A2 n2 c2] 34))).set0 b1 (.slice A1 n1 c1)
  have s1 := (R3.ext (((Ext.refl V).alc (.cells #[.bool b1, .slice A1 n1 c1] 34)).alc (.cells #[.bool b2, .slice A2 n2 c2] 34))).set1 b1 (.slice A1 n1 c1)
  have HZ1 := Lib.hid hz; have HX := Lib.hid hx; have S0 := Lib.hid s0; have S1 := Lib.hid s1
  clear hz hx s0 s1 hb z1 z2 R3 h
  go_wp2
  have s0 := S0.out; have s1 := S1.out
  exact bodyPost_ret (v := .agg #[.bool b1, .slice A1 n1 c1]) (by simp [results, Try.results69, go_sem, s0, s1]) rfl ⟨_, rfl, HZ1.out, HX.out.sc (by omega)⟩
end Go.Proofs.Ytmlopkkbgpfdnaa
