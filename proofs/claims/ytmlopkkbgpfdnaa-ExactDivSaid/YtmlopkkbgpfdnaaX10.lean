/- Walks: the reference's Over. -/
import Derived.Test.YtmlopkkbgpfdnaaX9
import Derived.Test.YtmlopkkbgpfdnaaX7
import Derived.Test.YtmlopkkbgpfdnaaR3
namespace Go.Proofs.Ytmlopkkbgpfdnaa
open Go.RowKit

theorem four_blocksR (w : World) (p q : Bool) (A A' : Option Addr) (n c n' c' : Nat) : ∃ W, W = ((((w.alloc (Obj.cells #[.bool p, .slice A n c] 34)).alloc (Obj.cells #[.bool q, .slice A' n' c'] 34)).alloc (Obj.cells #[.bool false, .slice none 0 0] 34)).alloc (Obj.cells #[.bool false, .slice none 0 0] 34)) ∧
    W.cell? ⟨w.heap.size, 0, none⟩ = some (.bool p) ∧ W.cell? ⟨w.heap.size, 1, none⟩ = some (.slice A n c) ∧ W.cell? ⟨w.heap.size + 1, 0, none⟩ = some (.bool q) ∧ W.cell? ⟨w.heap.size + 1, 1, none⟩ = some (.slice A' n' c') ∧
    RB W (w.heap.size + 1 + 1) ∧ RB W (w.heap.size + 1 + 1 + 1) ∧ Below w.heap.size w W ∧ W.heap.size = w.heap.size + 4 := by
  refine ⟨_, rfl, ?_, ?_, ?_, ?_, ?_, ?_, ?_, ?_⟩
  · rw [World.cell?_alloc_past _ _ _ (by simp; omega)]; exact old1 0
  · rw [World.cell?_alloc_past _ _ _ (by simp; omega)]; exact old1 1
  · rw [World.cell?_alloc_past _ _ _ (by simp)]; exact old2 0
  · rw [World.cell?_alloc_past _ _ _ (by simp)]; exact old2 1
  · exact (RB.a3 w false none 0 0 34 _ _).below (below_alloc _ _) (by simp)
  · exact ⟨false, none, 0, 0, 34, by
      have := heap_alloc_new (((w.alloc (Obj.cells #[.bool p, .slice A n c] 34)).alloc (Obj.cells #[.bool q, .slice A' n' c'] 34)).alloc (Obj.cells #[.bool false, .slice none 0 0] 34)) (Obj.cells #[.bool false, .slice none 0 0] 34)
      simpa using this⟩
  · exact (below3 w _ _ _).alloc (by simp; omega) _
  · simp

set_option maxRecDepth 100000 in
theorem overR_plain (x y : Int) (u v : Value) (w : World) (hx : ZV w u x) (hy : ZV w v y) (lx : (dig x.natAbs).length ≤ 999999) (ly : (dig y.natAbs).length ≤ 999990) (hy0 : y ≠ 0) (hpl : (decide (x < 0) && decide (0 < x.natAbs % y.natAbs)) = false) :
    Calls Try.prog 40 #[u, v] w (RetZZ w (x / y) (x % y)) := by
  obtain ⟨hd1, hd2⟩ := div_plain hy0 hpl
  rw [hd1, hd2]
  clear hd1 hd2
  obtain ⟨A, n, c, rfl, hx', -, -⟩ := hx.open_
  obtain ⟨A', n', c', rfl, hy', -, -⟩ := hy.open_
  clear hx hy
  obtain ⟨p, hp⟩ : ∃ p, p = decide (x < 0) := ⟨_, rfl⟩
  obtain ⟨q, hq⟩ : ∃ q, q = decide (y < 0) := ⟨_, rfl⟩
  rw [← hp] at hpl
  rw [← hp, ← hq]
  obtain ⟨m, hm⟩ : ∃ m, m = x.natAbs := ⟨_, rfl⟩
  obtain ⟨d, hd⟩ : ∃ d, d = y.natAbs := ⟨_, rfl⟩
  rw [← hm] at hx' hpl lx
  rw [← hd] at hy' hpl ly
  rw [← hm, ← hd]
  have hd0 : 0 < d := by omega
  obtain ⟨zq, hzq⟩ : ∃ z, z = sz (p != q) (m / d) := ⟨_, rfl⟩
  obtain ⟨zr, hzr⟩ : ∃ z, z = ((m % d : Nat) : Int) := ⟨_, rfl⟩
  rw [← hzq, ← hzr]
  have Hzq := Lib.hid hzq; clear hzq
  have Hzr := Lib.hid hzr; clear hzr
  clear hp hq hm hd hy0
  obtain ⟨W0, hW0, k10, k11, k20, k21, hR3, hR4, hb0, z0⟩ := four_blocksR w p q A A' n c n' c'
  have hx0 := hx'.below hb0
  have hy0 := hy'.below hb0
  have HW0 := Lib.hid hW0
  have HX0 := Lib.hid hx0; clear hx0 hx'
  have HY0 := Lib.hid hy0; clear hy0 hy'
  have HR3 := Lib.hid hR3; clear hR3
  have HR4 := Lib.hid hR4; clear hR4
  have Hb0 := Lib.hid hb0; clear hb0
  have Hpl := Lib.hid hpl; clear hpl
  have Z0 := Lib.hid z0; clear z0
  rw [hW0] at k10 k11 k20 k21
  clear hW0
  go_enter Try.func40, Try.ntmps40
  go_wp2_with fail
  rw [← HW0.out] at k10 k11 k20 k21 ⊢
  refine (dividedR_any m d _ _ W0 HX0.out HY0.out lx ly hd0).mono ?_
  rintro e W1 ⟨q1, r1, rfl, hq1, hr1, hb1⟩
  obtain ⟨A3, n3, c3, rfl⟩ := hq1.slice_
  obtain ⟨A4, n4, c4, rfl⟩ := hr1.slice_
  have hn3 := hq1.len
  have hn4 := hr1.len
  have hl3 := hq1.len_le
  have hl4 := hr1.len_le
  have z1 : w.heap.size + 4 ≤ W1.heap.size := by have := hb1.size; have := Z0.out; omega
  have j10 := keepAt hb1 (by have := Z0.out; omega) k10
  have j11 := keepAt hb1 (by have := Z0.out; omega) k11
  have j20 := keepAt hb1 (by have := Z0.out; omega) k20
  have j21 := keepAt hb1 (by have := Z0.out; omega) k21
  have hR3 := HR3.out.below hb1 (by have := Z0.out; omega)
  have hR4 := HR4.out.below hb1 (by have := Z0.out; omega)
  have hb01 := Hb0.out.trans (hb1.mono Hb0.out.size)
  have HR3' := Lib.hid hR3; clear hR3
  have HR4' := Lib.hid hR4; clear hR4
  have HQ1 := Lib.hid hq1; clear hq1
  have HR1 := Lib.hid hr1; clear hr1
  have Hb01 := Lib.hid hb01; clear hb01
  have Hn3 := Lib.hid hn3; clear hn3
  have hpn : p = true → n4 = 0 := by
    rintro rfl
    have h := Hpl.out
    simp at h
    rw [hn4, h, dig_zero]; rfl
  have Hn4 := Lib.hid hn4; clear hn4 hb1 k10 k11 k20 k21 Hpl
  cases p
  · clear hpn
    go_wp2_with fail
    refine (signedR_any q A3 n3 c3 W1 hl3).mono ?_
    rintro e W2 ⟨rfl, hb2⟩
    have HR3a := Lib.hid (HR3'.out.below hb2 (by omega))
    have HR4a := Lib.hid (HR4'.out.below hb2 (by omega))
    have HQ1a := Lib.hid (HQ1.out.below hb2)
    have HR1a := Lib.hid (HR1.out.below hb2)
    have Hb01a := Lib.hid (Hb01.out.trans (hb2.mono (by omega)))
    have z2a : w.heap.size + 4 ≤ W2.heap.size := Nat.le_trans z1 hb2.size
    clear HR3' HR4' HQ1 HR1 Hb01 z1 hb2
    go_wp2_with fail
    refine (signedR_any false A4 n4 c4 W2 hl4).mono ?_
    rintro e W9 ⟨rfl, hb2⟩
    have HR3' := HR3a
    have HR4' := HR4a
    have HQ1 := HQ1a
    have HR1 := HR1a
    have Hb01 := Hb01a
    have z1 := z2a
    rw [Bool.false_and]
    clear HR3a HR4a HQ1a HR1a Hb01a z2a
    have R3 := HR3'.out.below hb2 (by omega)
    have R4 := HR4'.out.below hb2 (by omega)
    obtain ⟨_, _, _, _, g30, g31, g32, g33⟩ := R3.facts
    obtain ⟨_, _, _, _, g40, g41, g42, g43⟩ := R4.facts
    have hz1 : ZV W9 (.agg #[.bool (q && decide (0 < n3)), .slice A3 n3 c3]) zq := ZV.mk (by rw [Hzq.out, Hn3.out, ← sz_neg]; cases q <;> rfl) (by rw [Hzq.out, sz_abs]; exact HQ1.out.below hb2)
    have hz2 : ZV W9 (.agg #[.bool false, .slice A4 n4 c4]) zr := ZV.mk (by rw [Hzr.out]; simp; omega) (by rw [Hzr.out, Int.natAbs_natCast]; exact HR1.out.below hb2)
    obtain ⟨W', hW', f1, f2, f3, f4, hz1', hz2', hbf⟩ := two_res R3 R4 (by omega) (q && decide (0 < n3)) A3 n3 c3 false A4 n4 c4 hz1 hz2 (Hb01.out.trans (hb2.mono (by omega))) (by omega) (by omega)
    have T := R4.far R3 (by omega) (.bool (q && decide (0 < n3))) (.slice A3 n3 c3)
    obtain ⟨_, _, _, _, g50, g51, g52, g53⟩ := T.facts
    have HF := Lib.hid (And.intro hz1' (And.intro hz2' (And.intro hbf (And.intro f1 (And.intro f2 (And.intro f3 f4))))))
    have HW' := Lib.hid hW'
    clear hz1 hz2 hz1' hz2' hbf f1 f2 f3 f4 hW' T R3 R4 hb2
    go_wp2
    rw [← HW'.out]
    obtain ⟨hz1, hz2, hbf, f1, f2, f3, f4⟩ := HF.out
    exact bodyPost_ret (v := .tuple #[.agg #[.bool (q && decide (0 < n3)), .slice A3 n3 c3], .agg #[.bool false, .slice A4 n4 c4]]) (by simp [results, Try.results40, go_sem, f1, f2, f3, f4]) rfl ⟨_, _, _, _, _, _, _, _, rfl, hz1, hz2, hbf⟩
  · obtain rfl := hpn rfl
    clear hpn
    go_wp2_with fail
    refine (signedR_any (!q) A3 n3 c3 W1 hl3).mono ?_
    rintro e W2 ⟨rfl, hb2⟩
    have HR3a := Lib.hid (HR3'.out.below hb2 (by omega))
    have HR4a := Lib.hid (HR4'.out.below hb2 (by omega))
    have HQ1a := Lib.hid (HQ1.out.below hb2)
    have HR1a := Lib.hid (HR1.out.below hb2)
    have Hb01a := Lib.hid (Hb01.out.trans (hb2.mono (by omega)))
    have z2a : w.heap.size + 4 ≤ W2.heap.size := Nat.le_trans z1 hb2.size
    clear HR3' HR4' HQ1 HR1 Hb01 z1 hb2
    go_wp2_with fail
    refine (signedR_any false A4 0 c4 W2 hl4).mono ?_
    rintro e W9 ⟨rfl, hb2⟩
    have HR3' := HR3a
    have HR4' := HR4a
    have HQ1 := HQ1a
    have HR1 := HR1a
    have Hb01 := Hb01a
    have z1 := z2a
    rw [Bool.false_and]
    clear HR3a HR4a HQ1a HR1a Hb01a z2a
    have R3 := HR3'.out.below hb2 (by omega)
    have R4 := HR4'.out.below hb2 (by omega)
    obtain ⟨_, _, _, _, g30, g31, g32, g33⟩ := R3.facts
    obtain ⟨_, _, _, _, g40, g41, g42, g43⟩ := R4.facts
    have hz1 : ZV W9 (.agg #[.bool (!q && decide (0 < n3)), .slice A3 n3 c3]) zq := ZV.mk (by rw [Hzq.out, Hn3.out, ← sz_neg]; cases q <;> rfl) (by rw [Hzq.out, sz_abs]; exact HQ1.out.below hb2)
    have hz2 : ZV W9 (.agg #[.bool false, .slice A4 0 c4]) zr := ZV.mk (by rw [Hzr.out]; simp; omega) (by rw [Hzr.out, Int.natAbs_natCast]; exact HR1.out.below hb2)
    obtain ⟨W', hW', f1, f2, f3, f4, hz1', hz2', hbf⟩ := two_res R3 R4 (by omega) (!q && decide (0 < n3)) A3 n3 c3 false A4 0 c4 hz1 hz2 (Hb01.out.trans (hb2.mono (by omega))) (by omega) (by omega)
    have T := R4.far R3 (by omega) (.bool (!q && decide (0 < n3))) (.slice A3 n3 c3)
    obtain ⟨_, _, _, _, g50, g51, g52, g53⟩ := T.facts
    have HF := Lib.hid (And.intro hz1' (And.intro hz2' (And.intro hbf (And.intro f1 (And.intro f2 (And.intro f3 f4))))))
    have HW' := Lib.hid hW'
    clear hz1 hz2 hz1' hz2' hbf f1 f2 f3 f4 hW' T R3 R4 hb2
    go_wp2
    rw [← HW'.out]
    obtain ⟨hz1, hz2, hbf, f1, f2, f3, f4⟩ := HF.out
    exact bodyPost_ret (v := .tuple #[.agg #[.bool (!q && decide (0 < n3)), .slice A3 n3 c3], .agg #[.bool false, .slice A4 0 c4]]) (by simp [results, Try.results40, go_sem, f1, f2, f3, f4]) rfl ⟨_, _, _, _, _, _, _, _, rfl, hz1, hz2, hbf⟩

set_option maxRecDepth 100000 in
theorem overR_up (x y : Int) (u v : Value) (w : World) (hx : ZV w u x) (hy : ZV w v y) (lx : (dig x.natAbs).length ≤ 999999) (ly : (dig y.natAbs).length ≤ 999990) (hy0 : y ≠ 0) (hneg : x < 0) (hpl : 0 < x.natAbs % y.natAbs) :
    Calls Try.prog 40 #[u, v] w (RetZZ w (x / y) (x % y)) := by
  obtain ⟨hd1, hd2⟩ := div_up hy0 hneg hpl
  rw [hd1, hd2]
  clear hd1 hd2
  obtain ⟨A, n, c, rfl, hx', -, -⟩ := hx.open_
  obtain ⟨A', n', c', rfl, hy', -, -⟩ := hy.open_
  clear hx hy
  rw [show decide (x < 0) = true by simp; exact hneg]
  obtain ⟨q, hq⟩ : ∃ q, q = decide (y < 0) := ⟨_, rfl⟩
  rw [← hq]
  obtain ⟨m, hm⟩ : ∃ m, m = x.natAbs := ⟨_, rfl⟩
  obtain ⟨d, hd⟩ : ∃ d, d = y.natAbs := ⟨_, rfl⟩
  rw [← hm] at hx' hpl lx
  rw [← hd] at hy' hpl ly
  rw [← hm, ← hd]
  have hd0 : 0 < d := by omega
  have hql : (dig (m / d)).length ≤ 1000000 := by have := dig_len_mono (Nat.div_le_self m d); omega
  have hrd : m % d ≤ d := Nat.le_of_lt (Nat.mod_lt _ hd0)
  obtain ⟨zq, hzq⟩ : ∃ z, z = sz (true != q) (m / d + 1) := ⟨_, rfl⟩
  obtain ⟨zr, hzr⟩ : ∃ z, z = ((d - m % d : Nat) : Int) := ⟨_, rfl⟩
  rw [← hzq, ← hzr]
  have Hzq := Lib.hid hzq; clear hzq
  have Hzr := Lib.hid hzr; clear hzr
  clear hq hm hd hy0 hneg
  obtain ⟨W0, hW0, k10, k11, k20, k21, hR3, hR4, hb0, z0⟩ := four_blocksR w true q A A' n c n' c'
  have hx0 := hx'.below hb0
  have hy0 := hy'.below hb0
  have HW0 := Lib.hid hW0
  have HX0 := Lib.hid hx0; clear hx0 hx'
  have HY0 := Lib.hid hy0; clear hy0 hy'
  have HR3 := Lib.hid hR3; clear hR3
  have HR4 := Lib.hid hR4; clear hR4
  have Hb0 := Lib.hid hb0; clear hb0
  have Hpl := Lib.hid hpl; clear hpl
  have Hrd := Lib.hid hrd; clear hrd
  have Hql := Lib.hid hql; clear hql
  have Z0 := Lib.hid z0; clear z0
  rw [hW0] at k10 k11 k20 k21
  clear hW0
  go_enter Try.func40, Try.ntmps40
  go_wp2_with fail
  rw [← HW0.out] at k10 k11 k20 k21 ⊢
  refine (dividedR_any m d _ _ W0 HX0.out HY0.out lx ly hd0).mono ?_
  rintro e W1 ⟨q1, r1, rfl, hq1, hr1, hb1⟩
  obtain ⟨A3, n3, c3, rfl⟩ := hq1.slice_
  obtain ⟨A4, n4, c4, rfl⟩ := hr1.slice_
  have hn4 := hr1.len
  have hl3 := hq1.len_le
  have hl4 := hr1.len_le
  have hn40 : 0 < n4 := by rw [hn4]; exact dig_len_pos.2 Hpl.out
  have z1 : w.heap.size + 4 ≤ W1.heap.size := by have := hb1.size; have := Z0.out; omega
  have j10 := keepAt hb1 (by have := Z0.out; omega) k10
  have j20 := keepAt hb1 (by have := Z0.out; omega) k20
  have j21 := keepAt hb1 (by have := Z0.out; omega) k21
  have hb01 := Hb0.out.trans (hb1.mono Hb0.out.size)
  have HR3' := Lib.hid (HR3.out.below hb1 (by have := Z0.out; omega))
  have HR4' := Lib.hid (HR4.out.below hb1 (by have := Z0.out; omega))
  have HY1 := Lib.hid (HY0.out.below hb1)
  have HQ1 := Lib.hid hq1; clear hq1
  have HR1 := Lib.hid hr1; clear hr1
  have Hb01 := Lib.hid hb01; clear hb01 hn4 hb1 k10 k11 k20 k21 Hpl HX0 HY0 HR3 HR4 Hb0 Z0
  go_wp2_with fail
  have hone : Wd (W1.alloc (Obj.cells #[.int .u32 1] 66)) (.slice (some ⟨W1.heap.size, 0, none⟩) 1 1) (dig 1) := by
    have e : dig 1 = [1] := by rw [dig_pos (by omega), dig_zero]
    rw [e]
    exact Wd.new W1 [1] (Ok.mk (by omega) Ok.nil) _ _ 1 1 rfl (by omega) (by omega) (fun j hj => by
      match j, hj with
      | 0, _ => simp)
  have hba := below_alloc W1 (Obj.cells #[.int .u32 1] 66)
  refine (plusR_any (m / d) 1 _ _ _ (HQ1.out.below hba) hone Hql.out (by rw [dig_pos (by omega), dig_zero]; simp)).mono ?_
  rintro e W2 ⟨q2, rfl, hq2, hb2⟩
  obtain ⟨A5, n5, c5, rfl⟩ := hq2.slice_
  have hn5 := hq2.len
  have hl5 := hq2.len_le
  have hb12 : Below W1.heap.size W1 W2 := hba.trans (hb2.mono hba.size)
  have i10 := keepAt hb12 (by omega) j10
  have i20 := keepAt hb12 (by omega) j20
  have i21 := keepAt hb12 (by omega) j21
  have HR5 := Lib.hid (HR3'.out.below hb12 (by omega))
  have HR6 := Lib.hid (HR4'.out.below hb12 (by omega))
  have HY2 := Lib.hid (HY1.out.below hb12)
  have HRr := Lib.hid (HR1.out.below hb12)
  have Hb02 := Lib.hid (Hb01.out.trans (hb12.mono Hb01.out.size))
  have z2 : w.heap.size + 4 ≤ W2.heap.size := Nat.le_trans z1 hb12.size
  have HQ2 := Lib.hid hq2; clear hq2
  have Hn5 := Lib.hid hn5; clear hn5
  clear hone hba hb2 hb12 j10 j20 j21 HR3' HR4' HY1 HR1 Hb01 z1 HQ1
  go_wp2_with fail
  refine (lessR_any d (m % d) _ _ _ HY2.out HRr.out (by omega) Hrd.out).mono ?_
  rintro e W3 ⟨r3, rfl, hr3, hb3⟩
  obtain ⟨A6, n6, c6, rfl⟩ := hr3.slice_
  have j10 := keepAt hb3 (by omega) i10
  have j20 := keepAt hb3 (by omega) i20
  have HR3' := Lib.hid (HR5.out.below hb3 (by omega))
  have HR4' := Lib.hid (HR6.out.below hb3 (by omega))
  have HQ1 := Lib.hid (HQ2.out.below hb3)
  have Hb01 := Lib.hid (Hb02.out.trans (hb3.mono Hb02.out.size))
  have z1 : w.heap.size + 4 ≤ W3.heap.size := Nat.le_trans z2 hb3.size
  have HR1 := Lib.hid hr3
  clear hr3 hb3 i10 i20 i21 HR5 HR6 HY2 HRr Hb02 z2 HQ2
  go_wp2_with fail
  refine (signedR_any (!q) A5 n5 c5 W3 hl5).mono ?_
  rintro e W4 ⟨rfl, hb2⟩
  have HR3a := Lib.hid (HR3'.out.below hb2 (by omega))
  have HR4a := Lib.hid (HR4'.out.below hb2 (by omega))
  have HQ1a := Lib.hid (HQ1.out.below hb2)
  have HR1a := Lib.hid (HR1.out.below hb2)
  have Hb01a := Lib.hid (Hb01.out.trans (hb2.mono (by omega)))
  have z2a : w.heap.size + 4 ≤ W4.heap.size := Nat.le_trans z1 hb2.size
  have hl6 := HR1.out.len_le; clear HR3' HR4' HQ1 HR1 Hb01 z1 hb2
  go_wp2_with fail
  refine (signedR_any false A6 n6 c6 W4 hl6).mono ?_
  rintro e W9 ⟨rfl, hb2⟩
  have HR3' := HR3a
  have HR4' := HR4a
  have HQ1 := HQ1a
  have HR1 := HR1a
  have Hb01 := Hb01a
  have z1 := z2a
  rw [Bool.false_and]
  clear HR3a HR4a HQ1a HR1a Hb01a z2a
  have R3 := HR3'.out.below hb2 (by omega)
  have R4 := HR4'.out.below hb2 (by omega)
  obtain ⟨_, _, _, _, g30, g31, g32, g33⟩ := R3.facts
  obtain ⟨_, _, _, _, g40, g41, g42, g43⟩ := R4.facts
  have hz1 : ZV W9 (.agg #[.bool (!q && decide (0 < n5)), .slice A5 n5 c5]) zq := ZV.mk (by rw [Hzq.out, Hn5.out, ← sz_neg] <;> cases q <;> rfl) (by rw [Hzq.out, sz_abs]; exact HQ1.out.below hb2)
  have hz2 : ZV W9 (.agg #[.bool false, .slice A6 n6 c6]) zr := ZV.mk (by rw [Hzr.out]; simp) (by rw [Hzr.out, Int.natAbs_natCast]; exact HR1.out.below hb2)
  obtain ⟨W', hW', f1, f2, f3, f4, hz1', hz2', hbf⟩ := two_res R3 R4 (by omega) (!q && decide (0 < n5)) A5 n5 c5 false A6 n6 c6 hz1 hz2 (Hb01.out.trans (hb2.mono (by omega))) (by omega) (by omega)
  have T := R4.far R3 (by omega) (.bool (!q && decide (0 < n5))) (.slice A5 n5 c5)
  obtain ⟨_, _, _, _, g50, g51, g52, g53⟩ := T.facts
  have HF := Lib.hid (And.intro hz1' (And.intro hz2' (And.intro hbf (And.intro f1 (And.intro f2 (And.intro f3 f4))))))
  have HW' := Lib.hid hW'
  clear hz1 hz2 hz1' hz2' hbf f1 f2 f3 f4 hW' T R3 R4 hb2
  go_wp2
  rw [← HW'.out]
  obtain ⟨hz1, hz2, hbf, f1, f2, f3, f4⟩ := HF.out
  exact bodyPost_ret (v := .tuple #[.agg #[.bool (!q && decide (0 < n5)), .slice A5 n5 c5], .agg #[.bool false, .slice A6 n6 c6]]) (by simp [results, Try.results40, go_sem, f1, f2, f3, f4]) rfl ⟨_, _, _, _, _, _, _, _, rfl, hz1, hz2, hbf⟩

/-- ref Over -/
theorem overR_any (x y : Int) (u v : Value) (w : World) (hx : ZV w u x) (hy : ZV w v y) (lx : (dig x.natAbs).length ≤ 999999) (ly : (dig y.natAbs).length ≤ 999990) (hy0 : y ≠ 0) :
    Calls Try.prog 40 #[u, v] w (RetZZ w (x / y) (x % y)) := by
  by_cases h : x < 0 ∧ 0 < x.natAbs % y.natAbs
  · exact overR_up x y u v w hx hy lx ly hy0 h.1 h.2
  · refine overR_plain x y u v w hx hy lx ly hy0 ?_
    by_cases hn : x < 0
    · have : ¬ 0 < x.natAbs % y.natAbs := fun h' => h ⟨hn, h'⟩
      simp [hn]; omega
    · simp [hn]
end Go.Proofs.Ytmlopkkbgpfdnaa
