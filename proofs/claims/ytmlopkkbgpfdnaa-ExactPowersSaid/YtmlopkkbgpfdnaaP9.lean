/- Walks: the reference's Pow, right arguments. -/
import Derived.Test.YtmlopkkbgpfdnaaP8
namespace Go.Proofs.Ytmlopkkbgpfdnaa
open Go.RowKit

/-- what the loop holds -/
structure PowAt (w wr : World) (g1 g6 g7 : Nat) (p : Bool) (A : Option Addr) (n c : Nat) (l : List Nat) (m t j : Nat) : Prop where
  a : HW wr g6 p A n c l
  r1 : RB wr g1
  r7 : RB wr g7
  z : HZ wr g7 (powZ p m j)
  len : (dig (m ^ j)).length ≤ 256
  b : Below w.heap.size w wr
  j : j ≤ t

set_option maxHeartbeats 1600000 in
set_option maxRecDepth 100000 in
theorem refPow_yes (p : Bool) (A : Option Addr) (n c : Nat) (l : List Nat) (k : Nat) (w : World) (hx : Wd w (.slice A n c) l) (hv : vld p l = true) (hk : k ≤ 10000) :
    Calls Try.prog 43 #[.agg #[.bool p, .slice A n c], .int .i64 (k : Int)] w (RetE w (powA p (val l) k) (powX (val l) k)) := by
  have hd : dig (val l) = l := dig_val hx.ok (vld_norm hv)
  have hl := vld_len hv
  have hzv : ∀ W, Wd W (.slice A n c) l → ZV W (.agg #[.bool p, .slice A n c]) (baseZ p (val l)) := fun W h => by rw [base_num]; exact vld_zv h hv
  obtain ⟨m, hm⟩ : ∃ m, m = val l := ⟨_, rfl⟩
  rw [← hm] at hd hzv ⊢
  clear hm
  have HZ0 := Lib.hid hzv; clear hzv
  obtain ⟨W0, hW0, hH1, hR, hb, z0⟩ := two_hw 24 w p A n c l hx
  have HW0 := Lib.hid hW0; clear hW0
  have HF := Lib.hid (And.intro hH1 (And.intro hR (And.intro hb z0)))
  clear hH1 hR hb z0 hx
  have Hv := Lib.hid hv; clear hv
  have HD := Lib.hid (And.intro hd hl); clear hd hl
  have Lm := Lib.hid (show (dig (baseZ p m).natAbs).length ≤ 256 by rw [base_abs, HD.out.1]; exact HD.out.2)
  have d1 : decide ((k : Int) < 0) = false := by simp
  have d2 : decide ((10000 : Int) < k) = false := by simp; omega
  go_enter Try.func43, Try.ntmps43
  go_wp2_with fail
  rw [← HW0.out]
  obtain ⟨hH1, hR, hb, z0⟩ := HF.out
  clear HF
  refine (validR_any p A n c l _ hH1.w).mono ?_
  rintro e W1 ⟨rfl, hb1⟩
  rw [Hv.out]
  have hx1 : Ext W0 W1 := hb1
  have H1 := Lib.hid (hH1.ext hx1)
  have k1 := H1.out.c0
  have k2 := H1.out.c1
  have R := Lib.hid (hR.ext hx1)
  have Hb := Lib.hid (hb.trans (Below.mono hx1 hb.size))
  have z1 : w.heap.size + 2 ≤ W1.heap.size := by have := hx1.size; omega
  clear hH1 hR hb z0 hb1 hx1 HW0 W0
  go_wp2_with fail
  refine (of_any p A n c _).mono ?_
  rintro e W2 ⟨rfl, hb2⟩
  have hx2 : Ext W1 W2 := hb2
  have Hw2 := Lib.hid ((H1.out.ext hx2).w)
  have R2 := Lib.hid (R.out.ext hx2)
  have Hb2 := Lib.hid (Hb.out.trans (Below.mono hx2 Hb.out.size))
  have z2 : w.heap.size + 2 ≤ W2.heap.size := by have := hx2.size; omega
  clear hb2 hx2 k1 k2 H1 R Hb z1
  go_wp2_with fail
  refine (asAgg (wholeR_any 1 _ (by omega) (by omega))).mono ?_
  rintro e W3 ⟨b7, A7, n7, c7, rfl, hz7, hb3⟩
  have hx3 : Ext W2 W3 := hb3
  have hw3 := Hw2.out.below hb3
  have m6 := (HW.new W3 p A n c l 34 hw3).alloc (Obj.cells #[.bool b7, .slice A7 n7 c7] 34)
  have r7 := (HW.new (W3.alloc (Obj.cells #[.bool p, .slice A n c] 34)) b7 A7 n7 c7 _ 34 (hz7.words.2.below (below1 _ _))).r
  have z7 := HZ.lit (W3.alloc (Obj.cells #[.bool p, .slice A n c] 34)) b7 A7 n7 c7 34 (hz7.below (below1 _ _))
  rw [World.size_alloc] at r7 z7
  have x4 : Ext W3 ((W3.alloc (Obj.cells #[.bool p, .slice A n c] 34)).alloc (Obj.cells #[.bool b7, .slice A7 n7 c7] 34)) := ((Ext.refl W3).alc _).alc _
  have R4 := Lib.hid ((R2.out.ext hx3).ext x4)
  have hb03 := Hb2.out.trans (Below.mono hx3 Hb2.out.size)
  have Hb4 := Lib.hid (hb03.trans (Below.mono x4 hb03.size))
  have z3 : w.heap.size + 2 ≤ W3.heap.size := by have := hx3.size; omega
  have M6 := Lib.hid m6
  have R7 := Lib.hid r7
  have Z7 := Lib.hid z7
  have c0 := m6.c0
  have c1 := m6.c1
  clear m6 r7 z7 x4 hb03 hx3 hw3 hz7 hb3 Hw2 R2 Hb2 z2
  go_wp2_with fail
  obtain ⟨g6, hg6⟩ : ∃ g, g = W3.heap.size := ⟨_, rfl⟩
  rw [← hg6] at M6 R7 Z7 c0 c1 z3
  try rw [← hg6]
  clear hg6
  obtain ⟨g7, hg7⟩ : ∃ g, g = g6 + 1 := ⟨_, rfl⟩
  rw [← hg7] at R7 Z7
  try rw [← hg7]
  generalize ((W3.alloc (Obj.cells #[.bool p, .slice A n c] 34)).alloc (Obj.cells #[.bool b7, .slice A7 n7 c7] 34)) = W5 at *
  obtain ⟨z, hz⟩ : ∃ z, z = baseZ p m := ⟨_, rfl⟩
  have Lz := Lm.out
  have Lzz : (dig (z * z).natAbs).length ≤ 1000000 := by
    rw [hz, Int.natAbs_mul, base_abs]
    have h1 := Lm.out
    rw [base_abs] at h1
    exact Nat.le_trans (len_mulN h1 h1) (by omega)
  have L1 : (dig ((1 : Int)).natAbs).length ≤ 1000000 := by
    rw [show ((1 : Int)).natAbs = 1 by rfl, dig_pos (by omega)]; simp [dig_zero]
  have HL := Lib.hid (And.intro Lzz L1)
  have hcmp : (z * z - 1).sign ≤ 0 ↔ m ≤ 1 := by rw [hz]; exact base_sq p m
  have Hcmp := Lib.hid hcmp
  have HZ1 := HZ0
  rw [← hz] at HZ1 Lz
  have LZ := Lib.hid Lz
  have Hz := Lib.hid hz
  have h67 : g6 < g7 := by omega
  clear Lzz L1 hcmp Lz hz hg7
  have za := HZ1.out _ M6.out.w
  refine (asAgg (timesRZ_any z z _ _ _ za za (Nat.le_trans LZ.out (by omega)) (Nat.le_trans LZ.out (by omega)))).mono ?_
  rintro e W6 ⟨b8, A8, n8, c8, rfl, hz8, hb6⟩
  have hx6 : Ext W5 W6 := hb6
  have Z8 := Lib.hid hz8
  clear hb6 hz8 za c0 c1
  go_wp2_with fail
  refine (asAgg (wholeR_any 1 _ (by omega) (by omega))).mono ?_
  rintro e W7 ⟨b9, A9, n9, c9, rfl, hz9, hb7⟩
  have z8' := Z8.out.below hb7
  have hx7 : Ext W5 W7 := hx6.trans hb7
  have Z9 := Lib.hid (And.intro z8' hz9)
  clear hb7 hz9 z8' Z8 hx6
  go_wp2_with fail
  refine (orderRZ_any (z * z) 1 _ _ _ Z9.out.1 Z9.out.2 HL.out.1 HL.out.2).mono ?_
  rintro e W8 ⟨rfl, hb8⟩
  have hx8 : Ext W5 W8 := hx7.trans hb8
  obtain ⟨sg, hsg⟩ : ∃ s, s = (z * z - 1).sign := ⟨_, rfl⟩
  rw [← hsg] at Hcmp ⊢
  have M8 := Lib.hid (M6.out.ext hx8)
  have R8 := Lib.hid (R4.out.ext hx8)
  have R78 := Lib.hid (R7.out.ext hx8)
  have Z78 := Lib.hid (Z7.out.ext R7.out.lt hx8)
  have Hb8 := Lib.hid (Hb4.out.trans (Below.mono hx8 Hb4.out.size))
  clear hb8 hx8 hx7 hsg Z9 HL M6 R4 R7 Z7 Hb4
  obtain ⟨t, ht⟩ : ∃ t, t = timesN m k := ⟨_, rfl⟩
  have htk : t ≤ 10000 := by rw [ht]; exact Nat.le_trans (timesN_le m k) hk
  by_cases hm1 : m ≤ 1
  · have d3 : decide (sg ≤ 0) = true := by have := Hcmp.out.2 hm1; simpa using this
    have hmin : min (k : Int) (2 - (k : Int) % 2) = (t : Int) := by rw [ht]; unfold timesN; rw [if_pos hm1]; omega
    have Ht := Lib.hid ht
    clear ht
    go_wp2_with fail
    clear hmin d3 hm1
    go_loopw [35] (fun i wr => ∃ j : Nat, i = .int .i64 (j : Int) ∧ PowAt w wr (w.heap.size + 1) g6 g7 p A n c l m t j) (fun i _ => t - (intOf i).toNat)
    case atStart => exact ⟨0, rfl, M8.out, R8.out, R78.out, by rw [powZ_zero]; exact Z78.out, by rw [Nat.pow_zero, dig_pos (by omega), dig_zero]; simp, Hb8.out, Nat.zero_le _⟩
    case round =>
      obtain ⟨j, rfl, hrel⟩ := hrel
      have HR := Lib.hid hrel
      have hjt := hrel.j
      clear hrel
      obtain ⟨b10, A10, n10, c10, q0, q1, hz10⟩ := HR.out.z
      have Z10 := Lib.hid hz10
      clear hz10
      by_cases hj : j = t
      · subst hj
        have e1 : decide ((j : Int) < j) = false := by simp
        have hfit : (dig (m ^ k)).length ≤ 256 := by
          have := HR.out.len
          rwa [Ht.out, timesN_pow] at this
        have hA : powA p m k = powZ p m j := by unfold powA; rw [if_pos hfit, Ht.out, timesN_Z]
        have hX : powX m k = 0 := by unfold powX; rw [if_pos hfit]
        have HX := Lib.hid (And.intro hA hX)
        clear hA hX hfit
        go_wp2_with fail
        refine (int_any b10 A10 n10 c10 _).mono ?_
        rintro e w9 ⟨rfl, hb9⟩
        have hx9 : Ext wr w9 := hb9
        have R9 := HR.out.r1.ext hx9
        obtain ⟨_, _, _, _, g30, g31, g32, g33⟩ := R9.facts
        obtain ⟨W', hW', f1, f2, hzz, hbf⟩ := one_res (w := w) R9 b10 A10 n10 c10 (Z10.out.ext hx9) (HR.out.b.trans (Below.mono hx9 HR.out.b.size)) (by omega)
        rw [← HX.out.1] at hzz
        have HG := Lib.hid (And.intro hzz (And.intro hbf (And.intro f1 f2)))
        have HW' := Lib.hid hW'
        clear hzz hbf f1 f2 hW' R9 hx9 hb9
        go_wp2
        rw [← HW'.out]
        obtain ⟨hzz, hbf, f1, f2⟩ := HG.out
        exact bodyPost_ret (v := .tuple #[.agg #[.bool b10, .slice A10 n10 c10], .int .i64 0]) (by simp [results, Try.results43, go_sem, f1, f2]) rfl ⟨_, _, _, _, by rw [HX.out.2], hzz, hbf⟩
      · have e1 : decide ((j : Int) < t) = true := by simp; omega
        have c0 := HR.out.a.c0
        have c1 := HR.out.a.c1
        have za := HZ1.out _ HR.out.a.w
        have Lp : (dig (powZ p m j).natAbs).length ≤ 256 := by rw [powZ_abs]; exact HR.out.len
        have Za := Lib.hid (And.intro za Lp)
        clear za Lp
        go_wp2_with fail
        refine (asAgg (timesRZ_any (powZ p m j) z _ _ _ Z10.out Za.out.1 (Nat.le_trans Za.out.2 (by omega)) (Nat.le_trans LZ.out (by omega)))).mono ?_
        rintro e w9 ⟨b11, A11, n11, c11, rfl, hz11, hb9⟩
        rw [Hz.out, powZ_succ] at hz11
        have hx9 : Ext wr w9 := hb9
        have r7 := HR.out.r7.ext hx9
        obtain ⟨_, _, _, _, f0, f1, f2, f3⟩ := r7.facts
        have n6 := (HR.out.a.ext hx9).far r7 (by omega) (.bool b11) (.slice A11 n11 c11)
        have n1 := (HR.out.r1.ext hx9).far r7 (by omega) (.bool b11) (.slice A11 n11 c11)
        have n7 := r7.set b11 A11 n11 c11
        have nz := HZ.put r7 hz11
        have zz := hz11.rb r7 (.bool b11) (.slice A11 n11 c11)
        have cc0 := r7.set0 b11 (.slice A11 n11 c11)
        have cc1 := r7.set1 b11 (.slice A11 n11 c11)
        have hb10 := HR.out.b.trans (Below.mono hx9 HR.out.b.size)
        have hbf := below_set2 (g := g7) (i := 0) (j := 1) hb10 (by omega) (.bool b11) (.slice A11 n11 c11)
        have HN := Lib.hid (And.intro n6 (And.intro n1 (And.intro n7 (And.intro nz (And.intro zz hbf)))))
        clear n6 n1 n7 nz zz hbf hb10 r7 hx9 hb9 hz11 q0 q1 c0 c1
        go_wp2_with fail
        generalize ((w9.setCell ⟨g7, 0, none⟩ (.bool b11)).setCell ⟨g7, 1, none⟩ (.slice A11 n11 c11)) = w10 at *
        obtain ⟨n6, n1, n7, nz, zz, hbf⟩ := HN.out
        refine (fitsR_any (powZ p m (j + 1)) _ _ zz).mono ?_
        rintro e w11 ⟨rfl, hb11⟩
        rw [powZ_abs]
        have hx11 : Ext w10 w11 := hb11
        have HN2 := Lib.hid (And.intro (n6.ext hx11) (And.intro (n1.ext hx11) (And.intro (n7.ext hx11) (And.intro (nz.ext n7.lt hx11) (hbf.trans (Below.mono hx11 hbf.size))))))
        clear n6 n1 n7 nz zz hbf hx11 hb11 HN f0 f1 f2 f3 cc0 cc1
        by_cases hfit : (dig (m ^ (j + 1))).length ≤ 256
        · have e2 : decide ((dig (m ^ (j + 1))).length ≤ 256) = true := by simpa using hfit
          rw [e2]
          have Hfit := Lib.hid hfit
          clear e2 hfit
          go_wp2
          go_roundw
          case rel => exact ⟨j + 1, by simp, HN2.out.1, HN2.out.2.1, HN2.out.2.2.1, HN2.out.2.2.2.1, Hfit.out, HN2.out.2.2.2.2, by omega⟩
          case measure => simp [intOf]; omega
        · have e2 : decide ((dig (m ^ (j + 1))).length ≤ 256) = false := by simpa using hfit
          rw [e2]
          have hfar : 256 < (dig (m ^ k)).length := pow_far (j := j) (by rw [← Ht.out]; omega) (by omega)
          have hA : powA p m k = 0 := by unfold powA; rw [if_neg (by omega)]
          have hX : powX m k = 5 := by unfold powX; rw [if_neg (by omega)]
          have HX := Lib.hid hX
          obtain ⟨_, _, _, _, g30, g31, g32, g33⟩ := HN2.out.2.1.facts
          obtain ⟨W', hW', f1, f2, hzz, hbf⟩ := one_res (w := w) HN2.out.2.1 false none 0 0 (zv_nil w11) HN2.out.2.2.2.2 (by omega)
          rw [← hA] at hzz
          have HG := Lib.hid (And.intro hzz (And.intro hbf (And.intro f1 f2)))
          have HW' := Lib.hid hW'
          clear hzz hbf f1 f2 hW' hA hX hfar e2 hfit
          go_wp2
          rw [← HW'.out]
          obtain ⟨hzz, hbf, f1, f2⟩ := HG.out
          exact bodyPost_ret (v := .tuple #[.agg #[.bool false, .slice none 0 0], .int .i64 5]) (by simp [results, Try.results43, go_sem, f1, f2]) rfl ⟨_, _, _, _, by rw [HX.out], hzz, hbf⟩
  · have d3 : decide (sg ≤ 0) = false := by have := fun h => hm1 (Hcmp.out.1 h); simpa using this
    have hkt : k = t := by rw [ht]; unfold timesN; rw [if_neg hm1]
    have Ht := Lib.hid ht
    have Hkt := Lib.hid hkt
    clear ht hkt
    go_wp2_with fail
    clear d3 hm1
    try rw [show (k : Int) = (t : Int) by rw [← Hkt.out]]
    go_loopw [35] (fun i wr => ∃ j : Nat, i = .int .i64 (j : Int) ∧ PowAt w wr (w.heap.size + 1) g6 g7 p A n c l m t j) (fun i _ => t - (intOf i).toNat)
    case atStart => exact ⟨0, rfl, M8.out, R8.out, R78.out, by rw [powZ_zero]; exact Z78.out, by rw [Nat.pow_zero, dig_pos (by omega), dig_zero]; simp, Hb8.out, Nat.zero_le _⟩
    case round =>
      obtain ⟨j, rfl, hrel⟩ := hrel
      have HR := Lib.hid hrel
      have hjt := hrel.j
      clear hrel
      obtain ⟨b10, A10, n10, c10, q0, q1, hz10⟩ := HR.out.z
      have Z10 := Lib.hid hz10
      clear hz10
      by_cases hj : j = t
      · subst hj
        have e1 : decide ((j : Int) < j) = false := by simp
        have hfit : (dig (m ^ k)).length ≤ 256 := by
          have := HR.out.len
          rwa [Ht.out, timesN_pow] at this
        have hA : powA p m k = powZ p m j := by unfold powA; rw [if_pos hfit, Ht.out, timesN_Z]
        have hX : powX m k = 0 := by unfold powX; rw [if_pos hfit]
        have HX := Lib.hid (And.intro hA hX)
        clear hA hX hfit
        go_wp2_with fail
        refine (int_any b10 A10 n10 c10 _).mono ?_
        rintro e w9 ⟨rfl, hb9⟩
        have hx9 : Ext wr w9 := hb9
        have R9 := HR.out.r1.ext hx9
        obtain ⟨_, _, _, _, g30, g31, g32, g33⟩ := R9.facts
        obtain ⟨W', hW', f1, f2, hzz, hbf⟩ := one_res (w := w) R9 b10 A10 n10 c10 (Z10.out.ext hx9) (HR.out.b.trans (Below.mono hx9 HR.out.b.size)) (by omega)
        rw [← HX.out.1] at hzz
        have HG := Lib.hid (And.intro hzz (And.intro hbf (And.intro f1 f2)))
        have HW' := Lib.hid hW'
        clear hzz hbf f1 f2 hW' R9 hx9 hb9
        go_wp2
        rw [← HW'.out]
        obtain ⟨hzz, hbf, f1, f2⟩ := HG.out
        exact bodyPost_ret (v := .tuple #[.agg #[.bool b10, .slice A10 n10 c10], .int .i64 0]) (by simp [results, Try.results43, go_sem, f1, f2]) rfl ⟨_, _, _, _, by rw [HX.out.2], hzz, hbf⟩
      · have e1 : decide ((j : Int) < t) = true := by simp; omega
        have c0 := HR.out.a.c0
        have c1 := HR.out.a.c1
        have za := HZ1.out _ HR.out.a.w
        have Lp : (dig (powZ p m j).natAbs).length ≤ 256 := by rw [powZ_abs]; exact HR.out.len
        have Za := Lib.hid (And.intro za Lp)
        clear za Lp
        go_wp2_with fail
        refine (asAgg (timesRZ_any (powZ p m j) z _ _ _ Z10.out Za.out.1 (Nat.le_trans Za.out.2 (by omega)) (Nat.le_trans LZ.out (by omega)))).mono ?_
        rintro e w9 ⟨b11, A11, n11, c11, rfl, hz11, hb9⟩
        rw [Hz.out, powZ_succ] at hz11
        have hx9 : Ext wr w9 := hb9
        have r7 := HR.out.r7.ext hx9
        obtain ⟨_, _, _, _, f0, f1, f2, f3⟩ := r7.facts
        have n6 := (HR.out.a.ext hx9).far r7 (by omega) (.bool b11) (.slice A11 n11 c11)
        have n1 := (HR.out.r1.ext hx9).far r7 (by omega) (.bool b11) (.slice A11 n11 c11)
        have n7 := r7.set b11 A11 n11 c11
        have nz := HZ.put r7 hz11
        have zz := hz11.rb r7 (.bool b11) (.slice A11 n11 c11)
        have cc0 := r7.set0 b11 (.slice A11 n11 c11)
        have cc1 := r7.set1 b11 (.slice A11 n11 c11)
        have hb10 := HR.out.b.trans (Below.mono hx9 HR.out.b.size)
        have hbf := below_set2 (g := g7) (i := 0) (j := 1) hb10 (by omega) (.bool b11) (.slice A11 n11 c11)
        have HN := Lib.hid (And.intro n6 (And.intro n1 (And.intro n7 (And.intro nz (And.intro zz hbf)))))
        clear n6 n1 n7 nz zz hbf hb10 r7 hx9 hb9 hz11 q0 q1 c0 c1
        go_wp2_with fail
        generalize ((w9.setCell ⟨g7, 0, none⟩ (.bool b11)).setCell ⟨g7, 1, none⟩ (.slice A11 n11 c11)) = w10 at *
        obtain ⟨n6, n1, n7, nz, zz, hbf⟩ := HN.out
        refine (fitsR_any (powZ p m (j + 1)) _ _ zz).mono ?_
        rintro e w11 ⟨rfl, hb11⟩
        rw [powZ_abs]
        have hx11 : Ext w10 w11 := hb11
        have HN2 := Lib.hid (And.intro (n6.ext hx11) (And.intro (n1.ext hx11) (And.intro (n7.ext hx11) (And.intro (nz.ext n7.lt hx11) (hbf.trans (Below.mono hx11 hbf.size))))))
        clear n6 n1 n7 nz zz hbf hx11 hb11 HN f0 f1 f2 f3 cc0 cc1
        by_cases hfit : (dig (m ^ (j + 1))).length ≤ 256
        · have e2 : decide ((dig (m ^ (j + 1))).length ≤ 256) = true := by simpa using hfit
          rw [e2]
          have Hfit := Lib.hid hfit
          clear e2 hfit
          go_wp2
          go_roundw
          case rel => exact ⟨j + 1, by simp, HN2.out.1, HN2.out.2.1, HN2.out.2.2.1, HN2.out.2.2.2.1, Hfit.out, HN2.out.2.2.2.2, by omega⟩
          case measure => simp [intOf]; omega
        · have e2 : decide ((dig (m ^ (j + 1))).length ≤ 256) = false := by simpa using hfit
          rw [e2]
          have hfar : 256 < (dig (m ^ k)).length := pow_far (j := j) (by rw [← Ht.out]; omega) (by omega)
          have hA : powA p m k = 0 := by unfold powA; rw [if_neg (by omega)]
          have hX : powX m k = 5 := by unfold powX; rw [if_neg (by omega)]
          have HX := Lib.hid hX
          obtain ⟨_, _, _, _, g30, g31, g32, g33⟩ := HN2.out.2.1.facts
          obtain ⟨W', hW', f1, f2, hzz, hbf⟩ := one_res (w := w) HN2.out.2.1 false none 0 0 (zv_nil w11) HN2.out.2.2.2.2 (by omega)
          rw [← hA] at hzz
          have HG := Lib.hid (And.intro hzz (And.intro hbf (And.intro f1 f2)))
          have HW' := Lib.hid hW'
          clear hzz hbf f1 f2 hW' hA hX hfar e2 hfit
          go_wp2
          rw [← HW'.out]
          obtain ⟨hzz, hbf, f1, f2⟩ := HG.out
          exact bodyPost_ret (v := .tuple #[.agg #[.bool false, .slice none 0 0], .int .i64 5]) (by simp [results, Try.results43, go_sem, f1, f2]) rfl ⟨_, _, _, _, by rw [HX.out], hzz, hbf⟩
end Go.Proofs.Ytmlopkkbgpfdnaa
