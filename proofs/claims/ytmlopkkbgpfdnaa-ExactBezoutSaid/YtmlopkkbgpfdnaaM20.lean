/- Walks: the law ExactBezout. -/
import Derived.Test.YtmlopkkbgpfdnaaM17
import Derived.Test.YtmlopkkbgpfdnaaM18
import Derived.Test.YtmlopkkbgpfdnaaM19
namespace Go.Proofs.Ytmlopkkbgpfdnaa
open Go.RowKit

theorem vld_of {z : Int} (h : (dig z.natAbs).length ≤ 256) : vld (decide (z < 0)) (dig z.natAbs) = true := by
  unfold vld
  split
  · rename_i h0
    have : ¬ 0 < z.natAbs := fun hp => by have := dig_len_pos.2 hp; omega
    simp; omega
  · rename_i h0
    have hn := norm_dig z.natAbs
    unfold Norm at hn
    rw [List.getLast?_eq_getElem?] at hn
    have hl : (dig z.natAbs).length - 1 < (dig z.natAbs).length := by omega
    rw [List.getElem?_eq_getElem hl] at hn
    simp only [Bool.and_eq_true, decide_eq_true_eq, Bool.not_eq_true', decide_eq_false_iff_not]
    refine ⟨h, fun e => hn ?_⟩
    rw [List.getD_eq_getElem?_getD, List.getElem?_eq_getElem hl] at e
    simpa using e
/-- what the law asks of Ext's results -/
structure BZ (r t g x y : Int) : Prop where
  sum : r * x + t * y = g
  g0 : 0 ≤ g
  gz : g = 0 → r = 0 ∧ t = 0
  gd : g ≠ 0 → g ∣ r ∧ g ∣ t
  gt : g ≠ 0 → t ≠ 0 → t / g ≠ 0
  xt : t ≠ 0 → 0 ≤ x ∧ x < (t / g).natAbs
  lg : (dig g.natAbs).length ≤ 256
  lx : (dig x.natAbs).length ≤ 256
  ly : (dig y.natAbs).length ≤ 256
theorem BZ.of {p q : Bool} {l l' : List Nat} {g x y er : Int} (h : ExtIs p q l l' g x y er) (hv : (vld p l && vld q l') = true) (lr : (dig (numOf p l).natAbs).length ≤ 256) (lt : (dig (numOf q l').natAbs).length ≤ 256) :
    er = 0 ∧ BZ (numOf p l) (numOf q l') g x y := by
  rcases h with ⟨h0, -⟩ | ⟨-, h1, rfl, rfl, rfl, rfl⟩ | ⟨-, h1, hi, rfl⟩
  · rw [hv] at h0; cases h0
  · obtain ⟨r, hr⟩ : ∃ r, r = numOf p l := ⟨_, rfl⟩
    rw [h1]
    rw [← hr] at lr ⊢
    have hs := sign_bd r
    refine ⟨rfl, by rw [Int.zero_mul, Int.add_zero, Int.mul_sign_self], by omega, fun e => ⟨by omega, rfl⟩, fun _ => ⟨Int.natAbs_dvd.2 (Int.dvd_refl _), Int.dvd_zero _⟩, fun _ e => absurd rfl e, fun e => absurd rfl e, by rw [Int.natAbs_natCast]; exact lr, Nat.le_trans (dig_len_le (show r.sign.natAbs < 4294967296 ^ 1 by omega)) (by omega), by simp [dig_zero]⟩
  · obtain ⟨l1, l2, l3⟩ := ext_lens h1 hi lr lt (by omega)
    have hg := hi.is
    have hgp : 0 < Int.gcd (numOf p l) (numOf q l') := Int.gcd_pos_iff.2 (.inr h1)
    have hdt : g ∣ numOf q l' := by rw [hg]; exact Int.gcd_dvd_right ..
    refine ⟨rfl, hi.sum, by omega, fun e => by omega, fun _ => ⟨by rw [hg]; exact Int.gcd_dvd_left .., hdt⟩, fun h0 _ e => ?_, fun _ => ⟨hi.x0, by have := hi.x1; omega⟩, l1, l2, l3⟩
    obtain ⟨k, hk⟩ := hdt
    rw [hk, Int.mul_ediv_cancel_left _ h0] at e
    rw [e, Int.mul_zero] at hk
    exact h1 hk

theorem ExtIs.bad {p q : Bool} {l l' : List Nat} {g x y er : Int} (h : ExtIs p q l l' g x y er) (hv : (vld p l && vld q l') = false) : er = 2 := by
  rcases h with ⟨-, -, -, -, rfl⟩ | ⟨h0, -⟩ | ⟨h0, -⟩
  · rfl
  · rw [hv] at h0; cases h0
  · rw [hv] at h0; cases h0
theorem zeroR_zero (a : Value) (w : World) (ha : ZV w a 0) : Calls Try.prog 39 #[a] w fun e w' => e = .returned (.bool true) ∧ Ext w w' := by
  have := zeroR_any 0 a w ha
  rwa [show decide ((0 : Int) = 0) = true from rfl] at this
theorem sign_nn {z : Int} (h : 0 ≤ z) : decide (z.sign < 0) = false := by
  rcases (by omega : z = 0 ∨ 0 < z) with h | h
  · subst h; decide
  · rw [Int.sign_eq_one_of_pos h]; decide
theorem sign_nlt {z : Int} (h : 0 ≤ z) : decide (z.sign < 0) = false := sign_nn h
theorem sign_lt {z : Int} (h : z < 0) : decide (z.sign < 0) = true := by rw [Int.sign_eq_neg_one_of_neg h]; decide
theorem sign_ge {z : Int} (h : 0 ≤ z) : decide (0 ≤ z.sign) = true := by
  rcases (by omega : z = 0 ∨ 0 < z) with h | h
  · subst h; decide
  · rw [Int.sign_eq_one_of_pos h]; decide
theorem sign_nge {z : Int} (h : z < 0) : decide (0 ≤ z.sign) = false := by rw [Int.sign_eq_neg_one_of_neg h]; decide

set_option maxHeartbeats 4000000 in
set_option maxRecDepth 100000 in
theorem exactBezout_walk (p q : Bool) (A A' : Option Addr) (n c n' c' : Nat) (l l' : List Nat) (w : World) (hx : Wd w (.slice A n c) l) (hy : Wd w (.slice A' n' c') l') :
    Calls Try.prog 8 #[.agg #[.bool p, .slice A n c], .agg #[.bool q, .slice A' n' c']] w fun e w' => e = .returned (.bool true) ∧ Below w.heap.size w w' := by
  obtain ⟨h1, h2⟩ := two_new w p A n c q A' n' c' 24 l l' hx hy
  obtain ⟨W0, hW0⟩ : ∃ W0, W0 = (w.alloc (Obj.cells #[.bool p, .slice A n c] 24)).alloc (Obj.cells #[.bool q, .slice A' n' c'] 24) := ⟨_, rfl⟩
  have e0 : Ext w W0 := by rw [hW0]; exact ((Ext.refl w).alc _).alc _
  have s0 : W0.heap.size = w.heap.size + 1 + 1 := by rw [hW0]; simp
  rw [← hW0] at h1 h2
  have H1 := Lib.hid h1; have H2 := Lib.hid h2; have E0 := Lib.hid e0; have HW0 := Lib.hid hW0
  have C3 := Lib.hid (show ∀ W : World, Wd W (.slice A n c) l → Wd W (.slice A' n' c') l' → Calls Try.prog 32 #[.agg #[.bool p, .slice A n c], .agg #[.bool q, .slice A' n' c']] W fun e w' => ∃ g x y er, ExtIs p q l l' g x y er ∧ RetExt W g x y er e w' from fun W a b => exactExt_u p q A A' n c n' c' l l' W a b)
  have OK1 := Lib.hid hx.ok; have OK2 := Lib.hid hy.ok
  clear hW0 h1 h2 e0 hx hy
  go_enter Try.func8, Try.ntmps8
  go_upto_region 1 with fail
  rw [← HW0.out]
  have c10 := H1.out.c0; have c11 := H1.out.c1; have c20 := H2.out.c0; have c21 := H2.out.c1
  clear HW0
  go_wp2_with fail
  refine (C3.out _ H1.out.w H2.out.w).mono ?_
  rintro e w1 ⟨vg, vx, vy, er, hie, b1, A1, n1, c1, b2, A2, n2, c2, b3, A3, n3, c3, rfl, hz1, hz2, hz3, hb⟩
  have HIE := Lib.hid hie
  have Z1 := Lib.hid hz1; have Z2 := Lib.hid hz2; have Z3 := Lib.hid hz3; have X1 := Lib.hid (show Ext W0 w1 from hb)
  clear hie hz1 hz2 hz3 hb c10 c11 c20 c21 C3
  go_upto_region 2 with fail
  obtain ⟨W1, hW1⟩ : ∃ W1, W1 = ((w1.alloc (Obj.cells #[.bool b1, .slice A1 n1 c1] 24)).alloc (Obj.cells #[.bool b2, .slice A2 n2 c2] 24)).alloc (Obj.cells #[.bool b3, .slice A3 n3 c3] 24) := ⟨_, rfl⟩
  have e1 : Ext w1 W1 := by rw [hW1]; exact (((Ext.refl _).alc _).alc _).alc _
  obtain ⟨i5, i6⟩ := hz_new w1 b1 A1 n1 c1 b2 A2 n2 c2 24 Z1.out Z2.out
  have i7 := HZ.lit ((w1.alloc (Obj.cells #[.bool b1, .slice A1 n1 c1] 24)).alloc (Obj.cells #[.bool b2, .slice A2 n2 c2] 24)) b3 A3 n3 c3 24 (Z3.out.ext (((Ext.refl _).alc _).alc _))
  rw [World.size_alloc, World.size_alloc, ← hW1] at i7
  replace i5 : HZ W1 w1.heap.size vg := by rw [hW1]; exact i5.ext i5.lt ((Ext.refl _).alc _)
  replace i6 : HZ W1 (w1.heap.size + 1) vx := by rw [hW1]; exact i6.ext i6.lt ((Ext.refl _).alc _)
  rw [← hW1]
  obtain ⟨g5, hg5⟩ : ∃ k, k = w1.heap.size := ⟨_, rfl⟩
  rw [← hg5] at i5 i6 i7 ⊢
  have x1 := X1.out.trans e1
  have H1 := Lib.hid (H1.out.ext x1); have H2 := Lib.hid (H2.out.ext x1); have E1 := Lib.hid (E0.out.trans x1)
  have I5 := Lib.hid i5; have I6 := Lib.hid i6; have I7 := Lib.hid i7
  have l7 := i7.lt; have l0 : w.heap.size + 1 < W1.heap.size := H2.out.r.lt
  have VA := Lib.hid (validR_any p A n c l W1 H1.out.w)
  have c10 := H1.out.c0; have c11 := H1.out.c1
  clear x1 e1 i5 i6 i7 hW1 hg5 X1 Z1 Z2 Z3 E0
  go_wp2_with fail
  refine VA.out.mono ?_
  rintro e w2 ⟨rfl, x2⟩
  replace x2 : Ext W1 w2 := x2
  have X2 := Lib.hid x2
  clear c10 c11 VA
  by_cases hp : vld p l = true
  · rw [hp]
    have HP := Lib.hid hp
    have VB := Lib.hid (validR_any q A' n' c' l' w2 (H2.out.ext x2).w)
    have c20 := (H2.out.ext x2).c0; have c21 := (H2.out.ext x2).c1
    clear x2 hp
    go_wp2_with fail
    refine VB.out.mono ?_
    rintro e w3 ⟨rfl, x3⟩
    replace x3 : Ext w2 w3 := x3
    have X3 := Lib.hid (X2.out.trans x3)
    clear x3 c20 c21 VB
    by_cases hq : vld q l' = true
    · rw [hq]
      have hv : (vld p l && vld q l') = true := by rw [HP.out, hq]; rfl
      obtain ⟨rfl, hbz⟩ := BZ.of HIE.out hv (by rw [vld_dig OK1.out HP.out]; exact vld_len HP.out) (by rw [vld_dig OK2.out hq]; exact vld_len hq)
      have hzr : ZV W1 (.agg #[.bool p, .slice A n c]) (numOf p l) := vld_zv H1.out.w HP.out
      have hzt : ZV W1 (.agg #[.bool q, .slice A' n' c']) (numOf q l') := vld_zv H2.out.w hq
      have lr : (dig (numOf p l).natAbs).length ≤ 256 := by rw [vld_dig OK1.out HP.out]; exact vld_len HP.out
      have lt : (dig (numOf q l').natAbs).length ≤ 256 := by rw [vld_dig OK2.out hq]; exact vld_len hq
      obtain ⟨r, hr⟩ : ∃ r, r = numOf p l := ⟨_, rfl⟩
      obtain ⟨t, ht⟩ : ∃ t, t = numOf q l' := ⟨_, rfl⟩
      rw [← hr] at hzr lr hbz
      rw [← ht] at hzt lt hbz
      clear hr ht HIE hv hq HP
      have PX := Lib.hid (show HZ W1 w.heap.size r from ⟨p, A, n, c, H1.out.c0, H1.out.c1, hzr⟩)
      have PY := Lib.hid (show HZ W1 (w.heap.size + 1) t from ⟨q, A', n', c', H2.out.c0, H2.out.c1, hzt⟩)
      have BZH := Lib.hid hbz
      have LL := Lib.hid (And.intro lr lt)
      clear hzr hzt lr lt hbz H1 H2 X2 OK1 OK2
      go_upto_region 4 with fail
      obtain ⟨b5, A5, n5, c5, k0, k1, kz⟩ := I5.out.ext (by omega) X3.out
      have V1 := Lib.hid (validR_any b5 A5 n5 c5 _ w3 kz.words.2)
      rw [show b5 = decide (vg < 0) from kz.words.1, vld_of BZH.out.lg] at V1
      rw [show b5 = decide (vg < 0) from kz.words.1] at k0
      clear kz
      go_wp2_with fail
      refine V1.out.mono ?_
      rintro e w4 ⟨rfl, x4⟩
      have X4 := Lib.hid (show Ext W1 w4 from X3.out.trans x4)
      clear x4 k0 k1 V1 X3
      obtain ⟨b5, A5, n5, c5, k0, k1, kz⟩ := I6.out.ext (by omega) X4.out
      have V1 := Lib.hid (validR_any b5 A5 n5 c5 _ w4 kz.words.2)
      rw [show b5 = decide (vx < 0) from kz.words.1, vld_of BZH.out.lx] at V1
      rw [show b5 = decide (vx < 0) from kz.words.1] at k0
      clear kz
      go_wp2_with fail
      refine V1.out.mono ?_
      rintro e w5 ⟨rfl, x5⟩
      have X5 := Lib.hid (show Ext W1 w5 from X4.out.trans x5)
      clear x5 k0 k1 V1 X4
      obtain ⟨b5, A5, n5, c5, k0, k1, kz⟩ := I7.out.ext (by omega) X5.out
      have V1 := Lib.hid (validR_any b5 A5 n5 c5 _ w5 kz.words.2)
      rw [show b5 = decide (vy < 0) from kz.words.1, vld_of BZH.out.ly] at V1
      rw [show b5 = decide (vy < 0) from kz.words.1] at k0
      clear kz
      go_wp2_with fail
      refine V1.out.mono ?_
      rintro e w6 ⟨rfl, x6⟩
      have X6 := Lib.hid (show Ext W1 w6 from X5.out.trans x6)
      clear x6 k0 k1 V1 X5
      have PX := Lib.hid (PX.out.ext (by omega) X6.out)
      have PY := Lib.hid (PY.out.ext (by omega) X6.out)
      have I5 := Lib.hid (I5.out.ext (by omega) X6.out)
      have I6 := Lib.hid (I6.out.ext (by omega) X6.out)
      have I7 := Lib.hid (I7.out.ext (by omega) X6.out)
      have E6 := Lib.hid (E1.out.trans X6.out)
      have l7 := I7.out.lt; have l0 := PY.out.lt
      clear X6 E1
      go_upto_region 6 with fail
      have ls1 : (dig (r * vx).natAbs).length ≤ 512 := len_times LL.out.1 BZH.out.lx
      have ls2 : (dig (t * vy).natAbs).length ≤ 512 := len_times LL.out.2 BZH.out.ly
      have lr := LL.out; have lz := And.intro BZH.out.lg (And.intro BZH.out.lx BZH.out.ly)
      refine wp_region_noPanic ?_
      refine wp_pool 12 [some 55, some 56, some 57, some 58, some 59, some 60, some 61, some 62, some 63, some 64, some 65, some 9] [] [11] [(fun (v : Value) (X : World) => ∃ b A n c, v = .agg #[.bool b, .slice A n c] ∧ ZV X (.agg #[.bool b, .slice A n c]) (r)), (fun (v : Value) (X : World) => ∃ b A n c, v = .agg #[.bool b, .slice A n c] ∧ ZV X (.agg #[.bool b, .slice A n c]) (r)), (fun (v : Value) (X : World) => ∃ b A n c, v = .agg #[.bool b, .slice A n c] ∧ ZV X (.agg #[.bool b, .slice A n c]) (vx)), (fun (v : Value) (X : World) => ∃ b A n c, v = .agg #[.bool b, .slice A n c] ∧ ZV X (.agg #[.bool b, .slice A n c]) (vx)), (fun (v : Value) (X : World) => ∃ b A n c, v = .agg #[.bool b, .slice A n c] ∧ ZV X (.agg #[.bool b, .slice A n c]) (r * vx)), (fun (v : Value) (X : World) => ∃ b A n c, v = .agg #[.bool b, .slice A n c] ∧ ZV X (.agg #[.bool b, .slice A n c]) (t)), (fun (v : Value) (X : World) => ∃ b A n c, v = .agg #[.bool b, .slice A n c] ∧ ZV X (.agg #[.bool b, .slice A n c]) (t)), (fun (v : Value) (X : World) => ∃ b A n c, v = .agg #[.bool b, .slice A n c] ∧ ZV X (.agg #[.bool b, .slice A n c]) (vy)), (fun (v : Value) (X : World) => ∃ b A n c, v = .agg #[.bool b, .slice A n c] ∧ ZV X (.agg #[.bool b, .slice A n c]) (vy)), (fun (v : Value) (X : World) => ∃ b A n c, v = .agg #[.bool b, .slice A n c] ∧ ZV X (.agg #[.bool b, .slice A n c]) (t * vy)), (fun (v : Value) (X : World) => ∃ b A n c, v = .agg #[.bool b, .slice A n c] ∧ ZV X (.agg #[.bool b, .slice A n c]) (r * vx + t * vy)), (fun (v : Value) (X : World) => ∃ g, v = .pointer (some ⟨g, 0, none⟩) ∧ w6.heap.size ≤ g ∧ RB X g)] [noF, noF, noF, noF, noF, noF, noF, noF, noF, noF, noF, ptrF] (by kernel_rfl) (by kernel_rfl) (by kernel_rfl) (by kernel_rfl) (by kernel_rfl) (by kernel_rfl) (by kernel_rfl) (by kernel_rfl) (fun _ _ _ _ h => h) ⟨(fun _ _ _ e ⟨b, A, n, c, h1, h2⟩ => ⟨b, A, n, c, h1, h2.ext e⟩), (fun _ _ _ e ⟨b, A, n, c, h1, h2⟩ => ⟨b, A, n, c, h1, h2.ext e⟩), (fun _ _ _ e ⟨b, A, n, c, h1, h2⟩ => ⟨b, A, n, c, h1, h2.ext e⟩), (fun _ _ _ e ⟨b, A, n, c, h1, h2⟩ => ⟨b, A, n, c, h1, h2.ext e⟩), (fun _ _ _ e ⟨b, A, n, c, h1, h2⟩ => ⟨b, A, n, c, h1, h2.ext e⟩), (fun _ _ _ e ⟨b, A, n, c, h1, h2⟩ => ⟨b, A, n, c, h1, h2.ext e⟩), (fun _ _ _ e ⟨b, A, n, c, h1, h2⟩ => ⟨b, A, n, c, h1, h2.ext e⟩), (fun _ _ _ e ⟨b, A, n, c, h1, h2⟩ => ⟨b, A, n, c, h1, h2.ext e⟩), (fun _ _ _ e ⟨b, A, n, c, h1, h2⟩ => ⟨b, A, n, c, h1, h2.ext e⟩), (fun _ _ _ e ⟨b, A, n, c, h1, h2⟩ => ⟨b, A, n, c, h1, h2.ext e⟩), (fun _ _ _ e ⟨b, A, n, c, h1, h2⟩ => ⟨b, A, n, c, h1, h2.ext e⟩), (fun _ _ _ e ⟨g, h1, h2, h3⟩ => ⟨g, h1, h2, h3.ext e⟩), True.intro⟩ ?steps ?done
      case steps =>
        simp only [List.take_succ_cons, List.take_zero]
        refine Steps.cons (fun (v : Value) (X : World) => ∃ b A n c, v = .agg #[.bool b, .slice A n c] ∧ ZV X (.agg #[.bool b, .slice A n c]) (r)) [] rfl (by kernel_rfl) rfl (by kernel_rfl) (fun y X ex0 hf K hK => ?_) ?_
        · clear hf
          have ex := (Ext.drw (Ext.refl _)).trans ex0
          refine Box.mk ?_
          simp only [fill, Act.put, Nat.reduceAdd, List.setIfInBounds_toArray, List.set_cons_zero, List.set_cons_succ] at hK ⊢
          obtain ⟨bl, Al, nl, cl, k0, k1, kz⟩ := (PX.out.ext (by omega) ex)
          go_simp
          exact hK.out _ _ ⟨_, _, _, _, rfl, kz⟩ (Ext.refl _) (fun b hb => by cases hb)
        refine Steps.cons (fun (v : Value) (X : World) => ∃ b A n c, v = .agg #[.bool b, .slice A n c] ∧ ZV X (.agg #[.bool b, .slice A n c]) (r)) [0] rfl (by kernel_rfl) rfl (by kernel_rfl) (fun y X ex0 hf K hK => ?_) ?_
        · have hh0 : ((fun (v : Value) (X : World) => ∃ b A n c, v = .agg #[.bool b, .slice A n c] ∧ ZV X (.agg #[.bool b, .slice A n c]) (r))) (y 0) X := hf.1
          refine Exists.elim hh0 (fun b0 hx0_0 => ?_)
          refine Exists.elim hx0_0 (fun A0 hx0_1 => ?_)
          refine Exists.elim hx0_1 (fun n0 hx0_2 => ?_)
          refine Exists.elim hx0_2 (fun c0 hx0_3 => ?_)
          have h0 := hx0_3.1
          have z0 := hx0_3.2
          clear hh0 hx0_0 hx0_1 hx0_2 hx0_3
          clear hf
          have ex := (Ext.drw (Ext.refl _)).trans ex0
          refine Box.mk ?_
          simp only [fill, Act.put, Nat.reduceAdd, List.setIfInBounds_toArray, List.set_cons_zero, List.set_cons_succ, h0] at hK ⊢
          go_simp
          refine (asAgg ((of_any _ _ _ _ _).mono fun e w' ⟨he, hb⟩ => ⟨_, he, (z0).ext hb, hb⟩)).mono ?_
          rintro e V ⟨b9, A9, n9, c9, rfl, hz, hb⟩
          try go_wp2_with fail
          exact hK.out _ _ ⟨_, _, _, _, rfl, hz⟩ hb (fun b hb => by cases hb)
        refine Steps.cons (fun (v : Value) (X : World) => ∃ b A n c, v = .agg #[.bool b, .slice A n c] ∧ ZV X (.agg #[.bool b, .slice A n c]) (vx)) [] rfl (by kernel_rfl) rfl (by kernel_rfl) (fun y X ex0 hf K hK => ?_) ?_
        · clear hf
          have ex := (Ext.drw (Ext.refl _)).trans ex0
          refine Box.mk ?_
          simp only [fill, Act.put, Nat.reduceAdd, List.setIfInBounds_toArray, List.set_cons_zero, List.set_cons_succ] at hK ⊢
          obtain ⟨bl, Al, nl, cl, k0, k1, kz⟩ := (I6.out.ext (by omega) ex)
          go_simp
          exact hK.out _ _ ⟨_, _, _, _, rfl, kz⟩ (Ext.refl _) (fun b hb => by cases hb)
        refine Steps.cons (fun (v : Value) (X : World) => ∃ b A n c, v = .agg #[.bool b, .slice A n c] ∧ ZV X (.agg #[.bool b, .slice A n c]) (vx)) [2, 1] rfl (by kernel_rfl) rfl (by kernel_rfl) (fun y X ex0 hf K hK => ?_) ?_
        · have hh2 : ((fun (v : Value) (X : World) => ∃ b A n c, v = .agg #[.bool b, .slice A n c] ∧ ZV X (.agg #[.bool b, .slice A n c]) (vx))) (y 2) X := hf.1
          refine Exists.elim hh2 (fun b2 hx2_0 => ?_)
          refine Exists.elim hx2_0 (fun A2 hx2_1 => ?_)
          refine Exists.elim hx2_1 (fun n2 hx2_2 => ?_)
          refine Exists.elim hx2_2 (fun c2 hx2_3 => ?_)
          have h2 := hx2_3.1
          have z2 := hx2_3.2
          clear hh2 hx2_0 hx2_1 hx2_2 hx2_3
          have hh1 : ((fun (v : Value) (X : World) => ∃ b A n c, v = .agg #[.bool b, .slice A n c] ∧ ZV X (.agg #[.bool b, .slice A n c]) (r))) (y 1) X := hf.2.1
          refine Exists.elim hh1 (fun b1 hx1_0 => ?_)
          refine Exists.elim hx1_0 (fun A1 hx1_1 => ?_)
          refine Exists.elim hx1_1 (fun n1 hx1_2 => ?_)
          refine Exists.elim hx1_2 (fun c1 hx1_3 => ?_)
          have h1 := hx1_3.1
          have z1 := hx1_3.2
          clear hh1 hx1_0 hx1_1 hx1_2 hx1_3
          clear hf
          have ex := (Ext.drw (Ext.refl _)).trans ex0
          refine Box.mk ?_
          simp only [fill, Act.put, Nat.reduceAdd, List.setIfInBounds_toArray, List.set_cons_zero, List.set_cons_succ, h2, h1] at hK ⊢
          go_simp
          refine (asAgg ((of_any _ _ _ _ _).mono fun e w' ⟨he, hb⟩ => ⟨_, he, (z2).ext hb, hb⟩)).mono ?_
          rintro e V ⟨b9, A9, n9, c9, rfl, hz, hb⟩
          try go_wp2_with fail
          exact hK.out _ _ ⟨_, _, _, _, rfl, hz⟩ hb (fun b hb => by cases hb)
        refine Steps.cons (fun (v : Value) (X : World) => ∃ b A n c, v = .agg #[.bool b, .slice A n c] ∧ ZV X (.agg #[.bool b, .slice A n c]) (r * vx)) [1, 3] rfl (by kernel_rfl) rfl (by kernel_rfl) (fun y X ex0 hf K hK => ?_) ?_
        · have hh1 : ((fun (v : Value) (X : World) => ∃ b A n c, v = .agg #[.bool b, .slice A n c] ∧ ZV X (.agg #[.bool b, .slice A n c]) (r))) (y 1) X := hf.1
          refine Exists.elim hh1 (fun b1 hx1_0 => ?_)
          refine Exists.elim hx1_0 (fun A1 hx1_1 => ?_)
          refine Exists.elim hx1_1 (fun n1 hx1_2 => ?_)
          refine Exists.elim hx1_2 (fun c1 hx1_3 => ?_)
          have h1 := hx1_3.1
          have z1 := hx1_3.2
          clear hh1 hx1_0 hx1_1 hx1_2 hx1_3
          have hh3 : ((fun (v : Value) (X : World) => ∃ b A n c, v = .agg #[.bool b, .slice A n c] ∧ ZV X (.agg #[.bool b, .slice A n c]) (vx))) (y 3) X := hf.2.1
          refine Exists.elim hh3 (fun b3 hx3_0 => ?_)
          refine Exists.elim hx3_0 (fun A3 hx3_1 => ?_)
          refine Exists.elim hx3_1 (fun n3 hx3_2 => ?_)
          refine Exists.elim hx3_2 (fun c3 hx3_3 => ?_)
          have h3 := hx3_3.1
          have z3 := hx3_3.2
          clear hh3 hx3_0 hx3_1 hx3_2 hx3_3
          clear hf
          have ex := (Ext.drw (Ext.refl _)).trans ex0
          refine Box.mk ?_
          simp only [fill, Act.put, Nat.reduceAdd, List.setIfInBounds_toArray, List.set_cons_zero, List.set_cons_succ, h1, h3] at hK ⊢
          go_simp
          refine (asAgg (timesRZ_any _ _ _ _ _ z1 z3 (by omega) (by omega))).mono ?_
          rintro e V ⟨b9, A9, n9, c9, rfl, hz, hb⟩
          try go_wp2_with fail
          exact hK.out _ _ ⟨_, _, _, _, rfl, hz⟩ hb (fun b hb => by cases hb)
        refine Steps.cons (fun (v : Value) (X : World) => ∃ b A n c, v = .agg #[.bool b, .slice A n c] ∧ ZV X (.agg #[.bool b, .slice A n c]) (t)) [] rfl (by kernel_rfl) rfl (by kernel_rfl) (fun y X ex0 hf K hK => ?_) ?_
        · clear hf
          have ex := (Ext.drw (Ext.refl _)).trans ex0
          refine Box.mk ?_
          simp only [fill, Act.put, Nat.reduceAdd, List.setIfInBounds_toArray, List.set_cons_zero, List.set_cons_succ] at hK ⊢
          obtain ⟨bl, Al, nl, cl, k0, k1, kz⟩ := (PY.out.ext (by omega) ex)
          go_simp
          exact hK.out _ _ ⟨_, _, _, _, rfl, kz⟩ (Ext.refl _) (fun b hb => by cases hb)
        refine Steps.cons (fun (v : Value) (X : World) => ∃ b A n c, v = .agg #[.bool b, .slice A n c] ∧ ZV X (.agg #[.bool b, .slice A n c]) (t)) [5, 4] rfl (by kernel_rfl) rfl (by kernel_rfl) (fun y X ex0 hf K hK => ?_) ?_
        · have hh5 : ((fun (v : Value) (X : World) => ∃ b A n c, v = .agg #[.bool b, .slice A n c] ∧ ZV X (.agg #[.bool b, .slice A n c]) (t))) (y 5) X := hf.1
          refine Exists.elim hh5 (fun b5 hx5_0 => ?_)
          refine Exists.elim hx5_0 (fun A5 hx5_1 => ?_)
          refine Exists.elim hx5_1 (fun n5 hx5_2 => ?_)
          refine Exists.elim hx5_2 (fun c5 hx5_3 => ?_)
          have h5 := hx5_3.1
          have z5 := hx5_3.2
          clear hh5 hx5_0 hx5_1 hx5_2 hx5_3
          have hh4 : ((fun (v : Value) (X : World) => ∃ b A n c, v = .agg #[.bool b, .slice A n c] ∧ ZV X (.agg #[.bool b, .slice A n c]) (r * vx))) (y 4) X := hf.2.1
          refine Exists.elim hh4 (fun b4 hx4_0 => ?_)
          refine Exists.elim hx4_0 (fun A4 hx4_1 => ?_)
          refine Exists.elim hx4_1 (fun n4 hx4_2 => ?_)
          refine Exists.elim hx4_2 (fun c4 hx4_3 => ?_)
          have h4 := hx4_3.1
          have z4 := hx4_3.2
          clear hh4 hx4_0 hx4_1 hx4_2 hx4_3
          clear hf
          have ex := (Ext.drw (Ext.refl _)).trans ex0
          refine Box.mk ?_
          simp only [fill, Act.put, Nat.reduceAdd, List.setIfInBounds_toArray, List.set_cons_zero, List.set_cons_succ, h5, h4] at hK ⊢
          go_simp
          refine (asAgg ((of_any _ _ _ _ _).mono fun e w' ⟨he, hb⟩ => ⟨_, he, (z5).ext hb, hb⟩)).mono ?_
          rintro e V ⟨b9, A9, n9, c9, rfl, hz, hb⟩
          try go_wp2_with fail
          exact hK.out _ _ ⟨_, _, _, _, rfl, hz⟩ hb (fun b hb => by cases hb)
        refine Steps.cons (fun (v : Value) (X : World) => ∃ b A n c, v = .agg #[.bool b, .slice A n c] ∧ ZV X (.agg #[.bool b, .slice A n c]) (vy)) [] rfl (by kernel_rfl) rfl (by kernel_rfl) (fun y X ex0 hf K hK => ?_) ?_
        · clear hf
          have ex := (Ext.drw (Ext.refl _)).trans ex0
          refine Box.mk ?_
          simp only [fill, Act.put, Nat.reduceAdd, List.setIfInBounds_toArray, List.set_cons_zero, List.set_cons_succ] at hK ⊢
          obtain ⟨bl, Al, nl, cl, k0, k1, kz⟩ := (I7.out.ext (by omega) ex)
          go_simp
          exact hK.out _ _ ⟨_, _, _, _, rfl, kz⟩ (Ext.refl _) (fun b hb => by cases hb)
        refine Steps.cons (fun (v : Value) (X : World) => ∃ b A n c, v = .agg #[.bool b, .slice A n c] ∧ ZV X (.agg #[.bool b, .slice A n c]) (vy)) [7, 6] rfl (by kernel_rfl) rfl (by kernel_rfl) (fun y X ex0 hf K hK => ?_) ?_
        · have hh7 : ((fun (v : Value) (X : World) => ∃ b A n c, v = .agg #[.bool b, .slice A n c] ∧ ZV X (.agg #[.bool b, .slice A n c]) (vy))) (y 7) X := hf.1
          refine Exists.elim hh7 (fun b7 hx7_0 => ?_)
          refine Exists.elim hx7_0 (fun A7 hx7_1 => ?_)
          refine Exists.elim hx7_1 (fun n7 hx7_2 => ?_)
          refine Exists.elim hx7_2 (fun c7 hx7_3 => ?_)
          have h7 := hx7_3.1
          have z7 := hx7_3.2
          clear hh7 hx7_0 hx7_1 hx7_2 hx7_3
          have hh6 : ((fun (v : Value) (X : World) => ∃ b A n c, v = .agg #[.bool b, .slice A n c] ∧ ZV X (.agg #[.bool b, .slice A n c]) (t))) (y 6) X := hf.2.1
          refine Exists.elim hh6 (fun b6 hx6_0 => ?_)
          refine Exists.elim hx6_0 (fun A6 hx6_1 => ?_)
          refine Exists.elim hx6_1 (fun n6 hx6_2 => ?_)
          refine Exists.elim hx6_2 (fun c6 hx6_3 => ?_)
          have h6 := hx6_3.1
          have z6 := hx6_3.2
          clear hh6 hx6_0 hx6_1 hx6_2 hx6_3
          clear hf
          have ex := (Ext.drw (Ext.refl _)).trans ex0
          refine Box.mk ?_
          simp only [fill, Act.put, Nat.reduceAdd, List.setIfInBounds_toArray, List.set_cons_zero, List.set_cons_succ, h7, h6] at hK ⊢
          go_simp
          refine (asAgg ((of_any _ _ _ _ _).mono fun e w' ⟨he, hb⟩ => ⟨_, he, (z7).ext hb, hb⟩)).mono ?_
          rintro e V ⟨b9, A9, n9, c9, rfl, hz, hb⟩
          try go_wp2_with fail
          exact hK.out _ _ ⟨_, _, _, _, rfl, hz⟩ hb (fun b hb => by cases hb)
        refine Steps.cons (fun (v : Value) (X : World) => ∃ b A n c, v = .agg #[.bool b, .slice A n c] ∧ ZV X (.agg #[.bool b, .slice A n c]) (t * vy)) [6, 8] rfl (by kernel_rfl) rfl (by kernel_rfl) (fun y X ex0 hf K hK => ?_) ?_
        · have hh6 : ((fun (v : Value) (X : World) => ∃ b A n c, v = .agg #[.bool b, .slice A n c] ∧ ZV X (.agg #[.bool b, .slice A n c]) (t))) (y 6) X := hf.1
          refine Exists.elim hh6 (fun b6 hx6_0 => ?_)
          refine Exists.elim hx6_0 (fun A6 hx6_1 => ?_)
          refine Exists.elim hx6_1 (fun n6 hx6_2 => ?_)
          refine Exists.elim hx6_2 (fun c6 hx6_3 => ?_)
          have h6 := hx6_3.1
          have z6 := hx6_3.2
          clear hh6 hx6_0 hx6_1 hx6_2 hx6_3
          have hh8 : ((fun (v : Value) (X : World) => ∃ b A n c, v = .agg #[.bool b, .slice A n c] ∧ ZV X (.agg #[.bool b, .slice A n c]) (vy))) (y 8) X := hf.2.1
          refine Exists.elim hh8 (fun b8 hx8_0 => ?_)
          refine Exists.elim hx8_0 (fun A8 hx8_1 => ?_)
          refine Exists.elim hx8_1 (fun n8 hx8_2 => ?_)
          refine Exists.elim hx8_2 (fun c8 hx8_3 => ?_)
          have h8 := hx8_3.1
          have z8 := hx8_3.2
          clear hh8 hx8_0 hx8_1 hx8_2 hx8_3
          clear hf
          have ex := (Ext.drw (Ext.refl _)).trans ex0
          refine Box.mk ?_
          simp only [fill, Act.put, Nat.reduceAdd, List.setIfInBounds_toArray, List.set_cons_zero, List.set_cons_succ, h6, h8] at hK ⊢
          go_simp
          refine (asAgg (timesRZ_any _ _ _ _ _ z6 z8 (by omega) (by omega))).mono ?_
          rintro e V ⟨b9, A9, n9, c9, rfl, hz, hb⟩
          try go_wp2_with fail
          exact hK.out _ _ ⟨_, _, _, _, rfl, hz⟩ hb (fun b hb => by cases hb)
        refine Steps.cons (fun (v : Value) (X : World) => ∃ b A n c, v = .agg #[.bool b, .slice A n c] ∧ ZV X (.agg #[.bool b, .slice A n c]) (r * vx + t * vy)) [4, 9] rfl (by kernel_rfl) rfl (by kernel_rfl) (fun y X ex0 hf K hK => ?_) ?_
        · have hh4 : ((fun (v : Value) (X : World) => ∃ b A n c, v = .agg #[.bool b, .slice A n c] ∧ ZV X (.agg #[.bool b, .slice A n c]) (r * vx))) (y 4) X := hf.1
          refine Exists.elim hh4 (fun b4 hx4_0 => ?_)
          refine Exists.elim hx4_0 (fun A4 hx4_1 => ?_)
          refine Exists.elim hx4_1 (fun n4 hx4_2 => ?_)
          refine Exists.elim hx4_2 (fun c4 hx4_3 => ?_)
          have h4 := hx4_3.1
          have z4 := hx4_3.2
          clear hh4 hx4_0 hx4_1 hx4_2 hx4_3
          have hh9 : ((fun (v : Value) (X : World) => ∃ b A n c, v = .agg #[.bool b, .slice A n c] ∧ ZV X (.agg #[.bool b, .slice A n c]) (t * vy))) (y 9) X := hf.2.1
          refine Exists.elim hh9 (fun b9 hx9_0 => ?_)
          refine Exists.elim hx9_0 (fun A9 hx9_1 => ?_)
          refine Exists.elim hx9_1 (fun n9 hx9_2 => ?_)
          refine Exists.elim hx9_2 (fun c9 hx9_3 => ?_)
          have h9 := hx9_3.1
          have z9 := hx9_3.2
          clear hh9 hx9_0 hx9_1 hx9_2 hx9_3
          clear hf
          have ex := (Ext.drw (Ext.refl _)).trans ex0
          refine Box.mk ?_
          simp only [fill, Act.put, Nat.reduceAdd, List.setIfInBounds_toArray, List.set_cons_zero, List.set_cons_succ, h4, h9] at hK ⊢
          go_simp
          refine (asAgg (plusRZ_any _ _ _ _ _ z4 z9 (by omega) (by omega))).mono ?_
          rintro e V ⟨b9, A9, n9, c9, rfl, hz, hb⟩
          try go_wp2_with fail
          exact hK.out _ _ ⟨_, _, _, _, rfl, hz⟩ hb (fun b hb => by cases hb)
        refine Steps.cons (fun (v : Value) (X : World) => ∃ g, v = .pointer (some ⟨g, 0, none⟩) ∧ w6.heap.size ≤ g ∧ RB X g) [] rfl (by kernel_rfl) rfl (by kernel_rfl) (fun y X ex0 hf K hK => ?_) ?_
        · clear hf
          have ex := (Ext.drw (Ext.refl _)).trans ex0
          refine Box.mk ?_
          simp only [fill, Act.put, Nat.reduceAdd, List.setIfInBounds_toArray, List.set_cons_zero, List.set_cons_succ] at hK ⊢
          go_simp
          exact hK.out _ _ ⟨X.heap.size, rfl, ex.size, RB.c1 X false none 0 0 34⟩ (Ext.alc (Ext.refl X) (.cells #[.bool false, .slice none 0 0] 34)) (New.ptr (Nat.le_refl _) (by simp))
        exact Steps.nil
      case done =>
        intro y X ex hf hlt hsep
        have hh0 : ((fun (v : Value) (X : World) => ∃ b A n c, v = .agg #[.bool b, .slice A n c] ∧ ZV X (.agg #[.bool b, .slice A n c]) (r))) (y 0) X := hf.1
        refine Exists.elim hh0 (fun b0 hx0_0 => ?_)
        refine Exists.elim hx0_0 (fun A0 hx0_1 => ?_)
        refine Exists.elim hx0_1 (fun n0 hx0_2 => ?_)
        refine Exists.elim hx0_2 (fun c0 hx0_3 => ?_)
        have h0 := hx0_3.1
        have z0 := hx0_3.2
        clear hh0 hx0_0 hx0_1 hx0_2 hx0_3
        have hh1 : ((fun (v : Value) (X : World) => ∃ b A n c, v = .agg #[.bool b, .slice A n c] ∧ ZV X (.agg #[.bool b, .slice A n c]) (r))) (y 1) X := hf.2.1
        refine Exists.elim hh1 (fun b1 hx1_0 => ?_)
        refine Exists.elim hx1_0 (fun A1 hx1_1 => ?_)
        refine Exists.elim hx1_1 (fun n1 hx1_2 => ?_)
        refine Exists.elim hx1_2 (fun c1 hx1_3 => ?_)
        have h1 := hx1_3.1
        have z1 := hx1_3.2
        clear hh1 hx1_0 hx1_1 hx1_2 hx1_3
        have hh2 : ((fun (v : Value) (X : World) => ∃ b A n c, v = .agg #[.bool b, .slice A n c] ∧ ZV X (.agg #[.bool b, .slice A n c]) (vx))) (y 2) X := hf.2.2.1
        refine Exists.elim hh2 (fun b2 hx2_0 => ?_)
        refine Exists.elim hx2_0 (fun A2 hx2_1 => ?_)
        refine Exists.elim hx2_1 (fun n2 hx2_2 => ?_)
        refine Exists.elim hx2_2 (fun c2 hx2_3 => ?_)
        have h2 := hx2_3.1
        have z2 := hx2_3.2
        clear hh2 hx2_0 hx2_1 hx2_2 hx2_3
        have hh3 : ((fun (v : Value) (X : World) => ∃ b A n c, v = .agg #[.bool b, .slice A n c] ∧ ZV X (.agg #[.bool b, .slice A n c]) (vx))) (y 3) X := hf.2.2.2.1
        refine Exists.elim hh3 (fun b3 hx3_0 => ?_)
        refine Exists.elim hx3_0 (fun A3 hx3_1 => ?_)
        refine Exists.elim hx3_1 (fun n3 hx3_2 => ?_)
        refine Exists.elim hx3_2 (fun c3 hx3_3 => ?_)
        have h3 := hx3_3.1
        have z3 := hx3_3.2
        clear hh3 hx3_0 hx3_1 hx3_2 hx3_3
        have hh4 : ((fun (v : Value) (X : World) => ∃ b A n c, v = .agg #[.bool b, .slice A n c] ∧ ZV X (.agg #[.bool b, .slice A n c]) (r * vx))) (y 4) X := hf.2.2.2.2.1
        refine Exists.elim hh4 (fun b4 hx4_0 => ?_)
        refine Exists.elim hx4_0 (fun A4 hx4_1 => ?_)
        refine Exists.elim hx4_1 (fun n4 hx4_2 => ?_)
        refine Exists.elim hx4_2 (fun c4 hx4_3 => ?_)
        have h4 := hx4_3.1
        have z4 := hx4_3.2
        clear hh4 hx4_0 hx4_1 hx4_2 hx4_3
        have hh5 : ((fun (v : Value) (X : World) => ∃ b A n c, v = .agg #[.bool b, .slice A n c] ∧ ZV X (.agg #[.bool b, .slice A n c]) (t))) (y 5) X := hf.2.2.2.2.2.1
        refine Exists.elim hh5 (fun b5 hx5_0 => ?_)
        refine Exists.elim hx5_0 (fun A5 hx5_1 => ?_)
        refine Exists.elim hx5_1 (fun n5 hx5_2 => ?_)
        refine Exists.elim hx5_2 (fun c5 hx5_3 => ?_)
        have h5 := hx5_3.1
        have z5 := hx5_3.2
        clear hh5 hx5_0 hx5_1 hx5_2 hx5_3
        have hh6 : ((fun (v : Value) (X : World) => ∃ b A n c, v = .agg #[.bool b, .slice A n c] ∧ ZV X (.agg #[.bool b, .slice A n c]) (t))) (y 6) X := hf.2.2.2.2.2.2.1
        refine Exists.elim hh6 (fun b6 hx6_0 => ?_)
        refine Exists.elim hx6_0 (fun A6 hx6_1 => ?_)
        refine Exists.elim hx6_1 (fun n6 hx6_2 => ?_)
        refine Exists.elim hx6_2 (fun c6 hx6_3 => ?_)
        have h6 := hx6_3.1
        have z6 := hx6_3.2
        clear hh6 hx6_0 hx6_1 hx6_2 hx6_3
        have hh7 : ((fun (v : Value) (X : World) => ∃ b A n c, v = .agg #[.bool b, .slice A n c] ∧ ZV X (.agg #[.bool b, .slice A n c]) (vy))) (y 7) X := hf.2.2.2.2.2.2.2.1
        refine Exists.elim hh7 (fun b7 hx7_0 => ?_)
        refine Exists.elim hx7_0 (fun A7 hx7_1 => ?_)
        refine Exists.elim hx7_1 (fun n7 hx7_2 => ?_)
        refine Exists.elim hx7_2 (fun c7 hx7_3 => ?_)
        have h7 := hx7_3.1
        have z7 := hx7_3.2
        clear hh7 hx7_0 hx7_1 hx7_2 hx7_3
        have hh8 : ((fun (v : Value) (X : World) => ∃ b A n c, v = .agg #[.bool b, .slice A n c] ∧ ZV X (.agg #[.bool b, .slice A n c]) (vy))) (y 8) X := hf.2.2.2.2.2.2.2.2.1
        refine Exists.elim hh8 (fun b8 hx8_0 => ?_)
        refine Exists.elim hx8_0 (fun A8 hx8_1 => ?_)
        refine Exists.elim hx8_1 (fun n8 hx8_2 => ?_)
        refine Exists.elim hx8_2 (fun c8 hx8_3 => ?_)
        have h8 := hx8_3.1
        have z8 := hx8_3.2
        clear hh8 hx8_0 hx8_1 hx8_2 hx8_3
        have hh9 : ((fun (v : Value) (X : World) => ∃ b A n c, v = .agg #[.bool b, .slice A n c] ∧ ZV X (.agg #[.bool b, .slice A n c]) (t * vy))) (y 9) X := hf.2.2.2.2.2.2.2.2.2.1
        refine Exists.elim hh9 (fun b9 hx9_0 => ?_)
        refine Exists.elim hx9_0 (fun A9 hx9_1 => ?_)
        refine Exists.elim hx9_1 (fun n9 hx9_2 => ?_)
        refine Exists.elim hx9_2 (fun c9 hx9_3 => ?_)
        have h9 := hx9_3.1
        have z9 := hx9_3.2
        clear hh9 hx9_0 hx9_1 hx9_2 hx9_3
        have hh10 : ((fun (v : Value) (X : World) => ∃ b A n c, v = .agg #[.bool b, .slice A n c] ∧ ZV X (.agg #[.bool b, .slice A n c]) (r * vx + t * vy))) (y 10) X := hf.2.2.2.2.2.2.2.2.2.2.1
        refine Exists.elim hh10 (fun b10 hx10_0 => ?_)
        refine Exists.elim hx10_0 (fun A10 hx10_1 => ?_)
        refine Exists.elim hx10_1 (fun n10 hx10_2 => ?_)
        refine Exists.elim hx10_2 (fun c10 hx10_3 => ?_)
        have h10 := hx10_3.1
        have z10 := hx10_3.2
        clear hh10 hx10_0 hx10_1 hx10_2 hx10_3
        have hh11 : ((fun (v : Value) (X : World) => ∃ g, v = .pointer (some ⟨g, 0, none⟩) ∧ w6.heap.size ≤ g ∧ RB X g)) (y 11) X := hf.2.2.2.2.2.2.2.2.2.2.2.1
        refine Exists.elim hh11 (fun gs hx11_0 => ?_)
        have h11 := hx11_0.1
        have z11 := hx11_0.2.1
        have q11 := hx11_0.2.2
        clear hh11 hx11_0
        clear hf
        clear hsep hlt
        refine Box.mk ?_
        simp only [List.drop_succ_cons, List.drop_zero, fill, Act.put, Nat.reduceAdd, List.setIfInBounds_toArray, List.set_cons_zero, List.set_cons_succ, h0, h1, h2, h3, h4, h5, h6, h7, h8, h9, h10, h11]
        clear h0 h1 h2 h3 h4 h5 h6 h7 h8 h9 h10 h11
        obtain ⟨_, _, _, _, g30, g31, g32, g33⟩ := q11.facts
        obtain ⟨W7, hW7⟩ : ∃ W7, W7 = (X.setCell ⟨gs, 0, none⟩ (.bool b10)).setCell ⟨gs, 1, none⟩ (.slice A10 n10 c10) := ⟨_, rfl⟩
        have e9 : Ext w W7 := by rw [hW7]; exact below_set2 (Ext.below (E6.out.trans ex)) (by have := E6.out.size; omega) _ _
        have PX := Lib.hid (show HZ W7 (w.heap.size) _ by rw [hW7]; exact (PX.out.ext (by omega) ex).far q11 (by omega) _ _)
        have PY := Lib.hid (show HZ W7 (w.heap.size + 1) _ by rw [hW7]; exact (PY.out.ext (by omega) ex).far q11 (by omega) _ _)
        have I5 := Lib.hid (show HZ W7 (g5) _ by rw [hW7]; exact (I5.out.ext (by omega) ex).far q11 (by omega) _ _)
        have I6 := Lib.hid (show HZ W7 (g5 + 1) _ by rw [hW7]; exact (I6.out.ext (by omega) ex).far q11 (by omega) _ _)
        have I7 := Lib.hid (show HZ W7 (g5 + 1 + 1) _ by rw [hW7]; exact (I7.out.ext (by omega) ex).far q11 (by omega) _ _)
        have IS := Lib.hid (show HZ W7 gs _ by rw [hW7]; exact HZ.put q11 z10)
        have E7 : Hid (Ext w W7) := Lib.hid e9
        have HW7 := Lib.hid hW7
        clear hW7 e9 ex q11 z0 z1 z2 z3 z4 z5 z6 z7 z8 z9 z10
        go_wp2_with fail
        refine NoPanic.normal ?_
        go_upto_region 7 with fail
        rw [← HW7.out]
        clear g30 g31 g32 g33 HW7
        rw [BZH.out.sum] at IS
        have ls := IS.out.lt; have l7 := I7.out.lt; have l0 := PY.out.lt
        have hor : (vg - vg).sign = 0 := by rw [Int.sub_self]; rfl
        obtain ⟨sg, hsg⟩ : ∃ sg, sg = vg.sign := ⟨_, rfl⟩
        have hs0 : decide (sg < 0) = false := by rw [hsg]; exact sign_nn BZH.out.g0
        have SG := Lib.hid (show ∀ W a, ZV W a vg → Calls Try.prog 38 #[a] W fun e w' => e = .returned (.int .i64 sg) ∧ Ext W w' from fun W a h => by rw [hsg]; exact signR_any vg a W h)
        have OR := Lib.hid (show ∀ W a b, ZV W a vg → ZV W b vg → Calls Try.prog 37 #[a, b] W fun e w' => e = .returned (.int .i64 0) ∧ Ext W w' from fun W a b h k => by have := orderRZ_any vg vg a b W h k (by omega) (by omega); rwa [hor] at this)
        clear hor hsg ls1 ls2
        refine wp_region_noPanic ?_
        refine wp_pool 11 [some 66, some 67, some 68, some 69, some 70, some 71, some 72, some 73, some 74, some 75, some 76] [] [] [(fun (v : Value) (X : World) => ∃ b A n c, v = .agg #[.bool b, .slice A n c] ∧ ZV X (.agg #[.bool b, .slice A n c]) (vg)), (fun (v : Value) (X : World) => ∃ b A n c, v = .agg #[.bool b, .slice A n c] ∧ ZV X (.agg #[.bool b, .slice A n c]) (vg)), (fun (v : Value) (X : World) => ∃ b A n c, v = .agg #[.bool b, .slice A n c] ∧ ZV X (.agg #[.bool b, .slice A n c]) (vg)), (fun (v : Value) (_ : World) => v = .int .i64 (0)), (fun (v : Value) (_ : World) => v = .bool false), (fun (v : Value) (_ : World) => v = .bool false), (fun (v : Value) (X : World) => ∃ b A n c, v = .agg #[.bool b, .slice A n c] ∧ ZV X (.agg #[.bool b, .slice A n c]) (vg)), (fun (v : Value) (X : World) => ∃ b A n c, v = .agg #[.bool b, .slice A n c] ∧ ZV X (.agg #[.bool b, .slice A n c]) (vg)), (fun (v : Value) (_ : World) => v = .int .i64 (sg)), (fun (v : Value) (_ : World) => v = .bool false), (fun (v : Value) (_ : World) => v = .bool false)] [noF, noF, noF, noF, noF, noF, noF, noF, noF, noF, noF] (by kernel_rfl) (by kernel_rfl) (by kernel_rfl) (by kernel_rfl) (by kernel_rfl) (by kernel_rfl) (by kernel_rfl) (by kernel_rfl) (fun _ _ _ _ h => h) ⟨(fun _ _ _ e ⟨b, A, n, c, h1, h2⟩ => ⟨b, A, n, c, h1, h2.ext e⟩), (fun _ _ _ e ⟨b, A, n, c, h1, h2⟩ => ⟨b, A, n, c, h1, h2.ext e⟩), (fun _ _ _ e ⟨b, A, n, c, h1, h2⟩ => ⟨b, A, n, c, h1, h2.ext e⟩), Stays.pure _, Stays.pure _, Stays.pure _, (fun _ _ _ e ⟨b, A, n, c, h1, h2⟩ => ⟨b, A, n, c, h1, h2.ext e⟩), (fun _ _ _ e ⟨b, A, n, c, h1, h2⟩ => ⟨b, A, n, c, h1, h2.ext e⟩), Stays.pure _, Stays.pure _, Stays.pure _, True.intro⟩ ?steps ?done
        case steps =>
          simp only [List.take_succ_cons, List.take_zero]
          refine Steps.cons (fun (v : Value) (X : World) => ∃ b A n c, v = .agg #[.bool b, .slice A n c] ∧ ZV X (.agg #[.bool b, .slice A n c]) (vg)) [] rfl (by kernel_rfl) rfl (by kernel_rfl) (fun y X ex0 hf K hK => ?_) ?_
          · clear hf
            have ex := (Ext.drw (Ext.refl _)).trans ex0
            refine Box.mk ?_
            simp only [fill, Act.put, Nat.reduceAdd, List.setIfInBounds_toArray, List.set_cons_zero, List.set_cons_succ] at hK ⊢
            obtain ⟨bl, Al, nl, cl, k0, k1, kz⟩ := (IS.out.ext (by omega) ex)
            go_simp
            exact hK.out _ _ ⟨_, _, _, _, rfl, kz⟩ (Ext.refl _) (fun b hb => by cases hb)
          refine Steps.cons (fun (v : Value) (X : World) => ∃ b A n c, v = .agg #[.bool b, .slice A n c] ∧ ZV X (.agg #[.bool b, .slice A n c]) (vg)) [] rfl (by kernel_rfl) rfl (by kernel_rfl) (fun y X ex0 hf K hK => ?_) ?_
          · clear hf
            have ex := (Ext.drw (Ext.refl _)).trans ex0
            refine Box.mk ?_
            simp only [fill, Act.put, Nat.reduceAdd, List.setIfInBounds_toArray, List.set_cons_zero, List.set_cons_succ] at hK ⊢
            obtain ⟨bl, Al, nl, cl, k0, k1, kz⟩ := (I5.out.ext (by omega) ex)
            go_simp
            exact hK.out _ _ ⟨_, _, _, _, rfl, kz⟩ (Ext.refl _) (fun b hb => by cases hb)
          refine Steps.cons (fun (v : Value) (X : World) => ∃ b A n c, v = .agg #[.bool b, .slice A n c] ∧ ZV X (.agg #[.bool b, .slice A n c]) (vg)) [1] rfl (by kernel_rfl) rfl (by kernel_rfl) (fun y X ex0 hf K hK => ?_) ?_
          · have hh1 : ((fun (v : Value) (X : World) => ∃ b A n c, v = .agg #[.bool b, .slice A n c] ∧ ZV X (.agg #[.bool b, .slice A n c]) (vg))) (y 1) X := hf.1
            refine Exists.elim hh1 (fun b1 hx1_0 => ?_)
            refine Exists.elim hx1_0 (fun A1 hx1_1 => ?_)
            refine Exists.elim hx1_1 (fun n1 hx1_2 => ?_)
            refine Exists.elim hx1_2 (fun c1 hx1_3 => ?_)
            have h1 := hx1_3.1
            have z1 := hx1_3.2
            clear hh1 hx1_0 hx1_1 hx1_2 hx1_3
            clear hf
            have ex := (Ext.drw (Ext.refl _)).trans ex0
            refine Box.mk ?_
            simp only [fill, Act.put, Nat.reduceAdd, List.setIfInBounds_toArray, List.set_cons_zero, List.set_cons_succ, h1] at hK ⊢
            go_simp
            refine (asAgg ((of_any _ _ _ _ _).mono fun e w' ⟨he, hb⟩ => ⟨_, he, (z1).ext hb, hb⟩)).mono ?_
            rintro e V ⟨b9, A9, n9, c9, rfl, hz, hb⟩
            try go_wp2_with fail
            exact hK.out _ _ ⟨_, _, _, _, rfl, hz⟩ hb (fun b hb => by cases hb)
          refine Steps.cons (fun (v : Value) (_ : World) => v = .int .i64 (0)) [0, 2] rfl (by kernel_rfl) rfl (by kernel_rfl) (fun y X ex0 hf K hK => ?_) ?_
          · have hh0 : ((fun (v : Value) (X : World) => ∃ b A n c, v = .agg #[.bool b, .slice A n c] ∧ ZV X (.agg #[.bool b, .slice A n c]) (vg))) (y 0) X := hf.1
            refine Exists.elim hh0 (fun b0 hx0_0 => ?_)
            refine Exists.elim hx0_0 (fun A0 hx0_1 => ?_)
            refine Exists.elim hx0_1 (fun n0 hx0_2 => ?_)
            refine Exists.elim hx0_2 (fun c0 hx0_3 => ?_)
            have h0 := hx0_3.1
            have z0 := hx0_3.2
            clear hh0 hx0_0 hx0_1 hx0_2 hx0_3
            have hh2 : ((fun (v : Value) (X : World) => ∃ b A n c, v = .agg #[.bool b, .slice A n c] ∧ ZV X (.agg #[.bool b, .slice A n c]) (vg))) (y 2) X := hf.2.1
            refine Exists.elim hh2 (fun b2 hx2_0 => ?_)
            refine Exists.elim hx2_0 (fun A2 hx2_1 => ?_)
            refine Exists.elim hx2_1 (fun n2 hx2_2 => ?_)
            refine Exists.elim hx2_2 (fun c2 hx2_3 => ?_)
            have h2 := hx2_3.1
            have z2 := hx2_3.2
            clear hh2 hx2_0 hx2_1 hx2_2 hx2_3
            clear hf
            have ex := (Ext.drw (Ext.refl _)).trans ex0
            refine Box.mk ?_
            simp only [fill, Act.put, Nat.reduceAdd, List.setIfInBounds_toArray, List.set_cons_zero, List.set_cons_succ, h0, h2] at hK ⊢
            go_simp
            refine (OR.out _ _ _ z0 z2).mono ?_
            rintro e V ⟨rfl, hb⟩
            try go_wp2_with fail
            exact hK.out _ _ rfl hb (fun b hb => by cases hb)
          refine Steps.cons (fun (v : Value) (_ : World) => v = .bool false) [3] rfl (by kernel_rfl) rfl (by kernel_rfl) (fun y X ex0 hf K hK => ?_) ?_
          · have h3 : ((fun (v : Value) (_ : World) => v = .int .i64 (0))) (y 3) X := hf.1
            clear hf
            have ex := (Ext.drw (Ext.refl _)).trans ex0
            refine Box.mk ?_
            simp only [fill, Act.put, Nat.reduceAdd, List.setIfInBounds_toArray, List.set_cons_zero, List.set_cons_succ, h3] at hK ⊢
            go_simp
            exact hK.out _ _ rfl (Ext.refl _) (fun b hb => by cases hb)
          refine Steps.cons (fun (v : Value) (_ : World) => v = .bool false) [4, 3] rfl (by kernel_rfl) rfl (by kernel_rfl) (fun y X ex0 hf K hK => ?_) ?_
          · have h4 : ((fun (v : Value) (_ : World) => v = .bool false)) (y 4) X := hf.1
            have h3 : ((fun (v : Value) (_ : World) => v = .int .i64 (0))) (y 3) X := hf.2.1
            clear hf
            have ex := (Ext.drw (Ext.refl _)).trans ex0
            refine Box.mk ?_
            simp only [fill, Act.put, Nat.reduceAdd, List.setIfInBounds_toArray, List.set_cons_zero, List.set_cons_succ, h4, h3] at hK ⊢
            go_simp
            exact hK.out _ _ rfl (Ext.refl _) (fun b hb => by cases hb)
          refine Steps.cons (fun (v : Value) (X : World) => ∃ b A n c, v = .agg #[.bool b, .slice A n c] ∧ ZV X (.agg #[.bool b, .slice A n c]) (vg)) [5] rfl (by kernel_rfl) rfl (by kernel_rfl) (fun y X ex0 hf K hK => ?_) ?_
          · have h5 : ((fun (v : Value) (_ : World) => v = .bool false)) (y 5) X := hf.1
            clear hf
            have ex := (Ext.drw (Ext.refl _)).trans ex0
            refine Box.mk ?_
            simp only [fill, Act.put, Nat.reduceAdd, List.setIfInBounds_toArray, List.set_cons_zero, List.set_cons_succ, h5] at hK ⊢
            obtain ⟨bl, Al, nl, cl, k0, k1, kz⟩ := (I5.out.ext (by omega) ex)
            go_simp
            exact hK.out _ _ ⟨_, _, _, _, rfl, kz⟩ (Ext.refl _) (fun b hb => by cases hb)
          refine Steps.cons (fun (v : Value) (X : World) => ∃ b A n c, v = .agg #[.bool b, .slice A n c] ∧ ZV X (.agg #[.bool b, .slice A n c]) (vg)) [6, 5] rfl (by kernel_rfl) rfl (by kernel_rfl) (fun y X ex0 hf K hK => ?_) ?_
          · have hh6 : ((fun (v : Value) (X : World) => ∃ b A n c, v = .agg #[.bool b, .slice A n c] ∧ ZV X (.agg #[.bool b, .slice A n c]) (vg))) (y 6) X := hf.1
            refine Exists.elim hh6 (fun b6 hx6_0 => ?_)
            refine Exists.elim hx6_0 (fun A6 hx6_1 => ?_)
            refine Exists.elim hx6_1 (fun n6 hx6_2 => ?_)
            refine Exists.elim hx6_2 (fun c6 hx6_3 => ?_)
            have h6 := hx6_3.1
            have z6 := hx6_3.2
            clear hh6 hx6_0 hx6_1 hx6_2 hx6_3
            have h5 : ((fun (v : Value) (_ : World) => v = .bool false)) (y 5) X := hf.2.1
            clear hf
            have ex := (Ext.drw (Ext.refl _)).trans ex0
            refine Box.mk ?_
            simp only [fill, Act.put, Nat.reduceAdd, List.setIfInBounds_toArray, List.set_cons_zero, List.set_cons_succ, h6, h5] at hK ⊢
            go_simp
            refine (asAgg ((of_any _ _ _ _ _).mono fun e w' ⟨he, hb⟩ => ⟨_, he, (z6).ext hb, hb⟩)).mono ?_
            rintro e V ⟨b9, A9, n9, c9, rfl, hz, hb⟩
            try go_wp2_with fail
            exact hK.out _ _ ⟨_, _, _, _, rfl, hz⟩ hb (fun b hb => by cases hb)
          refine Steps.cons (fun (v : Value) (_ : World) => v = .int .i64 (sg)) [7, 5] rfl (by kernel_rfl) rfl (by kernel_rfl) (fun y X ex0 hf K hK => ?_) ?_
          · have hh7 : ((fun (v : Value) (X : World) => ∃ b A n c, v = .agg #[.bool b, .slice A n c] ∧ ZV X (.agg #[.bool b, .slice A n c]) (vg))) (y 7) X := hf.1
            refine Exists.elim hh7 (fun b7 hx7_0 => ?_)
            refine Exists.elim hx7_0 (fun A7 hx7_1 => ?_)
            refine Exists.elim hx7_1 (fun n7 hx7_2 => ?_)
            refine Exists.elim hx7_2 (fun c7 hx7_3 => ?_)
            have h7 := hx7_3.1
            have z7 := hx7_3.2
            clear hh7 hx7_0 hx7_1 hx7_2 hx7_3
            have h5 : ((fun (v : Value) (_ : World) => v = .bool false)) (y 5) X := hf.2.1
            clear hf
            have ex := (Ext.drw (Ext.refl _)).trans ex0
            refine Box.mk ?_
            simp only [fill, Act.put, Nat.reduceAdd, List.setIfInBounds_toArray, List.set_cons_zero, List.set_cons_succ, h7, h5] at hK ⊢
            go_simp
            refine (SG.out _ _ z7).mono ?_
            rintro e V ⟨rfl, hb⟩
            try go_wp2_with fail
            exact hK.out _ _ rfl hb (fun b hb => by cases hb)
          refine Steps.cons (fun (v : Value) (_ : World) => v = .bool false) [8, 5] rfl (by kernel_rfl) rfl (by kernel_rfl) (fun y X ex0 hf K hK => ?_) ?_
          · have h8 : ((fun (v : Value) (_ : World) => v = .int .i64 (sg))) (y 8) X := hf.1
            have h5 : ((fun (v : Value) (_ : World) => v = .bool false)) (y 5) X := hf.2.1
            clear hf
            have ex := (Ext.drw (Ext.refl _)).trans ex0
            refine Box.mk ?_
            simp only [fill, Act.put, Nat.reduceAdd, List.setIfInBounds_toArray, List.set_cons_zero, List.set_cons_succ, h8, h5] at hK ⊢
            go_simp
            try rw [hs0]
            exact hK.out _ _ rfl (Ext.refl _) (fun b hb => by cases hb)
          refine Steps.cons (fun (v : Value) (_ : World) => v = .bool false) [5, 9] rfl (by kernel_rfl) rfl (by kernel_rfl) (fun y X ex0 hf K hK => ?_) ?_
          · have h5 : ((fun (v : Value) (_ : World) => v = .bool false)) (y 5) X := hf.1
            have h9 : ((fun (v : Value) (_ : World) => v = .bool false)) (y 9) X := hf.2.1
            clear hf
            have ex := (Ext.drw (Ext.refl _)).trans ex0
            refine Box.mk ?_
            simp only [fill, Act.put, Nat.reduceAdd, List.setIfInBounds_toArray, List.set_cons_zero, List.set_cons_succ, h5, h9] at hK ⊢
            go_simp
            exact hK.out _ _ rfl (Ext.refl _) (fun b hb => by cases hb)
          exact Steps.nil
        case done =>
          intro y X ex hf hlt hsep
          have hh0 : ((fun (v : Value) (X : World) => ∃ b A n c, v = .agg #[.bool b, .slice A n c] ∧ ZV X (.agg #[.bool b, .slice A n c]) (vg))) (y 0) X := hf.1
          refine Exists.elim hh0 (fun b0 hx0_0 => ?_)
          refine Exists.elim hx0_0 (fun A0 hx0_1 => ?_)
          refine Exists.elim hx0_1 (fun n0 hx0_2 => ?_)
          refine Exists.elim hx0_2 (fun c0 hx0_3 => ?_)
          have h0 := hx0_3.1
          have z0 := hx0_3.2
          clear hh0 hx0_0 hx0_1 hx0_2 hx0_3
          have hh1 : ((fun (v : Value) (X : World) => ∃ b A n c, v = .agg #[.bool b, .slice A n c] ∧ ZV X (.agg #[.bool b, .slice A n c]) (vg))) (y 1) X := hf.2.1
          refine Exists.elim hh1 (fun b1 hx1_0 => ?_)
          refine Exists.elim hx1_0 (fun A1 hx1_1 => ?_)
          refine Exists.elim hx1_1 (fun n1 hx1_2 => ?_)
          refine Exists.elim hx1_2 (fun c1 hx1_3 => ?_)
          have h1 := hx1_3.1
          have z1 := hx1_3.2
          clear hh1 hx1_0 hx1_1 hx1_2 hx1_3
          have hh2 : ((fun (v : Value) (X : World) => ∃ b A n c, v = .agg #[.bool b, .slice A n c] ∧ ZV X (.agg #[.bool b, .slice A n c]) (vg))) (y 2) X := hf.2.2.1
          refine Exists.elim hh2 (fun b2 hx2_0 => ?_)
          refine Exists.elim hx2_0 (fun A2 hx2_1 => ?_)
          refine Exists.elim hx2_1 (fun n2 hx2_2 => ?_)
          refine Exists.elim hx2_2 (fun c2 hx2_3 => ?_)
          have h2 := hx2_3.1
          have z2 := hx2_3.2
          clear hh2 hx2_0 hx2_1 hx2_2 hx2_3
          have h3 : ((fun (v : Value) (_ : World) => v = .int .i64 (0))) (y 3) X := hf.2.2.2.1
          have h4 : ((fun (v : Value) (_ : World) => v = .bool false)) (y 4) X := hf.2.2.2.2.1
          have h5 : ((fun (v : Value) (_ : World) => v = .bool false)) (y 5) X := hf.2.2.2.2.2.1
          have hh6 : ((fun (v : Value) (X : World) => ∃ b A n c, v = .agg #[.bool b, .slice A n c] ∧ ZV X (.agg #[.bool b, .slice A n c]) (vg))) (y 6) X := hf.2.2.2.2.2.2.1
          refine Exists.elim hh6 (fun b6 hx6_0 => ?_)
          refine Exists.elim hx6_0 (fun A6 hx6_1 => ?_)
          refine Exists.elim hx6_1 (fun n6 hx6_2 => ?_)
          refine Exists.elim hx6_2 (fun c6 hx6_3 => ?_)
          have h6 := hx6_3.1
          have z6 := hx6_3.2
          clear hh6 hx6_0 hx6_1 hx6_2 hx6_3
          have hh7 : ((fun (v : Value) (X : World) => ∃ b A n c, v = .agg #[.bool b, .slice A n c] ∧ ZV X (.agg #[.bool b, .slice A n c]) (vg))) (y 7) X := hf.2.2.2.2.2.2.2.1
          refine Exists.elim hh7 (fun b7 hx7_0 => ?_)
          refine Exists.elim hx7_0 (fun A7 hx7_1 => ?_)
          refine Exists.elim hx7_1 (fun n7 hx7_2 => ?_)
          refine Exists.elim hx7_2 (fun c7 hx7_3 => ?_)
          have h7 := hx7_3.1
          have z7 := hx7_3.2
          clear hh7 hx7_0 hx7_1 hx7_2 hx7_3
          have h8 : ((fun (v : Value) (_ : World) => v = .int .i64 (sg))) (y 8) X := hf.2.2.2.2.2.2.2.2.1
          have h9 : ((fun (v : Value) (_ : World) => v = .bool false)) (y 9) X := hf.2.2.2.2.2.2.2.2.2.1
          have h10 : ((fun (v : Value) (_ : World) => v = .bool false)) (y 10) X := hf.2.2.2.2.2.2.2.2.2.2.1
          clear hf
          clear hsep hlt
          refine Box.mk ?_
          simp only [List.drop_succ_cons, List.drop_zero, fill, Act.put, Nat.reduceAdd, List.setIfInBounds_toArray, List.set_cons_zero, List.set_cons_succ, h0, h1, h2, h3, h4, h5, h6, h7, h8, h9, h10]
          clear h0 h1 h2 h3 h4 h5 h6 h7 h8 h9 h10
          have PX := Lib.hid (PX.out.ext (by omega) ex)
          have PY := Lib.hid (PY.out.ext (by omega) ex)
          have I5 := Lib.hid (I5.out.ext (by omega) ex)
          have I6 := Lib.hid (I6.out.ext (by omega) ex)
          have E8 := Lib.hid (E7.out.trans ex)
          have l5 := I6.out.lt; have l0 := PY.out.lt
          clear ex z0 z1 z2 z6 z7 I7 IS E7 OR SG hs0
          go_wp2_with fail
          refine NoPanic.normal ?_
          go_upto_region 9 with fail
          obtain ⟨b5, A5, n5, c5, k0, k1, kz⟩ := I5.out
          have KZ := Lib.hid kz; clear kz
          go_wp2_with fail
          refine (of_any _ _ _ _ _).mono ?_
          rintro e w8 ⟨rfl, x8⟩
          replace x8 : Ext _ w8 := x8
          have Z0 := Lib.hid (zeroR_any vg _ w8 (KZ.out.ext x8))
          have X8 := Lib.hid x8
          clear x8 k0 k1 KZ
          go_wp2_with fail
          refine Z0.out.mono ?_
          rintro e w9 ⟨rfl, x9⟩
          have x9 := X8.out.trans x9
          have PX := Lib.hid (PX.out.ext (by omega) x9)
          have PY := Lib.hid (PY.out.ext (by omega) x9)
          have I5 := Lib.hid (I5.out.ext (by omega) x9)
          have I6 := Lib.hid (I6.out.ext (by omega) x9)
          have E9 := Lib.hid (E8.out.trans x9)
          have l5 := I6.out.lt; have l0 := PY.out.lt
          clear x9 X8 Z0 E8
          by_cases hg : vg = 0
          · rw [show decide (vg = 0) = true by simp [hg]]
            obtain ⟨hr0, ht0⟩ := BZH.out.gz hg
            have PX := PX.out; rw [hr0] at PX
            have PY := PY.out; rw [ht0] at PY
            obtain ⟨b5, A5, n5, c5, k0, k1, kz⟩ := PX
            have KZ := Lib.hid kz; have PYH := Lib.hid PY; clear kz PY
            go_upto_region 10 with fail
            go_wp2_with fail
            refine (of_any _ _ _ _ _).mono ?_
            rintro e w10 ⟨rfl, x10⟩
            replace x10 : Ext w9 w10 := x10
            have Z0 := Lib.hid (zeroR_zero _ w10 (KZ.out.ext x10)); have X10 := Lib.hid x10
            clear x10 k0 k1 KZ
            go_wp2_with fail
            refine Z0.out.mono ?_
            rintro e w11 ⟨rfl, x11⟩
            have X11 := Lib.hid (show Ext w9 w11 from X10.out.trans x11)
            obtain ⟨b5, A5, n5, c5, k0, k1, kz⟩ := PYH.out.ext (by omega) X11.out
            have KZ := Lib.hid kz; clear kz x11 Z0 X10
            go_wp2_with fail
            refine (of_any _ _ _ _ _).mono ?_
            rintro e w12 ⟨rfl, x12⟩
            replace x12 : Ext w11 w12 := x12
            have Z0 := Lib.hid (zeroR_zero _ w12 (KZ.out.ext x12)); have X12 := Lib.hid (X11.out.trans x12)
            clear x12 k0 k1 KZ
            go_wp2_with fail
            refine Z0.out.mono ?_
            rintro e w13 ⟨rfl, x13⟩
            have X13 := Lib.hid (show Ext w9 w13 from X12.out.trans x13)
            clear x13 Z0
            go_wp2_with fail
            refine (awake_any _).mono ?_
            rintro e wz ⟨rfl, hbz⟩
            replace hbz : Ext _ wz := hbz
            have FX := Lib.hid ((E9.out.trans X13.out).trans hbz)
            clear hbz
            go_wp2
            go_ret
            exact ⟨rfl, FX.out⟩
          · rw [show decide (vg = 0) = false by simp [hg]]
            have hdr := (BZH.out.gd hg).1; have hdt := (BZH.out.gd hg).2
            go_upto_region 11 with fail
            obtain ⟨b1, A1, n1, c1, k0, k1, kz⟩ := PX.out
            obtain ⟨b2, A2, n2, c2, j0, j1, jz⟩ := PY.out
            have KZ := Lib.hid kz; have JZ := Lib.hid jz; clear kz jz
            have SL := Lib.hid (heap_alloc_new w9 (Obj.cells #[.bool b1, .slice A1 n1 c1, .bool b2, .slice A2 n2 c2] 24))
            obtain ⟨WL, hWL⟩ : ∃ WL, WL = w9.alloc (Obj.cells #[.bool b1, .slice A1 n1 c1, .bool b2, .slice A2 n2 c2] 24) := ⟨_, rfl⟩
            have eL : Ext w9 WL := by rw [hWL]; exact (Ext.refl _).alc _
            have sl : w9.heap.size < WL.heap.size := by rw [hWL]; simp
            rw [← hWL] at SL
            have HWL := Lib.hid hWL
            clear hWL
            go_wp2_with fail
            rw [← HWL.out]
            clear HWL
            obtain ⟨gl, hgl⟩ : ∃ k, k = w9.heap.size := ⟨_, rfl⟩
            rw [← hgl] at SL sl ⊢
            have PY := Lib.hid (PY.out.ext (by omega) eL); have I5 := Lib.hid (I5.out.ext (by omega) eL); have I6 := Lib.hid (I6.out.ext (by omega) eL); have E10 := Lib.hid (E9.out.trans eL)
            have KZ := Lib.hid (KZ.out.ext eL); have JZ := Lib.hid (JZ.out.ext eL)
            have l5 := I6.out.lt; have l0 := PY.out.lt
            have HD := Lib.hid (And.intro hdr hdt)
            clear eL hgl E9 k0 k1 j0 j1 PX hdr hdt
            go_loopw [95] (fun i wr => ∃ k : Nat, i = .int .i64 k ∧ k ≤ 2 ∧ Hid (Ext WL wr)) (fun i _ => 2 - (intOf i).toNat)
            case atStart => exact ⟨0, rfl, by omega, Lib.hid (Ext.refl _)⟩
            case round =>
              obtain ⟨k, rfl, hk, hgr⟩ := hrel
              by_cases hlt : k < 2
              · obtain ⟨bb, AA, nn, cc, zz, f0, f1, fz, fd, fl⟩ : ∃ bb AA nn cc zz, wr.cell? ⟨gl, k * 2, none⟩ = some (.bool bb) ∧ wr.cell? ⟨gl, k * 2 + 1, none⟩ = some (.slice AA nn cc) ∧ ZV wr (.agg #[.bool bb, .slice AA nn cc]) zz ∧ vg ∣ zz ∧ (dig zz.natAbs).length ≤ 256 := by
                  rcases (by omega : k = 0 ∨ k = 1) with rfl | rfl
                  · exact ⟨b1, A1, n1, c1, r, keepAt hgr.out sl (by rw [cell_of_row WL gl _ _ 24 (0, 0) SL.out]; rfl), keepAt hgr.out sl (by rw [cell_of_row WL gl _ _ 24 (0, 0) SL.out]; rfl), KZ.out.ext hgr.out, HD.out.1, LL.out.1⟩
                  · exact ⟨b2, A2, n2, c2, t, keepAt hgr.out sl (by rw [cell_of_row WL gl _ _ 24 (0, 0) SL.out]; rfl), keepAt hgr.out sl (by rw [cell_of_row WL gl _ _ 24 (0, 0) SL.out]; rfl), JZ.out.ext hgr.out, HD.out.2, LL.out.2⟩
                have FZ := Lib.hid fz; have FD := Lib.hid (And.intro fd fl)
                have hz0 : (zz % vg) = 0 := Int.emod_eq_zero_of_dvd fd
                clear fz fd fl
                have hd2 : decide ((k : Int) < 2) = true := by simp; omega
                go_upto_region 14 with fail
                try rw [hd2]
                clear hd2
                obtain ⟨WB, hWB⟩ : ∃ WB, WB = wr.alloc (Obj.cells #[.bool bb, .slice AA nn cc] 24) := ⟨_, rfl⟩
                have eB : Ext wr WB := by rw [hWB]; exact (Ext.refl _).alc _
                have i11 : HZ WB wr.heap.size zz := by rw [hWB]; exact HZ.lit wr bb AA nn cc 24 FZ.out
                rw [← hWB]
                obtain ⟨gt, hgt⟩ : ∃ k, k = wr.heap.size := ⟨_, rfl⟩
                rw [← hgt] at i11 ⊢
                have I11 := Lib.hid i11; have HE := Lib.hid (hgr.out.trans eB)
                have l11 := i11.lt
                have i5 := I5.out.ext (by omega) HE.out
                have I5B := Lib.hid i5
                have l55 := i5.lt
                have lz2 := FD.out.2; have lg2 := BZH.out.lg
                clear i11 i5 eB hWB hgt f0 f1 FZ
                refine wp_region_noPanic ?_
                refine wp_pool 10 [some 100, some 101, some 102, some 103, some 104, some 99, some 105, some 106, some 12, some 13] [(7, 5)] [8, 9] [(fun (v : Value) (X : World) => ∃ b A n c, v = .agg #[.bool b, .slice A n c] ∧ ZV X (.agg #[.bool b, .slice A n c]) (zz)), (fun (v : Value) (X : World) => ∃ b A n c, v = .agg #[.bool b, .slice A n c] ∧ ZV X (.agg #[.bool b, .slice A n c]) (zz)), (fun (v : Value) (X : World) => ∃ b A n c, v = .agg #[.bool b, .slice A n c] ∧ ZV X (.agg #[.bool b, .slice A n c]) (vg)), (fun (v : Value) (X : World) => ∃ b A n c, v = .agg #[.bool b, .slice A n c] ∧ ZV X (.agg #[.bool b, .slice A n c]) (vg)), (fun (v : Value) (X : World) => ∃ b A n c b' A' n' c', v = .tuple #[.agg #[.bool b, .slice A n c], .agg #[.bool b', .slice A' n' c']] ∧ ZV X (.agg #[.bool b, .slice A n c]) (zz / vg) ∧ ZV X (.agg #[.bool b', .slice A' n' c']) (zz % vg)), (fun (v : Value) (X : World) => ∃ b A n c b' A' n' c', v = .tuple #[.agg #[.bool b, .slice A n c], .agg #[.bool b', .slice A' n' c']] ∧ ZV X (.agg #[.bool b, .slice A n c]) (zz / vg) ∧ ZV X (.agg #[.bool b', .slice A' n' c']) (zz % vg)), (fun (v : Value) (X : World) => ∃ b A n c, v = .agg #[.bool b, .slice A n c] ∧ ZV X (.agg #[.bool b, .slice A n c]) (zz / vg)), (fun (v : Value) (X : World) => ∃ b A n c, v = .agg #[.bool b, .slice A n c] ∧ ZV X (.agg #[.bool b, .slice A n c]) (zz % vg)), (fun (v : Value) (X : World) => ∃ g, v = .pointer (some ⟨g, 0, none⟩) ∧ WB.heap.size ≤ g ∧ RB X g), (fun (v : Value) (X : World) => ∃ g, v = .pointer (some ⟨g, 0, none⟩) ∧ WB.heap.size ≤ g ∧ RB X g)] [noF, noF, noF, noF, noF, noF, noF, noF, ptrF, ptrF] (by kernel_rfl) (by kernel_rfl) (by kernel_rfl) (by kernel_rfl) (by kernel_rfl) (by kernel_rfl) (by kernel_rfl) (by kernel_rfl) (fun _ _ _ _ h => h) ⟨(fun _ _ _ e ⟨b, A, n, c, h1, h2⟩ => ⟨b, A, n, c, h1, h2.ext e⟩), (fun _ _ _ e ⟨b, A, n, c, h1, h2⟩ => ⟨b, A, n, c, h1, h2.ext e⟩), (fun _ _ _ e ⟨b, A, n, c, h1, h2⟩ => ⟨b, A, n, c, h1, h2.ext e⟩), (fun _ _ _ e ⟨b, A, n, c, h1, h2⟩ => ⟨b, A, n, c, h1, h2.ext e⟩), (fun _ _ _ e ⟨b, A, n, c, b', A', n', c', h1, h2, h3⟩ => ⟨b, A, n, c, b', A', n', c', h1, h2.ext e, h3.ext e⟩), (fun _ _ _ e ⟨b, A, n, c, b', A', n', c', h1, h2, h3⟩ => ⟨b, A, n, c, b', A', n', c', h1, h2.ext e, h3.ext e⟩), (fun _ _ _ e ⟨b, A, n, c, h1, h2⟩ => ⟨b, A, n, c, h1, h2.ext e⟩), (fun _ _ _ e ⟨b, A, n, c, h1, h2⟩ => ⟨b, A, n, c, h1, h2.ext e⟩), (fun _ _ _ e ⟨g, h1, h2, h3⟩ => ⟨g, h1, h2, h3.ext e⟩), (fun _ _ _ e ⟨g, h1, h2, h3⟩ => ⟨g, h1, h2, h3.ext e⟩), True.intro⟩ ?steps ?done
                case steps =>
                  simp only [List.take_succ_cons, List.take_zero]
                  refine Steps.cons (fun (v : Value) (X : World) => ∃ b A n c, v = .agg #[.bool b, .slice A n c] ∧ ZV X (.agg #[.bool b, .slice A n c]) (zz)) [] rfl (by kernel_rfl) rfl (by kernel_rfl) (fun y X ex0 hf K hK => ?_) ?_
                  · clear hf
                    have ex := (Ext.drw (Ext.refl _)).trans ex0
                    refine Box.mk ?_
                    simp only [fill, Act.put, Nat.reduceAdd, List.setIfInBounds_toArray, List.set_cons_zero, List.set_cons_succ] at hK ⊢
                    obtain ⟨bl, Al, nl, cl, k0, k1, kz⟩ := (I11.out.ext (by omega) ex)
                    go_simp
                    exact hK.out _ _ ⟨_, _, _, _, rfl, kz⟩ (Ext.refl _) (fun b hb => by cases hb)
                  refine Steps.cons (fun (v : Value) (X : World) => ∃ b A n c, v = .agg #[.bool b, .slice A n c] ∧ ZV X (.agg #[.bool b, .slice A n c]) (zz)) [0] rfl (by kernel_rfl) rfl (by kernel_rfl) (fun y X ex0 hf K hK => ?_) ?_
                  · have hh0 : ((fun (v : Value) (X : World) => ∃ b A n c, v = .agg #[.bool b, .slice A n c] ∧ ZV X (.agg #[.bool b, .slice A n c]) (zz))) (y 0) X := hf.1
                    refine Exists.elim hh0 (fun b0 hx0_0 => ?_)
                    refine Exists.elim hx0_0 (fun A0 hx0_1 => ?_)
                    refine Exists.elim hx0_1 (fun n0 hx0_2 => ?_)
                    refine Exists.elim hx0_2 (fun c0 hx0_3 => ?_)
                    have h0 := hx0_3.1
                    have z0 := hx0_3.2
                    clear hh0 hx0_0 hx0_1 hx0_2 hx0_3
                    clear hf
                    have ex := (Ext.drw (Ext.refl _)).trans ex0
                    refine Box.mk ?_
                    simp only [fill, Act.put, Nat.reduceAdd, List.setIfInBounds_toArray, List.set_cons_zero, List.set_cons_succ, h0] at hK ⊢
                    go_simp
                    refine (asAgg ((of_any _ _ _ _ _).mono fun e w' ⟨he, hb⟩ => ⟨_, he, (z0).ext hb, hb⟩)).mono ?_
                    rintro e V ⟨b9, A9, n9, c9, rfl, hz, hb⟩
                    try go_wp2_with fail
                    exact hK.out _ _ ⟨_, _, _, _, rfl, hz⟩ hb (fun b hb => by cases hb)
                  refine Steps.cons (fun (v : Value) (X : World) => ∃ b A n c, v = .agg #[.bool b, .slice A n c] ∧ ZV X (.agg #[.bool b, .slice A n c]) (vg)) [] rfl (by kernel_rfl) rfl (by kernel_rfl) (fun y X ex0 hf K hK => ?_) ?_
                  · clear hf
                    have ex := (Ext.drw (Ext.refl _)).trans ex0
                    refine Box.mk ?_
                    simp only [fill, Act.put, Nat.reduceAdd, List.setIfInBounds_toArray, List.set_cons_zero, List.set_cons_succ] at hK ⊢
                    obtain ⟨bl, Al, nl, cl, k0, k1, kz⟩ := (I5B.out.ext (by omega) ex)
                    go_simp
                    exact hK.out _ _ ⟨_, _, _, _, rfl, kz⟩ (Ext.refl _) (fun b hb => by cases hb)
                  refine Steps.cons (fun (v : Value) (X : World) => ∃ b A n c, v = .agg #[.bool b, .slice A n c] ∧ ZV X (.agg #[.bool b, .slice A n c]) (vg)) [2, 1] rfl (by kernel_rfl) rfl (by kernel_rfl) (fun y X ex0 hf K hK => ?_) ?_
                  · have hh2 : ((fun (v : Value) (X : World) => ∃ b A n c, v = .agg #[.bool b, .slice A n c] ∧ ZV X (.agg #[.bool b, .slice A n c]) (vg))) (y 2) X := hf.1
                    refine Exists.elim hh2 (fun b2 hx2_0 => ?_)
                    refine Exists.elim hx2_0 (fun A2 hx2_1 => ?_)
                    refine Exists.elim hx2_1 (fun n2 hx2_2 => ?_)
                    refine Exists.elim hx2_2 (fun c2 hx2_3 => ?_)
                    have h2 := hx2_3.1
                    have z2 := hx2_3.2
                    clear hh2 hx2_0 hx2_1 hx2_2 hx2_3
                    have hh1 : ((fun (v : Value) (X : World) => ∃ b A n c, v = .agg #[.bool b, .slice A n c] ∧ ZV X (.agg #[.bool b, .slice A n c]) (zz))) (y 1) X := hf.2.1
                    refine Exists.elim hh1 (fun b1 hx1_0 => ?_)
                    refine Exists.elim hx1_0 (fun A1 hx1_1 => ?_)
                    refine Exists.elim hx1_1 (fun n1 hx1_2 => ?_)
                    refine Exists.elim hx1_2 (fun c1 hx1_3 => ?_)
                    have h1 := hx1_3.1
                    have z1 := hx1_3.2
                    clear hh1 hx1_0 hx1_1 hx1_2 hx1_3
                    clear hf
                    have ex := (Ext.drw (Ext.refl _)).trans ex0
                    refine Box.mk ?_
                    simp only [fill, Act.put, Nat.reduceAdd, List.setIfInBounds_toArray, List.set_cons_zero, List.set_cons_succ, h2, h1] at hK ⊢
                    go_simp
                    refine (asAgg ((of_any _ _ _ _ _).mono fun e w' ⟨he, hb⟩ => ⟨_, he, (z2).ext hb, hb⟩)).mono ?_
                    rintro e V ⟨b9, A9, n9, c9, rfl, hz, hb⟩
                    try go_wp2_with fail
                    exact hK.out _ _ ⟨_, _, _, _, rfl, hz⟩ hb (fun b hb => by cases hb)
                  refine Steps.cons (fun (v : Value) (X : World) => ∃ b A n c b' A' n' c', v = .tuple #[.agg #[.bool b, .slice A n c], .agg #[.bool b', .slice A' n' c']] ∧ ZV X (.agg #[.bool b, .slice A n c]) (zz / vg) ∧ ZV X (.agg #[.bool b', .slice A' n' c']) (zz % vg)) [1, 3] rfl (by kernel_rfl) rfl (by kernel_rfl) (fun y X ex0 hf K hK => ?_) ?_
                  · have hh1 : ((fun (v : Value) (X : World) => ∃ b A n c, v = .agg #[.bool b, .slice A n c] ∧ ZV X (.agg #[.bool b, .slice A n c]) (zz))) (y 1) X := hf.1
                    refine Exists.elim hh1 (fun b1 hx1_0 => ?_)
                    refine Exists.elim hx1_0 (fun A1 hx1_1 => ?_)
                    refine Exists.elim hx1_1 (fun n1 hx1_2 => ?_)
                    refine Exists.elim hx1_2 (fun c1 hx1_3 => ?_)
                    have h1 := hx1_3.1
                    have z1 := hx1_3.2
                    clear hh1 hx1_0 hx1_1 hx1_2 hx1_3
                    have hh3 : ((fun (v : Value) (X : World) => ∃ b A n c, v = .agg #[.bool b, .slice A n c] ∧ ZV X (.agg #[.bool b, .slice A n c]) (vg))) (y 3) X := hf.2.1
                    refine Exists.elim hh3 (fun b3 hx3_0 => ?_)
                    refine Exists.elim hx3_0 (fun A3 hx3_1 => ?_)
                    refine Exists.elim hx3_1 (fun n3 hx3_2 => ?_)
                    refine Exists.elim hx3_2 (fun c3 hx3_3 => ?_)
                    have h3 := hx3_3.1
                    have z3 := hx3_3.2
                    clear hh3 hx3_0 hx3_1 hx3_2 hx3_3
                    clear hf
                    have ex := (Ext.drw (Ext.refl _)).trans ex0
                    refine Box.mk ?_
                    simp only [fill, Act.put, Nat.reduceAdd, List.setIfInBounds_toArray, List.set_cons_zero, List.set_cons_succ, h1, h3] at hK ⊢
                    go_simp
                    refine (overR_any _ _ _ _ _ z1 z3 (by omega) (by omega) hg).mono ?_
                    rintro e V ⟨b9, A9, n9, c9, b8, A8, n8, c8, rfl, hz, hy, hb⟩
                    try go_wp2_with fail
                    exact hK.out _ _ ⟨_, _, _, _, _, _, _, _, rfl, hz, hy⟩ hb (fun b hb => by cases hb)
                  refine Steps.cons (fun (v : Value) (X : World) => ∃ b A n c b' A' n' c', v = .tuple #[.agg #[.bool b, .slice A n c], .agg #[.bool b', .slice A' n' c']] ∧ ZV X (.agg #[.bool b, .slice A n c]) (zz / vg) ∧ ZV X (.agg #[.bool b', .slice A' n' c']) (zz % vg)) [4] rfl (by kernel_rfl) rfl (by kernel_rfl) (fun y X ex0 hf K hK => ?_) ?_
                  · have hh4 : ((fun (v : Value) (X : World) => ∃ b A n c b' A' n' c', v = .tuple #[.agg #[.bool b, .slice A n c], .agg #[.bool b', .slice A' n' c']] ∧ ZV X (.agg #[.bool b, .slice A n c]) (zz / vg) ∧ ZV X (.agg #[.bool b', .slice A' n' c']) (zz % vg))) (y 4) X := hf.1
                    refine Exists.elim hh4 (fun b4 hx4_0 => ?_)
                    refine Exists.elim hx4_0 (fun A4 hx4_1 => ?_)
                    refine Exists.elim hx4_1 (fun n4 hx4_2 => ?_)
                    refine Exists.elim hx4_2 (fun c4 hx4_3 => ?_)
                    refine Exists.elim hx4_3 (fun bb4 hx4_4 => ?_)
                    refine Exists.elim hx4_4 (fun AA4 hx4_5 => ?_)
                    refine Exists.elim hx4_5 (fun nn4 hx4_6 => ?_)
                    refine Exists.elim hx4_6 (fun cc4 hx4_7 => ?_)
                    have h4 := hx4_7.1
                    have z4 := hx4_7.2.1
                    have y4 := hx4_7.2.2
                    clear hh4 hx4_0 hx4_1 hx4_2 hx4_3 hx4_4 hx4_5 hx4_6 hx4_7
                    clear hf
                    have ex := (Ext.drw (Ext.refl _)).trans ex0
                    refine Box.mk ?_
                    simp only [fill, Act.put, Nat.reduceAdd, List.setIfInBounds_toArray, List.set_cons_zero, List.set_cons_succ, h4] at hK ⊢
                    go_simp
                    exact hK.out _ _ ⟨_, _, _, _, _, _, _, _, rfl, z4, y4⟩ (Ext.refl _) (fun b hb => by cases hb)
                  refine Steps.cons (fun (v : Value) (X : World) => ∃ b A n c, v = .agg #[.bool b, .slice A n c] ∧ ZV X (.agg #[.bool b, .slice A n c]) (zz / vg)) [5] rfl (by kernel_rfl) rfl (by kernel_rfl) (fun y X ex0 hf K hK => ?_) ?_
                  · have hh5 : ((fun (v : Value) (X : World) => ∃ b A n c b' A' n' c', v = .tuple #[.agg #[.bool b, .slice A n c], .agg #[.bool b', .slice A' n' c']] ∧ ZV X (.agg #[.bool b, .slice A n c]) (zz / vg) ∧ ZV X (.agg #[.bool b', .slice A' n' c']) (zz % vg))) (y 5) X := hf.1
                    refine Exists.elim hh5 (fun b5 hx5_0 => ?_)
                    refine Exists.elim hx5_0 (fun A5 hx5_1 => ?_)
                    refine Exists.elim hx5_1 (fun n5 hx5_2 => ?_)
                    refine Exists.elim hx5_2 (fun c5 hx5_3 => ?_)
                    refine Exists.elim hx5_3 (fun bb5 hx5_4 => ?_)
                    refine Exists.elim hx5_4 (fun AA5 hx5_5 => ?_)
                    refine Exists.elim hx5_5 (fun nn5 hx5_6 => ?_)
                    refine Exists.elim hx5_6 (fun cc5 hx5_7 => ?_)
                    have h5 := hx5_7.1
                    have z5 := hx5_7.2.1
                    have y5 := hx5_7.2.2
                    clear hh5 hx5_0 hx5_1 hx5_2 hx5_3 hx5_4 hx5_5 hx5_6 hx5_7
                    clear hf
                    have ex := (Ext.drw (Ext.refl _)).trans ex0
                    refine Box.mk ?_
                    simp only [fill, Act.put, Nat.reduceAdd, List.setIfInBounds_toArray, List.set_cons_zero, List.set_cons_succ, h5] at hK ⊢
                    go_simp
                    exact hK.out _ _ ⟨_, _, _, _, rfl, z5⟩ (Ext.refl _) (fun b hb => by cases hb)
                  refine Steps.flw (fun (v : Value) (X : World) => ∃ b A n c, v = .agg #[.bool b, .slice A n c] ∧ ZV X (.agg #[.bool b, .slice A n c]) (zz % vg)) [5] rfl (by kernel_rfl) (by kernel_rfl) (fun _ => rfl) (fun y X ex0 hf => ?_) ?_
                  · have hh5 : ((fun (v : Value) (X : World) => ∃ b A n c b' A' n' c', v = .tuple #[.agg #[.bool b, .slice A n c], .agg #[.bool b', .slice A' n' c']] ∧ ZV X (.agg #[.bool b, .slice A n c]) (zz / vg) ∧ ZV X (.agg #[.bool b', .slice A' n' c']) (zz % vg))) (y 5) X := hf.1
                    refine Exists.elim hh5 (fun b5 hx5_0 => ?_)
                    refine Exists.elim hx5_0 (fun A5 hx5_1 => ?_)
                    refine Exists.elim hx5_1 (fun n5 hx5_2 => ?_)
                    refine Exists.elim hx5_2 (fun c5 hx5_3 => ?_)
                    refine Exists.elim hx5_3 (fun bb5 hx5_4 => ?_)
                    refine Exists.elim hx5_4 (fun AA5 hx5_5 => ?_)
                    refine Exists.elim hx5_5 (fun nn5 hx5_6 => ?_)
                    refine Exists.elim hx5_6 (fun cc5 hx5_7 => ?_)
                    have h5 := hx5_7.1
                    have z5 := hx5_7.2.1
                    have y5 := hx5_7.2.2
                    clear hh5 hx5_0 hx5_1 hx5_2 hx5_3 hx5_4 hx5_5 hx5_6 hx5_7
                    clear hf
                    simp only [fill, Act.put, Nat.reduceAdd, List.setIfInBounds_toArray, List.set_cons_zero, List.set_cons_succ, h5]
                    exact ⟨_, ⟨by rfl, fun w => by go_simp⟩, ⟨_, _, _, _, rfl, y5⟩⟩
                  refine Steps.cons (fun (v : Value) (X : World) => ∃ g, v = .pointer (some ⟨g, 0, none⟩) ∧ WB.heap.size ≤ g ∧ RB X g) [] rfl (by kernel_rfl) rfl (by kernel_rfl) (fun y X ex0 hf K hK => ?_) ?_
                  · clear hf
                    have ex := (Ext.drw (Ext.refl _)).trans ex0
                    refine Box.mk ?_
                    simp only [fill, Act.put, Nat.reduceAdd, List.setIfInBounds_toArray, List.set_cons_zero, List.set_cons_succ] at hK ⊢
                    go_simp
                    exact hK.out _ _ ⟨X.heap.size, rfl, ex.size, RB.c1 X false none 0 0 34⟩ (Ext.alc (Ext.refl X) (.cells #[.bool false, .slice none 0 0] 34)) (New.ptr (Nat.le_refl _) (by simp))
                  refine Steps.cons (fun (v : Value) (X : World) => ∃ g, v = .pointer (some ⟨g, 0, none⟩) ∧ WB.heap.size ≤ g ∧ RB X g) [] rfl (by kernel_rfl) rfl (by kernel_rfl) (fun y X ex0 hf K hK => ?_) ?_
                  · clear hf
                    have ex := (Ext.drw (Ext.refl _)).trans ex0
                    refine Box.mk ?_
                    simp only [fill, Act.put, Nat.reduceAdd, List.setIfInBounds_toArray, List.set_cons_zero, List.set_cons_succ] at hK ⊢
                    go_simp
                    exact hK.out _ _ ⟨X.heap.size, rfl, ex.size, RB.c1 X false none 0 0 34⟩ (Ext.alc (Ext.refl X) (.cells #[.bool false, .slice none 0 0] 34)) (New.ptr (Nat.le_refl _) (by simp))
                  exact Steps.nil
                case done =>
                  intro y X ex hf hlt hsep
                  have hh0 : ((fun (v : Value) (X : World) => ∃ b A n c, v = .agg #[.bool b, .slice A n c] ∧ ZV X (.agg #[.bool b, .slice A n c]) (zz))) (y 0) X := hf.1
                  refine Exists.elim hh0 (fun b0 hx0_0 => ?_)
                  refine Exists.elim hx0_0 (fun A0 hx0_1 => ?_)
                  refine Exists.elim hx0_1 (fun n0 hx0_2 => ?_)
                  refine Exists.elim hx0_2 (fun c0 hx0_3 => ?_)
                  have h0 := hx0_3.1
                  have z0 := hx0_3.2
                  clear hh0 hx0_0 hx0_1 hx0_2 hx0_3
                  have hh1 : ((fun (v : Value) (X : World) => ∃ b A n c, v = .agg #[.bool b, .slice A n c] ∧ ZV X (.agg #[.bool b, .slice A n c]) (zz))) (y 1) X := hf.2.1
                  refine Exists.elim hh1 (fun b1 hx1_0 => ?_)
                  refine Exists.elim hx1_0 (fun A1 hx1_1 => ?_)
                  refine Exists.elim hx1_1 (fun n1 hx1_2 => ?_)
                  refine Exists.elim hx1_2 (fun c1 hx1_3 => ?_)
                  have h1 := hx1_3.1
                  have z1 := hx1_3.2
                  clear hh1 hx1_0 hx1_1 hx1_2 hx1_3
                  have hh2 : ((fun (v : Value) (X : World) => ∃ b A n c, v = .agg #[.bool b, .slice A n c] ∧ ZV X (.agg #[.bool b, .slice A n c]) (vg))) (y 2) X := hf.2.2.1
                  refine Exists.elim hh2 (fun b2 hx2_0 => ?_)
                  refine Exists.elim hx2_0 (fun A2 hx2_1 => ?_)
                  refine Exists.elim hx2_1 (fun n2 hx2_2 => ?_)
                  refine Exists.elim hx2_2 (fun c2 hx2_3 => ?_)
                  have h2 := hx2_3.1
                  have z2 := hx2_3.2
                  clear hh2 hx2_0 hx2_1 hx2_2 hx2_3
                  have hh3 : ((fun (v : Value) (X : World) => ∃ b A n c, v = .agg #[.bool b, .slice A n c] ∧ ZV X (.agg #[.bool b, .slice A n c]) (vg))) (y 3) X := hf.2.2.2.1
                  refine Exists.elim hh3 (fun b3 hx3_0 => ?_)
                  refine Exists.elim hx3_0 (fun A3 hx3_1 => ?_)
                  refine Exists.elim hx3_1 (fun n3 hx3_2 => ?_)
                  refine Exists.elim hx3_2 (fun c3 hx3_3 => ?_)
                  have h3 := hx3_3.1
                  have z3 := hx3_3.2
                  clear hh3 hx3_0 hx3_1 hx3_2 hx3_3
                  have hh4 : ((fun (v : Value) (X : World) => ∃ b A n c b' A' n' c', v = .tuple #[.agg #[.bool b, .slice A n c], .agg #[.bool b', .slice A' n' c']] ∧ ZV X (.agg #[.bool b, .slice A n c]) (zz / vg) ∧ ZV X (.agg #[.bool b', .slice A' n' c']) (zz % vg))) (y 4) X := hf.2.2.2.2.1
                  refine Exists.elim hh4 (fun b4 hx4_0 => ?_)
                  refine Exists.elim hx4_0 (fun A4 hx4_1 => ?_)
                  refine Exists.elim hx4_1 (fun n4 hx4_2 => ?_)
                  refine Exists.elim hx4_2 (fun c4 hx4_3 => ?_)
                  refine Exists.elim hx4_3 (fun bb4 hx4_4 => ?_)
                  refine Exists.elim hx4_4 (fun AA4 hx4_5 => ?_)
                  refine Exists.elim hx4_5 (fun nn4 hx4_6 => ?_)
                  refine Exists.elim hx4_6 (fun cc4 hx4_7 => ?_)
                  have h4 := hx4_7.1
                  have z4 := hx4_7.2.1
                  have y4 := hx4_7.2.2
                  clear hh4 hx4_0 hx4_1 hx4_2 hx4_3 hx4_4 hx4_5 hx4_6 hx4_7
                  have hh5 : ((fun (v : Value) (X : World) => ∃ b A n c b' A' n' c', v = .tuple #[.agg #[.bool b, .slice A n c], .agg #[.bool b', .slice A' n' c']] ∧ ZV X (.agg #[.bool b, .slice A n c]) (zz / vg) ∧ ZV X (.agg #[.bool b', .slice A' n' c']) (zz % vg))) (y 5) X := hf.2.2.2.2.2.1
                  refine Exists.elim hh5 (fun b5 hx5_0 => ?_)
                  refine Exists.elim hx5_0 (fun A5 hx5_1 => ?_)
                  refine Exists.elim hx5_1 (fun n5 hx5_2 => ?_)
                  refine Exists.elim hx5_2 (fun c5 hx5_3 => ?_)
                  refine Exists.elim hx5_3 (fun bb5 hx5_4 => ?_)
                  refine Exists.elim hx5_4 (fun AA5 hx5_5 => ?_)
                  refine Exists.elim hx5_5 (fun nn5 hx5_6 => ?_)
                  refine Exists.elim hx5_6 (fun cc5 hx5_7 => ?_)
                  have h5 := hx5_7.1
                  have z5 := hx5_7.2.1
                  have y5 := hx5_7.2.2
                  clear hh5 hx5_0 hx5_1 hx5_2 hx5_3 hx5_4 hx5_5 hx5_6 hx5_7
                  have hh6 : ((fun (v : Value) (X : World) => ∃ b A n c, v = .agg #[.bool b, .slice A n c] ∧ ZV X (.agg #[.bool b, .slice A n c]) (zz / vg))) (y 6) X := hf.2.2.2.2.2.2.1
                  refine Exists.elim hh6 (fun b6 hx6_0 => ?_)
                  refine Exists.elim hx6_0 (fun A6 hx6_1 => ?_)
                  refine Exists.elim hx6_1 (fun n6 hx6_2 => ?_)
                  refine Exists.elim hx6_2 (fun c6 hx6_3 => ?_)
                  have h6 := hx6_3.1
                  have z6 := hx6_3.2
                  clear hh6 hx6_0 hx6_1 hx6_2 hx6_3
                  have hh7 : ((fun (v : Value) (X : World) => ∃ b A n c, v = .agg #[.bool b, .slice A n c] ∧ ZV X (.agg #[.bool b, .slice A n c]) (zz % vg))) (y 7) X := hf.2.2.2.2.2.2.2.1
                  refine Exists.elim hh7 (fun b7 hx7_0 => ?_)
                  refine Exists.elim hx7_0 (fun A7 hx7_1 => ?_)
                  refine Exists.elim hx7_1 (fun n7 hx7_2 => ?_)
                  refine Exists.elim hx7_2 (fun c7 hx7_3 => ?_)
                  have h7 := hx7_3.1
                  have z7 := hx7_3.2
                  clear hh7 hx7_0 hx7_1 hx7_2 hx7_3
                  have hh8 : ((fun (v : Value) (X : World) => ∃ g, v = .pointer (some ⟨g, 0, none⟩) ∧ WB.heap.size ≤ g ∧ RB X g)) (y 8) X := hf.2.2.2.2.2.2.2.2.1
                  refine Exists.elim hh8 (fun g8 hx8_0 => ?_)
                  have h8 := hx8_0.1
                  have z8 := hx8_0.2.1
                  have q8 := hx8_0.2.2
                  clear hh8 hx8_0
                  have hh9 : ((fun (v : Value) (X : World) => ∃ g, v = .pointer (some ⟨g, 0, none⟩) ∧ WB.heap.size ≤ g ∧ RB X g)) (y 9) X := hf.2.2.2.2.2.2.2.2.2.1
                  refine Exists.elim hh9 (fun g9 hx9_0 => ?_)
                  have h9 := hx9_0.1
                  have z9 := hx9_0.2.1
                  have q9 := hx9_0.2.2
                  clear hh9 hx9_0
                  clear hf
                  have n8_9 : g8 ≠ g9 := sep_ne (hsep 8 9 (by decide) (by decide) (by decide) (by decide)) h8 h9
                  clear hsep hlt
                  refine Box.mk ?_
                  simp only [List.drop_succ_cons, List.drop_zero, fill, Act.put, Nat.reduceAdd, List.setIfInBounds_toArray, List.set_cons_zero, List.set_cons_succ, h0, h1, h2, h3, h4, h5, h6, h7, h8, h9]
                  clear h0 h1 h2 h3 h4 h5 h6 h7 h8 h9
                  obtain ⟨W', hW', m1, m2, m3, m4, m5, m6, -, -, -⟩ := two_putH q8 q9 (Ne.symm n8_9) b6 A6 n6 c6 b7 A7 n7 c7 z6 z7 (Ext.below (HE.out.trans ex)) (by have := HE.out.size; omega) (by have := HE.out.size; omega)
                  obtain ⟨_, _, _, _, g30, g31, g32, g33⟩ := q8.facts
                  have T := q9.far q8 (Ne.symm n8_9) (.bool b6) (.slice A6 n6 c6)
                  obtain ⟨_, _, _, _, g50, g51, g52, g53⟩ := T.facts
                  have HM := Lib.hid (And.intro m2 (show Ext WL W' from m5))
                  have HW' := Lib.hid hW'
                  clear hW' m1 m2 m3 m4 m5 m6 T ex z0 z1 z2 z3 z4 z5 z6 z7 y4 y5 q8 q9 n8_9
                  go_wp2_with fail
                  refine NoPanic.normal ?_
                  go_upto_region 15 with fail
                  rw [← HW'.out]
                  clear g30 g31 g32 g33 g50 g51 g52 g53 HW'
                  have hm := HM.out.1; rw [hz0] at hm
                  obtain ⟨b5, A5, n5, c5, k0, k1, kz⟩ := hm
                  have Z0 := Lib.hid (zeroR_zero _ _ kz)
                  clear kz
                  go_wp2_with fail
                  refine Z0.out.mono ?_
                  rintro e wq ⟨rfl, xq⟩
                  have XQ := Lib.hid (HM.out.2.trans xq)
                  clear xq Z0 k0 k1
                  go_wp2
                  go_roundw
                  case rel => exact ⟨k + 1, by go_num, by omega, XQ⟩
                  case measure => simp [intOf]; omega
              · clear SL KZ JZ HD
                have PY := Lib.hid (PY.out.ext (by omega) hgr.out); have I5 := Lib.hid (I5.out.ext (by omega) hgr.out); have I6 := Lib.hid (I6.out.ext (by omega) hgr.out); have E11 := Lib.hid (E10.out.trans hgr.out)
                have l5 := I6.out.lt; have l0 := PY.out.lt
                have lt2 := LL.out.2; have lg2 := BZH.out.lg
                clear hgr
                have hd2 : decide ((k : Int) < 2) = false := by simp; omega
                go_upto_region 18 with fail
                try rw [hd2]
                clear hd2
                refine wp_region_noPanic ?_
                refine wp_pool 10 [some 112, some 113, some 114, some 115, some 116, some 111, some 117, some 118, some 14, some 15] [(7, 5)] [8, 9] [(fun (v : Value) (X : World) => ∃ b A n c, v = .agg #[.bool b, .slice A n c] ∧ ZV X (.agg #[.bool b, .slice A n c]) (t)), (fun (v : Value) (X : World) => ∃ b A n c, v = .agg #[.bool b, .slice A n c] ∧ ZV X (.agg #[.bool b, .slice A n c]) (t)), (fun (v : Value) (X : World) => ∃ b A n c, v = .agg #[.bool b, .slice A n c] ∧ ZV X (.agg #[.bool b, .slice A n c]) (vg)), (fun (v : Value) (X : World) => ∃ b A n c, v = .agg #[.bool b, .slice A n c] ∧ ZV X (.agg #[.bool b, .slice A n c]) (vg)), (fun (v : Value) (X : World) => ∃ b A n c b' A' n' c', v = .tuple #[.agg #[.bool b, .slice A n c], .agg #[.bool b', .slice A' n' c']] ∧ ZV X (.agg #[.bool b, .slice A n c]) (t / vg) ∧ ZV X (.agg #[.bool b', .slice A' n' c']) (t % vg)), (fun (v : Value) (X : World) => ∃ b A n c b' A' n' c', v = .tuple #[.agg #[.bool b, .slice A n c], .agg #[.bool b', .slice A' n' c']] ∧ ZV X (.agg #[.bool b, .slice A n c]) (t / vg) ∧ ZV X (.agg #[.bool b', .slice A' n' c']) (t % vg)), (fun (v : Value) (X : World) => ∃ b A n c, v = .agg #[.bool b, .slice A n c] ∧ ZV X (.agg #[.bool b, .slice A n c]) (t / vg)), (fun (v : Value) (X : World) => ∃ b A n c, v = .agg #[.bool b, .slice A n c] ∧ ZV X (.agg #[.bool b, .slice A n c]) (t % vg)), (fun (v : Value) (X : World) => ∃ g, v = .pointer (some ⟨g, 0, none⟩) ∧ wr.heap.size ≤ g ∧ RB X g), (fun (v : Value) (X : World) => ∃ g, v = .pointer (some ⟨g, 0, none⟩) ∧ wr.heap.size ≤ g ∧ RB X g)] [noF, noF, noF, noF, noF, noF, noF, noF, ptrF, ptrF] (by kernel_rfl) (by kernel_rfl) (by kernel_rfl) (by kernel_rfl) (by kernel_rfl) (by kernel_rfl) (by kernel_rfl) (by kernel_rfl) (fun _ _ _ _ h => h) ⟨(fun _ _ _ e ⟨b, A, n, c, h1, h2⟩ => ⟨b, A, n, c, h1, h2.ext e⟩), (fun _ _ _ e ⟨b, A, n, c, h1, h2⟩ => ⟨b, A, n, c, h1, h2.ext e⟩), (fun _ _ _ e ⟨b, A, n, c, h1, h2⟩ => ⟨b, A, n, c, h1, h2.ext e⟩), (fun _ _ _ e ⟨b, A, n, c, h1, h2⟩ => ⟨b, A, n, c, h1, h2.ext e⟩), (fun _ _ _ e ⟨b, A, n, c, b', A', n', c', h1, h2, h3⟩ => ⟨b, A, n, c, b', A', n', c', h1, h2.ext e, h3.ext e⟩), (fun _ _ _ e ⟨b, A, n, c, b', A', n', c', h1, h2, h3⟩ => ⟨b, A, n, c, b', A', n', c', h1, h2.ext e, h3.ext e⟩), (fun _ _ _ e ⟨b, A, n, c, h1, h2⟩ => ⟨b, A, n, c, h1, h2.ext e⟩), (fun _ _ _ e ⟨b, A, n, c, h1, h2⟩ => ⟨b, A, n, c, h1, h2.ext e⟩), (fun _ _ _ e ⟨g, h1, h2, h3⟩ => ⟨g, h1, h2, h3.ext e⟩), (fun _ _ _ e ⟨g, h1, h2, h3⟩ => ⟨g, h1, h2, h3.ext e⟩), True.intro⟩ ?steps ?done
                case steps =>
                  simp only [List.take_succ_cons, List.take_zero]
                  refine Steps.cons (fun (v : Value) (X : World) => ∃ b A n c, v = .agg #[.bool b, .slice A n c] ∧ ZV X (.agg #[.bool b, .slice A n c]) (t)) [] rfl (by kernel_rfl) rfl (by kernel_rfl) (fun y X ex0 hf K hK => ?_) ?_
                  · clear hf
                    have ex := (Ext.drw (Ext.refl _)).trans ex0
                    refine Box.mk ?_
                    simp only [fill, Act.put, Nat.reduceAdd, List.setIfInBounds_toArray, List.set_cons_zero, List.set_cons_succ] at hK ⊢
                    obtain ⟨bl, Al, nl, cl, k0, k1, kz⟩ := (PY.out.ext (by omega) ex)
                    go_simp
                    exact hK.out _ _ ⟨_, _, _, _, rfl, kz⟩ (Ext.refl _) (fun b hb => by cases hb)
                  refine Steps.cons (fun (v : Value) (X : World) => ∃ b A n c, v = .agg #[.bool b, .slice A n c] ∧ ZV X (.agg #[.bool b, .slice A n c]) (t)) [0] rfl (by kernel_rfl) rfl (by kernel_rfl) (fun y X ex0 hf K hK => ?_) ?_
                  · have hh0 : ((fun (v : Value) (X : World) => ∃ b A n c, v = .agg #[.bool b, .slice A n c] ∧ ZV X (.agg #[.bool b, .slice A n c]) (t))) (y 0) X := hf.1
                    refine Exists.elim hh0 (fun b0 hx0_0 => ?_)
                    refine Exists.elim hx0_0 (fun A0 hx0_1 => ?_)
                    refine Exists.elim hx0_1 (fun n0 hx0_2 => ?_)
                    refine Exists.elim hx0_2 (fun c0 hx0_3 => ?_)
                    have h0 := hx0_3.1
                    have z0 := hx0_3.2
                    clear hh0 hx0_0 hx0_1 hx0_2 hx0_3
                    clear hf
                    have ex := (Ext.drw (Ext.refl _)).trans ex0
                    refine Box.mk ?_
                    simp only [fill, Act.put, Nat.reduceAdd, List.setIfInBounds_toArray, List.set_cons_zero, List.set_cons_succ, h0] at hK ⊢
                    go_simp
                    refine (asAgg ((of_any _ _ _ _ _).mono fun e w' ⟨he, hb⟩ => ⟨_, he, (z0).ext hb, hb⟩)).mono ?_
                    rintro e V ⟨b9, A9, n9, c9, rfl, hz, hb⟩
                    try go_wp2_with fail
                    exact hK.out _ _ ⟨_, _, _, _, rfl, hz⟩ hb (fun b hb => by cases hb)
                  refine Steps.cons (fun (v : Value) (X : World) => ∃ b A n c, v = .agg #[.bool b, .slice A n c] ∧ ZV X (.agg #[.bool b, .slice A n c]) (vg)) [] rfl (by kernel_rfl) rfl (by kernel_rfl) (fun y X ex0 hf K hK => ?_) ?_
                  · clear hf
                    have ex := (Ext.drw (Ext.refl _)).trans ex0
                    refine Box.mk ?_
                    simp only [fill, Act.put, Nat.reduceAdd, List.setIfInBounds_toArray, List.set_cons_zero, List.set_cons_succ] at hK ⊢
                    obtain ⟨bl, Al, nl, cl, k0, k1, kz⟩ := (I5.out.ext (by omega) ex)
                    go_simp
                    exact hK.out _ _ ⟨_, _, _, _, rfl, kz⟩ (Ext.refl _) (fun b hb => by cases hb)
                  refine Steps.cons (fun (v : Value) (X : World) => ∃ b A n c, v = .agg #[.bool b, .slice A n c] ∧ ZV X (.agg #[.bool b, .slice A n c]) (vg)) [2, 1] rfl (by kernel_rfl) rfl (by kernel_rfl) (fun y X ex0 hf K hK => ?_) ?_
                  · have hh2 : ((fun (v : Value) (X : World) => ∃ b A n c, v = .agg #[.bool b, .slice A n c] ∧ ZV X (.agg #[.bool b, .slice A n c]) (vg))) (y 2) X := hf.1
                    refine Exists.elim hh2 (fun b2 hx2_0 => ?_)
                    refine Exists.elim hx2_0 (fun A2 hx2_1 => ?_)
                    refine Exists.elim hx2_1 (fun n2 hx2_2 => ?_)
                    refine Exists.elim hx2_2 (fun c2 hx2_3 => ?_)
                    have h2 := hx2_3.1
                    have z2 := hx2_3.2
                    clear hh2 hx2_0 hx2_1 hx2_2 hx2_3
                    have hh1 : ((fun (v : Value) (X : World) => ∃ b A n c, v = .agg #[.bool b, .slice A n c] ∧ ZV X (.agg #[.bool b, .slice A n c]) (t))) (y 1) X := hf.2.1
                    refine Exists.elim hh1 (fun b1 hx1_0 => ?_)
                    refine Exists.elim hx1_0 (fun A1 hx1_1 => ?_)
                    refine Exists.elim hx1_1 (fun n1 hx1_2 => ?_)
                    refine Exists.elim hx1_2 (fun c1 hx1_3 => ?_)
                    have h1 := hx1_3.1
                    have z1 := hx1_3.2
                    clear hh1 hx1_0 hx1_1 hx1_2 hx1_3
                    clear hf
                    have ex := (Ext.drw (Ext.refl _)).trans ex0
                    refine Box.mk ?_
                    simp only [fill, Act.put, Nat.reduceAdd, List.setIfInBounds_toArray, List.set_cons_zero, List.set_cons_succ, h2, h1] at hK ⊢
                    go_simp
                    refine (asAgg ((of_any _ _ _ _ _).mono fun e w' ⟨he, hb⟩ => ⟨_, he, (z2).ext hb, hb⟩)).mono ?_
                    rintro e V ⟨b9, A9, n9, c9, rfl, hz, hb⟩
                    try go_wp2_with fail
                    exact hK.out _ _ ⟨_, _, _, _, rfl, hz⟩ hb (fun b hb => by cases hb)
                  refine Steps.cons (fun (v : Value) (X : World) => ∃ b A n c b' A' n' c', v = .tuple #[.agg #[.bool b, .slice A n c], .agg #[.bool b', .slice A' n' c']] ∧ ZV X (.agg #[.bool b, .slice A n c]) (t / vg) ∧ ZV X (.agg #[.bool b', .slice A' n' c']) (t % vg)) [1, 3] rfl (by kernel_rfl) rfl (by kernel_rfl) (fun y X ex0 hf K hK => ?_) ?_
                  · have hh1 : ((fun (v : Value) (X : World) => ∃ b A n c, v = .agg #[.bool b, .slice A n c] ∧ ZV X (.agg #[.bool b, .slice A n c]) (t))) (y 1) X := hf.1
                    refine Exists.elim hh1 (fun b1 hx1_0 => ?_)
                    refine Exists.elim hx1_0 (fun A1 hx1_1 => ?_)
                    refine Exists.elim hx1_1 (fun n1 hx1_2 => ?_)
                    refine Exists.elim hx1_2 (fun c1 hx1_3 => ?_)
                    have h1 := hx1_3.1
                    have z1 := hx1_3.2
                    clear hh1 hx1_0 hx1_1 hx1_2 hx1_3
                    have hh3 : ((fun (v : Value) (X : World) => ∃ b A n c, v = .agg #[.bool b, .slice A n c] ∧ ZV X (.agg #[.bool b, .slice A n c]) (vg))) (y 3) X := hf.2.1
                    refine Exists.elim hh3 (fun b3 hx3_0 => ?_)
                    refine Exists.elim hx3_0 (fun A3 hx3_1 => ?_)
                    refine Exists.elim hx3_1 (fun n3 hx3_2 => ?_)
                    refine Exists.elim hx3_2 (fun c3 hx3_3 => ?_)
                    have h3 := hx3_3.1
                    have z3 := hx3_3.2
                    clear hh3 hx3_0 hx3_1 hx3_2 hx3_3
                    clear hf
                    have ex := (Ext.drw (Ext.refl _)).trans ex0
                    refine Box.mk ?_
                    simp only [fill, Act.put, Nat.reduceAdd, List.setIfInBounds_toArray, List.set_cons_zero, List.set_cons_succ, h1, h3] at hK ⊢
                    go_simp
                    refine (overR_any _ _ _ _ _ z1 z3 (by omega) (by omega) hg).mono ?_
                    rintro e V ⟨b9, A9, n9, c9, b8, A8, n8, c8, rfl, hz, hy, hb⟩
                    try go_wp2_with fail
                    exact hK.out _ _ ⟨_, _, _, _, _, _, _, _, rfl, hz, hy⟩ hb (fun b hb => by cases hb)
                  refine Steps.cons (fun (v : Value) (X : World) => ∃ b A n c b' A' n' c', v = .tuple #[.agg #[.bool b, .slice A n c], .agg #[.bool b', .slice A' n' c']] ∧ ZV X (.agg #[.bool b, .slice A n c]) (t / vg) ∧ ZV X (.agg #[.bool b', .slice A' n' c']) (t % vg)) [4] rfl (by kernel_rfl) rfl (by kernel_rfl) (fun y X ex0 hf K hK => ?_) ?_
                  · have hh4 : ((fun (v : Value) (X : World) => ∃ b A n c b' A' n' c', v = .tuple #[.agg #[.bool b, .slice A n c], .agg #[.bool b', .slice A' n' c']] ∧ ZV X (.agg #[.bool b, .slice A n c]) (t / vg) ∧ ZV X (.agg #[.bool b', .slice A' n' c']) (t % vg))) (y 4) X := hf.1
                    refine Exists.elim hh4 (fun b4 hx4_0 => ?_)
                    refine Exists.elim hx4_0 (fun A4 hx4_1 => ?_)
                    refine Exists.elim hx4_1 (fun n4 hx4_2 => ?_)
                    refine Exists.elim hx4_2 (fun c4 hx4_3 => ?_)
                    refine Exists.elim hx4_3 (fun bb4 hx4_4 => ?_)
                    refine Exists.elim hx4_4 (fun AA4 hx4_5 => ?_)
                    refine Exists.elim hx4_5 (fun nn4 hx4_6 => ?_)
                    refine Exists.elim hx4_6 (fun cc4 hx4_7 => ?_)
                    have h4 := hx4_7.1
                    have z4 := hx4_7.2.1
                    have y4 := hx4_7.2.2
                    clear hh4 hx4_0 hx4_1 hx4_2 hx4_3 hx4_4 hx4_5 hx4_6 hx4_7
                    clear hf
                    have ex := (Ext.drw (Ext.refl _)).trans ex0
                    refine Box.mk ?_
                    simp only [fill, Act.put, Nat.reduceAdd, List.setIfInBounds_toArray, List.set_cons_zero, List.set_cons_succ, h4] at hK ⊢
                    go_simp
                    exact hK.out _ _ ⟨_, _, _, _, _, _, _, _, rfl, z4, y4⟩ (Ext.refl _) (fun b hb => by cases hb)
                  refine Steps.cons (fun (v : Value) (X : World) => ∃ b A n c, v = .agg #[.bool b, .slice A n c] ∧ ZV X (.agg #[.bool b, .slice A n c]) (t / vg)) [5] rfl (by kernel_rfl) rfl (by kernel_rfl) (fun y X ex0 hf K hK => ?_) ?_
                  · have hh5 : ((fun (v : Value) (X : World) => ∃ b A n c b' A' n' c', v = .tuple #[.agg #[.bool b, .slice A n c], .agg #[.bool b', .slice A' n' c']] ∧ ZV X (.agg #[.bool b, .slice A n c]) (t / vg) ∧ ZV X (.agg #[.bool b', .slice A' n' c']) (t % vg))) (y 5) X := hf.1
                    refine Exists.elim hh5 (fun b5 hx5_0 => ?_)
                    refine Exists.elim hx5_0 (fun A5 hx5_1 => ?_)
                    refine Exists.elim hx5_1 (fun n5 hx5_2 => ?_)
                    refine Exists.elim hx5_2 (fun c5 hx5_3 => ?_)
                    refine Exists.elim hx5_3 (fun bb5 hx5_4 => ?_)
                    refine Exists.elim hx5_4 (fun AA5 hx5_5 => ?_)
                    refine Exists.elim hx5_5 (fun nn5 hx5_6 => ?_)
                    refine Exists.elim hx5_6 (fun cc5 hx5_7 => ?_)
                    have h5 := hx5_7.1
                    have z5 := hx5_7.2.1
                    have y5 := hx5_7.2.2
                    clear hh5 hx5_0 hx5_1 hx5_2 hx5_3 hx5_4 hx5_5 hx5_6 hx5_7
                    clear hf
                    have ex := (Ext.drw (Ext.refl _)).trans ex0
                    refine Box.mk ?_
                    simp only [fill, Act.put, Nat.reduceAdd, List.setIfInBounds_toArray, List.set_cons_zero, List.set_cons_succ, h5] at hK ⊢
                    go_simp
                    exact hK.out _ _ ⟨_, _, _, _, rfl, z5⟩ (Ext.refl _) (fun b hb => by cases hb)
                  refine Steps.flw (fun (v : Value) (X : World) => ∃ b A n c, v = .agg #[.bool b, .slice A n c] ∧ ZV X (.agg #[.bool b, .slice A n c]) (t % vg)) [5] rfl (by kernel_rfl) (by kernel_rfl) (fun _ => rfl) (fun y X ex0 hf => ?_) ?_
                  · have hh5 : ((fun (v : Value) (X : World) => ∃ b A n c b' A' n' c', v = .tuple #[.agg #[.bool b, .slice A n c], .agg #[.bool b', .slice A' n' c']] ∧ ZV X (.agg #[.bool b, .slice A n c]) (t / vg) ∧ ZV X (.agg #[.bool b', .slice A' n' c']) (t % vg))) (y 5) X := hf.1
                    refine Exists.elim hh5 (fun b5 hx5_0 => ?_)
                    refine Exists.elim hx5_0 (fun A5 hx5_1 => ?_)
                    refine Exists.elim hx5_1 (fun n5 hx5_2 => ?_)
                    refine Exists.elim hx5_2 (fun c5 hx5_3 => ?_)
                    refine Exists.elim hx5_3 (fun bb5 hx5_4 => ?_)
                    refine Exists.elim hx5_4 (fun AA5 hx5_5 => ?_)
                    refine Exists.elim hx5_5 (fun nn5 hx5_6 => ?_)
                    refine Exists.elim hx5_6 (fun cc5 hx5_7 => ?_)
                    have h5 := hx5_7.1
                    have z5 := hx5_7.2.1
                    have y5 := hx5_7.2.2
                    clear hh5 hx5_0 hx5_1 hx5_2 hx5_3 hx5_4 hx5_5 hx5_6 hx5_7
                    clear hf
                    simp only [fill, Act.put, Nat.reduceAdd, List.setIfInBounds_toArray, List.set_cons_zero, List.set_cons_succ, h5]
                    exact ⟨_, ⟨by rfl, fun w => by go_simp⟩, ⟨_, _, _, _, rfl, y5⟩⟩
                  refine Steps.cons (fun (v : Value) (X : World) => ∃ g, v = .pointer (some ⟨g, 0, none⟩) ∧ wr.heap.size ≤ g ∧ RB X g) [] rfl (by kernel_rfl) rfl (by kernel_rfl) (fun y X ex0 hf K hK => ?_) ?_
                  · clear hf
                    have ex := (Ext.drw (Ext.refl _)).trans ex0
                    refine Box.mk ?_
                    simp only [fill, Act.put, Nat.reduceAdd, List.setIfInBounds_toArray, List.set_cons_zero, List.set_cons_succ] at hK ⊢
                    go_simp
                    exact hK.out _ _ ⟨X.heap.size, rfl, ex.size, RB.c1 X false none 0 0 34⟩ (Ext.alc (Ext.refl X) (.cells #[.bool false, .slice none 0 0] 34)) (New.ptr (Nat.le_refl _) (by simp))
                  refine Steps.cons (fun (v : Value) (X : World) => ∃ g, v = .pointer (some ⟨g, 0, none⟩) ∧ wr.heap.size ≤ g ∧ RB X g) [] rfl (by kernel_rfl) rfl (by kernel_rfl) (fun y X ex0 hf K hK => ?_) ?_
                  · clear hf
                    have ex := (Ext.drw (Ext.refl _)).trans ex0
                    refine Box.mk ?_
                    simp only [fill, Act.put, Nat.reduceAdd, List.setIfInBounds_toArray, List.set_cons_zero, List.set_cons_succ] at hK ⊢
                    go_simp
                    exact hK.out _ _ ⟨X.heap.size, rfl, ex.size, RB.c1 X false none 0 0 34⟩ (Ext.alc (Ext.refl X) (.cells #[.bool false, .slice none 0 0] 34)) (New.ptr (Nat.le_refl _) (by simp))
                  exact Steps.nil
                case done =>
                  intro y X ex hf hlt hsep
                  have hh0 : ((fun (v : Value) (X : World) => ∃ b A n c, v = .agg #[.bool b, .slice A n c] ∧ ZV X (.agg #[.bool b, .slice A n c]) (t))) (y 0) X := hf.1
                  refine Exists.elim hh0 (fun b0 hx0_0 => ?_)
                  refine Exists.elim hx0_0 (fun A0 hx0_1 => ?_)
                  refine Exists.elim hx0_1 (fun n0 hx0_2 => ?_)
                  refine Exists.elim hx0_2 (fun c0 hx0_3 => ?_)
                  have h0 := hx0_3.1
                  have z0 := hx0_3.2
                  clear hh0 hx0_0 hx0_1 hx0_2 hx0_3
                  have hh1 : ((fun (v : Value) (X : World) => ∃ b A n c, v = .agg #[.bool b, .slice A n c] ∧ ZV X (.agg #[.bool b, .slice A n c]) (t))) (y 1) X := hf.2.1
                  refine Exists.elim hh1 (fun b1 hx1_0 => ?_)
                  refine Exists.elim hx1_0 (fun A1 hx1_1 => ?_)
                  refine Exists.elim hx1_1 (fun n1 hx1_2 => ?_)
                  refine Exists.elim hx1_2 (fun c1 hx1_3 => ?_)
                  have h1 := hx1_3.1
                  have z1 := hx1_3.2
                  clear hh1 hx1_0 hx1_1 hx1_2 hx1_3
                  have hh2 : ((fun (v : Value) (X : World) => ∃ b A n c, v = .agg #[.bool b, .slice A n c] ∧ ZV X (.agg #[.bool b, .slice A n c]) (vg))) (y 2) X := hf.2.2.1
                  refine Exists.elim hh2 (fun b2 hx2_0 => ?_)
                  refine Exists.elim hx2_0 (fun A2 hx2_1 => ?_)
                  refine Exists.elim hx2_1 (fun n2 hx2_2 => ?_)
                  refine Exists.elim hx2_2 (fun c2 hx2_3 => ?_)
                  have h2 := hx2_3.1
                  have z2 := hx2_3.2
                  clear hh2 hx2_0 hx2_1 hx2_2 hx2_3
                  have hh3 : ((fun (v : Value) (X : World) => ∃ b A n c, v = .agg #[.bool b, .slice A n c] ∧ ZV X (.agg #[.bool b, .slice A n c]) (vg))) (y 3) X := hf.2.2.2.1
                  refine Exists.elim hh3 (fun b3 hx3_0 => ?_)
                  refine Exists.elim hx3_0 (fun A3 hx3_1 => ?_)
                  refine Exists.elim hx3_1 (fun n3 hx3_2 => ?_)
                  refine Exists.elim hx3_2 (fun c3 hx3_3 => ?_)
                  have h3 := hx3_3.1
                  have z3 := hx3_3.2
                  clear hh3 hx3_0 hx3_1 hx3_2 hx3_3
                  have hh4 : ((fun (v : Value) (X : World) => ∃ b A n c b' A' n' c', v = .tuple #[.agg #[.bool b, .slice A n c], .agg #[.bool b', .slice A' n' c']] ∧ ZV X (.agg #[.bool b, .slice A n c]) (t / vg) ∧ ZV X (.agg #[.bool b', .slice A' n' c']) (t % vg))) (y 4) X := hf.2.2.2.2.1
                  refine Exists.elim hh4 (fun b4 hx4_0 => ?_)
                  refine Exists.elim hx4_0 (fun A4 hx4_1 => ?_)
                  refine Exists.elim hx4_1 (fun n4 hx4_2 => ?_)
                  refine Exists.elim hx4_2 (fun c4 hx4_3 => ?_)
                  refine Exists.elim hx4_3 (fun bb4 hx4_4 => ?_)
                  refine Exists.elim hx4_4 (fun AA4 hx4_5 => ?_)
                  refine Exists.elim hx4_5 (fun nn4 hx4_6 => ?_)
                  refine Exists.elim hx4_6 (fun cc4 hx4_7 => ?_)
                  have h4 := hx4_7.1
                  have z4 := hx4_7.2.1
                  have y4 := hx4_7.2.2
                  clear hh4 hx4_0 hx4_1 hx4_2 hx4_3 hx4_4 hx4_5 hx4_6 hx4_7
                  have hh5 : ((fun (v : Value) (X : World) => ∃ b A n c b' A' n' c', v = .tuple #[.agg #[.bool b, .slice A n c], .agg #[.bool b', .slice A' n' c']] ∧ ZV X (.agg #[.bool b, .slice A n c]) (t / vg) ∧ ZV X (.agg #[.bool b', .slice A' n' c']) (t % vg))) (y 5) X := hf.2.2.2.2.2.1
                  refine Exists.elim hh5 (fun b5 hx5_0 => ?_)
                  refine Exists.elim hx5_0 (fun A5 hx5_1 => ?_)
                  refine Exists.elim hx5_1 (fun n5 hx5_2 => ?_)
                  refine Exists.elim hx5_2 (fun c5 hx5_3 => ?_)
                  refine Exists.elim hx5_3 (fun bb5 hx5_4 => ?_)
                  refine Exists.elim hx5_4 (fun AA5 hx5_5 => ?_)
                  refine Exists.elim hx5_5 (fun nn5 hx5_6 => ?_)
                  refine Exists.elim hx5_6 (fun cc5 hx5_7 => ?_)
                  have h5 := hx5_7.1
                  have z5 := hx5_7.2.1
                  have y5 := hx5_7.2.2
                  clear hh5 hx5_0 hx5_1 hx5_2 hx5_3 hx5_4 hx5_5 hx5_6 hx5_7
                  have hh6 : ((fun (v : Value) (X : World) => ∃ b A n c, v = .agg #[.bool b, .slice A n c] ∧ ZV X (.agg #[.bool b, .slice A n c]) (t / vg))) (y 6) X := hf.2.2.2.2.2.2.1
                  refine Exists.elim hh6 (fun b6 hx6_0 => ?_)
                  refine Exists.elim hx6_0 (fun A6 hx6_1 => ?_)
                  refine Exists.elim hx6_1 (fun n6 hx6_2 => ?_)
                  refine Exists.elim hx6_2 (fun c6 hx6_3 => ?_)
                  have h6 := hx6_3.1
                  have z6 := hx6_3.2
                  clear hh6 hx6_0 hx6_1 hx6_2 hx6_3
                  have hh7 : ((fun (v : Value) (X : World) => ∃ b A n c, v = .agg #[.bool b, .slice A n c] ∧ ZV X (.agg #[.bool b, .slice A n c]) (t % vg))) (y 7) X := hf.2.2.2.2.2.2.2.1
                  refine Exists.elim hh7 (fun b7 hx7_0 => ?_)
                  refine Exists.elim hx7_0 (fun A7 hx7_1 => ?_)
                  refine Exists.elim hx7_1 (fun n7 hx7_2 => ?_)
                  refine Exists.elim hx7_2 (fun c7 hx7_3 => ?_)
                  have h7 := hx7_3.1
                  have z7 := hx7_3.2
                  clear hh7 hx7_0 hx7_1 hx7_2 hx7_3
                  have hh8 : ((fun (v : Value) (X : World) => ∃ g, v = .pointer (some ⟨g, 0, none⟩) ∧ wr.heap.size ≤ g ∧ RB X g)) (y 8) X := hf.2.2.2.2.2.2.2.2.1
                  refine Exists.elim hh8 (fun g8 hx8_0 => ?_)
                  have h8 := hx8_0.1
                  have z8 := hx8_0.2.1
                  have q8 := hx8_0.2.2
                  clear hh8 hx8_0
                  have hh9 : ((fun (v : Value) (X : World) => ∃ g, v = .pointer (some ⟨g, 0, none⟩) ∧ wr.heap.size ≤ g ∧ RB X g)) (y 9) X := hf.2.2.2.2.2.2.2.2.2.1
                  refine Exists.elim hh9 (fun g9 hx9_0 => ?_)
                  have h9 := hx9_0.1
                  have z9 := hx9_0.2.1
                  have q9 := hx9_0.2.2
                  clear hh9 hx9_0
                  clear hf
                  have n8_9 : g8 ≠ g9 := sep_ne (hsep 8 9 (by decide) (by decide) (by decide) (by decide)) h8 h9
                  clear hsep hlt
                  refine Box.mk ?_
                  simp only [List.drop_succ_cons, List.drop_zero, fill, Act.put, Nat.reduceAdd, List.setIfInBounds_toArray, List.set_cons_zero, List.set_cons_succ, h0, h1, h2, h3, h4, h5, h6, h7, h8, h9]
                  clear h0 h1 h2 h3 h4 h5 h6 h7 h8 h9
                  have lz8 : w.heap.size ≤ g8 := by have := E11.out.size; omega
                  obtain ⟨W', hW', m1, m2, m3, m4, m5, m6, m7, -, -⟩ := two_putH q8 q9 (Ne.symm n8_9) b6 A6 n6 c6 b7 A7 n7 c7 z6 z7 (Ext.below (E11.out.trans ex)) (by have := E11.out.size; omega) (by have := E11.out.size; omega)
                  obtain ⟨_, _, _, _, g30, g31, g32, g33⟩ := q8.facts
                  have T := q9.far q8 (Ne.symm n8_9) (.bool b6) (.slice A6 n6 c6)
                  obtain ⟨_, _, _, _, g50, g51, g52, g53⟩ := T.facts
                  have i6 := m7 _ _ (I6.out.ext (by omega) ex) (by omega) (by omega)
                  have HM := Lib.hid (And.intro m1 (And.intro m3 (And.intro i6 (show Ext w W' from m5))))
                  have HW' := Lib.hid hW'
                  clear hW' m1 m2 m3 m4 m5 m6 m7 i6 T ex z0 z1 z2 z3 z4 z5 z6 z7 y4 y5 q8 q9 n8_9 I5 I6 PY E10 E11
                  go_wp2_with fail
                  refine NoPanic.normal ?_
                  go_upto_region 19 with fail
                  rw [← HW'.out]
                  clear g30 g31 g32 g33 g50 g51 g52 g53 HW'
                  obtain ⟨vq, hvq⟩ : ∃ vq, vq = t / vg := ⟨_, rfl⟩
                  rw [← hvq] at HM
                  have hql : (dig vq.natAbs).length ≤ 256 := by rw [hvq]; exact Nat.le_trans (len_mono (Int.natAbs_ediv_le_natAbs t vg)) LL.out.2
                  have hqt : t ≠ 0 → vq ≠ 0 ∧ 0 ≤ vx ∧ vx < vq.natAbs := fun h => by rw [hvq]; exact ⟨BZH.out.gt hg h, BZH.out.xt h⟩
                  have hq0 : t = 0 → vq = 0 := fun h => by rw [hvq, h]; exact Int.zero_ediv _
                  have HQ := Lib.hid (And.intro hql (And.intro hqt hq0))
                  clear hvq hql hqt hq0
                  obtain ⟨b5, A5, n5, c5, k0, k1, kz⟩ := HM.out.1
                  have S0 := Lib.hid (signR_any vq _ _ kz)
                  clear kz
                  have lq9 := HM.out.1.lt; have l69 := HM.out.2.2.1.lt
                  go_wp2_with fail
                  refine S0.out.mono ?_
                  rintro e wq ⟨rfl, xq⟩
                  have XQ := Lib.hid (show Ext W' wq from xq)
                  clear xq S0 k0 k1
                  have HM := Lib.hid (And.intro (HM.out.1.ext lq9 XQ.out) (And.intro (HM.out.2.1.ext XQ.out) (And.intro (HM.out.2.2.1.ext l69 XQ.out) (HM.out.2.2.2.trans XQ.out))))
                  have lq9 := HM.out.1.lt; have l69 := HM.out.2.2.1.lt
                  clear XQ
                  obtain ⟨sq, hsq⟩ : ∃ sq, sq = vq.sign := ⟨_, rfl⟩
                  rw [← hsq]
                  by_cases hneg : vq < 0
                  · have hsd : decide (sq < 0) = true := by rw [hsq]; exact sign_lt hneg
                    clear hsq
                    go_upto_region 20 with fail
                    obtain ⟨b5, A5, n5, c5, k0, k1, kz⟩ := HM.out.1
                    have M0 := Lib.hid (minusR_any vq _ _ kz)
                    clear kz
                    go_wp2_with fail
                    refine (asAgg M0.out).mono ?_
                    rintro e wm ⟨b4, A4, n4, c4, rfl, hz, xm⟩
                    replace xm : Ext wq wm := xm
                    have q8 := HM.out.2.1.ext xm
                    obtain ⟨_, _, _, _, g30, g31, g32, g33⟩ := q8.facts
                    obtain ⟨WC, hWC⟩ : ∃ WC, WC = (wm.setCell ⟨g8, 0, none⟩ (.bool b4)).setCell ⟨g8, 1, none⟩ (.slice A4 n4 c4) := ⟨_, rfl⟩
                    have h8 : HZ WC g8 (-vq) := by rw [hWC]; exact HZ.put q8 hz
                    have h6 : HZ WC (g5 + 1) vx := by rw [hWC]; exact (HM.out.2.2.1.ext l69 xm).far q8 (by omega) _ _
                    have r8 : RB WC g8 := by rw [hWC]; exact q8.set _ _ _ _
                    have eC : Ext w WC := by rw [hWC]; exact below_set2 (Ext.below (HM.out.2.2.2.trans xm)) lz8 _ _
                    have HM := Lib.hid (And.intro h8 (And.intro r8 (And.intro h6 eC)))
                    have HWC := Lib.hid hWC
                    have lq9 := h8.lt; have l69 := h6.lt
                    clear hWC h8 h6 r8 eC q8 hz xm M0 k0 k1
                    have HQQ : Hid ((t = 0 → -vq = 0) ∧ (t ≠ 0 → -vq ≠ 0 ∧ 0 ≤ vx ∧ vx < -vq)) := Lib.hid ⟨fun h => by have := HQ.out.2.2 h; omega, fun h => by have := HQ.out.2.1 h; omega⟩
                    have HQL : Hid ((dig (-vq).natAbs).length ≤ 256) := Lib.hid (by rw [Int.natAbs_neg]; exact HQ.out.1)
                    go_upto_region 21 with fail
                    rw [← HWC.out]
                    clear g30 g31 g32 g33 HWC
                    obtain ⟨sx, hsx⟩ : ∃ sx, sx = vx.sign := ⟨_, rfl⟩
                    have SX := Lib.hid (show ∀ W a, ZV W a vx → Calls Try.prog 38 #[a] W fun e w' => e = .returned (.int .i64 sx) ∧ Ext W w' from fun W a h => by rw [hsx]; exact signR_any vx a W h)
                    obtain ⟨so, hso⟩ : ∃ so, so = (vx - (-vq)).sign := ⟨_, rfl⟩
                    have SO := Lib.hid (show ∀ W a b, ZV W a vx → ZV W b (-vq) → Calls Try.prog 37 #[a, b] W fun e w' => e = .returned (.int .i64 so) ∧ Ext W w' from fun W a b h k => by rw [hso]; exact orderRZ_any vx (-vq) a b W h k (by have := BZH.out.lx; omega) (by have := HQL.out; omega))
                    have HSO := Lib.hid hso
                    clear hso
                    by_cases hxx : 0 ≤ vx
                    · have hsx0 : decide (0 ≤ sx) = true := by rw [hsx]; exact sign_ge hxx
                      clear hsx
                      refine wp_region_noPanic ?_
                      refine wp_pool 11 [some 124, some 125, some 126, some 127, some 128, some 129, some 130, some 131, some 132, some 133, some 134] [] [] [(fun (v : Value) (X : World) => ∃ b A n c, v = .agg #[.bool b, .slice A n c] ∧ ZV X (.agg #[.bool b, .slice A n c]) (vx)), (fun (v : Value) (X : World) => ∃ b A n c, v = .agg #[.bool b, .slice A n c] ∧ ZV X (.agg #[.bool b, .slice A n c]) (vx)), (fun (v : Value) (_ : World) => v = .int .i64 (sx)), (fun (v : Value) (_ : World) => v = .bool true), (fun (v : Value) (_ : World) => v = .bool true), (fun (v : Value) (X : World) => ∃ b A n c, v = .agg #[.bool b, .slice A n c] ∧ ZV X (.agg #[.bool b, .slice A n c]) (vx)), (fun (v : Value) (X : World) => ∃ b A n c, v = .agg #[.bool b, .slice A n c] ∧ ZV X (.agg #[.bool b, .slice A n c]) (vx)), (fun (v : Value) (X : World) => ∃ b A n c, v = .agg #[.bool b, .slice A n c] ∧ ZV X (.agg #[.bool b, .slice A n c]) (-vq)), (fun (v : Value) (_ : World) => v = .int .i64 (so)), (fun (v : Value) (_ : World) => v = .bool (decide (so < 0))), (fun (v : Value) (_ : World) => v = .bool (decide (so < 0)))] [noF, noF, noF, noF, noF, noF, noF, noF, noF, noF, noF] (by kernel_rfl) (by kernel_rfl) (by kernel_rfl) (by kernel_rfl) (by kernel_rfl) (by kernel_rfl) (by kernel_rfl) (by kernel_rfl) (fun _ _ _ _ h => h) ⟨(fun _ _ _ e ⟨b, A, n, c, h1, h2⟩ => ⟨b, A, n, c, h1, h2.ext e⟩), (fun _ _ _ e ⟨b, A, n, c, h1, h2⟩ => ⟨b, A, n, c, h1, h2.ext e⟩), Stays.pure _, Stays.pure _, Stays.pure _, (fun _ _ _ e ⟨b, A, n, c, h1, h2⟩ => ⟨b, A, n, c, h1, h2.ext e⟩), (fun _ _ _ e ⟨b, A, n, c, h1, h2⟩ => ⟨b, A, n, c, h1, h2.ext e⟩), (fun _ _ _ e ⟨b, A, n, c, h1, h2⟩ => ⟨b, A, n, c, h1, h2.ext e⟩), Stays.pure _, Stays.pure _, Stays.pure _, True.intro⟩ ?steps ?done
                      case steps =>
                        simp only [List.take_succ_cons, List.take_zero]
                        refine Steps.cons (fun (v : Value) (X : World) => ∃ b A n c, v = .agg #[.bool b, .slice A n c] ∧ ZV X (.agg #[.bool b, .slice A n c]) (vx)) [] rfl (by kernel_rfl) rfl (by kernel_rfl) (fun y X ex0 hf K hK => ?_) ?_
                        · clear hf
                          have ex := (Ext.drw (Ext.refl _)).trans ex0
                          refine Box.mk ?_
                          simp only [fill, Act.put, Nat.reduceAdd, List.setIfInBounds_toArray, List.set_cons_zero, List.set_cons_succ] at hK ⊢
                          obtain ⟨bl, Al, nl, cl, k0, k1, kz⟩ := (HM.out.2.2.1.ext l69 ex)
                          go_simp
                          exact hK.out _ _ ⟨_, _, _, _, rfl, kz⟩ (Ext.refl _) (fun b hb => by cases hb)
                        refine Steps.cons (fun (v : Value) (X : World) => ∃ b A n c, v = .agg #[.bool b, .slice A n c] ∧ ZV X (.agg #[.bool b, .slice A n c]) (vx)) [0] rfl (by kernel_rfl) rfl (by kernel_rfl) (fun y X ex0 hf K hK => ?_) ?_
                        · have hh0 : ((fun (v : Value) (X : World) => ∃ b A n c, v = .agg #[.bool b, .slice A n c] ∧ ZV X (.agg #[.bool b, .slice A n c]) (vx))) (y 0) X := hf.1
                          refine Exists.elim hh0 (fun b0 hx0_0 => ?_)
                          refine Exists.elim hx0_0 (fun A0 hx0_1 => ?_)
                          refine Exists.elim hx0_1 (fun n0 hx0_2 => ?_)
                          refine Exists.elim hx0_2 (fun c0 hx0_3 => ?_)
                          have h0 := hx0_3.1
                          have z0 := hx0_3.2
                          clear hh0 hx0_0 hx0_1 hx0_2 hx0_3
                          clear hf
                          have ex := (Ext.drw (Ext.refl _)).trans ex0
                          refine Box.mk ?_
                          simp only [fill, Act.put, Nat.reduceAdd, List.setIfInBounds_toArray, List.set_cons_zero, List.set_cons_succ, h0] at hK ⊢
                          go_simp
                          refine (asAgg ((of_any _ _ _ _ _).mono fun e w' ⟨he, hb⟩ => ⟨_, he, (z0).ext hb, hb⟩)).mono ?_
                          rintro e V ⟨b9, A9, n9, c9, rfl, hz, hb⟩
                          try go_wp2_with fail
                          exact hK.out _ _ ⟨_, _, _, _, rfl, hz⟩ hb (fun b hb => by cases hb)
                        refine Steps.cons (fun (v : Value) (_ : World) => v = .int .i64 (sx)) [1] rfl (by kernel_rfl) rfl (by kernel_rfl) (fun y X ex0 hf K hK => ?_) ?_
                        · have hh1 : ((fun (v : Value) (X : World) => ∃ b A n c, v = .agg #[.bool b, .slice A n c] ∧ ZV X (.agg #[.bool b, .slice A n c]) (vx))) (y 1) X := hf.1
                          refine Exists.elim hh1 (fun b1 hx1_0 => ?_)
                          refine Exists.elim hx1_0 (fun A1 hx1_1 => ?_)
                          refine Exists.elim hx1_1 (fun n1 hx1_2 => ?_)
                          refine Exists.elim hx1_2 (fun c1 hx1_3 => ?_)
                          have h1 := hx1_3.1
                          have z1 := hx1_3.2
                          clear hh1 hx1_0 hx1_1 hx1_2 hx1_3
                          clear hf
                          have ex := (Ext.drw (Ext.refl _)).trans ex0
                          refine Box.mk ?_
                          simp only [fill, Act.put, Nat.reduceAdd, List.setIfInBounds_toArray, List.set_cons_zero, List.set_cons_succ, h1] at hK ⊢
                          go_simp
                          refine (SX.out _ _ z1).mono ?_
                          rintro e V ⟨rfl, hb⟩
                          try go_wp2_with fail
                          exact hK.out _ _ rfl hb (fun b hb => by cases hb)
                        refine Steps.cons (fun (v : Value) (_ : World) => v = .bool true) [2] rfl (by kernel_rfl) rfl (by kernel_rfl) (fun y X ex0 hf K hK => ?_) ?_
                        · have h2 : ((fun (v : Value) (_ : World) => v = .int .i64 (sx))) (y 2) X := hf.1
                          clear hf
                          have ex := (Ext.drw (Ext.refl _)).trans ex0
                          refine Box.mk ?_
                          simp only [fill, Act.put, Nat.reduceAdd, List.setIfInBounds_toArray, List.set_cons_zero, List.set_cons_succ, h2] at hK ⊢
                          go_simp
                          try rw [hsx0]
                          exact hK.out _ _ rfl (Ext.refl _) (fun b hb => by cases hb)
                        refine Steps.cons (fun (v : Value) (_ : World) => v = .bool true) [3, 2] rfl (by kernel_rfl) rfl (by kernel_rfl) (fun y X ex0 hf K hK => ?_) ?_
                        · have h3 : ((fun (v : Value) (_ : World) => v = .bool true)) (y 3) X := hf.1
                          have h2 : ((fun (v : Value) (_ : World) => v = .int .i64 (sx))) (y 2) X := hf.2.1
                          clear hf
                          have ex := (Ext.drw (Ext.refl _)).trans ex0
                          refine Box.mk ?_
                          simp only [fill, Act.put, Nat.reduceAdd, List.setIfInBounds_toArray, List.set_cons_zero, List.set_cons_succ, h3, h2] at hK ⊢
                          go_simp
                          exact hK.out _ _ rfl (Ext.refl _) (fun b hb => by cases hb)
                        refine Steps.cons (fun (v : Value) (X : World) => ∃ b A n c, v = .agg #[.bool b, .slice A n c] ∧ ZV X (.agg #[.bool b, .slice A n c]) (vx)) [4] rfl (by kernel_rfl) rfl (by kernel_rfl) (fun y X ex0 hf K hK => ?_) ?_
                        · have h4 : ((fun (v : Value) (_ : World) => v = .bool true)) (y 4) X := hf.1
                          clear hf
                          have ex := (Ext.drw (Ext.refl _)).trans ex0
                          refine Box.mk ?_
                          simp only [fill, Act.put, Nat.reduceAdd, List.setIfInBounds_toArray, List.set_cons_zero, List.set_cons_succ, h4] at hK ⊢
                          obtain ⟨bl, Al, nl, cl, k0, k1, kz⟩ := (HM.out.2.2.1.ext l69 ex)
                          go_simp
                          exact hK.out _ _ ⟨_, _, _, _, rfl, kz⟩ (Ext.refl _) (fun b hb => by cases hb)
                        refine Steps.cons (fun (v : Value) (X : World) => ∃ b A n c, v = .agg #[.bool b, .slice A n c] ∧ ZV X (.agg #[.bool b, .slice A n c]) (vx)) [5, 4] rfl (by kernel_rfl) rfl (by kernel_rfl) (fun y X ex0 hf K hK => ?_) ?_
                        · have hh5 : ((fun (v : Value) (X : World) => ∃ b A n c, v = .agg #[.bool b, .slice A n c] ∧ ZV X (.agg #[.bool b, .slice A n c]) (vx))) (y 5) X := hf.1
                          refine Exists.elim hh5 (fun b5 hx5_0 => ?_)
                          refine Exists.elim hx5_0 (fun A5 hx5_1 => ?_)
                          refine Exists.elim hx5_1 (fun n5 hx5_2 => ?_)
                          refine Exists.elim hx5_2 (fun c5 hx5_3 => ?_)
                          have h5 := hx5_3.1
                          have z5 := hx5_3.2
                          clear hh5 hx5_0 hx5_1 hx5_2 hx5_3
                          have h4 : ((fun (v : Value) (_ : World) => v = .bool true)) (y 4) X := hf.2.1
                          clear hf
                          have ex := (Ext.drw (Ext.refl _)).trans ex0
                          refine Box.mk ?_
                          simp only [fill, Act.put, Nat.reduceAdd, List.setIfInBounds_toArray, List.set_cons_zero, List.set_cons_succ, h5, h4] at hK ⊢
                          go_simp
                          refine (asAgg ((of_any _ _ _ _ _).mono fun e w' ⟨he, hb⟩ => ⟨_, he, (z5).ext hb, hb⟩)).mono ?_
                          rintro e V ⟨b9, A9, n9, c9, rfl, hz, hb⟩
                          try go_wp2_with fail
                          exact hK.out _ _ ⟨_, _, _, _, rfl, hz⟩ hb (fun b hb => by cases hb)
                        refine Steps.cons (fun (v : Value) (X : World) => ∃ b A n c, v = .agg #[.bool b, .slice A n c] ∧ ZV X (.agg #[.bool b, .slice A n c]) (-vq)) [4] rfl (by kernel_rfl) rfl (by kernel_rfl) (fun y X ex0 hf K hK => ?_) ?_
                        · have h4 : ((fun (v : Value) (_ : World) => v = .bool true)) (y 4) X := hf.1
                          clear hf
                          have ex := (Ext.drw (Ext.refl _)).trans ex0
                          refine Box.mk ?_
                          simp only [fill, Act.put, Nat.reduceAdd, List.setIfInBounds_toArray, List.set_cons_zero, List.set_cons_succ, h4] at hK ⊢
                          obtain ⟨bl, Al, nl, cl, k0, k1, kz⟩ := (HM.out.1.ext lq9 ex)
                          go_simp
                          exact hK.out _ _ ⟨_, _, _, _, rfl, kz⟩ (Ext.refl _) (fun b hb => by cases hb)
                        refine Steps.cons (fun (v : Value) (_ : World) => v = .int .i64 (so)) [6, 7, 4] rfl (by kernel_rfl) rfl (by kernel_rfl) (fun y X ex0 hf K hK => ?_) ?_
                        · have hh6 : ((fun (v : Value) (X : World) => ∃ b A n c, v = .agg #[.bool b, .slice A n c] ∧ ZV X (.agg #[.bool b, .slice A n c]) (vx))) (y 6) X := hf.1
                          refine Exists.elim hh6 (fun b6 hx6_0 => ?_)
                          refine Exists.elim hx6_0 (fun A6 hx6_1 => ?_)
                          refine Exists.elim hx6_1 (fun n6 hx6_2 => ?_)
                          refine Exists.elim hx6_2 (fun c6 hx6_3 => ?_)
                          have h6 := hx6_3.1
                          have z6 := hx6_3.2
                          clear hh6 hx6_0 hx6_1 hx6_2 hx6_3
                          have hh7 : ((fun (v : Value) (X : World) => ∃ b A n c, v = .agg #[.bool b, .slice A n c] ∧ ZV X (.agg #[.bool b, .slice A n c]) (-vq))) (y 7) X := hf.2.1
                          refine Exists.elim hh7 (fun b7 hx7_0 => ?_)
                          refine Exists.elim hx7_0 (fun A7 hx7_1 => ?_)
                          refine Exists.elim hx7_1 (fun n7 hx7_2 => ?_)
                          refine Exists.elim hx7_2 (fun c7 hx7_3 => ?_)
                          have h7 := hx7_3.1
                          have z7 := hx7_3.2
                          clear hh7 hx7_0 hx7_1 hx7_2 hx7_3
                          have h4 : ((fun (v : Value) (_ : World) => v = .bool true)) (y 4) X := hf.2.2.1
                          clear hf
                          have ex := (Ext.drw (Ext.refl _)).trans ex0
                          refine Box.mk ?_
                          simp only [fill, Act.put, Nat.reduceAdd, List.setIfInBounds_toArray, List.set_cons_zero, List.set_cons_succ, h6, h7, h4] at hK ⊢
                          go_simp
                          refine (SO.out _ _ _ z6 z7).mono ?_
                          rintro e V ⟨rfl, hb⟩
                          try go_wp2_with fail
                          exact hK.out _ _ rfl hb (fun b hb => by cases hb)
                        refine Steps.cons (fun (v : Value) (_ : World) => v = .bool (decide (so < 0))) [8, 4] rfl (by kernel_rfl) rfl (by kernel_rfl) (fun y X ex0 hf K hK => ?_) ?_
                        · have h8 : ((fun (v : Value) (_ : World) => v = .int .i64 (so))) (y 8) X := hf.1
                          have h4 : ((fun (v : Value) (_ : World) => v = .bool true)) (y 4) X := hf.2.1
                          clear hf
                          have ex := (Ext.drw (Ext.refl _)).trans ex0
                          refine Box.mk ?_
                          simp only [fill, Act.put, Nat.reduceAdd, List.setIfInBounds_toArray, List.set_cons_zero, List.set_cons_succ, h8, h4] at hK ⊢
                          go_simp
                          exact hK.out _ _ rfl (Ext.refl _) (fun b hb => by cases hb)
                        refine Steps.cons (fun (v : Value) (_ : World) => v = .bool (decide (so < 0))) [4, 9] rfl (by kernel_rfl) rfl (by kernel_rfl) (fun y X ex0 hf K hK => ?_) ?_
                        · have h4 : ((fun (v : Value) (_ : World) => v = .bool true)) (y 4) X := hf.1
                          have h9 : ((fun (v : Value) (_ : World) => v = .bool (decide (so < 0)))) (y 9) X := hf.2.1
                          clear hf
                          have ex := (Ext.drw (Ext.refl _)).trans ex0
                          refine Box.mk ?_
                          simp only [fill, Act.put, Nat.reduceAdd, List.setIfInBounds_toArray, List.set_cons_zero, List.set_cons_succ, h4, h9] at hK ⊢
                          go_simp
                          exact hK.out _ _ rfl (Ext.refl _) (fun b hb => by cases hb)
                        exact Steps.nil
                      case done =>
                        intro y X ex hf hlt hsep
                        have hh0 : ((fun (v : Value) (X : World) => ∃ b A n c, v = .agg #[.bool b, .slice A n c] ∧ ZV X (.agg #[.bool b, .slice A n c]) (vx))) (y 0) X := hf.1
                        refine Exists.elim hh0 (fun b0 hx0_0 => ?_)
                        refine Exists.elim hx0_0 (fun A0 hx0_1 => ?_)
                        refine Exists.elim hx0_1 (fun n0 hx0_2 => ?_)
                        refine Exists.elim hx0_2 (fun c0 hx0_3 => ?_)
                        have h0 := hx0_3.1
                        have z0 := hx0_3.2
                        clear hh0 hx0_0 hx0_1 hx0_2 hx0_3
                        have hh1 : ((fun (v : Value) (X : World) => ∃ b A n c, v = .agg #[.bool b, .slice A n c] ∧ ZV X (.agg #[.bool b, .slice A n c]) (vx))) (y 1) X := hf.2.1
                        refine Exists.elim hh1 (fun b1 hx1_0 => ?_)
                        refine Exists.elim hx1_0 (fun A1 hx1_1 => ?_)
                        refine Exists.elim hx1_1 (fun n1 hx1_2 => ?_)
                        refine Exists.elim hx1_2 (fun c1 hx1_3 => ?_)
                        have h1 := hx1_3.1
                        have z1 := hx1_3.2
                        clear hh1 hx1_0 hx1_1 hx1_2 hx1_3
                        have h2 : ((fun (v : Value) (_ : World) => v = .int .i64 (sx))) (y 2) X := hf.2.2.1
                        have h3 : ((fun (v : Value) (_ : World) => v = .bool true)) (y 3) X := hf.2.2.2.1
                        have h4 : ((fun (v : Value) (_ : World) => v = .bool true)) (y 4) X := hf.2.2.2.2.1
                        have hh5 : ((fun (v : Value) (X : World) => ∃ b A n c, v = .agg #[.bool b, .slice A n c] ∧ ZV X (.agg #[.bool b, .slice A n c]) (vx))) (y 5) X := hf.2.2.2.2.2.1
                        refine Exists.elim hh5 (fun b5 hx5_0 => ?_)
                        refine Exists.elim hx5_0 (fun A5 hx5_1 => ?_)
                        refine Exists.elim hx5_1 (fun n5 hx5_2 => ?_)
                        refine Exists.elim hx5_2 (fun c5 hx5_3 => ?_)
                        have h5 := hx5_3.1
                        have z5 := hx5_3.2
                        clear hh5 hx5_0 hx5_1 hx5_2 hx5_3
                        have hh6 : ((fun (v : Value) (X : World) => ∃ b A n c, v = .agg #[.bool b, .slice A n c] ∧ ZV X (.agg #[.bool b, .slice A n c]) (vx))) (y 6) X := hf.2.2.2.2.2.2.1
                        refine Exists.elim hh6 (fun b6 hx6_0 => ?_)
                        refine Exists.elim hx6_0 (fun A6 hx6_1 => ?_)
                        refine Exists.elim hx6_1 (fun n6 hx6_2 => ?_)
                        refine Exists.elim hx6_2 (fun c6 hx6_3 => ?_)
                        have h6 := hx6_3.1
                        have z6 := hx6_3.2
                        clear hh6 hx6_0 hx6_1 hx6_2 hx6_3
                        have hh7 : ((fun (v : Value) (X : World) => ∃ b A n c, v = .agg #[.bool b, .slice A n c] ∧ ZV X (.agg #[.bool b, .slice A n c]) (-vq))) (y 7) X := hf.2.2.2.2.2.2.2.1
                        refine Exists.elim hh7 (fun b7 hx7_0 => ?_)
                        refine Exists.elim hx7_0 (fun A7 hx7_1 => ?_)
                        refine Exists.elim hx7_1 (fun n7 hx7_2 => ?_)
                        refine Exists.elim hx7_2 (fun c7 hx7_3 => ?_)
                        have h7 := hx7_3.1
                        have z7 := hx7_3.2
                        clear hh7 hx7_0 hx7_1 hx7_2 hx7_3
                        have h8 : ((fun (v : Value) (_ : World) => v = .int .i64 (so))) (y 8) X := hf.2.2.2.2.2.2.2.2.1
                        have h9 : ((fun (v : Value) (_ : World) => v = .bool (decide (so < 0)))) (y 9) X := hf.2.2.2.2.2.2.2.2.2.1
                        have h10 : ((fun (v : Value) (_ : World) => v = .bool (decide (so < 0)))) (y 10) X := hf.2.2.2.2.2.2.2.2.2.2.1
                        clear hf
                        clear hsep hlt
                        refine Box.mk ?_
                        simp only [List.drop_succ_cons, List.drop_zero, fill, Act.put, Nat.reduceAdd, List.setIfInBounds_toArray, List.set_cons_zero, List.set_cons_succ, h0, h1, h2, h3, h4, h5, h6, h7, h8, h9, h10]
                        clear h0 h1 h2 h3 h4 h5 h6 h7 h8 h9 h10
                        have HQZ := Lib.hid (HM.out.1.ext lq9 ex)
                        have EZ := Lib.hid (HM.out.2.2.2.trans ex)
                        clear ex z0 z1 z5 z6 z7
                        go_wp2_with fail
                        refine NoPanic.normal ?_
                        go_upto_region 22 with fail
                        obtain ⟨b5, A5, n5, c5, k0, k1, kz⟩ := HQZ.out
                        have Z0 := Lib.hid (zeroR_any (-vq) _ _ kz)
                        clear kz
                        go_wp2_with fail
                        refine Z0.out.mono ?_
                        rintro e wq ⟨rfl, xq⟩
                        have XQ := Lib.hid (EZ.out.trans xq)
                        clear xq Z0 k0 k1
                        by_cases ht0 : t = 0
                        · rw [show decide ((-vq) = 0) = true by simp [HQQ.out.1 ht0]]
                          go_wp2_with fail
                          refine (awake_any _).mono ?_
                          rintro e wz ⟨rfl, hbz⟩
                          replace hbz : Ext _ wz := hbz
                          have FX := Lib.hid (XQ.out.trans hbz)
                          clear hbz
                          go_wp2
                          go_ret
                          exact ⟨rfl, FX.out⟩
                        · rw [show decide ((-vq) = 0) = false by simp [(HQQ.out.2 ht0).1]]
                          rw [show decide (so < 0) = true by rw [HSO.out]; exact sign_lt (by have := (HQQ.out.2 ht0).2; omega)]
                          go_wp2_with fail
                          refine (awake_any _).mono ?_
                          rintro e wz ⟨rfl, hbz⟩
                          replace hbz : Ext _ wz := hbz
                          have FX := Lib.hid (XQ.out.trans hbz)
                          clear hbz
                          go_wp2
                          go_ret
                          exact ⟨rfl, FX.out⟩
                    · have hsx0 : decide (0 ≤ sx) = false := by rw [hsx]; exact sign_nge (by omega)
                      have ht0 : t = 0 := by
                        rcases Int.decEq t 0 with h | h
                        · exact absurd (HQQ.out.2 h).2.1 hxx
                        · exact h
                      have HT0 := Lib.hid ht0
                      clear hsx hxx ht0
                      refine wp_region_noPanic ?_
                      refine wp_pool 11 [some 124, some 125, some 126, some 127, some 128, some 129, some 130, some 131, some 132, some 133, some 134] [] [] [(fun (v : Value) (X : World) => ∃ b A n c, v = .agg #[.bool b, .slice A n c] ∧ ZV X (.agg #[.bool b, .slice A n c]) (vx)), (fun (v : Value) (X : World) => ∃ b A n c, v = .agg #[.bool b, .slice A n c] ∧ ZV X (.agg #[.bool b, .slice A n c]) (vx)), (fun (v : Value) (_ : World) => v = .int .i64 (sx)), (fun (v : Value) (_ : World) => v = .bool false), (fun (v : Value) (_ : World) => v = .bool false), (fun (v : Value) (_ : World) => v = undef), (fun (v : Value) (_ : World) => v = undef), (fun (v : Value) (_ : World) => v = undef), (fun (v : Value) (_ : World) => v = undef), (fun (v : Value) (_ : World) => v = undef), (fun (v : Value) (_ : World) => v = .bool false)] [noF, noF, noF, noF, noF, noF, noF, noF, noF, noF, noF] (by kernel_rfl) (by kernel_rfl) (by kernel_rfl) (by kernel_rfl) (by kernel_rfl) (by kernel_rfl) (by kernel_rfl) (by kernel_rfl) (fun _ _ _ _ h => h) ⟨(fun _ _ _ e ⟨b, A, n, c, h1, h2⟩ => ⟨b, A, n, c, h1, h2.ext e⟩), (fun _ _ _ e ⟨b, A, n, c, h1, h2⟩ => ⟨b, A, n, c, h1, h2.ext e⟩), Stays.pure _, Stays.pure _, Stays.pure _, Stays.pure _, Stays.pure _, Stays.pure _, Stays.pure _, Stays.pure _, Stays.pure _, True.intro⟩ ?steps ?done
                      case steps =>
                        simp only [List.take_succ_cons, List.take_zero]
                        refine Steps.cons (fun (v : Value) (X : World) => ∃ b A n c, v = .agg #[.bool b, .slice A n c] ∧ ZV X (.agg #[.bool b, .slice A n c]) (vx)) [] rfl (by kernel_rfl) rfl (by kernel_rfl) (fun y X ex0 hf K hK => ?_) ?_
                        · clear hf
                          have ex := (Ext.drw (Ext.refl _)).trans ex0
                          refine Box.mk ?_
                          simp only [fill, Act.put, Nat.reduceAdd, List.setIfInBounds_toArray, List.set_cons_zero, List.set_cons_succ] at hK ⊢
                          obtain ⟨bl, Al, nl, cl, k0, k1, kz⟩ := (HM.out.2.2.1.ext l69 ex)
                          go_simp
                          exact hK.out _ _ ⟨_, _, _, _, rfl, kz⟩ (Ext.refl _) (fun b hb => by cases hb)
                        refine Steps.cons (fun (v : Value) (X : World) => ∃ b A n c, v = .agg #[.bool b, .slice A n c] ∧ ZV X (.agg #[.bool b, .slice A n c]) (vx)) [0] rfl (by kernel_rfl) rfl (by kernel_rfl) (fun y X ex0 hf K hK => ?_) ?_
                        · have hh0 : ((fun (v : Value) (X : World) => ∃ b A n c, v = .agg #[.bool b, .slice A n c] ∧ ZV X (.agg #[.bool b, .slice A n c]) (vx))) (y 0) X := hf.1
                          refine Exists.elim hh0 (fun b0 hx0_0 => ?_)
                          refine Exists.elim hx0_0 (fun A0 hx0_1 => ?_)
                          refine Exists.elim hx0_1 (fun n0 hx0_2 => ?_)
                          refine Exists.elim hx0_2 (fun c0 hx0_3 => ?_)
                          have h0 := hx0_3.1
                          have z0 := hx0_3.2
                          clear hh0 hx0_0 hx0_1 hx0_2 hx0_3
                          clear hf
                          have ex := (Ext.drw (Ext.refl _)).trans ex0
                          refine Box.mk ?_
                          simp only [fill, Act.put, Nat.reduceAdd, List.setIfInBounds_toArray, List.set_cons_zero, List.set_cons_succ, h0] at hK ⊢
                          go_simp
                          refine (asAgg ((of_any _ _ _ _ _).mono fun e w' ⟨he, hb⟩ => ⟨_, he, (z0).ext hb, hb⟩)).mono ?_
                          rintro e V ⟨b9, A9, n9, c9, rfl, hz, hb⟩
                          try go_wp2_with fail
                          exact hK.out _ _ ⟨_, _, _, _, rfl, hz⟩ hb (fun b hb => by cases hb)
                        refine Steps.cons (fun (v : Value) (_ : World) => v = .int .i64 (sx)) [1] rfl (by kernel_rfl) rfl (by kernel_rfl) (fun y X ex0 hf K hK => ?_) ?_
                        · have hh1 : ((fun (v : Value) (X : World) => ∃ b A n c, v = .agg #[.bool b, .slice A n c] ∧ ZV X (.agg #[.bool b, .slice A n c]) (vx))) (y 1) X := hf.1
                          refine Exists.elim hh1 (fun b1 hx1_0 => ?_)
                          refine Exists.elim hx1_0 (fun A1 hx1_1 => ?_)
                          refine Exists.elim hx1_1 (fun n1 hx1_2 => ?_)
                          refine Exists.elim hx1_2 (fun c1 hx1_3 => ?_)
                          have h1 := hx1_3.1
                          have z1 := hx1_3.2
                          clear hh1 hx1_0 hx1_1 hx1_2 hx1_3
                          clear hf
                          have ex := (Ext.drw (Ext.refl _)).trans ex0
                          refine Box.mk ?_
                          simp only [fill, Act.put, Nat.reduceAdd, List.setIfInBounds_toArray, List.set_cons_zero, List.set_cons_succ, h1] at hK ⊢
                          go_simp
                          refine (SX.out _ _ z1).mono ?_
                          rintro e V ⟨rfl, hb⟩
                          try go_wp2_with fail
                          exact hK.out _ _ rfl hb (fun b hb => by cases hb)
                        refine Steps.cons (fun (v : Value) (_ : World) => v = .bool false) [2] rfl (by kernel_rfl) rfl (by kernel_rfl) (fun y X ex0 hf K hK => ?_) ?_
                        · have h2 : ((fun (v : Value) (_ : World) => v = .int .i64 (sx))) (y 2) X := hf.1
                          clear hf
                          have ex := (Ext.drw (Ext.refl _)).trans ex0
                          refine Box.mk ?_
                          simp only [fill, Act.put, Nat.reduceAdd, List.setIfInBounds_toArray, List.set_cons_zero, List.set_cons_succ, h2] at hK ⊢
                          go_simp
                          try rw [hsx0]
                          exact hK.out _ _ rfl (Ext.refl _) (fun b hb => by cases hb)
                        refine Steps.cons (fun (v : Value) (_ : World) => v = .bool false) [3, 2] rfl (by kernel_rfl) rfl (by kernel_rfl) (fun y X ex0 hf K hK => ?_) ?_
                        · have h3 : ((fun (v : Value) (_ : World) => v = .bool false)) (y 3) X := hf.1
                          have h2 : ((fun (v : Value) (_ : World) => v = .int .i64 (sx))) (y 2) X := hf.2.1
                          clear hf
                          have ex := (Ext.drw (Ext.refl _)).trans ex0
                          refine Box.mk ?_
                          simp only [fill, Act.put, Nat.reduceAdd, List.setIfInBounds_toArray, List.set_cons_zero, List.set_cons_succ, h3, h2] at hK ⊢
                          go_simp
                          exact hK.out _ _ rfl (Ext.refl _) (fun b hb => by cases hb)
                        refine Steps.cons (fun (v : Value) (_ : World) => v = undef) [4] rfl (by kernel_rfl) rfl (by kernel_rfl) (fun y X ex0 hf K hK => ?_) ?_
                        · have h4 : ((fun (v : Value) (_ : World) => v = .bool false)) (y 4) X := hf.1
                          clear hf
                          have ex := (Ext.drw (Ext.refl _)).trans ex0
                          refine Box.mk ?_
                          simp only [fill, Act.put, Nat.reduceAdd, List.setIfInBounds_toArray, List.set_cons_zero, List.set_cons_succ, h4] at hK ⊢
                          go_simp
                          exact hK.out _ _ rfl (Ext.refl _) (fun b hb => by cases hb)
                        refine Steps.cons (fun (v : Value) (_ : World) => v = undef) [5, 4] rfl (by kernel_rfl) rfl (by kernel_rfl) (fun y X ex0 hf K hK => ?_) ?_
                        · have h5 : ((fun (v : Value) (_ : World) => v = undef)) (y 5) X := hf.1
                          have h4 : ((fun (v : Value) (_ : World) => v = .bool false)) (y 4) X := hf.2.1
                          clear hf
                          have ex := (Ext.drw (Ext.refl _)).trans ex0
                          refine Box.mk ?_
                          simp only [fill, Act.put, Nat.reduceAdd, List.setIfInBounds_toArray, List.set_cons_zero, List.set_cons_succ, h5, h4] at hK ⊢
                          go_simp
                          exact hK.out _ _ rfl (Ext.refl _) (fun b hb => by cases hb)
                        refine Steps.cons (fun (v : Value) (_ : World) => v = undef) [4] rfl (by kernel_rfl) rfl (by kernel_rfl) (fun y X ex0 hf K hK => ?_) ?_
                        · have h4 : ((fun (v : Value) (_ : World) => v = .bool false)) (y 4) X := hf.1
                          clear hf
                          have ex := (Ext.drw (Ext.refl _)).trans ex0
                          refine Box.mk ?_
                          simp only [fill, Act.put, Nat.reduceAdd, List.setIfInBounds_toArray, List.set_cons_zero, List.set_cons_succ, h4] at hK ⊢
                          go_simp
                          exact hK.out _ _ rfl (Ext.refl _) (fun b hb => by cases hb)
                        refine Steps.cons (fun (v : Value) (_ : World) => v = undef) [6, 7, 4] rfl (by kernel_rfl) rfl (by kernel_rfl) (fun y X ex0 hf K hK => ?_) ?_
                        · have h6 : ((fun (v : Value) (_ : World) => v = undef)) (y 6) X := hf.1
                          have h7 : ((fun (v : Value) (_ : World) => v = undef)) (y 7) X := hf.2.1
                          have h4 : ((fun (v : Value) (_ : World) => v = .bool false)) (y 4) X := hf.2.2.1
                          clear hf
                          have ex := (Ext.drw (Ext.refl _)).trans ex0
                          refine Box.mk ?_
                          simp only [fill, Act.put, Nat.reduceAdd, List.setIfInBounds_toArray, List.set_cons_zero, List.set_cons_succ, h6, h7, h4] at hK ⊢
                          go_simp
                          exact hK.out _ _ rfl (Ext.refl _) (fun b hb => by cases hb)
                        refine Steps.cons (fun (v : Value) (_ : World) => v = undef) [8, 4] rfl (by kernel_rfl) rfl (by kernel_rfl) (fun y X ex0 hf K hK => ?_) ?_
                        · have h8 : ((fun (v : Value) (_ : World) => v = undef)) (y 8) X := hf.1
                          have h4 : ((fun (v : Value) (_ : World) => v = .bool false)) (y 4) X := hf.2.1
                          clear hf
                          have ex := (Ext.drw (Ext.refl _)).trans ex0
                          refine Box.mk ?_
                          simp only [fill, Act.put, Nat.reduceAdd, List.setIfInBounds_toArray, List.set_cons_zero, List.set_cons_succ, h8, h4] at hK ⊢
                          go_simp
                          exact hK.out _ _ rfl (Ext.refl _) (fun b hb => by cases hb)
                        refine Steps.cons (fun (v : Value) (_ : World) => v = .bool false) [4, 9] rfl (by kernel_rfl) rfl (by kernel_rfl) (fun y X ex0 hf K hK => ?_) ?_
                        · have h4 : ((fun (v : Value) (_ : World) => v = .bool false)) (y 4) X := hf.1
                          have h9 : ((fun (v : Value) (_ : World) => v = undef)) (y 9) X := hf.2.1
                          clear hf
                          have ex := (Ext.drw (Ext.refl _)).trans ex0
                          refine Box.mk ?_
                          simp only [fill, Act.put, Nat.reduceAdd, List.setIfInBounds_toArray, List.set_cons_zero, List.set_cons_succ, h4, h9] at hK ⊢
                          go_simp
                          exact hK.out _ _ rfl (Ext.refl _) (fun b hb => by cases hb)
                        exact Steps.nil
                      case done =>
                        intro y X ex hf hlt hsep
                        have hh0 : ((fun (v : Value) (X : World) => ∃ b A n c, v = .agg #[.bool b, .slice A n c] ∧ ZV X (.agg #[.bool b, .slice A n c]) (vx))) (y 0) X := hf.1
                        refine Exists.elim hh0 (fun b0 hx0_0 => ?_)
                        refine Exists.elim hx0_0 (fun A0 hx0_1 => ?_)
                        refine Exists.elim hx0_1 (fun n0 hx0_2 => ?_)
                        refine Exists.elim hx0_2 (fun c0 hx0_3 => ?_)
                        have h0 := hx0_3.1
                        have z0 := hx0_3.2
                        clear hh0 hx0_0 hx0_1 hx0_2 hx0_3
                        have hh1 : ((fun (v : Value) (X : World) => ∃ b A n c, v = .agg #[.bool b, .slice A n c] ∧ ZV X (.agg #[.bool b, .slice A n c]) (vx))) (y 1) X := hf.2.1
                        refine Exists.elim hh1 (fun b1 hx1_0 => ?_)
                        refine Exists.elim hx1_0 (fun A1 hx1_1 => ?_)
                        refine Exists.elim hx1_1 (fun n1 hx1_2 => ?_)
                        refine Exists.elim hx1_2 (fun c1 hx1_3 => ?_)
                        have h1 := hx1_3.1
                        have z1 := hx1_3.2
                        clear hh1 hx1_0 hx1_1 hx1_2 hx1_3
                        have h2 : ((fun (v : Value) (_ : World) => v = .int .i64 (sx))) (y 2) X := hf.2.2.1
                        have h3 : ((fun (v : Value) (_ : World) => v = .bool false)) (y 3) X := hf.2.2.2.1
                        have h4 : ((fun (v : Value) (_ : World) => v = .bool false)) (y 4) X := hf.2.2.2.2.1
                        have h5 : ((fun (v : Value) (_ : World) => v = undef)) (y 5) X := hf.2.2.2.2.2.1
                        have h6 : ((fun (v : Value) (_ : World) => v = undef)) (y 6) X := hf.2.2.2.2.2.2.1
                        have h7 : ((fun (v : Value) (_ : World) => v = undef)) (y 7) X := hf.2.2.2.2.2.2.2.1
                        have h8 : ((fun (v : Value) (_ : World) => v = undef)) (y 8) X := hf.2.2.2.2.2.2.2.2.1
                        have h9 : ((fun (v : Value) (_ : World) => v = undef)) (y 9) X := hf.2.2.2.2.2.2.2.2.2.1
                        have h10 : ((fun (v : Value) (_ : World) => v = .bool false)) (y 10) X := hf.2.2.2.2.2.2.2.2.2.2.1
                        clear hf
                        clear hsep hlt
                        refine Box.mk ?_
                        simp only [List.drop_succ_cons, List.drop_zero, fill, Act.put, Nat.reduceAdd, List.setIfInBounds_toArray, List.set_cons_zero, List.set_cons_succ, h0, h1, h2, h3, h4, h5, h6, h7, h8, h9, h10]
                        clear h0 h1 h2 h3 h4 h5 h6 h7 h8 h9 h10
                        have HQZ := Lib.hid (HM.out.1.ext lq9 ex)
                        have EZ := Lib.hid (HM.out.2.2.2.trans ex)
                        clear ex z0 z1
                        go_wp2_with fail
                        refine NoPanic.normal ?_
                        go_upto_region 22 with fail
                        obtain ⟨b5, A5, n5, c5, k0, k1, kz⟩ := HQZ.out
                        have Z0 := Lib.hid (zeroR_any (-vq) _ _ kz)
                        clear kz
                        go_wp2_with fail
                        refine Z0.out.mono ?_
                        rintro e wq ⟨rfl, xq⟩
                        have XQ := Lib.hid (EZ.out.trans xq)
                        clear xq Z0 k0 k1
                        rw [show decide ((-vq) = 0) = true by simp [HQQ.out.1 HT0.out]]
                        go_wp2_with fail
                        refine (awake_any _).mono ?_
                        rintro e wz ⟨rfl, hbz⟩
                        replace hbz : Ext _ wz := hbz
                        have FX := Lib.hid (XQ.out.trans hbz)
                        clear hbz
                        go_wp2
                        go_ret
                        exact ⟨rfl, FX.out⟩
                  · have hsd : decide (sq < 0) = false := by rw [hsq]; exact sign_nlt (by omega)
                    clear hsq
                    have HQQ : Hid ((t = 0 → vq = 0) ∧ (t ≠ 0 → vq ≠ 0 ∧ 0 ≤ vx ∧ vx < vq)) := Lib.hid ⟨HQ.out.2.2, fun h => by have := HQ.out.2.1 h; omega⟩
                    have HQL : Hid ((dig vq.natAbs).length ≤ 256) := Lib.hid HQ.out.1
                    go_upto_region 21 with fail
                    obtain ⟨sx, hsx⟩ : ∃ sx, sx = vx.sign := ⟨_, rfl⟩
                    have SX := Lib.hid (show ∀ W a, ZV W a vx → Calls Try.prog 38 #[a] W fun e w' => e = .returned (.int .i64 sx) ∧ Ext W w' from fun W a h => by rw [hsx]; exact signR_any vx a W h)
                    obtain ⟨so, hso⟩ : ∃ so, so = (vx - (vq)).sign := ⟨_, rfl⟩
                    have SO := Lib.hid (show ∀ W a b, ZV W a vx → ZV W b (vq) → Calls Try.prog 37 #[a, b] W fun e w' => e = .returned (.int .i64 so) ∧ Ext W w' from fun W a b h k => by rw [hso]; exact orderRZ_any vx (vq) a b W h k (by have := BZH.out.lx; omega) (by have := HQL.out; omega))
                    have HSO := Lib.hid hso
                    clear hso
                    by_cases hxx : 0 ≤ vx
                    · have hsx0 : decide (0 ≤ sx) = true := by rw [hsx]; exact sign_ge hxx
                      clear hsx
                      refine wp_region_noPanic ?_
                      refine wp_pool 11 [some 124, some 125, some 126, some 127, some 128, some 129, some 130, some 131, some 132, some 133, some 134] [] [] [(fun (v : Value) (X : World) => ∃ b A n c, v = .agg #[.bool b, .slice A n c] ∧ ZV X (.agg #[.bool b, .slice A n c]) (vx)), (fun (v : Value) (X : World) => ∃ b A n c, v = .agg #[.bool b, .slice A n c] ∧ ZV X (.agg #[.bool b, .slice A n c]) (vx)), (fun (v : Value) (_ : World) => v = .int .i64 (sx)), (fun (v : Value) (_ : World) => v = .bool true), (fun (v : Value) (_ : World) => v = .bool true), (fun (v : Value) (X : World) => ∃ b A n c, v = .agg #[.bool b, .slice A n c] ∧ ZV X (.agg #[.bool b, .slice A n c]) (vx)), (fun (v : Value) (X : World) => ∃ b A n c, v = .agg #[.bool b, .slice A n c] ∧ ZV X (.agg #[.bool b, .slice A n c]) (vx)), (fun (v : Value) (X : World) => ∃ b A n c, v = .agg #[.bool b, .slice A n c] ∧ ZV X (.agg #[.bool b, .slice A n c]) (vq)), (fun (v : Value) (_ : World) => v = .int .i64 (so)), (fun (v : Value) (_ : World) => v = .bool (decide (so < 0))), (fun (v : Value) (_ : World) => v = .bool (decide (so < 0)))] [noF, noF, noF, noF, noF, noF, noF, noF, noF, noF, noF] (by kernel_rfl) (by kernel_rfl) (by kernel_rfl) (by kernel_rfl) (by kernel_rfl) (by kernel_rfl) (by kernel_rfl) (by kernel_rfl) (fun _ _ _ _ h => h) ⟨(fun _ _ _ e ⟨b, A, n, c, h1, h2⟩ => ⟨b, A, n, c, h1, h2.ext e⟩), (fun _ _ _ e ⟨b, A, n, c, h1, h2⟩ => ⟨b, A, n, c, h1, h2.ext e⟩), Stays.pure _, Stays.pure _, Stays.pure _, (fun _ _ _ e ⟨b, A, n, c, h1, h2⟩ => ⟨b, A, n, c, h1, h2.ext e⟩), (fun _ _ _ e ⟨b, A, n, c, h1, h2⟩ => ⟨b, A, n, c, h1, h2.ext e⟩), (fun _ _ _ e ⟨b, A, n, c, h1, h2⟩ => ⟨b, A, n, c, h1, h2.ext e⟩), Stays.pure _, Stays.pure _, Stays.pure _, True.intro⟩ ?steps ?done
                      case steps =>
                        simp only [List.take_succ_cons, List.take_zero]
                        refine Steps.cons (fun (v : Value) (X : World) => ∃ b A n c, v = .agg #[.bool b, .slice A n c] ∧ ZV X (.agg #[.bool b, .slice A n c]) (vx)) [] rfl (by kernel_rfl) rfl (by kernel_rfl) (fun y X ex0 hf K hK => ?_) ?_
                        · clear hf
                          have ex := (Ext.drw (Ext.refl _)).trans ex0
                          refine Box.mk ?_
                          simp only [fill, Act.put, Nat.reduceAdd, List.setIfInBounds_toArray, List.set_cons_zero, List.set_cons_succ] at hK ⊢
                          obtain ⟨bl, Al, nl, cl, k0, k1, kz⟩ := (HM.out.2.2.1.ext l69 ex)
                          go_simp
                          exact hK.out _ _ ⟨_, _, _, _, rfl, kz⟩ (Ext.refl _) (fun b hb => by cases hb)
                        refine Steps.cons (fun (v : Value) (X : World) => ∃ b A n c, v = .agg #[.bool b, .slice A n c] ∧ ZV X (.agg #[.bool b, .slice A n c]) (vx)) [0] rfl (by kernel_rfl) rfl (by kernel_rfl) (fun y X ex0 hf K hK => ?_) ?_
                        · have hh0 : ((fun (v : Value) (X : World) => ∃ b A n c, v = .agg #[.bool b, .slice A n c] ∧ ZV X (.agg #[.bool b, .slice A n c]) (vx))) (y 0) X := hf.1
                          refine Exists.elim hh0 (fun b0 hx0_0 => ?_)
                          refine Exists.elim hx0_0 (fun A0 hx0_1 => ?_)
                          refine Exists.elim hx0_1 (fun n0 hx0_2 => ?_)
                          refine Exists.elim hx0_2 (fun c0 hx0_3 => ?_)
                          have h0 := hx0_3.1
                          have z0 := hx0_3.2
                          clear hh0 hx0_0 hx0_1 hx0_2 hx0_3
                          clear hf
                          have ex := (Ext.drw (Ext.refl _)).trans ex0
                          refine Box.mk ?_
                          simp only [fill, Act.put, Nat.reduceAdd, List.setIfInBounds_toArray, List.set_cons_zero, List.set_cons_succ, h0] at hK ⊢
                          go_simp
                          refine (asAgg ((of_any _ _ _ _ _).mono fun e w' ⟨he, hb⟩ => ⟨_, he, (z0).ext hb, hb⟩)).mono ?_
                          rintro e V ⟨b9, A9, n9, c9, rfl, hz, hb⟩
                          try go_wp2_with fail
                          exact hK.out _ _ ⟨_, _, _, _, rfl, hz⟩ hb (fun b hb => by cases hb)
                        refine Steps.cons (fun (v : Value) (_ : World) => v = .int .i64 (sx)) [1] rfl (by kernel_rfl) rfl (by kernel_rfl) (fun y X ex0 hf K hK => ?_) ?_
                        · have hh1 : ((fun (v : Value) (X : World) => ∃ b A n c, v = .agg #[.bool b, .slice A n c] ∧ ZV X (.agg #[.bool b, .slice A n c]) (vx))) (y 1) X := hf.1
                          refine Exists.elim hh1 (fun b1 hx1_0 => ?_)
                          refine Exists.elim hx1_0 (fun A1 hx1_1 => ?_)
                          refine Exists.elim hx1_1 (fun n1 hx1_2 => ?_)
                          refine Exists.elim hx1_2 (fun c1 hx1_3 => ?_)
                          have h1 := hx1_3.1
                          have z1 := hx1_3.2
                          clear hh1 hx1_0 hx1_1 hx1_2 hx1_3
                          clear hf
                          have ex := (Ext.drw (Ext.refl _)).trans ex0
                          refine Box.mk ?_
                          simp only [fill, Act.put, Nat.reduceAdd, List.setIfInBounds_toArray, List.set_cons_zero, List.set_cons_succ, h1] at hK ⊢
                          go_simp
                          refine (SX.out _ _ z1).mono ?_
                          rintro e V ⟨rfl, hb⟩
                          try go_wp2_with fail
                          exact hK.out _ _ rfl hb (fun b hb => by cases hb)
                        refine Steps.cons (fun (v : Value) (_ : World) => v = .bool true) [2] rfl (by kernel_rfl) rfl (by kernel_rfl) (fun y X ex0 hf K hK => ?_) ?_
                        · have h2 : ((fun (v : Value) (_ : World) => v = .int .i64 (sx))) (y 2) X := hf.1
                          clear hf
                          have ex := (Ext.drw (Ext.refl _)).trans ex0
                          refine Box.mk ?_
                          simp only [fill, Act.put, Nat.reduceAdd, List.setIfInBounds_toArray, List.set_cons_zero, List.set_cons_succ, h2] at hK ⊢
                          go_simp
                          try rw [hsx0]
                          exact hK.out _ _ rfl (Ext.refl _) (fun b hb => by cases hb)
                        refine Steps.cons (fun (v : Value) (_ : World) => v = .bool true) [3, 2] rfl (by kernel_rfl) rfl (by kernel_rfl) (fun y X ex0 hf K hK => ?_) ?_
                        · have h3 : ((fun (v : Value) (_ : World) => v = .bool true)) (y 3) X := hf.1
                          have h2 : ((fun (v : Value) (_ : World) => v = .int .i64 (sx))) (y 2) X := hf.2.1
                          clear hf
                          have ex := (Ext.drw (Ext.refl _)).trans ex0
                          refine Box.mk ?_
                          simp only [fill, Act.put, Nat.reduceAdd, List.setIfInBounds_toArray, List.set_cons_zero, List.set_cons_succ, h3, h2] at hK ⊢
                          go_simp
                          exact hK.out _ _ rfl (Ext.refl _) (fun b hb => by cases hb)
                        refine Steps.cons (fun (v : Value) (X : World) => ∃ b A n c, v = .agg #[.bool b, .slice A n c] ∧ ZV X (.agg #[.bool b, .slice A n c]) (vx)) [4] rfl (by kernel_rfl) rfl (by kernel_rfl) (fun y X ex0 hf K hK => ?_) ?_
                        · have h4 : ((fun (v : Value) (_ : World) => v = .bool true)) (y 4) X := hf.1
                          clear hf
                          have ex := (Ext.drw (Ext.refl _)).trans ex0
                          refine Box.mk ?_
                          simp only [fill, Act.put, Nat.reduceAdd, List.setIfInBounds_toArray, List.set_cons_zero, List.set_cons_succ, h4] at hK ⊢
                          obtain ⟨bl, Al, nl, cl, k0, k1, kz⟩ := (HM.out.2.2.1.ext l69 ex)
                          go_simp
                          exact hK.out _ _ ⟨_, _, _, _, rfl, kz⟩ (Ext.refl _) (fun b hb => by cases hb)
                        refine Steps.cons (fun (v : Value) (X : World) => ∃ b A n c, v = .agg #[.bool b, .slice A n c] ∧ ZV X (.agg #[.bool b, .slice A n c]) (vx)) [5, 4] rfl (by kernel_rfl) rfl (by kernel_rfl) (fun y X ex0 hf K hK => ?_) ?_
                        · have hh5 : ((fun (v : Value) (X : World) => ∃ b A n c, v = .agg #[.bool b, .slice A n c] ∧ ZV X (.agg #[.bool b, .slice A n c]) (vx))) (y 5) X := hf.1
                          refine Exists.elim hh5 (fun b5 hx5_0 => ?_)
                          refine Exists.elim hx5_0 (fun A5 hx5_1 => ?_)
                          refine Exists.elim hx5_1 (fun n5 hx5_2 => ?_)
                          refine Exists.elim hx5_2 (fun c5 hx5_3 => ?_)
                          have h5 := hx5_3.1
                          have z5 := hx5_3.2
                          clear hh5 hx5_0 hx5_1 hx5_2 hx5_3
                          have h4 : ((fun (v : Value) (_ : World) => v = .bool true)) (y 4) X := hf.2.1
                          clear hf
                          have ex := (Ext.drw (Ext.refl _)).trans ex0
                          refine Box.mk ?_
                          simp only [fill, Act.put, Nat.reduceAdd, List.setIfInBounds_toArray, List.set_cons_zero, List.set_cons_succ, h5, h4] at hK ⊢
                          go_simp
                          refine (asAgg ((of_any _ _ _ _ _).mono fun e w' ⟨he, hb⟩ => ⟨_, he, (z5).ext hb, hb⟩)).mono ?_
                          rintro e V ⟨b9, A9, n9, c9, rfl, hz, hb⟩
                          try go_wp2_with fail
                          exact hK.out _ _ ⟨_, _, _, _, rfl, hz⟩ hb (fun b hb => by cases hb)
                        refine Steps.cons (fun (v : Value) (X : World) => ∃ b A n c, v = .agg #[.bool b, .slice A n c] ∧ ZV X (.agg #[.bool b, .slice A n c]) (vq)) [4] rfl (by kernel_rfl) rfl (by kernel_rfl) (fun y X ex0 hf K hK => ?_) ?_
                        · have h4 : ((fun (v : Value) (_ : World) => v = .bool true)) (y 4) X := hf.1
                          clear hf
                          have ex := (Ext.drw (Ext.refl _)).trans ex0
                          refine Box.mk ?_
                          simp only [fill, Act.put, Nat.reduceAdd, List.setIfInBounds_toArray, List.set_cons_zero, List.set_cons_succ, h4] at hK ⊢
                          obtain ⟨bl, Al, nl, cl, k0, k1, kz⟩ := (HM.out.1.ext lq9 ex)
                          go_simp
                          exact hK.out _ _ ⟨_, _, _, _, rfl, kz⟩ (Ext.refl _) (fun b hb => by cases hb)
                        refine Steps.cons (fun (v : Value) (_ : World) => v = .int .i64 (so)) [6, 7, 4] rfl (by kernel_rfl) rfl (by kernel_rfl) (fun y X ex0 hf K hK => ?_) ?_
                        · have hh6 : ((fun (v : Value) (X : World) => ∃ b A n c, v = .agg #[.bool b, .slice A n c] ∧ ZV X (.agg #[.bool b, .slice A n c]) (vx))) (y 6) X := hf.1
                          refine Exists.elim hh6 (fun b6 hx6_0 => ?_)
                          refine Exists.elim hx6_0 (fun A6 hx6_1 => ?_)
                          refine Exists.elim hx6_1 (fun n6 hx6_2 => ?_)
                          refine Exists.elim hx6_2 (fun c6 hx6_3 => ?_)
                          have h6 := hx6_3.1
                          have z6 := hx6_3.2
                          clear hh6 hx6_0 hx6_1 hx6_2 hx6_3
                          have hh7 : ((fun (v : Value) (X : World) => ∃ b A n c, v = .agg #[.bool b, .slice A n c] ∧ ZV X (.agg #[.bool b, .slice A n c]) (vq))) (y 7) X := hf.2.1
                          refine Exists.elim hh7 (fun b7 hx7_0 => ?_)
                          refine Exists.elim hx7_0 (fun A7 hx7_1 => ?_)
                          refine Exists.elim hx7_1 (fun n7 hx7_2 => ?_)
                          refine Exists.elim hx7_2 (fun c7 hx7_3 => ?_)
                          have h7 := hx7_3.1
                          have z7 := hx7_3.2
                          clear hh7 hx7_0 hx7_1 hx7_2 hx7_3
                          have h4 : ((fun (v : Value) (_ : World) => v = .bool true)) (y 4) X := hf.2.2.1
                          clear hf
                          have ex := (Ext.drw (Ext.refl _)).trans ex0
                          refine Box.mk ?_
                          simp only [fill, Act.put, Nat.reduceAdd, List.setIfInBounds_toArray, List.set_cons_zero, List.set_cons_succ, h6, h7, h4] at hK ⊢
                          go_simp
                          refine (SO.out _ _ _ z6 z7).mono ?_
                          rintro e V ⟨rfl, hb⟩
                          try go_wp2_with fail
                          exact hK.out _ _ rfl hb (fun b hb => by cases hb)
                        refine Steps.cons (fun (v : Value) (_ : World) => v = .bool (decide (so < 0))) [8, 4] rfl (by kernel_rfl) rfl (by kernel_rfl) (fun y X ex0 hf K hK => ?_) ?_
                        · have h8 : ((fun (v : Value) (_ : World) => v = .int .i64 (so))) (y 8) X := hf.1
                          have h4 : ((fun (v : Value) (_ : World) => v = .bool true)) (y 4) X := hf.2.1
                          clear hf
                          have ex := (Ext.drw (Ext.refl _)).trans ex0
                          refine Box.mk ?_
                          simp only [fill, Act.put, Nat.reduceAdd, List.setIfInBounds_toArray, List.set_cons_zero, List.set_cons_succ, h8, h4] at hK ⊢
                          go_simp
                          exact hK.out _ _ rfl (Ext.refl _) (fun b hb => by cases hb)
                        refine Steps.cons (fun (v : Value) (_ : World) => v = .bool (decide (so < 0))) [4, 9] rfl (by kernel_rfl) rfl (by kernel_rfl) (fun y X ex0 hf K hK => ?_) ?_
                        · have h4 : ((fun (v : Value) (_ : World) => v = .bool true)) (y 4) X := hf.1
                          have h9 : ((fun (v : Value) (_ : World) => v = .bool (decide (so < 0)))) (y 9) X := hf.2.1
                          clear hf
                          have ex := (Ext.drw (Ext.refl _)).trans ex0
                          refine Box.mk ?_
                          simp only [fill, Act.put, Nat.reduceAdd, List.setIfInBounds_toArray, List.set_cons_zero, List.set_cons_succ, h4, h9] at hK ⊢
                          go_simp
                          exact hK.out _ _ rfl (Ext.refl _) (fun b hb => by cases hb)
                        exact Steps.nil
                      case done =>
                        intro y X ex hf hlt hsep
                        have hh0 : ((fun (v : Value) (X : World) => ∃ b A n c, v = .agg #[.bool b, .slice A n c] ∧ ZV X (.agg #[.bool b, .slice A n c]) (vx))) (y 0) X := hf.1
                        refine Exists.elim hh0 (fun b0 hx0_0 => ?_)
                        refine Exists.elim hx0_0 (fun A0 hx0_1 => ?_)
                        refine Exists.elim hx0_1 (fun n0 hx0_2 => ?_)
                        refine Exists.elim hx0_2 (fun c0 hx0_3 => ?_)
                        have h0 := hx0_3.1
                        have z0 := hx0_3.2
                        clear hh0 hx0_0 hx0_1 hx0_2 hx0_3
                        have hh1 : ((fun (v : Value) (X : World) => ∃ b A n c, v = .agg #[.bool b, .slice A n c] ∧ ZV X (.agg #[.bool b, .slice A n c]) (vx))) (y 1) X := hf.2.1
                        refine Exists.elim hh1 (fun b1 hx1_0 => ?_)
                        refine Exists.elim hx1_0 (fun A1 hx1_1 => ?_)
                        refine Exists.elim hx1_1 (fun n1 hx1_2 => ?_)
                        refine Exists.elim hx1_2 (fun c1 hx1_3 => ?_)
                        have h1 := hx1_3.1
                        have z1 := hx1_3.2
                        clear hh1 hx1_0 hx1_1 hx1_2 hx1_3
                        have h2 : ((fun (v : Value) (_ : World) => v = .int .i64 (sx))) (y 2) X := hf.2.2.1
                        have h3 : ((fun (v : Value) (_ : World) => v = .bool true)) (y 3) X := hf.2.2.2.1
                        have h4 : ((fun (v : Value) (_ : World) => v = .bool true)) (y 4) X := hf.2.2.2.2.1
                        have hh5 : ((fun (v : Value) (X : World) => ∃ b A n c, v = .agg #[.bool b, .slice A n c] ∧ ZV X (.agg #[.bool b, .slice A n c]) (vx))) (y 5) X := hf.2.2.2.2.2.1
                        refine Exists.elim hh5 (fun b5 hx5_0 => ?_)
                        refine Exists.elim hx5_0 (fun A5 hx5_1 => ?_)
                        refine Exists.elim hx5_1 (fun n5 hx5_2 => ?_)
                        refine Exists.elim hx5_2 (fun c5 hx5_3 => ?_)
                        have h5 := hx5_3.1
                        have z5 := hx5_3.2
                        clear hh5 hx5_0 hx5_1 hx5_2 hx5_3
                        have hh6 : ((fun (v : Value) (X : World) => ∃ b A n c, v = .agg #[.bool b, .slice A n c] ∧ ZV X (.agg #[.bool b, .slice A n c]) (vx))) (y 6) X := hf.2.2.2.2.2.2.1
                        refine Exists.elim hh6 (fun b6 hx6_0 => ?_)
                        refine Exists.elim hx6_0 (fun A6 hx6_1 => ?_)
                        refine Exists.elim hx6_1 (fun n6 hx6_2 => ?_)
                        refine Exists.elim hx6_2 (fun c6 hx6_3 => ?_)
                        have h6 := hx6_3.1
                        have z6 := hx6_3.2
                        clear hh6 hx6_0 hx6_1 hx6_2 hx6_3
                        have hh7 : ((fun (v : Value) (X : World) => ∃ b A n c, v = .agg #[.bool b, .slice A n c] ∧ ZV X (.agg #[.bool b, .slice A n c]) (vq))) (y 7) X := hf.2.2.2.2.2.2.2.1
                        refine Exists.elim hh7 (fun b7 hx7_0 => ?_)
                        refine Exists.elim hx7_0 (fun A7 hx7_1 => ?_)
                        refine Exists.elim hx7_1 (fun n7 hx7_2 => ?_)
                        refine Exists.elim hx7_2 (fun c7 hx7_3 => ?_)
                        have h7 := hx7_3.1
                        have z7 := hx7_3.2
                        clear hh7 hx7_0 hx7_1 hx7_2 hx7_3
                        have h8 : ((fun (v : Value) (_ : World) => v = .int .i64 (so))) (y 8) X := hf.2.2.2.2.2.2.2.2.1
                        have h9 : ((fun (v : Value) (_ : World) => v = .bool (decide (so < 0)))) (y 9) X := hf.2.2.2.2.2.2.2.2.2.1
                        have h10 : ((fun (v : Value) (_ : World) => v = .bool (decide (so < 0)))) (y 10) X := hf.2.2.2.2.2.2.2.2.2.2.1
                        clear hf
                        clear hsep hlt
                        refine Box.mk ?_
                        simp only [List.drop_succ_cons, List.drop_zero, fill, Act.put, Nat.reduceAdd, List.setIfInBounds_toArray, List.set_cons_zero, List.set_cons_succ, h0, h1, h2, h3, h4, h5, h6, h7, h8, h9, h10]
                        clear h0 h1 h2 h3 h4 h5 h6 h7 h8 h9 h10
                        have HQZ := Lib.hid (HM.out.1.ext lq9 ex)
                        have EZ := Lib.hid (HM.out.2.2.2.trans ex)
                        clear ex z0 z1 z5 z6 z7
                        go_wp2_with fail
                        refine NoPanic.normal ?_
                        go_upto_region 22 with fail
                        obtain ⟨b5, A5, n5, c5, k0, k1, kz⟩ := HQZ.out
                        have Z0 := Lib.hid (zeroR_any (vq) _ _ kz)
                        clear kz
                        go_wp2_with fail
                        refine Z0.out.mono ?_
                        rintro e wq ⟨rfl, xq⟩
                        have XQ := Lib.hid (EZ.out.trans xq)
                        clear xq Z0 k0 k1
                        by_cases ht0 : t = 0
                        · rw [show decide ((vq) = 0) = true by simp [HQQ.out.1 ht0]]
                          go_wp2_with fail
                          refine (awake_any _).mono ?_
                          rintro e wz ⟨rfl, hbz⟩
                          replace hbz : Ext _ wz := hbz
                          have FX := Lib.hid (XQ.out.trans hbz)
                          clear hbz
                          go_wp2
                          go_ret
                          exact ⟨rfl, FX.out⟩
                        · rw [show decide ((vq) = 0) = false by simp [(HQQ.out.2 ht0).1]]
                          rw [show decide (so < 0) = true by rw [HSO.out]; exact sign_lt (by have := (HQQ.out.2 ht0).2; omega)]
                          go_wp2_with fail
                          refine (awake_any _).mono ?_
                          rintro e wz ⟨rfl, hbz⟩
                          replace hbz : Ext _ wz := hbz
                          have FX := Lib.hid (XQ.out.trans hbz)
                          clear hbz
                          go_wp2
                          go_ret
                          exact ⟨rfl, FX.out⟩
                    · have hsx0 : decide (0 ≤ sx) = false := by rw [hsx]; exact sign_nge (by omega)
                      have ht0 : t = 0 := by
                        rcases Int.decEq t 0 with h | h
                        · exact absurd (HQQ.out.2 h).2.1 hxx
                        · exact h
                      have HT0 := Lib.hid ht0
                      clear hsx hxx ht0
                      refine wp_region_noPanic ?_
                      refine wp_pool 11 [some 124, some 125, some 126, some 127, some 128, some 129, some 130, some 131, some 132, some 133, some 134] [] [] [(fun (v : Value) (X : World) => ∃ b A n c, v = .agg #[.bool b, .slice A n c] ∧ ZV X (.agg #[.bool b, .slice A n c]) (vx)), (fun (v : Value) (X : World) => ∃ b A n c, v = .agg #[.bool b, .slice A n c] ∧ ZV X (.agg #[.bool b, .slice A n c]) (vx)), (fun (v : Value) (_ : World) => v = .int .i64 (sx)), (fun (v : Value) (_ : World) => v = .bool false), (fun (v : Value) (_ : World) => v = .bool false), (fun (v : Value) (_ : World) => v = undef), (fun (v : Value) (_ : World) => v = undef), (fun (v : Value) (_ : World) => v = undef), (fun (v : Value) (_ : World) => v = undef), (fun (v : Value) (_ : World) => v = undef), (fun (v : Value) (_ : World) => v = .bool false)] [noF, noF, noF, noF, noF, noF, noF, noF, noF, noF, noF] (by kernel_rfl) (by kernel_rfl) (by kernel_rfl) (by kernel_rfl) (by kernel_rfl) (by kernel_rfl) (by kernel_rfl) (by kernel_rfl) (fun _ _ _ _ h => h) ⟨(fun _ _ _ e ⟨b, A, n, c, h1, h2⟩ => ⟨b, A, n, c, h1, h2.ext e⟩), (fun _ _ _ e ⟨b, A, n, c, h1, h2⟩ => ⟨b, A, n, c, h1, h2.ext e⟩), Stays.pure _, Stays.pure _, Stays.pure _, Stays.pure _, Stays.pure _, Stays.pure _, Stays.pure _, Stays.pure _, Stays.pure _, True.intro⟩ ?steps ?done
                      case steps =>
                        simp only [List.take_succ_cons, List.take_zero]
                        refine Steps.cons (fun (v : Value) (X : World) => ∃ b A n c, v = .agg #[.bool b, .slice A n c] ∧ ZV X (.agg #[.bool b, .slice A n c]) (vx)) [] rfl (by kernel_rfl) rfl (by kernel_rfl) (fun y X ex0 hf K hK => ?_) ?_
                        · clear hf
                          have ex := (Ext.drw (Ext.refl _)).trans ex0
                          refine Box.mk ?_
                          simp only [fill, Act.put, Nat.reduceAdd, List.setIfInBounds_toArray, List.set_cons_zero, List.set_cons_succ] at hK ⊢
                          obtain ⟨bl, Al, nl, cl, k0, k1, kz⟩ := (HM.out.2.2.1.ext l69 ex)
                          go_simp
                          exact hK.out _ _ ⟨_, _, _, _, rfl, kz⟩ (Ext.refl _) (fun b hb => by cases hb)
                        refine Steps.cons (fun (v : Value) (X : World) => ∃ b A n c, v = .agg #[.bool b, .slice A n c] ∧ ZV X (.agg #[.bool b, .slice A n c]) (vx)) [0] rfl (by kernel_rfl) rfl (by kernel_rfl) (fun y X ex0 hf K hK => ?_) ?_
                        · have hh0 : ((fun (v : Value) (X : World) => ∃ b A n c, v = .agg #[.bool b, .slice A n c] ∧ ZV X (.agg #[.bool b, .slice A n c]) (vx))) (y 0) X := hf.1
                          refine Exists.elim hh0 (fun b0 hx0_0 => ?_)
                          refine Exists.elim hx0_0 (fun A0 hx0_1 => ?_)
                          refine Exists.elim hx0_1 (fun n0 hx0_2 => ?_)
                          refine Exists.elim hx0_2 (fun c0 hx0_3 => ?_)
                          have h0 := hx0_3.1
                          have z0 := hx0_3.2
                          clear hh0 hx0_0 hx0_1 hx0_2 hx0_3
                          clear hf
                          have ex := (Ext.drw (Ext.refl _)).trans ex0
                          refine Box.mk ?_
                          simp only [fill, Act.put, Nat.reduceAdd, List.setIfInBounds_toArray, List.set_cons_zero, List.set_cons_succ, h0] at hK ⊢
                          go_simp
                          refine (asAgg ((of_any _ _ _ _ _).mono fun e w' ⟨he, hb⟩ => ⟨_, he, (z0).ext hb, hb⟩)).mono ?_
                          rintro e V ⟨b9, A9, n9, c9, rfl, hz, hb⟩
                          try go_wp2_with fail
                          exact hK.out _ _ ⟨_, _, _, _, rfl, hz⟩ hb (fun b hb => by cases hb)
                        refine Steps.cons (fun (v : Value) (_ : World) => v = .int .i64 (sx)) [1] rfl (by kernel_rfl) rfl (by kernel_rfl) (fun y X ex0 hf K hK => ?_) ?_
                        · have hh1 : ((fun (v : Value) (X : World) => ∃ b A n c, v = .agg #[.bool b, .slice A n c] ∧ ZV X (.agg #[.bool b, .slice A n c]) (vx))) (y 1) X := hf.1
                          refine Exists.elim hh1 (fun b1 hx1_0 => ?_)
                          refine Exists.elim hx1_0 (fun A1 hx1_1 => ?_)
                          refine Exists.elim hx1_1 (fun n1 hx1_2 => ?_)
                          refine Exists.elim hx1_2 (fun c1 hx1_3 => ?_)
                          have h1 := hx1_3.1
                          have z1 := hx1_3.2
                          clear hh1 hx1_0 hx1_1 hx1_2 hx1_3
                          clear hf
                          have ex := (Ext.drw (Ext.refl _)).trans ex0
                          refine Box.mk ?_
                          simp only [fill, Act.put, Nat.reduceAdd, List.setIfInBounds_toArray, List.set_cons_zero, List.set_cons_succ, h1] at hK ⊢
                          go_simp
                          refine (SX.out _ _ z1).mono ?_
                          rintro e V ⟨rfl, hb⟩
                          try go_wp2_with fail
                          exact hK.out _ _ rfl hb (fun b hb => by cases hb)
                        refine Steps.cons (fun (v : Value) (_ : World) => v = .bool false) [2] rfl (by kernel_rfl) rfl (by kernel_rfl) (fun y X ex0 hf K hK => ?_) ?_
                        · have h2 : ((fun (v : Value) (_ : World) => v = .int .i64 (sx))) (y 2) X := hf.1
                          clear hf
                          have ex := (Ext.drw (Ext.refl _)).trans ex0
                          refine Box.mk ?_
                          simp only [fill, Act.put, Nat.reduceAdd, List.setIfInBounds_toArray, List.set_cons_zero, List.set_cons_succ, h2] at hK ⊢
                          go_simp
                          try rw [hsx0]
                          exact hK.out _ _ rfl (Ext.refl _) (fun b hb => by cases hb)
                        refine Steps.cons (fun (v : Value) (_ : World) => v = .bool false) [3, 2] rfl (by kernel_rfl) rfl (by kernel_rfl) (fun y X ex0 hf K hK => ?_) ?_
                        · have h3 : ((fun (v : Value) (_ : World) => v = .bool false)) (y 3) X := hf.1
                          have h2 : ((fun (v : Value) (_ : World) => v = .int .i64 (sx))) (y 2) X := hf.2.1
                          clear hf
                          have ex := (Ext.drw (Ext.refl _)).trans ex0
                          refine Box.mk ?_
                          simp only [fill, Act.put, Nat.reduceAdd, List.setIfInBounds_toArray, List.set_cons_zero, List.set_cons_succ, h3, h2] at hK ⊢
                          go_simp
                          exact hK.out _ _ rfl (Ext.refl _) (fun b hb => by cases hb)
                        refine Steps.cons (fun (v : Value) (_ : World) => v = undef) [4] rfl (by kernel_rfl) rfl (by kernel_rfl) (fun y X ex0 hf K hK => ?_) ?_
                        · have h4 : ((fun (v : Value) (_ : World) => v = .bool false)) (y 4) X := hf.1
                          clear hf
                          have ex := (Ext.drw (Ext.refl _)).trans ex0
                          refine Box.mk ?_
                          simp only [fill, Act.put, Nat.reduceAdd, List.setIfInBounds_toArray, List.set_cons_zero, List.set_cons_succ, h4] at hK ⊢
                          go_simp
                          exact hK.out _ _ rfl (Ext.refl _) (fun b hb => by cases hb)
                        refine Steps.cons (fun (v : Value) (_ : World) => v = undef) [5, 4] rfl (by kernel_rfl) rfl (by kernel_rfl) (fun y X ex0 hf K hK => ?_) ?_
                        · have h5 : ((fun (v : Value) (_ : World) => v = undef)) (y 5) X := hf.1
                          have h4 : ((fun (v : Value) (_ : World) => v = .bool false)) (y 4) X := hf.2.1
                          clear hf
                          have ex := (Ext.drw (Ext.refl _)).trans ex0
                          refine Box.mk ?_
                          simp only [fill, Act.put, Nat.reduceAdd, List.setIfInBounds_toArray, List.set_cons_zero, List.set_cons_succ, h5, h4] at hK ⊢
                          go_simp
                          exact hK.out _ _ rfl (Ext.refl _) (fun b hb => by cases hb)
                        refine Steps.cons (fun (v : Value) (_ : World) => v = undef) [4] rfl (by kernel_rfl) rfl (by kernel_rfl) (fun y X ex0 hf K hK => ?_) ?_
                        · have h4 : ((fun (v : Value) (_ : World) => v = .bool false)) (y 4) X := hf.1
                          clear hf
                          have ex := (Ext.drw (Ext.refl _)).trans ex0
                          refine Box.mk ?_
                          simp only [fill, Act.put, Nat.reduceAdd, List.setIfInBounds_toArray, List.set_cons_zero, List.set_cons_succ, h4] at hK ⊢
                          go_simp
                          exact hK.out _ _ rfl (Ext.refl _) (fun b hb => by cases hb)
                        refine Steps.cons (fun (v : Value) (_ : World) => v = undef) [6, 7, 4] rfl (by kernel_rfl) rfl (by kernel_rfl) (fun y X ex0 hf K hK => ?_) ?_
                        · have h6 : ((fun (v : Value) (_ : World) => v = undef)) (y 6) X := hf.1
                          have h7 : ((fun (v : Value) (_ : World) => v = undef)) (y 7) X := hf.2.1
                          have h4 : ((fun (v : Value) (_ : World) => v = .bool false)) (y 4) X := hf.2.2.1
                          clear hf
                          have ex := (Ext.drw (Ext.refl _)).trans ex0
                          refine Box.mk ?_
                          simp only [fill, Act.put, Nat.reduceAdd, List.setIfInBounds_toArray, List.set_cons_zero, List.set_cons_succ, h6, h7, h4] at hK ⊢
                          go_simp
                          exact hK.out _ _ rfl (Ext.refl _) (fun b hb => by cases hb)
                        refine Steps.cons (fun (v : Value) (_ : World) => v = undef) [8, 4] rfl (by kernel_rfl) rfl (by kernel_rfl) (fun y X ex0 hf K hK => ?_) ?_
                        · have h8 : ((fun (v : Value) (_ : World) => v = undef)) (y 8) X := hf.1
                          have h4 : ((fun (v : Value) (_ : World) => v = .bool false)) (y 4) X := hf.2.1
                          clear hf
                          have ex := (Ext.drw (Ext.refl _)).trans ex0
                          refine Box.mk ?_
                          simp only [fill, Act.put, Nat.reduceAdd, List.setIfInBounds_toArray, List.set_cons_zero, List.set_cons_succ, h8, h4] at hK ⊢
                          go_simp
                          exact hK.out _ _ rfl (Ext.refl _) (fun b hb => by cases hb)
                        refine Steps.cons (fun (v : Value) (_ : World) => v = .bool false) [4, 9] rfl (by kernel_rfl) rfl (by kernel_rfl) (fun y X ex0 hf K hK => ?_) ?_
                        · have h4 : ((fun (v : Value) (_ : World) => v = .bool false)) (y 4) X := hf.1
                          have h9 : ((fun (v : Value) (_ : World) => v = undef)) (y 9) X := hf.2.1
                          clear hf
                          have ex := (Ext.drw (Ext.refl _)).trans ex0
                          refine Box.mk ?_
                          simp only [fill, Act.put, Nat.reduceAdd, List.setIfInBounds_toArray, List.set_cons_zero, List.set_cons_succ, h4, h9] at hK ⊢
                          go_simp
                          exact hK.out _ _ rfl (Ext.refl _) (fun b hb => by cases hb)
                        exact Steps.nil
                      case done =>
                        intro y X ex hf hlt hsep
                        have hh0 : ((fun (v : Value) (X : World) => ∃ b A n c, v = .agg #[.bool b, .slice A n c] ∧ ZV X (.agg #[.bool b, .slice A n c]) (vx))) (y 0) X := hf.1
                        refine Exists.elim hh0 (fun b0 hx0_0 => ?_)
                        refine Exists.elim hx0_0 (fun A0 hx0_1 => ?_)
                        refine Exists.elim hx0_1 (fun n0 hx0_2 => ?_)
                        refine Exists.elim hx0_2 (fun c0 hx0_3 => ?_)
                        have h0 := hx0_3.1
                        have z0 := hx0_3.2
                        clear hh0 hx0_0 hx0_1 hx0_2 hx0_3
                        have hh1 : ((fun (v : Value) (X : World) => ∃ b A n c, v = .agg #[.bool b, .slice A n c] ∧ ZV X (.agg #[.bool b, .slice A n c]) (vx))) (y 1) X := hf.2.1
                        refine Exists.elim hh1 (fun b1 hx1_0 => ?_)
                        refine Exists.elim hx1_0 (fun A1 hx1_1 => ?_)
                        refine Exists.elim hx1_1 (fun n1 hx1_2 => ?_)
                        refine Exists.elim hx1_2 (fun c1 hx1_3 => ?_)
                        have h1 := hx1_3.1
                        have z1 := hx1_3.2
                        clear hh1 hx1_0 hx1_1 hx1_2 hx1_3
                        have h2 : ((fun (v : Value) (_ : World) => v = .int .i64 (sx))) (y 2) X := hf.2.2.1
                        have h3 : ((fun (v : Value) (_ : World) => v = .bool false)) (y 3) X := hf.2.2.2.1
                        have h4 : ((fun (v : Value) (_ : World) => v = .bool false)) (y 4) X := hf.2.2.2.2.1
                        have h5 : ((fun (v : Value) (_ : World) => v = undef)) (y 5) X := hf.2.2.2.2.2.1
                        have h6 : ((fun (v : Value) (_ : World) => v = undef)) (y 6) X := hf.2.2.2.2.2.2.1
                        have h7 : ((fun (v : Value) (_ : World) => v = undef)) (y 7) X := hf.2.2.2.2.2.2.2.1
                        have h8 : ((fun (v : Value) (_ : World) => v = undef)) (y 8) X := hf.2.2.2.2.2.2.2.2.1
                        have h9 : ((fun (v : Value) (_ : World) => v = undef)) (y 9) X := hf.2.2.2.2.2.2.2.2.2.1
                        have h10 : ((fun (v : Value) (_ : World) => v = .bool false)) (y 10) X := hf.2.2.2.2.2.2.2.2.2.2.1
                        clear hf
                        clear hsep hlt
                        refine Box.mk ?_
                        simp only [List.drop_succ_cons, List.drop_zero, fill, Act.put, Nat.reduceAdd, List.setIfInBounds_toArray, List.set_cons_zero, List.set_cons_succ, h0, h1, h2, h3, h4, h5, h6, h7, h8, h9, h10]
                        clear h0 h1 h2 h3 h4 h5 h6 h7 h8 h9 h10
                        have HQZ := Lib.hid (HM.out.1.ext lq9 ex)
                        have EZ := Lib.hid (HM.out.2.2.2.trans ex)
                        clear ex z0 z1
                        go_wp2_with fail
                        refine NoPanic.normal ?_
                        go_upto_region 22 with fail
                        obtain ⟨b5, A5, n5, c5, k0, k1, kz⟩ := HQZ.out
                        have Z0 := Lib.hid (zeroR_any (vq) _ _ kz)
                        clear kz
                        go_wp2_with fail
                        refine Z0.out.mono ?_
                        rintro e wq ⟨rfl, xq⟩
                        have XQ := Lib.hid (EZ.out.trans xq)
                        clear xq Z0 k0 k1
                        rw [show decide ((vq) = 0) = true by simp [HQQ.out.1 HT0.out]]
                        go_wp2_with fail
                        refine (awake_any _).mono ?_
                        rintro e wz ⟨rfl, hbz⟩
                        replace hbz : Ext _ wz := hbz
                        have FX := Lib.hid (XQ.out.trans hbz)
                        clear hbz
                        go_wp2
                        go_ret
                        exact ⟨rfl, FX.out⟩
    · have hq : vld q l' = false := by simpa using hq
      rw [hq]
      have hv : (vld p l && vld q l') = false := by rw [hq]; simp
      obtain rfl : er = 2 := ExtIs.bad HIE.out hv
      clear hv hq HIE
      go_wp2_with fail
      refine (awake_any _).mono ?_
      rintro e wz ⟨rfl, hbz⟩
      replace hbz : Ext _ wz := hbz
      have FX := Lib.hid ((E1.out.trans X3.out).trans hbz)
      clear hbz
      go_wp2
      go_ret
      exact ⟨rfl, FX.out⟩
  · have hp : vld p l = false := by simpa using hp
    rw [hp]
    have hv : (vld p l && vld q l') = false := by rw [hp]; rfl
    obtain rfl : er = 2 := ExtIs.bad HIE.out hv
    clear hv hp HIE x2
    go_wp2_with fail
    refine (awake_any _).mono ?_
    rintro e wz ⟨rfl, hbz⟩
    replace hbz : Ext _ wz := hbz
    have FX := Lib.hid ((E1.out.trans X2.out).trans hbz)
    clear hbz
    go_wp2
    go_ret
    exact ⟨rfl, FX.out⟩
end Go.Proofs.Ytmlopkkbgpfdnaa
