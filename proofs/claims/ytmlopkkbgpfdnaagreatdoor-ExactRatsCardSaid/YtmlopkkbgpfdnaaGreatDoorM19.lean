/- Walks of the reference: Rat, ratio, RatAdd, RatSub, RatMul, RatDiv. -/
import Derived.Test.YtmlopkkbgpfdnaaGreatDoorM18
import Derived.Test.YtmlopkkbgpfdnaaGreatDoorM13
namespace Go.Proofs.YtmlopkkbgpfdnaaGreatDoor
open Go.RowKit

theorem RA.ex (ok : Bool) (N D : Int) : ∃ x y er, RA ok N D x y er := by
  cases ok
  · exact ⟨0, 0, 2, .inl ⟨rfl, rfl, rfl, rfl⟩⟩
  · by_cases h : (dig N.natAbs).length ≤ 256 ∧ (dig D.natAbs).length ≤ 256
    · exact ⟨N, D, 0, .inr (.inl ⟨rfl, h, rfl, rfl, rfl⟩)⟩
    · exact ⟨0, 0, 5, .inr (.inr ⟨rfl, h, rfl, rfl, rfl⟩)⟩
theorem RA.cases_ {N D x y er : Int} (h : RA true N D x y er) : (((dig N.natAbs).length ≤ 256 ∧ (dig D.natAbs).length ≤ 256) ∧ x = N ∧ y = D ∧ er = 0) ∨ (¬ ((dig N.natAbs).length ≤ 256 ∧ (dig D.natAbs).length ≤ 256) ∧ x = 0 ∧ y = 0 ∧ er = 5) := by
  rcases h with ⟨h, -⟩ | ⟨-, h⟩ | ⟨-, h⟩
  · cases h
  · exact .inl h
  · exact .inr h
theorem RA.no {N D x y er : Int} (h : RA false N D x y er) : x = 0 ∧ y = 0 ∧ er = 2 := by
  rcases h with ⟨-, h⟩ | ⟨h, -⟩ | ⟨h, -⟩
  · exact h
  · cases h
  · cases h
/-- a Rat and whether it fits -/
def RetRB (w : World) (x y : Int) (b : Bool) (e : Ending) (w' : World) : Prop := ∃ p A n c q A' n' c', e = .returned (.tuple #[.agg #[.bool p, .slice A n c, .bool q, .slice A' n' c'], .bool b]) ∧ ZV w' (.agg #[.bool p, .slice A n c]) x ∧ ZV w' (.agg #[.bool q, .slice A' n' c']) y ∧ Below w.heap.size w w'
set_option maxHeartbeats 800000 in
set_option maxRecDepth 100000 in
theorem ratRR_big (vx vy : Int) (v : Value) (w : World) (hf : FV w v vx vy) (hbig : ¬ ((dig vx.natAbs).length ≤ 256 ∧ (dig vy.natAbs).length ≤ 256)) :
    Calls Tryz.prog 51 #[v] w (RetRB w 0 0 false) := by
  obtain ⟨p1, P1, m1, d1, p2, P2, m2, d2, rfl, hz1, hz2⟩ := hf
  obtain ⟨W1, hW1⟩ : ∃ W1, W1 = (w.alloc (.cells #[.bool p1, .slice P1 m1 d1, .bool p2, .slice P2 m2 d2] 59)).alloc (.cells #[.bool false, .slice none 0 0, .bool false, .slice none 0 0] 26) := ⟨_, rfl⟩
  have e1 : Ext w W1 := by rw [hW1]; exact ((Ext.refl w).alc _).alc _
  have i2 : HF W1 w.heap.size vx vy := by rw [hW1]; exact (HF.new w p1 P1 m1 d1 p2 P2 m2 d2 59 hz1 hz2).ext ((Ext.refl _).alc _)
  have r4 : FB W1 (w.heap.size + 1) := by
    have := FB.new (w.alloc (.cells #[.bool p1, .slice P1 m1 d1, .bool p2, .slice P2 m2 d2] 59)) false none 0 0 false none 0 0 26
    rw [World.size_alloc] at this
    rw [hW1]; exact this
  have I2 := Lib.hid i2; have R4 := Lib.hid r4; have E1 := Lib.hid e1; have HW1 := Lib.hid hW1
  clear i2 r4 e1 hW1 hz1 hz2
  have lr := R4.out.lt
  obtain ⟨bn, hbn⟩ : ∃ b, b = decide ((dig vx.natAbs).length ≤ 256) := ⟨_, rfl⟩
  obtain ⟨bd, hbd⟩ : ∃ b, b = decide ((dig vy.natAbs).length ≤ 256) := ⟨_, rfl⟩
  have FN := Lib.hid (fun W a (h : ZV W a vx) => (fitsR_any vx a W h)); have FD := Lib.hid (fun W a (h : ZV W a vy) => (fitsR_any vy a W h))
  simp only [← hbn] at FN
  simp only [← hbd] at FD
  have HB := Lib.hid (And.intro hbn hbd)
  clear hbn hbd
  go_enter Tryz.func51, Tryz.ntmps51
  go_upto_region 1 with fail
  rw [← HW1.out]
  clear HW1
  obtain ⟨b1, A1, n1, c1, k0, k1, kz⟩ := I2.out.1
  have F1 := Lib.hid (FN.out _ _ kz)
  clear kz
  go_wp2_with fail
  refine F1.out.mono ?_
  rintro e W2 ⟨rfl, x2⟩
  replace x2 : Ext W1 W2 := x2
  have I2 := Lib.hid (I2.out.ext x2); have R4 := Lib.hid (R4.out.ext x2); have E2 := Lib.hid (E1.out.trans x2)
  clear x2 k0 k1 F1 E1
  have HBG := Lib.hid hbig; clear hbig
  by_cases hb1 : bn = true
  · subst hb1
    obtain ⟨b1, A1, n1, c1, k0, k1, kz⟩ := I2.out.2
    have F1 := Lib.hid (FD.out _ _ kz)
    clear kz
    go_wp2_with fail
    refine F1.out.mono ?_
    rintro e W3 ⟨rfl, x3⟩
    replace x3 : Ext W2 W3 := x3
    have I2 := Lib.hid (I2.out.ext x3); have R4 := Lib.hid (R4.out.ext x3); have E3 := Lib.hid (E2.out.trans x3)
    clear x3 k0 k1 F1 E2
    have hb2 : bd = false := by
      rw [HB.out.2]; exact decide_eq_false fun h => HBG.out ⟨of_decide_eq_true HB.out.1.symm, h⟩
    subst hb2
    have r4 := R4.out
    obtain ⟨_, _, _, _, k40, k41, k42, k43, k44, k45, k46, k47⟩ := put4_walk r4 (.bool false) (.slice none 0 0) (.bool false)
    obtain ⟨W', hW'⟩ : ∃ W', W' = put4 W3 (w.heap.size + 1) (.bool false) (.slice none 0 0) (.bool false) (.slice none 0 0) := ⟨_, rfl⟩
    obtain ⟨f0, f1, f2, f3⟩ := put4_cells r4 (.bool false) (.slice none 0 0) (.bool false) (.slice none 0 0)
    have hz1 := ((ZV.zero W3)).put4 r4 (.bool false) (.slice none 0 0) (.bool false) (.slice none 0 0)
    rw [← hW'] at hz1
    have hz2 := ((ZV.zero W3)).put4 r4 (.bool false) (.slice none 0 0) (.bool false) (.slice none 0 0)
    rw [← hW'] at hz2
    have hbf : Below w.heap.size w W' := by rw [hW']; exact put4_below (Ext.below E3.out) (by omega) (.bool false) (.slice none 0 0) (.bool false) (.slice none 0 0)
    rw [← hW'] at f0 f1 f2 f3
    unfold put4 at hW'
    have HG := Lib.hid (And.intro hz1 (And.intro hz2 (And.intro hbf (And.intro f0 (And.intro f1 (And.intro f2 f3))))))
    have HW' := Lib.hid hW'
    clear hz1 hz2 hbf f0 f1 f2 f3 hW'
    clear r4
    go_wp2
    rw [← HW'.out]
    obtain ⟨hz1, hz2, hbf, f0, f1, f2, f3⟩ := HG.out
    exact bodyPost_ret (v := .tuple #[.agg #[.bool false, .slice none 0 0, .bool false, .slice none 0 0], .bool false]) (by simp [results, Tryz.results51, go_sem, f0, f1, f2, f3]) rfl ⟨_, _, _, _, _, _, _, _, rfl, hz1, hz2, hbf⟩
  · have hb1 : bn = false := by simpa using hb1
    subst hb1
    have r4 := R4.out
    obtain ⟨_, _, _, _, k40, k41, k42, k43, k44, k45, k46, k47⟩ := put4_walk r4 (.bool false) (.slice none 0 0) (.bool false)
    obtain ⟨W', hW'⟩ : ∃ W', W' = put4 W2 (w.heap.size + 1) (.bool false) (.slice none 0 0) (.bool false) (.slice none 0 0) := ⟨_, rfl⟩
    obtain ⟨f0, f1, f2, f3⟩ := put4_cells r4 (.bool false) (.slice none 0 0) (.bool false) (.slice none 0 0)
    have hz1 := ((ZV.zero W2)).put4 r4 (.bool false) (.slice none 0 0) (.bool false) (.slice none 0 0)
    rw [← hW'] at hz1
    have hz2 := ((ZV.zero W2)).put4 r4 (.bool false) (.slice none 0 0) (.bool false) (.slice none 0 0)
    rw [← hW'] at hz2
    have hbf : Below w.heap.size w W' := by rw [hW']; exact put4_below (Ext.below E2.out) (by omega) (.bool false) (.slice none 0 0) (.bool false) (.slice none 0 0)
    rw [← hW'] at f0 f1 f2 f3
    unfold put4 at hW'
    have HG := Lib.hid (And.intro hz1 (And.intro hz2 (And.intro hbf (And.intro f0 (And.intro f1 (And.intro f2 f3))))))
    have HW' := Lib.hid hW'
    clear hz1 hz2 hbf f0 f1 f2 f3 hW'
    clear r4
    go_wp2
    rw [← HW'.out]
    obtain ⟨hz1, hz2, hbf, f0, f1, f2, f3⟩ := HG.out
    exact bodyPost_ret (v := .tuple #[.agg #[.bool false, .slice none 0 0, .bool false, .slice none 0 0], .bool false]) (by simp [results, Tryz.results51, go_sem, f0, f1, f2, f3]) rfl ⟨_, _, _, _, _, _, _, _, rfl, hz1, hz2, hbf⟩
set_option maxHeartbeats 800000 in
set_option maxRecDepth 100000 in
theorem ratRR_fit (vx vy : Int) (v : Value) (w : World) (hf : FV w v vx vy) (hfit : (dig vx.natAbs).length ≤ 256 ∧ (dig vy.natAbs).length ≤ 256) :
    Calls Tryz.prog 51 #[v] w (RetRB w vx vy true) := by
  obtain ⟨p1, P1, m1, d1, p2, P2, m2, d2, rfl, hz1, hz2⟩ := hf
  obtain ⟨W1, hW1⟩ : ∃ W1, W1 = (w.alloc (.cells #[.bool p1, .slice P1 m1 d1, .bool p2, .slice P2 m2 d2] 59)).alloc (.cells #[.bool false, .slice none 0 0, .bool false, .slice none 0 0] 26) := ⟨_, rfl⟩
  have e1 : Ext w W1 := by rw [hW1]; exact ((Ext.refl w).alc _).alc _
  have i2 : HF W1 w.heap.size vx vy := by rw [hW1]; exact (HF.new w p1 P1 m1 d1 p2 P2 m2 d2 59 hz1 hz2).ext ((Ext.refl _).alc _)
  have r4 : FB W1 (w.heap.size + 1) := by
    have := FB.new (w.alloc (.cells #[.bool p1, .slice P1 m1 d1, .bool p2, .slice P2 m2 d2] 59)) false none 0 0 false none 0 0 26
    rw [World.size_alloc] at this
    rw [hW1]; exact this
  have I2 := Lib.hid i2; have R4 := Lib.hid r4; have E1 := Lib.hid e1; have HW1 := Lib.hid hW1
  clear i2 r4 e1 hW1 hz1 hz2
  have lr := R4.out.lt
  obtain ⟨bn, hbn⟩ : ∃ b, b = decide ((dig vx.natAbs).length ≤ 256) := ⟨_, rfl⟩
  obtain ⟨bd, hbd⟩ : ∃ b, b = decide ((dig vy.natAbs).length ≤ 256) := ⟨_, rfl⟩
  have FN := Lib.hid (fun W a (h : ZV W a vx) => (fitsR_any vx a W h)); have FD := Lib.hid (fun W a (h : ZV W a vy) => (fitsR_any vy a W h))
  simp only [← hbn] at FN
  simp only [← hbd] at FD
  have HB := Lib.hid (And.intro hbn hbd)
  clear hbn hbd
  go_enter Tryz.func51, Tryz.ntmps51
  go_upto_region 1 with fail
  rw [← HW1.out]
  clear HW1
  obtain ⟨b1, A1, n1, c1, k0, k1, kz⟩ := I2.out.1
  have F1 := Lib.hid (FN.out _ _ kz)
  clear kz
  go_wp2_with fail
  refine F1.out.mono ?_
  rintro e W2 ⟨rfl, x2⟩
  replace x2 : Ext W1 W2 := x2
  have I2 := Lib.hid (I2.out.ext x2); have R4 := Lib.hid (R4.out.ext x2); have E2 := Lib.hid (E1.out.trans x2)
  clear x2 k0 k1 F1 E1
  have hb1 : bn = true := by rw [HB.out.1]; exact decide_eq_true hfit.1
  have hb2 : bd = true := by rw [HB.out.2]; exact decide_eq_true hfit.2
  clear hfit
  subst hb1 hb2
  obtain ⟨b1, A1, n1, c1, k0, k1, kz⟩ := I2.out.2
  have F1 := Lib.hid (FD.out _ _ kz)
  clear kz
  go_wp2_with fail
  refine F1.out.mono ?_
  rintro e W3 ⟨rfl, x3⟩
  replace x3 : Ext W2 W3 := x3
  have I2 := Lib.hid (I2.out.ext x3); have R4 := Lib.hid (R4.out.ext x3); have E3 := Lib.hid (E2.out.trans x3)
  clear x3 k0 k1 F1 E2
  have lg := R4.out.lt
  go_upto_region 3 with fail
  refine wp_region_noPanic ?_
  refine wp_pool 7 [some 15, some 16, some 17, some 18, some 19, some 20, some 21] [] [] [(fun (v : Value) (_ : World) => v = .pointer (some ⟨w.heap.size, 0, none⟩)), (fun (v : Value) (X : World) => ∃ b A n c, v = .agg #[.bool b, .slice A n c] ∧ ZV X (.agg #[.bool b, .slice A n c]) (vx)), (fun (v : Value) (X : World) => ∃ b A n c, v = .agg #[.bool b, .slice A n c] ∧ ZV X (.agg #[.bool b, .slice A n c]) (vx)), (fun (v : Value) (_ : World) => v = .pointer (some ⟨w.heap.size, 2, none⟩)), (fun (v : Value) (X : World) => ∃ b A n c, v = .agg #[.bool b, .slice A n c] ∧ ZV X (.agg #[.bool b, .slice A n c]) (vy)), (fun (v : Value) (X : World) => ∃ b A n c, v = .agg #[.bool b, .slice A n c] ∧ ZV X (.agg #[.bool b, .slice A n c]) (vy)), (fun (v : Value) (X : World) => ∃ b A n c b' A' n' c', v = .agg #[.bool b, .slice A n c, .bool b', .slice A' n' c'] ∧ ZV X (.agg #[.bool b, .slice A n c]) (vx) ∧ ZV X (.agg #[.bool b', .slice A' n' c']) (vy))] [noF, noF, noF, noF, noF, noF, noF] (by kernel_rfl) (by kernel_rfl) (by kernel_rfl) (by kernel_rfl) (by kernel_rfl) (by kernel_rfl) (by kernel_rfl) (by kernel_rfl) (fun _ _ _ _ h => h) ⟨Stays.pure _, (fun _ _ _ e ⟨b, A, n, c, h1, h2⟩ => ⟨b, A, n, c, h1, h2.ext e⟩), (fun _ _ _ e ⟨b, A, n, c, h1, h2⟩ => ⟨b, A, n, c, h1, h2.ext e⟩), Stays.pure _, (fun _ _ _ e ⟨b, A, n, c, h1, h2⟩ => ⟨b, A, n, c, h1, h2.ext e⟩), (fun _ _ _ e ⟨b, A, n, c, h1, h2⟩ => ⟨b, A, n, c, h1, h2.ext e⟩), (fun _ _ _ e ⟨b, A, n, c, b', A', n', c', h1, h2, h3⟩ => ⟨b, A, n, c, b', A', n', c', h1, h2.ext e, h3.ext e⟩), True.intro⟩ ?steps ?done
  case steps =>
    simp only [List.take_succ_cons, List.take_zero]
    refine Steps.cons (fun (v : Value) (_ : World) => v = .pointer (some ⟨w.heap.size, 0, none⟩)) [] rfl (by kernel_rfl) rfl (by kernel_rfl) (fun y X ex0 hf K hK => ?_) ?_
    · clear hf
      have ex := (Ext.drw (Ext.refl _)).trans ex0
      refine Box.mk ?_
      simp only [fill, Act.put, Nat.reduceAdd, List.setIfInBounds_toArray, List.set_cons_zero, List.set_cons_succ] at hK ⊢
      go_simp
      exact hK.out _ _ rfl (Ext.refl _) (fun b hb => by cases hb)
    refine Steps.cons (fun (v : Value) (X : World) => ∃ b A n c, v = .agg #[.bool b, .slice A n c] ∧ ZV X (.agg #[.bool b, .slice A n c]) (vx)) [0] rfl (by kernel_rfl) rfl (by kernel_rfl) (fun y X ex0 hf K hK => ?_) ?_
    · have h0 : ((fun (v : Value) (_ : World) => v = .pointer (some ⟨w.heap.size, 0, none⟩))) (y 0) X := hf.1
      clear hf
      have ex := (Ext.drw (Ext.refl _)).trans ex0
      refine Box.mk ?_
      simp only [fill, Act.put, Nat.reduceAdd, List.setIfInBounds_toArray, List.set_cons_zero, List.set_cons_succ, h0] at hK ⊢
      obtain ⟨bl, Al, nl, cl, k0, k1, kz⟩ := (I2.out.1.ext (by omega) ex)
      go_simp
      exact hK.out _ _ ⟨_, _, _, _, rfl, kz⟩ (Ext.refl _) (fun b hb => by cases hb)
    refine Steps.cons (fun (v : Value) (X : World) => ∃ b A n c, v = .agg #[.bool b, .slice A n c] ∧ ZV X (.agg #[.bool b, .slice A n c]) (vx)) [1] rfl (by kernel_rfl) rfl (by kernel_rfl) (fun y X ex0 hf K hK => ?_) ?_
    · obtain ⟨b1, A1, n1, c1, h1, z1⟩ : ((fun (v : Value) (X : World) => ∃ b A n c, v = .agg #[.bool b, .slice A n c] ∧ ZV X (.agg #[.bool b, .slice A n c]) (vx))) (y 1) X := hf.1
      clear hf
      have ex := (Ext.drw (Ext.refl _)).trans ex0
      refine Box.mk ?_
      simp only [fill, Act.put, Nat.reduceAdd, List.setIfInBounds_toArray, List.set_cons_zero, List.set_cons_succ, h1] at hK ⊢
      go_simp
      refine (asAgg ((int_any _ _ _ _ _).mono fun e w' ⟨he, hb⟩ => ⟨_, he, (z1).ext hb, hb⟩)).mono ?_
      rintro e V ⟨b9, A9, n9, c9, rfl, hz, hb⟩
      try go_wp2_with fail
      exact hK.out _ _ ⟨_, _, _, _, rfl, hz⟩ hb (fun b hb => by cases hb)
    refine Steps.cons (fun (v : Value) (_ : World) => v = .pointer (some ⟨w.heap.size, 2, none⟩)) [] rfl (by kernel_rfl) rfl (by kernel_rfl) (fun y X ex0 hf K hK => ?_) ?_
    · clear hf
      have ex := (Ext.drw (Ext.refl _)).trans ex0
      refine Box.mk ?_
      simp only [fill, Act.put, Nat.reduceAdd, List.setIfInBounds_toArray, List.set_cons_zero, List.set_cons_succ] at hK ⊢
      go_simp
      exact hK.out _ _ rfl (Ext.refl _) (fun b hb => by cases hb)
    refine Steps.cons (fun (v : Value) (X : World) => ∃ b A n c, v = .agg #[.bool b, .slice A n c] ∧ ZV X (.agg #[.bool b, .slice A n c]) (vy)) [3] rfl (by kernel_rfl) rfl (by kernel_rfl) (fun y X ex0 hf K hK => ?_) ?_
    · have h3 : ((fun (v : Value) (_ : World) => v = .pointer (some ⟨w.heap.size, 2, none⟩))) (y 3) X := hf.1
      clear hf
      have ex := (Ext.drw (Ext.refl _)).trans ex0
      refine Box.mk ?_
      simp only [fill, Act.put, Nat.reduceAdd, List.setIfInBounds_toArray, List.set_cons_zero, List.set_cons_succ, h3] at hK ⊢
      obtain ⟨bl, Al, nl, cl, k0, k1, kz⟩ := (I2.out.2.ext (by omega) ex)
      go_simp
      exact hK.out _ _ ⟨_, _, _, _, rfl, kz⟩ (Ext.refl _) (fun b hb => by cases hb)
    refine Steps.cons (fun (v : Value) (X : World) => ∃ b A n c, v = .agg #[.bool b, .slice A n c] ∧ ZV X (.agg #[.bool b, .slice A n c]) (vy)) [4, 2] rfl (by kernel_rfl) rfl (by kernel_rfl) (fun y X ex0 hf K hK => ?_) ?_
    · obtain ⟨b4, A4, n4, c4, h4, z4⟩ : ((fun (v : Value) (X : World) => ∃ b A n c, v = .agg #[.bool b, .slice A n c] ∧ ZV X (.agg #[.bool b, .slice A n c]) (vy))) (y 4) X := hf.1
      obtain ⟨b2, A2, n2, c2, h2, z2⟩ : ((fun (v : Value) (X : World) => ∃ b A n c, v = .agg #[.bool b, .slice A n c] ∧ ZV X (.agg #[.bool b, .slice A n c]) (vx))) (y 2) X := hf.2.1
      clear hf
      have ex := (Ext.drw (Ext.refl _)).trans ex0
      refine Box.mk ?_
      simp only [fill, Act.put, Nat.reduceAdd, List.setIfInBounds_toArray, List.set_cons_zero, List.set_cons_succ, h4, h2] at hK ⊢
      go_simp
      refine (asAgg ((int_any _ _ _ _ _).mono fun e w' ⟨he, hb⟩ => ⟨_, he, (z4).ext hb, hb⟩)).mono ?_
      rintro e V ⟨b9, A9, n9, c9, rfl, hz, hb⟩
      try go_wp2_with fail
      exact hK.out _ _ ⟨_, _, _, _, rfl, hz⟩ hb (fun b hb => by cases hb)
    refine Steps.cons (fun (v : Value) (X : World) => ∃ b A n c b' A' n' c', v = .agg #[.bool b, .slice A n c, .bool b', .slice A' n' c'] ∧ ZV X (.agg #[.bool b, .slice A n c]) (vx) ∧ ZV X (.agg #[.bool b', .slice A' n' c']) (vy)) [2, 5] rfl (by kernel_rfl) rfl (by kernel_rfl) (fun y X ex0 hf K hK => ?_) ?_
    · obtain ⟨b2, A2, n2, c2, h2, z2⟩ : ((fun (v : Value) (X : World) => ∃ b A n c, v = .agg #[.bool b, .slice A n c] ∧ ZV X (.agg #[.bool b, .slice A n c]) (vx))) (y 2) X := hf.1
      obtain ⟨b5, A5, n5, c5, h5, z5⟩ : ((fun (v : Value) (X : World) => ∃ b A n c, v = .agg #[.bool b, .slice A n c] ∧ ZV X (.agg #[.bool b, .slice A n c]) (vy))) (y 5) X := hf.2.1
      clear hf
      have ex := (Ext.drw (Ext.refl _)).trans ex0
      refine Box.mk ?_
      simp only [fill, Act.put, Nat.reduceAdd, List.setIfInBounds_toArray, List.set_cons_zero, List.set_cons_succ, h2, h5] at hK ⊢
      go_simp
      exact hK.out _ _ ⟨_, _, _, _, _, _, _, _, rfl, z2, z5⟩ (Ext.refl _) (fun b hb => by cases hb)
    exact Steps.nil
  case done =>
    intro y X ex hf hlt hsep
    have h0 : ((fun (v : Value) (_ : World) => v = .pointer (some ⟨w.heap.size, 0, none⟩))) (y 0) X := hf.1
    obtain ⟨b1, A1, n1, c1, h1, z1⟩ : ((fun (v : Value) (X : World) => ∃ b A n c, v = .agg #[.bool b, .slice A n c] ∧ ZV X (.agg #[.bool b, .slice A n c]) (vx))) (y 1) X := hf.2.1
    obtain ⟨b2, A2, n2, c2, h2, z2⟩ : ((fun (v : Value) (X : World) => ∃ b A n c, v = .agg #[.bool b, .slice A n c] ∧ ZV X (.agg #[.bool b, .slice A n c]) (vx))) (y 2) X := hf.2.2.1
    have h3 : ((fun (v : Value) (_ : World) => v = .pointer (some ⟨w.heap.size, 2, none⟩))) (y 3) X := hf.2.2.2.1
    obtain ⟨b4, A4, n4, c4, h4, z4⟩ : ((fun (v : Value) (X : World) => ∃ b A n c, v = .agg #[.bool b, .slice A n c] ∧ ZV X (.agg #[.bool b, .slice A n c]) (vy))) (y 4) X := hf.2.2.2.2.1
    obtain ⟨b5, A5, n5, c5, h5, z5⟩ : ((fun (v : Value) (X : World) => ∃ b A n c, v = .agg #[.bool b, .slice A n c] ∧ ZV X (.agg #[.bool b, .slice A n c]) (vy))) (y 5) X := hf.2.2.2.2.2.1
    obtain ⟨b6, A6, n6, c6, bb6, AA6, nn6, cc6, h6, z6, y6⟩ : ((fun (v : Value) (X : World) => ∃ b A n c b' A' n' c', v = .agg #[.bool b, .slice A n c, .bool b', .slice A' n' c'] ∧ ZV X (.agg #[.bool b, .slice A n c]) (vx) ∧ ZV X (.agg #[.bool b', .slice A' n' c']) (vy))) (y 6) X := hf.2.2.2.2.2.2.1
    clear hf
    clear hsep hlt
    refine Box.mk ?_
    simp only [List.drop_succ_cons, List.drop_zero, fill, Act.put, Nat.reduceAdd, List.setIfInBounds_toArray, List.set_cons_zero, List.set_cons_succ, h0, h1, h2, h3, h4, h5, h6]
    clear h0 h1 h2 h3 h4 h5 h6
    have r4 := R4.out.ext ex
    obtain ⟨_, _, _, _, k40, k41, k42, k43, k44, k45, k46, k47⟩ := put4_walk r4 (.bool b6) (.slice A6 n6 c6) (.bool bb6)
    obtain ⟨W', hW'⟩ : ∃ W', W' = put4 X (w.heap.size + 1) (.bool b6) (.slice A6 n6 c6) (.bool bb6) (.slice AA6 nn6 cc6) := ⟨_, rfl⟩
    obtain ⟨f0, f1, f2, f3⟩ := put4_cells r4 (.bool b6) (.slice A6 n6 c6) (.bool bb6) (.slice AA6 nn6 cc6)
    have hz1 := (z6).put4 r4 (.bool b6) (.slice A6 n6 c6) (.bool bb6) (.slice AA6 nn6 cc6)
    rw [← hW'] at hz1
    have hz2 := (y6).put4 r4 (.bool b6) (.slice A6 n6 c6) (.bool bb6) (.slice AA6 nn6 cc6)
    rw [← hW'] at hz2
    have hbf : Below w.heap.size w W' := by rw [hW']; exact put4_below (Ext.below (E3.out.trans ex)) (by omega) (.bool b6) (.slice A6 n6 c6) (.bool bb6) (.slice AA6 nn6 cc6)
    rw [← hW'] at f0 f1 f2 f3
    unfold put4 at hW'
    have HG := Lib.hid (And.intro hz1 (And.intro hz2 (And.intro hbf (And.intro f0 (And.intro f1 (And.intro f2 f3))))))
    have HW' := Lib.hid hW'
    clear hz1 hz2 hbf f0 f1 f2 f3 hW' ex z1 z2 z4 z5 z6 y6 r4
    go_wp2_with fail
    refine NoPanic.normal ?_
    go_wp2
    rw [← HW'.out]
    obtain ⟨hz1, hz2, hbf, f0, f1, f2, f3⟩ := HG.out
    exact bodyPost_ret (v := .tuple #[.agg #[.bool b6, .slice A6 n6 c6, .bool bb6, .slice AA6 nn6 cc6], .bool true]) (by simp [results, Tryz.results51, go_sem, f0, f1, f2, f3]) rfl ⟨_, _, _, _, _, _, _, _, rfl, hz1, hz2, hbf⟩
set_option maxHeartbeats 800000 in
set_option maxRecDepth 100000 in
theorem ratioR_fit (vx vy : Int) (v : Value) (w : World) (hf : FV w v vx vy) (hfit : (dig vx.natAbs).length ≤ 256 ∧ (dig vy.natAbs).length ≤ 256) :
    Calls Tryz.prog 26 #[v] w (RetR w vx vy 0) := by
  obtain ⟨p1, P1, m1, d1, p2, P2, m2, d2, rfl, hz1, hz2⟩ := hf
  obtain ⟨W1, hW1⟩ : ∃ W1, W1 = (w.alloc (.cells #[.bool p1, .slice P1 m1 d1, .bool p2, .slice P2 m2 d2] 59)).alloc (.cells #[.bool false, .slice none 0 0, .bool false, .slice none 0 0] 26) := ⟨_, rfl⟩
  have e1 : Ext w W1 := by rw [hW1]; exact ((Ext.refl w).alc _).alc _
  have i2 : HF W1 w.heap.size vx vy := by rw [hW1]; exact (HF.new w p1 P1 m1 d1 p2 P2 m2 d2 59 hz1 hz2).ext ((Ext.refl _).alc _)
  have r4 : FB W1 (w.heap.size + 1) := by
    have := FB.new (w.alloc (.cells #[.bool p1, .slice P1 m1 d1, .bool p2, .slice P2 m2 d2] 59)) false none 0 0 false none 0 0 26
    rw [World.size_alloc] at this
    rw [hW1]; exact this
  have I2 := Lib.hid i2; have R4 := Lib.hid r4; have E1 := Lib.hid e1; have HW1 := Lib.hid hW1
  clear i2 r4 e1 hW1 hz1 hz2
  have lr := R4.out.lt
  obtain ⟨⟨b1, A1, n1, c1, k0, k1, kz⟩, ⟨b2, A2, n2, c2, k2, k3, ky⟩⟩ := I2.out
  have F1 := Lib.hid (ratRR_fit vx vy _ W1 (fv_mk kz ky) hfit)
  clear kz ky hfit
  go_enter Tryz.func26, Tryz.ntmps26
  go_upto_region 1 with fail
  rw [← HW1.out]
  clear HW1
  go_wp2_with fail
  refine F1.out.mono ?_
  rintro e W2 ⟨b3, A3, n3, c3, b4, A4, n4, c4, rfl, y1, y2, x2⟩
  replace x2 : Ext W1 W2 := x2
  have Y1 := Lib.hid y1; have Y2 := Lib.hid y2; have X2 := Lib.hid x2
  clear y1 y2 x2 k0 k1 k2 k3 F1
  go_upto_region 2 with fail
  obtain ⟨W3, hW3⟩ : ∃ W3, W3 = W2.alloc (Obj.cells #[.bool b3, .slice A3 n3 c3, .bool b4, .slice A4 n4 c4] 26) := ⟨_, rfl⟩
  have e3 : Ext W1 W3 := by rw [hW3]; exact X2.out.alc _
  have i4 : HF W3 W2.heap.size vx vy := by rw [hW3]; exact HF.new W2 b3 A3 n3 c3 b4 A4 n4 c4 26 Y1.out Y2.out
  rw [← hW3]
  have R4 := Lib.hid (R4.out.ext e3); have E3 := Lib.hid (E1.out.trans e3)
  clear e3 hW3 X2 Y1 Y2 E1 I2
  obtain ⟨⟨b5, A5, n5, c5, k0, k1, kz⟩, ⟨b6, A6, n6, c6, k2, k3, ky⟩⟩ := i4
  have r4 := R4.out
  obtain ⟨_, _, _, _, k40, k41, k42, k43, k44, k45, k46, k47⟩ := put4_walk r4 (.bool b5) (.slice A5 n5 c5) (.bool b6)
  obtain ⟨W', hW'⟩ : ∃ W', W' = put4 W3 (w.heap.size + 1) (.bool b5) (.slice A5 n5 c5) (.bool b6) (.slice A6 n6 c6) := ⟨_, rfl⟩
  obtain ⟨f0, f1, f2, f3⟩ := put4_cells r4 (.bool b5) (.slice A5 n5 c5) (.bool b6) (.slice A6 n6 c6)
  have hz1 := (kz).put4 r4 (.bool b5) (.slice A5 n5 c5) (.bool b6) (.slice A6 n6 c6)
  rw [← hW'] at hz1
  have hz2 := (ky).put4 r4 (.bool b5) (.slice A5 n5 c5) (.bool b6) (.slice A6 n6 c6)
  rw [← hW'] at hz2
  have hbf : Below w.heap.size w W' := by rw [hW']; exact put4_below (Ext.below E3.out) (by omega) (.bool b5) (.slice A5 n5 c5) (.bool b6) (.slice A6 n6 c6)
  rw [← hW'] at f0 f1 f2 f3
  unfold put4 at hW'
  have HG := Lib.hid (And.intro hz1 (And.intro hz2 (And.intro hbf (And.intro f0 (And.intro f1 (And.intro f2 f3))))))
  have HW' := Lib.hid hW'
  clear hz1 hz2 hbf f0 f1 f2 f3 hW'
  clear r4 kz ky
  go_wp2
  rw [← HW'.out]
  obtain ⟨hz1, hz2, hbf, f0, f1, f2, f3⟩ := HG.out
  exact bodyPost_ret (v := .tuple #[.agg #[.bool b5, .slice A5 n5 c5, .bool b6, .slice A6 n6 c6], .int .i64 0]) (by simp [results, Tryz.results26, go_sem, f0, f1, f2, f3]) rfl ⟨_, _, _, _, _, _, _, _, rfl, hz1, hz2, hbf⟩
set_option maxHeartbeats 800000 in
set_option maxRecDepth 100000 in
theorem ratioR_big (vx vy : Int) (v : Value) (w : World) (hf : FV w v vx vy) (hbig : ¬ ((dig vx.natAbs).length ≤ 256 ∧ (dig vy.natAbs).length ≤ 256)) :
    Calls Tryz.prog 26 #[v] w (RetR w 0 0 5) := by
  obtain ⟨p1, P1, m1, d1, p2, P2, m2, d2, rfl, hz1, hz2⟩ := hf
  obtain ⟨W1, hW1⟩ : ∃ W1, W1 = (w.alloc (.cells #[.bool p1, .slice P1 m1 d1, .bool p2, .slice P2 m2 d2] 59)).alloc (.cells #[.bool false, .slice none 0 0, .bool false, .slice none 0 0] 26) := ⟨_, rfl⟩
  have e1 : Ext w W1 := by rw [hW1]; exact ((Ext.refl w).alc _).alc _
  have i2 : HF W1 w.heap.size vx vy := by rw [hW1]; exact (HF.new w p1 P1 m1 d1 p2 P2 m2 d2 59 hz1 hz2).ext ((Ext.refl _).alc _)
  have r4 : FB W1 (w.heap.size + 1) := by
    have := FB.new (w.alloc (.cells #[.bool p1, .slice P1 m1 d1, .bool p2, .slice P2 m2 d2] 59)) false none 0 0 false none 0 0 26
    rw [World.size_alloc] at this
    rw [hW1]; exact this
  have I2 := Lib.hid i2; have R4 := Lib.hid r4; have E1 := Lib.hid e1; have HW1 := Lib.hid hW1
  clear i2 r4 e1 hW1 hz1 hz2
  have lr := R4.out.lt
  obtain ⟨⟨b1, A1, n1, c1, k0, k1, kz⟩, ⟨b2, A2, n2, c2, k2, k3, ky⟩⟩ := I2.out
  have F1 := Lib.hid (ratRR_big vx vy _ W1 (fv_mk kz ky) hbig)
  clear kz ky hbig
  go_enter Tryz.func26, Tryz.ntmps26
  go_upto_region 1 with fail
  rw [← HW1.out]
  clear HW1
  go_wp2_with fail
  refine F1.out.mono ?_
  rintro e W2 ⟨b3, A3, n3, c3, b4, A4, n4, c4, rfl, y1, y2, x2⟩
  replace x2 : Ext W1 W2 := x2
  have Y1 := Lib.hid y1; have Y2 := Lib.hid y2; have X2 := Lib.hid x2
  clear y1 y2 x2 k0 k1 k2 k3 F1
  go_upto_region 2 with fail
  obtain ⟨W3, hW3⟩ : ∃ W3, W3 = W2.alloc (Obj.cells #[.bool b3, .slice A3 n3 c3, .bool b4, .slice A4 n4 c4] 26) := ⟨_, rfl⟩
  have e3 : Ext W1 W3 := by rw [hW3]; exact X2.out.alc _
  have i4 : HF W3 W2.heap.size 0 0 := by rw [hW3]; exact HF.new W2 b3 A3 n3 c3 b4 A4 n4 c4 26 Y1.out Y2.out
  rw [← hW3]
  have R4 := Lib.hid (R4.out.ext e3); have E3 := Lib.hid (E1.out.trans e3)
  clear e3 hW3 X2 Y1 Y2 E1 I2
  clear i4
  have r4 := R4.out
  obtain ⟨_, _, _, _, k40, k41, k42, k43, k44, k45, k46, k47⟩ := put4_walk r4 (.bool false) (.slice none 0 0) (.bool false)
  obtain ⟨W', hW'⟩ : ∃ W', W' = put4 W3 (w.heap.size + 1) (.bool false) (.slice none 0 0) (.bool false) (.slice none 0 0) := ⟨_, rfl⟩
  obtain ⟨f0, f1, f2, f3⟩ := put4_cells r4 (.bool false) (.slice none 0 0) (.bool false) (.slice none 0 0)
  have hz1 := ((ZV.zero W3)).put4 r4 (.bool false) (.slice none 0 0) (.bool false) (.slice none 0 0)
  rw [← hW'] at hz1
  have hz2 := ((ZV.zero W3)).put4 r4 (.bool false) (.slice none 0 0) (.bool false) (.slice none 0 0)
  rw [← hW'] at hz2
  have hbf : Below w.heap.size w W' := by rw [hW']; exact put4_below (Ext.below E3.out) (by omega) (.bool false) (.slice none 0 0) (.bool false) (.slice none 0 0)
  rw [← hW'] at f0 f1 f2 f3
  unfold put4 at hW'
  have HG := Lib.hid (And.intro hz1 (And.intro hz2 (And.intro hbf (And.intro f0 (And.intro f1 (And.intro f2 f3))))))
  have HW' := Lib.hid hW'
  clear hz1 hz2 hbf f0 f1 f2 f3 hW'
  clear r4
  go_wp2
  rw [← HW'.out]
  obtain ⟨hz1, hz2, hbf, f0, f1, f2, f3⟩ := HG.out
  exact bodyPost_ret (v := .tuple #[.agg #[.bool false, .slice none 0 0, .bool false, .slice none 0 0], .int .i64 5]) (by simp [results, Tryz.results26, go_sem, f0, f1, f2, f3]) rfl ⟨_, _, _, _, _, _, _, _, rfl, hz1, hz2, hbf⟩
theorem ratioR_any (N D x y er : Int) (v : Value) (w : World) (hf : FV w v N D) (hra : RA true N D x y er) : Calls Tryz.prog 26 #[v] w (RetR w x y er) := by
  rcases hra.cases_ with ⟨h, rfl, rfl, rfl⟩ | ⟨h, rfl, rfl, rfl⟩
  · exact ratioR_fit _ _ v w hf h
  · exact ratioR_big _ _ v w hf h
end Go.Proofs.YtmlopkkbgpfdnaaGreatDoor
