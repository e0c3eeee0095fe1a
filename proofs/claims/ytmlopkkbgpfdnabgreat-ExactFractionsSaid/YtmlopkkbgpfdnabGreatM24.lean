/- Walks: RatCmp of both. · Walks: combine, Sub. · Walks: combine, Mul. -/
import Derived.Test.YtmlopkkbgpfdnabGreatM23
import Derived.Test.YtmlopkkbgpfdnabGreatM2
namespace Go.Proofs.YtmlopkkbgpfdnabGreat
open Go.RowKit

/-- what RatCmp returns -/
def RetC (w : World) (x er : Int) (e : Ending) (w' : World) : Prop := e = .returned (.tuple #[.int .i64 x, .int .i64 er]) ∧ Ext w w'
set_option maxHeartbeats 800000 in
set_option maxRecDepth 100000 in
theorem compareF_any (vx vy ux uy : Int) (v v' : Value) (w : World) (hf : FV w v vx vy) (hg : FV w v' ux uy) (lf : Lf vx vy 300) (lg : Lf ux uy 300) :
    Calls Tryz.prog 47 #[v, v'] w fun e w' => e = .returned (.int .i64 (vx * uy - ux * vy).sign) ∧ Ext w w' := by
  obtain ⟨vt, hvt⟩ : ∃ vt, vt = (vx * uy - ux * vy).sign := ⟨_, rfl⟩
  rw [← hvt]
  obtain ⟨vs, hvs⟩ : ∃ vs, vs = vt := ⟨_, rfl⟩
  unfold Lf at lf lg
  have CP := Lib.hid (show ∀ W a b, ZV W a (vx * uy) → ZV W b (ux * vy) → Calls Tryz.prog 99 #[a, b] W fun e w' => e = .returned (.int .i64 vs) ∧ Ext W w' from fun W a b h k => by rw [hvs, hvt]; exact compareZ_any _ _ a b W h k (Nat.le_trans (len_times lf.1 lg.2) (by omega)) (Nat.le_trans (len_times lg.1 lf.2) (by omega)))
  have HVS := Lib.hid hvs
  clear hvs hvt
  obtain ⟨p1, P1, m1, d1, p2, P2, m2, d2, rfl, hz1, hz2⟩ := hf
  obtain ⟨p3, P3, m3, d3, p4, P4, m4, d4, rfl, hz3, hz4⟩ := hg
  obtain ⟨W1, hW1⟩ : ∃ W1, W1 = (w.alloc (.cells #[.bool p1, .slice P1 m1 d1, .bool p2, .slice P2 m2 d2] 72)).alloc (.cells #[.bool p3, .slice P3 m3 d3, .bool p4, .slice P4 m4 d4] 72) := ⟨_, rfl⟩
  have e1 : Ext w W1 := by rw [hW1]; exact ((Ext.refl w).alc _).alc _
  have i2 : HF W1 w.heap.size vx vy := by rw [hW1]; exact (HF.new w p1 P1 m1 d1 p2 P2 m2 d2 72 hz1 hz2).ext ((Ext.refl _).alc _)
  have i3 : HF W1 (w.heap.size + 1) ux uy := by
    have := HF.new (w.alloc (.cells #[.bool p1, .slice P1 m1 d1, .bool p2, .slice P2 m2 d2] 72)) p3 P3 m3 d3 p4 P4 m4 d4 72 (hz3.ext ((Ext.refl _).alc _)) (hz4.ext ((Ext.refl _).alc _))
    rw [World.size_alloc] at this
    rw [hW1]; exact this
  have I2 := Lib.hid i2; have I3 := Lib.hid i3; have E1 := Lib.hid e1; have HW1 := Lib.hid hW1
  have l2 := i2.lt; have l3 := i3.lt
  clear i2 i3 e1 hW1 hz1 hz2 hz3 hz4
  go_enter Tryz.func47, Tryz.ntmps47
  go_upto_region 1 with fail
  rw [← HW1.out]
  clear HW1
  refine wp_region_noPanic ?_
  refine wp_pool 11 [some 5, some 6, some 7, some 8, some 9, some 10, some 11, some 12, some 13, some 14, some 15] [] [] [(fun (v : Value) (_ : World) => v = .pointer (some ⟨w.heap.size, 0, none⟩)), (RZ (vx)), (fun (v : Value) (_ : World) => v = .pointer (some ⟨(w.heap.size + 1), 2, none⟩)), (RZ (uy)), (RZ (vx * uy)), (fun (v : Value) (_ : World) => v = .pointer (some ⟨(w.heap.size + 1), 0, none⟩)), (RZ (ux)), (fun (v : Value) (_ : World) => v = .pointer (some ⟨w.heap.size, 2, none⟩)), (RZ (vy)), (RZ (ux * vy)), (fun (v : Value) (_ : World) => v = .int .i64 vs)] [noF, noF, noF, noF, noF, noF, noF, noF, noF, noF, noF] (by kernel_rfl) (by kernel_rfl) (by kernel_rfl) (by kernel_rfl) (by kernel_rfl) (by kernel_rfl) (by kernel_rfl) (by kernel_rfl) (fun _ _ _ _ h => h) ⟨Stays.pure _, (fun _ _ _ e ⟨b, A, n, c, h1, h2⟩ => ⟨b, A, n, c, h1, h2.ext e⟩), Stays.pure _, (fun _ _ _ e ⟨b, A, n, c, h1, h2⟩ => ⟨b, A, n, c, h1, h2.ext e⟩), (fun _ _ _ e ⟨b, A, n, c, h1, h2⟩ => ⟨b, A, n, c, h1, h2.ext e⟩), Stays.pure _, (fun _ _ _ e ⟨b, A, n, c, h1, h2⟩ => ⟨b, A, n, c, h1, h2.ext e⟩), Stays.pure _, (fun _ _ _ e ⟨b, A, n, c, h1, h2⟩ => ⟨b, A, n, c, h1, h2.ext e⟩), (fun _ _ _ e ⟨b, A, n, c, h1, h2⟩ => ⟨b, A, n, c, h1, h2.ext e⟩), Stays.pure _, True.intro⟩ ?steps ?done
  case steps =>
    simp only [List.take_succ_cons, List.take_zero]
    refine Steps.cons (fun (v : Value) (_ : World) => v = .pointer (some ⟨w.heap.size, 0, none⟩)) [] rfl (by kernel_rfl) rfl (by kernel_rfl) (fun y X ex0 hf K hK => ?_) ?_
    · clear hf
      have ex := (Ext.drw (Ext.refl _)).trans ex0
      refine Box.mk ?_
      simp only [fill, Act.put, Nat.reduceAdd, List.setIfInBounds_toArray, List.set_cons_zero, List.set_cons_succ] at hK ⊢
      go_simp
      exact hK.out _ _ rfl (Ext.refl _) (fun b hb => by cases hb)
    refine Steps.cons (RZ (vx)) [0] rfl (by kernel_rfl) rfl (by kernel_rfl) (fun y X ex0 hf K hK => ?_) ?_
    · have h0 : ((fun (v : Value) (_ : World) => v = .pointer (some ⟨w.heap.size, 0, none⟩))) (y 0) X := hf.1
      clear hf
      have ex := (Ext.drw (Ext.refl _)).trans ex0
      refine Box.mk ?_
      simp only [fill, Act.put, Nat.reduceAdd, List.setIfInBounds_toArray, List.set_cons_zero, List.set_cons_succ, h0] at hK ⊢
      obtain ⟨bl, Al, nl, cl, k0, k1, kz⟩ := (I2.out.1.ext (by omega) ex)
      go_simp
      exact hK.out _ _ ⟨_, _, _, _, rfl, kz⟩ (Ext.refl _) (fun b hb => by cases hb)
    refine Steps.cons (fun (v : Value) (_ : World) => v = .pointer (some ⟨(w.heap.size + 1), 2, none⟩)) [] rfl (by kernel_rfl) rfl (by kernel_rfl) (fun y X ex0 hf K hK => ?_) ?_
    · clear hf
      have ex := (Ext.drw (Ext.refl _)).trans ex0
      refine Box.mk ?_
      simp only [fill, Act.put, Nat.reduceAdd, List.setIfInBounds_toArray, List.set_cons_zero, List.set_cons_succ] at hK ⊢
      go_simp
      exact hK.out _ _ rfl (Ext.refl _) (fun b hb => by cases hb)
    refine Steps.cons (RZ (uy)) [2] rfl (by kernel_rfl) rfl (by kernel_rfl) (fun y X ex0 hf K hK => ?_) ?_
    · have h2 : ((fun (v : Value) (_ : World) => v = .pointer (some ⟨(w.heap.size + 1), 2, none⟩))) (y 2) X := hf.1
      clear hf
      have ex := (Ext.drw (Ext.refl _)).trans ex0
      refine Box.mk ?_
      simp only [fill, Act.put, Nat.reduceAdd, List.setIfInBounds_toArray, List.set_cons_zero, List.set_cons_succ, h2] at hK ⊢
      obtain ⟨bl, Al, nl, cl, k0, k1, kz⟩ := (I3.out.2.ext (by omega) ex)
      go_simp
      exact hK.out _ _ ⟨_, _, _, _, rfl, kz⟩ (Ext.refl _) (fun b hb => by cases hb)
    refine Steps.cons (RZ (vx * uy)) [1, 3] rfl (by kernel_rfl) rfl (by kernel_rfl) (fun y X ex0 hf K hK => ?_) ?_
    · obtain ⟨b1, A1, n1, c1, h1, z1⟩ : ((RZ (vx))) (y 1) X := hf.1
      obtain ⟨b3, A3, n3, c3, h3, z3⟩ : ((RZ (uy))) (y 3) X := hf.2.1
      clear hf
      have ex := (Ext.drw (Ext.refl _)).trans ex0
      refine Box.mk ?_
      simp only [fill, Act.put, Nat.reduceAdd, List.setIfInBounds_toArray, List.set_cons_zero, List.set_cons_succ, h1, h3] at hK ⊢
      go_simp
      refine (asAgg (timesZ_any _ _ _ _ _ z1 z3 (by omega) (by omega))).mono ?_
      rintro e V ⟨b9, A9, n9, c9, rfl, hz, hb⟩
      try go_wp2_with fail
      exact hK.out _ _ ⟨_, _, _, _, rfl, hz⟩ hb (fun b hb => by cases hb)
    refine Steps.cons (fun (v : Value) (_ : World) => v = .pointer (some ⟨(w.heap.size + 1), 0, none⟩)) [] rfl (by kernel_rfl) rfl (by kernel_rfl) (fun y X ex0 hf K hK => ?_) ?_
    · clear hf
      have ex := (Ext.drw (Ext.refl _)).trans ex0
      refine Box.mk ?_
      simp only [fill, Act.put, Nat.reduceAdd, List.setIfInBounds_toArray, List.set_cons_zero, List.set_cons_succ] at hK ⊢
      go_simp
      exact hK.out _ _ rfl (Ext.refl _) (fun b hb => by cases hb)
    refine Steps.cons (RZ (ux)) [5] rfl (by kernel_rfl) rfl (by kernel_rfl) (fun y X ex0 hf K hK => ?_) ?_
    · have h5 : ((fun (v : Value) (_ : World) => v = .pointer (some ⟨(w.heap.size + 1), 0, none⟩))) (y 5) X := hf.1
      clear hf
      have ex := (Ext.drw (Ext.refl _)).trans ex0
      refine Box.mk ?_
      simp only [fill, Act.put, Nat.reduceAdd, List.setIfInBounds_toArray, List.set_cons_zero, List.set_cons_succ, h5] at hK ⊢
      obtain ⟨bl, Al, nl, cl, k0, k1, kz⟩ := (I3.out.1.ext (by omega) ex)
      go_simp
      exact hK.out _ _ ⟨_, _, _, _, rfl, kz⟩ (Ext.refl _) (fun b hb => by cases hb)
    refine Steps.cons (fun (v : Value) (_ : World) => v = .pointer (some ⟨w.heap.size, 2, none⟩)) [] rfl (by kernel_rfl) rfl (by kernel_rfl) (fun y X ex0 hf K hK => ?_) ?_
    · clear hf
      have ex := (Ext.drw (Ext.refl _)).trans ex0
      refine Box.mk ?_
      simp only [fill, Act.put, Nat.reduceAdd, List.setIfInBounds_toArray, List.set_cons_zero, List.set_cons_succ] at hK ⊢
      go_simp
      exact hK.out _ _ rfl (Ext.refl _) (fun b hb => by cases hb)
    refine Steps.cons (RZ (vy)) [7] rfl (by kernel_rfl) rfl (by kernel_rfl) (fun y X ex0 hf K hK => ?_) ?_
    · have h7 : ((fun (v : Value) (_ : World) => v = .pointer (some ⟨w.heap.size, 2, none⟩))) (y 7) X := hf.1
      clear hf
      have ex := (Ext.drw (Ext.refl _)).trans ex0
      refine Box.mk ?_
      simp only [fill, Act.put, Nat.reduceAdd, List.setIfInBounds_toArray, List.set_cons_zero, List.set_cons_succ, h7] at hK ⊢
      obtain ⟨bl, Al, nl, cl, k0, k1, kz⟩ := (I2.out.2.ext (by omega) ex)
      go_simp
      exact hK.out _ _ ⟨_, _, _, _, rfl, kz⟩ (Ext.refl _) (fun b hb => by cases hb)
    refine Steps.cons (RZ (ux * vy)) [6, 8, 4] rfl (by kernel_rfl) rfl (by kernel_rfl) (fun y X ex0 hf K hK => ?_) ?_
    · obtain ⟨b6, A6, n6, c6, h6, z6⟩ : ((RZ (ux))) (y 6) X := hf.1
      obtain ⟨b8, A8, n8, c8, h8, z8⟩ : ((RZ (vy))) (y 8) X := hf.2.1
      obtain ⟨b4, A4, n4, c4, h4, z4⟩ : ((RZ (vx * uy))) (y 4) X := hf.2.2.1
      clear hf
      have ex := (Ext.drw (Ext.refl _)).trans ex0
      refine Box.mk ?_
      simp only [fill, Act.put, Nat.reduceAdd, List.setIfInBounds_toArray, List.set_cons_zero, List.set_cons_succ, h6, h8, h4] at hK ⊢
      go_simp
      refine (asAgg (timesZ_any _ _ _ _ _ z6 z8 (by omega) (by omega))).mono ?_
      rintro e V ⟨b9, A9, n9, c9, rfl, hz, hb⟩
      try go_wp2_with fail
      exact hK.out _ _ ⟨_, _, _, _, rfl, hz⟩ hb (fun b hb => by cases hb)
    refine Steps.cons (fun (v : Value) (_ : World) => v = .int .i64 vs) [4, 9] rfl (by kernel_rfl) rfl (by kernel_rfl) (fun y X ex0 hf K hK => ?_) ?_
    · obtain ⟨b4, A4, n4, c4, h4, z4⟩ : ((RZ (vx * uy))) (y 4) X := hf.1
      obtain ⟨b9, A9, n9, c9, h9, z9⟩ : ((RZ (ux * vy))) (y 9) X := hf.2.1
      clear hf
      have ex := (Ext.drw (Ext.refl _)).trans ex0
      refine Box.mk ?_
      simp only [fill, Act.put, Nat.reduceAdd, List.setIfInBounds_toArray, List.set_cons_zero, List.set_cons_succ, h4, h9] at hK ⊢
      go_simp
      refine (CP.out _ _ _ z4 z9).mono ?_
      rintro e V ⟨rfl, hb⟩
      try go_wp2_with fail
      exact hK.out _ _ rfl hb (fun b hb => by cases hb)
    exact Steps.nil
  case done =>
    intro y X ex hf hlt hsep
    have h0 : ((fun (v : Value) (_ : World) => v = .pointer (some ⟨w.heap.size, 0, none⟩))) (y 0) X := hf.1
    obtain ⟨b1, A1, n1, c1, h1, z1⟩ : ((RZ (vx))) (y 1) X := hf.2.1
    have h2 : ((fun (v : Value) (_ : World) => v = .pointer (some ⟨(w.heap.size + 1), 2, none⟩))) (y 2) X := hf.2.2.1
    obtain ⟨b3, A3, n3, c3, h3, z3⟩ : ((RZ (uy))) (y 3) X := hf.2.2.2.1
    obtain ⟨b4, A4, n4, c4, h4, z4⟩ : ((RZ (vx * uy))) (y 4) X := hf.2.2.2.2.1
    have h5 : ((fun (v : Value) (_ : World) => v = .pointer (some ⟨(w.heap.size + 1), 0, none⟩))) (y 5) X := hf.2.2.2.2.2.1
    obtain ⟨b6, A6, n6, c6, h6, z6⟩ : ((RZ (ux))) (y 6) X := hf.2.2.2.2.2.2.1
    have h7 : ((fun (v : Value) (_ : World) => v = .pointer (some ⟨w.heap.size, 2, none⟩))) (y 7) X := hf.2.2.2.2.2.2.2.1
    obtain ⟨b8, A8, n8, c8, h8, z8⟩ : ((RZ (vy))) (y 8) X := hf.2.2.2.2.2.2.2.2.1
    obtain ⟨b9, A9, n9, c9, h9, z9⟩ : ((RZ (ux * vy))) (y 9) X := hf.2.2.2.2.2.2.2.2.2.1
    have h10 : ((fun (v : Value) (_ : World) => v = .int .i64 vs)) (y 10) X := hf.2.2.2.2.2.2.2.2.2.2.1
    clear hf
    clear hsep hlt
    refine Box.mk ?_
    simp only [List.drop_succ_cons, List.drop_zero, fill, Act.put, Nat.reduceAdd, List.setIfInBounds_toArray, List.set_cons_zero, List.set_cons_succ, h0, h1, h2, h3, h4, h5, h6, h7, h8, h9, h10]
    clear h0 h1 h2 h3 h4 h5 h6 h7 h8 h9 h10
    have EX := Lib.hid (E1.out.trans ex)
    clear ex z1 z3 z4 z6 z8 z9 lf lg
    go_wp2_with fail
    refine NoPanic.normal ?_
    go_wp2
    go_ret
    exact ⟨by rw [HVS.out]; rfl, EX.out⟩
set_option maxHeartbeats 800000 in
set_option maxRecDepth 100000 in
theorem qorder_any (vx vy ux uy : Int) (v v' : Value) (w : World) (hf : FV w v vx vy) (hg : FV w v' ux uy) (lf : Lf vx vy 300) (lg : Lf ux uy 300) :
    Calls Tryz.prog 38 #[v, v'] w fun e w' => e = .returned (.int .i64 (vx * uy - ux * vy).sign) ∧ Ext w w' := by
  obtain ⟨vt, hvt⟩ : ∃ vt, vt = (vx * uy - ux * vy).sign := ⟨_, rfl⟩
  rw [← hvt]
  obtain ⟨vs, hvs⟩ : ∃ vs, vs = vt := ⟨_, rfl⟩
  unfold Lf at lf lg
  have CP := Lib.hid (show ∀ W a b, ZV W a (vx * uy) → ZV W b (ux * vy) → Calls Tryz.prog 92 #[a, b] W fun e w' => e = .returned (.int .i64 vs) ∧ Ext W w' from fun W a b h k => by rw [hvs, hvt]; exact orderRZ_any _ _ a b W h k (Nat.le_trans (len_times lf.1 lg.2) (by omega)) (Nat.le_trans (len_times lg.1 lf.2) (by omega)))
  have HVS := Lib.hid hvs
  clear hvs hvt
  obtain ⟨p1, P1, m1, d1, p2, P2, m2, d2, rfl, hz1, hz2⟩ := hf
  obtain ⟨p3, P3, m3, d3, p4, P4, m4, d4, rfl, hz3, hz4⟩ := hg
  obtain ⟨W1, hW1⟩ : ∃ W1, W1 = (w.alloc (.cells #[.bool p1, .slice P1 m1 d1, .bool p2, .slice P2 m2 d2] 55)).alloc (.cells #[.bool p3, .slice P3 m3 d3, .bool p4, .slice P4 m4 d4] 55) := ⟨_, rfl⟩
  have e1 : Ext w W1 := by rw [hW1]; exact ((Ext.refl w).alc _).alc _
  have i2 : HF W1 w.heap.size vx vy := by rw [hW1]; exact (HF.new w p1 P1 m1 d1 p2 P2 m2 d2 55 hz1 hz2).ext ((Ext.refl _).alc _)
  have i3 : HF W1 (w.heap.size + 1) ux uy := by
    have := HF.new (w.alloc (.cells #[.bool p1, .slice P1 m1 d1, .bool p2, .slice P2 m2 d2] 55)) p3 P3 m3 d3 p4 P4 m4 d4 55 (hz3.ext ((Ext.refl _).alc _)) (hz4.ext ((Ext.refl _).alc _))
    rw [World.size_alloc] at this
    rw [hW1]; exact this
  have I2 := Lib.hid i2; have I3 := Lib.hid i3; have E1 := Lib.hid e1; have HW1 := Lib.hid hW1
  have l2 := i2.lt; have l3 := i3.lt
  clear i2 i3 e1 hW1 hz1 hz2 hz3 hz4
  go_enter Tryz.func38, Tryz.ntmps38
  go_upto_region 1 with fail
  rw [← HW1.out]
  clear HW1
  refine wp_region_noPanic ?_
  refine wp_pool 11 [some 5, some 6, some 7, some 8, some 9, some 10, some 11, some 12, some 13, some 14, some 15] [] [] [(fun (v : Value) (_ : World) => v = .pointer (some ⟨w.heap.size, 0, none⟩)), (RZ (vx)), (fun (v : Value) (_ : World) => v = .pointer (some ⟨(w.heap.size + 1), 2, none⟩)), (RZ (uy)), (RZ (vx * uy)), (fun (v : Value) (_ : World) => v = .pointer (some ⟨(w.heap.size + 1), 0, none⟩)), (RZ (ux)), (fun (v : Value) (_ : World) => v = .pointer (some ⟨w.heap.size, 2, none⟩)), (RZ (vy)), (RZ (ux * vy)), (fun (v : Value) (_ : World) => v = .int .i64 vs)] [noF, noF, noF, noF, noF, noF, noF, noF, noF, noF, noF] (by kernel_rfl) (by kernel_rfl) (by kernel_rfl) (by kernel_rfl) (by kernel_rfl) (by kernel_rfl) (by kernel_rfl) (by kernel_rfl) (fun _ _ _ _ h => h) ⟨Stays.pure _, (fun _ _ _ e ⟨b, A, n, c, h1, h2⟩ => ⟨b, A, n, c, h1, h2.ext e⟩), Stays.pure _, (fun _ _ _ e ⟨b, A, n, c, h1, h2⟩ => ⟨b, A, n, c, h1, h2.ext e⟩), (fun _ _ _ e ⟨b, A, n, c, h1, h2⟩ => ⟨b, A, n, c, h1, h2.ext e⟩), Stays.pure _, (fun _ _ _ e ⟨b, A, n, c, h1, h2⟩ => ⟨b, A, n, c, h1, h2.ext e⟩), Stays.pure _, (fun _ _ _ e ⟨b, A, n, c, h1, h2⟩ => ⟨b, A, n, c, h1, h2.ext e⟩), (fun _ _ _ e ⟨b, A, n, c, h1, h2⟩ => ⟨b, A, n, c, h1, h2.ext e⟩), Stays.pure _, True.intro⟩ ?steps ?done
  case steps =>
    simp only [List.take_succ_cons, List.take_zero]
    refine Steps.cons (fun (v : Value) (_ : World) => v = .pointer (some ⟨w.heap.size, 0, none⟩)) [] rfl (by kernel_rfl) rfl (by kernel_rfl) (fun y X ex0 hf K hK => ?_) ?_
    · clear hf
      have ex := (Ext.drw (Ext.refl _)).trans ex0
      refine Box.mk ?_
      simp only [fill, Act.put, Nat.reduceAdd, List.setIfInBounds_toArray, List.set_cons_zero, List.set_cons_succ] at hK ⊢
      go_simp
      exact hK.out _ _ rfl (Ext.refl _) (fun b hb => by cases hb)
    refine Steps.cons (RZ (vx)) [0] rfl (by kernel_rfl) rfl (by kernel_rfl) (fun y X ex0 hf K hK => ?_) ?_
    · have h0 : ((fun (v : Value) (_ : World) => v = .pointer (some ⟨w.heap.size, 0, none⟩))) (y 0) X := hf.1
      clear hf
      have ex := (Ext.drw (Ext.refl _)).trans ex0
      refine Box.mk ?_
      simp only [fill, Act.put, Nat.reduceAdd, List.setIfInBounds_toArray, List.set_cons_zero, List.set_cons_succ, h0] at hK ⊢
      obtain ⟨bl, Al, nl, cl, k0, k1, kz⟩ := (I2.out.1.ext (by omega) ex)
      go_simp
      exact hK.out _ _ ⟨_, _, _, _, rfl, kz⟩ (Ext.refl _) (fun b hb => by cases hb)
    refine Steps.cons (fun (v : Value) (_ : World) => v = .pointer (some ⟨(w.heap.size + 1), 2, none⟩)) [] rfl (by kernel_rfl) rfl (by kernel_rfl) (fun y X ex0 hf K hK => ?_) ?_
    · clear hf
      have ex := (Ext.drw (Ext.refl _)).trans ex0
      refine Box.mk ?_
      simp only [fill, Act.put, Nat.reduceAdd, List.setIfInBounds_toArray, List.set_cons_zero, List.set_cons_succ] at hK ⊢
      go_simp
      exact hK.out _ _ rfl (Ext.refl _) (fun b hb => by cases hb)
    refine Steps.cons (RZ (uy)) [2] rfl (by kernel_rfl) rfl (by kernel_rfl) (fun y X ex0 hf K hK => ?_) ?_
    · have h2 : ((fun (v : Value) (_ : World) => v = .pointer (some ⟨(w.heap.size + 1), 2, none⟩))) (y 2) X := hf.1
      clear hf
      have ex := (Ext.drw (Ext.refl _)).trans ex0
      refine Box.mk ?_
      simp only [fill, Act.put, Nat.reduceAdd, List.setIfInBounds_toArray, List.set_cons_zero, List.set_cons_succ, h2] at hK ⊢
      obtain ⟨bl, Al, nl, cl, k0, k1, kz⟩ := (I3.out.2.ext (by omega) ex)
      go_simp
      exact hK.out _ _ ⟨_, _, _, _, rfl, kz⟩ (Ext.refl _) (fun b hb => by cases hb)
    refine Steps.cons (RZ (vx * uy)) [1, 3] rfl (by kernel_rfl) rfl (by kernel_rfl) (fun y X ex0 hf K hK => ?_) ?_
    · obtain ⟨b1, A1, n1, c1, h1, z1⟩ : ((RZ (vx))) (y 1) X := hf.1
      obtain ⟨b3, A3, n3, c3, h3, z3⟩ : ((RZ (uy))) (y 3) X := hf.2.1
      clear hf
      have ex := (Ext.drw (Ext.refl _)).trans ex0
      refine Box.mk ?_
      simp only [fill, Act.put, Nat.reduceAdd, List.setIfInBounds_toArray, List.set_cons_zero, List.set_cons_succ, h1, h3] at hK ⊢
      go_simp
      refine (asAgg (timesRZ_any _ _ _ _ _ z1 z3 (by omega) (by omega))).mono ?_
      rintro e V ⟨b9, A9, n9, c9, rfl, hz, hb⟩
      try go_wp2_with fail
      exact hK.out _ _ ⟨_, _, _, _, rfl, hz⟩ hb (fun b hb => by cases hb)
    refine Steps.cons (fun (v : Value) (_ : World) => v = .pointer (some ⟨(w.heap.size + 1), 0, none⟩)) [] rfl (by kernel_rfl) rfl (by kernel_rfl) (fun y X ex0 hf K hK => ?_) ?_
    · clear hf
      have ex := (Ext.drw (Ext.refl _)).trans ex0
      refine Box.mk ?_
      simp only [fill, Act.put, Nat.reduceAdd, List.setIfInBounds_toArray, List.set_cons_zero, List.set_cons_succ] at hK ⊢
      go_simp
      exact hK.out _ _ rfl (Ext.refl _) (fun b hb => by cases hb)
    refine Steps.cons (RZ (ux)) [5] rfl (by kernel_rfl) rfl (by kernel_rfl) (fun y X ex0 hf K hK => ?_) ?_
    · have h5 : ((fun (v : Value) (_ : World) => v = .pointer (some ⟨(w.heap.size + 1), 0, none⟩))) (y 5) X := hf.1
      clear hf
      have ex := (Ext.drw (Ext.refl _)).trans ex0
      refine Box.mk ?_
      simp only [fill, Act.put, Nat.reduceAdd, List.setIfInBounds_toArray, List.set_cons_zero, List.set_cons_succ, h5] at hK ⊢
      obtain ⟨bl, Al, nl, cl, k0, k1, kz⟩ := (I3.out.1.ext (by omega) ex)
      go_simp
      exact hK.out _ _ ⟨_, _, _, _, rfl, kz⟩ (Ext.refl _) (fun b hb => by cases hb)
    refine Steps.cons (fun (v : Value) (_ : World) => v = .pointer (some ⟨w.heap.size, 2, none⟩)) [] rfl (by kernel_rfl) rfl (by kernel_rfl) (fun y X ex0 hf K hK => ?_) ?_
    · clear hf
      have ex := (Ext.drw (Ext.refl _)).trans ex0
      refine Box.mk ?_
      simp only [fill, Act.put, Nat.reduceAdd, List.setIfInBounds_toArray, List.set_cons_zero, List.set_cons_succ] at hK ⊢
      go_simp
      exact hK.out _ _ rfl (Ext.refl _) (fun b hb => by cases hb)
    refine Steps.cons (RZ (vy)) [7] rfl (by kernel_rfl) rfl (by kernel_rfl) (fun y X ex0 hf K hK => ?_) ?_
    · have h7 : ((fun (v : Value) (_ : World) => v = .pointer (some ⟨w.heap.size, 2, none⟩))) (y 7) X := hf.1
      clear hf
      have ex := (Ext.drw (Ext.refl _)).trans ex0
      refine Box.mk ?_
      simp only [fill, Act.put, Nat.reduceAdd, List.setIfInBounds_toArray, List.set_cons_zero, List.set_cons_succ, h7] at hK ⊢
      obtain ⟨bl, Al, nl, cl, k0, k1, kz⟩ := (I2.out.2.ext (by omega) ex)
      go_simp
      exact hK.out _ _ ⟨_, _, _, _, rfl, kz⟩ (Ext.refl _) (fun b hb => by cases hb)
    refine Steps.cons (RZ (ux * vy)) [6, 8, 4] rfl (by kernel_rfl) rfl (by kernel_rfl) (fun y X ex0 hf K hK => ?_) ?_
    · obtain ⟨b6, A6, n6, c6, h6, z6⟩ : ((RZ (ux))) (y 6) X := hf.1
      obtain ⟨b8, A8, n8, c8, h8, z8⟩ : ((RZ (vy))) (y 8) X := hf.2.1
      obtain ⟨b4, A4, n4, c4, h4, z4⟩ : ((RZ (vx * uy))) (y 4) X := hf.2.2.1
      clear hf
      have ex := (Ext.drw (Ext.refl _)).trans ex0
      refine Box.mk ?_
      simp only [fill, Act.put, Nat.reduceAdd, List.setIfInBounds_toArray, List.set_cons_zero, List.set_cons_succ, h6, h8, h4] at hK ⊢
      go_simp
      refine (asAgg (timesRZ_any _ _ _ _ _ z6 z8 (by omega) (by omega))).mono ?_
      rintro e V ⟨b9, A9, n9, c9, rfl, hz, hb⟩
      try go_wp2_with fail
      exact hK.out _ _ ⟨_, _, _, _, rfl, hz⟩ hb (fun b hb => by cases hb)
    refine Steps.cons (fun (v : Value) (_ : World) => v = .int .i64 vs) [4, 9] rfl (by kernel_rfl) rfl (by kernel_rfl) (fun y X ex0 hf K hK => ?_) ?_
    · obtain ⟨b4, A4, n4, c4, h4, z4⟩ : ((RZ (vx * uy))) (y 4) X := hf.1
      obtain ⟨b9, A9, n9, c9, h9, z9⟩ : ((RZ (ux * vy))) (y 9) X := hf.2.1
      clear hf
      have ex := (Ext.drw (Ext.refl _)).trans ex0
      refine Box.mk ?_
      simp only [fill, Act.put, Nat.reduceAdd, List.setIfInBounds_toArray, List.set_cons_zero, List.set_cons_succ, h4, h9] at hK ⊢
      go_simp
      refine (CP.out _ _ _ z4 z9).mono ?_
      rintro e V ⟨rfl, hb⟩
      try go_wp2_with fail
      exact hK.out _ _ rfl hb (fun b hb => by cases hb)
    exact Steps.nil
  case done =>
    intro y X ex hf hlt hsep
    have h0 : ((fun (v : Value) (_ : World) => v = .pointer (some ⟨w.heap.size, 0, none⟩))) (y 0) X := hf.1
    obtain ⟨b1, A1, n1, c1, h1, z1⟩ : ((RZ (vx))) (y 1) X := hf.2.1
    have h2 : ((fun (v : Value) (_ : World) => v = .pointer (some ⟨(w.heap.size + 1), 2, none⟩))) (y 2) X := hf.2.2.1
    obtain ⟨b3, A3, n3, c3, h3, z3⟩ : ((RZ (uy))) (y 3) X := hf.2.2.2.1
    obtain ⟨b4, A4, n4, c4, h4, z4⟩ : ((RZ (vx * uy))) (y 4) X := hf.2.2.2.2.1
    have h5 : ((fun (v : Value) (_ : World) => v = .pointer (some ⟨(w.heap.size + 1), 0, none⟩))) (y 5) X := hf.2.2.2.2.2.1
    obtain ⟨b6, A6, n6, c6, h6, z6⟩ : ((RZ (ux))) (y 6) X := hf.2.2.2.2.2.2.1
    have h7 : ((fun (v : Value) (_ : World) => v = .pointer (some ⟨w.heap.size, 2, none⟩))) (y 7) X := hf.2.2.2.2.2.2.2.1
    obtain ⟨b8, A8, n8, c8, h8, z8⟩ : ((RZ (vy))) (y 8) X := hf.2.2.2.2.2.2.2.2.1
    obtain ⟨b9, A9, n9, c9, h9, z9⟩ : ((RZ (ux * vy))) (y 9) X := hf.2.2.2.2.2.2.2.2.2.1
    have h10 : ((fun (v : Value) (_ : World) => v = .int .i64 vs)) (y 10) X := hf.2.2.2.2.2.2.2.2.2.2.1
    clear hf
    clear hsep hlt
    refine Box.mk ?_
    simp only [List.drop_succ_cons, List.drop_zero, fill, Act.put, Nat.reduceAdd, List.setIfInBounds_toArray, List.set_cons_zero, List.set_cons_succ, h0, h1, h2, h3, h4, h5, h6, h7, h8, h9, h10]
    clear h0 h1 h2 h3 h4 h5 h6 h7 h8 h9 h10
    have EX := Lib.hid (E1.out.trans ex)
    clear ex z1 z3 z4 z6 z8 z9 lf lg
    go_wp2_with fail
    refine NoPanic.normal ?_
    go_wp2
    go_ret
    exact ⟨by rw [HVS.out]; rfl, EX.out⟩
set_option maxHeartbeats 800000 in
set_option maxRecDepth 100000 in
theorem ratCmp_no (p q p2 q2 : Bool) (A A' A2 A2' : Option Addr) (n c n' c' n2 c2 n2' c2' : Nat) (l l' k k' : List Nat) (w : World) (hx : Wd w (.slice A n c) l) (hy : Wd w (.slice A' n' c') l') (hx2 : Wd w (.slice A2 n2 c2) k) (hy2 : Wd w (.slice A2' n2' c2') k') (hno : (vldR p q l l' && vldR p2 q2 k k') = false) :
    Calls Tryz.prog 9 #[.agg #[.bool p, .slice A n c, .bool q, .slice A' n' c'], .agg #[.bool p2, .slice A2 n2 c2, .bool q2, .slice A2' n2' c2']] w (RetC w 0 2) := by
  obtain ⟨W0, hW0⟩ : ∃ W0, W0 = (w.alloc (Obj.cells #[.bool p, .slice A n c, .bool q, .slice A' n' c'] 26)).alloc (Obj.cells #[.bool p2, .slice A2 n2 c2, .bool q2, .slice A2' n2' c2'] 26) := ⟨_, rfl⟩
  have e0 : Ext w W0 := by rw [hW0]; exact ((Ext.refl w).alc _).alc _
  have h1 : RW W0 w.heap.size p q A n c A' n' c' l l' := by rw [hW0]; exact (RW.new 26 hx hy).ext ((Ext.refl _).alc _)
  have h2 : RW W0 (w.heap.size + 1) p2 q2 A2 n2 c2 A2' n2' c2' k k' := by
    have := RW.new (W := w.alloc (Obj.cells #[.bool p, .slice A n c, .bool q, .slice A' n' c'] 26)) (p := p2) (q := q2) 26 (hx2.below (below1 _ _)) (hy2.below (below1 _ _))
    rw [World.size_alloc] at this
    rw [hW0]; exact this
  have s0 : W0.heap.size = w.heap.size + 1 + 1 := by rw [hW0]; simp
  obtain ⟨W1, hW1⟩ : ∃ W1, W1 = W0.alloc (Obj.cells #[.bool p, .slice A n c, .bool q, .slice A' n' c', .bool p2, .slice A2 n2 c2, .bool q2, .slice A2' n2' c2'] 26) := ⟨_, rfl⟩
  have e1 : Ext W0 W1 := by rw [hW1]; exact (Ext.refl _).alc _
  have hs : W1.heap[w.heap.size + 1 + 1]? = some (.cells #[.bool p, .slice A n c, .bool q, .slice A' n' c', .bool p2, .slice A2 n2 c2, .bool q2, .slice A2' n2' c2'] 26 (0, 0)) := by
    have := heap_alloc_new W0 (Obj.cells #[.bool p, .slice A n c, .bool q, .slice A' n' c', .bool p2, .slice A2 n2 c2, .bool q2, .slice A2' n2' c2'] 26)
    rw [s0] at this
    rw [hW1]; exact this
  have h1' := h1.ext e1; have h2' := h2.ext e1
  have AV := Lib.hid (allValidRats_two p q p2 q2 A A' A2 A2' n c n' c' n2 c2 n2' c2' l l' k k' w W1 _ h1'.w1 h1'.w2 h2'.w1 h2'.w2 hs)
  have HWA := Lib.hid hW1; have HW0 := Lib.hid hW0; have E1 := Lib.hid (e0.trans e1)
  clear h1 h2 h1' h2' e0 e1 s0 hs hW0 hW1 hx hy hx2 hy2
  go_enter Tryz.func9, Tryz.ntmps9
  go_wp2_with fail
  rw [← HW0.out, ← HWA.out]
  refine AV.out.mono ?_
  rintro e W2 ⟨rfl, x2⟩
  replace x2 : Ext W1 W2 := x2
  clear AV HW0 HWA
  rw [hno]
  have EX := Lib.hid (E1.out.trans x2)
  clear x2 hno
  go_wp2
  exact bodyPost_ret (v := .tuple #[.int .i64 0, .int .i64 2]) (by simp [results, Tryz.results9, go_sem]) rfl ⟨rfl, EX.out⟩
set_option maxHeartbeats 800000 in
set_option maxRecDepth 100000 in
theorem ratCmp_yes (p q p2 q2 : Bool) (A A' A2 A2' : Option Addr) (n c n' c' n2 c2 n2' c2' : Nat) (l l' k k' : List Nat) (w : World) (hx : Wd w (.slice A n c) l) (hy : Wd w (.slice A' n' c') l') (hx2 : Wd w (.slice A2 n2 c2) k) (hy2 : Wd w (.slice A2' n2' c2') k') (hp : vldR p q l l' = true) (hq : vldR p2 q2 k k' = true) :
    Calls Tryz.prog 9 #[.agg #[.bool p, .slice A n c, .bool q, .slice A' n' c'], .agg #[.bool p2, .slice A2 n2 c2, .bool q2, .slice A2' n2' c2']] w (RetC w (numOf p l * (numOf q2 k') - numOf p2 k * (numOf q l')).sign 0) := by
  obtain ⟨W0, hW0⟩ : ∃ W0, W0 = (w.alloc (Obj.cells #[.bool p, .slice A n c, .bool q, .slice A' n' c'] 26)).alloc (Obj.cells #[.bool p2, .slice A2 n2 c2, .bool q2, .slice A2' n2' c2'] 26) := ⟨_, rfl⟩
  have e0 : Ext w W0 := by rw [hW0]; exact ((Ext.refl w).alc _).alc _
  have h1 : RW W0 w.heap.size p q A n c A' n' c' l l' := by rw [hW0]; exact (RW.new 26 hx hy).ext ((Ext.refl _).alc _)
  have h2 : RW W0 (w.heap.size + 1) p2 q2 A2 n2 c2 A2' n2' c2' k k' := by
    have := RW.new (W := w.alloc (Obj.cells #[.bool p, .slice A n c, .bool q, .slice A' n' c'] 26)) (p := p2) (q := q2) 26 (hx2.below (below1 _ _)) (hy2.below (below1 _ _))
    rw [World.size_alloc] at this
    rw [hW0]; exact this
  have s0 : W0.heap.size = w.heap.size + 1 + 1 := by rw [hW0]; simp
  obtain ⟨W1, hW1⟩ : ∃ W1, W1 = W0.alloc (Obj.cells #[.bool p, .slice A n c, .bool q, .slice A' n' c', .bool p2, .slice A2 n2 c2, .bool q2, .slice A2' n2' c2'] 26) := ⟨_, rfl⟩
  have e1 : Ext W0 W1 := by rw [hW1]; exact (Ext.refl _).alc _
  have hs : W1.heap[w.heap.size + 1 + 1]? = some (.cells #[.bool p, .slice A n c, .bool q, .slice A' n' c', .bool p2, .slice A2 n2 c2, .bool q2, .slice A2' n2' c2'] 26 (0, 0)) := by
    have := heap_alloc_new W0 (Obj.cells #[.bool p, .slice A n c, .bool q, .slice A' n' c', .bool p2, .slice A2 n2 c2, .bool q2, .slice A2' n2' c2'] 26)
    rw [s0] at this
    rw [hW1]; exact this
  have h1' := h1.ext e1; have h2' := h2.ext e1
  have AV := Lib.hid (allValidRats_two p q p2 q2 A A' A2 A2' n c n' c' n2 c2 n2' c2' l l' k k' w W1 _ h1'.w1 h1'.w2 h2'.w1 h2'.w2 hs)
  have HWA := Lib.hid hW1; have HW0 := Lib.hid hW0; have E1 := Lib.hid (e0.trans e1)
  obtain ⟨hv1, hv2, hv3, hv4⟩ := vldR_parts hp
  obtain ⟨hu1, hu2, hu3, hu4⟩ := vldR_parts hq
  obtain ⟨a1, a2⟩ := vldR_lens hp hx.ok hy.ok
  obtain ⟨b1, b2⟩ := vldR_lens hq hx2.ok hy2.ok
  have F1 := h1'.hf hv1 hv2
  have F2 := h2'.hf hu1 hu2
  obtain ⟨vx, hvx⟩ : ∃ z, z = numOf p l := ⟨_, rfl⟩
  obtain ⟨vy, hvy⟩ : ∃ z, z = numOf q l' := ⟨_, rfl⟩
  obtain ⟨ux, hux⟩ : ∃ z, z = numOf p2 k := ⟨_, rfl⟩
  obtain ⟨uy, huy⟩ : ∃ z, z = numOf q2 k' := ⟨_, rfl⟩
  rw [← hvx, ← hvy] at F1
  rw [← hux, ← huy] at F2
  rw [← hvx, ← hvy] at a2
  rw [← hux, ← huy] at b2
  rw [← hvx, ← hvy, ← hux, ← huy]
  obtain ⟨vs, hvs⟩ : ∃ vs, vs = (vx * uy - ux * vy).sign := ⟨_, rfl⟩
  rw [← hvs]
  have CP := Lib.hid (show ∀ W u u', FV W u vx vy → FV W u' ux uy → Calls Tryz.prog 47 #[u, u'] W fun e w' => e = .returned (.int .i64 vs) ∧ Ext W w' from fun W u u' f g => by rw [hvs]; exact compareF_any _ _ _ _ u u' W f g a2 b2)
  have F1h := Lib.hid F1; have F2h := Lib.hid F2
  clear F1 F2 hvx hvy hux huy hvs a1 a2 b1 b2 hv1 hv2 hv3 hv4 hu1 hu2 hu3 hu4
  have hyes : (vldR p q l l' && vldR p2 q2 k k') = true := by rw [hp, hq]; rfl
  clear h1 h2 h1' h2' e0 e1 s0 hs hW0 hW1 hx hy hx2 hy2
  go_enter Tryz.func9, Tryz.ntmps9
  go_wp2_with fail
  rw [← HW0.out, ← HWA.out]
  refine AV.out.mono ?_
  rintro e W2 ⟨rfl, x2⟩
  replace x2 : Ext W1 W2 := x2
  clear AV HW0 HWA
  rw [hyes]
  have F1 := Lib.hid (F1h.out.ext x2); have F2 := Lib.hid (F2h.out.ext x2); have E2 := Lib.hid (E1.out.trans x2)
  clear x2 hyes F1h F2h E1 hp hq
  go_upto_region 3 with fail
  refine wp_region_noPanic ?_
  refine wp_pool 5 [some 11, some 12, some 13, some 14, some 15] [] [] [(RF2 (vx) (vy)), (RF2 (vx) (vy)), (RF2 (ux) (uy)), (RF2 (ux) (uy)), (fun (v : Value) (_ : World) => v = .int .i64 vs)] [noF, noF, noF, noF, noF] (by kernel_rfl) (by kernel_rfl) (by kernel_rfl) (by kernel_rfl) (by kernel_rfl) (by kernel_rfl) (by kernel_rfl) (by kernel_rfl) (fun _ _ _ _ h => h) ⟨(fun _ _ _ e ⟨b, A, n, c, b', A', n', c', h1, h2, h3⟩ => ⟨b, A, n, c, b', A', n', c', h1, h2.ext e, h3.ext e⟩), (fun _ _ _ e ⟨b, A, n, c, b', A', n', c', h1, h2, h3⟩ => ⟨b, A, n, c, b', A', n', c', h1, h2.ext e, h3.ext e⟩), (fun _ _ _ e ⟨b, A, n, c, b', A', n', c', h1, h2, h3⟩ => ⟨b, A, n, c, b', A', n', c', h1, h2.ext e, h3.ext e⟩), (fun _ _ _ e ⟨b, A, n, c, b', A', n', c', h1, h2, h3⟩ => ⟨b, A, n, c, b', A', n', c', h1, h2.ext e, h3.ext e⟩), Stays.pure _, True.intro⟩ ?steps ?done
  case steps =>
    simp only [List.take_succ_cons, List.take_zero]
    refine Steps.cons (RF2 (vx) (vy)) [] rfl (by kernel_rfl) rfl (by kernel_rfl) (fun y X ex0 hf K hK => ?_) ?_
    · clear hf
      have ex := (Ext.drw (Ext.refl _)).trans ex0
      refine Box.mk ?_
      simp only [fill, Act.put, Nat.reduceAdd, List.setIfInBounds_toArray, List.set_cons_zero, List.set_cons_succ] at hK ⊢
      obtain ⟨⟨bl, Al, nl, cl, k0, k1, kz⟩, ⟨bm, Am, nm, cm, k2, k3, ky⟩⟩ := (F1.out.ext ex)
      go_simp
      exact hK.out _ _ ⟨_, _, _, _, _, _, _, _, rfl, kz, ky⟩ (Ext.refl _) (fun b hb => by cases hb)
    refine Steps.cons (RF2 (vx) (vy)) [0] rfl (by kernel_rfl) rfl (by kernel_rfl) (fun y X ex0 hf K hK => ?_) ?_
    · obtain ⟨b0, A0, n0, c0, bb0, AA0, nn0, cc0, h0, z0, y0⟩ : ((RF2 (vx) (vy))) (y 0) X := hf.1
      clear hf
      have ex := (Ext.drw (Ext.refl _)).trans ex0
      refine Box.mk ?_
      simp only [fill, Act.put, Nat.reduceAdd, List.setIfInBounds_toArray, List.set_cons_zero, List.set_cons_succ, h0] at hK ⊢
      go_simp
      refine (fractionOf_any _ _ _ _ (fv_mk z0 y0)).mono ?_
      rintro e V ⟨b9, A9, n9, c9, b8, A8, n8, c8, rfl, hz, hy, hb⟩
      try go_wp2_with fail
      exact hK.out _ _ ⟨_, _, _, _, _, _, _, _, rfl, hz, hy⟩ hb (fun b hb => by cases hb)
    refine Steps.cons (RF2 (ux) (uy)) [] rfl (by kernel_rfl) rfl (by kernel_rfl) (fun y X ex0 hf K hK => ?_) ?_
    · clear hf
      have ex := (Ext.drw (Ext.refl _)).trans ex0
      refine Box.mk ?_
      simp only [fill, Act.put, Nat.reduceAdd, List.setIfInBounds_toArray, List.set_cons_zero, List.set_cons_succ] at hK ⊢
      obtain ⟨⟨bl, Al, nl, cl, k0, k1, kz⟩, ⟨bm, Am, nm, cm, k2, k3, ky⟩⟩ := (F2.out.ext ex)
      go_simp
      exact hK.out _ _ ⟨_, _, _, _, _, _, _, _, rfl, kz, ky⟩ (Ext.refl _) (fun b hb => by cases hb)
    refine Steps.cons (RF2 (ux) (uy)) [2, 1] rfl (by kernel_rfl) rfl (by kernel_rfl) (fun y X ex0 hf K hK => ?_) ?_
    · obtain ⟨b2, A2, n2, c2, bb2, AA2, nn2, cc2, h2, z2, y2⟩ : ((RF2 (ux) (uy))) (y 2) X := hf.1
      obtain ⟨b1, A1, n1, c1, bb1, AA1, nn1, cc1, h1, z1, y1⟩ : ((RF2 (vx) (vy))) (y 1) X := hf.2.1
      clear hf
      have ex := (Ext.drw (Ext.refl _)).trans ex0
      refine Box.mk ?_
      simp only [fill, Act.put, Nat.reduceAdd, List.setIfInBounds_toArray, List.set_cons_zero, List.set_cons_succ, h2, h1] at hK ⊢
      go_simp
      refine (fractionOf_any _ _ _ _ (fv_mk z2 y2)).mono ?_
      rintro e V ⟨b9, A9, n9, c9, b8, A8, n8, c8, rfl, hz, hy, hb⟩
      try go_wp2_with fail
      exact hK.out _ _ ⟨_, _, _, _, _, _, _, _, rfl, hz, hy⟩ hb (fun b hb => by cases hb)
    refine Steps.cons (fun (v : Value) (_ : World) => v = .int .i64 vs) [1, 3] rfl (by kernel_rfl) rfl (by kernel_rfl) (fun y X ex0 hf K hK => ?_) ?_
    · obtain ⟨b1, A1, n1, c1, bb1, AA1, nn1, cc1, h1, z1, y1⟩ : ((RF2 (vx) (vy))) (y 1) X := hf.1
      obtain ⟨b3, A3, n3, c3, bb3, AA3, nn3, cc3, h3, z3, y3⟩ : ((RF2 (ux) (uy))) (y 3) X := hf.2.1
      clear hf
      have ex := (Ext.drw (Ext.refl _)).trans ex0
      refine Box.mk ?_
      simp only [fill, Act.put, Nat.reduceAdd, List.setIfInBounds_toArray, List.set_cons_zero, List.set_cons_succ, h1, h3] at hK ⊢
      go_simp
      refine (CP.out _ _ _ (fv_mk z1 y1) (fv_mk z3 y3)).mono ?_
      rintro e V ⟨rfl, hb⟩
      try go_wp2_with fail
      exact hK.out _ _ rfl hb (fun b hb => by cases hb)
    exact Steps.nil
  case done =>
    intro y X ex hf hlt hsep
    obtain ⟨b0, A0, n0, c0, bb0, AA0, nn0, cc0, h0, z0, y0⟩ : ((RF2 (vx) (vy))) (y 0) X := hf.1
    obtain ⟨b1, A1, n1, c1, bb1, AA1, nn1, cc1, h1, z1, y1⟩ : ((RF2 (vx) (vy))) (y 1) X := hf.2.1
    obtain ⟨b2, A2, n2, c2, bb2, AA2, nn2, cc2, h2, z2, y2⟩ : ((RF2 (ux) (uy))) (y 2) X := hf.2.2.1
    obtain ⟨b3, A3, n3, c3, bb3, AA3, nn3, cc3, h3, z3, y3⟩ : ((RF2 (ux) (uy))) (y 3) X := hf.2.2.2.1
    have h4 : ((fun (v : Value) (_ : World) => v = .int .i64 vs)) (y 4) X := hf.2.2.2.2.1
    clear hf
    clear hsep hlt
    refine Box.mk ?_
    simp only [List.drop_succ_cons, List.drop_zero, fill, Act.put, Nat.reduceAdd, List.setIfInBounds_toArray, List.set_cons_zero, List.set_cons_succ, h0, h1, h2, h3, h4]
    clear h0 h1 h2 h3 h4
    have EX := Lib.hid (E2.out.trans ex)
    clear ex z0 y0 z1 y1 z2 y2 z3 y3
    go_wp2_with fail
    refine NoPanic.normal ?_
    go_wp2
    exact bodyPost_ret (v := .tuple #[.int .i64 vs, .int .i64 0]) (by simp [results, Tryz.results9, go_sem]) rfl ⟨rfl, EX.out⟩
set_option maxHeartbeats 800000 in
set_option maxRecDepth 100000 in
theorem refRatCmp_noa (p q p2 q2 : Bool) (A A' A2 A2' : Option Addr) (n c n' c' n2 c2 n2' c2' : Nat) (l l' k k' : List Nat) (w : World) (hx : Wd w (.slice A n c) l) (hy : Wd w (.slice A' n' c') l') (hx2 : Wd w (.slice A2 n2 c2) k) (hy2 : Wd w (.slice A2' n2' c2') k') (hp : vldR p q l l' = false) :
    Calls Tryz.prog 10 #[.agg #[.bool p, .slice A n c, .bool q, .slice A' n' c'], .agg #[.bool p2, .slice A2 n2 c2, .bool q2, .slice A2' n2' c2']] w (RetC w 0 2) := by
  obtain ⟨W0, hW0⟩ : ∃ W0, W0 = (w.alloc (Obj.cells #[.bool p, .slice A n c, .bool q, .slice A' n' c'] 26)).alloc (Obj.cells #[.bool p2, .slice A2 n2 c2, .bool q2, .slice A2' n2' c2'] 26) := ⟨_, rfl⟩
  have e0 : Ext w W0 := by rw [hW0]; exact ((Ext.refl w).alc _).alc _
  have h1 : RW W0 w.heap.size p q A n c A' n' c' l l' := by rw [hW0]; exact (RW.new 26 hx hy).ext ((Ext.refl _).alc _)
  have h2 : RW W0 (w.heap.size + 1) p2 q2 A2 n2 c2 A2' n2' c2' k k' := by
    have := RW.new (W := w.alloc (Obj.cells #[.bool p, .slice A n c, .bool q, .slice A' n' c'] 26)) (p := p2) (q := q2) 26 (hx2.below (below1 _ _)) (hy2.below (below1 _ _))
    rw [World.size_alloc] at this
    rw [hW0]; exact this
  have s0 : W0.heap.size = w.heap.size + 1 + 1 := by rw [hW0]; simp
  have V1 := Lib.hid (validRatR_any p q A A' n c n' c' l l' W0 h1.w1 h1.w2)
  have H1 := Lib.hid h1; have H2 := Lib.hid h2; have E0 := Lib.hid e0; have HW0 := Lib.hid hW0
  have h1' := h1; have h2' := h2
  rw [hp] at V1
  clear h1 h2 h1' h2' e0 s0 hW0 hx hy hx2 hy2
  go_enter Tryz.func10, Tryz.ntmps10
  go_upto_region 1 with fail
  rw [← HW0.out]
  clear HW0
  have k0 := H1.out.k0; have k1 := H1.out.k1; have k2 := H1.out.k2; have k3 := H1.out.k3
  go_wp2_with fail
  refine V1.out.mono ?_
  rintro e W1 ⟨rfl, x1⟩
  replace x1 : Ext W0 W1 := x1
  have H2 := Lib.hid (H2.out.ext x1); have E1 := Lib.hid (E0.out.trans x1)
  clear x1 V1 k0 k1 k2 k3 E0 H1
  go_wp2
  exact bodyPost_ret (v := .tuple #[.int .i64 0, .int .i64 2]) (by simp [results, Tryz.results10, go_sem]) rfl ⟨rfl, E1.out⟩
set_option maxHeartbeats 800000 in
set_option maxRecDepth 100000 in
theorem refRatCmp_nob (p q p2 q2 : Bool) (A A' A2 A2' : Option Addr) (n c n' c' n2 c2 n2' c2' : Nat) (l l' k k' : List Nat) (w : World) (hx : Wd w (.slice A n c) l) (hy : Wd w (.slice A' n' c') l') (hx2 : Wd w (.slice A2 n2 c2) k) (hy2 : Wd w (.slice A2' n2' c2') k') (hp : vldR p q l l' = true) (hq : vldR p2 q2 k k' = false) :
    Calls Tryz.prog 10 #[.agg #[.bool p, .slice A n c, .bool q, .slice A' n' c'], .agg #[.bool p2, .slice A2 n2 c2, .bool q2, .slice A2' n2' c2']] w (RetC w 0 2) := by
  obtain ⟨W0, hW0⟩ : ∃ W0, W0 = (w.alloc (Obj.cells #[.bool p, .slice A n c, .bool q, .slice A' n' c'] 26)).alloc (Obj.cells #[.bool p2, .slice A2 n2 c2, .bool q2, .slice A2' n2' c2'] 26) := ⟨_, rfl⟩
  have e0 : Ext w W0 := by rw [hW0]; exact ((Ext.refl w).alc _).alc _
  have h1 : RW W0 w.heap.size p q A n c A' n' c' l l' := by rw [hW0]; exact (RW.new 26 hx hy).ext ((Ext.refl _).alc _)
  have h2 : RW W0 (w.heap.size + 1) p2 q2 A2 n2 c2 A2' n2' c2' k k' := by
    have := RW.new (W := w.alloc (Obj.cells #[.bool p, .slice A n c, .bool q, .slice A' n' c'] 26)) (p := p2) (q := q2) 26 (hx2.below (below1 _ _)) (hy2.below (below1 _ _))
    rw [World.size_alloc] at this
    rw [hW0]; exact this
  have s0 : W0.heap.size = w.heap.size + 1 + 1 := by rw [hW0]; simp
  have V1 := Lib.hid (validRatR_any p q A A' n c n' c' l l' W0 h1.w1 h1.w2)
  have H1 := Lib.hid h1; have H2 := Lib.hid h2; have E0 := Lib.hid e0; have HW0 := Lib.hid hW0
  have h1' := h1; have h2' := h2
  rw [hp] at V1
  clear h1 h2 h1' h2' e0 s0 hW0 hx hy hx2 hy2
  go_enter Tryz.func10, Tryz.ntmps10
  go_upto_region 1 with fail
  rw [← HW0.out]
  clear HW0
  have k0 := H1.out.k0; have k1 := H1.out.k1; have k2 := H1.out.k2; have k3 := H1.out.k3
  go_wp2_with fail
  refine V1.out.mono ?_
  rintro e W1 ⟨rfl, x1⟩
  replace x1 : Ext W0 W1 := x1
  have H2 := Lib.hid (H2.out.ext x1); have E1 := Lib.hid (E0.out.trans x1)
  clear x1 V1 k0 k1 k2 k3 E0 H1
  have V2 := Lib.hid (validRatR_any p2 q2 A2 A2' n2 c2 n2' c2' k k' W1 H2.out.w1 H2.out.w2)
  have k0 := H2.out.k0; have k1 := H2.out.k1; have k2 := H2.out.k2; have k3 := H2.out.k3
  rw [hq] at V2
  go_wp2_with fail
  refine V2.out.mono ?_
  rintro e W2 ⟨rfl, x2⟩
  replace x2 : Ext W1 W2 := x2
  have E2 := Lib.hid (E1.out.trans x2)
  clear x2 V2 k0 k1 k2 k3 E1 H2 hq
  go_wp2
  exact bodyPost_ret (v := .tuple #[.int .i64 0, .int .i64 2]) (by simp [results, Tryz.results10, go_sem]) rfl ⟨rfl, E2.out⟩
set_option maxHeartbeats 800000 in
set_option maxRecDepth 100000 in
theorem refRatCmp_yes (p q p2 q2 : Bool) (A A' A2 A2' : Option Addr) (n c n' c' n2 c2 n2' c2' : Nat) (l l' k k' : List Nat) (w : World) (hx : Wd w (.slice A n c) l) (hy : Wd w (.slice A' n' c') l') (hx2 : Wd w (.slice A2 n2 c2) k) (hy2 : Wd w (.slice A2' n2' c2') k') (hp : vldR p q l l' = true) (hq : vldR p2 q2 k k' = true) :
    Calls Tryz.prog 10 #[.agg #[.bool p, .slice A n c, .bool q, .slice A' n' c'], .agg #[.bool p2, .slice A2 n2 c2, .bool q2, .slice A2' n2' c2']] w (RetC w (numOf p l * (numOf q2 k') - numOf p2 k * (numOf q l')).sign 0) := by
  obtain ⟨W0, hW0⟩ : ∃ W0, W0 = (w.alloc (Obj.cells #[.bool p, .slice A n c, .bool q, .slice A' n' c'] 26)).alloc (Obj.cells #[.bool p2, .slice A2 n2 c2, .bool q2, .slice A2' n2' c2'] 26) := ⟨_, rfl⟩
  have e0 : Ext w W0 := by rw [hW0]; exact ((Ext.refl w).alc _).alc _
  have h1 : RW W0 w.heap.size p q A n c A' n' c' l l' := by rw [hW0]; exact (RW.new 26 hx hy).ext ((Ext.refl _).alc _)
  have h2 : RW W0 (w.heap.size + 1) p2 q2 A2 n2 c2 A2' n2' c2' k k' := by
    have := RW.new (W := w.alloc (Obj.cells #[.bool p, .slice A n c, .bool q, .slice A' n' c'] 26)) (p := p2) (q := q2) 26 (hx2.below (below1 _ _)) (hy2.below (below1 _ _))
    rw [World.size_alloc] at this
    rw [hW0]; exact this
  have s0 : W0.heap.size = w.heap.size + 1 + 1 := by rw [hW0]; simp
  have V1 := Lib.hid (validRatR_any p q A A' n c n' c' l l' W0 h1.w1 h1.w2)
  have H1 := Lib.hid h1; have H2 := Lib.hid h2; have E0 := Lib.hid e0; have HW0 := Lib.hid hW0
  have h1' := h1; have h2' := h2
  rw [hp] at V1
  obtain ⟨hv1, hv2, hv3, hv4⟩ := vldR_parts hp
  obtain ⟨hu1, hu2, hu3, hu4⟩ := vldR_parts hq
  obtain ⟨a1, a2⟩ := vldR_lens hp hx.ok hy.ok
  obtain ⟨b1, b2⟩ := vldR_lens hq hx2.ok hy2.ok
  have F1 := h1'.hf hv1 hv2
  have F2 := h2'.hf hu1 hu2
  obtain ⟨vx, hvx⟩ : ∃ z, z = numOf p l := ⟨_, rfl⟩
  obtain ⟨vy, hvy⟩ : ∃ z, z = numOf q l' := ⟨_, rfl⟩
  obtain ⟨ux, hux⟩ : ∃ z, z = numOf p2 k := ⟨_, rfl⟩
  obtain ⟨uy, huy⟩ : ∃ z, z = numOf q2 k' := ⟨_, rfl⟩
  rw [← hvx, ← hvy] at F1
  rw [← hux, ← huy] at F2
  rw [← hvx, ← hvy] at a2
  rw [← hux, ← huy] at b2
  rw [← hvx, ← hvy, ← hux, ← huy]
  obtain ⟨vs, hvs⟩ : ∃ vs, vs = (vx * uy - ux * vy).sign := ⟨_, rfl⟩
  rw [← hvs]
  have CP := Lib.hid (show ∀ W u u', FV W u vx vy → FV W u' ux uy → Calls Tryz.prog 38 #[u, u'] W fun e w' => e = .returned (.int .i64 vs) ∧ Ext W w' from fun W u u' f g => by rw [hvs]; exact qorder_any _ _ _ _ u u' W f g a2 b2)
  have F1h := Lib.hid F1; have F2h := Lib.hid F2
  clear F1 F2 hvx hvy hux huy hvs a1 a2 b1 b2 hv1 hv2 hv3 hv4 hu1 hu2 hu3 hu4
  clear h1 h2 h1' h2' e0 s0 hW0 hx hy hx2 hy2
  go_enter Tryz.func10, Tryz.ntmps10
  go_upto_region 1 with fail
  rw [← HW0.out]
  clear HW0
  have k0 := H1.out.k0; have k1 := H1.out.k1; have k2 := H1.out.k2; have k3 := H1.out.k3
  go_wp2_with fail
  refine V1.out.mono ?_
  rintro e W1 ⟨rfl, x1⟩
  replace x1 : Ext W0 W1 := x1
  have H2 := Lib.hid (H2.out.ext x1); have E1 := Lib.hid (E0.out.trans x1)
  have F1a := Lib.hid (F1h.out.ext x1); have F2a := Lib.hid (F2h.out.ext x1)
  clear x1 V1 k0 k1 k2 k3 E0 H1
  have V2 := Lib.hid (validRatR_any p2 q2 A2 A2' n2 c2 n2' c2' k k' W1 H2.out.w1 H2.out.w2)
  have k0 := H2.out.k0; have k1 := H2.out.k1; have k2 := H2.out.k2; have k3 := H2.out.k3
  rw [hq] at V2
  go_wp2_with fail
  refine V2.out.mono ?_
  rintro e W2 ⟨rfl, x2⟩
  replace x2 : Ext W1 W2 := x2
  have E2 := Lib.hid (E1.out.trans x2)
  have F1 := Lib.hid (F1a.out.ext x2); have F2 := Lib.hid (F2a.out.ext x2)
  clear x2 V2 k0 k1 k2 k3 E1 H2 hq
  clear F1a F2a F1h F2h hp
  go_upto_region 3 with fail
  refine wp_region_noPanic ?_
  refine wp_pool 5 [some 14, some 15, some 16, some 17, some 18] [] [] [(RF2 (vx) (vy)), (RF2 (vx) (vy)), (RF2 (ux) (uy)), (RF2 (ux) (uy)), (fun (v : Value) (_ : World) => v = .int .i64 vs)] [noF, noF, noF, noF, noF] (by kernel_rfl) (by kernel_rfl) (by kernel_rfl) (by kernel_rfl) (by kernel_rfl) (by kernel_rfl) (by kernel_rfl) (by kernel_rfl) (fun _ _ _ _ h => h) ⟨(fun _ _ _ e ⟨b, A, n, c, b', A', n', c', h1, h2, h3⟩ => ⟨b, A, n, c, b', A', n', c', h1, h2.ext e, h3.ext e⟩), (fun _ _ _ e ⟨b, A, n, c, b', A', n', c', h1, h2, h3⟩ => ⟨b, A, n, c, b', A', n', c', h1, h2.ext e, h3.ext e⟩), (fun _ _ _ e ⟨b, A, n, c, b', A', n', c', h1, h2, h3⟩ => ⟨b, A, n, c, b', A', n', c', h1, h2.ext e, h3.ext e⟩), (fun _ _ _ e ⟨b, A, n, c, b', A', n', c', h1, h2, h3⟩ => ⟨b, A, n, c, b', A', n', c', h1, h2.ext e, h3.ext e⟩), Stays.pure _, True.intro⟩ ?steps ?done
  case steps =>
    simp only [List.take_succ_cons, List.take_zero]
    refine Steps.cons (RF2 (vx) (vy)) [] rfl (by kernel_rfl) rfl (by kernel_rfl) (fun y X ex0 hf K hK => ?_) ?_
    · clear hf
      have ex := (Ext.drw (Ext.refl _)).trans ex0
      refine Box.mk ?_
      simp only [fill, Act.put, Nat.reduceAdd, List.setIfInBounds_toArray, List.set_cons_zero, List.set_cons_succ] at hK ⊢
      obtain ⟨⟨bl, Al, nl, cl, k0, k1, kz⟩, ⟨bm, Am, nm, cm, k2, k3, ky⟩⟩ := (F1.out.ext ex)
      go_simp
      exact hK.out _ _ ⟨_, _, _, _, _, _, _, _, rfl, kz, ky⟩ (Ext.refl _) (fun b hb => by cases hb)
    refine Steps.cons (RF2 (vx) (vy)) [0] rfl (by kernel_rfl) rfl (by kernel_rfl) (fun y X ex0 hf K hK => ?_) ?_
    · obtain ⟨b0, A0, n0, c0, bb0, AA0, nn0, cc0, h0, z0, y0⟩ : ((RF2 (vx) (vy))) (y 0) X := hf.1
      clear hf
      have ex := (Ext.drw (Ext.refl _)).trans ex0
      refine Box.mk ?_
      simp only [fill, Act.put, Nat.reduceAdd, List.setIfInBounds_toArray, List.set_cons_zero, List.set_cons_succ, h0] at hK ⊢
      go_simp
      refine (ofRat_any _ _ _ _ (fv_mk z0 y0)).mono ?_
      rintro e V ⟨b9, A9, n9, c9, b8, A8, n8, c8, rfl, hz, hy, hb⟩
      try go_wp2_with fail
      exact hK.out _ _ ⟨_, _, _, _, _, _, _, _, rfl, hz, hy⟩ hb (fun b hb => by cases hb)
    refine Steps.cons (RF2 (ux) (uy)) [] rfl (by kernel_rfl) rfl (by kernel_rfl) (fun y X ex0 hf K hK => ?_) ?_
    · clear hf
      have ex := (Ext.drw (Ext.refl _)).trans ex0
      refine Box.mk ?_
      simp only [fill, Act.put, Nat.reduceAdd, List.setIfInBounds_toArray, List.set_cons_zero, List.set_cons_succ] at hK ⊢
      obtain ⟨⟨bl, Al, nl, cl, k0, k1, kz⟩, ⟨bm, Am, nm, cm, k2, k3, ky⟩⟩ := (F2.out.ext ex)
      go_simp
      exact hK.out _ _ ⟨_, _, _, _, _, _, _, _, rfl, kz, ky⟩ (Ext.refl _) (fun b hb => by cases hb)
    refine Steps.cons (RF2 (ux) (uy)) [2, 1] rfl (by kernel_rfl) rfl (by kernel_rfl) (fun y X ex0 hf K hK => ?_) ?_
    · obtain ⟨b2, A2, n2, c2, bb2, AA2, nn2, cc2, h2, z2, y2⟩ : ((RF2 (ux) (uy))) (y 2) X := hf.1
      obtain ⟨b1, A1, n1, c1, bb1, AA1, nn1, cc1, h1, z1, y1⟩ : ((RF2 (vx) (vy))) (y 1) X := hf.2.1
      clear hf
      have ex := (Ext.drw (Ext.refl _)).trans ex0
      refine Box.mk ?_
      simp only [fill, Act.put, Nat.reduceAdd, List.setIfInBounds_toArray, List.set_cons_zero, List.set_cons_succ, h2, h1] at hK ⊢
      go_simp
      refine (ofRat_any _ _ _ _ (fv_mk z2 y2)).mono ?_
      rintro e V ⟨b9, A9, n9, c9, b8, A8, n8, c8, rfl, hz, hy, hb⟩
      try go_wp2_with fail
      exact hK.out _ _ ⟨_, _, _, _, _, _, _, _, rfl, hz, hy⟩ hb (fun b hb => by cases hb)
    refine Steps.cons (fun (v : Value) (_ : World) => v = .int .i64 vs) [1, 3] rfl (by kernel_rfl) rfl (by kernel_rfl) (fun y X ex0 hf K hK => ?_) ?_
    · obtain ⟨b1, A1, n1, c1, bb1, AA1, nn1, cc1, h1, z1, y1⟩ : ((RF2 (vx) (vy))) (y 1) X := hf.1
      obtain ⟨b3, A3, n3, c3, bb3, AA3, nn3, cc3, h3, z3, y3⟩ : ((RF2 (ux) (uy))) (y 3) X := hf.2.1
      clear hf
      have ex := (Ext.drw (Ext.refl _)).trans ex0
      refine Box.mk ?_
      simp only [fill, Act.put, Nat.reduceAdd, List.setIfInBounds_toArray, List.set_cons_zero, List.set_cons_succ, h1, h3] at hK ⊢
      go_simp
      refine (CP.out _ _ _ (fv_mk z1 y1) (fv_mk z3 y3)).mono ?_
      rintro e V ⟨rfl, hb⟩
      try go_wp2_with fail
      exact hK.out _ _ rfl hb (fun b hb => by cases hb)
    exact Steps.nil
  case done =>
    intro y X ex hf hlt hsep
    obtain ⟨b0, A0, n0, c0, bb0, AA0, nn0, cc0, h0, z0, y0⟩ : ((RF2 (vx) (vy))) (y 0) X := hf.1
    obtain ⟨b1, A1, n1, c1, bb1, AA1, nn1, cc1, h1, z1, y1⟩ : ((RF2 (vx) (vy))) (y 1) X := hf.2.1
    obtain ⟨b2, A2, n2, c2, bb2, AA2, nn2, cc2, h2, z2, y2⟩ : ((RF2 (ux) (uy))) (y 2) X := hf.2.2.1
    obtain ⟨b3, A3, n3, c3, bb3, AA3, nn3, cc3, h3, z3, y3⟩ : ((RF2 (ux) (uy))) (y 3) X := hf.2.2.2.1
    have h4 : ((fun (v : Value) (_ : World) => v = .int .i64 vs)) (y 4) X := hf.2.2.2.2.1
    clear hf
    clear hsep hlt
    refine Box.mk ?_
    simp only [List.drop_succ_cons, List.drop_zero, fill, Act.put, Nat.reduceAdd, List.setIfInBounds_toArray, List.set_cons_zero, List.set_cons_succ, h0, h1, h2, h3, h4]
    clear h0 h1 h2 h3 h4
    have EX := Lib.hid (E2.out.trans ex)
    clear ex z0 y0 z1 y1 z2 y2 z3 y3
    go_wp2_with fail
    refine NoPanic.normal ?_
    go_wp2
    exact bodyPost_ret (v := .tuple #[.int .i64 vs, .int .i64 0]) (by simp [results, Tryz.results10, go_sem]) rfl ⟨rfl, EX.out⟩
/-- what RatCmp answers -/
def RC (ok : Bool) (s x er : Int) : Prop := (ok = false ∧ x = 0 ∧ er = 2) ∨ (ok = true ∧ x = s ∧ er = 0)
theorem RC.ex (ok : Bool) (s : Int) : ∃ x er, RC ok s x er := by
  cases ok
  · exact ⟨0, 2, .inl ⟨rfl, rfl, rfl⟩⟩
  · exact ⟨s, 0, .inr ⟨rfl, rfl, rfl⟩⟩
theorem ratCmp_u (p q p2 q2 : Bool) (A A' A2 A2' : Option Addr) (n c n' c' n2 c2 n2' c2' : Nat) (l l' k k' : List Nat) (w : World) (hx : Wd w (.slice A n c) l) (hy : Wd w (.slice A' n' c') l') (hx2 : Wd w (.slice A2 n2 c2) k) (hy2 : Wd w (.slice A2' n2' c2') k') (x er : Int) (h : RC (vldR p q l l' && vldR p2 q2 k k') ((numOf p l * (numOf q2 k') - numOf p2 k * (numOf q l')).sign) x er) :
    Calls Tryz.prog 9 #[.agg #[.bool p, .slice A n c, .bool q, .slice A' n' c'], .agg #[.bool p2, .slice A2 n2 c2, .bool q2, .slice A2' n2' c2']] w (RetC w x er) := by
  rcases h with ⟨h, rfl, rfl⟩ | ⟨h, rfl, rfl⟩
  · exact ratCmp_no p q p2 q2 A A' A2 A2' n c n' c' n2 c2 n2' c2' l l' k k' w hx hy hx2 hy2 h
  · simp only [Bool.and_eq_true] at h
    exact ratCmp_yes p q p2 q2 A A' A2 A2' n c n' c' n2 c2 n2' c2' l l' k k' w hx hy hx2 hy2 h.1 h.2
theorem refRatCmp_u (p q p2 q2 : Bool) (A A' A2 A2' : Option Addr) (n c n' c' n2 c2 n2' c2' : Nat) (l l' k k' : List Nat) (w : World) (hx : Wd w (.slice A n c) l) (hy : Wd w (.slice A' n' c') l') (hx2 : Wd w (.slice A2 n2 c2) k) (hy2 : Wd w (.slice A2' n2' c2') k') (x er : Int) (h : RC (vldR p q l l' && vldR p2 q2 k k') ((numOf p l * (numOf q2 k') - numOf p2 k * (numOf q l')).sign) x er) :
    Calls Tryz.prog 10 #[.agg #[.bool p, .slice A n c, .bool q, .slice A' n' c'], .agg #[.bool p2, .slice A2 n2 c2, .bool q2, .slice A2' n2' c2']] w (RetC w x er) := by
  rcases h with ⟨h, rfl, rfl⟩ | ⟨h, rfl, rfl⟩
  · by_cases hp : vldR p q l l' = true
    · exact refRatCmp_nob p q p2 q2 A A' A2 A2' n c n' c' n2 c2 n2' c2' l l' k k' w hx hy hx2 hy2 hp (by rw [hp] at h; simpa using h)
    · exact refRatCmp_noa p q p2 q2 A A' A2 A2' n c n' c' n2 c2 n2' c2' l l' k k' w hx hy hx2 hy2 (by simpa using hp)
  · simp only [Bool.and_eq_true] at h
    exact refRatCmp_yes p q p2 q2 A A' A2 A2' n c n' c' n2 c2 n2' c2' l l' k k' w hx hy hx2 hy2 h.1 h.2
end Go.Proofs.YtmlopkkbgpfdnabGreat
namespace Go.Proofs.YtmlopkkbgpfdnabGreat
open Go.RowKit

end Go.Proofs.YtmlopkkbgpfdnabGreat
namespace Go.Proofs.YtmlopkkbgpfdnabGreat
open Go.RowKit

set_option maxHeartbeats 800000 in
set_option maxRecDepth 100000 in
theorem combineMul_yes (x y : Int) (p q : Bool) (A A' : Option Addr) (n c n' c' : Nat) (l l' : List Nat) (w : World) (hx : Wd w (.slice A n c) l) (hy : Wd w (.slice A' n' c') l') (hp : vld p l = true) (hq : vld q l' = true)
    (ex : x = numOf p l) (ey : y = numOf q l') (hfit : (dig (x * y).natAbs).length ≤ 256) :
    Calls Tryz.prog 100 #[.agg #[.bool p, .slice A n c], .agg #[.bool q, .slice A' n' c'], .func (.func 73) #[] #[]] w fun e w' => ∃ b A n c, e = .returned (.tuple #[.agg #[.bool b, .slice A n c], .int .i64 0]) ∧ ZV w' (.agg #[.bool b, .slice A n c]) (x * y) ∧ Below w.heap.size w w' := by
  have zx := vld_zv hx hp
  have zy := vld_zv hy hq
  have lx : (dig x.natAbs).length ≤ 256 := by rw [ex, vld_dig hx.ok hp]; exact vld_len hp
  have ly : (dig y.natAbs).length ≤ 256 := by rw [ey, vld_dig hy.ok hq]; exact vld_len hq
  rw [← ex] at zx
  rw [← ey] at zy
  have hyes : (vld p l && vld q l') = true := by rw [hp, hq]; rfl
  have Hx := Lib.hid hx; clear hx
  have Hy := Lib.hid hy; clear hy
  have Zx := Lib.hid zx; clear zx
  have Zy := Lib.hid zy; clear zy
  have Hyes := Lib.hid hyes; clear hyes hp hq ex ey
  go_enter Tryz.func100, Tryz.ntmps100
  go_wp2_with fail
  have hb4 := below4 w (Obj.cells #[.bool p, .slice A n c] 24) (Obj.cells #[.bool q, .slice A' n' c'] 24) (Obj.cells #[.bool false, .slice none 0 0] 24) (Obj.cells #[.bool p, .slice A n c, .bool q, .slice A' n' c'] 24)
  have hR3 := (RB.a3 w false none 0 0 24 (Obj.cells #[.bool p, .slice A n c] 24) (Obj.cells #[.bool q, .slice A' n' c'] 24)).alloc (Obj.cells #[.bool p, .slice A n c, .bool q, .slice A' n' c'] 24)
  have o10 : ((((w.alloc (Obj.cells #[.bool p, .slice A n c] 24)).alloc (Obj.cells #[.bool q, .slice A' n' c'] 24)).alloc (Obj.cells #[.bool false, .slice none 0 0] 24)).alloc (Obj.cells #[.bool p, .slice A n c, .bool q, .slice A' n' c'] 24)).cell? ⟨w.heap.size, 0, none⟩ = some (.bool p) := by
    rw [World.cell?_alloc_past _ _ _ (by simp <;> omega)]; exact old1 0
  have o11 : ((((w.alloc (Obj.cells #[.bool p, .slice A n c] 24)).alloc (Obj.cells #[.bool q, .slice A' n' c'] 24)).alloc (Obj.cells #[.bool false, .slice none 0 0] 24)).alloc (Obj.cells #[.bool p, .slice A n c, .bool q, .slice A' n' c'] 24)).cell? ⟨w.heap.size, 1, none⟩ = some (.slice A n c) := by
    rw [World.cell?_alloc_past _ _ _ (by simp <;> omega)]; exact old1 1
  have o20 : ((((w.alloc (Obj.cells #[.bool p, .slice A n c] 24)).alloc (Obj.cells #[.bool q, .slice A' n' c'] 24)).alloc (Obj.cells #[.bool false, .slice none 0 0] 24)).alloc (Obj.cells #[.bool p, .slice A n c, .bool q, .slice A' n' c'] 24)).cell? ⟨w.heap.size + 1, 0, none⟩ = some (.bool q) := by
    rw [World.cell?_alloc_past _ _ _ (by simp <;> omega)]; exact old2 0
  have o21 : ((((w.alloc (Obj.cells #[.bool p, .slice A n c] 24)).alloc (Obj.cells #[.bool q, .slice A' n' c'] 24)).alloc (Obj.cells #[.bool false, .slice none 0 0] 24)).alloc (Obj.cells #[.bool p, .slice A n c, .bool q, .slice A' n' c'] 24)).cell? ⟨w.heap.size + 1, 1, none⟩ = some (.slice A' n' c') := by
    rw [World.cell?_alloc_past _ _ _ (by simp <;> omega)]; exact old2 1
  refine (allValid_two p q A A' n c n' c' l l' w _ _ (by have := heap_alloc_new (((w.alloc (Obj.cells #[.bool p, .slice A n c] 24)).alloc (Obj.cells #[.bool q, .slice A' n' c'] 24)).alloc (Obj.cells #[.bool false, .slice none 0 0] 24)) (Obj.cells #[.bool p, .slice A n c, .bool q, .slice A' n' c'] 24); simpa using this) (Hx.out.below hb4) (Hy.out.below hb4)).mono ?_
  rintro e w1 ⟨rfl, hb1⟩
  rw [Hyes.out]
  have z1 : w.heap.size + 1 + 1 + 1 + 1 ≤ w1.heap.size := by have := hb1.size; simpa using this
  have m10 := keepAt hb1 (by simp <;> omega) o10
  have m11 := keepAt hb1 (by simp <;> omega) o11
  have m20 := keepAt hb1 (by simp <;> omega) o20
  have m21 := keepAt hb1 (by simp <;> omega) o21
  have hR1 := hR3.below hb1 (by simp <;> omega)
  have hb0 : Below w.heap.size w w1 := hb4.trans (hb1.mono (by simp <;> omega))
  clear o10 o11 o20 o21 hb4 hb1 hR3
  have Zx1 := Lib.hid (Zx.out.below hb0)
  have Zy1 := Lib.hid (Zy.out.below hb0)
  have Hb0 := Lib.hid hb0; clear hb0
  have HR1 := Lib.hid hR1; clear hR1
  have tk0 : True := trivial
  go_wp2_with fail
  go_region_held3 (fun w' => w'.cell? ⟨w.heap.size, 0, none⟩ = some (.bool p) ∧ w'.cell? ⟨w.heap.size, 1, none⟩ = some (.slice A n c) ∧ w'.cell? ⟨w.heap.size + 1, 0, none⟩ = some (.bool q) ∧ w'.cell? ⟨w.heap.size + 1, 1, none⟩ = some (.slice A' n' c'))
    (first | exact ⟨m10, m11, m20, m21⟩ | (go_split_ands; exact ⟨(far2 (by omega)).trans (by assumption), (far2 (by omega)).trans (by assumption), (far2 (by omega)).trans (by assumption), (far2 (by omega)).trans (by assumption)⟩) | (go_split_ands; exact ⟨keepAt hb2 (by show _ < w1.heap.size; omega) (by assumption), keepAt hb2 (by show _ < w1.heap.size; omega) (by assumption), keepAt hb2 (by show _ < w1.heap.size; omega) (by assumption), keepAt hb2 (by show _ < w1.heap.size; omega) (by assumption)⟩) | (go_split_ands; exact ⟨keepAt hb3 (by omega) (by assumption), keepAt hb3 (by omega) (by assumption), keepAt hb3 (by omega) (by assumption), keepAt hb3 (by omega) (by assumption)⟩) | (go_split_ands; exact ⟨keepAt hb4 (by omega) (by assumption), keepAt hb4 (by omega) (by assumption), keepAt hb4 (by omega) (by assumption), keepAt hb4 (by omega) (by assumption)⟩) | (go_split_ands; exact ⟨keepAt hb5 (by omega) (by assumption), keepAt hb5 (by omega) (by assumption), keepAt hb5 (by omega) (by assumption), keepAt hb5 (by omega) (by assumption)⟩))
    (first | (go_at_call 98; have _t := tk0; refine (wholeOf_any p A n c _).mono ?_; rintro e w2 ⟨rfl, hb2⟩; clear tk0; have tk1 : True := trivial; have z2 : w1.heap.size ≤ w2.heap.size := (undrew hb2).size; have zx2 := Zx1.out.below (undrew hb2); have zy2 := Zy1.out.below (undrew hb2); have hR2 := HR1.out.below (undrew hb2) (by show _ < w1.heap.size; omega)) | (go_at_call 98; have _t := tk1; refine (wholeOf_any q A' n' c' _).mono ?_; rintro e w3 ⟨rfl, hb3⟩; have z3 := hb3.size; have zx3 := zx2.below hb3; have zy3 := zy2.below hb3; have hR3 := hR2.below hb3 (by omega)) | (go_at_call 73; refine (asAgg (timesZ_any x y _ _ _ zx3 zy3 (by omega) (by omega))).mono ?_; rintro e w4 ⟨b4, A4, n4, c4, rfl, hr, hb4⟩; have z4 := hb4.size; have hR4 := hR3.below hb4 (by omega)) | (go_at_call 126; refine (fitInt_yes _ _ _ hr hfit).mono ?_; rintro e w5 ⟨b6, A6, n6, c6, rfl, hr6, hb5⟩; have z5 := hb5.size; have hR := hR4.below hb5 (by omega); obtain ⟨a0, A0, n0, c0, k10, k11, k20, k21⟩ := hR.facts))
  have s0 := hR.set0 b6 (.slice A6 n6 c6)
  have s1 := hR.set1 b6 (.slice A6 n6 c6)
  have fin := And.intro (hr6.rb hR (.bool b6) (.slice A6 n6 c6)) (below_set2 (g := w.heap.size + 1 + 1) (i := 0) (j := 1) ((((Hb0.out.trans ((undrew hb2).mono (by show _ ≤ w1.heap.size; omega))).trans (hb3.mono (by omega))).trans (hb4.mono (by omega))).trans (hb5.mono (by omega))) (by omega) (.bool b6) (.slice A6 n6 c6))
  have Fin := Lib.hid fin; clear fin
  go_wp2
  exact bodyPost_ret (v := .tuple #[.agg #[.bool b6, .slice A6 n6 c6], .int .i64 0]) (by simp [results, Tryz.results100, go_sem, s0, s1]) rfl ⟨b6, A6, n6, c6, rfl, Fin.out.1, Fin.out.2⟩
end Go.Proofs.YtmlopkkbgpfdnabGreat
