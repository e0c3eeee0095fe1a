/- Walks: RatFloor; the reference's ValidRat and SameRat. -/
import Derived.Test.YtmlopkkbgpfdnaaGreatDoorM13
import Derived.Test.YtmlopkkbgpfdnaaGreatDoorM14
import Derived.Test.YtmlopkkbgpfdnaaGreatDoorM15
namespace Go.Proofs.YtmlopkkbgpfdnaaGreatDoor
open Go.RowKit

/-- an Int and an error -/
def RetI (w : World) (z er : Int) (e : Ending) (w' : World) : Prop := ∃ b A n c, e = .returned (.tuple #[.agg #[.bool b, .slice A n c], .int .i64 er]) ∧ ZV w' (.agg #[.bool b, .slice A n c]) z ∧ Below w.heap.size w w'
theorem allValidRats_one (p q : Bool) (A A' : Option Addr) (n c n' c' : Nat) (l l' : List Nat) (W : World) (g : Nat) (hx : Wd W (.slice A n c) l) (hy : Wd W (.slice A' n' c') l') (hW : W.heap[g]? = some (.cells #[.bool p, .slice A n c, .bool q, .slice A' n' c'] 26 (0, 0))) :
    Calls Tryz.prog 35 #[.slice (some ⟨g, 0, none⟩) 1 1] W fun e w' => e = .returned (.bool (vldR p q l l')) ∧ Ext W w' := by
  have hg : g < W.heap.size := (Array.getElem?_eq_some_iff.1 hW).1
  have h := allValidRats_any 1 1 g (fun _ => p) (fun _ => q) (fun _ => A) (fun _ => A') (fun _ => n) (fun _ => c) (fun _ => n') (fun _ => c') (fun _ => l) (fun _ => l') W (by omega) hg
    (fun i hi => by
      obtain rfl : i = 0 := by omega
      refine ⟨?_, ?_, ?_, ?_⟩ <;> (rw [cell_of_row W g _ _ 26 (0, 0) hW]; rfl))
    (fun i hi => ⟨hx, hy⟩)
  have e : ((List.range 1).all fun _ => vldR p q l l') = vldR p q l l' := by
    simp [List.range, List.range.loop]
  rw [e] at h
  exact h
set_option maxHeartbeats 800000 in
set_option maxRecDepth 100000 in
theorem ratFloor_no (p q : Bool) (A A' : Option Addr) (n c n' c' : Nat) (l l' : List Nat) (w : World) (hx : Wd w (.slice A n c) l) (hy : Wd w (.slice A' n' c') l') (hno : vldR p q l l' = false) :
    Calls Tryz.prog 13 #[.agg #[.bool p, .slice A n c, .bool q, .slice A' n' c']] w (RetI w 0 2) := by
  obtain ⟨W0, hW0⟩ : ∃ W0, W0 = (w.alloc (Obj.cells #[.bool p, .slice A n c, .bool q, .slice A' n' c'] 26)).alloc (Obj.cells #[.bool false, .slice none 0 0] 24) := ⟨_, rfl⟩
  have e0 : Ext w W0 := by rw [hW0]; exact ((Ext.refl w).alc _).alc _
  have h1 : RW W0 w.heap.size p q A n c A' n' c' l l' := by rw [hW0]; exact (RW.new 26 hx hy).ext ((Ext.refl _).alc _)
  have r2 : RB W0 (w.heap.size + 1) := by
    have := RB.c1 (w.alloc (Obj.cells #[.bool p, .slice A n c, .bool q, .slice A' n' c'] 26)) false none 0 0 24
    rw [World.size_alloc] at this
    rw [hW0]; exact this
  have s0 : W0.heap.size = w.heap.size + 1 + 1 := by rw [hW0]; simp
  obtain ⟨W1, hW1⟩ : ∃ W1, W1 = W0.alloc (Obj.cells #[.bool p, .slice A n c, .bool q, .slice A' n' c'] 26) := ⟨_, rfl⟩
  have e1 : Ext W0 W1 := by rw [hW1]; exact (Ext.refl _).alc _
  have hs : W1.heap[w.heap.size + 1 + 1]? = some (.cells #[.bool p, .slice A n c, .bool q, .slice A' n' c'] 26 (0, 0)) := by
    have := heap_alloc_new W0 (Obj.cells #[.bool p, .slice A n c, .bool q, .slice A' n' c'] 26)
    rw [s0] at this
    rw [hW1]; exact this
  have AV := Lib.hid (allValidRats_one p q A A' n c n' c' l l' W1 _ (h1.ext e1).w1 (h1.ext e1).w2 hs)
  have HWA := Lib.hid hW1
  have H1 := Lib.hid (h1.ext e1); have R2 := Lib.hid (r2.ext e1); have E1 := Lib.hid (e0.trans e1); have HW0 := Lib.hid hW0
  have z1 : w.heap.size + 1 + 1 ≤ W1.heap.size := by have := e1.size; omega
  clear h1 r2 e0 e1 s0 hs hW0 hW1 hx hy
  go_enter Tryz.func13, Tryz.ntmps13
  go_wp2_with fail
  rw [← HW0.out, ← HWA.out]
  refine AV.out.mono ?_
  rintro e W2 ⟨rfl, x2⟩
  replace x2 : Ext W1 W2 := x2
  clear AV HW0 HWA
  rw [hno]
  have r2 := R2.out.ext x2
  obtain ⟨_, _, _, _, g30, g31, g32, g33⟩ := r2.facts
  have s0 := r2.set0 false (.slice none 0 0); have s1 := r2.set1 false (.slice none 0 0)
  have hz := (ZV.zero W2).rb r2 (.bool false) (.slice none 0 0)
  have hbf := below_set2 (Ext.below (E1.out.trans x2)) (i := 0) (j := 1) (show w.heap.size ≤ w.heap.size + 1 by omega) (.bool false) (.slice none 0 0)
  have F := Lib.hid (And.intro s0 (And.intro s1 (And.intro hz hbf)))
  clear s0 s1 hz hbf r2 x2 hno
  go_wp2
  obtain ⟨s0, s1, hz, hbf⟩ := F.out
  exact bodyPost_ret (v := .tuple #[.agg #[.bool false, .slice none 0 0], .int .i64 2]) (by simp [results, Tryz.results13, go_sem, s0, s1]) rfl ⟨_, _, _, _, rfl, hz, hbf⟩
set_option maxHeartbeats 800000 in
set_option maxRecDepth 100000 in
theorem ratFloor_yes (p q : Bool) (A A' : Option Addr) (n c n' c' : Nat) (l l' : List Nat) (w : World) (hx : Wd w (.slice A n c) l) (hy : Wd w (.slice A' n' c') l') (hp : vldR p q l l' = true) :
    Calls Tryz.prog 13 #[.agg #[.bool p, .slice A n c, .bool q, .slice A' n' c']] w (RetI w (numOf p l / numOf q l') 0) := by
  obtain ⟨W0, hW0⟩ : ∃ W0, W0 = (w.alloc (Obj.cells #[.bool p, .slice A n c, .bool q, .slice A' n' c'] 26)).alloc (Obj.cells #[.bool false, .slice none 0 0] 24) := ⟨_, rfl⟩
  have e0 : Ext w W0 := by rw [hW0]; exact ((Ext.refl w).alc _).alc _
  have h1 : RW W0 w.heap.size p q A n c A' n' c' l l' := by rw [hW0]; exact (RW.new 26 hx hy).ext ((Ext.refl _).alc _)
  have r2 : RB W0 (w.heap.size + 1) := by
    have := RB.c1 (w.alloc (Obj.cells #[.bool p, .slice A n c, .bool q, .slice A' n' c'] 26)) false none 0 0 24
    rw [World.size_alloc] at this
    rw [hW0]; exact this
  have s0 : W0.heap.size = w.heap.size + 1 + 1 := by rw [hW0]; simp
  obtain ⟨W1, hW1⟩ : ∃ W1, W1 = W0.alloc (Obj.cells #[.bool p, .slice A n c, .bool q, .slice A' n' c'] 26) := ⟨_, rfl⟩
  have e1 : Ext W0 W1 := by rw [hW1]; exact (Ext.refl _).alc _
  have hs : W1.heap[w.heap.size + 1 + 1]? = some (.cells #[.bool p, .slice A n c, .bool q, .slice A' n' c'] 26 (0, 0)) := by
    have := heap_alloc_new W0 (Obj.cells #[.bool p, .slice A n c, .bool q, .slice A' n' c'] 26)
    rw [s0] at this
    rw [hW1]; exact this
  have AV := Lib.hid (allValidRats_one p q A A' n c n' c' l l' W1 _ (h1.ext e1).w1 (h1.ext e1).w2 hs)
  have HWA := Lib.hid hW1
  have H1 := Lib.hid (h1.ext e1); have R2 := Lib.hid (r2.ext e1); have E1 := Lib.hid (e0.trans e1); have HW0 := Lib.hid hW0
  have z1 : w.heap.size + 1 + 1 ≤ W1.heap.size := by have := e1.size; omega
  obtain ⟨hv1, hv2, hv3, hv4⟩ := vldR_parts hp
  have f1 := Lib.hid ((h1.ext e1).hf hv1 hv2)
  have lf := Lib.hid (vldR_lens hp hx.ok hy.ok)
  obtain ⟨vx, hvx⟩ : ∃ z, z = numOf p l := ⟨_, rfl⟩
  obtain ⟨vy, hvy⟩ : ∃ z, z = numOf q l' := ⟨_, rfl⟩
  rw [← hvx, ← hvy] at f1 lf
  rw [← hvx, ← hvy]
  obtain ⟨vq, hvq⟩ : ∃ z, z = vx / vy := ⟨_, rfl⟩
  rw [← hvq]
  have HVQ := Lib.hid hvq
  clear hv1 hv2 hv3 hv4 hvx hvy hvq
  clear h1 r2 e0 e1 s0 hs hW0 hW1 hx hy
  go_enter Tryz.func13, Tryz.ntmps13
  go_wp2_with fail
  rw [← HW0.out, ← HWA.out]
  refine AV.out.mono ?_
  rintro e W2 ⟨rfl, x2⟩
  replace x2 : Ext W1 W2 := x2
  clear AV HW0 HWA
  rw [hp]
  have F1 := Lib.hid (f1.out.ext x2); have R2 := Lib.hid (R2.out.ext x2); have E2 := Lib.hid (E1.out.trans x2)
  have lr := R2.out.lt
  clear x2 hp H1 f1 E1 z1
  go_upto_region 3 with fail
  obtain ⟨⟨b9, A9, n9, c9, j0, j1, jz⟩, ⟨b8, A8, n8, c8, i0, i1, iz⟩⟩ := F1.out
  have FO := Lib.hid (fractionOf_any vx vy _ _ (fv_mk jz iz))
  clear jz iz
  go_wp2_with fail
  refine FO.out.mono ?_
  rintro e W3 ⟨b, B, m, d, b', B', m', d', rfl, y1, y2, x3⟩
  replace x3 : Ext W2 W3 := x3
  have Y1 := Lib.hid y1; have Y2 := Lib.hid y2; have R2 := Lib.hid (R2.out.ext x3); have E3 := Lib.hid (E2.out.trans x3)
  clear x3 y1 y2 FO j0 j1 i0 i1 E2 F1
  go_upto_region 4 with fail
  obtain ⟨W4, hW4⟩ : ∃ W4, W4 = W3.alloc (Obj.cells #[.bool b, .slice B m d, .bool b', .slice B' m' d'] 49) := ⟨_, rfl⟩
  have e4 : Ext W3 W4 := by rw [hW4]; exact (Ext.refl _).alc _
  have i4 : HF W4 W3.heap.size vx vy := by rw [hW4]; exact HF.new W3 b B m d b' B' m' d' 49 Y1.out Y2.out
  rw [← hW4]
  have R2 := Lib.hid (R2.out.ext e4); have E4 := Lib.hid (E3.out.trans e4)
  have LFF := lf.out.2
  unfold Lf at LFF
  obtain ⟨⟨b9, A9, n9, c9, j0, j1, jz⟩, ⟨b8, A8, n8, c8, i0, i1, iz⟩⟩ := i4
  have OV := Lib.hid (overZ_any vx vy _ _ _ jz iz (by omega) (by omega) lf.out.1)
  rw [← HVQ.out] at OV
  have lq : Hid ((dig vq.natAbs).length ≤ 1000000) := Lib.hid (by rw [HVQ.out]; have := quo_len (d := vy) LFF.1; omega)
  clear e4 jz iz hW4 LFF
  go_wp2_with fail
  refine (asAgg OV.out).mono ?_
  rintro e W5 ⟨b5, A5, n5, c5, rfl, hz, x5⟩
  replace x5 : Ext W4 W5 := x5
  have IO := Lib.hid (intOf_any vq _ _ hz lq.out)
  have R2 := Lib.hid (R2.out.ext x5); have E5 := Lib.hid (E4.out.trans x5)
  clear hz x5 j0 j1 i0 i1 OV E4
  go_wp2_with fail
  refine (asAgg IO.out).mono ?_
  rintro e W6 ⟨b6, A6, n6, c6, rfl, hz6, x6⟩
  replace x6 : Ext W5 W6 := x6
  have r2 := R2.out.ext x6
  obtain ⟨_, _, _, _, g30, g31, g32, g33⟩ := r2.facts
  have s0 := r2.set0 b6 (.slice A6 n6 c6); have s1 := r2.set1 b6 (.slice A6 n6 c6)
  have hz := (hz6).rb r2 (.bool b6) (.slice A6 n6 c6)
  have hbf := below_set2 (Ext.below (E5.out.trans x6)) (i := 0) (j := 1) (show w.heap.size ≤ w.heap.size + 1 by omega) (.bool b6) (.slice A6 n6 c6)
  have F := Lib.hid (And.intro s0 (And.intro s1 (And.intro hz hbf)))
  clear s0 s1 hz hbf r2 x6 hz6 IO
  go_wp2
  obtain ⟨s0, s1, hz, hbf⟩ := F.out
  exact bodyPost_ret (v := .tuple #[.agg #[.bool b6, .slice A6 n6 c6], .int .i64 0]) (by simp [results, Tryz.results13, go_sem, s0, s1]) rfl ⟨_, _, _, _, rfl, hz, hbf⟩
set_option maxHeartbeats 1600000 in
set_option maxRecDepth 100000 in
theorem validRatR_a (p q : Bool) (A A' : Option Addr) (n c n' c' : Nat) (l l' : List Nat) (w : World) (hx : Wd w (.slice A n c) l) (hy : Wd w (.slice A' n' c') l') (ha : vld p l = false) :
    Calls Tryz.prog 9 #[.agg #[.bool p, .slice A n c, .bool q, .slice A' n' c']] w fun e w' => e = .returned (.bool (vldR p q l l')) ∧ Ext w w' := by
  obtain ⟨W1, hW1⟩ : ∃ W1, W1 = w.alloc (Obj.cells #[.bool p, .slice A n c, .bool q, .slice A' n' c'] 26) := ⟨_, rfl⟩
  have e1 : Ext w W1 := by rw [hW1]; exact (Ext.refl w).alc _
  have h1 : RW W1 w.heap.size p q A n c A' n' c' l l' := by rw [hW1]; exact RW.new 26 hx hy
  have HK := Lib.hid (And.intro h1.k0 (And.intro h1.k1 (And.intro h1.k2 h1.k3)))
  have VA := Lib.hid (fun W (e : Ext W1 W) => validR_any p A n c l W (h1.w1.below e))
  have VB := Lib.hid (fun W (e : Ext W1 W) => validR_any q A' n' c' l' W (h1.w2.below e))
  have l1 := h1.h.lt
  have E1 := Lib.hid e1; have HW1 := Lib.hid hW1
  obtain ⟨bl, hbl⟩ : ∃ b, b = vldR p q l l' := ⟨_, rfl⟩
  rw [← hbl]
  rw [ha] at VA
  have HB := Lib.hid (show bl = false by rw [hbl]; unfold vldR; rw [ha]; rfl)
  clear ha
  clear e1 h1 hW1 hx hy hbl
  go_enter Tryz.func9, Tryz.ntmps9
  go_upto_region 1 with fail
  rw [← HW1.out]
  clear HW1
  refine wp_region_noPanic ?_
  refine wp_pool 27 [some 3, some 4, some 5, some 6, some 7, some 8, some 9, some 10, some 11, some 12, some 13, some 14, some 15, some 16, some 17, some 18, some 19, some 20, some 21, some 22, some 23, some 24, some 25, some 26, some 27, some 28, some 29] [] [] [(fun (v : Value) (_ : World) => v = .pointer (some ⟨w.heap.size, 0, none⟩)), (fun (v : Value) (_ : World) => v = .agg #[.bool p, .slice A n c]), (fun (v : Value) (_ : World) => v = .bool false), (fun (v : Value) (_ : World) => v = .bool false), (fun (v : Value) (_ : World) => v = undef), (fun (v : Value) (_ : World) => v = undef), (fun (v : Value) (_ : World) => v = undef), (fun (v : Value) (_ : World) => v = .bool false), (fun (v : Value) (_ : World) => v = .bool false), (fun (v : Value) (_ : World) => v = undef), (fun (v : Value) (_ : World) => v = undef), (fun (v : Value) (_ : World) => v = undef), (fun (v : Value) (_ : World) => v = undef), (fun (v : Value) (_ : World) => v = undef), (fun (v : Value) (_ : World) => v = .bool false), (fun (v : Value) (_ : World) => v = .bool false), (fun (v : Value) (_ : World) => v = undef), (fun (v : Value) (_ : World) => v = undef), (fun (v : Value) (_ : World) => v = undef), (fun (v : Value) (_ : World) => v = undef), (fun (v : Value) (_ : World) => v = undef), (fun (v : Value) (_ : World) => v = undef), (fun (v : Value) (_ : World) => v = undef), (fun (v : Value) (_ : World) => v = undef), (fun (v : Value) (_ : World) => v = undef), (fun (v : Value) (_ : World) => v = undef), (fun (v : Value) (_ : World) => v = .bool false)] [noF, noF, noF, noF, noF, noF, noF, noF, noF, noF, noF, noF, noF, noF, noF, noF, noF, noF, noF, noF, noF, noF, noF, noF, noF, noF, noF] (by kernel_rfl) (by kernel_rfl) (by kernel_rfl) (by kernel_rfl) (by kernel_rfl) (by kernel_rfl) (by kernel_rfl) (by kernel_rfl) (fun _ _ _ _ h => h) ⟨Stays.pure _, Stays.pure _, Stays.pure _, Stays.pure _, Stays.pure _, Stays.pure _, Stays.pure _, Stays.pure _, Stays.pure _, Stays.pure _, Stays.pure _, Stays.pure _, Stays.pure _, Stays.pure _, Stays.pure _, Stays.pure _, Stays.pure _, Stays.pure _, Stays.pure _, Stays.pure _, Stays.pure _, Stays.pure _, Stays.pure _, Stays.pure _, Stays.pure _, Stays.pure _, Stays.pure _, True.intro⟩ ?steps ?done
  case steps =>
    simp only [List.take_succ_cons, List.take_zero]
    refine Steps.cons (fun (v : Value) (_ : World) => v = .pointer (some ⟨w.heap.size, 0, none⟩)) [] rfl (by kernel_rfl) rfl (by kernel_rfl) (fun y X ex0 hf K hK => ?_) ?_
    · clear hf
      have ex := (Ext.drw (Ext.refl _)).trans ex0
      refine Box.mk ?_
      simp only [fill, Act.put, Nat.reduceAdd, List.setIfInBounds_toArray, List.set_cons_zero, List.set_cons_succ] at hK ⊢
      go_simp
      exact hK.out _ _ rfl (Ext.refl _) (fun b hb => by cases hb)
    refine Steps.cons (fun (v : Value) (_ : World) => v = .agg #[.bool p, .slice A n c]) [0] rfl (by kernel_rfl) rfl (by kernel_rfl) (fun y X ex0 hf K hK => ?_) ?_
    · have h0 : ((fun (v : Value) (_ : World) => v = .pointer (some ⟨w.heap.size, 0, none⟩))) (y 0) X := hf.1
      clear hf
      have ex := (Ext.drw (Ext.refl _)).trans ex0
      refine Box.mk ?_
      simp only [fill, Act.put, Nat.reduceAdd, List.setIfInBounds_toArray, List.set_cons_zero, List.set_cons_succ, h0] at hK ⊢
      have ka := keepAt ex l1 HK.out.1; have kb := keepAt ex l1 HK.out.2.1
      go_simp
      exact hK.out _ _ rfl (Ext.refl _) (fun b hb => by cases hb)
    refine Steps.cons (fun (v : Value) (_ : World) => v = .bool false) [1] rfl (by kernel_rfl) rfl (by kernel_rfl) (fun y X ex0 hf K hK => ?_) ?_
    · have h1 : ((fun (v : Value) (_ : World) => v = .agg #[.bool p, .slice A n c])) (y 1) X := hf.1
      clear hf
      have ex := (Ext.drw (Ext.refl _)).trans ex0
      refine Box.mk ?_
      simp only [fill, Act.put, Nat.reduceAdd, List.setIfInBounds_toArray, List.set_cons_zero, List.set_cons_succ, h1] at hK ⊢
      go_simp
      refine (VA.out _ ex).mono ?_
      rintro e V ⟨rfl, hb⟩
      try go_wp2_with fail
      exact hK.out _ _ rfl hb (fun b hb => by cases hb)
    refine Steps.cons (fun (v : Value) (_ : World) => v = .bool false) [2] rfl (by kernel_rfl) rfl (by kernel_rfl) (fun y X ex0 hf K hK => ?_) ?_
    · have h2 : ((fun (v : Value) (_ : World) => v = .bool false)) (y 2) X := hf.1
      clear hf
      have ex := (Ext.drw (Ext.refl _)).trans ex0
      refine Box.mk ?_
      simp only [fill, Act.put, Nat.reduceAdd, List.setIfInBounds_toArray, List.set_cons_zero, List.set_cons_succ, h2] at hK ⊢
      go_simp
      exact hK.out _ _ rfl (Ext.refl _) (fun b hb => by cases hb)
    refine Steps.cons (fun (v : Value) (_ : World) => v = undef) [3] rfl (by kernel_rfl) rfl (by kernel_rfl) (fun y X ex0 hf K hK => ?_) ?_
    · have h3 : ((fun (v : Value) (_ : World) => v = .bool false)) (y 3) X := hf.1
      clear hf
      have ex := (Ext.drw (Ext.refl _)).trans ex0
      refine Box.mk ?_
      simp only [fill, Act.put, Nat.reduceAdd, List.setIfInBounds_toArray, List.set_cons_zero, List.set_cons_succ, h3] at hK ⊢
      go_simp
      exact hK.out _ _ rfl (Ext.refl _) (fun b hb => by cases hb)
    refine Steps.cons (fun (v : Value) (_ : World) => v = undef) [4, 3] rfl (by kernel_rfl) rfl (by kernel_rfl) (fun y X ex0 hf K hK => ?_) ?_
    · have h4 : ((fun (v : Value) (_ : World) => v = undef)) (y 4) X := hf.1
      have h3 : ((fun (v : Value) (_ : World) => v = .bool false)) (y 3) X := hf.2.1
      clear hf
      have ex := (Ext.drw (Ext.refl _)).trans ex0
      refine Box.mk ?_
      simp only [fill, Act.put, Nat.reduceAdd, List.setIfInBounds_toArray, List.set_cons_zero, List.set_cons_succ, h4, h3] at hK ⊢
      go_simp
      exact hK.out _ _ rfl (Ext.refl _) (fun b hb => by cases hb)
    refine Steps.cons (fun (v : Value) (_ : World) => v = undef) [5, 3] rfl (by kernel_rfl) rfl (by kernel_rfl) (fun y X ex0 hf K hK => ?_) ?_
    · have h5 : ((fun (v : Value) (_ : World) => v = undef)) (y 5) X := hf.1
      have h3 : ((fun (v : Value) (_ : World) => v = .bool false)) (y 3) X := hf.2.1
      clear hf
      have ex := (Ext.drw (Ext.refl _)).trans ex0
      refine Box.mk ?_
      simp only [fill, Act.put, Nat.reduceAdd, List.setIfInBounds_toArray, List.set_cons_zero, List.set_cons_succ, h5, h3] at hK ⊢
      go_simp
      exact hK.out _ _ rfl (Ext.refl _) (fun b hb => by cases hb)
    refine Steps.cons (fun (v : Value) (_ : World) => v = .bool false) [3, 6] rfl (by kernel_rfl) rfl (by kernel_rfl) (fun y X ex0 hf K hK => ?_) ?_
    · have h3 : ((fun (v : Value) (_ : World) => v = .bool false)) (y 3) X := hf.1
      have h6 : ((fun (v : Value) (_ : World) => v = undef)) (y 6) X := hf.2.1
      clear hf
      have ex := (Ext.drw (Ext.refl _)).trans ex0
      refine Box.mk ?_
      simp only [fill, Act.put, Nat.reduceAdd, List.setIfInBounds_toArray, List.set_cons_zero, List.set_cons_succ, h3, h6] at hK ⊢
      go_simp
      exact hK.out _ _ rfl (Ext.refl _) (fun b hb => by cases hb)
    refine Steps.cons (fun (v : Value) (_ : World) => v = .bool false) [7, 6] rfl (by kernel_rfl) rfl (by kernel_rfl) (fun y X ex0 hf K hK => ?_) ?_
    · have h7 : ((fun (v : Value) (_ : World) => v = .bool false)) (y 7) X := hf.1
      have h6 : ((fun (v : Value) (_ : World) => v = undef)) (y 6) X := hf.2.1
      clear hf
      have ex := (Ext.drw (Ext.refl _)).trans ex0
      refine Box.mk ?_
      simp only [fill, Act.put, Nat.reduceAdd, List.setIfInBounds_toArray, List.set_cons_zero, List.set_cons_succ, h7, h6] at hK ⊢
      go_simp
      exact hK.out _ _ rfl (Ext.refl _) (fun b hb => by cases hb)
    refine Steps.cons (fun (v : Value) (_ : World) => v = undef) [8] rfl (by kernel_rfl) rfl (by kernel_rfl) (fun y X ex0 hf K hK => ?_) ?_
    · have h8 : ((fun (v : Value) (_ : World) => v = .bool false)) (y 8) X := hf.1
      clear hf
      have ex := (Ext.drw (Ext.refl _)).trans ex0
      refine Box.mk ?_
      simp only [fill, Act.put, Nat.reduceAdd, List.setIfInBounds_toArray, List.set_cons_zero, List.set_cons_succ, h8] at hK ⊢
      go_simp
      exact hK.out _ _ rfl (Ext.refl _) (fun b hb => by cases hb)
    refine Steps.cons (fun (v : Value) (_ : World) => v = undef) [9, 8] rfl (by kernel_rfl) rfl (by kernel_rfl) (fun y X ex0 hf K hK => ?_) ?_
    · have h9 : ((fun (v : Value) (_ : World) => v = undef)) (y 9) X := hf.1
      have h8 : ((fun (v : Value) (_ : World) => v = .bool false)) (y 8) X := hf.2.1
      clear hf
      have ex := (Ext.drw (Ext.refl _)).trans ex0
      refine Box.mk ?_
      simp only [fill, Act.put, Nat.reduceAdd, List.setIfInBounds_toArray, List.set_cons_zero, List.set_cons_succ, h9, h8] at hK ⊢
      go_simp
      exact hK.out _ _ rfl (Ext.refl _) (fun b hb => by cases hb)
    refine Steps.cons (fun (v : Value) (_ : World) => v = undef) [10, 8] rfl (by kernel_rfl) rfl (by kernel_rfl) (fun y X ex0 hf K hK => ?_) ?_
    · have h10 : ((fun (v : Value) (_ : World) => v = undef)) (y 10) X := hf.1
      have h8 : ((fun (v : Value) (_ : World) => v = .bool false)) (y 8) X := hf.2.1
      clear hf
      have ex := (Ext.drw (Ext.refl _)).trans ex0
      refine Box.mk ?_
      simp only [fill, Act.put, Nat.reduceAdd, List.setIfInBounds_toArray, List.set_cons_zero, List.set_cons_succ, h10, h8] at hK ⊢
      go_simp
      exact hK.out _ _ rfl (Ext.refl _) (fun b hb => by cases hb)
    refine Steps.cons (fun (v : Value) (_ : World) => v = undef) [11, 8] rfl (by kernel_rfl) rfl (by kernel_rfl) (fun y X ex0 hf K hK => ?_) ?_
    · have h11 : ((fun (v : Value) (_ : World) => v = undef)) (y 11) X := hf.1
      have h8 : ((fun (v : Value) (_ : World) => v = .bool false)) (y 8) X := hf.2.1
      clear hf
      have ex := (Ext.drw (Ext.refl _)).trans ex0
      refine Box.mk ?_
      simp only [fill, Act.put, Nat.reduceAdd, List.setIfInBounds_toArray, List.set_cons_zero, List.set_cons_succ, h11, h8] at hK ⊢
      go_simp
      exact hK.out _ _ rfl (Ext.refl _) (fun b hb => by cases hb)
    refine Steps.cons (fun (v : Value) (_ : World) => v = undef) [12, 8] rfl (by kernel_rfl) rfl (by kernel_rfl) (fun y X ex0 hf K hK => ?_) ?_
    · have h12 : ((fun (v : Value) (_ : World) => v = undef)) (y 12) X := hf.1
      have h8 : ((fun (v : Value) (_ : World) => v = .bool false)) (y 8) X := hf.2.1
      clear hf
      have ex := (Ext.drw (Ext.refl _)).trans ex0
      refine Box.mk ?_
      simp only [fill, Act.put, Nat.reduceAdd, List.setIfInBounds_toArray, List.set_cons_zero, List.set_cons_succ, h12, h8] at hK ⊢
      go_simp
      exact hK.out _ _ rfl (Ext.refl _) (fun b hb => by cases hb)
    refine Steps.cons (fun (v : Value) (_ : World) => v = .bool false) [8, 13] rfl (by kernel_rfl) rfl (by kernel_rfl) (fun y X ex0 hf K hK => ?_) ?_
    · have h8 : ((fun (v : Value) (_ : World) => v = .bool false)) (y 8) X := hf.1
      have h13 : ((fun (v : Value) (_ : World) => v = undef)) (y 13) X := hf.2.1
      clear hf
      have ex := (Ext.drw (Ext.refl _)).trans ex0
      refine Box.mk ?_
      simp only [fill, Act.put, Nat.reduceAdd, List.setIfInBounds_toArray, List.set_cons_zero, List.set_cons_succ, h8, h13] at hK ⊢
      go_simp
      exact hK.out _ _ rfl (Ext.refl _) (fun b hb => by cases hb)
    refine Steps.cons (fun (v : Value) (_ : World) => v = .bool false) [14, 12] rfl (by kernel_rfl) rfl (by kernel_rfl) (fun y X ex0 hf K hK => ?_) ?_
    · have h14 : ((fun (v : Value) (_ : World) => v = .bool false)) (y 14) X := hf.1
      have h12 : ((fun (v : Value) (_ : World) => v = undef)) (y 12) X := hf.2.1
      clear hf
      have ex := (Ext.drw (Ext.refl _)).trans ex0
      refine Box.mk ?_
      simp only [fill, Act.put, Nat.reduceAdd, List.setIfInBounds_toArray, List.set_cons_zero, List.set_cons_succ, h14, h12] at hK ⊢
      go_simp
      exact hK.out _ _ rfl (Ext.refl _) (fun b hb => by cases hb)
    refine Steps.cons (fun (v : Value) (_ : World) => v = undef) [15] rfl (by kernel_rfl) rfl (by kernel_rfl) (fun y X ex0 hf K hK => ?_) ?_
    · have h15 : ((fun (v : Value) (_ : World) => v = .bool false)) (y 15) X := hf.1
      clear hf
      have ex := (Ext.drw (Ext.refl _)).trans ex0
      refine Box.mk ?_
      simp only [fill, Act.put, Nat.reduceAdd, List.setIfInBounds_toArray, List.set_cons_zero, List.set_cons_succ, h15] at hK ⊢
      go_simp
      exact hK.out _ _ rfl (Ext.refl _) (fun b hb => by cases hb)
    refine Steps.cons (fun (v : Value) (_ : World) => v = undef) [16, 15] rfl (by kernel_rfl) rfl (by kernel_rfl) (fun y X ex0 hf K hK => ?_) ?_
    · have h16 : ((fun (v : Value) (_ : World) => v = undef)) (y 16) X := hf.1
      have h15 : ((fun (v : Value) (_ : World) => v = .bool false)) (y 15) X := hf.2.1
      clear hf
      have ex := (Ext.drw (Ext.refl _)).trans ex0
      refine Box.mk ?_
      simp only [fill, Act.put, Nat.reduceAdd, List.setIfInBounds_toArray, List.set_cons_zero, List.set_cons_succ, h16, h15] at hK ⊢
      go_simp
      exact hK.out _ _ rfl (Ext.refl _) (fun b hb => by cases hb)
    refine Steps.cons (fun (v : Value) (_ : World) => v = undef) [17, 15] rfl (by kernel_rfl) rfl (by kernel_rfl) (fun y X ex0 hf K hK => ?_) ?_
    · have h17 : ((fun (v : Value) (_ : World) => v = undef)) (y 17) X := hf.1
      have h15 : ((fun (v : Value) (_ : World) => v = .bool false)) (y 15) X := hf.2.1
      clear hf
      have ex := (Ext.drw (Ext.refl _)).trans ex0
      refine Box.mk ?_
      simp only [fill, Act.put, Nat.reduceAdd, List.setIfInBounds_toArray, List.set_cons_zero, List.set_cons_succ, h17, h15] at hK ⊢
      go_simp
      exact hK.out _ _ rfl (Ext.refl _) (fun b hb => by cases hb)
    refine Steps.cons (fun (v : Value) (_ : World) => v = undef) [15] rfl (by kernel_rfl) rfl (by kernel_rfl) (fun y X ex0 hf K hK => ?_) ?_
    · have h15 : ((fun (v : Value) (_ : World) => v = .bool false)) (y 15) X := hf.1
      clear hf
      have ex := (Ext.drw (Ext.refl _)).trans ex0
      refine Box.mk ?_
      simp only [fill, Act.put, Nat.reduceAdd, List.setIfInBounds_toArray, List.set_cons_zero, List.set_cons_succ, h15] at hK ⊢
      go_simp
      exact hK.out _ _ rfl (Ext.refl _) (fun b hb => by cases hb)
    refine Steps.cons (fun (v : Value) (_ : World) => v = undef) [19, 15] rfl (by kernel_rfl) rfl (by kernel_rfl) (fun y X ex0 hf K hK => ?_) ?_
    · have h19 : ((fun (v : Value) (_ : World) => v = undef)) (y 19) X := hf.1
      have h15 : ((fun (v : Value) (_ : World) => v = .bool false)) (y 15) X := hf.2.1
      clear hf
      have ex := (Ext.drw (Ext.refl _)).trans ex0
      refine Box.mk ?_
      simp only [fill, Act.put, Nat.reduceAdd, List.setIfInBounds_toArray, List.set_cons_zero, List.set_cons_succ, h19, h15] at hK ⊢
      go_simp
      exact hK.out _ _ rfl (Ext.refl _) (fun b hb => by cases hb)
    refine Steps.cons (fun (v : Value) (_ : World) => v = undef) [20, 18, 15] rfl (by kernel_rfl) rfl (by kernel_rfl) (fun y X ex0 hf K hK => ?_) ?_
    · have h20 : ((fun (v : Value) (_ : World) => v = undef)) (y 20) X := hf.1
      have h18 : ((fun (v : Value) (_ : World) => v = undef)) (y 18) X := hf.2.1
      have h15 : ((fun (v : Value) (_ : World) => v = .bool false)) (y 15) X := hf.2.2.1
      clear hf
      have ex := (Ext.drw (Ext.refl _)).trans ex0
      refine Box.mk ?_
      simp only [fill, Act.put, Nat.reduceAdd, List.setIfInBounds_toArray, List.set_cons_zero, List.set_cons_succ, h20, h18, h15] at hK ⊢
      go_simp
      exact hK.out _ _ rfl (Ext.refl _) (fun b hb => by cases hb)
    refine Steps.cons (fun (v : Value) (_ : World) => v = undef) [18, 21, 15] rfl (by kernel_rfl) rfl (by kernel_rfl) (fun y X ex0 hf K hK => ?_) ?_
    · have h18 : ((fun (v : Value) (_ : World) => v = undef)) (y 18) X := hf.1
      have h21 : ((fun (v : Value) (_ : World) => v = undef)) (y 21) X := hf.2.1
      have h15 : ((fun (v : Value) (_ : World) => v = .bool false)) (y 15) X := hf.2.2.1
      clear hf
      have ex := (Ext.drw (Ext.refl _)).trans ex0
      refine Box.mk ?_
      simp only [fill, Act.put, Nat.reduceAdd, List.setIfInBounds_toArray, List.set_cons_zero, List.set_cons_succ, h18, h21, h15] at hK ⊢
      go_simp
      exact hK.out _ _ rfl (Ext.refl _) (fun b hb => by cases hb)
    refine Steps.cons (fun (v : Value) (_ : World) => v = undef) [22, 15] rfl (by kernel_rfl) rfl (by kernel_rfl) (fun y X ex0 hf K hK => ?_) ?_
    · have h22 : ((fun (v : Value) (_ : World) => v = undef)) (y 22) X := hf.1
      have h15 : ((fun (v : Value) (_ : World) => v = .bool false)) (y 15) X := hf.2.1
      clear hf
      have ex := (Ext.drw (Ext.refl _)).trans ex0
      refine Box.mk ?_
      simp only [fill, Act.put, Nat.reduceAdd, List.setIfInBounds_toArray, List.set_cons_zero, List.set_cons_succ, h22, h15] at hK ⊢
      go_simp
      exact hK.out _ _ rfl (Ext.refl _) (fun b hb => by cases hb)
    refine Steps.cons (fun (v : Value) (_ : World) => v = undef) [22, 23, 15] rfl (by kernel_rfl) rfl (by kernel_rfl) (fun y X ex0 hf K hK => ?_) ?_
    · have h22 : ((fun (v : Value) (_ : World) => v = undef)) (y 22) X := hf.1
      have h23 : ((fun (v : Value) (_ : World) => v = undef)) (y 23) X := hf.2.1
      have h15 : ((fun (v : Value) (_ : World) => v = .bool false)) (y 15) X := hf.2.2.1
      clear hf
      have ex := (Ext.drw (Ext.refl _)).trans ex0
      refine Box.mk ?_
      simp only [fill, Act.put, Nat.reduceAdd, List.setIfInBounds_toArray, List.set_cons_zero, List.set_cons_succ, h22, h23, h15] at hK ⊢
      go_simp
      exact hK.out _ _ rfl (Ext.refl _) (fun b hb => by cases hb)
    refine Steps.cons (fun (v : Value) (_ : World) => v = undef) [24, 15] rfl (by kernel_rfl) rfl (by kernel_rfl) (fun y X ex0 hf K hK => ?_) ?_
    · have h24 : ((fun (v : Value) (_ : World) => v = undef)) (y 24) X := hf.1
      have h15 : ((fun (v : Value) (_ : World) => v = .bool false)) (y 15) X := hf.2.1
      clear hf
      have ex := (Ext.drw (Ext.refl _)).trans ex0
      refine Box.mk ?_
      simp only [fill, Act.put, Nat.reduceAdd, List.setIfInBounds_toArray, List.set_cons_zero, List.set_cons_succ, h24, h15] at hK ⊢
      go_simp
      exact hK.out _ _ rfl (Ext.refl _) (fun b hb => by cases hb)
    refine Steps.cons (fun (v : Value) (_ : World) => v = .bool false) [15, 25] rfl (by kernel_rfl) rfl (by kernel_rfl) (fun y X ex0 hf K hK => ?_) ?_
    · have h15 : ((fun (v : Value) (_ : World) => v = .bool false)) (y 15) X := hf.1
      have h25 : ((fun (v : Value) (_ : World) => v = undef)) (y 25) X := hf.2.1
      clear hf
      have ex := (Ext.drw (Ext.refl _)).trans ex0
      refine Box.mk ?_
      simp only [fill, Act.put, Nat.reduceAdd, List.setIfInBounds_toArray, List.set_cons_zero, List.set_cons_succ, h15, h25] at hK ⊢
      go_simp
      exact hK.out _ _ rfl (Ext.refl _) (fun b hb => by cases hb)
    exact Steps.nil
  case done =>
    intro y X ex hf hlt hsep
    have h0 : ((fun (v : Value) (_ : World) => v = .pointer (some ⟨w.heap.size, 0, none⟩))) (y 0) X := hf.1
    have h1 : ((fun (v : Value) (_ : World) => v = .agg #[.bool p, .slice A n c])) (y 1) X := hf.2.1
    have h2 : ((fun (v : Value) (_ : World) => v = .bool false)) (y 2) X := hf.2.2.1
    have h3 : ((fun (v : Value) (_ : World) => v = .bool false)) (y 3) X := hf.2.2.2.1
    have h4 : ((fun (v : Value) (_ : World) => v = undef)) (y 4) X := hf.2.2.2.2.1
    have h5 : ((fun (v : Value) (_ : World) => v = undef)) (y 5) X := hf.2.2.2.2.2.1
    have h6 : ((fun (v : Value) (_ : World) => v = undef)) (y 6) X := hf.2.2.2.2.2.2.1
    have h7 : ((fun (v : Value) (_ : World) => v = .bool false)) (y 7) X := hf.2.2.2.2.2.2.2.1
    have h8 : ((fun (v : Value) (_ : World) => v = .bool false)) (y 8) X := hf.2.2.2.2.2.2.2.2.1
    have h9 : ((fun (v : Value) (_ : World) => v = undef)) (y 9) X := hf.2.2.2.2.2.2.2.2.2.1
    have h10 : ((fun (v : Value) (_ : World) => v = undef)) (y 10) X := hf.2.2.2.2.2.2.2.2.2.2.1
    have h11 : ((fun (v : Value) (_ : World) => v = undef)) (y 11) X := hf.2.2.2.2.2.2.2.2.2.2.2.1
    have h12 : ((fun (v : Value) (_ : World) => v = undef)) (y 12) X := hf.2.2.2.2.2.2.2.2.2.2.2.2.1
    have h13 : ((fun (v : Value) (_ : World) => v = undef)) (y 13) X := hf.2.2.2.2.2.2.2.2.2.2.2.2.2.1
    have h14 : ((fun (v : Value) (_ : World) => v = .bool false)) (y 14) X := hf.2.2.2.2.2.2.2.2.2.2.2.2.2.2.1
    have h15 : ((fun (v : Value) (_ : World) => v = .bool false)) (y 15) X := hf.2.2.2.2.2.2.2.2.2.2.2.2.2.2.2.1
    have h16 : ((fun (v : Value) (_ : World) => v = undef)) (y 16) X := hf.2.2.2.2.2.2.2.2.2.2.2.2.2.2.2.2.1
    have h17 : ((fun (v : Value) (_ : World) => v = undef)) (y 17) X := hf.2.2.2.2.2.2.2.2.2.2.2.2.2.2.2.2.2.1
    have h18 : ((fun (v : Value) (_ : World) => v = undef)) (y 18) X := hf.2.2.2.2.2.2.2.2.2.2.2.2.2.2.2.2.2.2.1
    have h19 : ((fun (v : Value) (_ : World) => v = undef)) (y 19) X := hf.2.2.2.2.2.2.2.2.2.2.2.2.2.2.2.2.2.2.2.1
    have h20 : ((fun (v : Value) (_ : World) => v = undef)) (y 20) X := hf.2.2.2.2.2.2.2.2.2.2.2.2.2.2.2.2.2.2.2.2.1
    have h21 : ((fun (v : Value) (_ : World) => v = undef)) (y 21) X := hf.2.2.2.2.2.2.2.2.2.2.2.2.2.2.2.2.2.2.2.2.2.1
    have h22 : ((fun (v : Value) (_ : World) => v = undef)) (y 22) X := hf.2.2.2.2.2.2.2.2.2.2.2.2.2.2.2.2.2.2.2.2.2.2.1
    have h23 : ((fun (v : Value) (_ : World) => v = undef)) (y 23) X := hf.2.2.2.2.2.2.2.2.2.2.2.2.2.2.2.2.2.2.2.2.2.2.2.1
    have h24 : ((fun (v : Value) (_ : World) => v = undef)) (y 24) X := hf.2.2.2.2.2.2.2.2.2.2.2.2.2.2.2.2.2.2.2.2.2.2.2.2.1
    have h25 : ((fun (v : Value) (_ : World) => v = undef)) (y 25) X := hf.2.2.2.2.2.2.2.2.2.2.2.2.2.2.2.2.2.2.2.2.2.2.2.2.2.1
    have h26 : ((fun (v : Value) (_ : World) => v = .bool false)) (y 26) X := hf.2.2.2.2.2.2.2.2.2.2.2.2.2.2.2.2.2.2.2.2.2.2.2.2.2.2.1
    clear hf
    clear hsep hlt
    refine Box.mk ?_
    simp only [List.drop_succ_cons, List.drop_zero, fill, Act.put, Nat.reduceAdd, List.setIfInBounds_toArray, List.set_cons_zero, List.set_cons_succ, h0, h1, h2, h3, h4, h5, h6, h7, h8, h9, h10, h11, h12, h13, h14, h15, h16, h17, h18, h19, h20, h21, h22, h23, h24, h25, h26]
    clear h0 h1 h2 h3 h4 h5 h6 h7 h8 h9 h10 h11 h12 h13 h14 h15 h16 h17 h18 h19 h20 h21 h22 h23 h24 h25 h26
    have EX := Lib.hid (E1.out.trans ex)
    clear ex
    go_wp2_with fail
    refine NoPanic.normal ?_
    go_wp2
    go_ret
    exact ⟨by rw [HB.out]; rfl, EX.out⟩
set_option maxHeartbeats 1600000 in
set_option maxRecDepth 100000 in
theorem validRatR_b (p q : Bool) (A A' : Option Addr) (n c n' c' : Nat) (l l' : List Nat) (w : World) (hx : Wd w (.slice A n c) l) (hy : Wd w (.slice A' n' c') l') (ha : vld p l = true) (hb : vld q l' = false) :
    Calls Tryz.prog 9 #[.agg #[.bool p, .slice A n c, .bool q, .slice A' n' c']] w fun e w' => e = .returned (.bool (vldR p q l l')) ∧ Ext w w' := by
  obtain ⟨W1, hW1⟩ : ∃ W1, W1 = w.alloc (Obj.cells #[.bool p, .slice A n c, .bool q, .slice A' n' c'] 26) := ⟨_, rfl⟩
  have e1 : Ext w W1 := by rw [hW1]; exact (Ext.refl w).alc _
  have h1 : RW W1 w.heap.size p q A n c A' n' c' l l' := by rw [hW1]; exact RW.new 26 hx hy
  have HK := Lib.hid (And.intro h1.k0 (And.intro h1.k1 (And.intro h1.k2 h1.k3)))
  have VA := Lib.hid (fun W (e : Ext W1 W) => validR_any p A n c l W (h1.w1.below e))
  have VB := Lib.hid (fun W (e : Ext W1 W) => validR_any q A' n' c' l' W (h1.w2.below e))
  have l1 := h1.h.lt
  have E1 := Lib.hid e1; have HW1 := Lib.hid hW1
  obtain ⟨bl, hbl⟩ : ∃ b, b = vldR p q l l' := ⟨_, rfl⟩
  rw [← hbl]
  rw [ha] at VA
  rw [hb] at VB
  have HB := Lib.hid (show bl = false by rw [hbl]; unfold vldR; rw [hb, Bool.and_false]; rfl)
  clear ha hb
  clear e1 h1 hW1 hx hy hbl
  go_enter Tryz.func9, Tryz.ntmps9
  go_upto_region 1 with fail
  rw [← HW1.out]
  clear HW1
  refine wp_region_noPanic ?_
  refine wp_pool 27 [some 3, some 4, some 5, some 6, some 7, some 8, some 9, some 10, some 11, some 12, some 13, some 14, some 15, some 16, some 17, some 18, some 19, some 20, some 21, some 22, some 23, some 24, some 25, some 26, some 27, some 28, some 29] [] [] [(fun (v : Value) (_ : World) => v = .pointer (some ⟨w.heap.size, 0, none⟩)), (fun (v : Value) (_ : World) => v = .agg #[.bool p, .slice A n c]), (fun (v : Value) (_ : World) => v = .bool true), (fun (v : Value) (_ : World) => v = .bool true), (fun (v : Value) (_ : World) => v = .pointer (some ⟨w.heap.size, 2, none⟩)), (fun (v : Value) (_ : World) => v = .agg #[.bool q, .slice A' n' c']), (fun (v : Value) (_ : World) => v = .bool false), (fun (v : Value) (_ : World) => v = .bool false), (fun (v : Value) (_ : World) => v = .bool false), (fun (v : Value) (_ : World) => v = undef), (fun (v : Value) (_ : World) => v = undef), (fun (v : Value) (_ : World) => v = undef), (fun (v : Value) (_ : World) => v = undef), (fun (v : Value) (_ : World) => v = undef), (fun (v : Value) (_ : World) => v = .bool false), (fun (v : Value) (_ : World) => v = .bool false), (fun (v : Value) (_ : World) => v = undef), (fun (v : Value) (_ : World) => v = undef), (fun (v : Value) (_ : World) => v = undef), (fun (v : Value) (_ : World) => v = undef), (fun (v : Value) (_ : World) => v = undef), (fun (v : Value) (_ : World) => v = undef), (fun (v : Value) (_ : World) => v = undef), (fun (v : Value) (_ : World) => v = undef), (fun (v : Value) (_ : World) => v = undef), (fun (v : Value) (_ : World) => v = undef), (fun (v : Value) (_ : World) => v = .bool false)] [noF, noF, noF, noF, noF, noF, noF, noF, noF, noF, noF, noF, noF, noF, noF, noF, noF, noF, noF, noF, noF, noF, noF, noF, noF, noF, noF] (by kernel_rfl) (by kernel_rfl) (by kernel_rfl) (by kernel_rfl) (by kernel_rfl) (by kernel_rfl) (by kernel_rfl) (by kernel_rfl) (fun _ _ _ _ h => h) ⟨Stays.pure _, Stays.pure _, Stays.pure _, Stays.pure _, Stays.pure _, Stays.pure _, Stays.pure _, Stays.pure _, Stays.pure _, Stays.pure _, Stays.pure _, Stays.pure _, Stays.pure _, Stays.pure _, Stays.pure _, Stays.pure _, Stays.pure _, Stays.pure _, Stays.pure _, Stays.pure _, Stays.pure _, Stays.pure _, Stays.pure _, Stays.pure _, Stays.pure _, Stays.pure _, Stays.pure _, True.intro⟩ ?steps ?done
  case steps =>
    simp only [List.take_succ_cons, List.take_zero]
    refine Steps.cons (fun (v : Value) (_ : World) => v = .pointer (some ⟨w.heap.size, 0, none⟩)) [] rfl (by kernel_rfl) rfl (by kernel_rfl) (fun y X ex0 hf K hK => ?_) ?_
    · clear hf
      have ex := (Ext.drw (Ext.refl _)).trans ex0
      refine Box.mk ?_
      simp only [fill, Act.put, Nat.reduceAdd, List.setIfInBounds_toArray, List.set_cons_zero, List.set_cons_succ] at hK ⊢
      go_simp
      exact hK.out _ _ rfl (Ext.refl _) (fun b hb => by cases hb)
    refine Steps.cons (fun (v : Value) (_ : World) => v = .agg #[.bool p, .slice A n c]) [0] rfl (by kernel_rfl) rfl (by kernel_rfl) (fun y X ex0 hf K hK => ?_) ?_
    · have h0 : ((fun (v : Value) (_ : World) => v = .pointer (some ⟨w.heap.size, 0, none⟩))) (y 0) X := hf.1
      clear hf
      have ex := (Ext.drw (Ext.refl _)).trans ex0
      refine Box.mk ?_
      simp only [fill, Act.put, Nat.reduceAdd, List.setIfInBounds_toArray, List.set_cons_zero, List.set_cons_succ, h0] at hK ⊢
      have ka := keepAt ex l1 HK.out.1; have kb := keepAt ex l1 HK.out.2.1
      go_simp
      exact hK.out _ _ rfl (Ext.refl _) (fun b hb => by cases hb)
    refine Steps.cons (fun (v : Value) (_ : World) => v = .bool true) [1] rfl (by kernel_rfl) rfl (by kernel_rfl) (fun y X ex0 hf K hK => ?_) ?_
    · have h1 : ((fun (v : Value) (_ : World) => v = .agg #[.bool p, .slice A n c])) (y 1) X := hf.1
      clear hf
      have ex := (Ext.drw (Ext.refl _)).trans ex0
      refine Box.mk ?_
      simp only [fill, Act.put, Nat.reduceAdd, List.setIfInBounds_toArray, List.set_cons_zero, List.set_cons_succ, h1] at hK ⊢
      go_simp
      refine (VA.out _ ex).mono ?_
      rintro e V ⟨rfl, hb⟩
      try go_wp2_with fail
      exact hK.out _ _ rfl hb (fun b hb => by cases hb)
    refine Steps.cons (fun (v : Value) (_ : World) => v = .bool true) [2] rfl (by kernel_rfl) rfl (by kernel_rfl) (fun y X ex0 hf K hK => ?_) ?_
    · have h2 : ((fun (v : Value) (_ : World) => v = .bool true)) (y 2) X := hf.1
      clear hf
      have ex := (Ext.drw (Ext.refl _)).trans ex0
      refine Box.mk ?_
      simp only [fill, Act.put, Nat.reduceAdd, List.setIfInBounds_toArray, List.set_cons_zero, List.set_cons_succ, h2] at hK ⊢
      go_simp
      exact hK.out _ _ rfl (Ext.refl _) (fun b hb => by cases hb)
    refine Steps.cons (fun (v : Value) (_ : World) => v = .pointer (some ⟨w.heap.size, 2, none⟩)) [3] rfl (by kernel_rfl) rfl (by kernel_rfl) (fun y X ex0 hf K hK => ?_) ?_
    · have h3 : ((fun (v : Value) (_ : World) => v = .bool true)) (y 3) X := hf.1
      clear hf
      have ex := (Ext.drw (Ext.refl _)).trans ex0
      refine Box.mk ?_
      simp only [fill, Act.put, Nat.reduceAdd, List.setIfInBounds_toArray, List.set_cons_zero, List.set_cons_succ, h3] at hK ⊢
      go_simp
      exact hK.out _ _ rfl (Ext.refl _) (fun b hb => by cases hb)
    refine Steps.cons (fun (v : Value) (_ : World) => v = .agg #[.bool q, .slice A' n' c']) [4, 3] rfl (by kernel_rfl) rfl (by kernel_rfl) (fun y X ex0 hf K hK => ?_) ?_
    · have h4 : ((fun (v : Value) (_ : World) => v = .pointer (some ⟨w.heap.size, 2, none⟩))) (y 4) X := hf.1
      have h3 : ((fun (v : Value) (_ : World) => v = .bool true)) (y 3) X := hf.2.1
      clear hf
      have ex := (Ext.drw (Ext.refl _)).trans ex0
      refine Box.mk ?_
      simp only [fill, Act.put, Nat.reduceAdd, List.setIfInBounds_toArray, List.set_cons_zero, List.set_cons_succ, h4, h3] at hK ⊢
      have ka := keepAt ex l1 HK.out.2.2.1; have kb := keepAt ex l1 HK.out.2.2.2
      go_simp
      exact hK.out _ _ rfl (Ext.refl _) (fun b hb => by cases hb)
    refine Steps.cons (fun (v : Value) (_ : World) => v = .bool false) [5, 3] rfl (by kernel_rfl) rfl (by kernel_rfl) (fun y X ex0 hf K hK => ?_) ?_
    · have h5 : ((fun (v : Value) (_ : World) => v = .agg #[.bool q, .slice A' n' c'])) (y 5) X := hf.1
      have h3 : ((fun (v : Value) (_ : World) => v = .bool true)) (y 3) X := hf.2.1
      clear hf
      have ex := (Ext.drw (Ext.refl _)).trans ex0
      refine Box.mk ?_
      simp only [fill, Act.put, Nat.reduceAdd, List.setIfInBounds_toArray, List.set_cons_zero, List.set_cons_succ, h5, h3] at hK ⊢
      go_simp
      refine (VB.out _ ex).mono ?_
      rintro e V ⟨rfl, hb⟩
      try go_wp2_with fail
      exact hK.out _ _ rfl hb (fun b hb => by cases hb)
    refine Steps.cons (fun (v : Value) (_ : World) => v = .bool false) [3, 6] rfl (by kernel_rfl) rfl (by kernel_rfl) (fun y X ex0 hf K hK => ?_) ?_
    · have h3 : ((fun (v : Value) (_ : World) => v = .bool true)) (y 3) X := hf.1
      have h6 : ((fun (v : Value) (_ : World) => v = .bool false)) (y 6) X := hf.2.1
      clear hf
      have ex := (Ext.drw (Ext.refl _)).trans ex0
      refine Box.mk ?_
      simp only [fill, Act.put, Nat.reduceAdd, List.setIfInBounds_toArray, List.set_cons_zero, List.set_cons_succ, h3, h6] at hK ⊢
      go_simp
      exact hK.out _ _ rfl (Ext.refl _) (fun b hb => by cases hb)
    refine Steps.cons (fun (v : Value) (_ : World) => v = .bool false) [7, 6] rfl (by kernel_rfl) rfl (by kernel_rfl) (fun y X ex0 hf K hK => ?_) ?_
    · have h7 : ((fun (v : Value) (_ : World) => v = .bool false)) (y 7) X := hf.1
      have h6 : ((fun (v : Value) (_ : World) => v = .bool false)) (y 6) X := hf.2.1
      clear hf
      have ex := (Ext.drw (Ext.refl _)).trans ex0
      refine Box.mk ?_
      simp only [fill, Act.put, Nat.reduceAdd, List.setIfInBounds_toArray, List.set_cons_zero, List.set_cons_succ, h7, h6] at hK ⊢
      go_simp
      exact hK.out _ _ rfl (Ext.refl _) (fun b hb => by cases hb)
    refine Steps.cons (fun (v : Value) (_ : World) => v = undef) [8] rfl (by kernel_rfl) rfl (by kernel_rfl) (fun y X ex0 hf K hK => ?_) ?_
    · have h8 : ((fun (v : Value) (_ : World) => v = .bool false)) (y 8) X := hf.1
      clear hf
      have ex := (Ext.drw (Ext.refl _)).trans ex0
      refine Box.mk ?_
      simp only [fill, Act.put, Nat.reduceAdd, List.setIfInBounds_toArray, List.set_cons_zero, List.set_cons_succ, h8] at hK ⊢
      go_simp
      exact hK.out _ _ rfl (Ext.refl _) (fun b hb => by cases hb)
    refine Steps.cons (fun (v : Value) (_ : World) => v = undef) [9, 8] rfl (by kernel_rfl) rfl (by kernel_rfl) (fun y X ex0 hf K hK => ?_) ?_
    · have h9 : ((fun (v : Value) (_ : World) => v = undef)) (y 9) X := hf.1
      have h8 : ((fun (v : Value) (_ : World) => v = .bool false)) (y 8) X := hf.2.1
      clear hf
      have ex := (Ext.drw (Ext.refl _)).trans ex0
      refine Box.mk ?_
      simp only [fill, Act.put, Nat.reduceAdd, List.setIfInBounds_toArray, List.set_cons_zero, List.set_cons_succ, h9, h8] at hK ⊢
      go_simp
      exact hK.out _ _ rfl (Ext.refl _) (fun b hb => by cases hb)
    refine Steps.cons (fun (v : Value) (_ : World) => v = undef) [10, 8] rfl (by kernel_rfl) rfl (by kernel_rfl) (fun y X ex0 hf K hK => ?_) ?_
    · have h10 : ((fun (v : Value) (_ : World) => v = undef)) (y 10) X := hf.1
      have h8 : ((fun (v : Value) (_ : World) => v = .bool false)) (y 8) X := hf.2.1
      clear hf
      have ex := (Ext.drw (Ext.refl _)).trans ex0
      refine Box.mk ?_
      simp only [fill, Act.put, Nat.reduceAdd, List.setIfInBounds_toArray, List.set_cons_zero, List.set_cons_succ, h10, h8] at hK ⊢
      go_simp
      exact hK.out _ _ rfl (Ext.refl _) (fun b hb => by cases hb)
    refine Steps.cons (fun (v : Value) (_ : World) => v = undef) [11, 8] rfl (by kernel_rfl) rfl (by kernel_rfl) (fun y X ex0 hf K hK => ?_) ?_
    · have h11 : ((fun (v : Value) (_ : World) => v = undef)) (y 11) X := hf.1
      have h8 : ((fun (v : Value) (_ : World) => v = .bool false)) (y 8) X := hf.2.1
      clear hf
      have ex := (Ext.drw (Ext.refl _)).trans ex0
      refine Box.mk ?_
      simp only [fill, Act.put, Nat.reduceAdd, List.setIfInBounds_toArray, List.set_cons_zero, List.set_cons_succ, h11, h8] at hK ⊢
      go_simp
      exact hK.out _ _ rfl (Ext.refl _) (fun b hb => by cases hb)
    refine Steps.cons (fun (v : Value) (_ : World) => v = undef) [12, 8] rfl (by kernel_rfl) rfl (by kernel_rfl) (fun y X ex0 hf K hK => ?_) ?_
    · have h12 : ((fun (v : Value) (_ : World) => v = undef)) (y 12) X := hf.1
      have h8 : ((fun (v : Value) (_ : World) => v = .bool false)) (y 8) X := hf.2.1
      clear hf
      have ex := (Ext.drw (Ext.refl _)).trans ex0
      refine Box.mk ?_
      simp only [fill, Act.put, Nat.reduceAdd, List.setIfInBounds_toArray, List.set_cons_zero, List.set_cons_succ, h12, h8] at hK ⊢
      go_simp
      exact hK.out _ _ rfl (Ext.refl _) (fun b hb => by cases hb)
    refine Steps.cons (fun (v : Value) (_ : World) => v = .bool false) [8, 13] rfl (by kernel_rfl) rfl (by kernel_rfl) (fun y X ex0 hf K hK => ?_) ?_
    · have h8 : ((fun (v : Value) (_ : World) => v = .bool false)) (y 8) X := hf.1
      have h13 : ((fun (v : Value) (_ : World) => v = undef)) (y 13) X := hf.2.1
      clear hf
      have ex := (Ext.drw (Ext.refl _)).trans ex0
      refine Box.mk ?_
      simp only [fill, Act.put, Nat.reduceAdd, List.setIfInBounds_toArray, List.set_cons_zero, List.set_cons_succ, h8, h13] at hK ⊢
      go_simp
      exact hK.out _ _ rfl (Ext.refl _) (fun b hb => by cases hb)
    refine Steps.cons (fun (v : Value) (_ : World) => v = .bool false) [14, 12] rfl (by kernel_rfl) rfl (by kernel_rfl) (fun y X ex0 hf K hK => ?_) ?_
    · have h14 : ((fun (v : Value) (_ : World) => v = .bool false)) (y 14) X := hf.1
      have h12 : ((fun (v : Value) (_ : World) => v = undef)) (y 12) X := hf.2.1
      clear hf
      have ex := (Ext.drw (Ext.refl _)).trans ex0
      refine Box.mk ?_
      simp only [fill, Act.put, Nat.reduceAdd, List.setIfInBounds_toArray, List.set_cons_zero, List.set_cons_succ, h14, h12] at hK ⊢
      go_simp
      exact hK.out _ _ rfl (Ext.refl _) (fun b hb => by cases hb)
    refine Steps.cons (fun (v : Value) (_ : World) => v = undef) [15] rfl (by kernel_rfl) rfl (by kernel_rfl) (fun y X ex0 hf K hK => ?_) ?_
    · have h15 : ((fun (v : Value) (_ : World) => v = .bool false)) (y 15) X := hf.1
      clear hf
      have ex := (Ext.drw (Ext.refl _)).trans ex0
      refine Box.mk ?_
      simp only [fill, Act.put, Nat.reduceAdd, List.setIfInBounds_toArray, List.set_cons_zero, List.set_cons_succ, h15] at hK ⊢
      go_simp
      exact hK.out _ _ rfl (Ext.refl _) (fun b hb => by cases hb)
    refine Steps.cons (fun (v : Value) (_ : World) => v = undef) [16, 15] rfl (by kernel_rfl) rfl (by kernel_rfl) (fun y X ex0 hf K hK => ?_) ?_
    · have h16 : ((fun (v : Value) (_ : World) => v = undef)) (y 16) X := hf.1
      have h15 : ((fun (v : Value) (_ : World) => v = .bool false)) (y 15) X := hf.2.1
      clear hf
      have ex := (Ext.drw (Ext.refl _)).trans ex0
      refine Box.mk ?_
      simp only [fill, Act.put, Nat.reduceAdd, List.setIfInBounds_toArray, List.set_cons_zero, List.set_cons_succ, h16, h15] at hK ⊢
      go_simp
      exact hK.out _ _ rfl (Ext.refl _) (fun b hb => by cases hb)
    refine Steps.cons (fun (v : Value) (_ : World) => v = undef) [17, 15] rfl (by kernel_rfl) rfl (by kernel_rfl) (fun y X ex0 hf K hK => ?_) ?_
    · have h17 : ((fun (v : Value) (_ : World) => v = undef)) (y 17) X := hf.1
      have h15 : ((fun (v : Value) (_ : World) => v = .bool false)) (y 15) X := hf.2.1
      clear hf
      have ex := (Ext.drw (Ext.refl _)).trans ex0
      refine Box.mk ?_
      simp only [fill, Act.put, Nat.reduceAdd, List.setIfInBounds_toArray, List.set_cons_zero, List.set_cons_succ, h17, h15] at hK ⊢
      go_simp
      exact hK.out _ _ rfl (Ext.refl _) (fun b hb => by cases hb)
    refine Steps.cons (fun (v : Value) (_ : World) => v = undef) [15] rfl (by kernel_rfl) rfl (by kernel_rfl) (fun y X ex0 hf K hK => ?_) ?_
    · have h15 : ((fun (v : Value) (_ : World) => v = .bool false)) (y 15) X := hf.1
      clear hf
      have ex := (Ext.drw (Ext.refl _)).trans ex0
      refine Box.mk ?_
      simp only [fill, Act.put, Nat.reduceAdd, List.setIfInBounds_toArray, List.set_cons_zero, List.set_cons_succ, h15] at hK ⊢
      go_simp
      exact hK.out _ _ rfl (Ext.refl _) (fun b hb => by cases hb)
    refine Steps.cons (fun (v : Value) (_ : World) => v = undef) [19, 15] rfl (by kernel_rfl) rfl (by kernel_rfl) (fun y X ex0 hf K hK => ?_) ?_
    · have h19 : ((fun (v : Value) (_ : World) => v = undef)) (y 19) X := hf.1
      have h15 : ((fun (v : Value) (_ : World) => v = .bool false)) (y 15) X := hf.2.1
      clear hf
      have ex := (Ext.drw (Ext.refl _)).trans ex0
      refine Box.mk ?_
      simp only [fill, Act.put, Nat.reduceAdd, List.setIfInBounds_toArray, List.set_cons_zero, List.set_cons_succ, h19, h15] at hK ⊢
      go_simp
      exact hK.out _ _ rfl (Ext.refl _) (fun b hb => by cases hb)
    refine Steps.cons (fun (v : Value) (_ : World) => v = undef) [20, 18, 15] rfl (by kernel_rfl) rfl (by kernel_rfl) (fun y X ex0 hf K hK => ?_) ?_
    · have h20 : ((fun (v : Value) (_ : World) => v = undef)) (y 20) X := hf.1
      have h18 : ((fun (v : Value) (_ : World) => v = undef)) (y 18) X := hf.2.1
      have h15 : ((fun (v : Value) (_ : World) => v = .bool false)) (y 15) X := hf.2.2.1
      clear hf
      have ex := (Ext.drw (Ext.refl _)).trans ex0
      refine Box.mk ?_
      simp only [fill, Act.put, Nat.reduceAdd, List.setIfInBounds_toArray, List.set_cons_zero, List.set_cons_succ, h20, h18, h15] at hK ⊢
      go_simp
      exact hK.out _ _ rfl (Ext.refl _) (fun b hb => by cases hb)
    refine Steps.cons (fun (v : Value) (_ : World) => v = undef) [18, 21, 15] rfl (by kernel_rfl) rfl (by kernel_rfl) (fun y X ex0 hf K hK => ?_) ?_
    · have h18 : ((fun (v : Value) (_ : World) => v = undef)) (y 18) X := hf.1
      have h21 : ((fun (v : Value) (_ : World) => v = undef)) (y 21) X := hf.2.1
      have h15 : ((fun (v : Value) (_ : World) => v = .bool false)) (y 15) X := hf.2.2.1
      clear hf
      have ex := (Ext.drw (Ext.refl _)).trans ex0
      refine Box.mk ?_
      simp only [fill, Act.put, Nat.reduceAdd, List.setIfInBounds_toArray, List.set_cons_zero, List.set_cons_succ, h18, h21, h15] at hK ⊢
      go_simp
      exact hK.out _ _ rfl (Ext.refl _) (fun b hb => by cases hb)
    refine Steps.cons (fun (v : Value) (_ : World) => v = undef) [22, 15] rfl (by kernel_rfl) rfl (by kernel_rfl) (fun y X ex0 hf K hK => ?_) ?_
    · have h22 : ((fun (v : Value) (_ : World) => v = undef)) (y 22) X := hf.1
      have h15 : ((fun (v : Value) (_ : World) => v = .bool false)) (y 15) X := hf.2.1
      clear hf
      have ex := (Ext.drw (Ext.refl _)).trans ex0
      refine Box.mk ?_
      simp only [fill, Act.put, Nat.reduceAdd, List.setIfInBounds_toArray, List.set_cons_zero, List.set_cons_succ, h22, h15] at hK ⊢
      go_simp
      exact hK.out _ _ rfl (Ext.refl _) (fun b hb => by cases hb)
    refine Steps.cons (fun (v : Value) (_ : World) => v = undef) [22, 23, 15] rfl (by kernel_rfl) rfl (by kernel_rfl) (fun y X ex0 hf K hK => ?_) ?_
    · have h22 : ((fun (v : Value) (_ : World) => v = undef)) (y 22) X := hf.1
      have h23 : ((fun (v : Value) (_ : World) => v = undef)) (y 23) X := hf.2.1
      have h15 : ((fun (v : Value) (_ : World) => v = .bool false)) (y 15) X := hf.2.2.1
      clear hf
      have ex := (Ext.drw (Ext.refl _)).trans ex0
      refine Box.mk ?_
      simp only [fill, Act.put, Nat.reduceAdd, List.setIfInBounds_toArray, List.set_cons_zero, List.set_cons_succ, h22, h23, h15] at hK ⊢
      go_simp
      exact hK.out _ _ rfl (Ext.refl _) (fun b hb => by cases hb)
    refine Steps.cons (fun (v : Value) (_ : World) => v = undef) [24, 15] rfl (by kernel_rfl) rfl (by kernel_rfl) (fun y X ex0 hf K hK => ?_) ?_
    · have h24 : ((fun (v : Value) (_ : World) => v = undef)) (y 24) X := hf.1
      have h15 : ((fun (v : Value) (_ : World) => v = .bool false)) (y 15) X := hf.2.1
      clear hf
      have ex := (Ext.drw (Ext.refl _)).trans ex0
      refine Box.mk ?_
      simp only [fill, Act.put, Nat.reduceAdd, List.setIfInBounds_toArray, List.set_cons_zero, List.set_cons_succ, h24, h15] at hK ⊢
      go_simp
      exact hK.out _ _ rfl (Ext.refl _) (fun b hb => by cases hb)
    refine Steps.cons (fun (v : Value) (_ : World) => v = .bool false) [15, 25] rfl (by kernel_rfl) rfl (by kernel_rfl) (fun y X ex0 hf K hK => ?_) ?_
    · have h15 : ((fun (v : Value) (_ : World) => v = .bool false)) (y 15) X := hf.1
      have h25 : ((fun (v : Value) (_ : World) => v = undef)) (y 25) X := hf.2.1
      clear hf
      have ex := (Ext.drw (Ext.refl _)).trans ex0
      refine Box.mk ?_
      simp only [fill, Act.put, Nat.reduceAdd, List.setIfInBounds_toArray, List.set_cons_zero, List.set_cons_succ, h15, h25] at hK ⊢
      go_simp
      exact hK.out _ _ rfl (Ext.refl _) (fun b hb => by cases hb)
    exact Steps.nil
  case done =>
    intro y X ex hf hlt hsep
    have h0 : ((fun (v : Value) (_ : World) => v = .pointer (some ⟨w.heap.size, 0, none⟩))) (y 0) X := hf.1
    have h1 : ((fun (v : Value) (_ : World) => v = .agg #[.bool p, .slice A n c])) (y 1) X := hf.2.1
    have h2 : ((fun (v : Value) (_ : World) => v = .bool true)) (y 2) X := hf.2.2.1
    have h3 : ((fun (v : Value) (_ : World) => v = .bool true)) (y 3) X := hf.2.2.2.1
    have h4 : ((fun (v : Value) (_ : World) => v = .pointer (some ⟨w.heap.size, 2, none⟩))) (y 4) X := hf.2.2.2.2.1
    have h5 : ((fun (v : Value) (_ : World) => v = .agg #[.bool q, .slice A' n' c'])) (y 5) X := hf.2.2.2.2.2.1
    have h6 : ((fun (v : Value) (_ : World) => v = .bool false)) (y 6) X := hf.2.2.2.2.2.2.1
    have h7 : ((fun (v : Value) (_ : World) => v = .bool false)) (y 7) X := hf.2.2.2.2.2.2.2.1
    have h8 : ((fun (v : Value) (_ : World) => v = .bool false)) (y 8) X := hf.2.2.2.2.2.2.2.2.1
    have h9 : ((fun (v : Value) (_ : World) => v = undef)) (y 9) X := hf.2.2.2.2.2.2.2.2.2.1
    have h10 : ((fun (v : Value) (_ : World) => v = undef)) (y 10) X := hf.2.2.2.2.2.2.2.2.2.2.1
    have h11 : ((fun (v : Value) (_ : World) => v = undef)) (y 11) X := hf.2.2.2.2.2.2.2.2.2.2.2.1
    have h12 : ((fun (v : Value) (_ : World) => v = undef)) (y 12) X := hf.2.2.2.2.2.2.2.2.2.2.2.2.1
    have h13 : ((fun (v : Value) (_ : World) => v = undef)) (y 13) X := hf.2.2.2.2.2.2.2.2.2.2.2.2.2.1
    have h14 : ((fun (v : Value) (_ : World) => v = .bool false)) (y 14) X := hf.2.2.2.2.2.2.2.2.2.2.2.2.2.2.1
    have h15 : ((fun (v : Value) (_ : World) => v = .bool false)) (y 15) X := hf.2.2.2.2.2.2.2.2.2.2.2.2.2.2.2.1
    have h16 : ((fun (v : Value) (_ : World) => v = undef)) (y 16) X := hf.2.2.2.2.2.2.2.2.2.2.2.2.2.2.2.2.1
    have h17 : ((fun (v : Value) (_ : World) => v = undef)) (y 17) X := hf.2.2.2.2.2.2.2.2.2.2.2.2.2.2.2.2.2.1
    have h18 : ((fun (v : Value) (_ : World) => v = undef)) (y 18) X := hf.2.2.2.2.2.2.2.2.2.2.2.2.2.2.2.2.2.2.1
    have h19 : ((fun (v : Value) (_ : World) => v = undef)) (y 19) X := hf.2.2.2.2.2.2.2.2.2.2.2.2.2.2.2.2.2.2.2.1
    have h20 : ((fun (v : Value) (_ : World) => v = undef)) (y 20) X := hf.2.2.2.2.2.2.2.2.2.2.2.2.2.2.2.2.2.2.2.2.1
    have h21 : ((fun (v : Value) (_ : World) => v = undef)) (y 21) X := hf.2.2.2.2.2.2.2.2.2.2.2.2.2.2.2.2.2.2.2.2.2.1
    have h22 : ((fun (v : Value) (_ : World) => v = undef)) (y 22) X := hf.2.2.2.2.2.2.2.2.2.2.2.2.2.2.2.2.2.2.2.2.2.2.1
    have h23 : ((fun (v : Value) (_ : World) => v = undef)) (y 23) X := hf.2.2.2.2.2.2.2.2.2.2.2.2.2.2.2.2.2.2.2.2.2.2.2.1
    have h24 : ((fun (v : Value) (_ : World) => v = undef)) (y 24) X := hf.2.2.2.2.2.2.2.2.2.2.2.2.2.2.2.2.2.2.2.2.2.2.2.2.1
    have h25 : ((fun (v : Value) (_ : World) => v = undef)) (y 25) X := hf.2.2.2.2.2.2.2.2.2.2.2.2.2.2.2.2.2.2.2.2.2.2.2.2.2.1
    have h26 : ((fun (v : Value) (_ : World) => v = .bool false)) (y 26) X := hf.2.2.2.2.2.2.2.2.2.2.2.2.2.2.2.2.2.2.2.2.2.2.2.2.2.2.1
    clear hf
    clear hsep hlt
    refine Box.mk ?_
    simp only [List.drop_succ_cons, List.drop_zero, fill, Act.put, Nat.reduceAdd, List.setIfInBounds_toArray, List.set_cons_zero, List.set_cons_succ, h0, h1, h2, h3, h4, h5, h6, h7, h8, h9, h10, h11, h12, h13, h14, h15, h16, h17, h18, h19, h20, h21, h22, h23, h24, h25, h26]
    clear h0 h1 h2 h3 h4 h5 h6 h7 h8 h9 h10 h11 h12 h13 h14 h15 h16 h17 h18 h19 h20 h21 h22 h23 h24 h25 h26
    have EX := Lib.hid (E1.out.trans ex)
    clear ex
    go_wp2_with fail
    refine NoPanic.normal ?_
    go_wp2
    go_ret
    exact ⟨by rw [HB.out]; rfl, EX.out⟩
set_option maxHeartbeats 1600000 in
set_option maxRecDepth 100000 in
theorem validRatR_c (p q : Bool) (A A' : Option Addr) (n c n' c' : Nat) (l l' : List Nat) (w : World) (hx : Wd w (.slice A n c) l) (hy : Wd w (.slice A' n' c') l') (ha : vld p l = true) (hb : vld q l' = true) (hc : ¬ 0 < numOf q l') :
    Calls Tryz.prog 9 #[.agg #[.bool p, .slice A n c, .bool q, .slice A' n' c']] w fun e w' => e = .returned (.bool (vldR p q l l')) ∧ Ext w w' := by
  obtain ⟨W1, hW1⟩ : ∃ W1, W1 = w.alloc (Obj.cells #[.bool p, .slice A n c, .bool q, .slice A' n' c'] 26) := ⟨_, rfl⟩
  have e1 : Ext w W1 := by rw [hW1]; exact (Ext.refl w).alc _
  have h1 : RW W1 w.heap.size p q A n c A' n' c' l l' := by rw [hW1]; exact RW.new 26 hx hy
  have HK := Lib.hid (And.intro h1.k0 (And.intro h1.k1 (And.intro h1.k2 h1.k3)))
  have VA := Lib.hid (fun W (e : Ext W1 W) => validR_any p A n c l W (h1.w1.below e))
  have VB := Lib.hid (fun W (e : Ext W1 W) => validR_any q A' n' c' l' W (h1.w2.below e))
  have l1 := h1.h.lt
  have E1 := Lib.hid e1; have HW1 := Lib.hid hW1
  obtain ⟨bl, hbl⟩ : ∃ b, b = vldR p q l l' := ⟨_, rfl⟩
  rw [← hbl]
  rw [ha] at VA
  rw [hb] at VB
  obtain ⟨sg, hsg⟩ : ∃ sg, sg = (numOf q l').sign := ⟨_, rfl⟩
  have zden := vld_zv (h1.w2) hb
  have SG := Lib.hid (show ∀ W, Ext W1 W → Calls Tryz.prog 30 #[.agg #[.bool q, .slice A' n' c']] W fun e w' => e = .returned (.int .i64 sg) ∧ Ext W w' from fun W e => by rw [hsg]; exact signR_any _ _ W (zden.ext e))
  have hs : decide (0 < sg) = false := by
    rw [hsg]
    rcases (by omega : numOf q l' < 0 ∨ numOf q l' = 0) with h | h
    · rw [Int.sign_eq_neg_one_of_neg h]; decide
    · rw [h]; decide
  have HB := Lib.hid (show bl = false by rw [hbl]; unfold vldR; rw [ha, hb]; simp [hc])
  clear ha hb hc hsg zden
  clear e1 h1 hW1 hx hy hbl
  go_enter Tryz.func9, Tryz.ntmps9
  go_upto_region 1 with fail
  rw [← HW1.out]
  clear HW1
  refine wp_region_noPanic ?_
  refine wp_pool 27 [some 3, some 4, some 5, some 6, some 7, some 8, some 9, some 10, some 11, some 12, some 13, some 14, some 15, some 16, some 17, some 18, some 19, some 20, some 21, some 22, some 23, some 24, some 25, some 26, some 27, some 28, some 29] [] [] [(fun (v : Value) (_ : World) => v = .pointer (some ⟨w.heap.size, 0, none⟩)), (fun (v : Value) (_ : World) => v = .agg #[.bool p, .slice A n c]), (fun (v : Value) (_ : World) => v = .bool true), (fun (v : Value) (_ : World) => v = .bool true), (fun (v : Value) (_ : World) => v = .pointer (some ⟨w.heap.size, 2, none⟩)), (fun (v : Value) (_ : World) => v = .agg #[.bool q, .slice A' n' c']), (fun (v : Value) (_ : World) => v = .bool true), (fun (v : Value) (_ : World) => v = .bool true), (fun (v : Value) (_ : World) => v = .bool true), (fun (v : Value) (_ : World) => v = .pointer (some ⟨w.heap.size, 2, none⟩)), (fun (v : Value) (_ : World) => v = .agg #[.bool q, .slice A' n' c']), (fun (v : Value) (_ : World) => v = .agg #[.bool q, .slice A' n' c']), (fun (v : Value) (_ : World) => v = .int .i64 sg), (fun (v : Value) (_ : World) => v = .bool false), (fun (v : Value) (_ : World) => v = .bool false), (fun (v : Value) (_ : World) => v = .bool false), (fun (v : Value) (_ : World) => v = undef), (fun (v : Value) (_ : World) => v = undef), (fun (v : Value) (_ : World) => v = undef), (fun (v : Value) (_ : World) => v = undef), (fun (v : Value) (_ : World) => v = undef), (fun (v : Value) (_ : World) => v = undef), (fun (v : Value) (_ : World) => v = undef), (fun (v : Value) (_ : World) => v = undef), (fun (v : Value) (_ : World) => v = undef), (fun (v : Value) (_ : World) => v = undef), (fun (v : Value) (_ : World) => v = .bool false)] [noF, noF, noF, noF, noF, noF, noF, noF, noF, noF, noF, noF, noF, noF, noF, noF, noF, noF, noF, noF, noF, noF, noF, noF, noF, noF, noF] (by kernel_rfl) (by kernel_rfl) (by kernel_rfl) (by kernel_rfl) (by kernel_rfl) (by kernel_rfl) (by kernel_rfl) (by kernel_rfl) (fun _ _ _ _ h => h) ⟨Stays.pure _, Stays.pure _, Stays.pure _, Stays.pure _, Stays.pure _, Stays.pure _, Stays.pure _, Stays.pure _, Stays.pure _, Stays.pure _, Stays.pure _, Stays.pure _, Stays.pure _, Stays.pure _, Stays.pure _, Stays.pure _, Stays.pure _, Stays.pure _, Stays.pure _, Stays.pure _, Stays.pure _, Stays.pure _, Stays.pure _, Stays.pure _, Stays.pure _, Stays.pure _, Stays.pure _, True.intro⟩ ?steps ?done
  case steps =>
    simp only [List.take_succ_cons, List.take_zero]
    refine Steps.cons (fun (v : Value) (_ : World) => v = .pointer (some ⟨w.heap.size, 0, none⟩)) [] rfl (by kernel_rfl) rfl (by kernel_rfl) (fun y X ex0 hf K hK => ?_) ?_
    · clear hf
      have ex := (Ext.drw (Ext.refl _)).trans ex0
      refine Box.mk ?_
      simp only [fill, Act.put, Nat.reduceAdd, List.setIfInBounds_toArray, List.set_cons_zero, List.set_cons_succ] at hK ⊢
      go_simp
      exact hK.out _ _ rfl (Ext.refl _) (fun b hb => by cases hb)
    refine Steps.cons (fun (v : Value) (_ : World) => v = .agg #[.bool p, .slice A n c]) [0] rfl (by kernel_rfl) rfl (by kernel_rfl) (fun y X ex0 hf K hK => ?_) ?_
    · have h0 : ((fun (v : Value) (_ : World) => v = .pointer (some ⟨w.heap.size, 0, none⟩))) (y 0) X := hf.1
      clear hf
      have ex := (Ext.drw (Ext.refl _)).trans ex0
      refine Box.mk ?_
      simp only [fill, Act.put, Nat.reduceAdd, List.setIfInBounds_toArray, List.set_cons_zero, List.set_cons_succ, h0] at hK ⊢
      have ka := keepAt ex l1 HK.out.1; have kb := keepAt ex l1 HK.out.2.1
      go_simp
      exact hK.out _ _ rfl (Ext.refl _) (fun b hb => by cases hb)
    refine Steps.cons (fun (v : Value) (_ : World) => v = .bool true) [1] rfl (by kernel_rfl) rfl (by kernel_rfl) (fun y X ex0 hf K hK => ?_) ?_
    · have h1 : ((fun (v : Value) (_ : World) => v = .agg #[.bool p, .slice A n c])) (y 1) X := hf.1
      clear hf
      have ex := (Ext.drw (Ext.refl _)).trans ex0
      refine Box.mk ?_
      simp only [fill, Act.put, Nat.reduceAdd, List.setIfInBounds_toArray, List.set_cons_zero, List.set_cons_succ, h1] at hK ⊢
      go_simp
      refine (VA.out _ ex).mono ?_
      rintro e V ⟨rfl, hb⟩
      try go_wp2_with fail
      exact hK.out _ _ rfl hb (fun b hb => by cases hb)
    refine Steps.cons (fun (v : Value) (_ : World) => v = .bool true) [2] rfl (by kernel_rfl) rfl (by kernel_rfl) (fun y X ex0 hf K hK => ?_) ?_
    · have h2 : ((fun (v : Value) (_ : World) => v = .bool true)) (y 2) X := hf.1
      clear hf
      have ex := (Ext.drw (Ext.refl _)).trans ex0
      refine Box.mk ?_
      simp only [fill, Act.put, Nat.reduceAdd, List.setIfInBounds_toArray, List.set_cons_zero, List.set_cons_succ, h2] at hK ⊢
      go_simp
      exact hK.out _ _ rfl (Ext.refl _) (fun b hb => by cases hb)
    refine Steps.cons (fun (v : Value) (_ : World) => v = .pointer (some ⟨w.heap.size, 2, none⟩)) [3] rfl (by kernel_rfl) rfl (by kernel_rfl) (fun y X ex0 hf K hK => ?_) ?_
    · have h3 : ((fun (v : Value) (_ : World) => v = .bool true)) (y 3) X := hf.1
      clear hf
      have ex := (Ext.drw (Ext.refl _)).trans ex0
      refine Box.mk ?_
      simp only [fill, Act.put, Nat.reduceAdd, List.setIfInBounds_toArray, List.set_cons_zero, List.set_cons_succ, h3] at hK ⊢
      go_simp
      exact hK.out _ _ rfl (Ext.refl _) (fun b hb => by cases hb)
    refine Steps.cons (fun (v : Value) (_ : World) => v = .agg #[.bool q, .slice A' n' c']) [4, 3] rfl (by kernel_rfl) rfl (by kernel_rfl) (fun y X ex0 hf K hK => ?_) ?_
    · have h4 : ((fun (v : Value) (_ : World) => v = .pointer (some ⟨w.heap.size, 2, none⟩))) (y 4) X := hf.1
      have h3 : ((fun (v : Value) (_ : World) => v = .bool true)) (y 3) X := hf.2.1
      clear hf
      have ex := (Ext.drw (Ext.refl _)).trans ex0
      refine Box.mk ?_
      simp only [fill, Act.put, Nat.reduceAdd, List.setIfInBounds_toArray, List.set_cons_zero, List.set_cons_succ, h4, h3] at hK ⊢
      have ka := keepAt ex l1 HK.out.2.2.1; have kb := keepAt ex l1 HK.out.2.2.2
      go_simp
      exact hK.out _ _ rfl (Ext.refl _) (fun b hb => by cases hb)
    refine Steps.cons (fun (v : Value) (_ : World) => v = .bool true) [5, 3] rfl (by kernel_rfl) rfl (by kernel_rfl) (fun y X ex0 hf K hK => ?_) ?_
    · have h5 : ((fun (v : Value) (_ : World) => v = .agg #[.bool q, .slice A' n' c'])) (y 5) X := hf.1
      have h3 : ((fun (v : Value) (_ : World) => v = .bool true)) (y 3) X := hf.2.1
      clear hf
      have ex := (Ext.drw (Ext.refl _)).trans ex0
      refine Box.mk ?_
      simp only [fill, Act.put, Nat.reduceAdd, List.setIfInBounds_toArray, List.set_cons_zero, List.set_cons_succ, h5, h3] at hK ⊢
      go_simp
      refine (VB.out _ ex).mono ?_
      rintro e V ⟨rfl, hb⟩
      try go_wp2_with fail
      exact hK.out _ _ rfl hb (fun b hb => by cases hb)
    refine Steps.cons (fun (v : Value) (_ : World) => v = .bool true) [3, 6] rfl (by kernel_rfl) rfl (by kernel_rfl) (fun y X ex0 hf K hK => ?_) ?_
    · have h3 : ((fun (v : Value) (_ : World) => v = .bool true)) (y 3) X := hf.1
      have h6 : ((fun (v : Value) (_ : World) => v = .bool true)) (y 6) X := hf.2.1
      clear hf
      have ex := (Ext.drw (Ext.refl _)).trans ex0
      refine Box.mk ?_
      simp only [fill, Act.put, Nat.reduceAdd, List.setIfInBounds_toArray, List.set_cons_zero, List.set_cons_succ, h3, h6] at hK ⊢
      go_simp
      exact hK.out _ _ rfl (Ext.refl _) (fun b hb => by cases hb)
    refine Steps.cons (fun (v : Value) (_ : World) => v = .bool true) [7, 6] rfl (by kernel_rfl) rfl (by kernel_rfl) (fun y X ex0 hf K hK => ?_) ?_
    · have h7 : ((fun (v : Value) (_ : World) => v = .bool true)) (y 7) X := hf.1
      have h6 : ((fun (v : Value) (_ : World) => v = .bool true)) (y 6) X := hf.2.1
      clear hf
      have ex := (Ext.drw (Ext.refl _)).trans ex0
      refine Box.mk ?_
      simp only [fill, Act.put, Nat.reduceAdd, List.setIfInBounds_toArray, List.set_cons_zero, List.set_cons_succ, h7, h6] at hK ⊢
      go_simp
      exact hK.out _ _ rfl (Ext.refl _) (fun b hb => by cases hb)
    refine Steps.cons (fun (v : Value) (_ : World) => v = .pointer (some ⟨w.heap.size, 2, none⟩)) [8] rfl (by kernel_rfl) rfl (by kernel_rfl) (fun y X ex0 hf K hK => ?_) ?_
    · have h8 : ((fun (v : Value) (_ : World) => v = .bool true)) (y 8) X := hf.1
      clear hf
      have ex := (Ext.drw (Ext.refl _)).trans ex0
      refine Box.mk ?_
      simp only [fill, Act.put, Nat.reduceAdd, List.setIfInBounds_toArray, List.set_cons_zero, List.set_cons_succ, h8] at hK ⊢
      go_simp
      exact hK.out _ _ rfl (Ext.refl _) (fun b hb => by cases hb)
    refine Steps.cons (fun (v : Value) (_ : World) => v = .agg #[.bool q, .slice A' n' c']) [9, 8] rfl (by kernel_rfl) rfl (by kernel_rfl) (fun y X ex0 hf K hK => ?_) ?_
    · have h9 : ((fun (v : Value) (_ : World) => v = .pointer (some ⟨w.heap.size, 2, none⟩))) (y 9) X := hf.1
      have h8 : ((fun (v : Value) (_ : World) => v = .bool true)) (y 8) X := hf.2.1
      clear hf
      have ex := (Ext.drw (Ext.refl _)).trans ex0
      refine Box.mk ?_
      simp only [fill, Act.put, Nat.reduceAdd, List.setIfInBounds_toArray, List.set_cons_zero, List.set_cons_succ, h9, h8] at hK ⊢
      have ka := keepAt ex l1 HK.out.2.2.1; have kb := keepAt ex l1 HK.out.2.2.2
      go_simp
      exact hK.out _ _ rfl (Ext.refl _) (fun b hb => by cases hb)
    refine Steps.cons (fun (v : Value) (_ : World) => v = .agg #[.bool q, .slice A' n' c']) [10, 8] rfl (by kernel_rfl) rfl (by kernel_rfl) (fun y X ex0 hf K hK => ?_) ?_
    · have h10 : ((fun (v : Value) (_ : World) => v = .agg #[.bool q, .slice A' n' c'])) (y 10) X := hf.1
      have h8 : ((fun (v : Value) (_ : World) => v = .bool true)) (y 8) X := hf.2.1
      clear hf
      have ex := (Ext.drw (Ext.refl _)).trans ex0
      refine Box.mk ?_
      simp only [fill, Act.put, Nat.reduceAdd, List.setIfInBounds_toArray, List.set_cons_zero, List.set_cons_succ, h10, h8] at hK ⊢
      go_simp
      refine (of_any _ _ _ _ _).mono ?_
      rintro e V ⟨rfl, hb⟩
      try go_wp2_with fail
      exact hK.out _ _ rfl hb (fun b hb => by cases hb)
    refine Steps.cons (fun (v : Value) (_ : World) => v = .int .i64 sg) [11, 8] rfl (by kernel_rfl) rfl (by kernel_rfl) (fun y X ex0 hf K hK => ?_) ?_
    · have h11 : ((fun (v : Value) (_ : World) => v = .agg #[.bool q, .slice A' n' c'])) (y 11) X := hf.1
      have h8 : ((fun (v : Value) (_ : World) => v = .bool true)) (y 8) X := hf.2.1
      clear hf
      have ex := (Ext.drw (Ext.refl _)).trans ex0
      refine Box.mk ?_
      simp only [fill, Act.put, Nat.reduceAdd, List.setIfInBounds_toArray, List.set_cons_zero, List.set_cons_succ, h11, h8] at hK ⊢
      go_simp
      refine (SG.out _ ex).mono ?_
      rintro e V ⟨rfl, hb⟩
      try go_wp2_with fail
      exact hK.out _ _ rfl hb (fun b hb => by cases hb)
    refine Steps.cons (fun (v : Value) (_ : World) => v = .bool false) [12, 8] rfl (by kernel_rfl) rfl (by kernel_rfl) (fun y X ex0 hf K hK => ?_) ?_
    · have h12 : ((fun (v : Value) (_ : World) => v = .int .i64 sg)) (y 12) X := hf.1
      have h8 : ((fun (v : Value) (_ : World) => v = .bool true)) (y 8) X := hf.2.1
      clear hf
      have ex := (Ext.drw (Ext.refl _)).trans ex0
      refine Box.mk ?_
      simp only [fill, Act.put, Nat.reduceAdd, List.setIfInBounds_toArray, List.set_cons_zero, List.set_cons_succ, h12, h8] at hK ⊢
      go_simp
      exact hK.out _ _ rfl (Ext.refl _) (fun b hb => by cases hb)
    refine Steps.cons (fun (v : Value) (_ : World) => v = .bool false) [8, 13] rfl (by kernel_rfl) rfl (by kernel_rfl) (fun y X ex0 hf K hK => ?_) ?_
    · have h8 : ((fun (v : Value) (_ : World) => v = .bool true)) (y 8) X := hf.1
      have h13 : ((fun (v : Value) (_ : World) => v = .bool false)) (y 13) X := hf.2.1
      clear hf
      have ex := (Ext.drw (Ext.refl _)).trans ex0
      refine Box.mk ?_
      simp only [fill, Act.put, Nat.reduceAdd, List.setIfInBounds_toArray, List.set_cons_zero, List.set_cons_succ, h8, h13] at hK ⊢
      go_simp
      exact hK.out _ _ rfl (Ext.refl _) (fun b hb => by cases hb)
    refine Steps.cons (fun (v : Value) (_ : World) => v = .bool false) [14, 12] rfl (by kernel_rfl) rfl (by kernel_rfl) (fun y X ex0 hf K hK => ?_) ?_
    · have h14 : ((fun (v : Value) (_ : World) => v = .bool false)) (y 14) X := hf.1
      have h12 : ((fun (v : Value) (_ : World) => v = .int .i64 sg)) (y 12) X := hf.2.1
      clear hf
      have ex := (Ext.drw (Ext.refl _)).trans ex0
      refine Box.mk ?_
      simp only [fill, Act.put, Nat.reduceAdd, List.setIfInBounds_toArray, List.set_cons_zero, List.set_cons_succ, h14, h12] at hK ⊢
      go_simp
      exact hK.out _ _ rfl (Ext.refl _) (fun b hb => by cases hb)
    refine Steps.cons (fun (v : Value) (_ : World) => v = undef) [15] rfl (by kernel_rfl) rfl (by kernel_rfl) (fun y X ex0 hf K hK => ?_) ?_
    · have h15 : ((fun (v : Value) (_ : World) => v = .bool false)) (y 15) X := hf.1
      clear hf
      have ex := (Ext.drw (Ext.refl _)).trans ex0
      refine Box.mk ?_
      simp only [fill, Act.put, Nat.reduceAdd, List.setIfInBounds_toArray, List.set_cons_zero, List.set_cons_succ, h15] at hK ⊢
      go_simp
      exact hK.out _ _ rfl (Ext.refl _) (fun b hb => by cases hb)
    refine Steps.cons (fun (v : Value) (_ : World) => v = undef) [16, 15] rfl (by kernel_rfl) rfl (by kernel_rfl) (fun y X ex0 hf K hK => ?_) ?_
    · have h16 : ((fun (v : Value) (_ : World) => v = undef)) (y 16) X := hf.1
      have h15 : ((fun (v : Value) (_ : World) => v = .bool false)) (y 15) X := hf.2.1
      clear hf
      have ex := (Ext.drw (Ext.refl _)).trans ex0
      refine Box.mk ?_
      simp only [fill, Act.put, Nat.reduceAdd, List.setIfInBounds_toArray, List.set_cons_zero, List.set_cons_succ, h16, h15] at hK ⊢
      go_simp
      exact hK.out _ _ rfl (Ext.refl _) (fun b hb => by cases hb)
    refine Steps.cons (fun (v : Value) (_ : World) => v = undef) [17, 15] rfl (by kernel_rfl) rfl (by kernel_rfl) (fun y X ex0 hf K hK => ?_) ?_
    · have h17 : ((fun (v : Value) (_ : World) => v = undef)) (y 17) X := hf.1
      have h15 : ((fun (v : Value) (_ : World) => v = .bool false)) (y 15) X := hf.2.1
      clear hf
      have ex := (Ext.drw (Ext.refl _)).trans ex0
      refine Box.mk ?_
      simp only [fill, Act.put, Nat.reduceAdd, List.setIfInBounds_toArray, List.set_cons_zero, List.set_cons_succ, h17, h15] at hK ⊢
      go_simp
      exact hK.out _ _ rfl (Ext.refl _) (fun b hb => by cases hb)
    refine Steps.cons (fun (v : Value) (_ : World) => v = undef) [15] rfl (by kernel_rfl) rfl (by kernel_rfl) (fun y X ex0 hf K hK => ?_) ?_
    · have h15 : ((fun (v : Value) (_ : World) => v = .bool false)) (y 15) X := hf.1
      clear hf
      have ex := (Ext.drw (Ext.refl _)).trans ex0
      refine Box.mk ?_
      simp only [fill, Act.put, Nat.reduceAdd, List.setIfInBounds_toArray, List.set_cons_zero, List.set_cons_succ, h15] at hK ⊢
      go_simp
      exact hK.out _ _ rfl (Ext.refl _) (fun b hb => by cases hb)
    refine Steps.cons (fun (v : Value) (_ : World) => v = undef) [19, 15] rfl (by kernel_rfl) rfl (by kernel_rfl) (fun y X ex0 hf K hK => ?_) ?_
    · have h19 : ((fun (v : Value) (_ : World) => v = undef)) (y 19) X := hf.1
      have h15 : ((fun (v : Value) (_ : World) => v = .bool false)) (y 15) X := hf.2.1
      clear hf
      have ex := (Ext.drw (Ext.refl _)).trans ex0
      refine Box.mk ?_
      simp only [fill, Act.put, Nat.reduceAdd, List.setIfInBounds_toArray, List.set_cons_zero, List.set_cons_succ, h19, h15] at hK ⊢
      go_simp
      exact hK.out _ _ rfl (Ext.refl _) (fun b hb => by cases hb)
    refine Steps.cons (fun (v : Value) (_ : World) => v = undef) [20, 18, 15] rfl (by kernel_rfl) rfl (by kernel_rfl) (fun y X ex0 hf K hK => ?_) ?_
    · have h20 : ((fun (v : Value) (_ : World) => v = undef)) (y 20) X := hf.1
      have h18 : ((fun (v : Value) (_ : World) => v = undef)) (y 18) X := hf.2.1
      have h15 : ((fun (v : Value) (_ : World) => v = .bool false)) (y 15) X := hf.2.2.1
      clear hf
      have ex := (Ext.drw (Ext.refl _)).trans ex0
      refine Box.mk ?_
      simp only [fill, Act.put, Nat.reduceAdd, List.setIfInBounds_toArray, List.set_cons_zero, List.set_cons_succ, h20, h18, h15] at hK ⊢
      go_simp
      exact hK.out _ _ rfl (Ext.refl _) (fun b hb => by cases hb)
    refine Steps.cons (fun (v : Value) (_ : World) => v = undef) [18, 21, 15] rfl (by kernel_rfl) rfl (by kernel_rfl) (fun y X ex0 hf K hK => ?_) ?_
    · have h18 : ((fun (v : Value) (_ : World) => v = undef)) (y 18) X := hf.1
      have h21 : ((fun (v : Value) (_ : World) => v = undef)) (y 21) X := hf.2.1
      have h15 : ((fun (v : Value) (_ : World) => v = .bool false)) (y 15) X := hf.2.2.1
      clear hf
      have ex := (Ext.drw (Ext.refl _)).trans ex0
      refine Box.mk ?_
      simp only [fill, Act.put, Nat.reduceAdd, List.setIfInBounds_toArray, List.set_cons_zero, List.set_cons_succ, h18, h21, h15] at hK ⊢
      go_simp
      exact hK.out _ _ rfl (Ext.refl _) (fun b hb => by cases hb)
    refine Steps.cons (fun (v : Value) (_ : World) => v = undef) [22, 15] rfl (by kernel_rfl) rfl (by kernel_rfl) (fun y X ex0 hf K hK => ?_) ?_
    · have h22 : ((fun (v : Value) (_ : World) => v = undef)) (y 22) X := hf.1
      have h15 : ((fun (v : Value) (_ : World) => v = .bool false)) (y 15) X := hf.2.1
      clear hf
      have ex := (Ext.drw (Ext.refl _)).trans ex0
      refine Box.mk ?_
      simp only [fill, Act.put, Nat.reduceAdd, List.setIfInBounds_toArray, List.set_cons_zero, List.set_cons_succ, h22, h15] at hK ⊢
      go_simp
      exact hK.out _ _ rfl (Ext.refl _) (fun b hb => by cases hb)
    refine Steps.cons (fun (v : Value) (_ : World) => v = undef) [22, 23, 15] rfl (by kernel_rfl) rfl (by kernel_rfl) (fun y X ex0 hf K hK => ?_) ?_
    · have h22 : ((fun (v : Value) (_ : World) => v = undef)) (y 22) X := hf.1
      have h23 : ((fun (v : Value) (_ : World) => v = undef)) (y 23) X := hf.2.1
      have h15 : ((fun (v : Value) (_ : World) => v = .bool false)) (y 15) X := hf.2.2.1
      clear hf
      have ex := (Ext.drw (Ext.refl _)).trans ex0
      refine Box.mk ?_
      simp only [fill, Act.put, Nat.reduceAdd, List.setIfInBounds_toArray, List.set_cons_zero, List.set_cons_succ, h22, h23, h15] at hK ⊢
      go_simp
      exact hK.out _ _ rfl (Ext.refl _) (fun b hb => by cases hb)
    refine Steps.cons (fun (v : Value) (_ : World) => v = undef) [24, 15] rfl (by kernel_rfl) rfl (by kernel_rfl) (fun y X ex0 hf K hK => ?_) ?_
    · have h24 : ((fun (v : Value) (_ : World) => v = undef)) (y 24) X := hf.1
      have h15 : ((fun (v : Value) (_ : World) => v = .bool false)) (y 15) X := hf.2.1
      clear hf
      have ex := (Ext.drw (Ext.refl _)).trans ex0
      refine Box.mk ?_
      simp only [fill, Act.put, Nat.reduceAdd, List.setIfInBounds_toArray, List.set_cons_zero, List.set_cons_succ, h24, h15] at hK ⊢
      go_simp
      exact hK.out _ _ rfl (Ext.refl _) (fun b hb => by cases hb)
    refine Steps.cons (fun (v : Value) (_ : World) => v = .bool false) [15, 25] rfl (by kernel_rfl) rfl (by kernel_rfl) (fun y X ex0 hf K hK => ?_) ?_
    · have h15 : ((fun (v : Value) (_ : World) => v = .bool false)) (y 15) X := hf.1
      have h25 : ((fun (v : Value) (_ : World) => v = undef)) (y 25) X := hf.2.1
      clear hf
      have ex := (Ext.drw (Ext.refl _)).trans ex0
      refine Box.mk ?_
      simp only [fill, Act.put, Nat.reduceAdd, List.setIfInBounds_toArray, List.set_cons_zero, List.set_cons_succ, h15, h25] at hK ⊢
      go_simp
      exact hK.out _ _ rfl (Ext.refl _) (fun b hb => by cases hb)
    exact Steps.nil
  case done =>
    intro y X ex hf hlt hsep
    have h0 : ((fun (v : Value) (_ : World) => v = .pointer (some ⟨w.heap.size, 0, none⟩))) (y 0) X := hf.1
    have h1 : ((fun (v : Value) (_ : World) => v = .agg #[.bool p, .slice A n c])) (y 1) X := hf.2.1
    have h2 : ((fun (v : Value) (_ : World) => v = .bool true)) (y 2) X := hf.2.2.1
    have h3 : ((fun (v : Value) (_ : World) => v = .bool true)) (y 3) X := hf.2.2.2.1
    have h4 : ((fun (v : Value) (_ : World) => v = .pointer (some ⟨w.heap.size, 2, none⟩))) (y 4) X := hf.2.2.2.2.1
    have h5 : ((fun (v : Value) (_ : World) => v = .agg #[.bool q, .slice A' n' c'])) (y 5) X := hf.2.2.2.2.2.1
    have h6 : ((fun (v : Value) (_ : World) => v = .bool true)) (y 6) X := hf.2.2.2.2.2.2.1
    have h7 : ((fun (v : Value) (_ : World) => v = .bool true)) (y 7) X := hf.2.2.2.2.2.2.2.1
    have h8 : ((fun (v : Value) (_ : World) => v = .bool true)) (y 8) X := hf.2.2.2.2.2.2.2.2.1
    have h9 : ((fun (v : Value) (_ : World) => v = .pointer (some ⟨w.heap.size, 2, none⟩))) (y 9) X := hf.2.2.2.2.2.2.2.2.2.1
    have h10 : ((fun (v : Value) (_ : World) => v = .agg #[.bool q, .slice A' n' c'])) (y 10) X := hf.2.2.2.2.2.2.2.2.2.2.1
    have h11 : ((fun (v : Value) (_ : World) => v = .agg #[.bool q, .slice A' n' c'])) (y 11) X := hf.2.2.2.2.2.2.2.2.2.2.2.1
    have h12 : ((fun (v : Value) (_ : World) => v = .int .i64 sg)) (y 12) X := hf.2.2.2.2.2.2.2.2.2.2.2.2.1
    have h13 : ((fun (v : Value) (_ : World) => v = .bool false)) (y 13) X := hf.2.2.2.2.2.2.2.2.2.2.2.2.2.1
    have h14 : ((fun (v : Value) (_ : World) => v = .bool false)) (y 14) X := hf.2.2.2.2.2.2.2.2.2.2.2.2.2.2.1
    have h15 : ((fun (v : Value) (_ : World) => v = .bool false)) (y 15) X := hf.2.2.2.2.2.2.2.2.2.2.2.2.2.2.2.1
    have h16 : ((fun (v : Value) (_ : World) => v = undef)) (y 16) X := hf.2.2.2.2.2.2.2.2.2.2.2.2.2.2.2.2.1
    have h17 : ((fun (v : Value) (_ : World) => v = undef)) (y 17) X := hf.2.2.2.2.2.2.2.2.2.2.2.2.2.2.2.2.2.1
    have h18 : ((fun (v : Value) (_ : World) => v = undef)) (y 18) X := hf.2.2.2.2.2.2.2.2.2.2.2.2.2.2.2.2.2.2.1
    have h19 : ((fun (v : Value) (_ : World) => v = undef)) (y 19) X := hf.2.2.2.2.2.2.2.2.2.2.2.2.2.2.2.2.2.2.2.1
    have h20 : ((fun (v : Value) (_ : World) => v = undef)) (y 20) X := hf.2.2.2.2.2.2.2.2.2.2.2.2.2.2.2.2.2.2.2.2.1
    have h21 : ((fun (v : Value) (_ : World) => v = undef)) (y 21) X := hf.2.2.2.2.2.2.2.2.2.2.2.2.2.2.2.2.2.2.2.2.2.1
    have h22 : ((fun (v : Value) (_ : World) => v = undef)) (y 22) X := hf.2.2.2.2.2.2.2.2.2.2.2.2.2.2.2.2.2.2.2.2.2.2.1
    have h23 : ((fun (v : Value) (_ : World) => v = undef)) (y 23) X := hf.2.2.2.2.2.2.2.2.2.2.2.2.2.2.2.2.2.2.2.2.2.2.2.1
    have h24 : ((fun (v : Value) (_ : World) => v = undef)) (y 24) X := hf.2.2.2.2.2.2.2.2.2.2.2.2.2.2.2.2.2.2.2.2.2.2.2.2.1
    have h25 : ((fun (v : Value) (_ : World) => v = undef)) (y 25) X := hf.2.2.2.2.2.2.2.2.2.2.2.2.2.2.2.2.2.2.2.2.2.2.2.2.2.1
    have h26 : ((fun (v : Value) (_ : World) => v = .bool false)) (y 26) X := hf.2.2.2.2.2.2.2.2.2.2.2.2.2.2.2.2.2.2.2.2.2.2.2.2.2.2.1
    clear hf
    clear hsep hlt
    refine Box.mk ?_
    simp only [List.drop_succ_cons, List.drop_zero, fill, Act.put, Nat.reduceAdd, List.setIfInBounds_toArray, List.set_cons_zero, List.set_cons_succ, h0, h1, h2, h3, h4, h5, h6, h7, h8, h9, h10, h11, h12, h13, h14, h15, h16, h17, h18, h19, h20, h21, h22, h23, h24, h25, h26]
    clear h0 h1 h2 h3 h4 h5 h6 h7 h8 h9 h10 h11 h12 h13 h14 h15 h16 h17 h18 h19 h20 h21 h22 h23 h24 h25 h26
    have EX := Lib.hid (E1.out.trans ex)
    clear ex
    go_wp2_with fail
    refine NoPanic.normal ?_
    go_wp2
    go_ret
    exact ⟨by rw [HB.out]; rfl, EX.out⟩
set_option maxHeartbeats 1600000 in
set_option maxRecDepth 100000 in
theorem validRatR_d (p q : Bool) (A A' : Option Addr) (n c n' c' : Nat) (l l' : List Nat) (w : World) (hx : Wd w (.slice A n c) l) (hy : Wd w (.slice A' n' c') l') (ha : vld p l = true) (hb : vld q l' = true) (hc : 0 < numOf q l') :
    Calls Tryz.prog 9 #[.agg #[.bool p, .slice A n c, .bool q, .slice A' n' c']] w fun e w' => e = .returned (.bool (vldR p q l l')) ∧ Ext w w' := by
  obtain ⟨W1, hW1⟩ : ∃ W1, W1 = w.alloc (Obj.cells #[.bool p, .slice A n c, .bool q, .slice A' n' c'] 26) := ⟨_, rfl⟩
  have e1 : Ext w W1 := by rw [hW1]; exact (Ext.refl w).alc _
  have h1 : RW W1 w.heap.size p q A n c A' n' c' l l' := by rw [hW1]; exact RW.new 26 hx hy
  have HK := Lib.hid (And.intro h1.k0 (And.intro h1.k1 (And.intro h1.k2 h1.k3)))
  have VA := Lib.hid (fun W (e : Ext W1 W) => validR_any p A n c l W (h1.w1.below e))
  have VB := Lib.hid (fun W (e : Ext W1 W) => validR_any q A' n' c' l' W (h1.w2.below e))
  have l1 := h1.h.lt
  have E1 := Lib.hid e1; have HW1 := Lib.hid hW1
  obtain ⟨bl, hbl⟩ : ∃ b, b = vldR p q l l' := ⟨_, rfl⟩
  rw [← hbl]
  rw [ha] at VA
  rw [hb] at VB
  obtain ⟨sg, hsg⟩ : ∃ sg, sg = (numOf q l').sign := ⟨_, rfl⟩
  have zden := vld_zv (h1.w2) hb
  have SG := Lib.hid (show ∀ W, Ext W1 W → Calls Tryz.prog 30 #[.agg #[.bool q, .slice A' n' c']] W fun e w' => e = .returned (.int .i64 sg) ∧ Ext W w' from fun W e => by rw [hsg]; exact signR_any _ _ W (zden.ext e))
  have hs : decide (0 < sg) = true := by rw [hsg, Int.sign_eq_one_of_pos hc]; decide
  have znum := vld_zv (h1.w1) ha
  have lx : (dig (numOf p l).natAbs).length ≤ 256 := by rw [vld_dig hx.ok ha]; exact vld_len ha
  have ly : (dig (numOf q l').natAbs).length ≤ 256 := by rw [vld_dig hy.ok hb]; exact vld_len hb
  obtain ⟨vg, hvg⟩ : ∃ vg : Int, vg = ((Int.gcd (numOf p l) (numOf q l') : Nat) : Int) := ⟨_, rfl⟩
  have lg : (dig vg.natAbs).length ≤ 256 := by
    rw [hvg, Int.natAbs_natCast]
    exact Nat.le_trans (len_mono (Nat.le_of_dvd (by omega) (Int.gcd_dvd_natAbs_right ..))) ly
  have CM := Lib.hid (show ∀ W, Ext W1 W → Calls Tryz.prog 32 #[.agg #[.bool p, .slice A n c], .agg #[.bool q, .slice A' n' c']] W (RetZ W vg) from fun W e => by rw [hvg]; exact commonR_any _ _ _ _ W (znum.ext e) (zden.ext e) (by omega) (by omega))
  obtain ⟨so, hso⟩ : ∃ so, so = (vg - 1).sign := ⟨_, rfl⟩
  have OR := Lib.hid (show ∀ W a b, ZV W a vg → ZV W b 1 → Calls Tryz.prog 31 #[a, b] W fun e w' => e = .returned (.int .i64 so) ∧ Ext W w' from fun W a b h k => by rw [hso]; exact orderRZ_any vg 1 a b W h k (by omega) (by rw [show ((1 : Int).natAbs) = 1 from rfl, dig_pos (by omega)]; simp [dig_zero]))
  have HB := Lib.hid (show bl = (so == 0) by
    rw [hbl]; unfold vldR; rw [ha, hb, hso]
    rw [Bool.eq_iff_iff]
    simp only [Bool.and_true, Bool.true_and, decide_eq_true_eq, beq_iff_eq, Int.sign_eq_zero_iff_zero]
    omega)
  clear ha hb hc hsg zden znum lx ly lg hvg hso
  clear e1 h1 hW1 hx hy hbl
  go_enter Tryz.func9, Tryz.ntmps9
  go_upto_region 1 with fail
  rw [← HW1.out]
  clear HW1
  refine wp_region_noPanic ?_
  refine wp_pool 27 [some 3, some 4, some 5, some 6, some 7, some 8, some 9, some 10, some 11, some 12, some 13, some 14, some 15, some 16, some 17, some 18, some 19, some 20, some 21, some 22, some 23, some 24, some 25, some 26, some 27, some 28, some 29] [] [] [(fun (v : Value) (_ : World) => v = .pointer (some ⟨w.heap.size, 0, none⟩)), (fun (v : Value) (_ : World) => v = .agg #[.bool p, .slice A n c]), (fun (v : Value) (_ : World) => v = .bool true), (fun (v : Value) (_ : World) => v = .bool true), (fun (v : Value) (_ : World) => v = .pointer (some ⟨w.heap.size, 2, none⟩)), (fun (v : Value) (_ : World) => v = .agg #[.bool q, .slice A' n' c']), (fun (v : Value) (_ : World) => v = .bool true), (fun (v : Value) (_ : World) => v = .bool true), (fun (v : Value) (_ : World) => v = .bool true), (fun (v : Value) (_ : World) => v = .pointer (some ⟨w.heap.size, 2, none⟩)), (fun (v : Value) (_ : World) => v = .agg #[.bool q, .slice A' n' c']), (fun (v : Value) (_ : World) => v = .agg #[.bool q, .slice A' n' c']), (fun (v : Value) (_ : World) => v = .int .i64 sg), (fun (v : Value) (_ : World) => v = .bool true), (fun (v : Value) (_ : World) => v = .bool true), (fun (v : Value) (_ : World) => v = .bool true), (fun (v : Value) (_ : World) => v = .pointer (some ⟨w.heap.size, 0, none⟩)), (fun (v : Value) (_ : World) => v = .agg #[.bool p, .slice A n c]), (fun (v : Value) (_ : World) => v = .agg #[.bool p, .slice A n c]), (fun (v : Value) (_ : World) => v = .pointer (some ⟨w.heap.size, 2, none⟩)), (fun (v : Value) (_ : World) => v = .agg #[.bool q, .slice A' n' c']), (fun (v : Value) (_ : World) => v = .agg #[.bool q, .slice A' n' c']), (fun (v : Value) (X : World) => ∃ b A n c, v = .agg #[.bool b, .slice A n c] ∧ ZV X (.agg #[.bool b, .slice A n c]) (vg)), (fun (v : Value) (X : World) => ∃ b A n c, v = .agg #[.bool b, .slice A n c] ∧ ZV X (.agg #[.bool b, .slice A n c]) (1)), (fun (v : Value) (_ : World) => v = .int .i64 so), (fun (v : Value) (_ : World) => v = .bool (so == 0)), (fun (v : Value) (_ : World) => v = .bool (so == 0))] [noF, noF, noF, noF, noF, noF, noF, noF, noF, noF, noF, noF, noF, noF, noF, noF, noF, noF, noF, noF, noF, noF, noF, noF, noF, noF, noF] (by kernel_rfl) (by kernel_rfl) (by kernel_rfl) (by kernel_rfl) (by kernel_rfl) (by kernel_rfl) (by kernel_rfl) (by kernel_rfl) (fun _ _ _ _ h => h) ⟨Stays.pure _, Stays.pure _, Stays.pure _, Stays.pure _, Stays.pure _, Stays.pure _, Stays.pure _, Stays.pure _, Stays.pure _, Stays.pure _, Stays.pure _, Stays.pure _, Stays.pure _, Stays.pure _, Stays.pure _, Stays.pure _, Stays.pure _, Stays.pure _, Stays.pure _, Stays.pure _, Stays.pure _, Stays.pure _, (fun _ _ _ e ⟨b, A, n, c, h1, h2⟩ => ⟨b, A, n, c, h1, h2.ext e⟩), (fun _ _ _ e ⟨b, A, n, c, h1, h2⟩ => ⟨b, A, n, c, h1, h2.ext e⟩), Stays.pure _, Stays.pure _, Stays.pure _, True.intro⟩ ?steps ?done
  case steps =>
    simp only [List.take_succ_cons, List.take_zero]
    refine Steps.cons (fun (v : Value) (_ : World) => v = .pointer (some ⟨w.heap.size, 0, none⟩)) [] rfl (by kernel_rfl) rfl (by kernel_rfl) (fun y X ex0 hf K hK => ?_) ?_
    · clear hf
      have ex := (Ext.drw (Ext.refl _)).trans ex0
      refine Box.mk ?_
      simp only [fill, Act.put, Nat.reduceAdd, List.setIfInBounds_toArray, List.set_cons_zero, List.set_cons_succ] at hK ⊢
      go_simp
      exact hK.out _ _ rfl (Ext.refl _) (fun b hb => by cases hb)
    refine Steps.cons (fun (v : Value) (_ : World) => v = .agg #[.bool p, .slice A n c]) [0] rfl (by kernel_rfl) rfl (by kernel_rfl) (fun y X ex0 hf K hK => ?_) ?_
    · have h0 : ((fun (v : Value) (_ : World) => v = .pointer (some ⟨w.heap.size, 0, none⟩))) (y 0) X := hf.1
      clear hf
      have ex := (Ext.drw (Ext.refl _)).trans ex0
      refine Box.mk ?_
      simp only [fill, Act.put, Nat.reduceAdd, List.setIfInBounds_toArray, List.set_cons_zero, List.set_cons_succ, h0] at hK ⊢
      have ka := keepAt ex l1 HK.out.1; have kb := keepAt ex l1 HK.out.2.1
      go_simp
      exact hK.out _ _ rfl (Ext.refl _) (fun b hb => by cases hb)
    refine Steps.cons (fun (v : Value) (_ : World) => v = .bool true) [1] rfl (by kernel_rfl) rfl (by kernel_rfl) (fun y X ex0 hf K hK => ?_) ?_
    · have h1 : ((fun (v : Value) (_ : World) => v = .agg #[.bool p, .slice A n c])) (y 1) X := hf.1
      clear hf
      have ex := (Ext.drw (Ext.refl _)).trans ex0
      refine Box.mk ?_
      simp only [fill, Act.put, Nat.reduceAdd, List.setIfInBounds_toArray, List.set_cons_zero, List.set_cons_succ, h1] at hK ⊢
      go_simp
      refine (VA.out _ ex).mono ?_
      rintro e V ⟨rfl, hb⟩
      try go_wp2_with fail
      exact hK.out _ _ rfl hb (fun b hb => by cases hb)
    refine Steps.cons (fun (v : Value) (_ : World) => v = .bool true) [2] rfl (by kernel_rfl) rfl (by kernel_rfl) (fun y X ex0 hf K hK => ?_) ?_
    · have h2 : ((fun (v : Value) (_ : World) => v = .bool true)) (y 2) X := hf.1
      clear hf
      have ex := (Ext.drw (Ext.refl _)).trans ex0
      refine Box.mk ?_
      simp only [fill, Act.put, Nat.reduceAdd, List.setIfInBounds_toArray, List.set_cons_zero, List.set_cons_succ, h2] at hK ⊢
      go_simp
      exact hK.out _ _ rfl (Ext.refl _) (fun b hb => by cases hb)
    refine Steps.cons (fun (v : Value) (_ : World) => v = .pointer (some ⟨w.heap.size, 2, none⟩)) [3] rfl (by kernel_rfl) rfl (by kernel_rfl) (fun y X ex0 hf K hK => ?_) ?_
    · have h3 : ((fun (v : Value) (_ : World) => v = .bool true)) (y 3) X := hf.1
      clear hf
      have ex := (Ext.drw (Ext.refl _)).trans ex0
      refine Box.mk ?_
      simp only [fill, Act.put, Nat.reduceAdd, List.setIfInBounds_toArray, List.set_cons_zero, List.set_cons_succ, h3] at hK ⊢
      go_simp
      exact hK.out _ _ rfl (Ext.refl _) (fun b hb => by cases hb)
    refine Steps.cons (fun (v : Value) (_ : World) => v = .agg #[.bool q, .slice A' n' c']) [4, 3] rfl (by kernel_rfl) rfl (by kernel_rfl) (fun y X ex0 hf K hK => ?_) ?_
    · have h4 : ((fun (v : Value) (_ : World) => v = .pointer (some ⟨w.heap.size, 2, none⟩))) (y 4) X := hf.1
      have h3 : ((fun (v : Value) (_ : World) => v = .bool true)) (y 3) X := hf.2.1
      clear hf
      have ex := (Ext.drw (Ext.refl _)).trans ex0
      refine Box.mk ?_
      simp only [fill, Act.put, Nat.reduceAdd, List.setIfInBounds_toArray, List.set_cons_zero, List.set_cons_succ, h4, h3] at hK ⊢
      have ka := keepAt ex l1 HK.out.2.2.1; have kb := keepAt ex l1 HK.out.2.2.2
      go_simp
      exact hK.out _ _ rfl (Ext.refl _) (fun b hb => by cases hb)
    refine Steps.cons (fun (v : Value) (_ : World) => v = .bool true) [5, 3] rfl (by kernel_rfl) rfl (by kernel_rfl) (fun y X ex0 hf K hK => ?_) ?_
    · have h5 : ((fun (v : Value) (_ : World) => v = .agg #[.bool q, .slice A' n' c'])) (y 5) X := hf.1
      have h3 : ((fun (v : Value) (_ : World) => v = .bool true)) (y 3) X := hf.2.1
      clear hf
      have ex := (Ext.drw (Ext.refl _)).trans ex0
      refine Box.mk ?_
      simp only [fill, Act.put, Nat.reduceAdd, List.setIfInBounds_toArray, List.set_cons_zero, List.set_cons_succ, h5, h3] at hK ⊢
      go_simp
      refine (VB.out _ ex).mono ?_
      rintro e V ⟨rfl, hb⟩
      try go_wp2_with fail
      exact hK.out _ _ rfl hb (fun b hb => by cases hb)
    refine Steps.cons (fun (v : Value) (_ : World) => v = .bool true) [3, 6] rfl (by kernel_rfl) rfl (by kernel_rfl) (fun y X ex0 hf K hK => ?_) ?_
    · have h3 : ((fun (v : Value) (_ : World) => v = .bool true)) (y 3) X := hf.1
      have h6 : ((fun (v : Value) (_ : World) => v = .bool true)) (y 6) X := hf.2.1
      clear hf
      have ex := (Ext.drw (Ext.refl _)).trans ex0
      refine Box.mk ?_
      simp only [fill, Act.put, Nat.reduceAdd, List.setIfInBounds_toArray, List.set_cons_zero, List.set_cons_succ, h3, h6] at hK ⊢
      go_simp
      exact hK.out _ _ rfl (Ext.refl _) (fun b hb => by cases hb)
    refine Steps.cons (fun (v : Value) (_ : World) => v = .bool true) [7, 6] rfl (by kernel_rfl) rfl (by kernel_rfl) (fun y X ex0 hf K hK => ?_) ?_
    · have h7 : ((fun (v : Value) (_ : World) => v = .bool true)) (y 7) X := hf.1
      have h6 : ((fun (v : Value) (_ : World) => v = .bool true)) (y 6) X := hf.2.1
      clear hf
      have ex := (Ext.drw (Ext.refl _)).trans ex0
      refine Box.mk ?_
      simp only [fill, Act.put, Nat.reduceAdd, List.setIfInBounds_toArray, List.set_cons_zero, List.set_cons_succ, h7, h6] at hK ⊢
      go_simp
      exact hK.out _ _ rfl (Ext.refl _) (fun b hb => by cases hb)
    refine Steps.cons (fun (v : Value) (_ : World) => v = .pointer (some ⟨w.heap.size, 2, none⟩)) [8] rfl (by kernel_rfl) rfl (by kernel_rfl) (fun y X ex0 hf K hK => ?_) ?_
    · have h8 : ((fun (v : Value) (_ : World) => v = .bool true)) (y 8) X := hf.1
      clear hf
      have ex := (Ext.drw (Ext.refl _)).trans ex0
      refine Box.mk ?_
      simp only [fill, Act.put, Nat.reduceAdd, List.setIfInBounds_toArray, List.set_cons_zero, List.set_cons_succ, h8] at hK ⊢
      go_simp
      exact hK.out _ _ rfl (Ext.refl _) (fun b hb => by cases hb)
    refine Steps.cons (fun (v : Value) (_ : World) => v = .agg #[.bool q, .slice A' n' c']) [9, 8] rfl (by kernel_rfl) rfl (by kernel_rfl) (fun y X ex0 hf K hK => ?_) ?_
    · have h9 : ((fun (v : Value) (_ : World) => v = .pointer (some ⟨w.heap.size, 2, none⟩))) (y 9) X := hf.1
      have h8 : ((fun (v : Value) (_ : World) => v = .bool true)) (y 8) X := hf.2.1
      clear hf
      have ex := (Ext.drw (Ext.refl _)).trans ex0
      refine Box.mk ?_
      simp only [fill, Act.put, Nat.reduceAdd, List.setIfInBounds_toArray, List.set_cons_zero, List.set_cons_succ, h9, h8] at hK ⊢
      have ka := keepAt ex l1 HK.out.2.2.1; have kb := keepAt ex l1 HK.out.2.2.2
      go_simp
      exact hK.out _ _ rfl (Ext.refl _) (fun b hb => by cases hb)
    refine Steps.cons (fun (v : Value) (_ : World) => v = .agg #[.bool q, .slice A' n' c']) [10, 8] rfl (by kernel_rfl) rfl (by kernel_rfl) (fun y X ex0 hf K hK => ?_) ?_
    · have h10 : ((fun (v : Value) (_ : World) => v = .agg #[.bool q, .slice A' n' c'])) (y 10) X := hf.1
      have h8 : ((fun (v : Value) (_ : World) => v = .bool true)) (y 8) X := hf.2.1
      clear hf
      have ex := (Ext.drw (Ext.refl _)).trans ex0
      refine Box.mk ?_
      simp only [fill, Act.put, Nat.reduceAdd, List.setIfInBounds_toArray, List.set_cons_zero, List.set_cons_succ, h10, h8] at hK ⊢
      go_simp
      refine (of_any _ _ _ _ _).mono ?_
      rintro e V ⟨rfl, hb⟩
      try go_wp2_with fail
      exact hK.out _ _ rfl hb (fun b hb => by cases hb)
    refine Steps.cons (fun (v : Value) (_ : World) => v = .int .i64 sg) [11, 8] rfl (by kernel_rfl) rfl (by kernel_rfl) (fun y X ex0 hf K hK => ?_) ?_
    · have h11 : ((fun (v : Value) (_ : World) => v = .agg #[.bool q, .slice A' n' c'])) (y 11) X := hf.1
      have h8 : ((fun (v : Value) (_ : World) => v = .bool true)) (y 8) X := hf.2.1
      clear hf
      have ex := (Ext.drw (Ext.refl _)).trans ex0
      refine Box.mk ?_
      simp only [fill, Act.put, Nat.reduceAdd, List.setIfInBounds_toArray, List.set_cons_zero, List.set_cons_succ, h11, h8] at hK ⊢
      go_simp
      refine (SG.out _ ex).mono ?_
      rintro e V ⟨rfl, hb⟩
      try go_wp2_with fail
      exact hK.out _ _ rfl hb (fun b hb => by cases hb)
    refine Steps.cons (fun (v : Value) (_ : World) => v = .bool true) [12, 8] rfl (by kernel_rfl) rfl (by kernel_rfl) (fun y X ex0 hf K hK => ?_) ?_
    · have h12 : ((fun (v : Value) (_ : World) => v = .int .i64 sg)) (y 12) X := hf.1
      have h8 : ((fun (v : Value) (_ : World) => v = .bool true)) (y 8) X := hf.2.1
      clear hf
      have ex := (Ext.drw (Ext.refl _)).trans ex0
      refine Box.mk ?_
      simp only [fill, Act.put, Nat.reduceAdd, List.setIfInBounds_toArray, List.set_cons_zero, List.set_cons_succ, h12, h8] at hK ⊢
      go_simp
      exact hK.out _ _ rfl (Ext.refl _) (fun b hb => by cases hb)
    refine Steps.cons (fun (v : Value) (_ : World) => v = .bool true) [8, 13] rfl (by kernel_rfl) rfl (by kernel_rfl) (fun y X ex0 hf K hK => ?_) ?_
    · have h8 : ((fun (v : Value) (_ : World) => v = .bool true)) (y 8) X := hf.1
      have h13 : ((fun (v : Value) (_ : World) => v = .bool true)) (y 13) X := hf.2.1
      clear hf
      have ex := (Ext.drw (Ext.refl _)).trans ex0
      refine Box.mk ?_
      simp only [fill, Act.put, Nat.reduceAdd, List.setIfInBounds_toArray, List.set_cons_zero, List.set_cons_succ, h8, h13] at hK ⊢
      go_simp
      exact hK.out _ _ rfl (Ext.refl _) (fun b hb => by cases hb)
    refine Steps.cons (fun (v : Value) (_ : World) => v = .bool true) [14, 12] rfl (by kernel_rfl) rfl (by kernel_rfl) (fun y X ex0 hf K hK => ?_) ?_
    · have h14 : ((fun (v : Value) (_ : World) => v = .bool true)) (y 14) X := hf.1
      have h12 : ((fun (v : Value) (_ : World) => v = .int .i64 sg)) (y 12) X := hf.2.1
      clear hf
      have ex := (Ext.drw (Ext.refl _)).trans ex0
      refine Box.mk ?_
      simp only [fill, Act.put, Nat.reduceAdd, List.setIfInBounds_toArray, List.set_cons_zero, List.set_cons_succ, h14, h12] at hK ⊢
      go_simp
      exact hK.out _ _ rfl (Ext.refl _) (fun b hb => by cases hb)
    refine Steps.cons (fun (v : Value) (_ : World) => v = .pointer (some ⟨w.heap.size, 0, none⟩)) [15] rfl (by kernel_rfl) rfl (by kernel_rfl) (fun y X ex0 hf K hK => ?_) ?_
    · have h15 : ((fun (v : Value) (_ : World) => v = .bool true)) (y 15) X := hf.1
      clear hf
      have ex := (Ext.drw (Ext.refl _)).trans ex0
      refine Box.mk ?_
      simp only [fill, Act.put, Nat.reduceAdd, List.setIfInBounds_toArray, List.set_cons_zero, List.set_cons_succ, h15] at hK ⊢
      go_simp
      exact hK.out _ _ rfl (Ext.refl _) (fun b hb => by cases hb)
    refine Steps.cons (fun (v : Value) (_ : World) => v = .agg #[.bool p, .slice A n c]) [16, 15] rfl (by kernel_rfl) rfl (by kernel_rfl) (fun y X ex0 hf K hK => ?_) ?_
    · have h16 : ((fun (v : Value) (_ : World) => v = .pointer (some ⟨w.heap.size, 0, none⟩))) (y 16) X := hf.1
      have h15 : ((fun (v : Value) (_ : World) => v = .bool true)) (y 15) X := hf.2.1
      clear hf
      have ex := (Ext.drw (Ext.refl _)).trans ex0
      refine Box.mk ?_
      simp only [fill, Act.put, Nat.reduceAdd, List.setIfInBounds_toArray, List.set_cons_zero, List.set_cons_succ, h16, h15] at hK ⊢
      have ka := keepAt ex l1 HK.out.1; have kb := keepAt ex l1 HK.out.2.1
      go_simp
      exact hK.out _ _ rfl (Ext.refl _) (fun b hb => by cases hb)
    refine Steps.cons (fun (v : Value) (_ : World) => v = .agg #[.bool p, .slice A n c]) [17, 15] rfl (by kernel_rfl) rfl (by kernel_rfl) (fun y X ex0 hf K hK => ?_) ?_
    · have h17 : ((fun (v : Value) (_ : World) => v = .agg #[.bool p, .slice A n c])) (y 17) X := hf.1
      have h15 : ((fun (v : Value) (_ : World) => v = .bool true)) (y 15) X := hf.2.1
      clear hf
      have ex := (Ext.drw (Ext.refl _)).trans ex0
      refine Box.mk ?_
      simp only [fill, Act.put, Nat.reduceAdd, List.setIfInBounds_toArray, List.set_cons_zero, List.set_cons_succ, h17, h15] at hK ⊢
      go_simp
      refine (of_any _ _ _ _ _).mono ?_
      rintro e V ⟨rfl, hb⟩
      try go_wp2_with fail
      exact hK.out _ _ rfl hb (fun b hb => by cases hb)
    refine Steps.cons (fun (v : Value) (_ : World) => v = .pointer (some ⟨w.heap.size, 2, none⟩)) [15] rfl (by kernel_rfl) rfl (by kernel_rfl) (fun y X ex0 hf K hK => ?_) ?_
    · have h15 : ((fun (v : Value) (_ : World) => v = .bool true)) (y 15) X := hf.1
      clear hf
      have ex := (Ext.drw (Ext.refl _)).trans ex0
      refine Box.mk ?_
      simp only [fill, Act.put, Nat.reduceAdd, List.setIfInBounds_toArray, List.set_cons_zero, List.set_cons_succ, h15] at hK ⊢
      go_simp
      exact hK.out _ _ rfl (Ext.refl _) (fun b hb => by cases hb)
    refine Steps.cons (fun (v : Value) (_ : World) => v = .agg #[.bool q, .slice A' n' c']) [19, 15] rfl (by kernel_rfl) rfl (by kernel_rfl) (fun y X ex0 hf K hK => ?_) ?_
    · have h19 : ((fun (v : Value) (_ : World) => v = .pointer (some ⟨w.heap.size, 2, none⟩))) (y 19) X := hf.1
      have h15 : ((fun (v : Value) (_ : World) => v = .bool true)) (y 15) X := hf.2.1
      clear hf
      have ex := (Ext.drw (Ext.refl _)).trans ex0
      refine Box.mk ?_
      simp only [fill, Act.put, Nat.reduceAdd, List.setIfInBounds_toArray, List.set_cons_zero, List.set_cons_succ, h19, h15] at hK ⊢
      have ka := keepAt ex l1 HK.out.2.2.1; have kb := keepAt ex l1 HK.out.2.2.2
      go_simp
      exact hK.out _ _ rfl (Ext.refl _) (fun b hb => by cases hb)
    refine Steps.cons (fun (v : Value) (_ : World) => v = .agg #[.bool q, .slice A' n' c']) [20, 18, 15] rfl (by kernel_rfl) rfl (by kernel_rfl) (fun y X ex0 hf K hK => ?_) ?_
    · have h20 : ((fun (v : Value) (_ : World) => v = .agg #[.bool q, .slice A' n' c'])) (y 20) X := hf.1
      have h18 : ((fun (v : Value) (_ : World) => v = .agg #[.bool p, .slice A n c])) (y 18) X := hf.2.1
      have h15 : ((fun (v : Value) (_ : World) => v = .bool true)) (y 15) X := hf.2.2.1
      clear hf
      have ex := (Ext.drw (Ext.refl _)).trans ex0
      refine Box.mk ?_
      simp only [fill, Act.put, Nat.reduceAdd, List.setIfInBounds_toArray, List.set_cons_zero, List.set_cons_succ, h20, h18, h15] at hK ⊢
      go_simp
      refine (of_any _ _ _ _ _).mono ?_
      rintro e V ⟨rfl, hb⟩
      try go_wp2_with fail
      exact hK.out _ _ rfl hb (fun b hb => by cases hb)
    refine Steps.cons (fun (v : Value) (X : World) => ∃ b A n c, v = .agg #[.bool b, .slice A n c] ∧ ZV X (.agg #[.bool b, .slice A n c]) (vg)) [18, 21, 15] rfl (by kernel_rfl) rfl (by kernel_rfl) (fun y X ex0 hf K hK => ?_) ?_
    · have h18 : ((fun (v : Value) (_ : World) => v = .agg #[.bool p, .slice A n c])) (y 18) X := hf.1
      have h21 : ((fun (v : Value) (_ : World) => v = .agg #[.bool q, .slice A' n' c'])) (y 21) X := hf.2.1
      have h15 : ((fun (v : Value) (_ : World) => v = .bool true)) (y 15) X := hf.2.2.1
      clear hf
      have ex := (Ext.drw (Ext.refl _)).trans ex0
      refine Box.mk ?_
      simp only [fill, Act.put, Nat.reduceAdd, List.setIfInBounds_toArray, List.set_cons_zero, List.set_cons_succ, h18, h21, h15] at hK ⊢
      go_simp
      refine (asAgg (CM.out _ ex)).mono ?_
      rintro e V ⟨b9, A9, n9, c9, rfl, hz, hb⟩
      try go_wp2_with fail
      exact hK.out _ _ ⟨_, _, _, _, rfl, hz⟩ hb (fun b hb => by cases hb)
    refine Steps.cons (fun (v : Value) (X : World) => ∃ b A n c, v = .agg #[.bool b, .slice A n c] ∧ ZV X (.agg #[.bool b, .slice A n c]) (1)) [22, 15] rfl (by kernel_rfl) rfl (by kernel_rfl) (fun y X ex0 hf K hK => ?_) ?_
    · obtain ⟨b22, A22, n22, c22, h22, z22⟩ : ((fun (v : Value) (X : World) => ∃ b A n c, v = .agg #[.bool b, .slice A n c] ∧ ZV X (.agg #[.bool b, .slice A n c]) (vg))) (y 22) X := hf.1
      have h15 : ((fun (v : Value) (_ : World) => v = .bool true)) (y 15) X := hf.2.1
      clear hf
      have ex := (Ext.drw (Ext.refl _)).trans ex0
      refine Box.mk ?_
      simp only [fill, Act.put, Nat.reduceAdd, List.setIfInBounds_toArray, List.set_cons_zero, List.set_cons_succ, h22, h15] at hK ⊢
      go_simp
      refine (asAgg (wholeR_any 1 _ (by omega) (by omega))).mono ?_
      rintro e V ⟨b9, A9, n9, c9, rfl, hz, hb⟩
      try go_wp2_with fail
      exact hK.out _ _ ⟨_, _, _, _, rfl, hz⟩ hb (fun b hb => by cases hb)
    refine Steps.cons (fun (v : Value) (_ : World) => v = .int .i64 so) [22, 23, 15] rfl (by kernel_rfl) rfl (by kernel_rfl) (fun y X ex0 hf K hK => ?_) ?_
    · obtain ⟨b22, A22, n22, c22, h22, z22⟩ : ((fun (v : Value) (X : World) => ∃ b A n c, v = .agg #[.bool b, .slice A n c] ∧ ZV X (.agg #[.bool b, .slice A n c]) (vg))) (y 22) X := hf.1
      obtain ⟨b23, A23, n23, c23, h23, z23⟩ : ((fun (v : Value) (X : World) => ∃ b A n c, v = .agg #[.bool b, .slice A n c] ∧ ZV X (.agg #[.bool b, .slice A n c]) (1))) (y 23) X := hf.2.1
      have h15 : ((fun (v : Value) (_ : World) => v = .bool true)) (y 15) X := hf.2.2.1
      clear hf
      have ex := (Ext.drw (Ext.refl _)).trans ex0
      refine Box.mk ?_
      simp only [fill, Act.put, Nat.reduceAdd, List.setIfInBounds_toArray, List.set_cons_zero, List.set_cons_succ, h22, h23, h15] at hK ⊢
      go_simp
      refine (OR.out _ _ _ z22 z23).mono ?_
      rintro e V ⟨rfl, hb⟩
      try go_wp2_with fail
      exact hK.out _ _ rfl hb (fun b hb => by cases hb)
    refine Steps.cons (fun (v : Value) (_ : World) => v = .bool (so == 0)) [24, 15] rfl (by kernel_rfl) rfl (by kernel_rfl) (fun y X ex0 hf K hK => ?_) ?_
    · have h24 : ((fun (v : Value) (_ : World) => v = .int .i64 so)) (y 24) X := hf.1
      have h15 : ((fun (v : Value) (_ : World) => v = .bool true)) (y 15) X := hf.2.1
      clear hf
      have ex := (Ext.drw (Ext.refl _)).trans ex0
      refine Box.mk ?_
      simp only [fill, Act.put, Nat.reduceAdd, List.setIfInBounds_toArray, List.set_cons_zero, List.set_cons_succ, h24, h15] at hK ⊢
      go_simp
      exact hK.out _ _ rfl (Ext.refl _) (fun b hb => by cases hb)
    refine Steps.cons (fun (v : Value) (_ : World) => v = .bool (so == 0)) [15, 25] rfl (by kernel_rfl) rfl (by kernel_rfl) (fun y X ex0 hf K hK => ?_) ?_
    · have h15 : ((fun (v : Value) (_ : World) => v = .bool true)) (y 15) X := hf.1
      have h25 : ((fun (v : Value) (_ : World) => v = .bool (so == 0))) (y 25) X := hf.2.1
      clear hf
      have ex := (Ext.drw (Ext.refl _)).trans ex0
      refine Box.mk ?_
      simp only [fill, Act.put, Nat.reduceAdd, List.setIfInBounds_toArray, List.set_cons_zero, List.set_cons_succ, h15, h25] at hK ⊢
      go_simp
      exact hK.out _ _ rfl (Ext.refl _) (fun b hb => by cases hb)
    exact Steps.nil
  case done =>
    intro y X ex hf hlt hsep
    have h0 : ((fun (v : Value) (_ : World) => v = .pointer (some ⟨w.heap.size, 0, none⟩))) (y 0) X := hf.1
    have h1 : ((fun (v : Value) (_ : World) => v = .agg #[.bool p, .slice A n c])) (y 1) X := hf.2.1
    have h2 : ((fun (v : Value) (_ : World) => v = .bool true)) (y 2) X := hf.2.2.1
    have h3 : ((fun (v : Value) (_ : World) => v = .bool true)) (y 3) X := hf.2.2.2.1
    have h4 : ((fun (v : Value) (_ : World) => v = .pointer (some ⟨w.heap.size, 2, none⟩))) (y 4) X := hf.2.2.2.2.1
    have h5 : ((fun (v : Value) (_ : World) => v = .agg #[.bool q, .slice A' n' c'])) (y 5) X := hf.2.2.2.2.2.1
    have h6 : ((fun (v : Value) (_ : World) => v = .bool true)) (y 6) X := hf.2.2.2.2.2.2.1
    have h7 : ((fun (v : Value) (_ : World) => v = .bool true)) (y 7) X := hf.2.2.2.2.2.2.2.1
    have h8 : ((fun (v : Value) (_ : World) => v = .bool true)) (y 8) X := hf.2.2.2.2.2.2.2.2.1
    have h9 : ((fun (v : Value) (_ : World) => v = .pointer (some ⟨w.heap.size, 2, none⟩))) (y 9) X := hf.2.2.2.2.2.2.2.2.2.1
    have h10 : ((fun (v : Value) (_ : World) => v = .agg #[.bool q, .slice A' n' c'])) (y 10) X := hf.2.2.2.2.2.2.2.2.2.2.1
    have h11 : ((fun (v : Value) (_ : World) => v = .agg #[.bool q, .slice A' n' c'])) (y 11) X := hf.2.2.2.2.2.2.2.2.2.2.2.1
    have h12 : ((fun (v : Value) (_ : World) => v = .int .i64 sg)) (y 12) X := hf.2.2.2.2.2.2.2.2.2.2.2.2.1
    have h13 : ((fun (v : Value) (_ : World) => v = .bool true)) (y 13) X := hf.2.2.2.2.2.2.2.2.2.2.2.2.2.1
    have h14 : ((fun (v : Value) (_ : World) => v = .bool true)) (y 14) X := hf.2.2.2.2.2.2.2.2.2.2.2.2.2.2.1
    have h15 : ((fun (v : Value) (_ : World) => v = .bool true)) (y 15) X := hf.2.2.2.2.2.2.2.2.2.2.2.2.2.2.2.1
    have h16 : ((fun (v : Value) (_ : World) => v = .pointer (some ⟨w.heap.size, 0, none⟩))) (y 16) X := hf.2.2.2.2.2.2.2.2.2.2.2.2.2.2.2.2.1
    have h17 : ((fun (v : Value) (_ : World) => v = .agg #[.bool p, .slice A n c])) (y 17) X := hf.2.2.2.2.2.2.2.2.2.2.2.2.2.2.2.2.2.1
    have h18 : ((fun (v : Value) (_ : World) => v = .agg #[.bool p, .slice A n c])) (y 18) X := hf.2.2.2.2.2.2.2.2.2.2.2.2.2.2.2.2.2.2.1
    have h19 : ((fun (v : Value) (_ : World) => v = .pointer (some ⟨w.heap.size, 2, none⟩))) (y 19) X := hf.2.2.2.2.2.2.2.2.2.2.2.2.2.2.2.2.2.2.2.1
    have h20 : ((fun (v : Value) (_ : World) => v = .agg #[.bool q, .slice A' n' c'])) (y 20) X := hf.2.2.2.2.2.2.2.2.2.2.2.2.2.2.2.2.2.2.2.2.1
    have h21 : ((fun (v : Value) (_ : World) => v = .agg #[.bool q, .slice A' n' c'])) (y 21) X := hf.2.2.2.2.2.2.2.2.2.2.2.2.2.2.2.2.2.2.2.2.2.1
    obtain ⟨b22, A22, n22, c22, h22, z22⟩ : ((fun (v : Value) (X : World) => ∃ b A n c, v = .agg #[.bool b, .slice A n c] ∧ ZV X (.agg #[.bool b, .slice A n c]) (vg))) (y 22) X := hf.2.2.2.2.2.2.2.2.2.2.2.2.2.2.2.2.2.2.2.2.2.2.1
    obtain ⟨b23, A23, n23, c23, h23, z23⟩ : ((fun (v : Value) (X : World) => ∃ b A n c, v = .agg #[.bool b, .slice A n c] ∧ ZV X (.agg #[.bool b, .slice A n c]) (1))) (y 23) X := hf.2.2.2.2.2.2.2.2.2.2.2.2.2.2.2.2.2.2.2.2.2.2.2.1
    have h24 : ((fun (v : Value) (_ : World) => v = .int .i64 so)) (y 24) X := hf.2.2.2.2.2.2.2.2.2.2.2.2.2.2.2.2.2.2.2.2.2.2.2.2.1
    have h25 : ((fun (v : Value) (_ : World) => v = .bool (so == 0))) (y 25) X := hf.2.2.2.2.2.2.2.2.2.2.2.2.2.2.2.2.2.2.2.2.2.2.2.2.2.1
    have h26 : ((fun (v : Value) (_ : World) => v = .bool (so == 0))) (y 26) X := hf.2.2.2.2.2.2.2.2.2.2.2.2.2.2.2.2.2.2.2.2.2.2.2.2.2.2.1
    clear hf
    clear hsep hlt
    refine Box.mk ?_
    simp only [List.drop_succ_cons, List.drop_zero, fill, Act.put, Nat.reduceAdd, List.setIfInBounds_toArray, List.set_cons_zero, List.set_cons_succ, h0, h1, h2, h3, h4, h5, h6, h7, h8, h9, h10, h11, h12, h13, h14, h15, h16, h17, h18, h19, h20, h21, h22, h23, h24, h25, h26]
    clear h0 h1 h2 h3 h4 h5 h6 h7 h8 h9 h10 h11 h12 h13 h14 h15 h16 h17 h18 h19 h20 h21 h22 h23 h24 h25 h26
    have EX := Lib.hid (E1.out.trans ex)
    clear ex z22 z23
    go_wp2_with fail
    refine NoPanic.normal ?_
    go_wp2
    go_ret
    exact ⟨by rw [HB.out]; rfl, EX.out⟩
theorem validRatR_any (p q : Bool) (A A' : Option Addr) (n c n' c' : Nat) (l l' : List Nat) (w : World) (hx : Wd w (.slice A n c) l) (hy : Wd w (.slice A' n' c') l') :
    Calls Tryz.prog 9 #[.agg #[.bool p, .slice A n c, .bool q, .slice A' n' c']] w fun e w' => e = .returned (.bool (vldR p q l l')) ∧ Ext w w' := by
  by_cases ha : vld p l = true
  · by_cases hb : vld q l' = true
    · by_cases hc : 0 < numOf q l'
      · exact validRatR_d p q A A' n c n' c' l l' w hx hy ha hb hc
      · exact validRatR_c p q A A' n c n' c' l l' w hx hy ha hb hc
    · exact validRatR_b p q A A' n c n' c' l l' w hx hy ha (by simpa using hb)
  · exact validRatR_a p q A A' n c n' c' l l' w hx hy (by simpa using ha)
set_option maxHeartbeats 800000 in
set_option maxRecDepth 100000 in
theorem sameRat_true (vx vy : Int) (u v : Value) (w : World) (hf : FV w u vx vy) (hg : FV w v vx vy) :
    Calls Tryz.prog 7 #[u, v] w fun e w' => e = .returned (.bool true) ∧ Ext w w' := by
  obtain ⟨p1, P1, m1, d1, p2, P2, m2, d2, rfl, hz1, hz2⟩ := hf
  obtain ⟨p3, P3, m3, d3, p4, P4, m4, d4, rfl, hz3, hz4⟩ := hg
  obtain ⟨W1, hW1⟩ : ∃ W1, W1 = (w.alloc (.cells #[.bool p1, .slice P1 m1 d1, .bool p2, .slice P2 m2 d2] 26)).alloc (.cells #[.bool p3, .slice P3 m3 d3, .bool p4, .slice P4 m4 d4] 26) := ⟨_, rfl⟩
  have e1 : Ext w W1 := by rw [hW1]; exact ((Ext.refl w).alc _).alc _
  have i2 : HF W1 w.heap.size vx vy := by rw [hW1]; exact (HF.new w p1 P1 m1 d1 p2 P2 m2 d2 26 hz1 hz2).ext ((Ext.refl _).alc _)
  have i3 : HF W1 (w.heap.size + 1) vx vy := by
    have := HF.new (w.alloc (.cells #[.bool p1, .slice P1 m1 d1, .bool p2, .slice P2 m2 d2] 26)) p3 P3 m3 d3 p4 P4 m4 d4 26 (hz3.ext ((Ext.refl _).alc _)) (hz4.ext ((Ext.refl _).alc _))
    rw [World.size_alloc] at this
    rw [hW1]; exact this
  have I2 := Lib.hid i2; have I3 := Lib.hid i3; have E1 := Lib.hid e1; have HW1 := Lib.hid hW1
  have l2 := i2.lt; have l3 := i3.lt
  clear i2 i3 e1 hW1 hz1 hz2 hz3 hz4
  go_enter Tryz.func7, Tryz.ntmps7
  go_upto_region 1 with fail
  rw [← HW1.out]
  clear HW1
  obtain ⟨b1, A1, n1, c1, k0, k1, kz⟩ := I2.out.1
  obtain ⟨b2, A2, n2, c2, j0, j1, jz⟩ := I3.out.1
  have SM := Lib.hid (sameR_any vx vx _ _ W1 kz jz)
  rw [show decide (vx = vx) = true by simp] at SM
  clear kz jz
  go_wp2_with fail
  refine SM.out.mono ?_
  rintro e W2 ⟨rfl, x2⟩
  replace x2 : Ext W1 W2 := x2
  obtain ⟨b3, A3, n3, c3, i0, i1, iz⟩ := I2.out.2.ext l2 x2
  obtain ⟨b4, A4, n4, c4, m0, m1', mz⟩ := I3.out.2.ext l3 x2
  have SM2 := Lib.hid (sameR_any vy vy _ _ W2 iz mz)
  rw [show decide (vy = vy) = true by simp] at SM2
  have E2 := Lib.hid (E1.out.trans x2)
  clear iz mz x2 SM k0 k1 j0 j1
  go_wp2_with fail
  refine SM2.out.mono ?_
  rintro e W3 ⟨rfl, x3⟩
  have E3 := Lib.hid (E2.out.trans x3)
  clear x3 SM2 i0 i1 m0 m1'
  go_wp2
  go_ret
  exact ⟨rfl, E3.out⟩
end Go.Proofs.YtmlopkkbgpfdnaaGreatDoor
