/- Walks: the law StampAfter. -/
import Derived.Test.YtgjanbgehbpciaaA3
import Derived.Test.YtgjanbgehbpciaaV13
import Derived.Test.YtgjanbgehbpciaaV15
namespace Go.Proofs.Ytgjanbgehbpciaa
open Go.RowKit

/-- the answers of After and of Inverse -/
def ra (w h : Int) (a b : Mv) : Mv := if (okSize w h && has w h a && has w h b) = true then aft w h a b else Mv.one
def ea (w h : Int) (a b : Mv) : Int := if (okSize w h && has w h a && has w h b) = true then 0 else 2
def ri (w h : Int) (a : Mv) : Mv := if (okSize w h && has w h a) = true then inv w h a else Mv.one
def ei (w h : Int) (a : Mv) : Int := if (okSize w h && has w h a) = true then 0 else 2
theorem afterS_all (w h : Int) (a b : Mv) (W : World) : Calls Try.prog 23 #[.int .i64 w, .int .i64 h, .agg #[.int .i64 a.dx, .int .i64 a.dy, .int .i64 a.t, .bool a.f], .agg #[.int .i64 b.dx, .int .i64 b.dy, .int .i64 b.t, .bool b.f]] W fun e W' => e = .returned (.tuple #[.agg #[.int .i64 (ra w h a b).dx, .int .i64 (ra w h a b).dy, .int .i64 (ra w h a b).t, .bool (ra w h a b).f], .int .i64 (ea w h a b)]) ∧ Ext W W' := by
  unfold ra ea
  cases hk : (okSize w h && has w h a && has w h b)
  · simp only [Bool.false_eq_true, if_false]
    exact after_no w h a b W hk
  · simp only [if_true]
    simp only [Bool.and_eq_true] at hk
    exact after_ttt w h a b W hk.1.1 hk.1.2 hk.2
theorem inverseS_all (w h : Int) (a : Mv) (W : World) : Calls Try.prog 24 #[.int .i64 w, .int .i64 h, .agg #[.int .i64 a.dx, .int .i64 a.dy, .int .i64 a.t, .bool a.f]] W fun e W' => e = .returned (.tuple #[.agg #[.int .i64 (ri w h a).dx, .int .i64 (ri w h a).dy, .int .i64 (ri w h a).t, .bool (ri w h a).f], .int .i64 (ei w h a)]) ∧ Ext W W' := by
  unfold ri ei
  cases hk : (okSize w h && has w h a)
  · simp only [Bool.false_eq_true, if_false]
    exact inverse_no w h a W hk
  · simp only [if_true]
    simp only [Bool.and_eq_true] at hk
    exact inverseS_tt w h a W hk.1 hk.2
/-- behind a statement that asks for a move -/
def ECut (X : World) (m : Mv) (x : Int) (sp se : Value) (wx : World) : Prop := ∃ g, sp = .pointer (some ⟨g, 0, none⟩) ∧ se = .int .i64 x ∧ Q4 wx g (.int .i64 m.dx) (.int .i64 m.dy) (.int .i64 m.t) (.bool m.f) ∧ g < wx.heap.size ∧ Ext X wx

set_option maxHeartbeats 4000000 in
set_option maxRecDepth 100000 in
theorem after_law_no (w h : Int) (a b : Mv) (W : World) (hno : (okSize w h && has w h a) = false) :
    Calls Try.prog 4 #[.int .i64 w, .int .i64 h, .agg #[.int .i64 a.dx, .int .i64 a.dy, .int .i64 a.t, .bool a.f], .agg #[.int .i64 b.dx, .int .i64 b.dy, .int .i64 b.t, .bool b.f]] W fun e W' => e = .returned (.bool true) ∧ Ext W W' := by
  have HNO := Lib.hid hno; clear hno
  go_enter Try.func4, Try.ntmps4
  go_upto_region 1 with fail
  have q1 : Q4 ((W.alloc (.cells #[.int .i64 a.dx, .int .i64 a.dy, .int .i64 a.t, .bool a.f] 26)).alloc (.cells #[.int .i64 b.dx, .int .i64 b.dy, .int .i64 b.t, .bool b.f] 26)) W.heap.size (.int .i64 a.dx) (.int .i64 a.dy) (.int .i64 a.t) (.bool a.f) := by
    refine ⟨?_, ?_, ?_, ?_⟩ <;> (rw [World.cell?_alloc_past _ _ _ (by simp), World.cell?_alloc_new]; rfl)
  have q2 : Q4 ((W.alloc (.cells #[.int .i64 a.dx, .int .i64 a.dy, .int .i64 a.t, .bool a.f] 26)).alloc (.cells #[.int .i64 b.dx, .int .i64 b.dy, .int .i64 b.t, .bool b.f] 26)) (W.heap.size + 1) (.int .i64 b.dx) (.int .i64 b.dy) (.int .i64 b.t) (.bool b.f) := by
    refine ⟨?_, ?_, ?_, ?_⟩ <;> (rw [World.cell?_alloc_at _ _ _ _ (by simp)]; rfl)
  have bb := al2 W (.cells #[.int .i64 a.dx, .int .i64 a.dy, .int .i64 a.t, .bool a.f] 26) (.cells #[.int .i64 b.dx, .int .i64 b.dy, .int .i64 b.t, .bool b.f] 26)
  have zz : ((W.alloc (.cells #[.int .i64 a.dx, .int .i64 a.dy, .int .i64 a.t, .bool a.f] 26)).alloc (.cells #[.int .i64 b.dx, .int .i64 b.dy, .int .i64 b.t, .bool b.f] 26)).heap.size = W.heap.size + 1 + 1 := by simp
  generalize ((W.alloc (.cells #[.int .i64 a.dx, .int .i64 a.dy, .int .i64 a.t, .bool a.f] 26)).alloc (.cells #[.int .i64 b.dx, .int .i64 b.dy, .int .i64 b.t, .bool b.f] 26)) = W2 at *
  have zle : W.heap.size + 1 + 1 ≤ W2.heap.size := by omega
  have BB : Hid (Ext W W2) := Lib.hid bb; have HA := Lib.hid q1; have HB := Lib.hid q2
  clear bb zz q1 q2
  obtain ⟨r, hr⟩ : ∃ r, r = ra w h a b := ⟨_, rfl⟩
  obtain ⟨x, hx⟩ : ∃ x, x = ea w h a b := ⟨_, rfl⟩
  obtain ⟨s, hsi⟩ : ∃ s, s = ri w h a := ⟨_, rfl⟩
  obtain ⟨z, hz⟩ : ∃ z, z = ei w h a := ⟨_, rfl⟩
  have ca : ∀ X, Calls Try.prog 23 #[.int .i64 w, .int .i64 h, .agg #[.int .i64 a.dx, .int .i64 a.dy, .int .i64 a.t, .bool a.f], .agg #[.int .i64 b.dx, .int .i64 b.dy, .int .i64 b.t, .bool b.f]] X fun e Y => e = .returned (.tuple #[.agg #[.int .i64 r.dx, .int .i64 r.dy, .int .i64 r.t, .bool r.f], .int .i64 x]) ∧ Ext X Y := fun X => by rw [hr, hx]; exact afterS_all w h a b X
  have ci : ∀ X, Calls Try.prog 24 #[.int .i64 w, .int .i64 h, .agg #[.int .i64 a.dx, .int .i64 a.dy, .int .i64 a.t, .bool a.f]] X fun e Y => e = .returned (.tuple #[.agg #[.int .i64 s.dx, .int .i64 s.dy, .int .i64 s.t, .bool s.f], .int .i64 z]) ∧ Ext X Y := fun X => by rw [hsi, hz]; exact inverseS_all w h a X
  have CA := Lib.hid ca; have CI := Lib.hid ci; have HRX := Lib.hid (And.intro hr hx); have HSZ2 := Lib.hid (And.intro hsi hz); clear ca ci hr hx hsi hz
  go_cut [9, 10] from 14 to 23 (fun sp se wx => ECut W2 r x sp se wx)
  case first =>
    refine wp_region_noPanic ?_
    refine wp_pool 11 [some 15, some 16, some 17, some 18, some 19, some 20, some 21, some 14, some 22, some 23, some 9] [(9, 7)] [10] [(fun (v : Value) (_ : World) => v = .int .i64 w), (fun (v : Value) (_ : World) => v = .int .i64 h), (fun (v : Value) (_ : World) => v = .agg #[.int .i64 a.dx, .int .i64 a.dy, .int .i64 a.t, .bool a.f]), (fun (v : Value) (_ : World) => v = .agg #[.int .i64 a.dx, .int .i64 a.dy, .int .i64 a.t, .bool a.f]), (fun (v : Value) (_ : World) => v = .agg #[.int .i64 b.dx, .int .i64 b.dy, .int .i64 b.t, .bool b.f]), (fun (v : Value) (_ : World) => v = .agg #[.int .i64 b.dx, .int .i64 b.dy, .int .i64 b.t, .bool b.f]), (fun (v : Value) (_ : World) => v = .tuple #[.agg #[.int .i64 r.dx, .int .i64 r.dy, .int .i64 r.t, .bool r.f], .int .i64 x]), (fun (v : Value) (_ : World) => v = .tuple #[.agg #[.int .i64 r.dx, .int .i64 r.dy, .int .i64 r.t, .bool r.f], .int .i64 x]), (fun (v : Value) (_ : World) => v = .agg #[.int .i64 r.dx, .int .i64 r.dy, .int .i64 r.t, .bool r.f]), (fun (v : Value) (_ : World) => v = .int .i64 x), (fun (v : Value) (X : World) => ∃ g, v = .pointer (some ⟨g, 0, none⟩) ∧ W2.heap.size ≤ g ∧ QB X g)] [noF, noF, noF, noF, noF, noF, noF, noF, noF, noF, ptrF] (by kernel_rfl) (by kernel_rfl) (by kernel_rfl) (by kernel_rfl) (by kernel_rfl) (by kernel_rfl) (by kernel_rfl) (by kernel_rfl) (fun _ _ _ _ h => h) ⟨Stays.pure _, Stays.pure _, Stays.pure _, Stays.pure _, Stays.pure _, Stays.pure _, Stays.pure _, Stays.pure _, Stays.pure _, Stays.pure _, (fun _ _ _ e ⟨g, h1, h2, h3⟩ => ⟨g, h1, h2, h3.ext e⟩), True.intro⟩ ?steps ?done
    case steps =>
      simp only [List.take_succ_cons, List.take_zero]
      refine Steps.cons (fun (v : Value) (_ : World) => v = .int .i64 w) [] rfl (by kernel_rfl) rfl (by kernel_rfl) (fun y X ex0 hf K hK => ?_) ?_
      · clear hf
        have ex := (Ext.drw (Ext.refl _)).trans ex0
        refine Box.mk ?_
        simp only [fill, Act.put, Nat.reduceAdd, List.setIfInBounds_toArray, List.set_cons_zero, List.set_cons_succ] at hK ⊢
        go_simp
        exact hK.out _ _ rfl (Ext.refl _) (fun b hb => by cases hb)
      refine Steps.cons (fun (v : Value) (_ : World) => v = .int .i64 h) [] rfl (by kernel_rfl) rfl (by kernel_rfl) (fun y X ex0 hf K hK => ?_) ?_
      · clear hf
        have ex := (Ext.drw (Ext.refl _)).trans ex0
        refine Box.mk ?_
        simp only [fill, Act.put, Nat.reduceAdd, List.setIfInBounds_toArray, List.set_cons_zero, List.set_cons_succ] at hK ⊢
        go_simp
        exact hK.out _ _ rfl (Ext.refl _) (fun b hb => by cases hb)
      refine Steps.cons (fun (v : Value) (_ : World) => v = .agg #[.int .i64 a.dx, .int .i64 a.dy, .int .i64 a.t, .bool a.f]) [] rfl (by kernel_rfl) rfl (by kernel_rfl) (fun y X ex0 hf K hK => ?_) ?_
      · clear hf
        have ex := (Ext.drw (Ext.refl _)).trans ex0
        refine Box.mk ?_
        simp only [fill, Act.put, Nat.reduceAdd, List.setIfInBounds_toArray, List.set_cons_zero, List.set_cons_succ] at hK ⊢
        obtain ⟨q0, q1, q2, q3⟩ := Q4.ext HA.out (by omega) ex
        go_simp
        exact hK.out _ _ rfl (Ext.refl _) (fun b hb => by cases hb)
      refine Steps.cons (fun (v : Value) (_ : World) => v = .agg #[.int .i64 a.dx, .int .i64 a.dy, .int .i64 a.t, .bool a.f]) [2] rfl (by kernel_rfl) rfl (by kernel_rfl) (fun y X ex0 hf K hK => ?_) ?_
      · have h2 : ((fun (v : Value) (_ : World) => v = .agg #[.int .i64 a.dx, .int .i64 a.dy, .int .i64 a.t, .bool a.f])) (y 2) X := hf.1
        clear hf
        have ex := (Ext.drw (Ext.refl _)).trans ex0
        refine Box.mk ?_
        simp only [fill, Act.put, Nat.reduceAdd, List.setIfInBounds_toArray, List.set_cons_zero, List.set_cons_succ, h2] at hK ⊢
        go_simp
        refine (move_any a _).mono ?_
        rintro e V ⟨rfl, hb⟩
        try go_wp2_with fail
        exact hK.out _ _ rfl hb (fun b hb => by cases hb)
      refine Steps.cons (fun (v : Value) (_ : World) => v = .agg #[.int .i64 b.dx, .int .i64 b.dy, .int .i64 b.t, .bool b.f]) [] rfl (by kernel_rfl) rfl (by kernel_rfl) (fun y X ex0 hf K hK => ?_) ?_
      · clear hf
        have ex := (Ext.drw (Ext.refl _)).trans ex0
        refine Box.mk ?_
        simp only [fill, Act.put, Nat.reduceAdd, List.setIfInBounds_toArray, List.set_cons_zero, List.set_cons_succ] at hK ⊢
        obtain ⟨q0, q1, q2, q3⟩ := Q4.ext HB.out (by omega) ex
        go_simp
        exact hK.out _ _ rfl (Ext.refl _) (fun b hb => by cases hb)
      refine Steps.cons (fun (v : Value) (_ : World) => v = .agg #[.int .i64 b.dx, .int .i64 b.dy, .int .i64 b.t, .bool b.f]) [4, 3] rfl (by kernel_rfl) rfl (by kernel_rfl) (fun y X ex0 hf K hK => ?_) ?_
      · have h4 : ((fun (v : Value) (_ : World) => v = .agg #[.int .i64 b.dx, .int .i64 b.dy, .int .i64 b.t, .bool b.f])) (y 4) X := hf.1
        have h3 : ((fun (v : Value) (_ : World) => v = .agg #[.int .i64 a.dx, .int .i64 a.dy, .int .i64 a.t, .bool a.f])) (y 3) X := hf.2.1
        clear hf
        have ex := (Ext.drw (Ext.refl _)).trans ex0
        refine Box.mk ?_
        simp only [fill, Act.put, Nat.reduceAdd, List.setIfInBounds_toArray, List.set_cons_zero, List.set_cons_succ, h4, h3] at hK ⊢
        go_simp
        refine (move_any b _).mono ?_
        rintro e V ⟨rfl, hb⟩
        try go_wp2_with fail
        exact hK.out _ _ rfl hb (fun b hb => by cases hb)
      refine Steps.cons (fun (v : Value) (_ : World) => v = .tuple #[.agg #[.int .i64 r.dx, .int .i64 r.dy, .int .i64 r.t, .bool r.f], .int .i64 x]) [0, 1, 3, 5] rfl (by kernel_rfl) rfl (by kernel_rfl) (fun y X ex0 hf K hK => ?_) ?_
      · have h0 : ((fun (v : Value) (_ : World) => v = .int .i64 w)) (y 0) X := hf.1
        have h1 : ((fun (v : Value) (_ : World) => v = .int .i64 h)) (y 1) X := hf.2.1
        have h3 : ((fun (v : Value) (_ : World) => v = .agg #[.int .i64 a.dx, .int .i64 a.dy, .int .i64 a.t, .bool a.f])) (y 3) X := hf.2.2.1
        have h5 : ((fun (v : Value) (_ : World) => v = .agg #[.int .i64 b.dx, .int .i64 b.dy, .int .i64 b.t, .bool b.f])) (y 5) X := hf.2.2.2.1
        clear hf
        have ex := (Ext.drw (Ext.refl _)).trans ex0
        refine Box.mk ?_
        simp only [fill, Act.put, Nat.reduceAdd, List.setIfInBounds_toArray, List.set_cons_zero, List.set_cons_succ, h0, h1, h3, h5] at hK ⊢
        go_simp
        refine (CA.out _).mono ?_
        rintro e V ⟨rfl, hb⟩
        try go_wp2_with fail
        exact hK.out _ _ rfl hb (fun b hb => by cases hb)
      refine Steps.cons (fun (v : Value) (_ : World) => v = .tuple #[.agg #[.int .i64 r.dx, .int .i64 r.dy, .int .i64 r.t, .bool r.f], .int .i64 x]) [6] rfl (by kernel_rfl) rfl (by kernel_rfl) (fun y X ex0 hf K hK => ?_) ?_
      · have h6 : ((fun (v : Value) (_ : World) => v = .tuple #[.agg #[.int .i64 r.dx, .int .i64 r.dy, .int .i64 r.t, .bool r.f], .int .i64 x])) (y 6) X := hf.1
        clear hf
        have ex := (Ext.drw (Ext.refl _)).trans ex0
        refine Box.mk ?_
        simp only [fill, Act.put, Nat.reduceAdd, List.setIfInBounds_toArray, List.set_cons_zero, List.set_cons_succ, h6] at hK ⊢
        go_simp
        exact hK.out _ _ rfl (Ext.refl _) (fun b hb => by cases hb)
      refine Steps.cons (fun (v : Value) (_ : World) => v = .agg #[.int .i64 r.dx, .int .i64 r.dy, .int .i64 r.t, .bool r.f]) [7] rfl (by kernel_rfl) rfl (by kernel_rfl) (fun y X ex0 hf K hK => ?_) ?_
      · have h7 : ((fun (v : Value) (_ : World) => v = .tuple #[.agg #[.int .i64 r.dx, .int .i64 r.dy, .int .i64 r.t, .bool r.f], .int .i64 x])) (y 7) X := hf.1
        clear hf
        have ex := (Ext.drw (Ext.refl _)).trans ex0
        refine Box.mk ?_
        simp only [fill, Act.put, Nat.reduceAdd, List.setIfInBounds_toArray, List.set_cons_zero, List.set_cons_succ, h7] at hK ⊢
        go_simp
        exact hK.out _ _ rfl (Ext.refl _) (fun b hb => by cases hb)
      refine Steps.flw (fun (v : Value) (_ : World) => v = .int .i64 x) [7] rfl (by kernel_rfl) (by kernel_rfl) (fun _ => rfl) (fun y X ex0 hf => ?_) ?_
      · have h7 : ((fun (v : Value) (_ : World) => v = .tuple #[.agg #[.int .i64 r.dx, .int .i64 r.dy, .int .i64 r.t, .bool r.f], .int .i64 x])) (y 7) X := hf.1
        clear hf
        simp only [fill, Act.put, Nat.reduceAdd, List.setIfInBounds_toArray, List.set_cons_zero, List.set_cons_succ, h7]
        exact ⟨_, ⟨by rfl, fun w => by go_simp⟩, rfl⟩
      refine Steps.cons (fun (v : Value) (X : World) => ∃ g, v = .pointer (some ⟨g, 0, none⟩) ∧ W2.heap.size ≤ g ∧ QB X g) [] rfl (by kernel_rfl) rfl (by kernel_rfl) (fun y X ex0 hf K hK => ?_) ?_
      · clear hf
        have ex := (Ext.drw (Ext.refl _)).trans ex0
        refine Box.mk ?_
        simp only [fill, Act.put, Nat.reduceAdd, List.setIfInBounds_toArray, List.set_cons_zero, List.set_cons_succ] at hK ⊢
        go_simp
        exact hK.out _ _ ⟨X.heap.size, rfl, ex.size, QB.new X (.int .i64 0) (.int .i64 0) (.int .i64 0) (.bool false) 31⟩ (Ext.alc (Ext.refl X) (.cells #[.int .i64 0, .int .i64 0, .int .i64 0, .bool false] 31)) (New.ptr (Nat.le_refl _) (by simp))
      exact Steps.nil
    case done =>
      intro y X ex hf hlt hsep
      have h0 : ((fun (v : Value) (_ : World) => v = .int .i64 w)) (y 0) X := hf.1
      have h1 : ((fun (v : Value) (_ : World) => v = .int .i64 h)) (y 1) X := hf.2.1
      have h2 : ((fun (v : Value) (_ : World) => v = .agg #[.int .i64 a.dx, .int .i64 a.dy, .int .i64 a.t, .bool a.f])) (y 2) X := hf.2.2.1
      have h3 : ((fun (v : Value) (_ : World) => v = .agg #[.int .i64 a.dx, .int .i64 a.dy, .int .i64 a.t, .bool a.f])) (y 3) X := hf.2.2.2.1
      have h4 : ((fun (v : Value) (_ : World) => v = .agg #[.int .i64 b.dx, .int .i64 b.dy, .int .i64 b.t, .bool b.f])) (y 4) X := hf.2.2.2.2.1
      have h5 : ((fun (v : Value) (_ : World) => v = .agg #[.int .i64 b.dx, .int .i64 b.dy, .int .i64 b.t, .bool b.f])) (y 5) X := hf.2.2.2.2.2.1
      have h6 : ((fun (v : Value) (_ : World) => v = .tuple #[.agg #[.int .i64 r.dx, .int .i64 r.dy, .int .i64 r.t, .bool r.f], .int .i64 x])) (y 6) X := hf.2.2.2.2.2.2.1
      have h7 : ((fun (v : Value) (_ : World) => v = .tuple #[.agg #[.int .i64 r.dx, .int .i64 r.dy, .int .i64 r.t, .bool r.f], .int .i64 x])) (y 7) X := hf.2.2.2.2.2.2.2.1
      have h8 : ((fun (v : Value) (_ : World) => v = .agg #[.int .i64 r.dx, .int .i64 r.dy, .int .i64 r.t, .bool r.f])) (y 8) X := hf.2.2.2.2.2.2.2.2.1
      have h9 : ((fun (v : Value) (_ : World) => v = .int .i64 x)) (y 9) X := hf.2.2.2.2.2.2.2.2.2.1
      have hh10 : ((fun (v : Value) (X : World) => ∃ g, v = .pointer (some ⟨g, 0, none⟩) ∧ W2.heap.size ≤ g ∧ QB X g)) (y 10) X := hf.2.2.2.2.2.2.2.2.2.2.1
      refine Exists.elim hh10 (fun g10 hx10_0 => ?_)
      have h10 := hx10_0.1
      have z10 := hx10_0.2.1
      have q10 := hx10_0.2.2
      clear hh10 hx10_0
      clear hf
      clear hsep hlt
      refine Box.mk ?_
      simp only [List.drop_succ_cons, List.drop_zero, fill, Act.put, Nat.reduceAdd, List.setIfInBounds_toArray, List.set_cons_zero, List.set_cons_succ, h0, h1, h2, h3, h4, h5, h6, h7, h8, h9, h10]
      clear h0 h1 h2 h3 h4 h5 h6 h7 h8 h9 h10
      obtain ⟨⟨_, _, _, _, k0, k1, k2, k3⟩, k4⟩ := q10.facts
      have QA := Lib.hid q10; have EX := Lib.hid ex; clear q10 ex
      go_wp2_with fail
      refine NoPanic.normal ?_
      go_wp2_with fail
      go_meet
      have l1 := QA.out.lt
      exact ⟨g10, rfl, rfl, Q4.put QA.out _ _ _ _, by simp [World.setCell]; omega, EX.out.sc4 z10 _ _ _ _⟩
  case rest =>
    obtain ⟨g9, rfl, rfl, y9, l9, ex⟩ := hcut
    have Y9 := Lib.hid y9; have EX : Hid (Ext W2 wc) := Lib.hid ex; clear y9
    have lw := ex.size; clear ex CA
    go_upto_region 2 with fail
    go_cut [11, 12] from 24 to 31 (fun sp se wx => ECut wc s z sp se wx)
    case first =>
      obtain ⟨q0, q1, q2, q3⟩ := Q4.ext HA.out (by omega) EX.out
      go_wp2_with fail
      refine (move_any a _).mono ?_
      rintro e v1 ⟨rfl, hb⟩
      have E1 : Hid (Ext wc v1) := Lib.hid hb; clear hb q0 q1 q2 q3
      go_wp2_with fail
      refine (CI.out _).mono ?_
      rintro e v2 ⟨rfl, hb⟩
      have E2 : Hid (Ext wc v2) := Lib.hid (E1.out.trans hb); clear hb E1
      go_wp2_with fail
      go_meet
      refine ⟨v2.heap.size, rfl, rfl, ?_, by simp, E2.out.alc _⟩
      refine ⟨?_, ?_, ?_, ?_⟩ <;> (rw [World.cell?_alloc_new]; rfl)
    case rest =>
      obtain ⟨g11, rfl, rfl, y11, l11, ex⟩ := hcut
      replace Y9 := Lib.hid (Y9.out.ext l9 ex); replace l9 := Nat.lt_of_lt_of_le l9 ex.size; have Y11 := Lib.hid y11; clear y11
      replace EX := Lib.hid (EX.out.trans ex); replace lw := Nat.le_trans lw ex.size; clear ex CI
      go_upto_region 3 with fail
      go_cut [13] from 32 to 40 (fun s wx => s = .bool false ∧ Ext wc wx)
      case first =>
        cases hs : okSize w h
        · have _hh := True.intro
          go_wp2_with fail
          refine (sizeR_is (b := false) hs _).mono ?_
          rintro e v1 ⟨rfl, hb⟩
          have E1 : Hid (Ext wc v1) := Lib.hid hb; clear hb
          go_wp2_with fail
          go_meet
          exact ⟨rfl, E1.out⟩
        · have ha : has w h a = false := by have := HNO.out; rw [hs] at this; simpa using this
          go_wp2_with fail
          refine (sizeR_is (b := true) hs _).mono ?_
          rintro e v1 ⟨rfl, hb⟩
          have E1 : Hid (Ext wc v1) := Lib.hid hb; clear hb
          obtain ⟨q0, q1, q2, q3⟩ := Q4.ext HA.out (by omega) (EX.out.trans E1.out)
          go_wp2_with fail
          refine (fits_is (b := false) ha _).mono ?_
          rintro e v2 ⟨rfl, hb⟩
          replace E1 : Hid (Ext wc v2) := Lib.hid (E1.out.trans hb); clear hb q0 q1 q2 q3
          go_wp2_with fail
          go_meet
          exact ⟨rfl, E1.out⟩
      case rest =>
        obtain ⟨rfl, ex⟩ := hcut
        replace Y9 := Lib.hid (Y9.out.ext l9 ex); replace l9 := Nat.lt_of_lt_of_le l9 ex.size; replace Y11 := Lib.hid (Y11.out.ext l11 ex); replace l11 := Nat.lt_of_lt_of_le l11 ex.size
        replace EX := Lib.hid (EX.out.trans ex); replace lw := Nat.le_trans lw ex.size; clear ex
        have hrr : ra w h a b = Mv.one ∧ ea w h a b = 2 ∧ ri w h a = Mv.one ∧ ei w h a = 2 := by unfold ra ea ri ei; rw [HNO.out]; exact ⟨rfl, rfl, rfl, rfl⟩
        have hr := HRX.out.1.trans hrr.1; have hx := HRX.out.2.trans hrr.2.1; have hs1 := HSZ2.out.1.trans hrr.2.2.1; have hz := HSZ2.out.2.trans hrr.2.2.2
        clear hrr HRX HSZ2
        subst hr hx hs1 hz
        obtain ⟨c0, c1, c2, c3⟩ := Y9.out
        obtain ⟨d0, d1, d2, d3⟩ := Y11.out
        simp only [Mv.one] at c0 c1 c2 c3 d0 d1 d2 d3
        go_wp2_with fail
        refine (awake_any _).mono ?_
        rintro e v9 ⟨rfl, hb⟩
        have EF := Lib.hid (BB.out.trans (EX.out.trans hb)); clear hb
        go_wp2
        go_ret
        exact ⟨rfl, EF.out⟩

set_option maxHeartbeats 4000000 in
set_option maxRecDepth 100000 in
theorem after_law_yes (w h : Nat) (a b : Mv) (W : World) (hs : okSize w h = true) (ha : has w h a = true) :
    Calls Try.prog 4 #[.int .i64 w, .int .i64 h, .agg #[.int .i64 a.dx, .int .i64 a.dy, .int .i64 a.t, .bool a.f], .agg #[.int .i64 b.dx, .int .i64 b.dy, .int .i64 b.t, .bool b.f]] W fun e W' => e = .returned (.bool true) ∧ Ext W W' := by
  have HS := Lib.hid hs; have HHA := Lib.hid ha; clear hs ha
  go_enter Try.func4, Try.ntmps4
  go_upto_region 1 with fail
  have q1 : Q4 ((W.alloc (.cells #[.int .i64 a.dx, .int .i64 a.dy, .int .i64 a.t, .bool a.f] 26)).alloc (.cells #[.int .i64 b.dx, .int .i64 b.dy, .int .i64 b.t, .bool b.f] 26)) W.heap.size (.int .i64 a.dx) (.int .i64 a.dy) (.int .i64 a.t) (.bool a.f) := by
    refine ⟨?_, ?_, ?_, ?_⟩ <;> (rw [World.cell?_alloc_past _ _ _ (by simp), World.cell?_alloc_new]; rfl)
  have q2 : Q4 ((W.alloc (.cells #[.int .i64 a.dx, .int .i64 a.dy, .int .i64 a.t, .bool a.f] 26)).alloc (.cells #[.int .i64 b.dx, .int .i64 b.dy, .int .i64 b.t, .bool b.f] 26)) (W.heap.size + 1) (.int .i64 b.dx) (.int .i64 b.dy) (.int .i64 b.t) (.bool b.f) := by
    refine ⟨?_, ?_, ?_, ?_⟩ <;> (rw [World.cell?_alloc_at _ _ _ _ (by simp)]; rfl)
  have bb := al2 W (.cells #[.int .i64 a.dx, .int .i64 a.dy, .int .i64 a.t, .bool a.f] 26) (.cells #[.int .i64 b.dx, .int .i64 b.dy, .int .i64 b.t, .bool b.f] 26)
  have zz : ((W.alloc (.cells #[.int .i64 a.dx, .int .i64 a.dy, .int .i64 a.t, .bool a.f] 26)).alloc (.cells #[.int .i64 b.dx, .int .i64 b.dy, .int .i64 b.t, .bool b.f] 26)).heap.size = W.heap.size + 1 + 1 := by simp
  generalize ((W.alloc (.cells #[.int .i64 a.dx, .int .i64 a.dy, .int .i64 a.t, .bool a.f] 26)).alloc (.cells #[.int .i64 b.dx, .int .i64 b.dy, .int .i64 b.t, .bool b.f] 26)) = W2 at *
  have zle : W.heap.size + 1 + 1 ≤ W2.heap.size := by omega
  have BB : Hid (Ext W W2) := Lib.hid bb; have HA := Lib.hid q1; have HB := Lib.hid q2
  clear bb zz q1 q2
  obtain ⟨r, hr⟩ : ∃ r, r = ra w h a b := ⟨_, rfl⟩
  obtain ⟨x, hx⟩ : ∃ x, x = ea w h a b := ⟨_, rfl⟩
  obtain ⟨s, hsi⟩ : ∃ s, s = ri w h a := ⟨_, rfl⟩
  obtain ⟨z, hz⟩ : ∃ z, z = ei w h a := ⟨_, rfl⟩
  have ca : ∀ X, Calls Try.prog 23 #[.int .i64 w, .int .i64 h, .agg #[.int .i64 a.dx, .int .i64 a.dy, .int .i64 a.t, .bool a.f], .agg #[.int .i64 b.dx, .int .i64 b.dy, .int .i64 b.t, .bool b.f]] X fun e Y => e = .returned (.tuple #[.agg #[.int .i64 r.dx, .int .i64 r.dy, .int .i64 r.t, .bool r.f], .int .i64 x]) ∧ Ext X Y := fun X => by rw [hr, hx]; exact afterS_all w h a b X
  have ci : ∀ X, Calls Try.prog 24 #[.int .i64 w, .int .i64 h, .agg #[.int .i64 a.dx, .int .i64 a.dy, .int .i64 a.t, .bool a.f]] X fun e Y => e = .returned (.tuple #[.agg #[.int .i64 s.dx, .int .i64 s.dy, .int .i64 s.t, .bool s.f], .int .i64 z]) ∧ Ext X Y := fun X => by rw [hsi, hz]; exact inverseS_all w h a X
  have CA := Lib.hid ca; have CI := Lib.hid ci; have HRX := Lib.hid (And.intro hr hx); have HSZ2 := Lib.hid (And.intro hsi hz); clear ca ci hr hx hsi hz
  go_cut [9, 10] from 14 to 23 (fun sp se wx => ECut W2 r x sp se wx)
  case first =>
    refine wp_region_noPanic ?_
    refine wp_pool 11 [some 15, some 16, some 17, some 18, some 19, some 20, some 21, some 14, some 22, some 23, some 9] [(9, 7)] [10] [(fun (v : Value) (_ : World) => v = .int .i64 w), (fun (v : Value) (_ : World) => v = .int .i64 h), (fun (v : Value) (_ : World) => v = .agg #[.int .i64 a.dx, .int .i64 a.dy, .int .i64 a.t, .bool a.f]), (fun (v : Value) (_ : World) => v = .agg #[.int .i64 a.dx, .int .i64 a.dy, .int .i64 a.t, .bool a.f]), (fun (v : Value) (_ : World) => v = .agg #[.int .i64 b.dx, .int .i64 b.dy, .int .i64 b.t, .bool b.f]), (fun (v : Value) (_ : World) => v = .agg #[.int .i64 b.dx, .int .i64 b.dy, .int .i64 b.t, .bool b.f]), (fun (v : Value) (_ : World) => v = .tuple #[.agg #[.int .i64 r.dx, .int .i64 r.dy, .int .i64 r.t, .bool r.f], .int .i64 x]), (fun (v : Value) (_ : World) => v = .tuple #[.agg #[.int .i64 r.dx, .int .i64 r.dy, .int .i64 r.t, .bool r.f], .int .i64 x]), (fun (v : Value) (_ : World) => v = .agg #[.int .i64 r.dx, .int .i64 r.dy, .int .i64 r.t, .bool r.f]), (fun (v : Value) (_ : World) => v = .int .i64 x), (fun (v : Value) (X : World) => ∃ g, v = .pointer (some ⟨g, 0, none⟩) ∧ W2.heap.size ≤ g ∧ QB X g)] [noF, noF, noF, noF, noF, noF, noF, noF, noF, noF, ptrF] (by kernel_rfl) (by kernel_rfl) (by kernel_rfl) (by kernel_rfl) (by kernel_rfl) (by kernel_rfl) (by kernel_rfl) (by kernel_rfl) (fun _ _ _ _ h => h) ⟨Stays.pure _, Stays.pure _, Stays.pure _, Stays.pure _, Stays.pure _, Stays.pure _, Stays.pure _, Stays.pure _, Stays.pure _, Stays.pure _, (fun _ _ _ e ⟨g, h1, h2, h3⟩ => ⟨g, h1, h2, h3.ext e⟩), True.intro⟩ ?steps ?done
    case steps =>
      simp only [List.take_succ_cons, List.take_zero]
      refine Steps.cons (fun (v : Value) (_ : World) => v = .int .i64 w) [] rfl (by kernel_rfl) rfl (by kernel_rfl) (fun y X ex0 hf K hK => ?_) ?_
      · clear hf
        have ex := (Ext.drw (Ext.refl _)).trans ex0
        refine Box.mk ?_
        simp only [fill, Act.put, Nat.reduceAdd, List.setIfInBounds_toArray, List.set_cons_zero, List.set_cons_succ] at hK ⊢
        go_simp
        exact hK.out _ _ rfl (Ext.refl _) (fun b hb => by cases hb)
      refine Steps.cons (fun (v : Value) (_ : World) => v = .int .i64 h) [] rfl (by kernel_rfl) rfl (by kernel_rfl) (fun y X ex0 hf K hK => ?_) ?_
      · clear hf
        have ex := (Ext.drw (Ext.refl _)).trans ex0
        refine Box.mk ?_
        simp only [fill, Act.put, Nat.reduceAdd, List.setIfInBounds_toArray, List.set_cons_zero, List.set_cons_succ] at hK ⊢
        go_simp
        exact hK.out _ _ rfl (Ext.refl _) (fun b hb => by cases hb)
      refine Steps.cons (fun (v : Value) (_ : World) => v = .agg #[.int .i64 a.dx, .int .i64 a.dy, .int .i64 a.t, .bool a.f]) [] rfl (by kernel_rfl) rfl (by kernel_rfl) (fun y X ex0 hf K hK => ?_) ?_
      · clear hf
        have ex := (Ext.drw (Ext.refl _)).trans ex0
        refine Box.mk ?_
        simp only [fill, Act.put, Nat.reduceAdd, List.setIfInBounds_toArray, List.set_cons_zero, List.set_cons_succ] at hK ⊢
        obtain ⟨q0, q1, q2, q3⟩ := Q4.ext HA.out (by omega) ex
        go_simp
        exact hK.out _ _ rfl (Ext.refl _) (fun b hb => by cases hb)
      refine Steps.cons (fun (v : Value) (_ : World) => v = .agg #[.int .i64 a.dx, .int .i64 a.dy, .int .i64 a.t, .bool a.f]) [2] rfl (by kernel_rfl) rfl (by kernel_rfl) (fun y X ex0 hf K hK => ?_) ?_
      · have h2 : ((fun (v : Value) (_ : World) => v = .agg #[.int .i64 a.dx, .int .i64 a.dy, .int .i64 a.t, .bool a.f])) (y 2) X := hf.1
        clear hf
        have ex := (Ext.drw (Ext.refl _)).trans ex0
        refine Box.mk ?_
        simp only [fill, Act.put, Nat.reduceAdd, List.setIfInBounds_toArray, List.set_cons_zero, List.set_cons_succ, h2] at hK ⊢
        go_simp
        refine (move_any a _).mono ?_
        rintro e V ⟨rfl, hb⟩
        try go_wp2_with fail
        exact hK.out _ _ rfl hb (fun b hb => by cases hb)
      refine Steps.cons (fun (v : Value) (_ : World) => v = .agg #[.int .i64 b.dx, .int .i64 b.dy, .int .i64 b.t, .bool b.f]) [] rfl (by kernel_rfl) rfl (by kernel_rfl) (fun y X ex0 hf K hK => ?_) ?_
      · clear hf
        have ex := (Ext.drw (Ext.refl _)).trans ex0
        refine Box.mk ?_
        simp only [fill, Act.put, Nat.reduceAdd, List.setIfInBounds_toArray, List.set_cons_zero, List.set_cons_succ] at hK ⊢
        obtain ⟨q0, q1, q2, q3⟩ := Q4.ext HB.out (by omega) ex
        go_simp
        exact hK.out _ _ rfl (Ext.refl _) (fun b hb => by cases hb)
      refine Steps.cons (fun (v : Value) (_ : World) => v = .agg #[.int .i64 b.dx, .int .i64 b.dy, .int .i64 b.t, .bool b.f]) [4, 3] rfl (by kernel_rfl) rfl (by kernel_rfl) (fun y X ex0 hf K hK => ?_) ?_
      · have h4 : ((fun (v : Value) (_ : World) => v = .agg #[.int .i64 b.dx, .int .i64 b.dy, .int .i64 b.t, .bool b.f])) (y 4) X := hf.1
        have h3 : ((fun (v : Value) (_ : World) => v = .agg #[.int .i64 a.dx, .int .i64 a.dy, .int .i64 a.t, .bool a.f])) (y 3) X := hf.2.1
        clear hf
        have ex := (Ext.drw (Ext.refl _)).trans ex0
        refine Box.mk ?_
        simp only [fill, Act.put, Nat.reduceAdd, List.setIfInBounds_toArray, List.set_cons_zero, List.set_cons_succ, h4, h3] at hK ⊢
        go_simp
        refine (move_any b _).mono ?_
        rintro e V ⟨rfl, hb⟩
        try go_wp2_with fail
        exact hK.out _ _ rfl hb (fun b hb => by cases hb)
      refine Steps.cons (fun (v : Value) (_ : World) => v = .tuple #[.agg #[.int .i64 r.dx, .int .i64 r.dy, .int .i64 r.t, .bool r.f], .int .i64 x]) [0, 1, 3, 5] rfl (by kernel_rfl) rfl (by kernel_rfl) (fun y X ex0 hf K hK => ?_) ?_
      · have h0 : ((fun (v : Value) (_ : World) => v = .int .i64 w)) (y 0) X := hf.1
        have h1 : ((fun (v : Value) (_ : World) => v = .int .i64 h)) (y 1) X := hf.2.1
        have h3 : ((fun (v : Value) (_ : World) => v = .agg #[.int .i64 a.dx, .int .i64 a.dy, .int .i64 a.t, .bool a.f])) (y 3) X := hf.2.2.1
        have h5 : ((fun (v : Value) (_ : World) => v = .agg #[.int .i64 b.dx, .int .i64 b.dy, .int .i64 b.t, .bool b.f])) (y 5) X := hf.2.2.2.1
        clear hf
        have ex := (Ext.drw (Ext.refl _)).trans ex0
        refine Box.mk ?_
        simp only [fill, Act.put, Nat.reduceAdd, List.setIfInBounds_toArray, List.set_cons_zero, List.set_cons_succ, h0, h1, h3, h5] at hK ⊢
        go_simp
        refine (CA.out _).mono ?_
        rintro e V ⟨rfl, hb⟩
        try go_wp2_with fail
        exact hK.out _ _ rfl hb (fun b hb => by cases hb)
      refine Steps.cons (fun (v : Value) (_ : World) => v = .tuple #[.agg #[.int .i64 r.dx, .int .i64 r.dy, .int .i64 r.t, .bool r.f], .int .i64 x]) [6] rfl (by kernel_rfl) rfl (by kernel_rfl) (fun y X ex0 hf K hK => ?_) ?_
      · have h6 : ((fun (v : Value) (_ : World) => v = .tuple #[.agg #[.int .i64 r.dx, .int .i64 r.dy, .int .i64 r.t, .bool r.f], .int .i64 x])) (y 6) X := hf.1
        clear hf
        have ex := (Ext.drw (Ext.refl _)).trans ex0
        refine Box.mk ?_
        simp only [fill, Act.put, Nat.reduceAdd, List.setIfInBounds_toArray, List.set_cons_zero, List.set_cons_succ, h6] at hK ⊢
        go_simp
        exact hK.out _ _ rfl (Ext.refl _) (fun b hb => by cases hb)
      refine Steps.cons (fun (v : Value) (_ : World) => v = .agg #[.int .i64 r.dx, .int .i64 r.dy, .int .i64 r.t, .bool r.f]) [7] rfl (by kernel_rfl) rfl (by kernel_rfl) (fun y X ex0 hf K hK => ?_) ?_
      · have h7 : ((fun (v : Value) (_ : World) => v = .tuple #[.agg #[.int .i64 r.dx, .int .i64 r.dy, .int .i64 r.t, .bool r.f], .int .i64 x])) (y 7) X := hf.1
        clear hf
        have ex := (Ext.drw (Ext.refl _)).trans ex0
        refine Box.mk ?_
        simp only [fill, Act.put, Nat.reduceAdd, List.setIfInBounds_toArray, List.set_cons_zero, List.set_cons_succ, h7] at hK ⊢
        go_simp
        exact hK.out _ _ rfl (Ext.refl _) (fun b hb => by cases hb)
      refine Steps.flw (fun (v : Value) (_ : World) => v = .int .i64 x) [7] rfl (by kernel_rfl) (by kernel_rfl) (fun _ => rfl) (fun y X ex0 hf => ?_) ?_
      · have h7 : ((fun (v : Value) (_ : World) => v = .tuple #[.agg #[.int .i64 r.dx, .int .i64 r.dy, .int .i64 r.t, .bool r.f], .int .i64 x])) (y 7) X := hf.1
        clear hf
        simp only [fill, Act.put, Nat.reduceAdd, List.setIfInBounds_toArray, List.set_cons_zero, List.set_cons_succ, h7]
        exact ⟨_, ⟨by rfl, fun w => by go_simp⟩, rfl⟩
      refine Steps.cons (fun (v : Value) (X : World) => ∃ g, v = .pointer (some ⟨g, 0, none⟩) ∧ W2.heap.size ≤ g ∧ QB X g) [] rfl (by kernel_rfl) rfl (by kernel_rfl) (fun y X ex0 hf K hK => ?_) ?_
      · clear hf
        have ex := (Ext.drw (Ext.refl _)).trans ex0
        refine Box.mk ?_
        simp only [fill, Act.put, Nat.reduceAdd, List.setIfInBounds_toArray, List.set_cons_zero, List.set_cons_succ] at hK ⊢
        go_simp
        exact hK.out _ _ ⟨X.heap.size, rfl, ex.size, QB.new X (.int .i64 0) (.int .i64 0) (.int .i64 0) (.bool false) 31⟩ (Ext.alc (Ext.refl X) (.cells #[.int .i64 0, .int .i64 0, .int .i64 0, .bool false] 31)) (New.ptr (Nat.le_refl _) (by simp))
      exact Steps.nil
    case done =>
      intro y X ex hf hlt hsep
      have h0 : ((fun (v : Value) (_ : World) => v = .int .i64 w)) (y 0) X := hf.1
      have h1 : ((fun (v : Value) (_ : World) => v = .int .i64 h)) (y 1) X := hf.2.1
      have h2 : ((fun (v : Value) (_ : World) => v = .agg #[.int .i64 a.dx, .int .i64 a.dy, .int .i64 a.t, .bool a.f])) (y 2) X := hf.2.2.1
      have h3 : ((fun (v : Value) (_ : World) => v = .agg #[.int .i64 a.dx, .int .i64 a.dy, .int .i64 a.t, .bool a.f])) (y 3) X := hf.2.2.2.1
      have h4 : ((fun (v : Value) (_ : World) => v = .agg #[.int .i64 b.dx, .int .i64 b.dy, .int .i64 b.t, .bool b.f])) (y 4) X := hf.2.2.2.2.1
      have h5 : ((fun (v : Value) (_ : World) => v = .agg #[.int .i64 b.dx, .int .i64 b.dy, .int .i64 b.t, .bool b.f])) (y 5) X := hf.2.2.2.2.2.1
      have h6 : ((fun (v : Value) (_ : World) => v = .tuple #[.agg #[.int .i64 r.dx, .int .i64 r.dy, .int .i64 r.t, .bool r.f], .int .i64 x])) (y 6) X := hf.2.2.2.2.2.2.1
      have h7 : ((fun (v : Value) (_ : World) => v = .tuple #[.agg #[.int .i64 r.dx, .int .i64 r.dy, .int .i64 r.t, .bool r.f], .int .i64 x])) (y 7) X := hf.2.2.2.2.2.2.2.1
      have h8 : ((fun (v : Value) (_ : World) => v = .agg #[.int .i64 r.dx, .int .i64 r.dy, .int .i64 r.t, .bool r.f])) (y 8) X := hf.2.2.2.2.2.2.2.2.1
      have h9 : ((fun (v : Value) (_ : World) => v = .int .i64 x)) (y 9) X := hf.2.2.2.2.2.2.2.2.2.1
      have hh10 : ((fun (v : Value) (X : World) => ∃ g, v = .pointer (some ⟨g, 0, none⟩) ∧ W2.heap.size ≤ g ∧ QB X g)) (y 10) X := hf.2.2.2.2.2.2.2.2.2.2.1
      refine Exists.elim hh10 (fun g10 hx10_0 => ?_)
      have h10 := hx10_0.1
      have z10 := hx10_0.2.1
      have q10 := hx10_0.2.2
      clear hh10 hx10_0
      clear hf
      clear hsep hlt
      refine Box.mk ?_
      simp only [List.drop_succ_cons, List.drop_zero, fill, Act.put, Nat.reduceAdd, List.setIfInBounds_toArray, List.set_cons_zero, List.set_cons_succ, h0, h1, h2, h3, h4, h5, h6, h7, h8, h9, h10]
      clear h0 h1 h2 h3 h4 h5 h6 h7 h8 h9 h10
      obtain ⟨⟨_, _, _, _, k0, k1, k2, k3⟩, k4⟩ := q10.facts
      have QA := Lib.hid q10; have EX := Lib.hid ex; clear q10 ex
      go_wp2_with fail
      refine NoPanic.normal ?_
      go_wp2_with fail
      go_meet
      have l1 := QA.out.lt
      exact ⟨g10, rfl, rfl, Q4.put QA.out _ _ _ _, by simp [World.setCell]; omega, EX.out.sc4 z10 _ _ _ _⟩
  case rest =>
    obtain ⟨g9, rfl, rfl, y9, l9, ex⟩ := hcut
    have Y9 := Lib.hid y9; have EX : Hid (Ext W2 wc) := Lib.hid ex; clear y9
    have lw := ex.size; clear ex CA
    go_upto_region 2 with fail
    go_cut [11, 12] from 24 to 31 (fun sp se wx => ECut wc s z sp se wx)
    case first =>
      obtain ⟨q0, q1, q2, q3⟩ := Q4.ext HA.out (by omega) EX.out
      go_wp2_with fail
      refine (move_any a _).mono ?_
      rintro e v1 ⟨rfl, hb⟩
      have E1 : Hid (Ext wc v1) := Lib.hid hb; clear hb q0 q1 q2 q3
      go_wp2_with fail
      refine (CI.out _).mono ?_
      rintro e v2 ⟨rfl, hb⟩
      have E2 : Hid (Ext wc v2) := Lib.hid (E1.out.trans hb); clear hb E1
      go_wp2_with fail
      go_meet
      refine ⟨v2.heap.size, rfl, rfl, ?_, by simp, E2.out.alc _⟩
      refine ⟨?_, ?_, ?_, ?_⟩ <;> (rw [World.cell?_alloc_new]; rfl)
    case rest =>
      obtain ⟨g11, rfl, rfl, y11, l11, ex⟩ := hcut
      replace Y9 := Lib.hid (Y9.out.ext l9 ex); replace l9 := Nat.lt_of_lt_of_le l9 ex.size; have Y11 := Lib.hid y11; clear y11
      replace EX := Lib.hid (EX.out.trans ex); replace lw := Nat.le_trans lw ex.size; clear ex CI
      go_upto_region 3 with fail
      go_cut [13] from 32 to 40 (fun s wx => s = .bool true ∧ Ext wc wx)
      case first =>
        go_wp2_with fail
        refine (sizeR_is (b := true) HS.out _).mono ?_
        rintro e v1 ⟨rfl, hb⟩
        have E1 : Hid (Ext wc v1) := Lib.hid hb; clear hb
        obtain ⟨q0, q1, q2, q3⟩ := Q4.ext HA.out (by omega) (EX.out.trans E1.out)
        go_wp2_with fail
        refine (fits_is (b := true) HHA.out _).mono ?_
        rintro e v2 ⟨rfl, hb⟩
        replace E1 : Hid (Ext wc v2) := Lib.hid (E1.out.trans hb); clear hb q0 q1 q2 q3
        go_wp2_with fail
        go_meet
        exact ⟨rfl, E1.out⟩
      case rest =>
        obtain ⟨rfl, ex⟩ := hcut
        replace Y9 := Lib.hid (Y9.out.ext l9 ex); replace l9 := Nat.lt_of_lt_of_le l9 ex.size; replace Y11 := Lib.hid (Y11.out.ext l11 ex); replace l11 := Nat.lt_of_lt_of_le l11 ex.size
        replace EX := Lib.hid (EX.out.trans ex); replace lw := Nat.le_trans lw ex.size; clear ex
        have hri : ri w h a = inv w h a ∧ ei w h a = 0 := by unfold ri ei; rw [HS.out, HHA.out]; exact ⟨rfl, rfl⟩
        have hs1 := HSZ2.out.1.trans hri.1; have hz := HSZ2.out.2.trans hri.2
        clear hri HSZ2
        have HSI := Lib.hid hs1; clear hs1
        subst hz
        have cr : ∀ X, Calls Try.prog 27 #[.int .i64 w, .int .i64 h, .agg #[.int .i64 a.dx, .int .i64 a.dy, .int .i64 a.t, .bool a.f]] X fun e Y => e = .returned (.agg #[.int .i64 s.dx, .int .i64 s.dy, .int .i64 s.t, .bool s.f]) ∧ Ext X Y := fun X => by rw [HSI.out]; exact invR_any w h a X HS.out HHA.out
        have CR := Lib.hid cr; clear cr HSI
        go_wp2_with fail
        go_cut [72] from 62 to 71 (fun s wx => s = .bool false ∧ Ext wc wx)
        case first =>
          refine wp_region_noPanic ?_
          refine wp_pool 11 [some 62, some 63, some 64, some 65, some 66, some 67, some 68, some 69, some 70, some 71, some 72] [] [] [(fun (v : Value) (_ : World) => v = .agg #[.int .i64 s.dx, .int .i64 s.dy, .int .i64 s.t, .bool s.f]), (fun (v : Value) (_ : World) => v = .agg #[.int .i64 s.dx, .int .i64 s.dy, .int .i64 s.t, .bool s.f]), (fun (v : Value) (_ : World) => v = .int .i64 w), (fun (v : Value) (_ : World) => v = .int .i64 h), (fun (v : Value) (_ : World) => v = .agg #[.int .i64 a.dx, .int .i64 a.dy, .int .i64 a.t, .bool a.f]), (fun (v : Value) (_ : World) => v = .agg #[.int .i64 s.dx, .int .i64 s.dy, .int .i64 s.t, .bool s.f]), (fun (v : Value) (_ : World) => v = .bool false), (fun (v : Value) (_ : World) => v = .bool false), (fun (v : Value) (_ : World) => v = .int .i64 0), (fun (v : Value) (_ : World) => v = .bool false), (fun (v : Value) (_ : World) => v = .bool false)] [noF, noF, noF, noF, noF, noF, noF, noF, noF, noF, noF] (by kernel_rfl) (by kernel_rfl) (by kernel_rfl) (by kernel_rfl) (by kernel_rfl) (by kernel_rfl) (by kernel_rfl) (by kernel_rfl) (fun _ _ _ _ h => h) ⟨Stays.pure _, Stays.pure _, Stays.pure _, Stays.pure _, Stays.pure _, Stays.pure _, Stays.pure _, Stays.pure _, Stays.pure _, Stays.pure _, Stays.pure _, True.intro⟩ ?steps ?done
          case steps =>
            simp only [List.take_succ_cons, List.take_zero]
            refine Steps.cons (fun (v : Value) (_ : World) => v = .agg #[.int .i64 s.dx, .int .i64 s.dy, .int .i64 s.t, .bool s.f]) [] rfl (by kernel_rfl) rfl (by kernel_rfl) (fun y X ex0 hf K hK => ?_) ?_
            · clear hf
              have ex := (Ext.drw (Ext.refl _)).trans ex0
              refine Box.mk ?_
              simp only [fill, Act.put, Nat.reduceAdd, List.setIfInBounds_toArray, List.set_cons_zero, List.set_cons_succ] at hK ⊢
              obtain ⟨q0, q1, q2, q3⟩ := Q4.ext Y11.out l11 ex
              go_simp
              exact hK.out _ _ rfl (Ext.refl _) (fun b hb => by cases hb)
            refine Steps.cons (fun (v : Value) (_ : World) => v = .agg #[.int .i64 s.dx, .int .i64 s.dy, .int .i64 s.t, .bool s.f]) [0] rfl (by kernel_rfl) rfl (by kernel_rfl) (fun y X ex0 hf K hK => ?_) ?_
            · have h0 : ((fun (v : Value) (_ : World) => v = .agg #[.int .i64 s.dx, .int .i64 s.dy, .int .i64 s.t, .bool s.f])) (y 0) X := hf.1
              clear hf
              have ex := (Ext.drw (Ext.refl _)).trans ex0
              refine Box.mk ?_
              simp only [fill, Act.put, Nat.reduceAdd, List.setIfInBounds_toArray, List.set_cons_zero, List.set_cons_succ, h0] at hK ⊢
              go_simp
              refine (ownMove_any s _).mono ?_
              rintro e V ⟨rfl, hb⟩
              try go_wp2_with fail
              exact hK.out _ _ rfl hb (fun b hb => by cases hb)
            refine Steps.cons (fun (v : Value) (_ : World) => v = .int .i64 w) [] rfl (by kernel_rfl) rfl (by kernel_rfl) (fun y X ex0 hf K hK => ?_) ?_
            · clear hf
              have ex := (Ext.drw (Ext.refl _)).trans ex0
              refine Box.mk ?_
              simp only [fill, Act.put, Nat.reduceAdd, List.setIfInBounds_toArray, List.set_cons_zero, List.set_cons_succ] at hK ⊢
              go_simp
              exact hK.out _ _ rfl (Ext.refl _) (fun b hb => by cases hb)
            refine Steps.cons (fun (v : Value) (_ : World) => v = .int .i64 h) [] rfl (by kernel_rfl) rfl (by kernel_rfl) (fun y X ex0 hf K hK => ?_) ?_
            · clear hf
              have ex := (Ext.drw (Ext.refl _)).trans ex0
              refine Box.mk ?_
              simp only [fill, Act.put, Nat.reduceAdd, List.setIfInBounds_toArray, List.set_cons_zero, List.set_cons_succ] at hK ⊢
              go_simp
              exact hK.out _ _ rfl (Ext.refl _) (fun b hb => by cases hb)
            refine Steps.cons (fun (v : Value) (_ : World) => v = .agg #[.int .i64 a.dx, .int .i64 a.dy, .int .i64 a.t, .bool a.f]) [] rfl (by kernel_rfl) rfl (by kernel_rfl) (fun y X ex0 hf K hK => ?_) ?_
            · clear hf
              have ex := (Ext.drw (Ext.refl _)).trans ex0
              refine Box.mk ?_
              simp only [fill, Act.put, Nat.reduceAdd, List.setIfInBounds_toArray, List.set_cons_zero, List.set_cons_succ] at hK ⊢
              obtain ⟨q0, q1, q2, q3⟩ := Q4.ext HA.out (by omega) (EX.out.trans ex)
              go_simp
              exact hK.out _ _ rfl (Ext.refl _) (fun b hb => by cases hb)
            refine Steps.cons (fun (v : Value) (_ : World) => v = .agg #[.int .i64 s.dx, .int .i64 s.dy, .int .i64 s.t, .bool s.f]) [2, 3, 4, 1] rfl (by kernel_rfl) rfl (by kernel_rfl) (fun y X ex0 hf K hK => ?_) ?_
            · have h2 : ((fun (v : Value) (_ : World) => v = .int .i64 w)) (y 2) X := hf.1
              have h3 : ((fun (v : Value) (_ : World) => v = .int .i64 h)) (y 3) X := hf.2.1
              have h4 : ((fun (v : Value) (_ : World) => v = .agg #[.int .i64 a.dx, .int .i64 a.dy, .int .i64 a.t, .bool a.f])) (y 4) X := hf.2.2.1
              have h1 : ((fun (v : Value) (_ : World) => v = .agg #[.int .i64 s.dx, .int .i64 s.dy, .int .i64 s.t, .bool s.f])) (y 1) X := hf.2.2.2.1
              clear hf
              have ex := (Ext.drw (Ext.refl _)).trans ex0
              refine Box.mk ?_
              simp only [fill, Act.put, Nat.reduceAdd, List.setIfInBounds_toArray, List.set_cons_zero, List.set_cons_succ, h2, h3, h4, h1] at hK ⊢
              go_simp
              refine (CR.out _).mono ?_
              rintro e V ⟨rfl, hb⟩
              try go_wp2_with fail
              exact hK.out _ _ rfl hb (fun b hb => by cases hb)
            refine Steps.cons (fun (v : Value) (_ : World) => v = .bool false) [1, 5] rfl (by kernel_rfl) rfl (by kernel_rfl) (fun y X ex0 hf K hK => ?_) ?_
            · have h1 : ((fun (v : Value) (_ : World) => v = .agg #[.int .i64 s.dx, .int .i64 s.dy, .int .i64 s.t, .bool s.f])) (y 1) X := hf.1
              have h5 : ((fun (v : Value) (_ : World) => v = .agg #[.int .i64 s.dx, .int .i64 s.dy, .int .i64 s.t, .bool s.f])) (y 5) X := hf.2.1
              clear hf
              have ex := (Ext.drw (Ext.refl _)).trans ex0
              refine Box.mk ?_
              simp only [fill, Act.put, Nat.reduceAdd, List.setIfInBounds_toArray, List.set_cons_zero, List.set_cons_succ, h1, h5] at hK ⊢
              go_simp
              exact hK.out _ _ rfl (Ext.refl _) (fun b hb => by cases hb)
            refine Steps.cons (fun (v : Value) (_ : World) => v = .bool false) [6, 5] rfl (by kernel_rfl) rfl (by kernel_rfl) (fun y X ex0 hf K hK => ?_) ?_
            · have h6 : ((fun (v : Value) (_ : World) => v = .bool false)) (y 6) X := hf.1
              have h5 : ((fun (v : Value) (_ : World) => v = .agg #[.int .i64 s.dx, .int .i64 s.dy, .int .i64 s.t, .bool s.f])) (y 5) X := hf.2.1
              clear hf
              have ex := (Ext.drw (Ext.refl _)).trans ex0
              refine Box.mk ?_
              simp only [fill, Act.put, Nat.reduceAdd, List.setIfInBounds_toArray, List.set_cons_zero, List.set_cons_succ, h6, h5] at hK ⊢
              go_simp
              exact hK.out _ _ rfl (Ext.refl _) (fun b hb => by cases hb)
            refine Steps.cons (fun (v : Value) (_ : World) => v = .int .i64 0) [7] rfl (by kernel_rfl) rfl (by kernel_rfl) (fun y X ex0 hf K hK => ?_) ?_
            · have h7 : ((fun (v : Value) (_ : World) => v = .bool false)) (y 7) X := hf.1
              clear hf
              have ex := (Ext.drw (Ext.refl _)).trans ex0
              refine Box.mk ?_
              simp only [fill, Act.put, Nat.reduceAdd, List.setIfInBounds_toArray, List.set_cons_zero, List.set_cons_succ, h7] at hK ⊢
              go_simp
              exact hK.out _ _ rfl (Ext.refl _) (fun b hb => by cases hb)
            refine Steps.cons (fun (v : Value) (_ : World) => v = .bool false) [8, 7] rfl (by kernel_rfl) rfl (by kernel_rfl) (fun y X ex0 hf K hK => ?_) ?_
            · have h8 : ((fun (v : Value) (_ : World) => v = .int .i64 0)) (y 8) X := hf.1
              have h7 : ((fun (v : Value) (_ : World) => v = .bool false)) (y 7) X := hf.2.1
              clear hf
              have ex := (Ext.drw (Ext.refl _)).trans ex0
              refine Box.mk ?_
              simp only [fill, Act.put, Nat.reduceAdd, List.setIfInBounds_toArray, List.set_cons_zero, List.set_cons_succ, h8, h7] at hK ⊢
              go_simp
              exact hK.out _ _ rfl (Ext.refl _) (fun b hb => by cases hb)
            refine Steps.cons (fun (v : Value) (_ : World) => v = .bool false) [7, 9] rfl (by kernel_rfl) rfl (by kernel_rfl) (fun y X ex0 hf K hK => ?_) ?_
            · have h7 : ((fun (v : Value) (_ : World) => v = .bool false)) (y 7) X := hf.1
              have h9 : ((fun (v : Value) (_ : World) => v = .bool false)) (y 9) X := hf.2.1
              clear hf
              have ex := (Ext.drw (Ext.refl _)).trans ex0
              refine Box.mk ?_
              simp only [fill, Act.put, Nat.reduceAdd, List.setIfInBounds_toArray, List.set_cons_zero, List.set_cons_succ, h7, h9] at hK ⊢
              go_simp
              exact hK.out _ _ rfl (Ext.refl _) (fun b hb => by cases hb)
            exact Steps.nil
          case done =>
            intro y X ex hf hlt hsep
            have h0 : ((fun (v : Value) (_ : World) => v = .agg #[.int .i64 s.dx, .int .i64 s.dy, .int .i64 s.t, .bool s.f])) (y 0) X := hf.1
            have h1 : ((fun (v : Value) (_ : World) => v = .agg #[.int .i64 s.dx, .int .i64 s.dy, .int .i64 s.t, .bool s.f])) (y 1) X := hf.2.1
            have h2 : ((fun (v : Value) (_ : World) => v = .int .i64 w)) (y 2) X := hf.2.2.1
            have h3 : ((fun (v : Value) (_ : World) => v = .int .i64 h)) (y 3) X := hf.2.2.2.1
            have h4 : ((fun (v : Value) (_ : World) => v = .agg #[.int .i64 a.dx, .int .i64 a.dy, .int .i64 a.t, .bool a.f])) (y 4) X := hf.2.2.2.2.1
            have h5 : ((fun (v : Value) (_ : World) => v = .agg #[.int .i64 s.dx, .int .i64 s.dy, .int .i64 s.t, .bool s.f])) (y 5) X := hf.2.2.2.2.2.1
            have h6 : ((fun (v : Value) (_ : World) => v = .bool false)) (y 6) X := hf.2.2.2.2.2.2.1
            have h7 : ((fun (v : Value) (_ : World) => v = .bool false)) (y 7) X := hf.2.2.2.2.2.2.2.1
            have h8 : ((fun (v : Value) (_ : World) => v = .int .i64 0)) (y 8) X := hf.2.2.2.2.2.2.2.2.1
            have h9 : ((fun (v : Value) (_ : World) => v = .bool false)) (y 9) X := hf.2.2.2.2.2.2.2.2.2.1
            have h10 : ((fun (v : Value) (_ : World) => v = .bool false)) (y 10) X := hf.2.2.2.2.2.2.2.2.2.2.1
            clear hf
            clear hsep hlt
            refine Box.mk ?_
            simp only [List.drop_succ_cons, List.drop_zero, fill, Act.put, Nat.reduceAdd, List.setIfInBounds_toArray, List.set_cons_zero, List.set_cons_succ, h0, h1, h2, h3, h4, h5, h6, h7, h8, h9, h10]
            clear h0 h1 h2 h3 h4 h5 h6 h7 h8 h9 h10
            have EQ := Lib.hid ex; clear ex
            refine NoPanic.normal ?_
            go_wp2_with fail
            go_meet
            exact ⟨rfl, EQ.out⟩
        case rest =>
          obtain ⟨rfl, ex⟩ := hcut
          replace Y9 := Lib.hid (Y9.out.ext l9 ex); replace l9 := Nat.lt_of_lt_of_le l9 ex.size; replace Y11 := Lib.hid (Y11.out.ext l11 ex); replace l11 := Nat.lt_of_lt_of_le l11 ex.size
          replace EX := Lib.hid (EX.out.trans ex); replace lw := Nat.le_trans lw ex.size; clear ex
          cases hb : has w h b
          · have HHB := Lib.hid hb; clear hb
            have hrr : ra w h a b = Mv.one ∧ ea w h a b = 2 := by unfold ra ea; rw [HHB.out, Bool.and_false]; exact ⟨rfl, rfl⟩
            have hr := HRX.out.1.trans hrr.1; have hx := HRX.out.2.trans hrr.2
            clear hrr HRX
            subst hr hx
            obtain ⟨q0, q1, q2, q3⟩ := Q4.ext HB.out (by omega) EX.out
            go_wp2_with fail
            refine (fits_is (b := false) HHB.out _).mono ?_
            rintro e v1 ⟨rfl, hb⟩
            replace Y9 := Lib.hid (Y9.out.ext l9 hb); replace l9 := Nat.lt_of_lt_of_le l9 (Ext.size hb); replace EX := Lib.hid (EX.out.trans hb); replace lw := Nat.le_trans lw (Ext.size hb); clear hb q0 q1 q2 q3
            obtain ⟨c0, c1, c2, c3⟩ := Y9.out
            simp only [Mv.one] at c0 c1 c2 c3
            go_wp2_with fail
            refine (awake_any _).mono ?_
            rintro e v9 ⟨rfl, hb⟩
            have EF := Lib.hid (BB.out.trans (EX.out.trans hb)); clear hb
            go_wp2
            go_ret
            exact ⟨rfl, EF.out⟩
          · have HHB := Lib.hid hb; clear hb
            have hrr : ra w h a b = aft w h a b ∧ ea w h a b = 0 := by unfold ra ea; rw [HS.out, HHA.out, HHB.out]; exact ⟨rfl, rfl⟩
            have hr := HRX.out.1.trans hrr.1; have hx := HRX.out.2.trans hrr.2
            clear hrr HRX
            have HR := Lib.hid hr; clear hr
            subst hx
            have cr : ∀ X, Calls Try.prog 28 #[.int .i64 w, .int .i64 h, .agg #[.int .i64 a.dx, .int .i64 a.dy, .int .i64 a.t, .bool a.f], .agg #[.int .i64 b.dx, .int .i64 b.dy, .int .i64 b.t, .bool b.f]] X fun e Y => e = .returned (.agg #[.int .i64 r.dx, .int .i64 r.dy, .int .i64 r.t, .bool r.f]) ∧ Ext X Y := fun X => by rw [HR.out]; exact afterR_any w h a b X HS.out HHA.out HHB.out
            have CRA := Lib.hid cr; clear cr HR
            obtain ⟨q0, q1, q2, q3⟩ := Q4.ext HB.out (by omega) EX.out
            go_wp2_with fail
            refine (fits_is (b := true) HHB.out _).mono ?_
            rintro e v1 ⟨rfl, hb⟩
            replace Y9 := Lib.hid (Y9.out.ext l9 hb); replace l9 := Nat.lt_of_lt_of_le l9 (Ext.size hb); replace EX := Lib.hid (EX.out.trans hb); replace lw := Nat.le_trans lw (Ext.size hb); clear hb q0 q1 q2 q3
            go_wp2_with fail
            refine wp_region_noPanic ?_
            refine wp_pool 15 [some 88, some 89, some 90, some 91, some 92, some 93, some 94, some 95, some 96, some 97, some 98, some 99, some 100, some 101, some 102] [] [] [(fun (v : Value) (_ : World) => v = .agg #[.int .i64 r.dx, .int .i64 r.dy, .int .i64 r.t, .bool r.f]), (fun (v : Value) (_ : World) => v = .agg #[.int .i64 r.dx, .int .i64 r.dy, .int .i64 r.t, .bool r.f]), (fun (v : Value) (_ : World) => v = .int .i64 w), (fun (v : Value) (_ : World) => v = .int .i64 h), (fun (v : Value) (_ : World) => v = .agg #[.int .i64 a.dx, .int .i64 a.dy, .int .i64 a.t, .bool a.f]), (fun (v : Value) (_ : World) => v = .agg #[.int .i64 b.dx, .int .i64 b.dy, .int .i64 b.t, .bool b.f]), (fun (v : Value) (_ : World) => v = .agg #[.int .i64 r.dx, .int .i64 r.dy, .int .i64 r.t, .bool r.f]), (fun (v : Value) (_ : World) => v = .bool true), (fun (v : Value) (_ : World) => v = .bool true), (fun (v : Value) (_ : World) => v = .int .i64 0), (fun (v : Value) (_ : World) => v = .bool true), (fun (v : Value) (_ : World) => v = .bool true), (fun (v : Value) (_ : World) => v = .bool true), (fun (v : Value) (_ : World) => v = .bool true), (fun (v : Value) (_ : World) => v = .bool true)] [noF, noF, noF, noF, noF, noF, noF, noF, noF, noF, noF, noF, noF, noF, noF] (by kernel_rfl) (by kernel_rfl) (by kernel_rfl) (by kernel_rfl) (by kernel_rfl) (by kernel_rfl) (by kernel_rfl) (by kernel_rfl) (fun _ _ _ _ h => h) ⟨Stays.pure _, Stays.pure _, Stays.pure _, Stays.pure _, Stays.pure _, Stays.pure _, Stays.pure _, Stays.pure _, Stays.pure _, Stays.pure _, Stays.pure _, Stays.pure _, Stays.pure _, Stays.pure _, Stays.pure _, True.intro⟩ ?steps ?done
            case steps =>
              simp only [List.take_succ_cons, List.take_zero]
              refine Steps.cons (fun (v : Value) (_ : World) => v = .agg #[.int .i64 r.dx, .int .i64 r.dy, .int .i64 r.t, .bool r.f]) [] rfl (by kernel_rfl) rfl (by kernel_rfl) (fun y X ex0 hf K hK => ?_) ?_
              · clear hf
                have ex := (Ext.drw (Ext.refl _)).trans ex0
                refine Box.mk ?_
                simp only [fill, Act.put, Nat.reduceAdd, List.setIfInBounds_toArray, List.set_cons_zero, List.set_cons_succ] at hK ⊢
                obtain ⟨q0, q1, q2, q3⟩ := Q4.ext Y9.out l9 ex
                go_simp
                exact hK.out _ _ rfl (Ext.refl _) (fun b hb => by cases hb)
              refine Steps.cons (fun (v : Value) (_ : World) => v = .agg #[.int .i64 r.dx, .int .i64 r.dy, .int .i64 r.t, .bool r.f]) [0] rfl (by kernel_rfl) rfl (by kernel_rfl) (fun y X ex0 hf K hK => ?_) ?_
              · have h0 : ((fun (v : Value) (_ : World) => v = .agg #[.int .i64 r.dx, .int .i64 r.dy, .int .i64 r.t, .bool r.f])) (y 0) X := hf.1
                clear hf
                have ex := (Ext.drw (Ext.refl _)).trans ex0
                refine Box.mk ?_
                simp only [fill, Act.put, Nat.reduceAdd, List.setIfInBounds_toArray, List.set_cons_zero, List.set_cons_succ, h0] at hK ⊢
                go_simp
                refine (ownMove_any r _).mono ?_
                rintro e V ⟨rfl, hb⟩
                try go_wp2_with fail
                exact hK.out _ _ rfl hb (fun b hb => by cases hb)
              refine Steps.cons (fun (v : Value) (_ : World) => v = .int .i64 w) [] rfl (by kernel_rfl) rfl (by kernel_rfl) (fun y X ex0 hf K hK => ?_) ?_
              · clear hf
                have ex := (Ext.drw (Ext.refl _)).trans ex0
                refine Box.mk ?_
                simp only [fill, Act.put, Nat.reduceAdd, List.setIfInBounds_toArray, List.set_cons_zero, List.set_cons_succ] at hK ⊢
                go_simp
                exact hK.out _ _ rfl (Ext.refl _) (fun b hb => by cases hb)
              refine Steps.cons (fun (v : Value) (_ : World) => v = .int .i64 h) [] rfl (by kernel_rfl) rfl (by kernel_rfl) (fun y X ex0 hf K hK => ?_) ?_
              · clear hf
                have ex := (Ext.drw (Ext.refl _)).trans ex0
                refine Box.mk ?_
                simp only [fill, Act.put, Nat.reduceAdd, List.setIfInBounds_toArray, List.set_cons_zero, List.set_cons_succ] at hK ⊢
                go_simp
                exact hK.out _ _ rfl (Ext.refl _) (fun b hb => by cases hb)
              refine Steps.cons (fun (v : Value) (_ : World) => v = .agg #[.int .i64 a.dx, .int .i64 a.dy, .int .i64 a.t, .bool a.f]) [] rfl (by kernel_rfl) rfl (by kernel_rfl) (fun y X ex0 hf K hK => ?_) ?_
              · clear hf
                have ex := (Ext.drw (Ext.refl _)).trans ex0
                refine Box.mk ?_
                simp only [fill, Act.put, Nat.reduceAdd, List.setIfInBounds_toArray, List.set_cons_zero, List.set_cons_succ] at hK ⊢
                obtain ⟨q0, q1, q2, q3⟩ := Q4.ext HA.out (by omega) (EX.out.trans ex)
                go_simp
                exact hK.out _ _ rfl (Ext.refl _) (fun b hb => by cases hb)
              refine Steps.cons (fun (v : Value) (_ : World) => v = .agg #[.int .i64 b.dx, .int .i64 b.dy, .int .i64 b.t, .bool b.f]) [] rfl (by kernel_rfl) rfl (by kernel_rfl) (fun y X ex0 hf K hK => ?_) ?_
              · clear hf
                have ex := (Ext.drw (Ext.refl _)).trans ex0
                refine Box.mk ?_
                simp only [fill, Act.put, Nat.reduceAdd, List.setIfInBounds_toArray, List.set_cons_zero, List.set_cons_succ] at hK ⊢
                obtain ⟨q0, q1, q2, q3⟩ := Q4.ext HB.out (by omega) (EX.out.trans ex)
                go_simp
                exact hK.out _ _ rfl (Ext.refl _) (fun b hb => by cases hb)
              refine Steps.cons (fun (v : Value) (_ : World) => v = .agg #[.int .i64 r.dx, .int .i64 r.dy, .int .i64 r.t, .bool r.f]) [2, 3, 4, 5, 1] rfl (by kernel_rfl) rfl (by kernel_rfl) (fun y X ex0 hf K hK => ?_) ?_
              · have h2 : ((fun (v : Value) (_ : World) => v = .int .i64 w)) (y 2) X := hf.1
                have h3 : ((fun (v : Value) (_ : World) => v = .int .i64 h)) (y 3) X := hf.2.1
                have h4 : ((fun (v : Value) (_ : World) => v = .agg #[.int .i64 a.dx, .int .i64 a.dy, .int .i64 a.t, .bool a.f])) (y 4) X := hf.2.2.1
                have h5 : ((fun (v : Value) (_ : World) => v = .agg #[.int .i64 b.dx, .int .i64 b.dy, .int .i64 b.t, .bool b.f])) (y 5) X := hf.2.2.2.1
                have h1 : ((fun (v : Value) (_ : World) => v = .agg #[.int .i64 r.dx, .int .i64 r.dy, .int .i64 r.t, .bool r.f])) (y 1) X := hf.2.2.2.2.1
                clear hf
                have ex := (Ext.drw (Ext.refl _)).trans ex0
                refine Box.mk ?_
                simp only [fill, Act.put, Nat.reduceAdd, List.setIfInBounds_toArray, List.set_cons_zero, List.set_cons_succ, h2, h3, h4, h5, h1] at hK ⊢
                go_simp
                refine (CRA.out _).mono ?_
                rintro e V ⟨rfl, hb⟩
                try go_wp2_with fail
                exact hK.out _ _ rfl hb (fun b hb => by cases hb)
              refine Steps.cons (fun (v : Value) (_ : World) => v = .bool true) [1, 6] rfl (by kernel_rfl) rfl (by kernel_rfl) (fun y X ex0 hf K hK => ?_) ?_
              · have h1 : ((fun (v : Value) (_ : World) => v = .agg #[.int .i64 r.dx, .int .i64 r.dy, .int .i64 r.t, .bool r.f])) (y 1) X := hf.1
                have h6 : ((fun (v : Value) (_ : World) => v = .agg #[.int .i64 r.dx, .int .i64 r.dy, .int .i64 r.t, .bool r.f])) (y 6) X := hf.2.1
                clear hf
                have ex := (Ext.drw (Ext.refl _)).trans ex0
                refine Box.mk ?_
                simp only [fill, Act.put, Nat.reduceAdd, List.setIfInBounds_toArray, List.set_cons_zero, List.set_cons_succ, h1, h6] at hK ⊢
                go_simp
                exact hK.out _ _ rfl (Ext.refl _) (fun b hb => by cases hb)
              refine Steps.cons (fun (v : Value) (_ : World) => v = .bool true) [7, 6] rfl (by kernel_rfl) rfl (by kernel_rfl) (fun y X ex0 hf K hK => ?_) ?_
              · have h7 : ((fun (v : Value) (_ : World) => v = .bool true)) (y 7) X := hf.1
                have h6 : ((fun (v : Value) (_ : World) => v = .agg #[.int .i64 r.dx, .int .i64 r.dy, .int .i64 r.t, .bool r.f])) (y 6) X := hf.2.1
                clear hf
                have ex := (Ext.drw (Ext.refl _)).trans ex0
                refine Box.mk ?_
                simp only [fill, Act.put, Nat.reduceAdd, List.setIfInBounds_toArray, List.set_cons_zero, List.set_cons_succ, h7, h6] at hK ⊢
                go_simp
                exact hK.out _ _ rfl (Ext.refl _) (fun b hb => by cases hb)
              refine Steps.cons (fun (v : Value) (_ : World) => v = .int .i64 0) [8] rfl (by kernel_rfl) rfl (by kernel_rfl) (fun y X ex0 hf K hK => ?_) ?_
              · have h8 : ((fun (v : Value) (_ : World) => v = .bool true)) (y 8) X := hf.1
                clear hf
                have ex := (Ext.drw (Ext.refl _)).trans ex0
                refine Box.mk ?_
                simp only [fill, Act.put, Nat.reduceAdd, List.setIfInBounds_toArray, List.set_cons_zero, List.set_cons_succ, h8] at hK ⊢
                go_simp
                exact hK.out _ _ rfl (Ext.refl _) (fun b hb => by cases hb)
              refine Steps.cons (fun (v : Value) (_ : World) => v = .bool true) [9, 8] rfl (by kernel_rfl) rfl (by kernel_rfl) (fun y X ex0 hf K hK => ?_) ?_
              · have h9 : ((fun (v : Value) (_ : World) => v = .int .i64 0)) (y 9) X := hf.1
                have h8 : ((fun (v : Value) (_ : World) => v = .bool true)) (y 8) X := hf.2.1
                clear hf
                have ex := (Ext.drw (Ext.refl _)).trans ex0
                refine Box.mk ?_
                simp only [fill, Act.put, Nat.reduceAdd, List.setIfInBounds_toArray, List.set_cons_zero, List.set_cons_succ, h9, h8] at hK ⊢
                go_simp
                exact hK.out _ _ rfl (Ext.refl _) (fun b hb => by cases hb)
              refine Steps.cons (fun (v : Value) (_ : World) => v = .bool true) [8, 10] rfl (by kernel_rfl) rfl (by kernel_rfl) (fun y X ex0 hf K hK => ?_) ?_
              · have h8 : ((fun (v : Value) (_ : World) => v = .bool true)) (y 8) X := hf.1
                have h10 : ((fun (v : Value) (_ : World) => v = .bool true)) (y 10) X := hf.2.1
                clear hf
                have ex := (Ext.drw (Ext.refl _)).trans ex0
                refine Box.mk ?_
                simp only [fill, Act.put, Nat.reduceAdd, List.setIfInBounds_toArray, List.set_cons_zero, List.set_cons_succ, h8, h10] at hK ⊢
                go_simp
                exact hK.out _ _ rfl (Ext.refl _) (fun b hb => by cases hb)
              refine Steps.cons (fun (v : Value) (_ : World) => v = .bool true) [11, 8] rfl (by kernel_rfl) rfl (by kernel_rfl) (fun y X ex0 hf K hK => ?_) ?_
              · have h11 : ((fun (v : Value) (_ : World) => v = .bool true)) (y 11) X := hf.1
                have h8 : ((fun (v : Value) (_ : World) => v = .bool true)) (y 8) X := hf.2.1
                clear hf
                have ex := (Ext.drw (Ext.refl _)).trans ex0
                refine Box.mk ?_
                simp only [fill, Act.put, Nat.reduceAdd, List.setIfInBounds_toArray, List.set_cons_zero, List.set_cons_succ, h11, h8] at hK ⊢
                go_simp
                exact hK.out _ _ rfl (Ext.refl _) (fun b hb => by cases hb)
              refine Steps.cons (fun (v : Value) (_ : World) => v = .bool true) [12] rfl (by kernel_rfl) rfl (by kernel_rfl) (fun y X ex0 hf K hK => ?_) ?_
              · have h12 : ((fun (v : Value) (_ : World) => v = .bool true)) (y 12) X := hf.1
                clear hf
                have ex := (Ext.drw (Ext.refl _)).trans ex0
                refine Box.mk ?_
                simp only [fill, Act.put, Nat.reduceAdd, List.setIfInBounds_toArray, List.set_cons_zero, List.set_cons_succ, h12] at hK ⊢
                go_simp
                refine (awake_any _).mono ?_
                rintro e V ⟨rfl, hb⟩
                try go_wp2_with fail
                exact hK.out _ _ rfl hb (fun b hb => by cases hb)
              refine Steps.cons (fun (v : Value) (_ : World) => v = .bool true) [12, 13] rfl (by kernel_rfl) rfl (by kernel_rfl) (fun y X ex0 hf K hK => ?_) ?_
              · have h12 : ((fun (v : Value) (_ : World) => v = .bool true)) (y 12) X := hf.1
                have h13 : ((fun (v : Value) (_ : World) => v = .bool true)) (y 13) X := hf.2.1
                clear hf
                have ex := (Ext.drw (Ext.refl _)).trans ex0
                refine Box.mk ?_
                simp only [fill, Act.put, Nat.reduceAdd, List.setIfInBounds_toArray, List.set_cons_zero, List.set_cons_succ, h12, h13] at hK ⊢
                go_simp
                exact hK.out _ _ rfl (Ext.refl _) (fun b hb => by cases hb)
              exact Steps.nil
            case done =>
              intro y X ex hf hlt hsep
              have h0 : ((fun (v : Value) (_ : World) => v = .agg #[.int .i64 r.dx, .int .i64 r.dy, .int .i64 r.t, .bool r.f])) (y 0) X := hf.1
              have h1 : ((fun (v : Value) (_ : World) => v = .agg #[.int .i64 r.dx, .int .i64 r.dy, .int .i64 r.t, .bool r.f])) (y 1) X := hf.2.1
              have h2 : ((fun (v : Value) (_ : World) => v = .int .i64 w)) (y 2) X := hf.2.2.1
              have h3 : ((fun (v : Value) (_ : World) => v = .int .i64 h)) (y 3) X := hf.2.2.2.1
              have h4 : ((fun (v : Value) (_ : World) => v = .agg #[.int .i64 a.dx, .int .i64 a.dy, .int .i64 a.t, .bool a.f])) (y 4) X := hf.2.2.2.2.1
              have h5 : ((fun (v : Value) (_ : World) => v = .agg #[.int .i64 b.dx, .int .i64 b.dy, .int .i64 b.t, .bool b.f])) (y 5) X := hf.2.2.2.2.2.1
              have h6 : ((fun (v : Value) (_ : World) => v = .agg #[.int .i64 r.dx, .int .i64 r.dy, .int .i64 r.t, .bool r.f])) (y 6) X := hf.2.2.2.2.2.2.1
              have h7 : ((fun (v : Value) (_ : World) => v = .bool true)) (y 7) X := hf.2.2.2.2.2.2.2.1
              have h8 : ((fun (v : Value) (_ : World) => v = .bool true)) (y 8) X := hf.2.2.2.2.2.2.2.2.1
              have h9 : ((fun (v : Value) (_ : World) => v = .int .i64 0)) (y 9) X := hf.2.2.2.2.2.2.2.2.2.1
              have h10 : ((fun (v : Value) (_ : World) => v = .bool true)) (y 10) X := hf.2.2.2.2.2.2.2.2.2.2.1
              have h11 : ((fun (v : Value) (_ : World) => v = .bool true)) (y 11) X := hf.2.2.2.2.2.2.2.2.2.2.2.1
              have h12 : ((fun (v : Value) (_ : World) => v = .bool true)) (y 12) X := hf.2.2.2.2.2.2.2.2.2.2.2.2.1
              have h13 : ((fun (v : Value) (_ : World) => v = .bool true)) (y 13) X := hf.2.2.2.2.2.2.2.2.2.2.2.2.2.1
              have h14 : ((fun (v : Value) (_ : World) => v = .bool true)) (y 14) X := hf.2.2.2.2.2.2.2.2.2.2.2.2.2.2.1
              clear hf
              clear hsep hlt
              refine Box.mk ?_
              simp only [List.drop_succ_cons, List.drop_zero, fill, Act.put, Nat.reduceAdd, List.setIfInBounds_toArray, List.set_cons_zero, List.set_cons_succ, h0, h1, h2, h3, h4, h5, h6, h7, h8, h9, h10, h11, h12, h13, h14]
              clear h0 h1 h2 h3 h4 h5 h6 h7 h8 h9 h10 h11 h12 h13 h14
              have EF := Lib.hid (BB.out.trans (EX.out.trans ex)); clear ex
              go_wp2_with fail
              refine NoPanic.normal ?_
              go_wp2
              go_ret
              exact ⟨rfl, EF.out⟩

/-- the law -/
theorem after_law (w h : Int) (a b : Mv) (W : World) :
    Calls Try.prog 4 #[.int .i64 w, .int .i64 h, .agg #[.int .i64 a.dx, .int .i64 a.dy, .int .i64 a.t, .bool a.f], .agg #[.int .i64 b.dx, .int .i64 b.dy, .int .i64 b.t, .bool b.f]] W fun e W' => e = .returned (.bool true) ∧ Ext W W' := by
  cases hno : (okSize w h && has w h a)
  · exact after_law_no w h a b W hno
  · simp only [Bool.and_eq_true] at hno
    have hs := okSize_iff.1 hno.1
    obtain ⟨w', rfl⟩ : ∃ w' : Nat, w = w' := ⟨w.toNat, by omega⟩
    obtain ⟨h', rfl⟩ : ∃ h' : Nat, h = h' := ⟨h.toNat, by omega⟩
    exact after_law_yes w' h' a b W hno.1 hno.2
end Go.Proofs.Ytgjanbgehbpciaa
