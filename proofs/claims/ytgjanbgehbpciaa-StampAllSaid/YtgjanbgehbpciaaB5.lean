/- Walks: the move of a number. -/
import Derived.Test.YtgjanbgehbpciaaBm
import Derived.Test.YtgjanbgehbpciaaA3
namespace Go.Proofs.Ytgjanbgehbpciaa
open Go.RowKit

/-- block g holds these two cells -/
def C2 (W : World) (g : Nat) (a b : Value) : Prop := W.cell? ⟨g, 0, none⟩ = some a ∧ W.cell? ⟨g, 1, none⟩ = some b
theorem C2.ext {X Y : World} {g : Nat} {a b : Value} (h : C2 X g a b) (hg : g < X.heap.size) (e : Ext X Y) : C2 Y g a b := ⟨keepAt e hg h.1, keepAt e hg h.2⟩

set_option maxHeartbeats 2000000 in
set_option maxRecDepth 100000 in
theorem numbered_c (w h n q : Nat) (W : World) (hw : 1 ≤ w ∧ w ≤ 8) (hh : 1 ≤ h ∧ h ≤ 8) (hn : n ≤ 511) (hq : q = n / (w * h)) (hq8 : q < 8) (p x yy t : Nat) (hp : p = n / h) (hx : x = p % w) (hy : yy = n % h) (ht : t = q % 4) :
    Calls Try.prog 85 #[.agg #[.int .i64 w, .int .i64 h], .int .i64 n] W fun e W' => e = .returned (.agg #[.int .i64 x, .int .i64 yy, .int .i64 t, .bool (decide (4 ≤ (q : Int)))]) ∧ Ext W W' := by
  have a1 : w * h ≤ 64 := Nat.mul_le_mul hw.2 hh.2
  have a0 : 1 ≤ w * h := Nat.mul_le_mul hw.1 hh.1
  have e1 : (w : Int) * h = ((w * h : Nat) : Int) := by simp
  have s1 : IntKind.i64.wrap ((w : Int) * h) = ((w * h : Nat) : Int) := by rw [e1]; exact IntWalk.i64_in _ (by omega)
  obtain ⟨A, hA⟩ : ∃ A, A = w * h := ⟨_, rfl⟩
  rw [← hA] at a1 a0 s1 hq
  have d1 : Int.tdiv (n : Int) (A : Int) = (q : Int) := by rw [hq]; rfl
  have d1' : (n : Int) / (A : Int) = (q : Int) := by rw [hq]; rfl
  have hnh : p ≤ 511 := by rw [hp]; exact Nat.le_trans (Nat.div_le_self _ _) hn
  have g1 : IntKind.i64.wrap ((n : Int) / (h : Int)) = (p : Int) := by
    have : (n : Int) / (h : Int) = (p : Int) := by rw [hp]; rfl
    rw [this]; exact IntWalk.i64_in _ (by omega)
  have g2 : ((p : Int)).tmod (w : Int) = (x : Int) := by rw [hx]; rfl
  have g3 : ((n : Int)).tmod (h : Int) = (yy : Int) := by rw [hy]; rfl
  have g4 : ((q : Int)).tmod 4 = (t : Int) := by rw [ht]; rfl
  have g5 : (q : Int) % 4 = (t : Int) := by rw [ht]; rfl
  have nh : ¬ h = 0 := by omega
  have nw : ¬ w = 0 := by omega
  have G1 := Lib.hid g1; have G2 := Lib.hid g2; have G3 := Lib.hid g3; have G4 := Lib.hid g4; have G5 := Lib.hid g5; have NH := Lib.hid nh; have NW := Lib.hid nw
  clear g1 g2 g3 g4 g5 hp hx hy ht nh nw
  have S1 := Lib.hid s1; have D1 := Lib.hid (And.intro d1 d1'); clear s1 hA d1 d1' e1 hq
  go_enter Try.func85, Try.ntmps85
  have S1o := S1.out
  have D1o := D1.out.1
  have D1p := D1.out.2
  go_upto_region 2 with fail
  have q1 : C2 ((W.alloc (.cells #[.int .i64 w, .int .i64 h] 84)).alloc (.cells #[.int .i64 0, .int .i64 0, .int .i64 0, .bool false] 31)) W.heap.size (.int .i64 w) (.int .i64 h) := by
    refine ⟨?_, ?_⟩ <;> (rw [World.cell?_alloc_past _ _ _ (by simp), World.cell?_alloc_new]; rfl)
  have q2 : B4 ((W.alloc (.cells #[.int .i64 w, .int .i64 h] 84)).alloc (.cells #[.int .i64 0, .int .i64 0, .int .i64 0, .bool false] 31)) (W.heap.size + 1) (.int .i64 0) (.int .i64 0) (.int .i64 0) (.bool false) := by
    have := heap_alloc_new (W.alloc (.cells #[.int .i64 w, .int .i64 h] 84)) (.cells #[.int .i64 0, .int .i64 0, .int .i64 0, .bool false] 31)
    rw [World.size_alloc] at this
    exact ⟨31, this⟩
  have bb := al2 W (.cells #[.int .i64 w, .int .i64 h] 84) (.cells #[.int .i64 0, .int .i64 0, .int .i64 0, .bool false] 31)
  have zz : ((W.alloc (.cells #[.int .i64 w, .int .i64 h] 84)).alloc (.cells #[.int .i64 0, .int .i64 0, .int .i64 0, .bool false] 31)).heap.size = W.heap.size + 1 + 1 := by simp
  generalize ((W.alloc (.cells #[.int .i64 w, .int .i64 h] 84)).alloc (.cells #[.int .i64 0, .int .i64 0, .int .i64 0, .bool false] 31)) = W2 at *
  have zle : W.heap.size + 1 + 1 ≤ W2.heap.size := by omega
  have BB : Hid (Ext W W2) := Lib.hid bb; have H1 := Lib.hid q1; have H2 := Lib.hid q2
  clear bb zz q1 q2 S1o D1o D1p
  refine wp_region_noPanic ?_
  refine wp_pool 16 [some 13, some 14, some 15, some 16, some 17, some 18, some 19, some 20, some 21, some 22, some 23, some 24, some 25, some 26, some 27, some 28] [] [] [(fun (v : Value) (_ : World) => v = .int .i64 n), (fun (v : Value) (_ : World) => v = .pointer (some ⟨W.heap.size, 1, none⟩)), (fun (v : Value) (_ : World) => v = .int .i64 h), (fun (v : Value) (_ : World) => v = .int .i64 p), (fun (v : Value) (_ : World) => v = .pointer (some ⟨W.heap.size, 0, none⟩)), (fun (v : Value) (_ : World) => v = .int .i64 w), (fun (v : Value) (_ : World) => v = .int .i64 x), (fun (v : Value) (_ : World) => v = .int .i64 n), (fun (v : Value) (_ : World) => v = .pointer (some ⟨W.heap.size, 1, none⟩)), (fun (v : Value) (_ : World) => v = .int .i64 h), (fun (v : Value) (_ : World) => v = .int .i64 yy), (fun (v : Value) (_ : World) => v = .int .i64 q), (fun (v : Value) (_ : World) => v = .int .i64 t), (fun (v : Value) (_ : World) => v = .int .i64 q), (fun (v : Value) (_ : World) => v = .bool (decide (4 ≤ (q : Int)))), (fun (v : Value) (_ : World) => v = .agg #[.int .i64 x, .int .i64 yy, .int .i64 t, .bool (decide (4 ≤ (q : Int)))])] [noF, noF, noF, noF, noF, noF, noF, noF, noF, noF, noF, noF, noF, noF, noF, noF] (by kernel_rfl) (by kernel_rfl) (by kernel_rfl) (by kernel_rfl) (by kernel_rfl) (by kernel_rfl) (by kernel_rfl) (by kernel_rfl) (fun _ _ _ _ h => h) ⟨Stays.pure _, Stays.pure _, Stays.pure _, Stays.pure _, Stays.pure _, Stays.pure _, Stays.pure _, Stays.pure _, Stays.pure _, Stays.pure _, Stays.pure _, Stays.pure _, Stays.pure _, Stays.pure _, Stays.pure _, Stays.pure _, True.intro⟩ ?steps ?done
  case steps =>
    simp only [List.take_succ_cons, List.take_zero]
    refine Steps.cons (fun (v : Value) (_ : World) => v = .int .i64 n) [] rfl (by kernel_rfl) rfl (by kernel_rfl) (fun y X ex0 hf K hK => ?_) ?_
    · clear hf
      have ex := (Ext.drw (Ext.refl _)).trans ex0
      refine Box.mk ?_
      simp only [fill, Act.put, Nat.reduceAdd, List.setIfInBounds_toArray, List.set_cons_zero, List.set_cons_succ] at hK ⊢
      go_simp
      exact hK.out _ _ rfl (Ext.refl _) (fun b hb => by cases hb)
    refine Steps.cons (fun (v : Value) (_ : World) => v = .pointer (some ⟨W.heap.size, 1, none⟩)) [] rfl (by kernel_rfl) rfl (by kernel_rfl) (fun y X ex0 hf K hK => ?_) ?_
    · clear hf
      have ex := (Ext.drw (Ext.refl _)).trans ex0
      refine Box.mk ?_
      simp only [fill, Act.put, Nat.reduceAdd, List.setIfInBounds_toArray, List.set_cons_zero, List.set_cons_succ] at hK ⊢
      go_simp
      exact hK.out _ _ rfl (Ext.refl _) (fun b hb => by cases hb)
    refine Steps.cons (fun (v : Value) (_ : World) => v = .int .i64 h) [1] rfl (by kernel_rfl) rfl (by kernel_rfl) (fun y X ex0 hf K hK => ?_) ?_
    · have h1 : ((fun (v : Value) (_ : World) => v = .pointer (some ⟨W.heap.size, 1, none⟩))) (y 1) X := hf.1
      clear hf
      have ex := (Ext.drw (Ext.refl _)).trans ex0
      refine Box.mk ?_
      simp only [fill, Act.put, Nat.reduceAdd, List.setIfInBounds_toArray, List.set_cons_zero, List.set_cons_succ, h1] at hK ⊢
      obtain ⟨z0, z1⟩ := C2.ext H1.out (by omega) ex
      go_simp
      exact hK.out _ _ rfl (Ext.refl _) (fun b hb => by cases hb)
    refine Steps.cons (fun (v : Value) (_ : World) => v = .int .i64 p) [0, 2] rfl (by kernel_rfl) rfl (by kernel_rfl) (fun y X ex0 hf K hK => ?_) ?_
    · have h0 : ((fun (v : Value) (_ : World) => v = .int .i64 n)) (y 0) X := hf.1
      have h2 : ((fun (v : Value) (_ : World) => v = .int .i64 h)) (y 2) X := hf.2.1
      clear hf
      have ex := (Ext.drw (Ext.refl _)).trans ex0
      refine Box.mk ?_
      simp only [fill, Act.put, Nat.reduceAdd, List.setIfInBounds_toArray, List.set_cons_zero, List.set_cons_succ, h0, h2] at hK ⊢
      have g1 := G1.out
      have nh := NH.out
      go_simp
      exact hK.out _ _ rfl (Ext.refl _) (fun b hb => by cases hb)
    refine Steps.cons (fun (v : Value) (_ : World) => v = .pointer (some ⟨W.heap.size, 0, none⟩)) [] rfl (by kernel_rfl) rfl (by kernel_rfl) (fun y X ex0 hf K hK => ?_) ?_
    · clear hf
      have ex := (Ext.drw (Ext.refl _)).trans ex0
      refine Box.mk ?_
      simp only [fill, Act.put, Nat.reduceAdd, List.setIfInBounds_toArray, List.set_cons_zero, List.set_cons_succ] at hK ⊢
      go_simp
      exact hK.out _ _ rfl (Ext.refl _) (fun b hb => by cases hb)
    refine Steps.cons (fun (v : Value) (_ : World) => v = .int .i64 w) [4] rfl (by kernel_rfl) rfl (by kernel_rfl) (fun y X ex0 hf K hK => ?_) ?_
    · have h4 : ((fun (v : Value) (_ : World) => v = .pointer (some ⟨W.heap.size, 0, none⟩))) (y 4) X := hf.1
      clear hf
      have ex := (Ext.drw (Ext.refl _)).trans ex0
      refine Box.mk ?_
      simp only [fill, Act.put, Nat.reduceAdd, List.setIfInBounds_toArray, List.set_cons_zero, List.set_cons_succ, h4] at hK ⊢
      obtain ⟨z0, z1⟩ := C2.ext H1.out (by omega) ex
      go_simp
      exact hK.out _ _ rfl (Ext.refl _) (fun b hb => by cases hb)
    refine Steps.cons (fun (v : Value) (_ : World) => v = .int .i64 x) [3, 5] rfl (by kernel_rfl) rfl (by kernel_rfl) (fun y X ex0 hf K hK => ?_) ?_
    · have h3 : ((fun (v : Value) (_ : World) => v = .int .i64 p)) (y 3) X := hf.1
      have h5 : ((fun (v : Value) (_ : World) => v = .int .i64 w)) (y 5) X := hf.2.1
      clear hf
      have ex := (Ext.drw (Ext.refl _)).trans ex0
      refine Box.mk ?_
      simp only [fill, Act.put, Nat.reduceAdd, List.setIfInBounds_toArray, List.set_cons_zero, List.set_cons_succ, h3, h5] at hK ⊢
      have g2 := G2.out
      have nw := NW.out
      go_simp
      exact hK.out _ _ rfl (Ext.refl _) (fun b hb => by cases hb)
    refine Steps.cons (fun (v : Value) (_ : World) => v = .int .i64 n) [] rfl (by kernel_rfl) rfl (by kernel_rfl) (fun y X ex0 hf K hK => ?_) ?_
    · clear hf
      have ex := (Ext.drw (Ext.refl _)).trans ex0
      refine Box.mk ?_
      simp only [fill, Act.put, Nat.reduceAdd, List.setIfInBounds_toArray, List.set_cons_zero, List.set_cons_succ] at hK ⊢
      go_simp
      exact hK.out _ _ rfl (Ext.refl _) (fun b hb => by cases hb)
    refine Steps.cons (fun (v : Value) (_ : World) => v = .pointer (some ⟨W.heap.size, 1, none⟩)) [] rfl (by kernel_rfl) rfl (by kernel_rfl) (fun y X ex0 hf K hK => ?_) ?_
    · clear hf
      have ex := (Ext.drw (Ext.refl _)).trans ex0
      refine Box.mk ?_
      simp only [fill, Act.put, Nat.reduceAdd, List.setIfInBounds_toArray, List.set_cons_zero, List.set_cons_succ] at hK ⊢
      go_simp
      exact hK.out _ _ rfl (Ext.refl _) (fun b hb => by cases hb)
    refine Steps.cons (fun (v : Value) (_ : World) => v = .int .i64 h) [8] rfl (by kernel_rfl) rfl (by kernel_rfl) (fun y X ex0 hf K hK => ?_) ?_
    · have h8 : ((fun (v : Value) (_ : World) => v = .pointer (some ⟨W.heap.size, 1, none⟩))) (y 8) X := hf.1
      clear hf
      have ex := (Ext.drw (Ext.refl _)).trans ex0
      refine Box.mk ?_
      simp only [fill, Act.put, Nat.reduceAdd, List.setIfInBounds_toArray, List.set_cons_zero, List.set_cons_succ, h8] at hK ⊢
      obtain ⟨z0, z1⟩ := C2.ext H1.out (by omega) ex
      go_simp
      exact hK.out _ _ rfl (Ext.refl _) (fun b hb => by cases hb)
    refine Steps.cons (fun (v : Value) (_ : World) => v = .int .i64 yy) [7, 9] rfl (by kernel_rfl) rfl (by kernel_rfl) (fun y X ex0 hf K hK => ?_) ?_
    · have h7 : ((fun (v : Value) (_ : World) => v = .int .i64 n)) (y 7) X := hf.1
      have h9 : ((fun (v : Value) (_ : World) => v = .int .i64 h)) (y 9) X := hf.2.1
      clear hf
      have ex := (Ext.drw (Ext.refl _)).trans ex0
      refine Box.mk ?_
      simp only [fill, Act.put, Nat.reduceAdd, List.setIfInBounds_toArray, List.set_cons_zero, List.set_cons_succ, h7, h9] at hK ⊢
      have g3 := G3.out
      have nh := NH.out
      go_simp
      exact hK.out _ _ rfl (Ext.refl _) (fun b hb => by cases hb)
    refine Steps.cons (fun (v : Value) (_ : World) => v = .int .i64 q) [] rfl (by kernel_rfl) rfl (by kernel_rfl) (fun y X ex0 hf K hK => ?_) ?_
    · clear hf
      have ex := (Ext.drw (Ext.refl _)).trans ex0
      refine Box.mk ?_
      simp only [fill, Act.put, Nat.reduceAdd, List.setIfInBounds_toArray, List.set_cons_zero, List.set_cons_succ] at hK ⊢
      go_simp
      exact hK.out _ _ rfl (Ext.refl _) (fun b hb => by cases hb)
    refine Steps.cons (fun (v : Value) (_ : World) => v = .int .i64 t) [11] rfl (by kernel_rfl) rfl (by kernel_rfl) (fun y X ex0 hf K hK => ?_) ?_
    · have h11 : ((fun (v : Value) (_ : World) => v = .int .i64 q)) (y 11) X := hf.1
      clear hf
      have ex := (Ext.drw (Ext.refl _)).trans ex0
      refine Box.mk ?_
      simp only [fill, Act.put, Nat.reduceAdd, List.setIfInBounds_toArray, List.set_cons_zero, List.set_cons_succ, h11] at hK ⊢
      have g4 := G4.out
      have g5 := G5.out
      go_simp
      exact hK.out _ _ rfl (Ext.refl _) (fun b hb => by cases hb)
    refine Steps.cons (fun (v : Value) (_ : World) => v = .int .i64 q) [] rfl (by kernel_rfl) rfl (by kernel_rfl) (fun y X ex0 hf K hK => ?_) ?_
    · clear hf
      have ex := (Ext.drw (Ext.refl _)).trans ex0
      refine Box.mk ?_
      simp only [fill, Act.put, Nat.reduceAdd, List.setIfInBounds_toArray, List.set_cons_zero, List.set_cons_succ] at hK ⊢
      go_simp
      exact hK.out _ _ rfl (Ext.refl _) (fun b hb => by cases hb)
    refine Steps.cons (fun (v : Value) (_ : World) => v = .bool (decide (4 ≤ (q : Int)))) [13] rfl (by kernel_rfl) rfl (by kernel_rfl) (fun y X ex0 hf K hK => ?_) ?_
    · have h13 : ((fun (v : Value) (_ : World) => v = .int .i64 q)) (y 13) X := hf.1
      clear hf
      have ex := (Ext.drw (Ext.refl _)).trans ex0
      refine Box.mk ?_
      simp only [fill, Act.put, Nat.reduceAdd, List.setIfInBounds_toArray, List.set_cons_zero, List.set_cons_succ, h13] at hK ⊢
      go_simp
      exact hK.out _ _ rfl (Ext.refl _) (fun b hb => by cases hb)
    refine Steps.cons (fun (v : Value) (_ : World) => v = .agg #[.int .i64 x, .int .i64 yy, .int .i64 t, .bool (decide (4 ≤ (q : Int)))]) [6, 10, 12, 14] rfl (by kernel_rfl) rfl (by kernel_rfl) (fun y X ex0 hf K hK => ?_) ?_
    · have h6 : ((fun (v : Value) (_ : World) => v = .int .i64 x)) (y 6) X := hf.1
      have h10 : ((fun (v : Value) (_ : World) => v = .int .i64 yy)) (y 10) X := hf.2.1
      have h12 : ((fun (v : Value) (_ : World) => v = .int .i64 t)) (y 12) X := hf.2.2.1
      have h14 : ((fun (v : Value) (_ : World) => v = .bool (decide (4 ≤ (q : Int))))) (y 14) X := hf.2.2.2.1
      clear hf
      have ex := (Ext.drw (Ext.refl _)).trans ex0
      refine Box.mk ?_
      simp only [fill, Act.put, Nat.reduceAdd, List.setIfInBounds_toArray, List.set_cons_zero, List.set_cons_succ, h6, h10, h12, h14] at hK ⊢
      go_simp
      exact hK.out _ _ rfl (Ext.refl _) (fun b hb => by cases hb)
    exact Steps.nil
  case done =>
    intro y X ex hf hlt hsep
    have h0 : ((fun (v : Value) (_ : World) => v = .int .i64 n)) (y 0) X := hf.1
    have h1 : ((fun (v : Value) (_ : World) => v = .pointer (some ⟨W.heap.size, 1, none⟩))) (y 1) X := hf.2.1
    have h2 : ((fun (v : Value) (_ : World) => v = .int .i64 h)) (y 2) X := hf.2.2.1
    have h3 : ((fun (v : Value) (_ : World) => v = .int .i64 p)) (y 3) X := hf.2.2.2.1
    have h4 : ((fun (v : Value) (_ : World) => v = .pointer (some ⟨W.heap.size, 0, none⟩))) (y 4) X := hf.2.2.2.2.1
    have h5 : ((fun (v : Value) (_ : World) => v = .int .i64 w)) (y 5) X := hf.2.2.2.2.2.1
    have h6 : ((fun (v : Value) (_ : World) => v = .int .i64 x)) (y 6) X := hf.2.2.2.2.2.2.1
    have h7 : ((fun (v : Value) (_ : World) => v = .int .i64 n)) (y 7) X := hf.2.2.2.2.2.2.2.1
    have h8 : ((fun (v : Value) (_ : World) => v = .pointer (some ⟨W.heap.size, 1, none⟩))) (y 8) X := hf.2.2.2.2.2.2.2.2.1
    have h9 : ((fun (v : Value) (_ : World) => v = .int .i64 h)) (y 9) X := hf.2.2.2.2.2.2.2.2.2.1
    have h10 : ((fun (v : Value) (_ : World) => v = .int .i64 yy)) (y 10) X := hf.2.2.2.2.2.2.2.2.2.2.1
    have h11 : ((fun (v : Value) (_ : World) => v = .int .i64 q)) (y 11) X := hf.2.2.2.2.2.2.2.2.2.2.2.1
    have h12 : ((fun (v : Value) (_ : World) => v = .int .i64 t)) (y 12) X := hf.2.2.2.2.2.2.2.2.2.2.2.2.1
    have h13 : ((fun (v : Value) (_ : World) => v = .int .i64 q)) (y 13) X := hf.2.2.2.2.2.2.2.2.2.2.2.2.2.1
    have h14 : ((fun (v : Value) (_ : World) => v = .bool (decide (4 ≤ (q : Int))))) (y 14) X := hf.2.2.2.2.2.2.2.2.2.2.2.2.2.2.1
    have h15 : ((fun (v : Value) (_ : World) => v = .agg #[.int .i64 x, .int .i64 yy, .int .i64 t, .bool (decide (4 ≤ (q : Int)))])) (y 15) X := hf.2.2.2.2.2.2.2.2.2.2.2.2.2.2.2.1
    clear hf
    clear hsep hlt
    refine Box.mk ?_
    simp only [List.drop_succ_cons, List.drop_zero, fill, Act.put, Nat.reduceAdd, List.setIfInBounds_toArray, List.set_cons_zero, List.set_cons_succ, h0, h1, h2, h3, h4, h5, h6, h7, h8, h9, h10, h11, h12, h13, h14, h15]
    clear h0 h1 h2 h3 h4 h5 h6 h7 h8 h9 h10 h11 h12 h13 h14 h15
    have hb2 := H2.out.ext ex
    have f2 := hb2.free
    obtain ⟨c0, c1, c2, c3⟩ := hb2.q4
    have EX := Lib.hid ex; clear ex hb2
    go_wp2_with fail
    refine NoPanic.normal ?_
    go_wp2_with fail
    refine bodyPost_ret (v := .agg #[.int .i64 x, .int .i64 yy, .int .i64 t, .bool (decide (4 ≤ (q : Int)))]) (by simp [results, Try.results85, go_sem, c0, c1, c2, c3]) rfl ⟨rfl, ?_⟩
    exact (BB.out.trans EX.out).sc4 (by omega) _ _ _ _

theorem numbered_any (w h n : Nat) (W : World) (hs : okSize w h = true) (hn : n < pos w h 2 0 0 0) :
    Calls Try.prog 85 #[.agg #[.int .i64 w, .int .i64 h], .int .i64 n] W fun e W' => e = .returned (.agg #[.int .i64 (dec w h n).dx, .int .i64 (dec w h n).dy, .int .i64 (dec w h n).t, .bool (dec w h n).f]) ∧ Ext W W' := by
  rw [okSize_iff] at hs
  have h5 := pos2_bd (w := w) (h := h) (by omega) (by omega)
  have hn' : n < 8 * w * h := by simpa [pos] using hn
  have h1 : n / h < 8 * w := Nat.div_lt_of_lt_mul (by rw [Nat.mul_comm]; exact hn')
  have h2 : n / h / w < 8 := Nat.div_lt_of_lt_mul (by rw [Nat.mul_comm]; exact h1)
  have e1 : n / h / w = n / (w * h) := by rw [Nat.div_div_eq_div_mul, Nat.mul_comm]
  refine (numbered_c w h n (n / h / w) W (by omega) (by omega) (by omega) e1 h2 _ _ _ _ rfl rfl rfl rfl).mono ?_
  rintro e W' ⟨rfl, hx⟩
  refine ⟨?_, hx⟩
  have e2 : decide (4 ≤ ((n / h / w : Nat) : Int)) = decide (n / h / w / 4 = 1) := by
    generalize n / h / w = q at *
    rw [Bool.eq_iff_iff]; simp; omega
  rw [e2]
  rfl
end Go.Proofs.Ytgjanbgehbpciaa
