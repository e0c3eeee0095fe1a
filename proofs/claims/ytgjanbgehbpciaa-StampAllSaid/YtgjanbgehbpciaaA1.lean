/- Walks: the reference's After. -/
import Derived.Test.YtgjanbgehbpciaaPool
import Derived.Test.YtgjanbgehbpciaaV6
import Derived.Test.YtgjanbgehbpciaaV11
namespace Go.Proofs.Ytgjanbgehbpciaa
open Go.RowKit

/-- behind the first statement: two matrices -/
def RC1 (X : World) (af bf : Bool) (n k : Nat) (s9 s10 : Value) (wx : World) : Prop :=
  ∃ g9 g10, s9 = .pointer (some ⟨g9, 0, none⟩) ∧ s10 = .pointer (some ⟨g10, 0, none⟩) ∧ Q4 wx g9 (.int .i64 (la af n)) (.int .i64 (lb af n)) (.int .i64 (lc af n)) (.int .i64 (ld af n)) ∧ Q4 wx g10 (.int .i64 (la bf k)) (.int .i64 (lb bf k)) (.int .i64 (lc bf k)) (.int .i64 (ld bf k)) ∧ g9 < wx.heap.size ∧ g10 < wx.heap.size ∧ Ext X wx
/-- two numbers -/
def RC2 (X : World) (x y : Int) (s t : Value) (wx : World) : Prop := s = .int .i64 x ∧ t = .int .i64 y ∧ Ext X wx
/-- the matrix of both -/
def RC5 (X : World) (x y x' y' : Int) (s : Value) (wx : World) : Prop := ∃ g, s = .pointer (some ⟨g, 0, none⟩) ∧ Q4 wx g (.int .i64 x) (.int .i64 x') (.int .i64 y) (.int .i64 y') ∧ g < wx.heap.size ∧ X.heap.size ≤ g ∧ Ext X wx
/-- block g holds these four cells and may be written -/
def B4 (W : World) (g : Nat) (a b c d : Value) : Prop := ∃ t, W.heap[g]? = some (.cells #[a, b, c, d] t (0, 0))
theorem B4.lt {W : World} {g : Nat} {a b c d : Value} (h : B4 W g a b c d) : g < W.heap.size := by obtain ⟨t, h⟩ := h; exact (Array.getElem?_eq_some_iff.1 h).1
theorem B4.ext {X Y : World} {g : Nat} {a b c d : Value} (h : B4 X g a b c d) (e : Ext X Y) : B4 Y g a b c d := by
  have hl := h.lt
  obtain ⟨t, h⟩ := h
  exact ⟨t, (Below.block e g hl).trans h⟩
theorem B4.q4 {W : World} {g : Nat} {a b c d : Value} (h : B4 W g a b c d) : Q4 W g a b c d := by
  obtain ⟨t, h⟩ := h
  exact ⟨cell_of_row W g 0 _ t (0, 0) h, cell_of_row W g 1 _ t (0, 0) h, cell_of_row W g 2 _ t (0, 0) h, cell_of_row W g 3 _ t (0, 0) h⟩
theorem B4.free {W : World} {g : Nat} {a b c d : Value} (h : B4 W g a b c d) : ∀ o, W.frozen? ⟨g, o, none⟩ = false := by
  obtain ⟨t, h⟩ := h
  exact fun o => by simp [World.frozen?, h]
theorem B4.s0 {W : World} {g : Nat} {a b c d : Value} (h : B4 W g a b c d) (x : Value) : B4 (W.setCell ⟨g, 0, none⟩ x) g x b c d := by
  obtain ⟨t, h⟩ := h
  exact ⟨t, by simp [World.setCell, Array.getElem?_modify, h]⟩
theorem B4.s1 {W : World} {g : Nat} {a b c d : Value} (h : B4 W g a b c d) (x : Value) : B4 (W.setCell ⟨g, 1, none⟩ x) g a x c d := by
  obtain ⟨t, h⟩ := h
  exact ⟨t, by simp [World.setCell, Array.getElem?_modify, h]⟩
theorem B4.s2 {W : World} {g : Nat} {a b c d : Value} (h : B4 W g a b c d) (x : Value) : B4 (W.setCell ⟨g, 2, none⟩ x) g a b x d := by
  obtain ⟨t, h⟩ := h
  exact ⟨t, by simp [World.setCell, Array.getElem?_modify, h]⟩
theorem B4.s3 {W : World} {g : Nat} {a b c d : Value} (h : B4 W g a b c d) (x : Value) : B4 (W.setCell ⟨g, 3, none⟩ x) g a b c x := by
  obtain ⟨t, h⟩ := h
  exact ⟨t, by simp [World.setCell, Array.getElem?_modify, h]⟩
/-- a matrix under way -/
def RCB (X : World) (g : Nat) (a b c d : Int) (s : Value) (wx : World) : Prop := s = .pointer (some ⟨g, 0, none⟩) ∧ B4 wx g (.int .i64 a) (.int .i64 b) (.int .i64 c) (.int .i64 d) ∧ Ext X wx
def eqM (f g : Bool) (n m : Nat) : Bool := decide (la f n = la g m) && (decide (lb f n = lb g m) && (decide (lc f n = lc g m) && decide (ld f n = ld g m)))
theorem eqM_is (f g : Bool) {n m : Nat} (h : n < 4) (h' : m < 4) : eqM f g n m = decide (f = g ∧ n = m) := by
  rw [Bool.eq_iff_iff, decide_eq_true_iff]
  unfold eqM
  simp only [Bool.and_eq_true, decide_eq_true_eq]
  constructor
  · exact l_ne h h'
  · rintro ⟨rfl, rfl⟩
    exact ⟨rfl, rfl, rfl, rfl⟩
theorem if4 {α : Type} (A B C D : Prop) [Decidable A] [Decidable B] [Decidable C] [Decidable D] (g : Bool → α) :
    (if A then if B then if C then if D then g true else g false else g false else g false else g false) = g (decide (A ∧ B ∧ C ∧ D)) := by
  by_cases a : A <;> by_cases b : B <;> by_cases c : C <;> by_cases d : D <;> simp [a, b, c, d]
/-- turns and flip found so far -/
def stD (fg : Bool) (tt i j : Nat) : Bool := decide (fg.toNat < i) || (decide (fg.toNat = i) && decide (tt < j))
def stT (fg : Bool) (tt i j : Nat) : Int := if stD fg tt i j then tt else 0
def stF (fg : Bool) (tt i j : Nat) : Bool := if stD fg tt i j then fg else false
theorem st0T (fg : Bool) (tt : Nat) : stT fg tt 0 0 = 0 := by simp [stT, stD]
theorem st0F (fg : Bool) (tt : Nat) : stF fg tt 0 0 = false := by simp [stF, stD]
theorem stD_next {fg : Bool} {tt i : Nat} (h : tt < 4) : stD fg tt i 4 = stD fg tt (i + 1) 0 := by
  rw [Bool.eq_iff_iff]; simp [stD]; omega
theorem stD_end (fg : Bool) (tt : Nat) : stD fg tt 2 0 = true := by cases fg <;> simp [stD]
theorem stD_hit {fg f : Bool} {tt j : Nat} (h : f = fg ∧ j = tt) : stD fg tt f.toNat (j + 1) = true := by
  obtain ⟨rfl, rfl⟩ := h; simp [stD]
theorem stD_miss {fg f : Bool} {tt j : Nat} (h : ¬ (f = fg ∧ j = tt)) : stD fg tt f.toNat (j + 1) = stD fg tt f.toNat j := by
  rw [Bool.eq_iff_iff]
  by_cases e : f = fg
  · subst e; simp at h; simp [stD]; omega
  · cases f <;> cases fg <;> simp at e <;> simp [stD]
theorem stT_hit {fg f : Bool} {tt j : Nat} (h : f = fg ∧ j = tt) : stT fg tt f.toNat (j + 1) = j := by unfold stT; rw [stD_hit h, if_pos rfl, h.2]
theorem stF_hit {fg f : Bool} {tt j : Nat} (h : f = fg ∧ j = tt) : stF fg tt f.toNat (j + 1) = f := by unfold stF; rw [stD_hit h, if_pos rfl, h.1]
theorem stT_miss {fg f : Bool} {tt j : Nat} (h : ¬ (f = fg ∧ j = tt)) : stT fg tt f.toNat (j + 1) = stT fg tt f.toNat j := by unfold stT; rw [stD_miss h]
theorem stF_miss {fg f : Bool} {tt j : Nat} (h : ¬ (f = fg ∧ j = tt)) : stF fg tt f.toNat (j + 1) = stF fg tt f.toNat j := by unfold stF; rw [stD_miss h]
theorem stT_next {fg : Bool} {tt i : Nat} (h : tt < 4) : stT fg tt i 4 = stT fg tt (i + 1) 0 := by unfold stT; rw [stD_next h]
theorem stF_next {fg : Bool} {tt i : Nat} (h : tt < 4) : stF fg tt i 4 = stF fg tt (i + 1) 0 := by unfold stF; rw [stD_next h]
theorem stT_end (fg : Bool) (tt : Nat) : stT fg tt 2 0 = tt := by unfold stT; rw [stD_end, if_pos rfl]
theorem stF_end (fg : Bool) (tt : Nat) : stF fg tt 2 0 = fg := by unfold stF; rw [stD_end, if_pos rfl]
/-- the answer's block -/
def RC8 (X : World) (x y : Int) (s : Value) (wx : World) : Prop := ∃ g t, s = .pointer (some ⟨g, 0, none⟩) ∧ wx.heap[g]? = some (.cells #[.int .i64 x, .int .i64 y, .int .i64 0, .bool false] t (0, 0)) ∧ X.heap.size ≤ g ∧ Ext X wx
theorem spin_in {f : Bool} {n : Nat} (h : n < 4) {x y B : Int} (hx : -B ≤ x) (hx' : x ≤ B) (hy : -B ≤ y) (hy' : y ≤ B) : -B ≤ (spin f n (x, y)).1 ∧ (spin f n (x, y)).1 ≤ B ∧ -B ≤ (spin f n (x, y)).2 ∧ (spin f n (x, y)).2 ≤ B := by
  have := spin_bd (f := f) (t := (n : Int)) (by omega) (by omega) hx hx' hy hy'
  simpa using this

set_option maxHeartbeats 4000000 in
set_option maxRecDepth 100000 in
theorem afterR_c (w h adx ady bdx bdy : Int) (n k : Nat) (af bf : Bool) (W : World) (hw1 : 1 ≤ w) (hw8 : w ≤ 8) (hh1 : 1 ≤ h) (hh8 : h ≤ 8) (hn : n < 4) (hk : k < 4)
    (a1 : 0 ≤ adx) (a2 : adx ≤ 8) (a3 : 0 ≤ ady) (a4 : ady ≤ 8) (b1 : 0 ≤ bdx) (b2 : bdx ≤ 8) (b3 : 0 ≤ bdy) (b4 : bdy ≤ 8) (tt : Nat) (htt : tt < 4) (fg : Bool)
    (hc1 : (spin af n ((spin bf k (1, 0)).1, (spin bf k (1, 0)).2)).1 = la fg tt ∧ (spin af n ((spin bf k (1, 0)).1, (spin bf k (1, 0)).2)).2 = lc fg tt)
    (hc2 : (spin af n ((spin bf k (0, 1)).1, (spin bf k (0, 1)).2)).1 = lb fg tt ∧ (spin af n ((spin bf k (0, 1)).1, (spin bf k (0, 1)).2)).2 = ld fg tt) :
    Calls Try.prog 28 #[.int .i64 w, .int .i64 h, .agg #[.int .i64 adx, .int .i64 ady, .int .i64 n, .bool af], .agg #[.int .i64 bdx, .int .i64 bdy, .int .i64 k, .bool bf]] W fun e W' => e = .returned (.agg #[.int .i64 (((spin af n (bdx, bdy)).1 + adx) % w), .int .i64 (((spin af n (bdx, bdy)).2 + ady) % h), .int .i64 tt, .bool fg]) ∧ Ext W W' := by
  have C1 := Lib.hid hc1; have C2 := Lib.hid hc2; clear hc1 hc2
  go_enter Try.func28, Try.ntmps28
  go_upto_region 1 with fail
  have ha : Q4 (((W.alloc (.cells #[.int .i64 adx, .int .i64 ady, .int .i64 n, .bool af] 26)).alloc (.cells #[.int .i64 bdx, .int .i64 bdy, .int .i64 k, .bool bf] 26)).alloc (.cells #[.int .i64 0, .int .i64 0, .int .i64 0, .bool false] 26)) W.heap.size (.int .i64 adx) (.int .i64 ady) (.int .i64 n) (.bool af) := q4_a1 W _ _ _ _ 26 (.cells #[.int .i64 bdx, .int .i64 bdy, .int .i64 k, .bool bf] 26) (.cells #[.int .i64 0, .int .i64 0, .int .i64 0, .bool false] 26)
  have hb : Q4 (((W.alloc (.cells #[.int .i64 adx, .int .i64 ady, .int .i64 n, .bool af] 26)).alloc (.cells #[.int .i64 bdx, .int .i64 bdy, .int .i64 k, .bool bf] 26)).alloc (.cells #[.int .i64 0, .int .i64 0, .int .i64 0, .bool false] 26)) (W.heap.size + 1) (.int .i64 bdx) (.int .i64 bdy) (.int .i64 k) (.bool bf) := q4_a2 W _ _ _ _ 26 (.cells #[.int .i64 adx, .int .i64 ady, .int .i64 n, .bool af] 26) (.cells #[.int .i64 0, .int .i64 0, .int .i64 0, .bool false] 26)
  have h8 : (((W.alloc (.cells #[.int .i64 adx, .int .i64 ady, .int .i64 n, .bool af] 26)).alloc (.cells #[.int .i64 bdx, .int .i64 bdy, .int .i64 k, .bool bf] 26)).alloc (.cells #[.int .i64 0, .int .i64 0, .int .i64 0, .bool false] 26)).heap[W.heap.size + 1 + 1]? = some (.cells #[.int .i64 0, .int .i64 0, .int .i64 0, .bool false] 26) := by
    have := heap_alloc_new ((W.alloc (.cells #[.int .i64 adx, .int .i64 ady, .int .i64 n, .bool af] 26)).alloc (.cells #[.int .i64 bdx, .int .i64 bdy, .int .i64 k, .bool bf] 26)) (.cells #[.int .i64 0, .int .i64 0, .int .i64 0, .bool false] 26)
    simpa using this
  have bb := al3 W (.cells #[.int .i64 adx, .int .i64 ady, .int .i64 n, .bool af] 26) (.cells #[.int .i64 bdx, .int .i64 bdy, .int .i64 k, .bool bf] 26) (.cells #[.int .i64 0, .int .i64 0, .int .i64 0, .bool false] 26)
  have zz : (((W.alloc (.cells #[.int .i64 adx, .int .i64 ady, .int .i64 n, .bool af] 26)).alloc (.cells #[.int .i64 bdx, .int .i64 bdy, .int .i64 k, .bool bf] 26)).alloc (.cells #[.int .i64 0, .int .i64 0, .int .i64 0, .bool false] 26)).heap.size = W.heap.size + 1 + 1 + 1 := by simp
  generalize (((W.alloc (.cells #[.int .i64 adx, .int .i64 ady, .int .i64 n, .bool af] 26)).alloc (.cells #[.int .i64 bdx, .int .i64 bdy, .int .i64 k, .bool bf] 26)).alloc (.cells #[.int .i64 0, .int .i64 0, .int .i64 0, .bool false] 26)) = W3 at *
  have zle : W.heap.size + 1 + 1 + 1 ≤ W3.heap.size := by omega
  have BB : Hid (Ext W W3) := Lib.hid bb; have HA := Lib.hid ha; have HB := Lib.hid hb; have H8 := Lib.hid h8
  clear bb zz ha hb h8
  go_cut [9, 10] from 22 to 31 (fun s9 s10 wx => RC1 W3 af bf n k s9 s10 wx)
  case first =>
    refine wp_region_noPanic ?_
    refine wp_pool 12 [some 22, some 23, some 24, some 25, some 26, some 27, some 28, some 29, some 30, some 31, some 9, some 10] [] [10, 11] [(fun (v : Value) (_ : World) => v = .pointer (some ⟨W.heap.size, 3, none⟩)), (fun (v : Value) (_ : World) => v = .bool af), (fun (v : Value) (_ : World) => v = .pointer (some ⟨W.heap.size, 2, none⟩)), (fun (v : Value) (_ : World) => v = .int .i64 n), (fun (v : Value) (_ : World) => v = .agg #[.int .i64 (la af n), .int .i64 (lb af n), .int .i64 (lc af n), .int .i64 (ld af n)]), (fun (v : Value) (_ : World) => v = .pointer (some ⟨W.heap.size + 1, 3, none⟩)), (fun (v : Value) (_ : World) => v = .bool bf), (fun (v : Value) (_ : World) => v = .pointer (some ⟨W.heap.size + 1, 2, none⟩)), (fun (v : Value) (_ : World) => v = .int .i64 k), (fun (v : Value) (_ : World) => v = .agg #[.int .i64 (la bf k), .int .i64 (lb bf k), .int .i64 (lc bf k), .int .i64 (ld bf k)]), (fun (v : Value) (X : World) => ∃ g, v = .pointer (some ⟨g, 0, none⟩) ∧ W3.heap.size ≤ g ∧ QB X g), (fun (v : Value) (X : World) => ∃ g, v = .pointer (some ⟨g, 0, none⟩) ∧ W3.heap.size ≤ g ∧ QB X g)] [noF, noF, noF, noF, noF, noF, noF, noF, noF, noF, ptrF, ptrF] (by kernel_rfl) (by kernel_rfl) (by kernel_rfl) (by kernel_rfl) (by kernel_rfl) (by kernel_rfl) (by kernel_rfl) (by kernel_rfl) (fun _ _ _ _ h => h) ⟨Stays.pure _, Stays.pure _, Stays.pure _, Stays.pure _, Stays.pure _, Stays.pure _, Stays.pure _, Stays.pure _, Stays.pure _, Stays.pure _, (fun _ _ _ e ⟨g, h1, h2, h3⟩ => ⟨g, h1, h2, h3.ext e⟩), (fun _ _ _ e ⟨g, h1, h2, h3⟩ => ⟨g, h1, h2, h3.ext e⟩), True.intro⟩ ?steps ?done
    case steps =>
      simp only [List.take_succ_cons, List.take_zero]
      refine Steps.cons (fun (v : Value) (_ : World) => v = .pointer (some ⟨W.heap.size, 3, none⟩)) [] rfl (by kernel_rfl) rfl (by kernel_rfl) (fun y X ex0 hf K hK => ?_) ?_
      · clear hf
        have ex := (Ext.drw (Ext.refl _)).trans ex0
        refine Box.mk ?_
        simp only [fill, Act.put, Nat.reduceAdd, List.setIfInBounds_toArray, List.set_cons_zero, List.set_cons_succ] at hK ⊢
        go_simp
        exact hK.out _ _ rfl (Ext.refl _) (fun b hb => by cases hb)
      refine Steps.cons (fun (v : Value) (_ : World) => v = .bool af) [0] rfl (by kernel_rfl) rfl (by kernel_rfl) (fun y X ex0 hf K hK => ?_) ?_
      · have h0 : ((fun (v : Value) (_ : World) => v = .pointer (some ⟨W.heap.size, 3, none⟩))) (y 0) X := hf.1
        clear hf
        have ex := (Ext.drw (Ext.refl _)).trans ex0
        refine Box.mk ?_
        simp only [fill, Act.put, Nat.reduceAdd, List.setIfInBounds_toArray, List.set_cons_zero, List.set_cons_succ, h0] at hK ⊢
        obtain ⟨q0, q1, q2, q3⟩ := Q4.ext HA.out (by omega) ex
        go_simp
        exact hK.out _ _ rfl (Ext.refl _) (fun b hb => by cases hb)
      refine Steps.cons (fun (v : Value) (_ : World) => v = .pointer (some ⟨W.heap.size, 2, none⟩)) [] rfl (by kernel_rfl) rfl (by kernel_rfl) (fun y X ex0 hf K hK => ?_) ?_
      · clear hf
        have ex := (Ext.drw (Ext.refl _)).trans ex0
        refine Box.mk ?_
        simp only [fill, Act.put, Nat.reduceAdd, List.setIfInBounds_toArray, List.set_cons_zero, List.set_cons_succ] at hK ⊢
        go_simp
        exact hK.out _ _ rfl (Ext.refl _) (fun b hb => by cases hb)
      refine Steps.cons (fun (v : Value) (_ : World) => v = .int .i64 n) [2] rfl (by kernel_rfl) rfl (by kernel_rfl) (fun y X ex0 hf K hK => ?_) ?_
      · have h2 : ((fun (v : Value) (_ : World) => v = .pointer (some ⟨W.heap.size, 2, none⟩))) (y 2) X := hf.1
        clear hf
        have ex := (Ext.drw (Ext.refl _)).trans ex0
        refine Box.mk ?_
        simp only [fill, Act.put, Nat.reduceAdd, List.setIfInBounds_toArray, List.set_cons_zero, List.set_cons_succ, h2] at hK ⊢
        obtain ⟨q0, q1, q2, q3⟩ := Q4.ext HA.out (by omega) ex
        go_simp
        exact hK.out _ _ rfl (Ext.refl _) (fun b hb => by cases hb)
      refine Steps.cons (fun (v : Value) (_ : World) => v = .agg #[.int .i64 (la af n), .int .i64 (lb af n), .int .i64 (lc af n), .int .i64 (ld af n)]) [1, 3] rfl (by kernel_rfl) rfl (by kernel_rfl) (fun y X ex0 hf K hK => ?_) ?_
      · have h1 : ((fun (v : Value) (_ : World) => v = .bool af)) (y 1) X := hf.1
        have h3 : ((fun (v : Value) (_ : World) => v = .int .i64 n)) (y 3) X := hf.2.1
        clear hf
        have ex := (Ext.drw (Ext.refl _)).trans ex0
        refine Box.mk ?_
        simp only [fill, Act.put, Nat.reduceAdd, List.setIfInBounds_toArray, List.set_cons_zero, List.set_cons_succ, h1, h3] at hK ⊢
        go_simp
        refine (turned_any af n _ hn).mono ?_
        rintro e V ⟨rfl, hb⟩
        try go_wp2_with fail
        exact hK.out _ _ rfl hb (fun b hb => by cases hb)
      refine Steps.cons (fun (v : Value) (_ : World) => v = .pointer (some ⟨W.heap.size + 1, 3, none⟩)) [] rfl (by kernel_rfl) rfl (by kernel_rfl) (fun y X ex0 hf K hK => ?_) ?_
      · clear hf
        have ex := (Ext.drw (Ext.refl _)).trans ex0
        refine Box.mk ?_
        simp only [fill, Act.put, Nat.reduceAdd, List.setIfInBounds_toArray, List.set_cons_zero, List.set_cons_succ] at hK ⊢
        go_simp
        exact hK.out _ _ rfl (Ext.refl _) (fun b hb => by cases hb)
      refine Steps.cons (fun (v : Value) (_ : World) => v = .bool bf) [5] rfl (by kernel_rfl) rfl (by kernel_rfl) (fun y X ex0 hf K hK => ?_) ?_
      · have h5 : ((fun (v : Value) (_ : World) => v = .pointer (some ⟨W.heap.size + 1, 3, none⟩))) (y 5) X := hf.1
        clear hf
        have ex := (Ext.drw (Ext.refl _)).trans ex0
        refine Box.mk ?_
        simp only [fill, Act.put, Nat.reduceAdd, List.setIfInBounds_toArray, List.set_cons_zero, List.set_cons_succ, h5] at hK ⊢
        obtain ⟨q0, q1, q2, q3⟩ := Q4.ext HB.out (by omega) ex
        go_simp
        exact hK.out _ _ rfl (Ext.refl _) (fun b hb => by cases hb)
      refine Steps.cons (fun (v : Value) (_ : World) => v = .pointer (some ⟨W.heap.size + 1, 2, none⟩)) [] rfl (by kernel_rfl) rfl (by kernel_rfl) (fun y X ex0 hf K hK => ?_) ?_
      · clear hf
        have ex := (Ext.drw (Ext.refl _)).trans ex0
        refine Box.mk ?_
        simp only [fill, Act.put, Nat.reduceAdd, List.setIfInBounds_toArray, List.set_cons_zero, List.set_cons_succ] at hK ⊢
        go_simp
        exact hK.out _ _ rfl (Ext.refl _) (fun b hb => by cases hb)
      refine Steps.cons (fun (v : Value) (_ : World) => v = .int .i64 k) [7] rfl (by kernel_rfl) rfl (by kernel_rfl) (fun y X ex0 hf K hK => ?_) ?_
      · have h7 : ((fun (v : Value) (_ : World) => v = .pointer (some ⟨W.heap.size + 1, 2, none⟩))) (y 7) X := hf.1
        clear hf
        have ex := (Ext.drw (Ext.refl _)).trans ex0
        refine Box.mk ?_
        simp only [fill, Act.put, Nat.reduceAdd, List.setIfInBounds_toArray, List.set_cons_zero, List.set_cons_succ, h7] at hK ⊢
        obtain ⟨q0, q1, q2, q3⟩ := Q4.ext HB.out (by omega) ex
        go_simp
        exact hK.out _ _ rfl (Ext.refl _) (fun b hb => by cases hb)
      refine Steps.cons (fun (v : Value) (_ : World) => v = .agg #[.int .i64 (la bf k), .int .i64 (lb bf k), .int .i64 (lc bf k), .int .i64 (ld bf k)]) [6, 8, 4] rfl (by kernel_rfl) rfl (by kernel_rfl) (fun y X ex0 hf K hK => ?_) ?_
      · have h6 : ((fun (v : Value) (_ : World) => v = .bool bf)) (y 6) X := hf.1
        have h8 : ((fun (v : Value) (_ : World) => v = .int .i64 k)) (y 8) X := hf.2.1
        have h4 : ((fun (v : Value) (_ : World) => v = .agg #[.int .i64 (la af n), .int .i64 (lb af n), .int .i64 (lc af n), .int .i64 (ld af n)])) (y 4) X := hf.2.2.1
        clear hf
        have ex := (Ext.drw (Ext.refl _)).trans ex0
        refine Box.mk ?_
        simp only [fill, Act.put, Nat.reduceAdd, List.setIfInBounds_toArray, List.set_cons_zero, List.set_cons_succ, h6, h8, h4] at hK ⊢
        go_simp
        refine (turned_any bf k _ hk).mono ?_
        rintro e V ⟨rfl, hb⟩
        try go_wp2_with fail
        exact hK.out _ _ rfl hb (fun b hb => by cases hb)
      refine Steps.cons (fun (v : Value) (X : World) => ∃ g, v = .pointer (some ⟨g, 0, none⟩) ∧ W3.heap.size ≤ g ∧ QB X g) [] rfl (by kernel_rfl) rfl (by kernel_rfl) (fun y X ex0 hf K hK => ?_) ?_
      · clear hf
        have ex := (Ext.drw (Ext.refl _)).trans ex0
        refine Box.mk ?_
        simp only [fill, Act.put, Nat.reduceAdd, List.setIfInBounds_toArray, List.set_cons_zero, List.set_cons_succ] at hK ⊢
        go_simp
        exact hK.out _ _ ⟨X.heap.size, rfl, ex.size, QB.new X (.int .i64 0) (.int .i64 0) (.int .i64 0) (.int .i64 0) 92⟩ (Ext.alc (Ext.refl X) (.cells #[.int .i64 0, .int .i64 0, .int .i64 0, .int .i64 0] 92)) (New.ptr (Nat.le_refl _) (by simp))
      refine Steps.cons (fun (v : Value) (X : World) => ∃ g, v = .pointer (some ⟨g, 0, none⟩) ∧ W3.heap.size ≤ g ∧ QB X g) [] rfl (by kernel_rfl) rfl (by kernel_rfl) (fun y X ex0 hf K hK => ?_) ?_
      · clear hf
        have ex := (Ext.drw (Ext.refl _)).trans ex0
        refine Box.mk ?_
        simp only [fill, Act.put, Nat.reduceAdd, List.setIfInBounds_toArray, List.set_cons_zero, List.set_cons_succ] at hK ⊢
        go_simp
        exact hK.out _ _ ⟨X.heap.size, rfl, ex.size, QB.new X (.int .i64 0) (.int .i64 0) (.int .i64 0) (.int .i64 0) 92⟩ (Ext.alc (Ext.refl X) (.cells #[.int .i64 0, .int .i64 0, .int .i64 0, .int .i64 0] 92)) (New.ptr (Nat.le_refl _) (by simp))
      exact Steps.nil
    case done =>
      intro y X ex hf hlt hsep
      have h0 : ((fun (v : Value) (_ : World) => v = .pointer (some ⟨W.heap.size, 3, none⟩))) (y 0) X := hf.1
      have h1 : ((fun (v : Value) (_ : World) => v = .bool af)) (y 1) X := hf.2.1
      have h2 : ((fun (v : Value) (_ : World) => v = .pointer (some ⟨W.heap.size, 2, none⟩))) (y 2) X := hf.2.2.1
      have h3 : ((fun (v : Value) (_ : World) => v = .int .i64 n)) (y 3) X := hf.2.2.2.1
      have h4 : ((fun (v : Value) (_ : World) => v = .agg #[.int .i64 (la af n), .int .i64 (lb af n), .int .i64 (lc af n), .int .i64 (ld af n)])) (y 4) X := hf.2.2.2.2.1
      have h5 : ((fun (v : Value) (_ : World) => v = .pointer (some ⟨W.heap.size + 1, 3, none⟩))) (y 5) X := hf.2.2.2.2.2.1
      have h6 : ((fun (v : Value) (_ : World) => v = .bool bf)) (y 6) X := hf.2.2.2.2.2.2.1
      have h7 : ((fun (v : Value) (_ : World) => v = .pointer (some ⟨W.heap.size + 1, 2, none⟩))) (y 7) X := hf.2.2.2.2.2.2.2.1
      have h8 : ((fun (v : Value) (_ : World) => v = .int .i64 k)) (y 8) X := hf.2.2.2.2.2.2.2.2.1
      have h9 : ((fun (v : Value) (_ : World) => v = .agg #[.int .i64 (la bf k), .int .i64 (lb bf k), .int .i64 (lc bf k), .int .i64 (ld bf k)])) (y 9) X := hf.2.2.2.2.2.2.2.2.2.1
      have hh10 : ((fun (v : Value) (X : World) => ∃ g, v = .pointer (some ⟨g, 0, none⟩) ∧ W3.heap.size ≤ g ∧ QB X g)) (y 10) X := hf.2.2.2.2.2.2.2.2.2.2.1
      refine Exists.elim hh10 (fun g10 hx10_0 => ?_)
      have h10 := hx10_0.1
      have z10 := hx10_0.2.1
      have q10 := hx10_0.2.2
      clear hh10 hx10_0
      have hh11 : ((fun (v : Value) (X : World) => ∃ g, v = .pointer (some ⟨g, 0, none⟩) ∧ W3.heap.size ≤ g ∧ QB X g)) (y 11) X := hf.2.2.2.2.2.2.2.2.2.2.2.1
      refine Exists.elim hh11 (fun g11 hx11_0 => ?_)
      have h11 := hx11_0.1
      have z11 := hx11_0.2.1
      have q11 := hx11_0.2.2
      clear hh11 hx11_0
      clear hf
      have n10_11 : g10 ≠ g11 := sep_ne (hsep 10 11 (by decide) (by decide) (by decide) (by decide)) h10 h11
      clear hsep hlt
      refine Box.mk ?_
      simp only [List.drop_succ_cons, List.drop_zero, fill, Act.put, Nat.reduceAdd, List.setIfInBounds_toArray, List.set_cons_zero, List.set_cons_succ, h0, h1, h2, h3, h4, h5, h6, h7, h8, h9, h10, h11]
      clear h0 h1 h2 h3 h4 h5 h6 h7 h8 h9 h10 h11
      have xx := ex.size
      obtain ⟨⟨_, _, _, _, kA0, kA1, kA2, kA3⟩, kA4⟩ := q10.facts
      obtain ⟨⟨_, _, _, _, kB0, kB1, kB2, kB3⟩, kB4⟩ := q11.facts
      have m1 := n10_11.symm
      have QA := Lib.hid q10; have QBB := Lib.hid q11; have EX := Lib.hid ex; clear q10 q11 ex
      go_wp2_with fail
      refine NoPanic.normal ?_
      go_wp2_with fail
      go_meet
      have l1 := QA.out.lt; have l2 := QBB.out.lt
      exact ⟨g10, g11, rfl, rfl, (Q4.put QA.out _ _ _ _).far n10_11, Q4.put (QBB.out.far m1 _ _ _ _) _ _ _ _, by simp [World.setCell]; omega, by simp [World.setCell]; omega, (EX.out.sc4 z10 _ _ _ _).sc4 z11 _ _ _ _⟩
  case rest =>
    obtain ⟨g9, g10, rfl, rfl, y9, y10, l9, l10, ex⟩ := hcut
    have Y9 := Lib.hid y9; have Y10 := Lib.hid y10; have EX : Hid (Ext W3 wc) := Lib.hid ex; clear y9 y10
    have lw := ex.size; clear ex
    have s1 := spin_in (f := bf) hk (x := 1) (y := 0) (B := 1) (by omega) (by omega) (by omega) (by omega)
    have s2 := spin_in (f := bf) hk (x := 0) (y := 1) (B := 1) (by omega) (by omega) (by omega) (by omega)
    have s3 := spin_in (f := af) hn (x := bdx) (y := bdy) (B := 8) (by omega) (by omega) (by omega) (by omega)
    go_upto_region 2 with fail
    go_cut [11, 12] from 32 to 36 (fun s t wx => RC2 wc ((spin bf k (1, 0)).1) ((spin bf k (1, 0)).2) s t wx)
    case first =>
      obtain ⟨q0, q1, q2, q3⟩ := Y10.out
      go_wp2_with fail
      refine (to_any bf k 1 0 _ hk (by omega) (by omega) (by omega) (by omega)).mono ?_
      rintro e v ⟨rfl, hb⟩
      have HBX := Lib.hid hb; clear hb
      have e0 : Ext wc v := HBX.out
      clear e0
      go_wp2_with fail
      go_meet
      exact ⟨rfl, rfl, HBX.out⟩
    case rest =>
      obtain ⟨rfl, rfl, ex⟩ := hcut
      replace Y9 := Lib.hid (Y9.out.ext l9 ex); replace l9 := Nat.lt_of_lt_of_le l9 ex.size
      replace Y10 := Lib.hid (Y10.out.ext l10 ex); replace l10 := Nat.lt_of_lt_of_le l10 ex.size
      replace EX : Hid (Ext W3 _) := Lib.hid (EX.out.trans ex); replace lw := Nat.le_trans lw ex.size; clear ex
      go_upto_region 3 with fail
      go_cut [13, 14] from 37 to 41 (fun s t wx => RC2 wc ((spin bf k (0, 1)).1) ((spin bf k (0, 1)).2) s t wx)
      case first =>
        obtain ⟨q0, q1, q2, q3⟩ := Y10.out
        go_wp2_with fail
        refine (to_any bf k 0 1 _ hk (by omega) (by omega) (by omega) (by omega)).mono ?_
        rintro e v ⟨rfl, hb⟩
        have HBX := Lib.hid hb; clear hb
        have e0 : Ext wc v := HBX.out
        clear e0
        go_wp2_with fail
        go_meet
        exact ⟨rfl, rfl, HBX.out⟩
      case rest =>
        obtain ⟨rfl, rfl, ex⟩ := hcut
        replace Y9 := Lib.hid (Y9.out.ext l9 ex); replace l9 := Nat.lt_of_lt_of_le l9 ex.size
        replace Y10 := Lib.hid (Y10.out.ext l10 ex); replace l10 := Nat.lt_of_lt_of_le l10 ex.size
        replace EX : Hid (Ext W3 _) := Lib.hid (EX.out.trans ex); replace lw := Nat.le_trans lw ex.size; clear ex
        obtain ⟨x0, hx0⟩ : ∃ x0, x0 = (spin bf k (1, 0)).1 := ⟨_, rfl⟩
        obtain ⟨y0, hy0⟩ : ∃ y0, y0 = (spin bf k (1, 0)).2 := ⟨_, rfl⟩
        obtain ⟨x1, hx1⟩ : ∃ x1, x1 = (spin bf k (0, 1)).1 := ⟨_, rfl⟩
        obtain ⟨y1, hy1⟩ : ∃ y1, y1 = (spin bf k (0, 1)).2 := ⟨_, rfl⟩
        rw [← hx0, ← hy0] at s1 ⊢
        rw [← hx1, ← hy1] at s2 ⊢
        have D1 : Hid ((spin af n (x0, y0)).1 = la fg tt ∧ (spin af n (x0, y0)).2 = lc fg tt) := Lib.hid (by rw [hx0, hy0]; exact C1.out)
        have D2 : Hid ((spin af n (x1, y1)).1 = lb fg tt ∧ (spin af n (x1, y1)).2 = ld fg tt) := Lib.hid (by rw [hx1, hy1]; exact C2.out)
        clear hx0 hy0 hx1 hy1 C1 C2
        obtain ⟨Wr, rfl⟩ : ∃ X : World, X = wc := ⟨_, rfl⟩
        go_upto_region 5 with fail
        have h15 : B4 (Wr.alloc (.cells #[.int .i64 0, .int .i64 0, .int .i64 0, .int .i64 0] 92)) Wr.heap.size (.int .i64 0) (.int .i64 0) (.int .i64 0) (.int .i64 0) := ⟨92, heap_alloc_new _ _⟩
        have e15 : Ext Wr (Wr.alloc (.cells #[.int .i64 0, .int .i64 0, .int .i64 0, .int .i64 0] 92)) := (Ext.refl _).alc _
        generalize Wr.alloc (.cells #[.int .i64 0, .int .i64 0, .int .i64 0, .int .i64 0] 92) = W5 at *
        have H15 := Lib.hid h15; have E15 := Lib.hid e15; clear h15 e15
        obtain ⟨g15, hg15⟩ : ∃ g, g = Wr.heap.size := ⟨_, rfl⟩
        rw [← hg15] at H15 ⊢
        have le15 : Wr.heap.size ≤ g15 := by omega
        have lt15 : g9 < g15 ∧ g10 < g15 := by omega
        clear hg15
        go_upto_region 5 with fail
        go_cut [15] from 42 to 50 (fun s wx => RCB Wr g15 (la fg tt) 0 (lc fg tt) 0 s wx)
        case first =>
          obtain ⟨q0, q1, q2, q3⟩ := Q4.ext Y9.out l9 E15.out
          go_wp2_with fail
          refine (to_any af n x0 y0 _ hn (by omega) (by omega) (by omega) (by omega)).mono ?_
          rintro e v ⟨rfl, hb⟩
          have HBX := Lib.hid hb; clear hb
          have B0 : Hid (B4 v g15 _ _ _ _) := Lib.hid (H15.out.ext HBX.out)
          have fz := B0.out.free
          obtain ⟨c0, c1, c2, c3⟩ := B0.out.q4
          have zv : Wr.heap.size ≤ v.heap.size := Nat.le_trans E15.out.size HBX.out.size
          go_wp2_with fail
          go_meet
          refine ⟨rfl, ?_, ((E15.out.trans HBX.out).sc le15).sc le15⟩
          rw [D1.out.1, D1.out.2]
          exact (B0.out.s0 _).s2 _
        case rest =>
          obtain ⟨rfl, h15b, e15b⟩ := hcut
          have H15b := Lib.hid h15b; have E15b := Lib.hid e15b; clear h15b e15b H15 E15
          obtain ⟨W6, rfl⟩ : ∃ X : World, X = wc := ⟨_, rfl⟩
          skip
          go_upto_region 6 with fail
          go_cut [15] from 51 to 59 (fun s wx => RCB Wr g15 (la fg tt) (lb fg tt) (lc fg tt) (ld fg tt) s wx)
          case first =>
            obtain ⟨q0, q1, q2, q3⟩ := Q4.ext Y9.out l9 E15b.out
            go_wp2_with fail
            refine (to_any af n x1 y1 _ hn (by omega) (by omega) (by omega) (by omega)).mono ?_
            rintro e v ⟨rfl, hb⟩
            have HBX := Lib.hid hb; clear hb
            have B0 : Hid (B4 v g15 _ _ _ _) := Lib.hid (H15b.out.ext HBX.out)
            have fz := B0.out.free
            obtain ⟨c0, c1, c2, c3⟩ := B0.out.q4
            have zv : Wr.heap.size ≤ v.heap.size := Nat.le_trans E15b.out.size HBX.out.size
            go_wp2_with fail
            go_meet
            refine ⟨rfl, ?_, ((E15b.out.trans HBX.out).sc le15).sc le15⟩
            rw [D2.out.1, D2.out.2]
            exact (B0.out.s1 _).s3 _
          case rest =>
            obtain ⟨rfl, h15, e15⟩ := hcut
            have H15 := Lib.hid h15; have E15 := Lib.hid e15; clear h15 e15 H15b E15b D1 D2 s1 s2 Y10 l10
            obtain ⟨W7, rfl⟩ : ∃ X : World, X = wc := ⟨_, rfl⟩
            obtain ⟨p, hp⟩ : ∃ p, p = (spin af n (bdx, bdy)).1 := ⟨_, rfl⟩
            obtain ⟨q, hq⟩ : ∃ q, q = (spin af n (bdx, bdy)).2 := ⟨_, rfl⟩
            rw [← hp, ← hq] at s3
            have HPQ := Lib.hid (And.intro hp hq); clear hp hq
            go_upto_region 7 with fail
            go_cut [16, 17] from 60 to 68 (fun s t wx => RC2 W7 p q s t wx)
            case first =>
              obtain ⟨q0, q1, q2, q3⟩ := Q4.ext Y9.out l9 E15.out
              obtain ⟨r0, r1, r2, r3⟩ := Q4.ext HB.out (by omega) (EX.out.trans E15.out)
              go_wp2_with fail
              refine (to_any af n bdx bdy _ hn (by omega) (by omega) (by omega) (by omega)).mono ?_
              rintro e v ⟨rfl, hb⟩
              have HBX := Lib.hid hb; clear hb
              rw [← HPQ.out.1, ← HPQ.out.2]
              go_wp2_with fail
              go_meet
              exact ⟨rfl, rfl, HBX.out⟩
            case rest =>
              obtain ⟨rfl, rfl, ex⟩ := hcut
              replace H15 := Lib.hid (H15.out.ext ex); replace E15 := Lib.hid (E15.out.trans ex); clear ex
              replace EX := Lib.hid (EX.out.trans E15.out); replace lw := Nat.le_trans lw E15.out.size; clear Y9 l9
              obtain ⟨W8, rfl⟩ : ∃ X : World, X = wc := ⟨_, rfl⟩
              have hp : -8 ≤ p ∧ p ≤ 8 ∧ -8 ≤ q ∧ q ≤ 8 := s3
              have w1 : IntKind.i64.wrap (p + adx) = p + adx := IntWalk.i64_in _ (by omega)
              have w2 : IntKind.i64.wrap (q + ady) = q + ady := IntWalk.i64_in _ (by omega)
              have HW := Lib.hid (And.intro w1 w2); clear w1 w2
              go_upto_region 8 with fail
              go_cut [18] from 69 to 81 (fun s wx => RC8 W8 ((p + adx) % w) ((q + ady) % h) s wx)
              case first =>
                refine wp_region_noPanic ?_
                refine wp_pool 14 [some 69, some 70, some 71, some 72, some 73, some 74, some 75, some 76, some 77, some 78, some 79, some 80, some 81, some 18] [] [13] [(fun (v : Value) (_ : World) => v = .int .i64 p), (fun (v : Value) (_ : World) => v = .pointer (some ⟨W.heap.size, 0, none⟩)), (fun (v : Value) (_ : World) => v = .int .i64 adx), (fun (v : Value) (_ : World) => v = .int .i64 (p + adx)), (fun (v : Value) (_ : World) => v = .int .i64 w), (fun (v : Value) (_ : World) => v = .int .i64 ((p + adx) % w)), (fun (v : Value) (_ : World) => v = .int .i64 q), (fun (v : Value) (_ : World) => v = .pointer (some ⟨W.heap.size, 1, none⟩)), (fun (v : Value) (_ : World) => v = .int .i64 ady), (fun (v : Value) (_ : World) => v = .int .i64 (q + ady)), (fun (v : Value) (_ : World) => v = .int .i64 h), (fun (v : Value) (_ : World) => v = .int .i64 ((q + ady) % h)), (fun (v : Value) (_ : World) => v = .agg #[.int .i64 ((p + adx) % w), .int .i64 ((q + ady) % h), .int .i64 0, .bool false]), (fun (v : Value) (X : World) => ∃ g, v = .pointer (some ⟨g, 0, none⟩) ∧ W8.heap.size ≤ g ∧ QB X g)] [noF, noF, noF, noF, noF, noF, noF, noF, noF, noF, noF, noF, noF, ptrF] (by kernel_rfl) (by kernel_rfl) (by kernel_rfl) (by kernel_rfl) (by kernel_rfl) (by kernel_rfl) (by kernel_rfl) (by kernel_rfl) (fun _ _ _ _ h => h) ⟨Stays.pure _, Stays.pure _, Stays.pure _, Stays.pure _, Stays.pure _, Stays.pure _, Stays.pure _, Stays.pure _, Stays.pure _, Stays.pure _, Stays.pure _, Stays.pure _, Stays.pure _, (fun _ _ _ e ⟨g, h1, h2, h3⟩ => ⟨g, h1, h2, h3.ext e⟩), True.intro⟩ ?steps ?done
                case steps =>
                  simp only [List.take_succ_cons, List.take_zero]
                  refine Steps.cons (fun (v : Value) (_ : World) => v = .int .i64 p) [] rfl (by kernel_rfl) rfl (by kernel_rfl) (fun y X ex0 hf K hK => ?_) ?_
                  · clear hf
                    have ex := (Ext.drw (Ext.refl _)).trans ex0
                    refine Box.mk ?_
                    simp only [fill, Act.put, Nat.reduceAdd, List.setIfInBounds_toArray, List.set_cons_zero, List.set_cons_succ] at hK ⊢
                    go_simp
                    exact hK.out _ _ rfl (Ext.refl _) (fun b hb => by cases hb)
                  refine Steps.cons (fun (v : Value) (_ : World) => v = .pointer (some ⟨W.heap.size, 0, none⟩)) [] rfl (by kernel_rfl) rfl (by kernel_rfl) (fun y X ex0 hf K hK => ?_) ?_
                  · clear hf
                    have ex := (Ext.drw (Ext.refl _)).trans ex0
                    refine Box.mk ?_
                    simp only [fill, Act.put, Nat.reduceAdd, List.setIfInBounds_toArray, List.set_cons_zero, List.set_cons_succ] at hK ⊢
                    go_simp
                    exact hK.out _ _ rfl (Ext.refl _) (fun b hb => by cases hb)
                  refine Steps.cons (fun (v : Value) (_ : World) => v = .int .i64 adx) [1] rfl (by kernel_rfl) rfl (by kernel_rfl) (fun y X ex0 hf K hK => ?_) ?_
                  · have h1 : ((fun (v : Value) (_ : World) => v = .pointer (some ⟨W.heap.size, 0, none⟩))) (y 1) X := hf.1
                    clear hf
                    have ex := (Ext.drw (Ext.refl _)).trans ex0
                    refine Box.mk ?_
                    simp only [fill, Act.put, Nat.reduceAdd, List.setIfInBounds_toArray, List.set_cons_zero, List.set_cons_succ, h1] at hK ⊢
                    obtain ⟨q0, q1, q2, q3⟩ := Q4.ext HA.out (by omega) (EX.out.trans ex)
                    go_simp
                    exact hK.out _ _ rfl (Ext.refl _) (fun b hb => by cases hb)
                  refine Steps.cons (fun (v : Value) (_ : World) => v = .int .i64 (p + adx)) [0, 2] rfl (by kernel_rfl) rfl (by kernel_rfl) (fun y X ex0 hf K hK => ?_) ?_
                  · have h0 : ((fun (v : Value) (_ : World) => v = .int .i64 p)) (y 0) X := hf.1
                    have h2 : ((fun (v : Value) (_ : World) => v = .int .i64 adx)) (y 2) X := hf.2.1
                    clear hf
                    have ex := (Ext.drw (Ext.refl _)).trans ex0
                    refine Box.mk ?_
                    simp only [fill, Act.put, Nat.reduceAdd, List.setIfInBounds_toArray, List.set_cons_zero, List.set_cons_succ, h0, h2] at hK ⊢
                    have w1 := HW.out.1
                    go_simp
                    exact hK.out _ _ rfl (Ext.refl _) (fun b hb => by cases hb)
                  refine Steps.cons (fun (v : Value) (_ : World) => v = .int .i64 w) [] rfl (by kernel_rfl) rfl (by kernel_rfl) (fun y X ex0 hf K hK => ?_) ?_
                  · clear hf
                    have ex := (Ext.drw (Ext.refl _)).trans ex0
                    refine Box.mk ?_
                    simp only [fill, Act.put, Nat.reduceAdd, List.setIfInBounds_toArray, List.set_cons_zero, List.set_cons_succ] at hK ⊢
                    go_simp
                    exact hK.out _ _ rfl (Ext.refl _) (fun b hb => by cases hb)
                  refine Steps.cons (fun (v : Value) (_ : World) => v = .int .i64 ((p + adx) % w)) [3, 4] rfl (by kernel_rfl) rfl (by kernel_rfl) (fun y X ex0 hf K hK => ?_) ?_
                  · have h3 : ((fun (v : Value) (_ : World) => v = .int .i64 (p + adx))) (y 3) X := hf.1
                    have h4 : ((fun (v : Value) (_ : World) => v = .int .i64 w)) (y 4) X := hf.2.1
                    clear hf
                    have ex := (Ext.drw (Ext.refl _)).trans ex0
                    refine Box.mk ?_
                    simp only [fill, Act.put, Nat.reduceAdd, List.setIfInBounds_toArray, List.set_cons_zero, List.set_cons_succ, h3, h4] at hK ⊢
                    go_simp
                    refine (moduloR_any (p + adx) w _ (by omega) (by omega) (by omega) (by omega)).mono ?_
                    rintro e V ⟨rfl, rfl⟩
                    try go_wp2_with fail
                    exact hK.out _ _ rfl (Ext.refl _) (fun b hb => by cases hb)
                  refine Steps.cons (fun (v : Value) (_ : World) => v = .int .i64 q) [] rfl (by kernel_rfl) rfl (by kernel_rfl) (fun y X ex0 hf K hK => ?_) ?_
                  · clear hf
                    have ex := (Ext.drw (Ext.refl _)).trans ex0
                    refine Box.mk ?_
                    simp only [fill, Act.put, Nat.reduceAdd, List.setIfInBounds_toArray, List.set_cons_zero, List.set_cons_succ] at hK ⊢
                    go_simp
                    exact hK.out _ _ rfl (Ext.refl _) (fun b hb => by cases hb)
                  refine Steps.cons (fun (v : Value) (_ : World) => v = .pointer (some ⟨W.heap.size, 1, none⟩)) [] rfl (by kernel_rfl) rfl (by kernel_rfl) (fun y X ex0 hf K hK => ?_) ?_
                  · clear hf
                    have ex := (Ext.drw (Ext.refl _)).trans ex0
                    refine Box.mk ?_
                    simp only [fill, Act.put, Nat.reduceAdd, List.setIfInBounds_toArray, List.set_cons_zero, List.set_cons_succ] at hK ⊢
                    go_simp
                    exact hK.out _ _ rfl (Ext.refl _) (fun b hb => by cases hb)
                  refine Steps.cons (fun (v : Value) (_ : World) => v = .int .i64 ady) [7] rfl (by kernel_rfl) rfl (by kernel_rfl) (fun y X ex0 hf K hK => ?_) ?_
                  · have h7 : ((fun (v : Value) (_ : World) => v = .pointer (some ⟨W.heap.size, 1, none⟩))) (y 7) X := hf.1
                    clear hf
                    have ex := (Ext.drw (Ext.refl _)).trans ex0
                    refine Box.mk ?_
                    simp only [fill, Act.put, Nat.reduceAdd, List.setIfInBounds_toArray, List.set_cons_zero, List.set_cons_succ, h7] at hK ⊢
                    obtain ⟨q0, q1, q2, q3⟩ := Q4.ext HA.out (by omega) (EX.out.trans ex)
                    go_simp
                    exact hK.out _ _ rfl (Ext.refl _) (fun b hb => by cases hb)
                  refine Steps.cons (fun (v : Value) (_ : World) => v = .int .i64 (q + ady)) [6, 8] rfl (by kernel_rfl) rfl (by kernel_rfl) (fun y X ex0 hf K hK => ?_) ?_
                  · have h6 : ((fun (v : Value) (_ : World) => v = .int .i64 q)) (y 6) X := hf.1
                    have h8 : ((fun (v : Value) (_ : World) => v = .int .i64 ady)) (y 8) X := hf.2.1
                    clear hf
                    have ex := (Ext.drw (Ext.refl _)).trans ex0
                    refine Box.mk ?_
                    simp only [fill, Act.put, Nat.reduceAdd, List.setIfInBounds_toArray, List.set_cons_zero, List.set_cons_succ, h6, h8] at hK ⊢
                    have w2 := HW.out.2
                    go_simp
                    exact hK.out _ _ rfl (Ext.refl _) (fun b hb => by cases hb)
                  refine Steps.cons (fun (v : Value) (_ : World) => v = .int .i64 h) [] rfl (by kernel_rfl) rfl (by kernel_rfl) (fun y X ex0 hf K hK => ?_) ?_
                  · clear hf
                    have ex := (Ext.drw (Ext.refl _)).trans ex0
                    refine Box.mk ?_
                    simp only [fill, Act.put, Nat.reduceAdd, List.setIfInBounds_toArray, List.set_cons_zero, List.set_cons_succ] at hK ⊢
                    go_simp
                    exact hK.out _ _ rfl (Ext.refl _) (fun b hb => by cases hb)
                  refine Steps.cons (fun (v : Value) (_ : World) => v = .int .i64 ((q + ady) % h)) [9, 10, 5] rfl (by kernel_rfl) rfl (by kernel_rfl) (fun y X ex0 hf K hK => ?_) ?_
                  · have h9 : ((fun (v : Value) (_ : World) => v = .int .i64 (q + ady))) (y 9) X := hf.1
                    have h10 : ((fun (v : Value) (_ : World) => v = .int .i64 h)) (y 10) X := hf.2.1
                    have h5 : ((fun (v : Value) (_ : World) => v = .int .i64 ((p + adx) % w))) (y 5) X := hf.2.2.1
                    clear hf
                    have ex := (Ext.drw (Ext.refl _)).trans ex0
                    refine Box.mk ?_
                    simp only [fill, Act.put, Nat.reduceAdd, List.setIfInBounds_toArray, List.set_cons_zero, List.set_cons_succ, h9, h10, h5] at hK ⊢
                    go_simp
                    refine (moduloR_any (q + ady) h _ (by omega) (by omega) (by omega) (by omega)).mono ?_
                    rintro e V ⟨rfl, rfl⟩
                    try go_wp2_with fail
                    exact hK.out _ _ rfl (Ext.refl _) (fun b hb => by cases hb)
                  refine Steps.cons (fun (v : Value) (_ : World) => v = .agg #[.int .i64 ((p + adx) % w), .int .i64 ((q + ady) % h), .int .i64 0, .bool false]) [5, 11] rfl (by kernel_rfl) rfl (by kernel_rfl) (fun y X ex0 hf K hK => ?_) ?_
                  · have h5 : ((fun (v : Value) (_ : World) => v = .int .i64 ((p + adx) % w))) (y 5) X := hf.1
                    have h11 : ((fun (v : Value) (_ : World) => v = .int .i64 ((q + ady) % h))) (y 11) X := hf.2.1
                    clear hf
                    have ex := (Ext.drw (Ext.refl _)).trans ex0
                    refine Box.mk ?_
                    simp only [fill, Act.put, Nat.reduceAdd, List.setIfInBounds_toArray, List.set_cons_zero, List.set_cons_succ, h5, h11] at hK ⊢
                    go_simp
                    exact hK.out _ _ rfl (Ext.refl _) (fun b hb => by cases hb)
                  refine Steps.cons (fun (v : Value) (X : World) => ∃ g, v = .pointer (some ⟨g, 0, none⟩) ∧ W8.heap.size ≤ g ∧ QB X g) [] rfl (by kernel_rfl) rfl (by kernel_rfl) (fun y X ex0 hf K hK => ?_) ?_
                  · clear hf
                    have ex := (Ext.drw (Ext.refl _)).trans ex0
                    refine Box.mk ?_
                    simp only [fill, Act.put, Nat.reduceAdd, List.setIfInBounds_toArray, List.set_cons_zero, List.set_cons_succ] at hK ⊢
                    go_simp
                    exact hK.out _ _ ⟨X.heap.size, rfl, ex.size, QB.new X (.int .i64 0) (.int .i64 0) (.int .i64 0) (.bool false) 26⟩ (Ext.alc (Ext.refl X) (.cells #[.int .i64 0, .int .i64 0, .int .i64 0, .bool false] 26)) (New.ptr (Nat.le_refl _) (by simp))
                  exact Steps.nil
                case done =>
                  intro y X ex hf hlt hsep
                  have h0 : ((fun (v : Value) (_ : World) => v = .int .i64 p)) (y 0) X := hf.1
                  have h1 : ((fun (v : Value) (_ : World) => v = .pointer (some ⟨W.heap.size, 0, none⟩))) (y 1) X := hf.2.1
                  have h2 : ((fun (v : Value) (_ : World) => v = .int .i64 adx)) (y 2) X := hf.2.2.1
                  have h3 : ((fun (v : Value) (_ : World) => v = .int .i64 (p + adx))) (y 3) X := hf.2.2.2.1
                  have h4 : ((fun (v : Value) (_ : World) => v = .int .i64 w)) (y 4) X := hf.2.2.2.2.1
                  have h5 : ((fun (v : Value) (_ : World) => v = .int .i64 ((p + adx) % w))) (y 5) X := hf.2.2.2.2.2.1
                  have h6 : ((fun (v : Value) (_ : World) => v = .int .i64 q)) (y 6) X := hf.2.2.2.2.2.2.1
                  have h7 : ((fun (v : Value) (_ : World) => v = .pointer (some ⟨W.heap.size, 1, none⟩))) (y 7) X := hf.2.2.2.2.2.2.2.1
                  have h8 : ((fun (v : Value) (_ : World) => v = .int .i64 ady)) (y 8) X := hf.2.2.2.2.2.2.2.2.1
                  have h9 : ((fun (v : Value) (_ : World) => v = .int .i64 (q + ady))) (y 9) X := hf.2.2.2.2.2.2.2.2.2.1
                  have h10 : ((fun (v : Value) (_ : World) => v = .int .i64 h)) (y 10) X := hf.2.2.2.2.2.2.2.2.2.2.1
                  have h11 : ((fun (v : Value) (_ : World) => v = .int .i64 ((q + ady) % h))) (y 11) X := hf.2.2.2.2.2.2.2.2.2.2.2.1
                  have h12 : ((fun (v : Value) (_ : World) => v = .agg #[.int .i64 ((p + adx) % w), .int .i64 ((q + ady) % h), .int .i64 0, .bool false])) (y 12) X := hf.2.2.2.2.2.2.2.2.2.2.2.2.1
                  have hh13 : ((fun (v : Value) (X : World) => ∃ g, v = .pointer (some ⟨g, 0, none⟩) ∧ W8.heap.size ≤ g ∧ QB X g)) (y 13) X := hf.2.2.2.2.2.2.2.2.2.2.2.2.2.1
                  refine Exists.elim hh13 (fun g13 hx13_0 => ?_)
                  have h13 := hx13_0.1
                  have z13 := hx13_0.2.1
                  have q13 := hx13_0.2.2
                  clear hh13 hx13_0
                  clear hf
                  clear hsep hlt
                  refine Box.mk ?_
                  simp only [List.drop_succ_cons, List.drop_zero, fill, Act.put, Nat.reduceAdd, List.setIfInBounds_toArray, List.set_cons_zero, List.set_cons_succ, h0, h1, h2, h3, h4, h5, h6, h7, h8, h9, h10, h11, h12, h13]
                  clear h0 h1 h2 h3 h4 h5 h6 h7 h8 h9 h10 h11 h12 h13
                  obtain ⟨⟨_, _, _, _, kA0, kA1, kA2, kA3⟩, kA4⟩ := q13.facts
                  have QA := Lib.hid q13; have EX2 := Lib.hid ex; clear q13 ex
                  go_wp2_with fail
                  refine NoPanic.normal ?_
                  go_wp2_with fail
                  go_meet
                  obtain ⟨t13, h13⟩ := QA.out.set4 (.int .i64 ((p + adx) % w)) (.int .i64 ((q + ady) % h)) (.int .i64 0) (.bool false)
                  exact ⟨g13, t13, rfl, h13, z13, EX2.out.sc4 z13 _ _ _ _⟩
              case rest =>
                obtain ⟨g18, t18, rfl, h18, le18, ex⟩ := hcut
                have hB18 : B4 wc g18 (.int .i64 ((p + adx) % w)) (.int .i64 ((q + ady) % h)) (.int .i64 0) (.bool false) := ⟨t18, h18⟩
                have HB18 := Lib.hid hB18; have E18 := Lib.hid ex; clear hB18 h18 ex
                obtain ⟨x, hx⟩ : ∃ x, x = (p + adx) % w := ⟨_, rfl⟩
                obtain ⟨y, hy⟩ : ∃ y, y = (q + ady) % h := ⟨_, rfl⟩
                rw [← hx, ← hy] at HB18
                have HXY := Lib.hid (And.intro hx hy); clear hx hy hp s3 HW
                have l15 : g15 < W8.heap.size := H15.out.lt
                have i0 : ∀ w, (Instr.index 97 (.agg #[.bool false, .bool true]) (.int .i64 0)).run Try.prog w = .ok (.bool false) w := fun _ => by kernel_rfl
                have i1 : ∀ w, (Instr.index 97 (.agg #[.bool false, .bool true]) (.int .i64 1)).run Try.prog w = .ok (.bool true) w := fun _ => by kernel_rfl
                go_wp2_with fail
                go_loopw [83] (fun i wr => ∃ k : Nat, i = .int .i64 k ∧ k ≤ 2 ∧ B4 wr g18 (.int .i64 x) (.int .i64 y) (.int .i64 (stT fg tt k 0)) (.bool (stF fg tt k 0)) ∧ Ext W8 wr) (fun i _ => 2 - (intOf i).toNat)
                case atStart => exact ⟨0, rfl, by omega, by rw [st0T, st0F]; exact HB18.out, E18.out⟩
                case round =>
                  obtain ⟨i, rfl, hi, hb4, he⟩ := hrel
                  have HB4 := Lib.hid hb4; have HE := Lib.hid he; clear hb4 he HB18 E18
                  rcases (by omega : i = 0 ∨ i = 1 ∨ i = 2) with rfl | rfl | rfl
                  · clear hi
                    rw [show ((0 : Nat) : Int) = 0 from rfl]
                    go_wp2_with fail
                    go_loopw [86] (fun jj wr => ∃ j : Nat, jj = .int .i64 j ∧ j ≤ 4 ∧ B4 wr g18 (.int .i64 x) (.int .i64 y) (.int .i64 (stT fg tt 0 j)) (.bool (stF fg tt 0 j)) ∧ Ext W8 wr) (fun jj _ => 4 - (intOf jj).toNat)
                    case atStart => exact ⟨0, rfl, by omega, HB4.out, HE.out⟩
                    case round =>
                      obtain ⟨j, rfl, hj, hb4, he⟩ := hrel
                      have HB5 := Lib.hid hb4; have HE5 := Lib.hid he; clear hb4 he HB4 HE
                      by_cases hlt : j < 4
                      · go_wp2_with fail
                        rw [show decide ((j : Int) < 4) = true from decide_eq_true (by omega)]
                        refine wp_region_noPanic ?_
                        refine wp_pool 5 [some 89, some 90, some 91, some 92, some 93] [] [] [(fun (v : Value) (_ : World) => v = .bool false), (fun (v : Value) (_ : World) => v = .int .i64 j), (fun (v : Value) (_ : World) => v = .agg #[.int .i64 (la false j), .int .i64 (lb false j), .int .i64 (lc false j), .int .i64 (ld false j)]), (fun (v : Value) (_ : World) => v = .agg #[.int .i64 (la fg tt), .int .i64 (lb fg tt), .int .i64 (lc fg tt), .int .i64 (ld fg tt)]), (fun (v : Value) (_ : World) => v = .bool (decide (false = fg ∧ j = tt)))] [noF, noF, noF, noF, noF] (by kernel_rfl) (by kernel_rfl) (by kernel_rfl) (by kernel_rfl) (by kernel_rfl) (by kernel_rfl) (by kernel_rfl) (by kernel_rfl) (fun _ _ _ _ h => h) ⟨Stays.pure _, Stays.pure _, Stays.pure _, Stays.pure _, Stays.pure _, True.intro⟩ ?steps ?done
                        case steps =>
                          simp only [List.take_succ_cons, List.take_zero]
                          refine Steps.cons (fun (v : Value) (_ : World) => v = .bool false) [] rfl (by kernel_rfl) rfl (by kernel_rfl) (fun y X ex0 hf K hK => ?_) ?_
                          · clear hf
                            have ex := (Ext.drw (Ext.refl _)).trans ex0
                            refine Box.mk ?_
                            simp only [fill, Act.put, Nat.reduceAdd, List.setIfInBounds_toArray, List.set_cons_zero, List.set_cons_succ] at hK ⊢
                            go_simp
                            exact hK.out _ _ rfl (Ext.refl _) (fun b hb => by cases hb)
                          refine Steps.cons (fun (v : Value) (_ : World) => v = .int .i64 j) [] rfl (by kernel_rfl) rfl (by kernel_rfl) (fun y X ex0 hf K hK => ?_) ?_
                          · clear hf
                            have ex := (Ext.drw (Ext.refl _)).trans ex0
                            refine Box.mk ?_
                            simp only [fill, Act.put, Nat.reduceAdd, List.setIfInBounds_toArray, List.set_cons_zero, List.set_cons_succ] at hK ⊢
                            go_simp
                            exact hK.out _ _ rfl (Ext.refl _) (fun b hb => by cases hb)
                          refine Steps.cons (fun (v : Value) (_ : World) => v = .agg #[.int .i64 (la false j), .int .i64 (lb false j), .int .i64 (lc false j), .int .i64 (ld false j)]) [0, 1] rfl (by kernel_rfl) rfl (by kernel_rfl) (fun y X ex0 hf K hK => ?_) ?_
                          · have h0 : ((fun (v : Value) (_ : World) => v = .bool false)) (y 0) X := hf.1
                            have h1 : ((fun (v : Value) (_ : World) => v = .int .i64 j)) (y 1) X := hf.2.1
                            clear hf
                            have ex := (Ext.drw (Ext.refl _)).trans ex0
                            refine Box.mk ?_
                            simp only [fill, Act.put, Nat.reduceAdd, List.setIfInBounds_toArray, List.set_cons_zero, List.set_cons_succ, h0, h1] at hK ⊢
                            go_simp
                            refine (turned_any false j _ hlt).mono ?_
                            rintro e V ⟨rfl, hb⟩
                            try go_wp2_with fail
                            exact hK.out _ _ rfl hb (fun b hb => by cases hb)
                          refine Steps.cons (fun (v : Value) (_ : World) => v = .agg #[.int .i64 (la fg tt), .int .i64 (lb fg tt), .int .i64 (lc fg tt), .int .i64 (ld fg tt)]) [] rfl (by kernel_rfl) rfl (by kernel_rfl) (fun y X ex0 hf K hK => ?_) ?_
                          · clear hf
                            have ex := (Ext.drw (Ext.refl _)).trans ex0
                            refine Box.mk ?_
                            simp only [fill, Act.put, Nat.reduceAdd, List.setIfInBounds_toArray, List.set_cons_zero, List.set_cons_succ] at hK ⊢
                            obtain ⟨q0, q1, q2, q3⟩ := Q4.ext H15.out.q4 l15 (HE5.out.trans ex)
                            go_simp
                            exact hK.out _ _ rfl (Ext.refl _) (fun b hb => by cases hb)
                          refine Steps.cons (fun (v : Value) (_ : World) => v = .bool (decide (false = fg ∧ j = tt))) [2, 3] rfl (by kernel_rfl) rfl (by kernel_rfl) (fun y X ex0 hf K hK => ?_) ?_
                          · have h2 : ((fun (v : Value) (_ : World) => v = .agg #[.int .i64 (la false j), .int .i64 (lb false j), .int .i64 (lc false j), .int .i64 (ld false j)])) (y 2) X := hf.1
                            have h3 : ((fun (v : Value) (_ : World) => v = .agg #[.int .i64 (la fg tt), .int .i64 (lb fg tt), .int .i64 (lc fg tt), .int .i64 (ld fg tt)])) (y 3) X := hf.2.1
                            clear hf
                            have ex := (Ext.drw (Ext.refl _)).trans ex0
                            refine Box.mk ?_
                            simp only [fill, Act.put, Nat.reduceAdd, List.setIfInBounds_toArray, List.set_cons_zero, List.set_cons_succ, h2, h3] at hK ⊢
                            go_simp
                            have e4 := if4 (la false j = la fg tt) (lb false j = lb fg tt) (lc false j = lc fg tt) (ld false j = ld fg tt) (fun b => (Result.ok (Next.value (.bool b)) X : Result Next))
                            rw [e4]
                            clear e4
                            go_simp
                            exact hK.out _ _ (congrArg Value.bool (eqM_is false fg hlt htt)) (Ext.refl _) (fun b hb => by cases hb)
                          exact Steps.nil
                        case done =>
                          intro y X ex hf hlt hsep
                          have h0 : ((fun (v : Value) (_ : World) => v = .bool false)) (y 0) X := hf.1
                          have h1 : ((fun (v : Value) (_ : World) => v = .int .i64 j)) (y 1) X := hf.2.1
                          have h2 : ((fun (v : Value) (_ : World) => v = .agg #[.int .i64 (la false j), .int .i64 (lb false j), .int .i64 (lc false j), .int .i64 (ld false j)])) (y 2) X := hf.2.2.1
                          have h3 : ((fun (v : Value) (_ : World) => v = .agg #[.int .i64 (la fg tt), .int .i64 (lb fg tt), .int .i64 (lc fg tt), .int .i64 (ld fg tt)])) (y 3) X := hf.2.2.2.1
                          have h4 : ((fun (v : Value) (_ : World) => v = .bool (decide (false = fg ∧ j = tt)))) (y 4) X := hf.2.2.2.2.1
                          clear hf
                          clear hsep hlt
                          refine Box.mk ?_
                          simp only [List.drop_succ_cons, List.drop_zero, fill, Act.put, Nat.reduceAdd, List.setIfInBounds_toArray, List.set_cons_zero, List.set_cons_succ, h0, h1, h2, h3, h4]
                          clear h0 h1 h2 h3 h4
                          have HB6 := Lib.hid (HB5.out.ext ex); have HE6 := Lib.hid (HE5.out.trans ex); clear ex HB5 HE5
                          refine NoPanic.normal ?_
                          by_cases hq : false = fg ∧ j = tt
                          · rw [decide_eq_true hq]
                            have HQ := Lib.hid hq; clear hq
                            have fz := HB6.out.free
                            obtain ⟨c0, c1, c2, c3⟩ := HB6.out.q4
                            go_wp2_with fail
                            clear c0 c1 c2 c3 fz
                            go_roundw
                            case rel => exact ⟨j + 1, by go_num, by omega, by rw [show stT fg tt 0 (j + 1) = j from stT_hit (f := false) HQ.out, show stF fg tt 0 (j + 1) = false from stF_hit (f := false) HQ.out]; exact (HB6.out.s3 _).s2 _, (HE6.out.sc le18).sc le18⟩
                            case measure => simp [intOf]; omega
                          · rw [decide_eq_false hq]
                            have HQ := Lib.hid hq; clear hq
                            go_wp2_with fail
                            go_roundw
                            case rel => exact ⟨j + 1, by go_num, by omega, by rw [show stT fg tt 0 (j + 1) = stT fg tt 0 j from stT_miss (f := false) HQ.out, show stF fg tt 0 (j + 1) = stF fg tt 0 j from stF_miss (f := false) HQ.out]; exact HB6.out, HE6.out⟩
                            case measure => simp [intOf]; omega
                      · obtain rfl : j = 4 := by omega
                        clear hj hlt
                        go_wp2_with fail
                        go_roundw
                        case rel => exact ⟨1, by go_num, by omega, by rw [← stT_next htt, ← stF_next htt]; exact HB5.out, HE5.out⟩
                        case measure => simp [intOf]
                  · clear hi
                    rw [show ((1 : Nat) : Int) = 1 from rfl]
                    go_wp2_with fail
                    go_loopw [86] (fun jj wr => ∃ j : Nat, jj = .int .i64 j ∧ j ≤ 4 ∧ B4 wr g18 (.int .i64 x) (.int .i64 y) (.int .i64 (stT fg tt 1 j)) (.bool (stF fg tt 1 j)) ∧ Ext W8 wr) (fun jj _ => 4 - (intOf jj).toNat)
                    case atStart => exact ⟨0, rfl, by omega, HB4.out, HE.out⟩
                    case round =>
                      obtain ⟨j, rfl, hj, hb4, he⟩ := hrel
                      have HB5 := Lib.hid hb4; have HE5 := Lib.hid he; clear hb4 he HB4 HE
                      by_cases hlt : j < 4
                      · go_wp2_with fail
                        rw [show decide ((j : Int) < 4) = true from decide_eq_true (by omega)]
                        refine wp_region_noPanic ?_
                        refine wp_pool 5 [some 89, some 90, some 91, some 92, some 93] [] [] [(fun (v : Value) (_ : World) => v = .bool true), (fun (v : Value) (_ : World) => v = .int .i64 j), (fun (v : Value) (_ : World) => v = .agg #[.int .i64 (la true j), .int .i64 (lb true j), .int .i64 (lc true j), .int .i64 (ld true j)]), (fun (v : Value) (_ : World) => v = .agg #[.int .i64 (la fg tt), .int .i64 (lb fg tt), .int .i64 (lc fg tt), .int .i64 (ld fg tt)]), (fun (v : Value) (_ : World) => v = .bool (decide (true = fg ∧ j = tt)))] [noF, noF, noF, noF, noF] (by kernel_rfl) (by kernel_rfl) (by kernel_rfl) (by kernel_rfl) (by kernel_rfl) (by kernel_rfl) (by kernel_rfl) (by kernel_rfl) (fun _ _ _ _ h => h) ⟨Stays.pure _, Stays.pure _, Stays.pure _, Stays.pure _, Stays.pure _, True.intro⟩ ?steps ?done
                        case steps =>
                          simp only [List.take_succ_cons, List.take_zero]
                          refine Steps.cons (fun (v : Value) (_ : World) => v = .bool true) [] rfl (by kernel_rfl) rfl (by kernel_rfl) (fun y X ex0 hf K hK => ?_) ?_
                          · clear hf
                            have ex := (Ext.drw (Ext.refl _)).trans ex0
                            refine Box.mk ?_
                            simp only [fill, Act.put, Nat.reduceAdd, List.setIfInBounds_toArray, List.set_cons_zero, List.set_cons_succ] at hK ⊢
                            go_simp
                            exact hK.out _ _ rfl (Ext.refl _) (fun b hb => by cases hb)
                          refine Steps.cons (fun (v : Value) (_ : World) => v = .int .i64 j) [] rfl (by kernel_rfl) rfl (by kernel_rfl) (fun y X ex0 hf K hK => ?_) ?_
                          · clear hf
                            have ex := (Ext.drw (Ext.refl _)).trans ex0
                            refine Box.mk ?_
                            simp only [fill, Act.put, Nat.reduceAdd, List.setIfInBounds_toArray, List.set_cons_zero, List.set_cons_succ] at hK ⊢
                            go_simp
                            exact hK.out _ _ rfl (Ext.refl _) (fun b hb => by cases hb)
                          refine Steps.cons (fun (v : Value) (_ : World) => v = .agg #[.int .i64 (la true j), .int .i64 (lb true j), .int .i64 (lc true j), .int .i64 (ld true j)]) [0, 1] rfl (by kernel_rfl) rfl (by kernel_rfl) (fun y X ex0 hf K hK => ?_) ?_
                          · have h0 : ((fun (v : Value) (_ : World) => v = .bool true)) (y 0) X := hf.1
                            have h1 : ((fun (v : Value) (_ : World) => v = .int .i64 j)) (y 1) X := hf.2.1
                            clear hf
                            have ex := (Ext.drw (Ext.refl _)).trans ex0
                            refine Box.mk ?_
                            simp only [fill, Act.put, Nat.reduceAdd, List.setIfInBounds_toArray, List.set_cons_zero, List.set_cons_succ, h0, h1] at hK ⊢
                            go_simp
                            refine (turned_any true j _ hlt).mono ?_
                            rintro e V ⟨rfl, hb⟩
                            try go_wp2_with fail
                            exact hK.out _ _ rfl hb (fun b hb => by cases hb)
                          refine Steps.cons (fun (v : Value) (_ : World) => v = .agg #[.int .i64 (la fg tt), .int .i64 (lb fg tt), .int .i64 (lc fg tt), .int .i64 (ld fg tt)]) [] rfl (by kernel_rfl) rfl (by kernel_rfl) (fun y X ex0 hf K hK => ?_) ?_
                          · clear hf
                            have ex := (Ext.drw (Ext.refl _)).trans ex0
                            refine Box.mk ?_
                            simp only [fill, Act.put, Nat.reduceAdd, List.setIfInBounds_toArray, List.set_cons_zero, List.set_cons_succ] at hK ⊢
                            obtain ⟨q0, q1, q2, q3⟩ := Q4.ext H15.out.q4 l15 (HE5.out.trans ex)
                            go_simp
                            exact hK.out _ _ rfl (Ext.refl _) (fun b hb => by cases hb)
                          refine Steps.cons (fun (v : Value) (_ : World) => v = .bool (decide (true = fg ∧ j = tt))) [2, 3] rfl (by kernel_rfl) rfl (by kernel_rfl) (fun y X ex0 hf K hK => ?_) ?_
                          · have h2 : ((fun (v : Value) (_ : World) => v = .agg #[.int .i64 (la true j), .int .i64 (lb true j), .int .i64 (lc true j), .int .i64 (ld true j)])) (y 2) X := hf.1
                            have h3 : ((fun (v : Value) (_ : World) => v = .agg #[.int .i64 (la fg tt), .int .i64 (lb fg tt), .int .i64 (lc fg tt), .int .i64 (ld fg tt)])) (y 3) X := hf.2.1
                            clear hf
                            have ex := (Ext.drw (Ext.refl _)).trans ex0
                            refine Box.mk ?_
                            simp only [fill, Act.put, Nat.reduceAdd, List.setIfInBounds_toArray, List.set_cons_zero, List.set_cons_succ, h2, h3] at hK ⊢
                            go_simp
                            have e4 := if4 (la true j = la fg tt) (lb true j = lb fg tt) (lc true j = lc fg tt) (ld true j = ld fg tt) (fun b => (Result.ok (Next.value (.bool b)) X : Result Next))
                            rw [e4]
                            clear e4
                            go_simp
                            exact hK.out _ _ (congrArg Value.bool (eqM_is true fg hlt htt)) (Ext.refl _) (fun b hb => by cases hb)
                          exact Steps.nil
                        case done =>
                          intro y X ex hf hlt hsep
                          have h0 : ((fun (v : Value) (_ : World) => v = .bool true)) (y 0) X := hf.1
                          have h1 : ((fun (v : Value) (_ : World) => v = .int .i64 j)) (y 1) X := hf.2.1
                          have h2 : ((fun (v : Value) (_ : World) => v = .agg #[.int .i64 (la true j), .int .i64 (lb true j), .int .i64 (lc true j), .int .i64 (ld true j)])) (y 2) X := hf.2.2.1
                          have h3 : ((fun (v : Value) (_ : World) => v = .agg #[.int .i64 (la fg tt), .int .i64 (lb fg tt), .int .i64 (lc fg tt), .int .i64 (ld fg tt)])) (y 3) X := hf.2.2.2.1
                          have h4 : ((fun (v : Value) (_ : World) => v = .bool (decide (true = fg ∧ j = tt)))) (y 4) X := hf.2.2.2.2.1
                          clear hf
                          clear hsep hlt
                          refine Box.mk ?_
                          simp only [List.drop_succ_cons, List.drop_zero, fill, Act.put, Nat.reduceAdd, List.setIfInBounds_toArray, List.set_cons_zero, List.set_cons_succ, h0, h1, h2, h3, h4]
                          clear h0 h1 h2 h3 h4
                          have HB6 := Lib.hid (HB5.out.ext ex); have HE6 := Lib.hid (HE5.out.trans ex); clear ex HB5 HE5
                          refine NoPanic.normal ?_
                          by_cases hq : true = fg ∧ j = tt
                          · rw [decide_eq_true hq]
                            have HQ := Lib.hid hq; clear hq
                            have fz := HB6.out.free
                            obtain ⟨c0, c1, c2, c3⟩ := HB6.out.q4
                            go_wp2_with fail
                            clear c0 c1 c2 c3 fz
                            go_roundw
                            case rel => exact ⟨j + 1, by go_num, by omega, by rw [show stT fg tt 1 (j + 1) = j from stT_hit (f := true) HQ.out, show stF fg tt 1 (j + 1) = true from stF_hit (f := true) HQ.out]; exact (HB6.out.s3 _).s2 _, (HE6.out.sc le18).sc le18⟩
                            case measure => simp [intOf]; omega
                          · rw [decide_eq_false hq]
                            have HQ := Lib.hid hq; clear hq
                            go_wp2_with fail
                            go_roundw
                            case rel => exact ⟨j + 1, by go_num, by omega, by rw [show stT fg tt 1 (j + 1) = stT fg tt 1 j from stT_miss (f := true) HQ.out, show stF fg tt 1 (j + 1) = stF fg tt 1 j from stF_miss (f := true) HQ.out]; exact HB6.out, HE6.out⟩
                            case measure => simp [intOf]; omega
                      · obtain rfl : j = 4 := by omega
                        clear hj hlt
                        go_wp2_with fail
                        go_roundw
                        case rel => exact ⟨2, by go_num, by omega, by rw [← stT_next htt, ← stF_next htt]; exact HB5.out, HE5.out⟩
                        case measure => simp [intOf]
                  · clear hi
                    rw [stT_end, stF_end] at HB4
                    rw [show ((2 : Nat) : Int) = 2 from rfl]
                    have e9 : Ext W3 wr := EX.out.trans HE.out
                    have h8 : B4 wr (W.heap.size + 1 + 1) (.int .i64 0) (.int .i64 0) (.int .i64 0) (.bool false) := (show B4 W3 _ _ _ _ _ from ⟨26, H8.out⟩).ext e9
                    have f8 := h8.free
                    obtain ⟨d0, d1, d2, d3⟩ := h8.q4
                    obtain ⟨c0, c1, c2, c3⟩ := HB4.out.q4
                    have E9 := Lib.hid e9; have H8b := Lib.hid h8; clear e9 h8
                    have hne : g18 ≠ W.heap.size + 1 + 1 := by omega
                    go_wp2_with fail
                    refine bodyPost_ret (v := .agg #[.int .i64 x, .int .i64 y, .int .i64 tt, .bool fg]) (by simp [results, Try.results28, go_sem, d0, d1, d2, d3]) rfl ⟨?_, ?_⟩
                    · rw [HXY.out.1, HXY.out.2, HPQ.out.1, HPQ.out.2]
                    · exact (BB.out.trans E9.out).sc4 (by omega) _ _ _ _
end Go.Proofs.Ytgjanbgehbpciaa
