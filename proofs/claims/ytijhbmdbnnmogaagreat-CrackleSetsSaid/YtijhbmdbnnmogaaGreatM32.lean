/- Walks: gridDart. · Walks: gridDart, the other two directions. · Grids as mathematics. · Walks: gridDarts. -/
import Derived.Test.YtijhbmdbnnmogaaGreatM30
import Derived.Test.YtijhbmdbnnmogaaGreatM31
import Derived.Test.YtijhbmdbnnmogaaGreatM29
import Derived.Test.YtijhbmdbnnmogaaGreatM5
namespace Go.Proofs.YtijhbmdbnnmogaaGreat.G
open Go.RowKit

/-- is there a dart in direction k? -/
def gok (w h x y : Int) (k : Nat) : Bool := if k = 0 then decide (x < w - 1) else if k = 1 then decide (0 < y) else if k = 2 then decide (0 < x) else decide (y < h - 1)
/-- which -/
def gdv (w h x y : Int) (k : Nat) : Int := if k = 0 then gr w x y else if k = 1 then gd w h x (y - 1) + 1 else if k = 2 then gr w (x - 1) y + 1 else gd w h x y
theorem kpG {w : World} {b : Nat} {x : Obj} (h : w.heap[b]? = some x) (o : Obj) : (w.alloc o).heap[b]? = some x := (Below.heap_alloc w o b (Array.getElem?_eq_some_iff.1 h).1).trans h
theorem bits_even {m : Int} (h0 : 0 ≤ m) (h1 : m ≤ 1000) : bits .xor .i64 (2 * m) 1 = 2 * m + 1 := by
  obtain ⟨a, rfl⟩ : ∃ a : Nat, m = a := ⟨m.toNat, by omega⟩
  have h := bits_rev (2 * a) (by omega)
  have hr : rev (2 * a) = 2 * a + 1 := by unfold rev; rw [if_pos (by omega)]
  rw [hr] at h
  have e : (2 : Int) * (a : Int) = ((2 * a : Nat) : Int) := by omega
  rw [e, h]
  omega

set_option maxHeartbeats 4000000 in
set_option maxRecDepth 100000 in
theorem gridDart_zero (vw vh va vb : Int) (W : World) (w1 : 1 ≤ vw) (w5 : vw ≤ 5) (g1 : 1 ≤ vh) (g5 : vh ≤ 5) (x0 : 0 ≤ va) (x5 : va ≤ 5) (y0 : 0 ≤ vb) (y5 : vb ≤ 5) :
    Calls Tryz.prog 176 #[.int .i64 vw, .int .i64 vh, .int .i64 va, .int .i64 vb, .int .i64 0] W fun e W' => e = .returned (.tuple #[.int .i64 (gr vw va vb), .bool (decide (va < vw - 1))]) ∧ Ext W W' := by
  obtain ⟨r, hr⟩ : ∃ r, r = gr vw va vb := ⟨_, rfl⟩
  rw [← hr]
  have hwr : IntKind.i64.wrap (vw - 1) = vw - 1 := IntWalk.i64_in _ (by omega)
  go_enter Tryz.func176, Tryz.ntmps176
  go_upto_region 6 with fail
  have bb := al2 W (.cells #[.int .i64 vw] 3) (.cells #[.int .i64 vh] 3)
  have h0 := kpG (heap_alloc_new W (.cells #[.int .i64 vw] 3)) (.cells #[.int .i64 vh] 3)
  have h1 := heap_alloc_new (W.alloc (.cells #[.int .i64 vw] 3)) (.cells #[.int .i64 vh] 3)
  simp only [World.size_alloc] at h1
  obtain ⟨m0, -, mz0⟩ := uno h0
  obtain ⟨m1, -, mz1⟩ := uno h1
  generalize (W.alloc (.cells #[.int .i64 vw] 3)).alloc (.cells #[.int .i64 vh] 3) = W1 at *
  have HB : Hid (Ext W W1) := Lib.hid bb
  have hcl : ∀ X, Ext W1 X → Calls Tryz.prog 215 #[.int .i64 va, .int .i64 vb, .pointer (some ⟨W.heap.size, 0, none⟩)] X fun e W' => e = .returned (.int .i64 r) ∧ X = W' := fun X hX => by
    rw [hr]; exact right_any vw va vb _ X (keepAt hX mz0 m0) w1 w5 (by omega) x5 (by omega) y5
  have HCL := Lib.hid hcl
  have HM := Lib.hid (And.intro m0 m1)
  clear bb h0 h1 hcl hr m0 m1
  refine wp_region_noPanic ?_
  refine wp_pool 9 [some 27, some 28, some 29, some 30, some 31, some 32, some 33, some 34, some 10] [] [] [(fun (v : Value) (_ : World) => v = .func (.func 215) #[] #[.pointer (some ⟨W.heap.size, 0, none⟩)]), (fun (v : Value) (_ : World) => v = .int .i64 va), (fun (v : Value) (_ : World) => v = .int .i64 vb), (fun (v : Value) (_ : World) => v = .int .i64 r), (fun (v : Value) (_ : World) => v = .int .i64 va), (fun (v : Value) (_ : World) => v = .int .i64 vw), (fun (v : Value) (_ : World) => v = .int .i64 (vw - 1)), (fun (v : Value) (_ : World) => v = .bool (decide (va < vw - 1))), (fun (v : Value) (_ : World) => v = .int .i64 r)] [noF, noF, noF, noF, noF, noF, noF, noF, noF] (by kernel_rfl) (by kernel_rfl) (by kernel_rfl) (by kernel_rfl) (by kernel_rfl) (by kernel_rfl) (by kernel_rfl) (by kernel_rfl) (fun _ _ _ _ h => h) ⟨Stays.pure _, Stays.pure _, Stays.pure _, Stays.pure _, Stays.pure _, Stays.pure _, Stays.pure _, Stays.pure _, Stays.pure _, True.intro⟩ ?steps ?done
  case steps =>
    simp only [List.take_succ_cons, List.take_zero]
    refine Steps.cons (fun (v : Value) (_ : World) => v = .func (.func 215) #[] #[.pointer (some ⟨W.heap.size, 0, none⟩)]) [] rfl (by kernel_rfl) rfl (by kernel_rfl) (fun y X ex0 hf K hK => ?_) ?_
    · clear hf
      have ex := (Ext.drw (Ext.refl _)).trans ex0
      refine Box.mk ?_
      simp only [fill, Act.put, Nat.reduceAdd, List.setIfInBounds_toArray, List.set_cons_zero, List.set_cons_succ] at hK ⊢
      go_simp
      exact hK.out _ _ rfl (Ext.refl _) (fun b hb => by cases hb)
    refine Steps.cons (fun (v : Value) (_ : World) => v = .int .i64 va) [] rfl (by kernel_rfl) rfl (by kernel_rfl) (fun y X ex0 hf K hK => ?_) ?_
    · clear hf
      have ex := (Ext.drw (Ext.refl _)).trans ex0
      refine Box.mk ?_
      simp only [fill, Act.put, Nat.reduceAdd, List.setIfInBounds_toArray, List.set_cons_zero, List.set_cons_succ] at hK ⊢
      go_simp
      exact hK.out _ _ rfl (Ext.refl _) (fun b hb => by cases hb)
    refine Steps.cons (fun (v : Value) (_ : World) => v = .int .i64 vb) [] rfl (by kernel_rfl) rfl (by kernel_rfl) (fun y X ex0 hf K hK => ?_) ?_
    · clear hf
      have ex := (Ext.drw (Ext.refl _)).trans ex0
      refine Box.mk ?_
      simp only [fill, Act.put, Nat.reduceAdd, List.setIfInBounds_toArray, List.set_cons_zero, List.set_cons_succ] at hK ⊢
      go_simp
      exact hK.out _ _ rfl (Ext.refl _) (fun b hb => by cases hb)
    refine Steps.cons (fun (v : Value) (_ : World) => v = .int .i64 r) [0, 1, 2] rfl (by kernel_rfl) rfl (by kernel_rfl) (fun y X ex0 hf K hK => ?_) ?_
    · have h0 : ((fun (v : Value) (_ : World) => v = .func (.func 215) #[] #[.pointer (some ⟨W.heap.size, 0, none⟩)])) (y 0) X := hf.1
      have h1 : ((fun (v : Value) (_ : World) => v = .int .i64 va)) (y 1) X := hf.2.1
      have h2 : ((fun (v : Value) (_ : World) => v = .int .i64 vb)) (y 2) X := hf.2.2.1
      clear hf
      have ex := (Ext.drw (Ext.refl _)).trans ex0
      refine Box.mk ?_
      simp only [fill, Act.put, Nat.reduceAdd, List.setIfInBounds_toArray, List.set_cons_zero, List.set_cons_succ, h0, h1, h2] at hK ⊢
      go_simp
      refine (HCL.out _ ex).mono ?_
      rintro e V ⟨rfl, rfl⟩
      try go_wp2_with fail
      exact hK.out _ _ rfl (Ext.refl _) (fun b hb => by cases hb)
    refine Steps.cons (fun (v : Value) (_ : World) => v = .int .i64 va) [] rfl (by kernel_rfl) rfl (by kernel_rfl) (fun y X ex0 hf K hK => ?_) ?_
    · clear hf
      have ex := (Ext.drw (Ext.refl _)).trans ex0
      refine Box.mk ?_
      simp only [fill, Act.put, Nat.reduceAdd, List.setIfInBounds_toArray, List.set_cons_zero, List.set_cons_succ] at hK ⊢
      go_simp
      exact hK.out _ _ rfl (Ext.refl _) (fun b hb => by cases hb)
    refine Steps.cons (fun (v : Value) (_ : World) => v = .int .i64 vw) [] rfl (by kernel_rfl) rfl (by kernel_rfl) (fun y X ex0 hf K hK => ?_) ?_
    · clear hf
      have ex := (Ext.drw (Ext.refl _)).trans ex0
      refine Box.mk ?_
      simp only [fill, Act.put, Nat.reduceAdd, List.setIfInBounds_toArray, List.set_cons_zero, List.set_cons_succ] at hK ⊢
      have q5 := keepAt ex mz0 HM.out.1
      go_simp
      exact hK.out _ _ rfl (Ext.refl _) (fun b hb => by cases hb)
    refine Steps.cons (fun (v : Value) (_ : World) => v = .int .i64 (vw - 1)) [5] rfl (by kernel_rfl) rfl (by kernel_rfl) (fun y X ex0 hf K hK => ?_) ?_
    · have h5 : ((fun (v : Value) (_ : World) => v = .int .i64 vw)) (y 5) X := hf.1
      clear hf
      have ex := (Ext.drw (Ext.refl _)).trans ex0
      refine Box.mk ?_
      simp only [fill, Act.put, Nat.reduceAdd, List.setIfInBounds_toArray, List.set_cons_zero, List.set_cons_succ, h5] at hK ⊢
      go_simp
      exact hK.out _ _ rfl (Ext.refl _) (fun b hb => by cases hb)
    refine Steps.cons (fun (v : Value) (_ : World) => v = .bool (decide (va < vw - 1))) [4, 6] rfl (by kernel_rfl) rfl (by kernel_rfl) (fun y X ex0 hf K hK => ?_) ?_
    · have h4 : ((fun (v : Value) (_ : World) => v = .int .i64 va)) (y 4) X := hf.1
      have h6 : ((fun (v : Value) (_ : World) => v = .int .i64 (vw - 1))) (y 6) X := hf.2.1
      clear hf
      have ex := (Ext.drw (Ext.refl _)).trans ex0
      refine Box.mk ?_
      simp only [fill, Act.put, Nat.reduceAdd, List.setIfInBounds_toArray, List.set_cons_zero, List.set_cons_succ, h4, h6] at hK ⊢
      go_simp
      exact hK.out _ _ rfl (Ext.refl _) (fun b hb => by cases hb)
    refine Steps.cons (fun (v : Value) (_ : World) => v = .int .i64 r) [3, 0, 1, 2] rfl (by kernel_rfl) rfl (by kernel_rfl) (fun y X ex0 hf K hK => ?_) ?_
    · have h3 : ((fun (v : Value) (_ : World) => v = .int .i64 r)) (y 3) X := hf.1
      have h0 : ((fun (v : Value) (_ : World) => v = .func (.func 215) #[] #[.pointer (some ⟨W.heap.size, 0, none⟩)])) (y 0) X := hf.2.1
      have h1 : ((fun (v : Value) (_ : World) => v = .int .i64 va)) (y 1) X := hf.2.2.1
      have h2 : ((fun (v : Value) (_ : World) => v = .int .i64 vb)) (y 2) X := hf.2.2.2.1
      clear hf
      have ex := (Ext.drw (Ext.refl _)).trans ex0
      refine Box.mk ?_
      simp only [fill, Act.put, Nat.reduceAdd, List.setIfInBounds_toArray, List.set_cons_zero, List.set_cons_succ, h3, h0, h1, h2] at hK ⊢
      go_simp
      exact hK.out _ _ rfl (Ext.refl _) (fun b hb => by cases hb)
    exact Steps.nil
  case done =>
    intro y X ex hf hlt hsep
    have h0 : ((fun (v : Value) (_ : World) => v = .func (.func 215) #[] #[.pointer (some ⟨W.heap.size, 0, none⟩)])) (y 0) X := hf.1
    have h1 : ((fun (v : Value) (_ : World) => v = .int .i64 va)) (y 1) X := hf.2.1
    have h2 : ((fun (v : Value) (_ : World) => v = .int .i64 vb)) (y 2) X := hf.2.2.1
    have h3 : ((fun (v : Value) (_ : World) => v = .int .i64 r)) (y 3) X := hf.2.2.2.1
    have h4 : ((fun (v : Value) (_ : World) => v = .int .i64 va)) (y 4) X := hf.2.2.2.2.1
    have h5 : ((fun (v : Value) (_ : World) => v = .int .i64 vw)) (y 5) X := hf.2.2.2.2.2.1
    have h6 : ((fun (v : Value) (_ : World) => v = .int .i64 (vw - 1))) (y 6) X := hf.2.2.2.2.2.2.1
    have h7 : ((fun (v : Value) (_ : World) => v = .bool (decide (va < vw - 1)))) (y 7) X := hf.2.2.2.2.2.2.2.1
    have h8 : ((fun (v : Value) (_ : World) => v = .int .i64 r)) (y 8) X := hf.2.2.2.2.2.2.2.2.1
    clear hf
    clear hsep hlt
    refine Box.mk ?_
    simp only [List.drop_succ_cons, List.drop_zero, fill, Act.put, Nat.reduceAdd, List.setIfInBounds_toArray, List.set_cons_zero, List.set_cons_succ, h0, h1, h2, h3, h4, h5, h6, h7, h8]
    clear h0 h1 h2 h3 h4 h5 h6 h7 h8
    have EX := Lib.hid ex; clear ex
    go_wp2_with fail
    refine NoPanic.normal ?_
    go_wp2
    refine bodyPost_ret (v := .tuple #[.int .i64 r, .bool (decide (va < vw - 1))]) (by simp [results, Tryz.results176, go_sem]) rfl ⟨rfl, HB.out.trans EX.out⟩

set_option maxHeartbeats 4000000 in
set_option maxRecDepth 100000 in
theorem gridDart_three (vw vh va vb : Int) (W : World) (w1 : 1 ≤ vw) (w5 : vw ≤ 5) (g1 : 1 ≤ vh) (g5 : vh ≤ 5) (x0 : 0 ≤ va) (x5 : va ≤ 5) (y0 : 0 ≤ vb) (y5 : vb ≤ 5) :
    Calls Tryz.prog 176 #[.int .i64 vw, .int .i64 vh, .int .i64 va, .int .i64 vb, .int .i64 3] W fun e W' => e = .returned (.tuple #[.int .i64 (gd vw vh va vb), .bool (decide (vb < vh - 1))]) ∧ Ext W W' := by
  obtain ⟨r, hr⟩ : ∃ r, r = gd vw vh va vb := ⟨_, rfl⟩
  rw [← hr]
  have hwr : IntKind.i64.wrap (vh - 1) = vh - 1 := IntWalk.i64_in _ (by omega)
  go_enter Tryz.func176, Tryz.ntmps176
  go_upto_region 4 with fail
  have bb := al2 W (.cells #[.int .i64 vw] 3) (.cells #[.int .i64 vh] 3)
  have h0 := kpG (heap_alloc_new W (.cells #[.int .i64 vw] 3)) (.cells #[.int .i64 vh] 3)
  have h1 := heap_alloc_new (W.alloc (.cells #[.int .i64 vw] 3)) (.cells #[.int .i64 vh] 3)
  simp only [World.size_alloc] at h1
  obtain ⟨m0, -, mz0⟩ := uno h0
  obtain ⟨m1, -, mz1⟩ := uno h1
  generalize (W.alloc (.cells #[.int .i64 vw] 3)).alloc (.cells #[.int .i64 vh] 3) = W1 at *
  have HB : Hid (Ext W W1) := Lib.hid bb
  have hcl : ∀ X, Ext W1 X → Calls Tryz.prog 216 #[.int .i64 va, .int .i64 vb, .pointer (some ⟨W.heap.size, 0, none⟩), .pointer (some ⟨W.heap.size + 1, 0, none⟩)] X fun e W' => e = .returned (.int .i64 r) ∧ X = W' := fun X hX => by
    rw [hr]; exact down_any vw vh va vb _ _ X (keepAt hX mz0 m0) (keepAt hX mz1 m1) w1 w5 g1 g5 (by omega) x5 (by omega) y5
  have HCL := Lib.hid hcl
  have HM := Lib.hid (And.intro m0 m1)
  clear bb h0 h1 hcl hr m0 m1
  refine wp_region_noPanic ?_
  refine wp_pool 9 [some 17, some 18, some 19, some 20, some 21, some 22, some 23, some 24, some 10] [] [] [(fun (v : Value) (_ : World) => v = .func (.func 216) #[] #[.pointer (some ⟨W.heap.size, 0, none⟩), .pointer (some ⟨W.heap.size + 1, 0, none⟩)]), (fun (v : Value) (_ : World) => v = .int .i64 va), (fun (v : Value) (_ : World) => v = .int .i64 vb), (fun (v : Value) (_ : World) => v = .int .i64 r), (fun (v : Value) (_ : World) => v = .int .i64 vb), (fun (v : Value) (_ : World) => v = .int .i64 vh), (fun (v : Value) (_ : World) => v = .int .i64 (vh - 1)), (fun (v : Value) (_ : World) => v = .bool (decide (vb < vh - 1))), (fun (v : Value) (_ : World) => v = .int .i64 r)] [noF, noF, noF, noF, noF, noF, noF, noF, noF] (by kernel_rfl) (by kernel_rfl) (by kernel_rfl) (by kernel_rfl) (by kernel_rfl) (by kernel_rfl) (by kernel_rfl) (by kernel_rfl) (fun _ _ _ _ h => h) ⟨Stays.pure _, Stays.pure _, Stays.pure _, Stays.pure _, Stays.pure _, Stays.pure _, Stays.pure _, Stays.pure _, Stays.pure _, True.intro⟩ ?steps ?done
  case steps =>
    simp only [List.take_succ_cons, List.take_zero]
    refine Steps.cons (fun (v : Value) (_ : World) => v = .func (.func 216) #[] #[.pointer (some ⟨W.heap.size, 0, none⟩), .pointer (some ⟨W.heap.size + 1, 0, none⟩)]) [] rfl (by kernel_rfl) rfl (by kernel_rfl) (fun y X ex0 hf K hK => ?_) ?_
    · clear hf
      have ex := (Ext.drw (Ext.refl _)).trans ex0
      refine Box.mk ?_
      simp only [fill, Act.put, Nat.reduceAdd, List.setIfInBounds_toArray, List.set_cons_zero, List.set_cons_succ] at hK ⊢
      go_simp
      exact hK.out _ _ rfl (Ext.refl _) (fun b hb => by cases hb)
    refine Steps.cons (fun (v : Value) (_ : World) => v = .int .i64 va) [] rfl (by kernel_rfl) rfl (by kernel_rfl) (fun y X ex0 hf K hK => ?_) ?_
    · clear hf
      have ex := (Ext.drw (Ext.refl _)).trans ex0
      refine Box.mk ?_
      simp only [fill, Act.put, Nat.reduceAdd, List.setIfInBounds_toArray, List.set_cons_zero, List.set_cons_succ] at hK ⊢
      go_simp
      exact hK.out _ _ rfl (Ext.refl _) (fun b hb => by cases hb)
    refine Steps.cons (fun (v : Value) (_ : World) => v = .int .i64 vb) [] rfl (by kernel_rfl) rfl (by kernel_rfl) (fun y X ex0 hf K hK => ?_) ?_
    · clear hf
      have ex := (Ext.drw (Ext.refl _)).trans ex0
      refine Box.mk ?_
      simp only [fill, Act.put, Nat.reduceAdd, List.setIfInBounds_toArray, List.set_cons_zero, List.set_cons_succ] at hK ⊢
      go_simp
      exact hK.out _ _ rfl (Ext.refl _) (fun b hb => by cases hb)
    refine Steps.cons (fun (v : Value) (_ : World) => v = .int .i64 r) [0, 1, 2] rfl (by kernel_rfl) rfl (by kernel_rfl) (fun y X ex0 hf K hK => ?_) ?_
    · have h0 : ((fun (v : Value) (_ : World) => v = .func (.func 216) #[] #[.pointer (some ⟨W.heap.size, 0, none⟩), .pointer (some ⟨W.heap.size + 1, 0, none⟩)])) (y 0) X := hf.1
      have h1 : ((fun (v : Value) (_ : World) => v = .int .i64 va)) (y 1) X := hf.2.1
      have h2 : ((fun (v : Value) (_ : World) => v = .int .i64 vb)) (y 2) X := hf.2.2.1
      clear hf
      have ex := (Ext.drw (Ext.refl _)).trans ex0
      refine Box.mk ?_
      simp only [fill, Act.put, Nat.reduceAdd, List.setIfInBounds_toArray, List.set_cons_zero, List.set_cons_succ, h0, h1, h2] at hK ⊢
      go_simp
      refine (HCL.out _ ex).mono ?_
      rintro e V ⟨rfl, rfl⟩
      try go_wp2_with fail
      exact hK.out _ _ rfl (Ext.refl _) (fun b hb => by cases hb)
    refine Steps.cons (fun (v : Value) (_ : World) => v = .int .i64 vb) [] rfl (by kernel_rfl) rfl (by kernel_rfl) (fun y X ex0 hf K hK => ?_) ?_
    · clear hf
      have ex := (Ext.drw (Ext.refl _)).trans ex0
      refine Box.mk ?_
      simp only [fill, Act.put, Nat.reduceAdd, List.setIfInBounds_toArray, List.set_cons_zero, List.set_cons_succ] at hK ⊢
      go_simp
      exact hK.out _ _ rfl (Ext.refl _) (fun b hb => by cases hb)
    refine Steps.cons (fun (v : Value) (_ : World) => v = .int .i64 vh) [] rfl (by kernel_rfl) rfl (by kernel_rfl) (fun y X ex0 hf K hK => ?_) ?_
    · clear hf
      have ex := (Ext.drw (Ext.refl _)).trans ex0
      refine Box.mk ?_
      simp only [fill, Act.put, Nat.reduceAdd, List.setIfInBounds_toArray, List.set_cons_zero, List.set_cons_succ] at hK ⊢
      have q5 := keepAt ex mz1 HM.out.2
      go_simp
      exact hK.out _ _ rfl (Ext.refl _) (fun b hb => by cases hb)
    refine Steps.cons (fun (v : Value) (_ : World) => v = .int .i64 (vh - 1)) [5] rfl (by kernel_rfl) rfl (by kernel_rfl) (fun y X ex0 hf K hK => ?_) ?_
    · have h5 : ((fun (v : Value) (_ : World) => v = .int .i64 vh)) (y 5) X := hf.1
      clear hf
      have ex := (Ext.drw (Ext.refl _)).trans ex0
      refine Box.mk ?_
      simp only [fill, Act.put, Nat.reduceAdd, List.setIfInBounds_toArray, List.set_cons_zero, List.set_cons_succ, h5] at hK ⊢
      go_simp
      exact hK.out _ _ rfl (Ext.refl _) (fun b hb => by cases hb)
    refine Steps.cons (fun (v : Value) (_ : World) => v = .bool (decide (vb < vh - 1))) [4, 6] rfl (by kernel_rfl) rfl (by kernel_rfl) (fun y X ex0 hf K hK => ?_) ?_
    · have h4 : ((fun (v : Value) (_ : World) => v = .int .i64 vb)) (y 4) X := hf.1
      have h6 : ((fun (v : Value) (_ : World) => v = .int .i64 (vh - 1))) (y 6) X := hf.2.1
      clear hf
      have ex := (Ext.drw (Ext.refl _)).trans ex0
      refine Box.mk ?_
      simp only [fill, Act.put, Nat.reduceAdd, List.setIfInBounds_toArray, List.set_cons_zero, List.set_cons_succ, h4, h6] at hK ⊢
      go_simp
      exact hK.out _ _ rfl (Ext.refl _) (fun b hb => by cases hb)
    refine Steps.cons (fun (v : Value) (_ : World) => v = .int .i64 r) [3, 0, 1, 2] rfl (by kernel_rfl) rfl (by kernel_rfl) (fun y X ex0 hf K hK => ?_) ?_
    · have h3 : ((fun (v : Value) (_ : World) => v = .int .i64 r)) (y 3) X := hf.1
      have h0 : ((fun (v : Value) (_ : World) => v = .func (.func 216) #[] #[.pointer (some ⟨W.heap.size, 0, none⟩), .pointer (some ⟨W.heap.size + 1, 0, none⟩)])) (y 0) X := hf.2.1
      have h1 : ((fun (v : Value) (_ : World) => v = .int .i64 va)) (y 1) X := hf.2.2.1
      have h2 : ((fun (v : Value) (_ : World) => v = .int .i64 vb)) (y 2) X := hf.2.2.2.1
      clear hf
      have ex := (Ext.drw (Ext.refl _)).trans ex0
      refine Box.mk ?_
      simp only [fill, Act.put, Nat.reduceAdd, List.setIfInBounds_toArray, List.set_cons_zero, List.set_cons_succ, h3, h0, h1, h2] at hK ⊢
      go_simp
      exact hK.out _ _ rfl (Ext.refl _) (fun b hb => by cases hb)
    exact Steps.nil
  case done =>
    intro y X ex hf hlt hsep
    have h0 : ((fun (v : Value) (_ : World) => v = .func (.func 216) #[] #[.pointer (some ⟨W.heap.size, 0, none⟩), .pointer (some ⟨W.heap.size + 1, 0, none⟩)])) (y 0) X := hf.1
    have h1 : ((fun (v : Value) (_ : World) => v = .int .i64 va)) (y 1) X := hf.2.1
    have h2 : ((fun (v : Value) (_ : World) => v = .int .i64 vb)) (y 2) X := hf.2.2.1
    have h3 : ((fun (v : Value) (_ : World) => v = .int .i64 r)) (y 3) X := hf.2.2.2.1
    have h4 : ((fun (v : Value) (_ : World) => v = .int .i64 vb)) (y 4) X := hf.2.2.2.2.1
    have h5 : ((fun (v : Value) (_ : World) => v = .int .i64 vh)) (y 5) X := hf.2.2.2.2.2.1
    have h6 : ((fun (v : Value) (_ : World) => v = .int .i64 (vh - 1))) (y 6) X := hf.2.2.2.2.2.2.1
    have h7 : ((fun (v : Value) (_ : World) => v = .bool (decide (vb < vh - 1)))) (y 7) X := hf.2.2.2.2.2.2.2.1
    have h8 : ((fun (v : Value) (_ : World) => v = .int .i64 r)) (y 8) X := hf.2.2.2.2.2.2.2.2.1
    clear hf
    clear hsep hlt
    refine Box.mk ?_
    simp only [List.drop_succ_cons, List.drop_zero, fill, Act.put, Nat.reduceAdd, List.setIfInBounds_toArray, List.set_cons_zero, List.set_cons_succ, h0, h1, h2, h3, h4, h5, h6, h7, h8]
    clear h0 h1 h2 h3 h4 h5 h6 h7 h8
    have EX := Lib.hid ex; clear ex
    go_wp2_with fail
    refine NoPanic.normal ?_
    go_wp2
    refine bodyPost_ret (v := .tuple #[.int .i64 r, .bool (decide (vb < vh - 1))]) (by simp [results, Tryz.results176, go_sem]) rfl ⟨rfl, HB.out.trans EX.out⟩

end Go.Proofs.YtijhbmdbnnmogaaGreat.G
namespace Go.Proofs.YtijhbmdbnnmogaaGreat.G
open Go.RowKit

set_option maxHeartbeats 4000000 in
set_option maxRecDepth 100000 in
theorem gridDart_one (vw vh va vb : Int) (W : World) (w1 : 1 ≤ vw) (w5 : vw ≤ 5) (g1 : 1 ≤ vh) (g5 : vh ≤ 5) (x0 : 0 ≤ va) (x5 : va ≤ 5) (y0 : 0 ≤ vb) (y5 : vb ≤ 5) :
    Calls Tryz.prog 176 #[.int .i64 vw, .int .i64 vh, .int .i64 va, .int .i64 vb, .int .i64 1] W fun e W' => e = .returned (.tuple #[.int .i64 (bits .xor .i64 (gd vw vh va (vb - 1)) 1), .bool (decide (0 < vb))]) ∧ Ext W W' := by
  obtain ⟨r, hr⟩ : ∃ r, r = gd vw vh va (vb - 1) := ⟨_, rfl⟩
  rw [← hr]
  have hwr : IntKind.i64.wrap (vb - 1) = vb - 1 := IntWalk.i64_in _ (by omega)
  go_enter Tryz.func176, Tryz.ntmps176
  go_upto_region 8 with fail
  have bb := al2 W (.cells #[.int .i64 vw] 3) (.cells #[.int .i64 vh] 3)
  have h0 := kpG (heap_alloc_new W (.cells #[.int .i64 vw] 3)) (.cells #[.int .i64 vh] 3)
  have h1 := heap_alloc_new (W.alloc (.cells #[.int .i64 vw] 3)) (.cells #[.int .i64 vh] 3)
  simp only [World.size_alloc] at h1
  obtain ⟨m0, -, mz0⟩ := uno h0
  obtain ⟨m1, -, mz1⟩ := uno h1
  generalize (W.alloc (.cells #[.int .i64 vw] 3)).alloc (.cells #[.int .i64 vh] 3) = W1 at *
  have HB : Hid (Ext W W1) := Lib.hid bb
  have hcl : Calls Tryz.prog 216 #[.int .i64 va, .int .i64 (vb - 1), .pointer (some ⟨W.heap.size, 0, none⟩), .pointer (some ⟨W.heap.size + 1, 0, none⟩)] W1 fun e W' => e = .returned (.int .i64 r) ∧ W1 = W' := by
    rw [hr]; exact down_any vw vh va (vb - 1) _ _ W1 m0 m1 w1 w5 g1 g5 (by omega) x5 (by omega) (by omega)
  have HCL := Lib.hid hcl
  clear bb h0 h1 hcl hr m0 m1
  go_wp2_with fail
  refine HCL.out.mono ?_
  rintro e w2 ⟨rfl, rfl⟩
  go_wp2_with fail
  refine (opposite_int r _).mono ?_
  rintro e w2 ⟨rfl, rfl⟩
  obtain ⟨s, hs⟩ : ∃ s, s = bits .xor .i64 r 1 := ⟨_, rfl⟩
  rw [← hs]
  have HS := Lib.hid hs
  clear hs
  go_wp2
  refine bodyPost_ret (v := .tuple #[.int .i64 s, .bool (decide (0 < vb))]) (by simp [results, Tryz.results176, go_sem]) rfl ⟨by rw [HS.out], HB.out⟩

set_option maxHeartbeats 4000000 in
set_option maxRecDepth 100000 in
theorem gridDart_two (vw vh va vb : Int) (W : World) (w1 : 1 ≤ vw) (w5 : vw ≤ 5) (g1 : 1 ≤ vh) (g5 : vh ≤ 5) (x0 : 0 ≤ va) (x5 : va ≤ 5) (y0 : 0 ≤ vb) (y5 : vb ≤ 5) :
    Calls Tryz.prog 176 #[.int .i64 vw, .int .i64 vh, .int .i64 va, .int .i64 vb, .int .i64 2] W fun e W' => e = .returned (.tuple #[.int .i64 (bits .xor .i64 (gr vw (va - 1) vb) 1), .bool (decide (0 < va))]) ∧ Ext W W' := by
  obtain ⟨r, hr⟩ : ∃ r, r = gr vw (va - 1) vb := ⟨_, rfl⟩
  rw [← hr]
  have hwr : IntKind.i64.wrap (va - 1) = va - 1 := IntWalk.i64_in _ (by omega)
  go_enter Tryz.func176, Tryz.ntmps176
  go_upto_region 10 with fail
  have bb := al2 W (.cells #[.int .i64 vw] 3) (.cells #[.int .i64 vh] 3)
  have h0 := kpG (heap_alloc_new W (.cells #[.int .i64 vw] 3)) (.cells #[.int .i64 vh] 3)
  have h1 := heap_alloc_new (W.alloc (.cells #[.int .i64 vw] 3)) (.cells #[.int .i64 vh] 3)
  simp only [World.size_alloc] at h1
  obtain ⟨m0, -, mz0⟩ := uno h0
  obtain ⟨m1, -, mz1⟩ := uno h1
  generalize (W.alloc (.cells #[.int .i64 vw] 3)).alloc (.cells #[.int .i64 vh] 3) = W1 at *
  have HB : Hid (Ext W W1) := Lib.hid bb
  have hcl : Calls Tryz.prog 215 #[.int .i64 (va - 1), .int .i64 vb, .pointer (some ⟨W.heap.size, 0, none⟩)] W1 fun e W' => e = .returned (.int .i64 r) ∧ W1 = W' := by
    rw [hr]; exact right_any vw (va - 1) vb _ W1 m0 w1 w5 (by omega) (by omega) (by omega) y5
  have HCL := Lib.hid hcl
  clear bb h0 h1 hcl hr m0 m1
  go_wp2_with fail
  refine HCL.out.mono ?_
  rintro e w2 ⟨rfl, rfl⟩
  go_wp2_with fail
  refine (opposite_int r _).mono ?_
  rintro e w2 ⟨rfl, rfl⟩
  obtain ⟨s, hs⟩ : ∃ s, s = bits .xor .i64 r 1 := ⟨_, rfl⟩
  rw [← hs]
  have HS := Lib.hid hs
  clear hs
  go_wp2
  refine bodyPost_ret (v := .tuple #[.int .i64 s, .bool (decide (0 < va))]) (by simp [results, Tryz.results176, go_sem]) rfl ⟨by rw [HS.out], HB.out⟩

end Go.Proofs.YtijhbmdbnnmogaaGreat.G
namespace Go.Proofs.YtijhbmdbnnmogaaGreat.G
open Go.RowKit

/-- the darts around a point, in the first k directions -/
def ard (w h x y : Int) : Nat → List Int
  | 0 => []
  | k + 1 => ard w h x y k ++ if gok w h x y k = true then [gdv w h x y k] else []
theorem ard_succ (w h x y : Int) (k : Nat) : ard w h x y (k + 1) = ard w h x y k ++ if gok w h x y k = true then [gdv w h x y k] else [] := rfl
theorem ard_len (w h x y : Int) : ∀ k, (ard w h x y k).length ≤ k
  | 0 => Nat.le_refl _
  | k + 1 => by
    have := ard_len w h x y k
    rw [ard_succ, List.length_append]
    split <;> simp <;> omega
/-- how many darts there are -/
def ng (w h : Nat) : Nat := 2 * ((w - 1) * h + w * (h - 1))
theorem ng_int {w h : Nat} (hw : 1 ≤ w) (hh : 1 ≤ h) : ((ng w h : Nat) : Int) = 2 * (((w : Int) - 1) * h + w * ((h : Int) - 1)) := by
  unfold ng
  rw [Int.natCast_mul, Int.natCast_add, Int.natCast_mul, Int.natCast_mul, Int.natCast_sub hw, Int.natCast_sub hh]
  rfl
theorem ng_le : ∀ w, w < 6 → ∀ h, h < 6 → ng w h ≤ 80 := by decide +kernel
theorem ard_bd0 : ∀ w, w < 6 → ∀ h, h < 6 → ∀ x, x < w → ∀ y, y < h → ((ard (w : Nat) (h : Nat) (x : Nat) (y : Nat) 4).all fun e => decide (0 ≤ e) && decide (e < ((ng w h : Nat) : Int))) = true := by decide +kernel
theorem ard_bd {w h x y : Nat} (hw : w < 6) (hh : h < 6) (hx : x < w) (hy : y < h) {e : Int} (he : e ∈ ard (w : Nat) (h : Nat) (x : Nat) (y : Nat) 4) : 0 ≤ e ∧ e < (ng w h : Nat) := by
  have := List.all_eq_true.1 (ard_bd0 w hw h hh x hx y hy) e he
  simpa using this
/-- each of the first i darts is followed by the next one -/
def wrt (l : List Int) (z : Nat → Int) : Nat → Nat → Int
  | 0 => z
  | i + 1 => up (wrt l z i) (l.getD i 0).toNat (l.getD ((i + 1) % l.length) 0)
/-- the grid after t points -/
def gs (w h : Nat) : Nat → Nat → Int
  | 0 => fun _ => 0
  | t + 1 => wrt (ard (w : Nat) (h : Nat) ((t % w : Nat) : Int) ((t / w : Nat) : Int) 4) (gs w h t) (ard (w : Nat) (h : Nat) ((t % w : Nat) : Int) ((t / w : Nat) : Int) 4).length
theorem gs_point {w h x y : Nat} (hx : x < w) : gs w h (y * w + x + 1) = wrt (ard (w : Nat) (h : Nat) (x : Nat) (y : Nat) 4) (gs w h (y * w + x)) (ard (w : Nat) (h : Nat) (x : Nat) (y : Nat) 4).length := by
  have e1 : (y * w + x) % w = x := by rw [Nat.add_comm, Nat.add_mul_mod_self_right]; exact Nat.mod_eq_of_lt hx
  have e2 : (y * w + x) / w = y := by rw [Nat.add_comm, Nat.add_mul_div_right _ _ (by omega), Nat.div_eq_of_lt hx, Nat.zero_add]
  show wrt _ _ _ = _
  rw [e1, e2]
theorem gs_sq : ∀ d, d < 8 → gs 2 2 4 d = sqf d := by decide +kernel
end Go.Proofs.YtijhbmdbnnmogaaGreat.G
namespace Go.Proofs.YtijhbmdbnnmogaaGreat.G
open Go.RowKit

theorem gridDart_any (vw vh va vb : Int) (k : Nat) (W : World) (hk : k < 4) (w1 : 1 ≤ vw) (w5 : vw ≤ 5) (g1 : 1 ≤ vh) (g5 : vh ≤ 5) (x0 : 0 ≤ va) (x5 : va ≤ 5) (y0 : 0 ≤ vb) (y5 : vb ≤ 5) :
    Calls Tryz.prog 176 #[.int .i64 vw, .int .i64 vh, .int .i64 va, .int .i64 vb, .int .i64 k] W fun e W' => ∃ z, e = .returned (.tuple #[.int .i64 z, .bool (gok vw vh va vb k)]) ∧ (gok vw vh va vb k = true → z = gdv vw vh va vb k) ∧ Ext W W' := by
  match k, hk with
  | 0, _ =>
    refine (gridDart_zero vw vh va vb W w1 w5 g1 g5 x0 x5 y0 y5).mono ?_
    rintro e w' ⟨rfl, hx⟩
    exact ⟨_, rfl, fun _ => rfl, hx⟩
  | 1, _ =>
    refine (gridDart_one vw vh va vb W w1 w5 g1 g5 x0 x5 y0 y5).mono ?_
    rintro e w' ⟨rfl, hx⟩
    refine ⟨_, rfl, fun h => ?_, hx⟩
    have hy : 0 < vb := by simpa [gok] using h
    have h1 := (mul_small (y := vw - 1) (v := vh) (by omega) (by omega) (by omega) g5)
    have h2 := (mul_small (y := vb - 1) (v := vw) (by omega) (by omega) (by omega) w5)
    have h3 : 0 ≤ (vw - 1) * vh := Int.mul_nonneg (by omega) (by omega)
    have h4 : 0 ≤ (vb - 1) * vw := Int.mul_nonneg (by omega) (by omega)
    show bits .xor .i64 (gd vw vh va (vb - 1)) 1 = gd vw vh va (vb - 1) + 1
    unfold gd
    exact bits_even (by omega) (by omega)
  | 2, _ =>
    refine (gridDart_two vw vh va vb W w1 w5 g1 g5 x0 x5 y0 y5).mono ?_
    rintro e w' ⟨rfl, hx⟩
    refine ⟨_, rfl, fun h => ?_, hx⟩
    have hy : 0 < va := by simpa [gok] using h
    have h1 := (mul_small (y := vb) (v := vw - 1) (by omega) (by omega) (by omega) (by omega))
    have h3 : 0 ≤ vb * (vw - 1) := Int.mul_nonneg (by omega) (by omega)
    show bits .xor .i64 (gr vw (va - 1) vb) 1 = gr vw (va - 1) vb + 1
    unfold gr
    exact bits_even (by omega) (by omega)
  | 3, _ =>
    refine (gridDart_three vw vh va vb W w1 w5 g1 g5 x0 x5 y0 y5).mono ?_
    rintro e w' ⟨rfl, hx⟩
    exact ⟨_, rfl, fun _ => rfl, hx⟩

/-- a list of numbers as values -/
def vi (l : List Int) : List Value := l.map (Value.int .i64)
theorem vi_app (l : List Int) (z : Int) : vi (l ++ [z]) = vi l ++ [.int .i64 z] := by simp [vi]

set_option maxHeartbeats 4000000 in
set_option maxRecDepth 100000 in
theorem gridDarts_any (vw vh va vb : Int) (W : World) (w1 : 1 ≤ vw) (w5 : vw ≤ 5) (g1 : 1 ≤ vh) (g5 : vh ≤ 5) (x0 : 0 ≤ va) (x5 : va ≤ 5) (y0 : 0 ≤ vb) (y5 : vb ≤ 5) :
    Calls Tryz.prog 125 #[.int .i64 vw, .int .i64 vh, .int .i64 va, .int .i64 vb] W fun e W' => ∃ v, e = .returned v ∧ W'.ownsRow W.heap.size 3 1 v (ard vw vh va vb 4).length (vi (ard vw vh va vb 4)) ∧ Ext W W' := by
  obtain ⟨i0, hi, hz0, hz1, hz2⟩ := info_parts info3
  have HI := Lib.hid (And.intro hi (And.intro hz0 (And.intro hz1 hz2)))
  clear hi hz0 hz1 hz2
  have hG : ∀ k w, k < 4 → Calls Tryz.prog 176 #[.int .i64 vw, .int .i64 vh, .int .i64 va, .int .i64 vb, .int .i64 (k : Nat)] w fun e W' => ∃ z, e = .returned (.tuple #[.int .i64 z, .bool (gok vw vh va vb k)]) ∧ (gok vw vh va vb k = true → z = gdv vw vh va vb k) ∧ Ext w W' := fun k w hk => gridDart_any vw vh va vb k w hk w1 w5 g1 g5 x0 x5 y0 y5
  have HG := Lib.hid hG
  clear hG w1 w5 g1 g5 x0 x5 y0 y5
  go_enter Tryz.func125, Tryz.ntmps125
  go_upto_region 3 with fail
  go_loopw [9, 13] (fun q i wr => ∃ (k : Nat), i = .int .i64 k ∧ k ≤ 4 ∧ Hid (wr.ownsRow W.heap.size 3 1 q (ard vw vh va vb k).length (vi (ard vw vh va vb k)) ∧ Ext W wr)) (fun _ i _ => 4 - (intOf i).toNat)
  case atStart => exact ⟨0, rfl, Nat.zero_le _, Lib.hid ⟨World.ownsRow_nil _ _ _ _, Ext.refl _⟩⟩
  case round =>
    obtain ⟨k, rfl, hk, hin⟩ := hrel
    obtain ⟨Av, cv, rfl⟩ := shape_own hin.out.1
    by_cases hlt : k < 4
    · go_wp2_with fail
      refine (HG.out k _ hlt).mono ?_
      rintro e w2 ⟨z, rfl, hz, hx⟩
      have hown := World.ownsRow.ext hin.out.1 hx
      have hex := hin.out.2.trans hx
      have hl4 := ard_len vw vh va vb k
      cases hg : gok vw vh va vb k
      · have hs : ard vw vh va vb (k + 1) = ard vw vh va vb k := by rw [ard_succ, hg]; simp
        have HN : Hid (w2.ownsRow W.heap.size 3 1 (.slice Av (ard vw vh va vb k).length cv) (ard vw vh va vb (k + 1)).length (vi (ard vw vh va vb (k + 1))) ∧ Ext W w2) := Lib.hid (by rw [hs]; exact ⟨hown, hex⟩)
        clear hs hown hex hz hx hg
        go_wp2
        go_roundw
        case rel => exact ⟨k + 1, by go_num, by omega, HN⟩
        case measure => simp [intOf]; omega
      · rw [hg] at hz
        obtain rfl := hz rfl
        have hs : ard vw vh va vb (k + 1) = ard vw vh va vb k ++ [gdv vw vh va vb k] := by rw [ard_succ, hg]; simp
        obtain ⟨z, hz⟩ : ∃ z, z = gdv vw vh va vb k := ⟨_, rfl⟩
        rw [← hz] at hs ⊢
        have HS := Lib.hid hs
        have HO := Lib.hid (And.intro hown hex)
        obtain ⟨L, hL⟩ : ∃ L, L = (ard vw vh va vb k).length := ⟨_, rfl⟩
        have HL := Lib.hid hL
        rw [← hL] at hown HO hl4 hin ⊢
        clear hs hz hx hg hex hL
        go_wp2_with (at_builtin; refine wpList_append_own _ rfl _ _ 22 rfl W.heap.size 3 i0 (.int .i64 0) 1 8 Tryz.underlying22 HI.out.1 HI.out.2.1 HI.out.2.2.1 HI.out.2.2.2 rfl (by decide) _ L _ rfl (World.ownsRow.ext hown (Ext.alc (Ext.refl w2) (.cells #[.int .i64 z] 3))) ⟨w2.heap.size, 0, none⟩ 1 1 [.int .i64 z] rfl rfl (cell_one_new _ _ _) ?c2 ?c3 ?c4 ?c5 ?_)
        case c2 => intro uu hu; simp at hu; subst hu; rfl
        case c3 => unfold maxLen; omega
        case c4 => omega
        case c5 => have := HO.out.2.size; simp; omega
        intro v' w3 hown' hgrow _hnil
        clear _hnil
        have hex : Ext W w3 := ext_grow (HO.out.2.alc _) hgrow (fun b' hb' => (World.ownsRow.lt hown b' hb').1) (Nat.le_refl _)
        have HN : Hid (w3.ownsRow W.heap.size 3 1 v' (ard vw vh va vb (k + 1)).length (vi (ard vw vh va vb (k + 1))) ∧ Ext W w3) := Lib.hid ⟨by
          rw [HS.out, vi_app, List.length_append, ← HL.out]; exact hown', hex⟩
        clear hown' hex hgrow hown
        go_wp2
        go_roundw
        case rel => exact ⟨k + 1, by go_num, by omega, HN⟩
        case measure => simp [intOf]; omega
    · obtain rfl : k = 4 := by omega
      go_wp2
      go_ret
      exact ⟨_, rfl, hin.out.1, hin.out.2⟩
end Go.Proofs.YtijhbmdbnnmogaaGreat.G
