/- Walks: gridDart. · Walks: gridDart, the other two directions. · Rows of the call's own that grow. -/
import Derived.Test.YtijhbmdbnnmogaaM3
import Derived.Test.YtijhbmdbnnmogaaM4
import Derived.Test.YtijhbmdbnnmogaaM2
import Derived.Maps.AppendAt
namespace Go.Proofs.Ytijhbmdbnnmogaa.G
open Go.RowKit

/-- is there a dart in direction k? -/
def gok (w h x y : Int) (k : Nat) : Bool := if k = 0 then decide (x < w - 1) else if k = 1 then decide (0 < y) else if k = 2 then decide (0 < x) else decide (y < h - 1)
/-- which -/
def gdv (w h x y : Int) (k : Nat) : Int := if k = 0 then gr w x y else if k = 1 then gd w h x (y - 1) + 1 else if k = 2 then gr w (x - 1) y + 1 else gd w h x y
theorem kpG {w : World} {b : Nat} {x : Obj} (h : w.heap[b]? = some x) (o : Obj) : (w.alloc o).heap[b]? = some x := (Below.heap_alloc w o b (Array.getElem?_eq_some_iff.1 h).1).trans h
theorem bits_even {m : Int} (h0 : 0 ≤ m) (h1 : m ≤ 1000) : bits .xor .i64 (2 * m) 1 = 2 * m + 1 := by
  obtain ⟨a, rfl⟩ : ∃ a : Nat, m = a := ⟨m.toNat, by omega⟩
  have h := bits_rev (2 * a) (by omega)
  have hr : rev (2 * a) = 2 * a + 1 := by unfold rev; rw [if_pos (by omega)]
  rw [hr] at h
  have e : (2 : Int) * (a : Int) = ((2 * a : Nat) : Int) := by omega
  rw [e, h]
  omega

set_option maxHeartbeats 4000000 in
set_option maxRecDepth 100000 in
theorem gridDart_zero (vw vh va vb : Int) (W : World) (w1 : 1 ≤ vw) (w5 : vw ≤ 5) (g1 : 1 ≤ vh) (g5 : vh ≤ 5) (x0 : 0 ≤ va) (x5 : va ≤ 5) (y0 : 0 ≤ vb) (y5 : vb ≤ 5) :
    Calls Try.prog 52 #[.int .i64 vw, .int .i64 vh, .int .i64 va, .int .i64 vb, .int .i64 0] W fun e W' => e = .returned (.tuple #[.int .i64 (gr vw va vb), .bool (decide (va < vw - 1))]) ∧ Ext W W' := by
  obtain ⟨r, hr⟩ : ∃ r, r = gr vw va vb := ⟨_, rfl⟩
  rw [← hr]
  have hwr : IntKind.i64.wrap (vw - 1) = vw - 1 := IntWalk.i64_in _ (by omega)
  go_enter Try.func52, Try.ntmps52
  go_upto_region 6 with fail
  have bb := al2 W (.cells #[.int .i64 vw] 3) (.cells #[.int .i64 vh] 3)
  have h0 := kpG (heap_alloc_new W (.cells #[.int .i64 vw] 3)) (.cells #[.int .i64 vh] 3)
  have h1 := heap_alloc_new (W.alloc (.cells #[.int .i64 vw] 3)) (.cells #[.int .i64 vh] 3)
  simp only [World.size_alloc] at h1
  obtain ⟨m0, -, mz0⟩ := uno h0
  obtain ⟨m1, -, mz1⟩ := uno h1
  generalize (W.alloc (.cells #[.int .i64 vw] 3)).alloc (.cells #[.int .i64 vh] 3) = W1 at *
  have HB : Hid (Ext W W1) := Lib.hid bb
  have hcl : ∀ X, Ext W1 X → Calls Try.prog 63 #[.int .i64 va, .int .i64 vb, .pointer (some ⟨W.heap.size, 0, none⟩)] X fun e W' => e = .returned (.int .i64 r) ∧ X = W' := fun X hX => by
    rw [hr]; exact right_any vw va vb _ X (keepAt hX mz0 m0) w1 w5 (by omega) x5 (by omega) y5
  have HCL := Lib.hid hcl
  have HM := Lib.hid (And.intro m0 m1)
  clear bb h0 h1 hcl hr m0 m1
  refine wp_region_noPanic ?_
  refine wp_pool 9 [some 27, some 28, some 29, some 30, some 31, some 32, some 33, some 34, some 10] [] [] [(fun (v : Value) (_ : World) => v = .func (.func 63) #[] #[.pointer (some ⟨W.heap.size, 0, none⟩)]), (fun (v : Value) (_ : World) => v = .int .i64 va), (fun (v : Value) (_ : World) => v = .int .i64 vb), (fun (v : Value) (_ : World) => v = .int .i64 r), (fun (v : Value) (_ : World) => v = .int .i64 va), (fun (v : Value) (_ : World) => v = .int .i64 vw), (fun (v : Value) (_ : World) => v = .int .i64 (vw - 1)), (fun (v : Value) (_ : World) => v = .bool (decide (va < vw - 1))), (fun (v : Value) (_ : World) => v = .int .i64 r)] [noF, noF, noF, noF, noF, noF, noF, noF, noF] (by kernel_rfl) (by kernel_rfl) (by kernel_rfl) (by kernel_rfl) (by kernel_rfl) (by kernel_rfl) (by kernel_rfl) (by kernel_rfl) (fun _ _ _ _ h => h) ⟨Stays.pure _, Stays.pure _, Stays.pure _, Stays.pure _, Stays.pure _, Stays.pure _, Stays.pure _, Stays.pure _, Stays.pure _, True.intro⟩ ?steps ?done
  case steps =>
    simp only [List.take_succ_cons, List.take_zero]
    refine Steps.cons (fun (v : Value) (_ : World) => v = .func (.func 63) #[] #[.pointer (some ⟨W.heap.size, 0, none⟩)]) [] rfl (by kernel_rfl) rfl (by kernel_rfl) (fun y X ex0 hf K hK => ?_) ?_
    · clear hf
      have ex := (Ext.drw (Ext.refl _)).trans ex0
      refine Box.mk ?_
      simp only [fill, Act.put, Nat.reduceAdd, List.setIfInBounds_toArray, List.set_cons_zero, List.set_cons_succ] at hK ⊢
      go_simp
      exact hK.out _ _ rfl (Ext.refl _) (fun b hb => by cases hb)
    refine Steps.cons (fun (v : Value) (_ : World) => v = .int .i64 va) [] rfl (by kernel_rfl) rfl (by kernel_rfl) (fun y X ex0 hf K hK => ?_) ?_
    · clear hf
      have ex := (Ext.drw (Ext.refl _)).trans ex0
      refine Box.mk ?_
      simp only [fill, Act.put, Nat.reduceAdd, List.setIfInBounds_toArray, List.set_cons_zero, List.set_cons_succ] at hK ⊢
      go_simp
      exact hK.out _ _ rfl (Ext.refl _) (fun b hb => by cases hb)
    refine Steps.cons (fun (v : Value) (_ : World) => v = .int .i64 vb) [] rfl (by kernel_rfl) rfl (by kernel_rfl) (fun y X ex0 hf K hK => ?_) ?_
    · clear hf
      have ex := (Ext.drw (Ext.refl _)).trans ex0
      refine Box.mk ?_
      simp only [fill, Act.put, Nat.reduceAdd, List.setIfInBounds_toArray, List.set_cons_zero, List.set_cons_succ] at hK ⊢
      go_simp
      exact hK.out _ _ rfl (Ext.refl _) (fun b hb => by cases hb)
    refine Steps.cons (fun (v : Value) (_ : World) => v = .int .i64 r) [0, 1, 2] rfl (by kernel_rfl) rfl (by kernel_rfl) (fun y X ex0 hf K hK => ?_) ?_
    · have h0 : ((fun (v : Value) (_ : World) => v = .func (.func 63) #[] #[.pointer (some ⟨W.heap.size, 0, none⟩)])) (y 0) X := hf.1
      have h1 : ((fun (v : Value) (_ : World) => v = .int .i64 va)) (y 1) X := hf.2.1
      have h2 : ((fun (v : Value) (_ : World) => v = .int .i64 vb)) (y 2) X := hf.2.2.1
      clear hf
      have ex := (Ext.drw (Ext.refl _)).trans ex0
      refine Box.mk ?_
      simp only [fill, Act.put, Nat.reduceAdd, List.setIfInBounds_toArray, List.set_cons_zero, List.set_cons_succ, h0, h1, h2] at hK ⊢
      go_simp
      refine (HCL.out _ ex).mono ?_
      rintro e V ⟨rfl, rfl⟩
      try go_wp2_with fail
      exact hK.out _ _ rfl (Ext.refl _) (fun b hb => by cases hb)
    refine Steps.cons (fun (v : Value) (_ : World) => v = .int .i64 va) [] rfl (by kernel_rfl) rfl (by kernel_rfl) (fun y X ex0 hf K hK => ?_) ?_
    · clear hf
      have ex := (Ext.drw (Ext.refl _)).trans ex0
      refine Box.mk ?_
      simp only [fill, Act.put, Nat.reduceAdd, List.setIfInBounds_toArray, List.set_cons_zero, List.set_cons_succ] at hK ⊢
      go_simp
      exact hK.out _ _ rfl (Ext.refl _) (fun b hb => by cases hb)
    refine Steps.cons (fun (v : Value) (_ : World) => v = .int .i64 vw) [] rfl (by kernel_rfl) rfl (by kernel_rfl) (fun y X ex0 hf K hK => ?_) ?_
    · clear hf
      have ex := (Ext.drw (Ext.refl _)).trans ex0
      refine Box.mk ?_
      simp only [fill, Act.put, Nat.reduceAdd, List.setIfInBounds_toArray, List.set_cons_zero, List.set_cons_succ] at hK ⊢
      have q5 := keepAt ex mz0 HM.out.1
      go_simp
      exact hK.out _ _ rfl (Ext.refl _) (fun b hb => by cases hb)
    refine Steps.cons (fun (v : Value) (_ : World) => v = .int .i64 (vw - 1)) [5] rfl (by kernel_rfl) rfl (by kernel_rfl) (fun y X ex0 hf K hK => ?_) ?_
    · have h5 : ((fun (v : Value) (_ : World) => v = .int .i64 vw)) (y 5) X := hf.1
      clear hf
      have ex := (Ext.drw (Ext.refl _)).trans ex0
      refine Box.mk ?_
      simp only [fill, Act.put, Nat.reduceAdd, List.setIfInBounds_toArray, List.set_cons_zero, List.set_cons_succ, h5] at hK ⊢
      go_simp
      exact hK.out _ _ rfl (Ext.refl _) (fun b hb => by cases hb)
    refine Steps.cons (fun (v : Value) (_ : World) => v = .bool (decide (va < vw - 1))) [4, 6] rfl (by kernel_rfl) rfl (by kernel_rfl) (fun y X ex0 hf K hK => ?_) ?_
    · have h4 : ((fun (v : Value) (_ : World) => v = .int .i64 va)) (y 4) X := hf.1
      have h6 : ((fun (v : Value) (_ : World) => v = .int .i64 (vw - 1))) (y 6) X := hf.2.1
      clear hf
      have ex := (Ext.drw (Ext.refl _)).trans ex0
      refine Box.mk ?_
      simp only [fill, Act.put, Nat.reduceAdd, List.setIfInBounds_toArray, List.set_cons_zero, List.set_cons_succ, h4, h6] at hK ⊢
      go_simp
      exact hK.out _ _ rfl (Ext.refl _) (fun b hb => by cases hb)
    refine Steps.cons (fun (v : Value) (_ : World) => v = .int .i64 r) [3, 0, 1, 2] rfl (by kernel_rfl) rfl (by kernel_rfl) (fun y X ex0 hf K hK => ?_) ?_
    · have h3 : ((fun (v : Value) (_ : World) => v = .int .i64 r)) (y 3) X := hf.1
      have h0 : ((fun (v : Value) (_ : World) => v = .func (.func 63) #[] #[.pointer (some ⟨W.heap.size, 0, none⟩)])) (y 0) X := hf.2.1
      have h1 : ((fun (v : Value) (_ : World) => v = .int .i64 va)) (y 1) X := hf.2.2.1
      have h2 : ((fun (v : Value) (_ : World) => v = .int .i64 vb)) (y 2) X := hf.2.2.2.1
      clear hf
      have ex := (Ext.drw (Ext.refl _)).trans ex0
      refine Box.mk ?_
      simp only [fill, Act.put, Nat.reduceAdd, List.setIfInBounds_toArray, List.set_cons_zero, List.set_cons_succ, h3, h0, h1, h2] at hK ⊢
      go_simp
      exact hK.out _ _ rfl (Ext.refl _) (fun b hb => by cases hb)
    exact Steps.nil
  case done =>
    intro y X ex hf hlt hsep
    have h0 : ((fun (v : Value) (_ : World) => v = .func (.func 63) #[] #[.pointer (some ⟨W.heap.size, 0, none⟩)])) (y 0) X := hf.1
    have h1 : ((fun (v : Value) (_ : World) => v = .int .i64 va)) (y 1) X := hf.2.1
    have h2 : ((fun (v : Value) (_ : World) => v = .int .i64 vb)) (y 2) X := hf.2.2.1
    have h3 : ((fun (v : Value) (_ : World) => v = .int .i64 r)) (y 3) X := hf.2.2.2.1
    have h4 : ((fun (v : Value) (_ : World) => v = .int .i64 va)) (y 4) X := hf.2.2.2.2.1
    have h5 : ((fun (v : Value) (_ : World) => v = .int .i64 vw)) (y 5) X := hf.2.2.2.2.2.1
    have h6 : ((fun (v : Value) (_ : World) => v = .int .i64 (vw - 1))) (y 6) X := hf.2.2.2.2.2.2.1
    have h7 : ((fun (v : Value) (_ : World) => v = .bool (decide (va < vw - 1)))) (y 7) X := hf.2.2.2.2.2.2.2.1
    have h8 : ((fun (v : Value) (_ : World) => v = .int .i64 r)) (y 8) X := hf.2.2.2.2.2.2.2.2.1
    clear hf
    clear hsep hlt
    refine Box.mk ?_
    simp only [List.drop_succ_cons, List.drop_zero, fill, Act.put, Nat.reduceAdd, List.setIfInBounds_toArray, List.set_cons_zero, List.set_cons_succ, h0, h1, h2, h3, h4, h5, h6, h7, h8]
    clear h0 h1 h2 h3 h4 h5 h6 h7 h8
    have EX := Lib.hid ex; clear ex
    go_wp2_with fail
    refine NoPanic.normal ?_
    go_wp2
    refine bodyPost_ret (v := .tuple #[.int .i64 r, .bool (decide (va < vw - 1))]) (by simp [results, Try.results52, go_sem]) rfl ⟨rfl, HB.out.trans EX.out⟩

set_option maxHeartbeats 4000000 in
set_option maxRecDepth 100000 in
theorem gridDart_three (vw vh va vb : Int) (W : World) (w1 : 1 ≤ vw) (w5 : vw ≤ 5) (g1 : 1 ≤ vh) (g5 : vh ≤ 5) (x0 : 0 ≤ va) (x5 : va ≤ 5) (y0 : 0 ≤ vb) (y5 : vb ≤ 5) :
    Calls Try.prog 52 #[.int .i64 vw, .int .i64 vh, .int .i64 va, .int .i64 vb, .int .i64 3] W fun e W' => e = .returned (.tuple #[.int .i64 (gd vw vh va vb), .bool (decide (vb < vh - 1))]) ∧ Ext W W' := by
  obtain ⟨r, hr⟩ : ∃ r, r = gd vw vh va vb := ⟨_, rfl⟩
  rw [← hr]
  have hwr : IntKind.i64.wrap (vh - 1) = vh - 1 := IntWalk.i64_in _ (by omega)
  go_enter Try.func52, Try.ntmps52
  go_upto_region 4 with fail
  have bb := al2 W (.cells #[.int .i64 vw] 3) (.cells #[.int .i64 vh] 3)
  have h0 := kpG (heap_alloc_new W (.cells #[.int .i64 vw] 3)) (.cells #[.int .i64 vh] 3)
  have h1 := heap_alloc_new (W.alloc (.cells #[.int .i64 vw] 3)) (.cells #[.int .i64 vh] 3)
  simp only [World.size_alloc] at h1
  obtain ⟨m0, -, mz0⟩ := uno h0
  obtain ⟨m1, -, mz1⟩ := uno h1
  generalize (W.alloc (.cells #[.int .i64 vw] 3)).alloc (.cells #[.int .i64 vh] 3) = W1 at *
  have HB : Hid (Ext W W1) := Lib.hid bb
  have hcl : ∀ X, Ext W1 X → Calls Try.prog 64 #[.int .i64 va, .int .i64 vb, .pointer (some ⟨W.heap.size, 0, none⟩), .pointer (some ⟨W.heap.size + 1, 0, none⟩)] X fun e W' => e = .returned (.int .i64 r) ∧ X = W' := fun X hX => by
    rw [hr]; exact down_any vw vh va vb _ _ X (keepAt hX mz0 m0) (keepAt hX mz1 m1) w1 w5 g1 g5 (by omega) x5 (by omega) y5
  have HCL := Lib.hid hcl
  have HM := Lib.hid (And.intro m0 m1)
  clear bb h0 h1 hcl hr m0 m1
  refine wp_region_noPanic ?_
  refine wp_pool 9 [some 17, some 18, some 19, some 20, some 21, some 22, some 23, some 24, some 10] [] [] [(fun (v : Value) (_ : World) => v = .func (.func 64) #[] #[.pointer (some ⟨W.heap.size, 0, none⟩), .pointer (some ⟨W.heap.size + 1, 0, none⟩)]), (fun (v : Value) (_ : World) => v = .int .i64 va), (fun (v : Value) (_ : World) => v = .int .i64 vb), (fun (v : Value) (_ : World) => v = .int .i64 r), (fun (v : Value) (_ : World) => v = .int .i64 vb), (fun (v : Value) (_ : World) => v = .int .i64 vh), (fun (v : Value) (_ : World) => v = .int .i64 (vh - 1)), (fun (v : Value) (_ : World) => v = .bool (decide (vb < vh - 1))), (fun (v : Value) (_ : World) => v = .int .i64 r)] [noF, noF, noF, noF, noF, noF, noF, noF, noF] (by kernel_rfl) (by kernel_rfl) (by kernel_rfl) (by kernel_rfl) (by kernel_rfl) (by kernel_rfl) (by kernel_rfl) (by kernel_rfl) (fun _ _ _ _ h => h) ⟨Stays.pure _, Stays.pure _, Stays.pure _, Stays.pure _, Stays.pure _, Stays.pure _, Stays.pure _, Stays.pure _, Stays.pure _, True.intro⟩ ?steps ?done
  case steps =>
    simp only [List.take_succ_cons, List.take_zero]
    refine Steps.cons (fun (v : Value) (_ : World) => v = .func (.func 64) #[] #[.pointer (some ⟨W.heap.size, 0, none⟩), .pointer (some ⟨W.heap.size + 1, 0, none⟩)]) [] rfl (by kernel_rfl) rfl (by kernel_rfl) (fun y X ex0 hf K hK => ?_) ?_
    · clear hf
      have ex := (Ext.drw (Ext.refl _)).trans ex0
      refine Box.mk ?_
      simp only [fill, Act.put, Nat.reduceAdd, List.setIfInBounds_toArray, List.set_cons_zero, List.set_cons_succ] at hK ⊢
      go_simp
      exact hK.out _ _ rfl (Ext.refl _) (fun b hb => by cases hb)
    refine Steps.cons (fun (v : Value) (_ : World) => v = .int .i64 va) [] rfl (by kernel_rfl) rfl (by kernel_rfl) (fun y X ex0 hf K hK => ?_) ?_
    · clear hf
      have ex := (Ext.drw (Ext.refl _)).trans ex0
      refine Box.mk ?_
      simp only [fill, Act.put, Nat.reduceAdd, List.setIfInBounds_toArray, List.set_cons_zero, List.set_cons_succ] at hK ⊢
      go_simp
      exact hK.out _ _ rfl (Ext.refl _) (fun b hb => by cases hb)
    refine Steps.cons (fun (v : Value) (_ : World) => v = .int .i64 vb) [] rfl (by kernel_rfl) rfl (by kernel_rfl) (fun y X ex0 hf K hK => ?_) ?_
    · clear hf
      have ex := (Ext.drw (Ext.refl _)).trans ex0
      refine Box.mk ?_
      simp only [fill, Act.put, Nat.reduceAdd, List.setIfInBounds_toArray, List.set_cons_zero, List.set_cons_succ] at hK ⊢
      go_simp
      exact hK.out _ _ rfl (Ext.refl _) (fun b hb => by cases hb)
    refine Steps.cons (fun (v : Value) (_ : World) => v = .int .i64 r) [0, 1, 2] rfl (by kernel_rfl) rfl (by kernel_rfl) (fun y X ex0 hf K hK => ?_) ?_
    · have h0 : ((fun (v : Value) (_ : World) => v = .func (.func 64) #[] #[.pointer (some ⟨W.heap.size, 0, none⟩), .pointer (some ⟨W.heap.size + 1, 0, none⟩)])) (y 0) X := hf.1
      have h1 : ((fun (v : Value) (_ : World) => v = .int .i64 va)) (y 1) X := hf.2.1
      have h2 : ((fun (v : Value) (_ : World) => v = .int .i64 vb)) (y 2) X := hf.2.2.1
      clear hf
      have ex := (Ext.drw (Ext.refl _)).trans ex0
      refine Box.mk ?_
      simp only [fill, Act.put, Nat.reduceAdd, List.setIfInBounds_toArray, List.set_cons_zero, List.set_cons_succ, h0, h1, h2] at hK ⊢
      go_simp
      refine (HCL.out _ ex).mono ?_
      rintro e V ⟨rfl, rfl⟩
      try go_wp2_with fail
      exact hK.out _ _ rfl (Ext.refl _) (fun b hb => by cases hb)
    refine Steps.cons (fun (v : Value) (_ : World) => v = .int .i64 vb) [] rfl (by kernel_rfl) rfl (by kernel_rfl) (fun y X ex0 hf K hK => ?_) ?_
    · clear hf
      have ex := (Ext.drw (Ext.refl _)).trans ex0
      refine Box.mk ?_
      simp only [fill, Act.put, Nat.reduceAdd, List.setIfInBounds_toArray, List.set_cons_zero, List.set_cons_succ] at hK ⊢
      go_simp
      exact hK.out _ _ rfl (Ext.refl _) (fun b hb => by cases hb)
    refine Steps.cons (fun (v : Value) (_ : World) => v = .int .i64 vh) [] rfl (by kernel_rfl) rfl (by kernel_rfl) (fun y X ex0 hf K hK => ?_) ?_
    · clear hf
      have ex := (Ext.drw (Ext.refl _)).trans ex0
      refine Box.mk ?_
      simp only [fill, Act.put, Nat.reduceAdd, List.setIfInBounds_toArray, List.set_cons_zero, List.set_cons_succ] at hK ⊢
      have q5 := keepAt ex mz1 HM.out.2
      go_simp
      exact hK.out _ _ rfl (Ext.refl _) (fun b hb => by cases hb)
    refine Steps.cons (fun (v : Value) (_ : World) => v = .int .i64 (vh - 1)) [5] rfl (by kernel_rfl) rfl (by kernel_rfl) (fun y X ex0 hf K hK => ?_) ?_
    · have h5 : ((fun (v : Value) (_ : World) => v = .int .i64 vh)) (y 5) X := hf.1
      clear hf
      have ex := (Ext.drw (Ext.refl _)).trans ex0
      refine Box.mk ?_
      simp only [fill, Act.put, Nat.reduceAdd, List.setIfInBounds_toArray, List.set_cons_zero, List.set_cons_succ, h5] at hK ⊢
      go_simp
      exact hK.out _ _ rfl (Ext.refl _) (fun b hb => by cases hb)
    refine Steps.cons (fun (v : Value) (_ : World) => v = .bool (decide (vb < vh - 1))) [4, 6] rfl (by kernel_rfl) rfl (by kernel_rfl) (fun y X ex0 hf K hK => ?_) ?_
    · have h4 : ((fun (v : Value) (_ : World) => v = .int .i64 vb)) (y 4) X := hf.1
      have h6 : ((fun (v : Value) (_ : World) => v = .int .i64 (vh - 1))) (y 6) X := hf.2.1
      clear hf
      have ex := (Ext.drw (Ext.refl _)).trans ex0
      refine Box.mk ?_
      simp only [fill, Act.put, Nat.reduceAdd, List.setIfInBounds_toArray, List.set_cons_zero, List.set_cons_succ, h4, h6] at hK ⊢
      go_simp
      exact hK.out _ _ rfl (Ext.refl _) (fun b hb => by cases hb)
    refine Steps.cons (fun (v : Value) (_ : World) => v = .int .i64 r) [3, 0, 1, 2] rfl (by kernel_rfl) rfl (by kernel_rfl) (fun y X ex0 hf K hK => ?_) ?_
    · have h3 : ((fun (v : Value) (_ : World) => v = .int .i64 r)) (y 3) X := hf.1
      have h0 : ((fun (v : Value) (_ : World) => v = .func (.func 64) #[] #[.pointer (some ⟨W.heap.size, 0, none⟩), .pointer (some ⟨W.heap.size + 1, 0, none⟩)])) (y 0) X := hf.2.1
      have h1 : ((fun (v : Value) (_ : World) => v = .int .i64 va)) (y 1) X := hf.2.2.1
      have h2 : ((fun (v : Value) (_ : World) => v = .int .i64 vb)) (y 2) X := hf.2.2.2.1
      clear hf
      have ex := (Ext.drw (Ext.refl _)).trans ex0
      refine Box.mk ?_
      simp only [fill, Act.put, Nat.reduceAdd, List.setIfInBounds_toArray, List.set_cons_zero, List.set_cons_succ, h3, h0, h1, h2] at hK ⊢
      go_simp
      exact hK.out _ _ rfl (Ext.refl _) (fun b hb => by cases hb)
    exact Steps.nil
  case done =>
    intro y X ex hf hlt hsep
    have h0 : ((fun (v : Value) (_ : World) => v = .func (.func 64) #[] #[.pointer (some ⟨W.heap.size, 0, none⟩), .pointer (some ⟨W.heap.size + 1, 0, none⟩)])) (y 0) X := hf.1
    have h1 : ((fun (v : Value) (_ : World) => v = .int .i64 va)) (y 1) X := hf.2.1
    have h2 : ((fun (v : Value) (_ : World) => v = .int .i64 vb)) (y 2) X := hf.2.2.1
    have h3 : ((fun (v : Value) (_ : World) => v = .int .i64 r)) (y 3) X := hf.2.2.2.1
    have h4 : ((fun (v : Value) (_ : World) => v = .int .i64 vb)) (y 4) X := hf.2.2.2.2.1
    have h5 : ((fun (v : Value) (_ : World) => v = .int .i64 vh)) (y 5) X := hf.2.2.2.2.2.1
    have h6 : ((fun (v : Value) (_ : World) => v = .int .i64 (vh - 1))) (y 6) X := hf.2.2.2.2.2.2.1
    have h7 : ((fun (v : Value) (_ : World) => v = .bool (decide (vb < vh - 1)))) (y 7) X := hf.2.2.2.2.2.2.2.1
    have h8 : ((fun (v : Value) (_ : World) => v = .int .i64 r)) (y 8) X := hf.2.2.2.2.2.2.2.2.1
    clear hf
    clear hsep hlt
    refine Box.mk ?_
    simp only [List.drop_succ_cons, List.drop_zero, fill, Act.put, Nat.reduceAdd, List.setIfInBounds_toArray, List.set_cons_zero, List.set_cons_succ, h0, h1, h2, h3, h4, h5, h6, h7, h8]
    clear h0 h1 h2 h3 h4 h5 h6 h7 h8
    have EX := Lib.hid ex; clear ex
    go_wp2_with fail
    refine NoPanic.normal ?_
    go_wp2
    refine bodyPost_ret (v := .tuple #[.int .i64 r, .bool (decide (vb < vh - 1))]) (by simp [results, Try.results52, go_sem]) rfl ⟨rfl, HB.out.trans EX.out⟩

end Go.Proofs.Ytijhbmdbnnmogaa.G
namespace Go.Proofs.Ytijhbmdbnnmogaa.G
open Go.RowKit

set_option maxHeartbeats 4000000 in
set_option maxRecDepth 100000 in
theorem gridDart_one (vw vh va vb : Int) (W : World) (w1 : 1 ≤ vw) (w5 : vw ≤ 5) (g1 : 1 ≤ vh) (g5 : vh ≤ 5) (x0 : 0 ≤ va) (x5 : va ≤ 5) (y0 : 0 ≤ vb) (y5 : vb ≤ 5) :
    Calls Try.prog 52 #[.int .i64 vw, .int .i64 vh, .int .i64 va, .int .i64 vb, .int .i64 1] W fun e W' => e = .returned (.tuple #[.int .i64 (bits .xor .i64 (gd vw vh va (vb - 1)) 1), .bool (decide (0 < vb))]) ∧ Ext W W' := by
  obtain ⟨r, hr⟩ : ∃ r, r = gd vw vh va (vb - 1) := ⟨_, rfl⟩
  rw [← hr]
  have hwr : IntKind.i64.wrap (vb - 1) = vb - 1 := IntWalk.i64_in _ (by omega)
  go_enter Try.func52, Try.ntmps52
  go_upto_region 8 with fail
  have bb := al2 W (.cells #[.int .i64 vw] 3) (.cells #[.int .i64 vh] 3)
  have h0 := kpG (heap_alloc_new W (.cells #[.int .i64 vw] 3)) (.cells #[.int .i64 vh] 3)
  have h1 := heap_alloc_new (W.alloc (.cells #[.int .i64 vw] 3)) (.cells #[.int .i64 vh] 3)
  simp only [World.size_alloc] at h1
  obtain ⟨m0, -, mz0⟩ := uno h0
  obtain ⟨m1, -, mz1⟩ := uno h1
  generalize (W.alloc (.cells #[.int .i64 vw] 3)).alloc (.cells #[.int .i64 vh] 3) = W1 at *
  have HB : Hid (Ext W W1) := Lib.hid bb
  have hcl : Calls Try.prog 64 #[.int .i64 va, .int .i64 (vb - 1), .pointer (some ⟨W.heap.size, 0, none⟩), .pointer (some ⟨W.heap.size + 1, 0, none⟩)] W1 fun e W' => e = .returned (.int .i64 r) ∧ W1 = W' := by
    rw [hr]; exact down_any vw vh va (vb - 1) _ _ W1 m0 m1 w1 w5 g1 g5 (by omega) x5 (by omega) (by omega)
  have HCL := Lib.hid hcl
  clear bb h0 h1 hcl hr m0 m1
  go_wp2_with fail
  refine HCL.out.mono ?_
  rintro e w2 ⟨rfl, rfl⟩
  go_wp2_with fail
  refine (opposite_int r _).mono ?_
  rintro e w2 ⟨rfl, rfl⟩
  obtain ⟨s, hs⟩ : ∃ s, s = bits .xor .i64 r 1 := ⟨_, rfl⟩
  rw [← hs]
  have HS := Lib.hid hs
  clear hs
  go_wp2
  refine bodyPost_ret (v := .tuple #[.int .i64 s, .bool (decide (0 < vb))]) (by simp [results, Try.results52, go_sem]) rfl ⟨by rw [HS.out], HB.out⟩

set_option maxHeartbeats 4000000 in
set_option maxRecDepth 100000 in
theorem gridDart_two (vw vh va vb : Int) (W : World) (w1 : 1 ≤ vw) (w5 : vw ≤ 5) (g1 : 1 ≤ vh) (g5 : vh ≤ 5) (x0 : 0 ≤ va) (x5 : va ≤ 5) (y0 : 0 ≤ vb) (y5 : vb ≤ 5) :
    Calls Try.prog 52 #[.int .i64 vw, .int .i64 vh, .int .i64 va, .int .i64 vb, .int .i64 2] W fun e W' => e = .returned (.tuple #[.int .i64 (bits .xor .i64 (gr vw (va - 1) vb) 1), .bool (decide (0 < va))]) ∧ Ext W W' := by
  obtain ⟨r, hr⟩ : ∃ r, r = gr vw (va - 1) vb := ⟨_, rfl⟩
  rw [← hr]
  have hwr : IntKind.i64.wrap (va - 1) = va - 1 := IntWalk.i64_in _ (by omega)
  go_enter Try.func52, Try.ntmps52
  go_upto_region 10 with fail
  have bb := al2 W (.cells #[.int .i64 vw] 3) (.cells #[.int .i64 vh] 3)
  have h0 := kpG (heap_alloc_new W (.cells #[.int .i64 vw] 3)) (.cells #[.int .i64 vh] 3)
  have h1 := heap_alloc_new (W.alloc (.cells #[.int .i64 vw] 3)) (.cells #[.int .i64 vh] 3)
  simp only [World.size_alloc] at h1
  obtain ⟨m0, -, mz0⟩ := uno h0
  obtain ⟨m1, -, mz1⟩ := uno h1
  generalize (W.alloc (.cells #[.int .i64 vw] 3)).alloc (.cells #[.int .i64 vh] 3) = W1 at *
  have HB : Hid (Ext W W1) := Lib.hid bb
  have hcl : Calls Try.prog 63 #[.int .i64 (va - 1), .int .i64 vb, .pointer (some ⟨W.heap.size, 0, none⟩)] W1 fun e W' => e = .returned (.int .i64 r) ∧ W1 = W' := by
    rw [hr]; exact right_any vw (va - 1) vb _ W1 m0 w1 w5 (by omega) (by omega) (by omega) y5
  have HCL := Lib.hid hcl
  clear bb h0 h1 hcl hr m0 m1
  go_wp2_with fail
  refine HCL.out.mono ?_
  rintro e w2 ⟨rfl, rfl⟩
  go_wp2_with fail
  refine (opposite_int r _).mono ?_
  rintro e w2 ⟨rfl, rfl⟩
  obtain ⟨s, hs⟩ : ∃ s, s = bits .xor .i64 r 1 := ⟨_, rfl⟩
  rw [← hs]
  have HS := Lib.hid hs
  clear hs
  go_wp2
  refine bodyPost_ret (v := .tuple #[.int .i64 s, .bool (decide (0 < va))]) (by simp [results, Try.results52, go_sem]) rfl ⟨by rw [HS.out], HB.out⟩

end Go.Proofs.Ytijhbmdbnnmogaa.G
namespace Go.Proofs.Ytijhbmdbnnmogaa.G
open Go.RowKit

/-- the list of the first k numbers -/
def nl (k : Nat) (x : Nat → Int) : List Value := (List.range k).map fun j => Value.int .i64 (x j)
theorem nl_get {k j : Nat} (x : Nat → Int) (h : j < k) : (nl k x)[j]? = some (.int .i64 (x j)) := by unfold nl; rw [List.getElem?_map, List.getElem?_range h]; rfl
theorem nl_len (k : Nat) (x : Nat → Int) : (nl k x).length = k := by simp [nl]
theorem nl_succ (k : Nat) (x : Nat → Int) : nl (k + 1) x = nl k x ++ [.int .i64 (x k)] := by simp [nl, List.range_succ]
theorem shape_own {w : World} {base : Nat} {e : TypeId} {size n : Nat} {v : Value} {xs : List Value} (h : w.ownsRow base e size v n xs) : ∃ A c, v = .slice A n c := by
  obtain ⟨-, ⟨rfl, rfl⟩ | ⟨g, cap, cur, rfl, -⟩⟩ := h
  · exact ⟨_, _, rfl⟩
  · exact ⟨_, _, rfl⟩
theorem own_mono {w : World} {base b' : Nat} {e : TypeId} {size n : Nat} {v : Value} {xs : List Value} (h : w.ownsRow base e size v n xs) (hb : b' ≤ base) : w.ownsRow b' e size v n xs :=
  ⟨h.1, h.2.imp id fun ⟨g, cap, cur, e, hg, rest⟩ => ⟨g, cap, cur, e, Nat.le_trans hb hg, rest⟩⟩
theorem ownsRow_il {w : World} {base n : Nat} {v : Value} {x : Nat → Int} (h : w.ownsRow base 3 1 v n (nl n x)) : Il w v n x := by
  obtain ⟨h1, ⟨rfl, h2⟩ | ⟨g, cap, cur, rfl, hb, hh, h5, h6, h7, h8⟩⟩ := h
  · subst h2
    exact ⟨none, 0, rfl, Nat.le_refl _, by omega, fun h => by omega⟩
  · refine ⟨_, cap, rfl, by omega, by simp only [maxLen] at *; omega, fun hp => ⟨g, 0, rfl, (Array.getElem?_eq_some_iff.1 hh).1, fun j hj => ?_⟩⟩
    rw [Nat.zero_add, cell_of_row w g j cur 3 (0, 0) hh]
    have h11 := nl_get x hj
    rw [← h8, List.getElem?_take, if_pos (by omega)] at h11
    simpa using h11
theorem ownsRow_far {w w' : World} {base n size : Nat} {e : TypeId} {v : Value} {xs : List Value} {r : Option Nat} (h : w.ownsRow base e size v n xs) (hg : w.grownBy w' r) (hne : ∀ b, v.ownBlock = some b → r ≠ some b) : w'.ownsRow base e size v n xs := by
  obtain ⟨h1, h2 | ⟨g, cap, cur, rfl, hb, hh, rest⟩⟩ := h
  · exact ⟨h1, .inl h2⟩
  · exact ⟨h1, .inr ⟨g, cap, cur, rfl, hb, (hg.block g (Array.getElem?_eq_some_iff.1 hh).1 (fun e => hne g rfl e.symm)).trans hh, rest⟩⟩
theorem ext_grow {X w w' : World} {base : Nat} {r : Option Nat} (e : Ext X w) (hg : w.grownBy w' r) (hr : ∀ b, r = some b → base ≤ b) (hb : X.heap.size ≤ base) : Ext X w' :=
  ⟨hg.os.trans e.os, hg.tape.trans e.tape, hg.output.trans e.output, Nat.le_trans e.size hg.size, fun b hb' => (hg.block b (Nat.lt_of_lt_of_le hb' e.size) (fun e2 => by have := hr b e2.symm; omega)).trans (e.block b hb')⟩
end Go.Proofs.Ytijhbmdbnnmogaa.G
