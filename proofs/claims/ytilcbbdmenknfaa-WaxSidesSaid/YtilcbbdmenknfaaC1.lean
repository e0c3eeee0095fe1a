/- Walks: the closures that say which steps are open. -/
import Derived.Test.YtilcbbdmenknfaaC0
import Derived.Test.YtilcbbdmenknfaaPl
namespace Go.Proofs.Ytilcbbdmenknfaa
open Go.RowKit

set_option maxRecDepth 100000 in
theorem open89 (g n c b off j : Nat) (x : Int) (W : World) (h4 : W.cell? ⟨g, 4, none⟩ = some (.slice (some ⟨b, off, none⟩) n c)) (hj : j < n) (hc : W.cell? ⟨b, off + j, none⟩ = some (.int .i64 x)) :
    Calls Try.prog 89 #[.int .i64 j, .pointer (some ⟨g, 0, none⟩)] W fun e W' => e = .returned (.bool (decide (0 < x))) ∧ Ext W W' := by
  go_enter Try.func89, Try.ntmps89
  go_wp2
  go_ret
  exact ⟨by rfl, Ext.refl _⟩
set_option maxRecDepth 100000 in
theorem open81 (g n c b off j : Nat) (x : Int) (W : World) (h4 : W.cell? ⟨g, 4, none⟩ = some (.slice (some ⟨b, off, none⟩) n c)) (hj : j < n) (hc : W.cell? ⟨b, off + j, none⟩ = some (.int .i64 x)) :
    Calls Try.prog 81 #[.int .i64 j, .pointer (some ⟨g, 0, none⟩)] W fun e W' => e = .returned (.bool (decide (0 < x))) ∧ Ext W W' := by
  go_enter Try.func81, Try.ntmps81
  go_wp2
  go_ret
  exact ⟨by rfl, Ext.refl _⟩

set_option maxRecDepth 100000 in
theorem open82 (g n c b off j : Nat) (x : Int) (W : World) (h4 : W.cell? ⟨g, 4, none⟩ = some (.slice (some ⟨b, off, none⟩) n c)) (hb : b < W.heap.size) (hj : j < 1000) (hr : rev j < n) (hc : W.cell? ⟨b, off + rev j, none⟩ = some (.int .i64 x)) :
    Calls Try.prog 82 #[.int .i64 j, .pointer (some ⟨g, 0, none⟩)] W fun e W' => e = .returned (.bool (decide (0 < x))) ∧ Ext W W' := by
  have hg : g < W.heap.size := World.block_lt_of_cell? W ⟨g, 4, none⟩ h4
  obtain ⟨r, hr'⟩ : ∃ r, r = rev j := ⟨_, rfl⟩
  have hcl : ∀ X, Calls Try.prog 83 #[.int .i64 j] X fun e W' => e = .returned (.int .i64 r) ∧ X = W' := fun X => by rw [hr']; exact reverse_any j X (by omega)
  rw [← hr'] at hr hc
  clear hr'
  have HCL := Lib.hid hcl; clear hcl
  go_enter Try.func82, Try.ntmps82
  go_wp2_with fail
  refine wp_region_noPanic ?_
  refine wp_pool 7 [some 4, some 5, some 6, some 7, some 8, some 9, some 10] [] [] [(fun (v : Value) (_ : World) => v = .pointer (some ⟨g, 4, none⟩)), (fun (v : Value) (_ : World) => v = .slice (some ⟨b, off, none⟩) n c), (fun (v : Value) (_ : World) => v = .int .i64 j), (fun (v : Value) (_ : World) => v = .int .i64 r), (fun (v : Value) (_ : World) => v = .pointer (some ⟨b, off + r, none⟩)), (fun (v : Value) (_ : World) => v = .int .i64 x), (fun (v : Value) (_ : World) => v = .bool (decide (0 < x)))] [noF, noF, noF, noF, noF, noF, noF] (by kernel_rfl) (by kernel_rfl) (by kernel_rfl) (by kernel_rfl) (by kernel_rfl) (by kernel_rfl) (by kernel_rfl) (by kernel_rfl) (fun _ _ _ _ h => h) ⟨Stays.pure _, Stays.pure _, Stays.pure _, Stays.pure _, Stays.pure _, Stays.pure _, Stays.pure _, True.intro⟩ ?steps ?done
  case steps =>
    simp only [List.take_succ_cons, List.take_zero]
    refine Steps.cons (fun (v : Value) (_ : World) => v = .pointer (some ⟨g, 4, none⟩)) [] rfl (by kernel_rfl) rfl (by kernel_rfl) (fun y X ex0 hf K hK => ?_) ?_
    · clear hf
      have ex := (Ext.drw (Ext.refl _)).trans ex0
      refine Box.mk ?_
      simp only [fill, Act.put, Nat.reduceAdd, List.setIfInBounds_toArray, List.set_cons_zero, List.set_cons_succ] at hK ⊢
      go_simp
      exact hK.out _ _ rfl (Ext.refl _) (fun b hb => by cases hb)
    refine Steps.cons (fun (v : Value) (_ : World) => v = .slice (some ⟨b, off, none⟩) n c) [0] rfl (by kernel_rfl) rfl (by kernel_rfl) (fun y X ex0 hf K hK => ?_) ?_
    · have h0 : ((fun (v : Value) (_ : World) => v = .pointer (some ⟨g, 4, none⟩))) (y 0) X := hf.1
      clear hf
      have ex := (Ext.drw (Ext.refl _)).trans ex0
      refine Box.mk ?_
      simp only [fill, Act.put, Nat.reduceAdd, List.setIfInBounds_toArray, List.set_cons_zero, List.set_cons_succ, h0] at hK ⊢
      have q4 := keepAt ex hg h4
      go_simp
      exact hK.out _ _ rfl (Ext.refl _) (fun b hb => by cases hb)
    refine Steps.cons (fun (v : Value) (_ : World) => v = .int .i64 j) [] rfl (by kernel_rfl) rfl (by kernel_rfl) (fun y X ex0 hf K hK => ?_) ?_
    · clear hf
      have ex := (Ext.drw (Ext.refl _)).trans ex0
      refine Box.mk ?_
      simp only [fill, Act.put, Nat.reduceAdd, List.setIfInBounds_toArray, List.set_cons_zero, List.set_cons_succ] at hK ⊢
      go_simp
      exact hK.out _ _ rfl (Ext.refl _) (fun b hb => by cases hb)
    refine Steps.cons (fun (v : Value) (_ : World) => v = .int .i64 r) [2] rfl (by kernel_rfl) rfl (by kernel_rfl) (fun y X ex0 hf K hK => ?_) ?_
    · have h2 : ((fun (v : Value) (_ : World) => v = .int .i64 j)) (y 2) X := hf.1
      clear hf
      have ex := (Ext.drw (Ext.refl _)).trans ex0
      refine Box.mk ?_
      simp only [fill, Act.put, Nat.reduceAdd, List.setIfInBounds_toArray, List.set_cons_zero, List.set_cons_succ, h2] at hK ⊢
      go_simp
      refine (HCL.out _).mono ?_
      rintro e V ⟨rfl, rfl⟩
      try go_wp2_with fail
      exact hK.out _ _ rfl (Ext.refl _) (fun b hb => by cases hb)
    refine Steps.cons (fun (v : Value) (_ : World) => v = .pointer (some ⟨b, off + r, none⟩)) [1, 3] rfl (by kernel_rfl) rfl (by kernel_rfl) (fun y X ex0 hf K hK => ?_) ?_
    · have h1 : ((fun (v : Value) (_ : World) => v = .slice (some ⟨b, off, none⟩) n c)) (y 1) X := hf.1
      have h3 : ((fun (v : Value) (_ : World) => v = .int .i64 r)) (y 3) X := hf.2.1
      clear hf
      have ex := (Ext.drw (Ext.refl _)).trans ex0
      refine Box.mk ?_
      simp only [fill, Act.put, Nat.reduceAdd, List.setIfInBounds_toArray, List.set_cons_zero, List.set_cons_succ, h1, h3] at hK ⊢
      go_simp
      exact hK.out _ _ rfl (Ext.refl _) (fun b hb => by cases hb)
    refine Steps.cons (fun (v : Value) (_ : World) => v = .int .i64 x) [4] rfl (by kernel_rfl) rfl (by kernel_rfl) (fun y X ex0 hf K hK => ?_) ?_
    · have h4 : ((fun (v : Value) (_ : World) => v = .pointer (some ⟨b, off + r, none⟩))) (y 4) X := hf.1
      clear hf
      have ex := (Ext.drw (Ext.refl _)).trans ex0
      refine Box.mk ?_
      simp only [fill, Act.put, Nat.reduceAdd, List.setIfInBounds_toArray, List.set_cons_zero, List.set_cons_succ, h4] at hK ⊢
      have q5 := keepAt ex hb hc
      go_simp
      exact hK.out _ _ rfl (Ext.refl _) (fun b hb => by cases hb)
    refine Steps.cons (fun (v : Value) (_ : World) => v = .bool (decide (0 < x))) [5] rfl (by kernel_rfl) rfl (by kernel_rfl) (fun y X ex0 hf K hK => ?_) ?_
    · have h5 : ((fun (v : Value) (_ : World) => v = .int .i64 x)) (y 5) X := hf.1
      clear hf
      have ex := (Ext.drw (Ext.refl _)).trans ex0
      refine Box.mk ?_
      simp only [fill, Act.put, Nat.reduceAdd, List.setIfInBounds_toArray, List.set_cons_zero, List.set_cons_succ, h5] at hK ⊢
      go_simp
      exact hK.out _ _ rfl (Ext.refl _) (fun b hb => by cases hb)
    exact Steps.nil
  case done =>
    intro y X ex hf hlt hsep
    have h0 : ((fun (v : Value) (_ : World) => v = .pointer (some ⟨g, 4, none⟩))) (y 0) X := hf.1
    have h1 : ((fun (v : Value) (_ : World) => v = .slice (some ⟨b, off, none⟩) n c)) (y 1) X := hf.2.1
    have h2 : ((fun (v : Value) (_ : World) => v = .int .i64 j)) (y 2) X := hf.2.2.1
    have h3 : ((fun (v : Value) (_ : World) => v = .int .i64 r)) (y 3) X := hf.2.2.2.1
    have h4 : ((fun (v : Value) (_ : World) => v = .pointer (some ⟨b, off + r, none⟩))) (y 4) X := hf.2.2.2.2.1
    have h5 : ((fun (v : Value) (_ : World) => v = .int .i64 x)) (y 5) X := hf.2.2.2.2.2.1
    have h6 : ((fun (v : Value) (_ : World) => v = .bool (decide (0 < x)))) (y 6) X := hf.2.2.2.2.2.2.1
    clear hf
    clear hsep hlt
    refine Box.mk ?_
    simp only [List.drop_succ_cons, List.drop_zero, fill, Act.put, Nat.reduceAdd, List.setIfInBounds_toArray, List.set_cons_zero, List.set_cons_succ, h0, h1, h2, h3, h4, h5, h6]
    clear h0 h1 h2 h3 h4 h5 h6
    have EX := Lib.hid ex; clear ex
    go_wp2_with fail
    refine NoPanic.normal ?_
    go_wp2
    go_ret
    exact ⟨rfl, EX.out⟩
end Go.Proofs.Ytilcbbdmenknfaa
