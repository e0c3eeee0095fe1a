/- Walks: rest.flow, rest.value. -/
import Derived.Test.YtilcbbdmenknfaaC7
namespace Go.Proofs.Ytilcbbdmenknfaa
open Go.RowKit

set_option maxHeartbeats 4000000 in
set_option maxRecDepth 100000 in
theorem flow_any (a : Ar) (s t : Int) (n2 : Nat) (AV SV : Value) (gl : Nat) (x : Nat → Int) (W : World) (hA : Al W AV a) (hn : a.n ≤ 1000) (hn2 : n2 = 2 * a.n) (hX : BI W gl n2 x) :
    Calls Try.prog 53 #[.agg #[.int .i64 s, .int .i64 t, AV, SV, .slice (some ⟨gl, 0, none⟩) n2 n2]] W fun e W' => ∃ g, e = .returned (.slice (some ⟨g, 0, none⟩) a.n a.n) ∧ W.heap.size ≤ g ∧ BI W' g a.n (Nw.fw x) ∧ Ext W W' := by
  obtain ⟨hn2a, hn2b⟩ : n2 ≤ 2 * a.n ∧ 2 * a.n ≤ n2 := by omega
  clear hn2
  have hm1 : ∀ w, (Instr.makeSlice 33 (.int .i64 (a.n : Int)) (.int .i64 (a.n : Int))).run Try.prog w = .ok (.slice (some ⟨w.heap.size, 0, none⟩) a.n a.n) (w.alloc (.cells (Array.ofFn fun _ : Fin a.n => .int .i64 0) 3)) := fun w => make_one 33 3 _ 8 Try.underlying33 info3 rfl (by omega) a.n (by omega) w
  have lgl := Bk.lt hX
  have HX := Lib.hid hX
  clear hX
  obtain ⟨A, c, rfl, hac, hcm, -⟩ := hA
  go_enter Try.func53, Try.ntmps53
  go_upto_region 2 with fail
  have bb := al2 W (.cells #[.int .i64 s, .int .i64 t, .slice A a.n c, SV, .slice (some ⟨gl, 0, none⟩) n2 n2] 87) (.cells (Array.ofFn fun _ : Fin a.n => Value.int .i64 0) 3)
  have hh0 : ((W.alloc (.cells #[.int .i64 s, .int .i64 t, .slice A a.n c, SV, .slice (some ⟨gl, 0, none⟩) n2 n2] 87)).alloc (.cells (Array.ofFn fun _ : Fin a.n => Value.int .i64 0) 3)).heap[W.heap.size]? = some (.cells #[.int .i64 s, .int .i64 t, .slice A a.n c, SV, .slice (some ⟨gl, 0, none⟩) n2 n2] 87 (0, 0)) := (heap_alloc_old _ _ (by simp)).trans (heap_alloc_new W _)
  have hb : BI ((W.alloc (.cells #[.int .i64 s, .int .i64 t, .slice A a.n c, SV, .slice (some ⟨gl, 0, none⟩) n2 n2] 87)).alloc (.cells (Array.ofFn fun _ : Fin a.n => Value.int .i64 0) 3)) (W.heap.size + 1) a.n (fun _ => 0) := by
    have := heap_alloc_new (W.alloc (.cells #[.int .i64 s, .int .i64 t, .slice A a.n c, SV, .slice (some ⟨gl, 0, none⟩) n2 n2] 87)) (.cells (Array.ofFn fun _ : Fin a.n => Value.int .i64 0) 3)
    simp only [World.size_alloc] at this
    exact this
  generalize (W.alloc (.cells #[.int .i64 s, .int .i64 t, .slice A a.n c, SV, .slice (some ⟨gl, 0, none⟩) n2 n2] 87)).alloc (.cells (Array.ofFn fun _ : Fin a.n => Value.int .i64 0) 3) = W1 at *
  have HH := Lib.hid (And.intro hh0 (And.intro hb (show Ext W W1 from bb)))
  clear hh0 hb bb
  go_wp2_with fail
  go_loopw [12] (fun i wr => ∃ k : Nat, i = .int .i64 k ∧ k ≤ a.n ∧ Hid (wr.heap[W.heap.size]? = some (.cells #[.int .i64 s, .int .i64 t, .slice A a.n c, SV, .slice (some ⟨gl, 0, none⟩) n2 n2] 87 (0, 0)) ∧ (∃ f : Nat → Int, (∀ j, j < k → f j = Nw.fw x j) ∧ BI wr (W.heap.size + 1) a.n f) ∧ Ext W wr)) (fun i _ => a.n - (intOf i).toNat)
  case atStart => exact ⟨0, rfl, Nat.zero_le _, Lib.hid ⟨HH.out.1, ⟨_, fun j hj => by omega, HH.out.2.1⟩, HH.out.2.2⟩⟩
  case round =>
    obtain ⟨k, rfl, hk, hin⟩ := hrel
    obtain ⟨m0, m1, m2, m3, m4, m5, m6⟩ := five hin.out.1
    obtain ⟨f, hf, hbf⟩ := hin.out.2.1
    have HF := Lib.hid (And.intro hf hbf)
    clear hf m0 m1 m2 m3 m5
    by_cases hlt : k < a.n
    · have d4 := keepAt hin.out.2.2 lgl (Bk.cell HX.out (show 2 * k + 1 < n2 by omega))
      have e4 := Bk.cell hbf hlt
      have f4 := Bk.free hbf k
      obtain ⟨y, hy⟩ : ∃ y, y = x (2 * k + 1) := ⟨_, rfl⟩
      simp only [← hy] at d4
      have HY := Lib.hid hy
      have hwr : IntKind.i64.wrap (2 * (k : Int)) = 2 * (k : Int) := IntWalk.i64_in _ (by omega)
      have hwr2 : IntKind.i64.wrap (2 * (k : Int) + 1) = ((2 * k + 1 : Nat) : Int) := by rw [IntWalk.i64_in _ (by omega)]; omega
      have hk2 : 2 * k + 1 < n2 := by omega
      clear hbf hy
      go_wp2
      go_roundw
      case rel =>
        refine ⟨k + 1, by go_num, by omega, Lib.hid ⟨?_, ⟨up f k y, fun j hj => ?_, ?_⟩, ?_⟩⟩
        · exact (Below.heap_setCell wr ⟨W.heap.size + 1, k, none⟩ (.int .i64 y) W.heap.size (by simp)).trans hin.out.1
        · by_cases e : j = k
          · subst e; rw [up_self]; exact HY.out
          · rw [up_ne _ _ e]; exact HF.out.1 j (by omega)
        · exact BI.set_ HF.out.2 k y
        · exact hin.out.2.2.sc (by omega)
      case measure => simp [intOf]; omega
    · obtain rfl : k = a.n := by omega
      clear m4 hbf
      go_wp2
      refine bodyPost_ret (v := .slice (some ⟨W.heap.size + 1, 0, none⟩) a.n a.n) (by simp [results, Try.results53, go_sem]) rfl ?_
      exact ⟨W.heap.size + 1, rfl, by omega, Bk.congr HF.out.2 (fun j hj => by rw [HF.out.1 j hj]), hin.out.2.2⟩

set_option maxHeartbeats 4000000 in
set_option maxRecDepth 100000 in
theorem value_any (a : Ar) (N s : Nat) (t : Int) (n2 : Nat) (M : Int) (AV SV : Value) (gl : Nat) (x : Nat → Int) (W : World) (hA : Al W AV a) (hO : a.Ok N M) (hM : M ≤ 2000000) (hn : a.n ≤ 1000) (hn2 : n2 = 2 * a.n) (hX : BI W gl n2 x) (hR : a.nw.Rs x) :
    Calls Try.prog 49 #[.agg #[.int .i64 s, .int .i64 t, AV, SV, .slice (some ⟨gl, 0, none⟩) n2 n2]] W fun e W' => e = .returned (.int .i64 (a.nw.sp (Nw.fw x) s)) ∧ Ext W W' := by
  have hbd : ∀ k, k < a.n → 0 ≤ Nw.fw x k ∧ Nw.fw x k ≤ 2000000 := fun k hk => by
    have := hR.le hO.cM (j := 2 * k + 1) (by show 2 * k + 1 < 2 * a.n; omega)
    unfold Nw.fw; omega
  have HA := Lib.hid hA; have HO := Lib.hid hO; have HX := Lib.hid hX; have HN2 := Lib.hid hn2; have HBD := Lib.hid hbd
  clear hO hX hn2 hbd hR
  obtain ⟨A, c, rfl, hac, hcm, -⟩ := hA
  go_enter Try.func49, Try.ntmps49
  go_upto_region 1 with fail
  have bb := al1 W (.cells #[.int .i64 s, .int .i64 t, .slice A a.n c, SV, .slice (some ⟨gl, 0, none⟩) n2 n2] 87)
  have hh0 := heap_alloc_new W (.cells #[.int .i64 s, .int .i64 t, .slice A a.n c, SV, .slice (some ⟨gl, 0, none⟩) n2 n2] 87)
  generalize W.alloc (.cells #[.int .i64 s, .int .i64 t, .slice A a.n c, SV, .slice (some ⟨gl, 0, none⟩) n2 n2] 87) = W1 at *
  have HB : Hid (Ext W W1) := Lib.hid bb
  obtain ⟨m0, m1, m2, m3, m4, -, zlt⟩ := five hh0
  clear bb hh0
  refine wp_region_noPanic ?_
  refine wp_pool 9 [some 3, some 4, some 5, some 6, some 7, some 8, some 9, some 10, some 11] [] [] [(fun (v : Value) (_ : World) => v = .pointer (some ⟨W.heap.size, 0, none⟩)), (fun (v : Value) (_ : World) => v = .pointer (some ⟨W.heap.size, 2, none⟩)), (fun (v : Value) (_ : World) => v = .slice A a.n c), (fun (v : Value) (_ : World) => v = .agg #[.int .i64 s, .int .i64 t, .slice A a.n c, SV, .slice (some ⟨gl, 0, none⟩) n2 n2]), (fun (v : Value) (X : World) => ∃ g, v = .slice (some ⟨g, 0, none⟩) a.n a.n ∧ BI X g a.n (Nw.fw x)), (fun (v : Value) (_ : World) => v = .pointer (some ⟨W.heap.size, 0, none⟩)), (fun (v : Value) (_ : World) => v = .pointer (some ⟨W.heap.size, 0, none⟩)), (fun (v : Value) (_ : World) => v = .int .i64 s), (fun (v : Value) (_ : World) => v = .int .i64 (a.nw.sp (Nw.fw x) s))] [noF, noF, noF, noF, noF, noF, noF, noF, noF] (by kernel_rfl) (by kernel_rfl) (by kernel_rfl) (by kernel_rfl) (by kernel_rfl) (by kernel_rfl) (by kernel_rfl) (by kernel_rfl) (fun _ _ _ _ h => h) ⟨Stays.pure _, Stays.pure _, Stays.pure _, Stays.pure _, (fun _ _ _ e ⟨g, r1, r2⟩ => ⟨g, r1, r2.ext e⟩), Stays.pure _, Stays.pure _, Stays.pure _, Stays.pure _, True.intro⟩ ?steps ?done
  case steps =>
    simp only [List.take_succ_cons, List.take_zero]
    refine Steps.cons (fun (v : Value) (_ : World) => v = .pointer (some ⟨W.heap.size, 0, none⟩)) [] rfl (by kernel_rfl) rfl (by kernel_rfl) (fun y X ex0 hf K hK => ?_) ?_
    · clear hf
      have ex := (Ext.drw (Ext.refl _)).trans ex0
      refine Box.mk ?_
      simp only [fill, Act.put, Nat.reduceAdd, List.setIfInBounds_toArray, List.set_cons_zero, List.set_cons_succ] at hK ⊢
      go_simp
      exact hK.out _ _ rfl (Ext.refl _) (fun b hb => by cases hb)
    refine Steps.cons (fun (v : Value) (_ : World) => v = .pointer (some ⟨W.heap.size, 2, none⟩)) [0] rfl (by kernel_rfl) rfl (by kernel_rfl) (fun y X ex0 hf K hK => ?_) ?_
    · have h0 : ((fun (v : Value) (_ : World) => v = .pointer (some ⟨W.heap.size, 0, none⟩))) (y 0) X := hf.1
      clear hf
      have ex := (Ext.drw (Ext.refl _)).trans ex0
      refine Box.mk ?_
      simp only [fill, Act.put, Nat.reduceAdd, List.setIfInBounds_toArray, List.set_cons_zero, List.set_cons_succ, h0] at hK ⊢
      go_simp
      exact hK.out _ _ rfl (Ext.refl _) (fun b hb => by cases hb)
    refine Steps.cons (fun (v : Value) (_ : World) => v = .slice A a.n c) [1] rfl (by kernel_rfl) rfl (by kernel_rfl) (fun y X ex0 hf K hK => ?_) ?_
    · have h1 : ((fun (v : Value) (_ : World) => v = .pointer (some ⟨W.heap.size, 2, none⟩))) (y 1) X := hf.1
      clear hf
      have ex := (Ext.drw (Ext.refl _)).trans ex0
      refine Box.mk ?_
      simp only [fill, Act.put, Nat.reduceAdd, List.setIfInBounds_toArray, List.set_cons_zero, List.set_cons_succ, h1] at hK ⊢
      have z0 := keepAt ex zlt m2
      go_simp
      exact hK.out _ _ rfl (Ext.refl _) (fun b hb => by cases hb)
    refine Steps.cons (fun (v : Value) (_ : World) => v = .agg #[.int .i64 s, .int .i64 t, .slice A a.n c, SV, .slice (some ⟨gl, 0, none⟩) n2 n2]) [] rfl (by kernel_rfl) rfl (by kernel_rfl) (fun y X ex0 hf K hK => ?_) ?_
    · clear hf
      have ex := (Ext.drw (Ext.refl _)).trans ex0
      refine Box.mk ?_
      simp only [fill, Act.put, Nat.reduceAdd, List.setIfInBounds_toArray, List.set_cons_zero, List.set_cons_succ] at hK ⊢
      have z0 := keepAt ex zlt m0
      have z1 := keepAt ex zlt m1
      have z2 := keepAt ex zlt m2
      have z3 := keepAt ex zlt m3
      have z4 := keepAt ex zlt m4
      go_simp
      exact hK.out _ _ rfl (Ext.refl _) (fun b hb => by cases hb)
    refine Steps.cons (fun (v : Value) (X : World) => ∃ g, v = .slice (some ⟨g, 0, none⟩) a.n a.n ∧ BI X g a.n (Nw.fw x)) [3] rfl (by kernel_rfl) rfl (by kernel_rfl) (fun y X ex0 hf K hK => ?_) ?_
    · have h3 : ((fun (v : Value) (_ : World) => v = .agg #[.int .i64 s, .int .i64 t, .slice A a.n c, SV, .slice (some ⟨gl, 0, none⟩) n2 n2])) (y 3) X := hf.1
      clear hf
      have ex := (Ext.drw (Ext.refl _)).trans ex0
      refine Box.mk ?_
      simp only [fill, Act.put, Nat.reduceAdd, List.setIfInBounds_toArray, List.set_cons_zero, List.set_cons_succ, h3] at hK ⊢
      go_simp
      refine (flow_any a s t n2 _ SV gl x _ (HA.out.ext (HB.out.trans ex)) hn HN2.out (HX.out.ext (HB.out.trans ex))).mono ?_
      rintro e V ⟨g4, rfl, -, hbi, hb⟩
      try go_wp2_with fail
      exact hK.out _ _ ⟨_, rfl, hbi⟩ hb (fun b hb => by cases hb)
    refine Steps.cons (fun (v : Value) (_ : World) => v = .pointer (some ⟨W.heap.size, 0, none⟩)) [] rfl (by kernel_rfl) rfl (by kernel_rfl) (fun y X ex0 hf K hK => ?_) ?_
    · clear hf
      have ex := (Ext.drw (Ext.refl _)).trans ex0
      refine Box.mk ?_
      simp only [fill, Act.put, Nat.reduceAdd, List.setIfInBounds_toArray, List.set_cons_zero, List.set_cons_succ] at hK ⊢
      go_simp
      exact hK.out _ _ rfl (Ext.refl _) (fun b hb => by cases hb)
    refine Steps.cons (fun (v : Value) (_ : World) => v = .pointer (some ⟨W.heap.size, 0, none⟩)) [5] rfl (by kernel_rfl) rfl (by kernel_rfl) (fun y X ex0 hf K hK => ?_) ?_
    · have h5 : ((fun (v : Value) (_ : World) => v = .pointer (some ⟨W.heap.size, 0, none⟩))) (y 5) X := hf.1
      clear hf
      have ex := (Ext.drw (Ext.refl _)).trans ex0
      refine Box.mk ?_
      simp only [fill, Act.put, Nat.reduceAdd, List.setIfInBounds_toArray, List.set_cons_zero, List.set_cons_succ, h5] at hK ⊢
      go_simp
      exact hK.out _ _ rfl (Ext.refl _) (fun b hb => by cases hb)
    refine Steps.cons (fun (v : Value) (_ : World) => v = .int .i64 s) [6] rfl (by kernel_rfl) rfl (by kernel_rfl) (fun y X ex0 hf K hK => ?_) ?_
    · have h6 : ((fun (v : Value) (_ : World) => v = .pointer (some ⟨W.heap.size, 0, none⟩))) (y 6) X := hf.1
      clear hf
      have ex := (Ext.drw (Ext.refl _)).trans ex0
      refine Box.mk ?_
      simp only [fill, Act.put, Nat.reduceAdd, List.setIfInBounds_toArray, List.set_cons_zero, List.set_cons_succ, h6] at hK ⊢
      have z0 := keepAt ex zlt m0
      go_simp
      exact hK.out _ _ rfl (Ext.refl _) (fun b hb => by cases hb)
    refine Steps.cons (fun (v : Value) (_ : World) => v = .int .i64 (a.nw.sp (Nw.fw x) s)) [2, 4, 7] rfl (by kernel_rfl) rfl (by kernel_rfl) (fun y X ex0 hf K hK => ?_) ?_
    · have h2 : ((fun (v : Value) (_ : World) => v = .slice A a.n c)) (y 2) X := hf.1
      obtain ⟨g4, h4, q4⟩ : ((fun (v : Value) (X : World) => ∃ g, v = .slice (some ⟨g, 0, none⟩) a.n a.n ∧ BI X g a.n (Nw.fw x))) (y 4) X := hf.2.1
      have h7 : ((fun (v : Value) (_ : World) => v = .int .i64 s)) (y 7) X := hf.2.2.1
      clear hf
      have ex := (Ext.drw (Ext.refl _)).trans ex0
      refine Box.mk ?_
      simp only [fill, Act.put, Nat.reduceAdd, List.setIfInBounds_toArray, List.set_cons_zero, List.set_cons_succ, h2, h4, h7] at hK ⊢
      go_simp
      refine (surplus_any a N s M (Nw.fw x) _ _ _ (HA.out.ext (HB.out.trans ex)) (BI.il q4 (by omega)) HO.out hn HBD.out).mono ?_
      rintro e V ⟨rfl, hb⟩
      try go_wp2_with fail
      exact hK.out _ _ rfl hb (fun b hb => by cases hb)
    exact Steps.nil
  case done =>
    intro y X ex hf hlt hsep
    have h0 : ((fun (v : Value) (_ : World) => v = .pointer (some ⟨W.heap.size, 0, none⟩))) (y 0) X := hf.1
    have h1 : ((fun (v : Value) (_ : World) => v = .pointer (some ⟨W.heap.size, 2, none⟩))) (y 1) X := hf.2.1
    have h2 : ((fun (v : Value) (_ : World) => v = .slice A a.n c)) (y 2) X := hf.2.2.1
    have h3 : ((fun (v : Value) (_ : World) => v = .agg #[.int .i64 s, .int .i64 t, .slice A a.n c, SV, .slice (some ⟨gl, 0, none⟩) n2 n2])) (y 3) X := hf.2.2.2.1
    obtain ⟨g4, h4, q4⟩ : ((fun (v : Value) (X : World) => ∃ g, v = .slice (some ⟨g, 0, none⟩) a.n a.n ∧ BI X g a.n (Nw.fw x))) (y 4) X := hf.2.2.2.2.1
    have h5 : ((fun (v : Value) (_ : World) => v = .pointer (some ⟨W.heap.size, 0, none⟩))) (y 5) X := hf.2.2.2.2.2.1
    have h6 : ((fun (v : Value) (_ : World) => v = .pointer (some ⟨W.heap.size, 0, none⟩))) (y 6) X := hf.2.2.2.2.2.2.1
    have h7 : ((fun (v : Value) (_ : World) => v = .int .i64 s)) (y 7) X := hf.2.2.2.2.2.2.2.1
    have h8 : ((fun (v : Value) (_ : World) => v = .int .i64 (a.nw.sp (Nw.fw x) s))) (y 8) X := hf.2.2.2.2.2.2.2.2.1
    clear hf
    clear hsep hlt
    refine Box.mk ?_
    simp only [List.drop_succ_cons, List.drop_zero, fill, Act.put, Nat.reduceAdd, List.setIfInBounds_toArray, List.set_cons_zero, List.set_cons_succ, h0, h1, h2, h3, h4, h5, h6, h7, h8]
    clear h0 h1 h2 h3 h4 h5 h6 h7 h8
    have EX := Lib.hid ex; clear ex
    go_wp2_with fail
    refine NoPanic.normal ?_
    go_wp2
    go_ret
    exact ⟨rfl, HB.out.trans EX.out⟩
end Go.Proofs.Ytilcbbdmenknfaa
