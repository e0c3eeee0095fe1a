/- Walks: rest.flow, rest.value. · Walks: isNet, filled. · The least cost of a side: mathematics. -/
import Derived.Test.YtilcbbdmenknfaaM8
import Derived.Test.YtilcbbdmenknfaaM6
namespace Go.Proofs.Ytilcbbdmenknfaa
open Go.RowKit

set_option maxHeartbeats 4000000 in
set_option maxRecDepth 100000 in
theorem flow_any (a : Ar) (s t : Int) (n2 : Nat) (AV SV : Value) (gl : Nat) (x : Nat → Int) (W : World) (hA : Al W AV a) (hn : a.n ≤ 1000) (hn2 : n2 = 2 * a.n) (hX : BI W gl n2 x) :
    Calls Try.prog 53 #[.agg #[.int .i64 s, .int .i64 t, AV, SV, .slice (some ⟨gl, 0, none⟩) n2 n2]] W fun e W' => ∃ g, e = .returned (.slice (some ⟨g, 0, none⟩) a.n a.n) ∧ W.heap.size ≤ g ∧ BI W' g a.n (Nw.fw x) ∧ Ext W W' := by
  obtain ⟨hn2a, hn2b⟩ : n2 ≤ 2 * a.n ∧ 2 * a.n ≤ n2 := by omega
  clear hn2
  have hm1 : ∀ w, (Instr.makeSlice 33 (.int .i64 (a.n : Int)) (.int .i64 (a.n : Int))).run Try.prog w = .ok (.slice (some ⟨w.heap.size, 0, none⟩) a.n a.n) (w.alloc (.cells (Array.ofFn fun _ : Fin a.n => .int .i64 0) 3)) := fun w => make_one 33 3 _ 8 Try.underlying33 info3 rfl (by omega) a.n (by omega) w
  have lgl := Bk.lt hX
  have HX := Lib.hid hX
  clear hX
  obtain ⟨A, c, rfl, hac, hcm, -⟩ := hA
  go_enter Try.func53, Try.ntmps53
  go_upto_region 2 with fail
  have bb := al2 W (.cells #[.int .i64 s, .int .i64 t, .slice A a.n c, SV, .slice (some ⟨gl, 0, none⟩) n2 n2] 87) (.cells (Array.ofFn fun _ : Fin a.n => Value.int .i64 0) 3)
  have hh0 : ((W.alloc (.cells #[.int .i64 s, .int .i64 t, .slice A a.n c, SV, .slice (some ⟨gl, 0, none⟩) n2 n2] 87)).alloc (.cells (Array.ofFn fun _ : Fin a.n => Value.int .i64 0) 3)).heap[W.heap.size]? = some (.cells #[.int .i64 s, .int .i64 t, .slice A a.n c, SV, .slice (some ⟨gl, 0, none⟩) n2 n2] 87 (0, 0)) := (heap_alloc_old _ _ (by simp)).trans (heap_alloc_new W _)
  have hb : BI ((W.alloc (.cells #[.int .i64 s, .int .i64 t, .slice A a.n c, SV, .slice (some ⟨gl, 0, none⟩) n2 n2] 87)).alloc (.cells (Array.ofFn fun _ : Fin a.n => Value.int .i64 0) 3)) (W.heap.size + 1) a.n (fun _ => 0) := by
    have := heap_alloc_new (W.alloc (.cells #[.int .i64 s, .int .i64 t, .slice A a.n c, SV, .slice (some ⟨gl, 0, none⟩) n2 n2] 87)) (.cells (Array.ofFn fun _ : Fin a.n => Value.int .i64 0) 3)
    simp only [World.size_alloc] at this
    exact this
  generalize (W.alloc (.cells #[.int .i64 s, .int .i64 t, .slice A a.n c, SV, .slice (some ⟨gl, 0, none⟩) n2 n2] 87)).alloc (.cells (Array.ofFn fun _ : Fin a.n => Value.int .i64 0) 3) = W1 at *
  have HH := Lib.hid (And.intro hh0 (And.intro hb (show Ext W W1 from bb)))
  clear hh0 hb bb
  go_wp2_with fail
  go_loopw [12] (fun i wr => ∃ k : Nat, i = .int .i64 k ∧ k ≤ a.n ∧ Hid (wr.heap[W.heap.size]? = some (.cells #[.int .i64 s, .int .i64 t, .slice A a.n c, SV, .slice (some ⟨gl, 0, none⟩) n2 n2] 87 (0, 0)) ∧ (∃ f : Nat → Int, (∀ j, j < k → f j = Nw.fw x j) ∧ BI wr (W.heap.size + 1) a.n f) ∧ Ext W wr)) (fun i _ => a.n - (intOf i).toNat)
  case atStart => exact ⟨0, rfl, Nat.zero_le _, Lib.hid ⟨HH.out.1, ⟨_, fun j hj => by omega, HH.out.2.1⟩, HH.out.2.2⟩⟩
  case round =>
    obtain ⟨k, rfl, hk, hin⟩ := hrel
    obtain ⟨m0, m1, m2, m3, m4, m5, m6⟩ := five hin.out.1
    obtain ⟨f, hf, hbf⟩ := hin.out.2.1
    have HF := Lib.hid (And.intro hf hbf)
    clear hf m0 m1 m2 m3 m5
    by_cases hlt : k < a.n
    · have d4 := keepAt hin.out.2.2 lgl (Bk.cell HX.out (show 2 * k + 1 < n2 by omega))
      have e4 := Bk.cell hbf hlt
      have f4 := Bk.free hbf k
      obtain ⟨y, hy⟩ : ∃ y, y = x (2 * k + 1) := ⟨_, rfl⟩
      simp only [← hy] at d4
      have HY := Lib.hid hy
      have hwr : IntKind.i64.wrap (2 * (k : Int)) = 2 * (k : Int) := IntWalk.i64_in _ (by omega)
      have hwr2 : IntKind.i64.wrap (2 * (k : Int) + 1) = ((2 * k + 1 : Nat) : Int) := by rw [IntWalk.i64_in _ (by omega)]; omega
      have hk2 : 2 * k + 1 < n2 := by omega
      clear hbf hy
      go_wp2
      go_roundw
      case rel =>
        refine ⟨k + 1, by go_num, by omega, Lib.hid ⟨?_, ⟨up f k y, fun j hj => ?_, ?_⟩, ?_⟩⟩
        · exact (Below.heap_setCell wr ⟨W.heap.size + 1, k, none⟩ (.int .i64 y) W.heap.size (by simp)).trans hin.out.1
        · by_cases e : j = k
          · subst e; rw [up_self]; exact HY.out
          · rw [up_ne _ _ e]; exact HF.out.1 j (by omega)
        · exact BI.set_ HF.out.2 k y
        · exact hin.out.2.2.sc (by omega)
      case measure => simp [intOf]; omega
    · obtain rfl : k = a.n := by omega
      clear m4 hbf
      go_wp2
      refine bodyPost_ret (v := .slice (some ⟨W.heap.size + 1, 0, none⟩) a.n a.n) (by simp [results, Try.results53, go_sem]) rfl ?_
      exact ⟨W.heap.size + 1, rfl, by omega, Bk.congr HF.out.2 (fun j hj => by rw [HF.out.1 j hj]), hin.out.2.2⟩

set_option maxHeartbeats 4000000 in
set_option maxRecDepth 100000 in
theorem value_any (a : Ar) (N s : Nat) (t : Int) (n2 : Nat) (M : Int) (AV SV : Value) (gl : Nat) (x : Nat → Int) (W : World) (hA : Al W AV a) (hO : a.Ok N M) (hM : M ≤ 2000000) (hn : a.n ≤ 1000) (hn2 : n2 = 2 * a.n) (hX : BI W gl n2 x) (hR : a.nw.Rs x) :
    Calls Try.prog 49 #[.agg #[.int .i64 s, .int .i64 t, AV, SV, .slice (some ⟨gl, 0, none⟩) n2 n2]] W fun e W' => e = .returned (.int .i64 (a.nw.sp (Nw.fw x) s)) ∧ Ext W W' := by
  have hbd : ∀ k, k < a.n → 0 ≤ Nw.fw x k ∧ Nw.fw x k ≤ 2000000 := fun k hk => by
    have := hR.le hO.cM (j := 2 * k + 1) (by show 2 * k + 1 < 2 * a.n; omega)
    unfold Nw.fw; omega
  have HA := Lib.hid hA; have HO := Lib.hid hO; have HX := Lib.hid hX; have HN2 := Lib.hid hn2; have HBD := Lib.hid hbd
  clear hO hX hn2 hbd hR
  obtain ⟨A, c, rfl, hac, hcm, -⟩ := hA
  go_enter Try.func49, Try.ntmps49
  go_upto_region 1 with fail
  have bb := al1 W (.cells #[.int .i64 s, .int .i64 t, .slice A a.n c, SV, .slice (some ⟨gl, 0, none⟩) n2 n2] 87)
  have hh0 := heap_alloc_new W (.cells #[.int .i64 s, .int .i64 t, .slice A a.n c, SV, .slice (some ⟨gl, 0, none⟩) n2 n2] 87)
  generalize W.alloc (.cells #[.int .i64 s, .int .i64 t, .slice A a.n c, SV, .slice (some ⟨gl, 0, none⟩) n2 n2] 87) = W1 at *
  have HB : Hid (Ext W W1) := Lib.hid bb
  obtain ⟨m0, m1, m2, m3, m4, -, zlt⟩ := five hh0
  clear bb hh0
  refine wp_region_noPanic ?_
  refine wp_pool 9 [some 3, some 4, some 5, some 6, some 7, some 8, some 9, some 10, some 11] [] [] [(fun (v : Value) (_ : World) => v = .pointer (some ⟨W.heap.size, 0, none⟩)), (fun (v : Value) (_ : World) => v = .pointer (some ⟨W.heap.size, 2, none⟩)), (fun (v : Value) (_ : World) => v = .slice A a.n c), (fun (v : Value) (_ : World) => v = .agg #[.int .i64 s, .int .i64 t, .slice A a.n c, SV, .slice (some ⟨gl, 0, none⟩) n2 n2]), (fun (v : Value) (X : World) => ∃ g, v = .slice (some ⟨g, 0, none⟩) a.n a.n ∧ BI X g a.n (Nw.fw x)), (fun (v : Value) (_ : World) => v = .pointer (some ⟨W.heap.size, 0, none⟩)), (fun (v : Value) (_ : World) => v = .pointer (some ⟨W.heap.size, 0, none⟩)), (fun (v : Value) (_ : World) => v = .int .i64 s), (fun (v : Value) (_ : World) => v = .int .i64 (a.nw.sp (Nw.fw x) s))] [noF, noF, noF, noF, noF, noF, noF, noF, noF] (by kernel_rfl) (by kernel_rfl) (by kernel_rfl) (by kernel_rfl) (by kernel_rfl) (by kernel_rfl) (by kernel_rfl) (by kernel_rfl) (fun _ _ _ _ h => h) ⟨Stays.pure _, Stays.pure _, Stays.pure _, Stays.pure _, (fun _ _ _ e ⟨g, r1, r2⟩ => ⟨g, r1, r2.ext e⟩), Stays.pure _, Stays.pure _, Stays.pure _, Stays.pure _, True.intro⟩ ?steps ?done
  case steps =>
    simp only [List.take_succ_cons, List.take_zero]
    refine Steps.cons (fun (v : Value) (_ : World) => v = .pointer (some ⟨W.heap.size, 0, none⟩)) [] rfl (by kernel_rfl) rfl (by kernel_rfl) (fun y X ex0 hf K hK => ?_) ?_
    · clear hf
      have ex := (Ext.drw (Ext.refl _)).trans ex0
      refine Box.mk ?_
      simp only [fill, Act.put, Nat.reduceAdd, List.setIfInBounds_toArray, List.set_cons_zero, List.set_cons_succ] at hK ⊢
      go_simp
      exact hK.out _ _ rfl (Ext.refl _) (fun b hb => by cases hb)
    refine Steps.cons (fun (v : Value) (_ : World) => v = .pointer (some ⟨W.heap.size, 2, none⟩)) [0] rfl (by kernel_rfl) rfl (by kernel_rfl) (fun y X ex0 hf K hK => ?_) ?_
    · have h0 : ((fun (v : Value) (_ : World) => v = .pointer (some ⟨W.heap.size, 0, none⟩))) (y 0) X := hf.1
      clear hf
      have ex := (Ext.drw (Ext.refl _)).trans ex0
      refine Box.mk ?_
      simp only [fill, Act.put, Nat.reduceAdd, List.setIfInBounds_toArray, List.set_cons_zero, List.set_cons_succ, h0] at hK ⊢
      go_simp
      exact hK.out _ _ rfl (Ext.refl _) (fun b hb => by cases hb)
    refine Steps.cons (fun (v : Value) (_ : World) => v = .slice A a.n c) [1] rfl (by kernel_rfl) rfl (by kernel_rfl) (fun y X ex0 hf K hK => ?_) ?_
    · have h1 : ((fun (v : Value) (_ : World) => v = .pointer (some ⟨W.heap.size, 2, none⟩))) (y 1) X := hf.1
      clear hf
      have ex := (Ext.drw (Ext.refl _)).trans ex0
      refine Box.mk ?_
      simp only [fill, Act.put, Nat.reduceAdd, List.setIfInBounds_toArray, List.set_cons_zero, List.set_cons_succ, h1] at hK ⊢
      have z0 := keepAt ex zlt m2
      go_simp
      exact hK.out _ _ rfl (Ext.refl _) (fun b hb => by cases hb)
    refine Steps.cons (fun (v : Value) (_ : World) => v = .agg #[.int .i64 s, .int .i64 t, .slice A a.n c, SV, .slice (some ⟨gl, 0, none⟩) n2 n2]) [] rfl (by kernel_rfl) rfl (by kernel_rfl) (fun y X ex0 hf K hK => ?_) ?_
    · clear hf
      have ex := (Ext.drw (Ext.refl _)).trans ex0
      refine Box.mk ?_
      simp only [fill, Act.put, Nat.reduceAdd, List.setIfInBounds_toArray, List.set_cons_zero, List.set_cons_succ] at hK ⊢
      have z0 := keepAt ex zlt m0
      have z1 := keepAt ex zlt m1
      have z2 := keepAt ex zlt m2
      have z3 := keepAt ex zlt m3
      have z4 := keepAt ex zlt m4
      go_simp
      exact hK.out _ _ rfl (Ext.refl _) (fun b hb => by cases hb)
    refine Steps.cons (fun (v : Value) (X : World) => ∃ g, v = .slice (some ⟨g, 0, none⟩) a.n a.n ∧ BI X g a.n (Nw.fw x)) [3] rfl (by kernel_rfl) rfl (by kernel_rfl) (fun y X ex0 hf K hK => ?_) ?_
    · have h3 : ((fun (v : Value) (_ : World) => v = .agg #[.int .i64 s, .int .i64 t, .slice A a.n c, SV, .slice (some ⟨gl, 0, none⟩) n2 n2])) (y 3) X := hf.1
      clear hf
      have ex := (Ext.drw (Ext.refl _)).trans ex0
      refine Box.mk ?_
      simp only [fill, Act.put, Nat.reduceAdd, List.setIfInBounds_toArray, List.set_cons_zero, List.set_cons_succ, h3] at hK ⊢
      go_simp
      refine (flow_any a s t n2 _ SV gl x _ (HA.out.ext (HB.out.trans ex)) hn HN2.out (HX.out.ext (HB.out.trans ex))).mono ?_
      rintro e V ⟨g4, rfl, -, hbi, hb⟩
      try go_wp2_with fail
      exact hK.out _ _ ⟨_, rfl, hbi⟩ hb (fun b hb => by cases hb)
    refine Steps.cons (fun (v : Value) (_ : World) => v = .pointer (some ⟨W.heap.size, 0, none⟩)) [] rfl (by kernel_rfl) rfl (by kernel_rfl) (fun y X ex0 hf K hK => ?_) ?_
    · clear hf
      have ex := (Ext.drw (Ext.refl _)).trans ex0
      refine Box.mk ?_
      simp only [fill, Act.put, Nat.reduceAdd, List.setIfInBounds_toArray, List.set_cons_zero, List.set_cons_succ] at hK ⊢
      go_simp
      exact hK.out _ _ rfl (Ext.refl _) (fun b hb => by cases hb)
    refine Steps.cons (fun (v : Value) (_ : World) => v = .pointer (some ⟨W.heap.size, 0, none⟩)) [5] rfl (by kernel_rfl) rfl (by kernel_rfl) (fun y X ex0 hf K hK => ?_) ?_
    · have h5 : ((fun (v : Value) (_ : World) => v = .pointer (some ⟨W.heap.size, 0, none⟩))) (y 5) X := hf.1
      clear hf
      have ex := (Ext.drw (Ext.refl _)).trans ex0
      refine Box.mk ?_
      simp only [fill, Act.put, Nat.reduceAdd, List.setIfInBounds_toArray, List.set_cons_zero, List.set_cons_succ, h5] at hK ⊢
      go_simp
      exact hK.out _ _ rfl (Ext.refl _) (fun b hb => by cases hb)
    refine Steps.cons (fun (v : Value) (_ : World) => v = .int .i64 s) [6] rfl (by kernel_rfl) rfl (by kernel_rfl) (fun y X ex0 hf K hK => ?_) ?_
    · have h6 : ((fun (v : Value) (_ : World) => v = .pointer (some ⟨W.heap.size, 0, none⟩))) (y 6) X := hf.1
      clear hf
      have ex := (Ext.drw (Ext.refl _)).trans ex0
      refine Box.mk ?_
      simp only [fill, Act.put, Nat.reduceAdd, List.setIfInBounds_toArray, List.set_cons_zero, List.set_cons_succ, h6] at hK ⊢
      have z0 := keepAt ex zlt m0
      go_simp
      exact hK.out _ _ rfl (Ext.refl _) (fun b hb => by cases hb)
    refine Steps.cons (fun (v : Value) (_ : World) => v = .int .i64 (a.nw.sp (Nw.fw x) s)) [2, 4, 7] rfl (by kernel_rfl) rfl (by kernel_rfl) (fun y X ex0 hf K hK => ?_) ?_
    · have h2 : ((fun (v : Value) (_ : World) => v = .slice A a.n c)) (y 2) X := hf.1
      obtain ⟨g4, h4, q4⟩ : ((fun (v : Value) (X : World) => ∃ g, v = .slice (some ⟨g, 0, none⟩) a.n a.n ∧ BI X g a.n (Nw.fw x))) (y 4) X := hf.2.1
      have h7 : ((fun (v : Value) (_ : World) => v = .int .i64 s)) (y 7) X := hf.2.2.1
      clear hf
      have ex := (Ext.drw (Ext.refl _)).trans ex0
      refine Box.mk ?_
      simp only [fill, Act.put, Nat.reduceAdd, List.setIfInBounds_toArray, List.set_cons_zero, List.set_cons_succ, h2, h4, h7] at hK ⊢
      go_simp
      refine (surplus_any a N s M (Nw.fw x) _ _ _ (HA.out.ext (HB.out.trans ex)) (BI.il q4 (by omega)) HO.out hn HBD.out).mono ?_
      rintro e V ⟨rfl, hb⟩
      try go_wp2_with fail
      exact hK.out _ _ rfl hb (fun b hb => by cases hb)
    exact Steps.nil
  case done =>
    intro y X ex hf hlt hsep
    have h0 : ((fun (v : Value) (_ : World) => v = .pointer (some ⟨W.heap.size, 0, none⟩))) (y 0) X := hf.1
    have h1 : ((fun (v : Value) (_ : World) => v = .pointer (some ⟨W.heap.size, 2, none⟩))) (y 1) X := hf.2.1
    have h2 : ((fun (v : Value) (_ : World) => v = .slice A a.n c)) (y 2) X := hf.2.2.1
    have h3 : ((fun (v : Value) (_ : World) => v = .agg #[.int .i64 s, .int .i64 t, .slice A a.n c, SV, .slice (some ⟨gl, 0, none⟩) n2 n2])) (y 3) X := hf.2.2.2.1
    obtain ⟨g4, h4, q4⟩ : ((fun (v : Value) (X : World) => ∃ g, v = .slice (some ⟨g, 0, none⟩) a.n a.n ∧ BI X g a.n (Nw.fw x))) (y 4) X := hf.2.2.2.2.1
    have h5 : ((fun (v : Value) (_ : World) => v = .pointer (some ⟨W.heap.size, 0, none⟩))) (y 5) X := hf.2.2.2.2.2.1
    have h6 : ((fun (v : Value) (_ : World) => v = .pointer (some ⟨W.heap.size, 0, none⟩))) (y 6) X := hf.2.2.2.2.2.2.1
    have h7 : ((fun (v : Value) (_ : World) => v = .int .i64 s)) (y 7) X := hf.2.2.2.2.2.2.2.1
    have h8 : ((fun (v : Value) (_ : World) => v = .int .i64 (a.nw.sp (Nw.fw x) s))) (y 8) X := hf.2.2.2.2.2.2.2.2.1
    clear hf
    clear hsep hlt
    refine Box.mk ?_
    simp only [List.drop_succ_cons, List.drop_zero, fill, Act.put, Nat.reduceAdd, List.setIfInBounds_toArray, List.set_cons_zero, List.set_cons_succ, h0, h1, h2, h3, h4, h5, h6, h7, h8]
    clear h0 h1 h2 h3 h4 h5 h6 h7 h8
    have EX := Lib.hid ex; clear ex
    go_wp2_with fail
    refine NoPanic.normal ?_
    go_wp2
    go_ret
    exact ⟨rfl, HB.out.trans EX.out⟩
end Go.Proofs.Ytilcbbdmenknfaa
namespace Go.Proofs.Ytilcbbdmenknfaa
open Go.RowKit

/-- x lies between -/
def bw (x lo hi : Int) : Bool := decide (lo ≤ x) && decide (x ≤ hi)
theorem bw_iff {x lo hi : Int} : bw x lo hi = true ↔ lo ≤ x ∧ x ≤ hi := by unfold bw; simp
theorem isBetween_bw (x lo hi : Int) (W : World) : Calls Try.prog 63 #[.int .i64 x, .int .i64 lo, .int .i64 hi] W fun e W' => e = .returned (.bool (bw x lo hi)) ∧ W = W' := isBetween_any x lo hi W
/-- is arc k right? -/
def okA (N : Int) (a : Ar) (k : Nat) : Bool := bw (a.f k) 0 (N - 1) && bw (a.t k) 0 (N - 1) && !decide (a.f k = a.t k) && bw (a.c k) 0 1000000
/-- is it a net? -/
def vNet (N : Int) (a : Ar) : Bool := bw N 2 40 && decide (a.n ≤ 160) && (List.range a.n).all (okA N a)
theorem vNet_iff {N : Int} {a : Ar} : vNet N a = true ↔ (2 ≤ N ∧ N ≤ 40) ∧ a.n ≤ 160 ∧ ∀ k, k < a.n → okA N a k = true := by
  unfold vNet
  rw [Bool.and_eq_true, Bool.and_eq_true, bw_iff, decide_eq_true_iff, List.all_eq_true]
  constructor
  · rintro ⟨⟨h1, h2⟩, h3⟩; exact ⟨h1, h2, fun k hk => h3 k (List.mem_range.2 hk)⟩
  · rintro ⟨h1, h2, h3⟩; exact ⟨⟨h1, h2⟩, fun k hk => h3 k (List.mem_range.1 hk)⟩
theorem vNet_ok {N : Int} {a : Ar} (h : vNet N a = true) : ∃ m : Nat, N = m ∧ 2 ≤ m ∧ m ≤ 40 ∧ a.n ≤ 160 ∧ a.Ok m 1000000 := by
  obtain ⟨⟨h1, h2⟩, h3, h4⟩ := vNet_iff.1 h
  obtain ⟨m, rfl⟩ : ∃ m : Nat, N = m := ⟨N.toNat, by omega⟩
  have h5 : ∀ k, k < a.n → (0 ≤ a.f k ∧ a.f k ≤ (m : Int) - 1) ∧ (0 ≤ a.t k ∧ a.t k ≤ (m : Int) - 1) ∧ a.f k ≠ a.t k ∧ 0 ≤ a.c k ∧ a.c k ≤ 1000000 := by
    intro k hk
    have := h4 k hk
    unfold okA at this
    simp only [Bool.and_eq_true, bw_iff, Bool.not_eq_true', decide_eq_false_iff_not] at this
    exact ⟨this.1.1.1, this.1.1.2, this.1.2, this.2⟩
  refine ⟨m, rfl, by omega, by omega, h3, ⟨fun k hk => (h5 k hk).1.1, fun k hk => ?_, fun k hk => (h5 k hk).2.1.1, fun k hk => ?_, fun k hk => (h5 k hk).2.2.1, fun k hk => (h5 k hk).2.2.2.1, fun k hk => (h5 k hk).2.2.2.2⟩⟩
  · have := (h5 k hk).1.2; omega
  · have := (h5 k hk).2.1.2; omega
theorem vNet_no {N : Int} {a : Ar} {k : Nat} (hk : k < a.n) (h : okA N a k = false) : vNet N a = false := by
  cases hv : vNet N a
  · rfl
  · rw [(vNet_iff.1 hv).2.2 k hk] at h; cases h

set_option maxHeartbeats 4000000 in
set_option maxRecDepth 100000 in
theorem isNet_any (N : Int) (a : Ar) (AV : Value) (W : World) (hA : Al W AV a) :
    Calls Try.prog 47 #[.agg #[.int .i64 N, AV]] W fun e W' => e = .returned (.bool (vNet N a)) ∧ Ext W W' := by
  have HA := Lib.hid hA
  obtain ⟨A, c, rfl, hac, hcm, -⟩ := hA
  obtain ⟨r, hr⟩ : ∃ r, r = vNet N a := ⟨_, rfl⟩
  rw [← hr]
  have HR := Lib.hid hr; clear hr
  have bb := al1 W (.cells #[.int .i64 N, .slice A a.n c] 30)
  go_enter Try.func47, Try.ntmps47
  go_wp2_with fail
  refine (isBetween_bw _ _ _ _).mono ?_
  rintro e w1 ⟨rfl, rfl⟩
  cases h1 : bw N 2 40
  · have hr : vNet N a = false := by unfold vNet; rw [h1]; rfl
    rw [← HR.out] at hr
    have HR2 := Lib.hid hr; clear hr HR h1
    go_wp2
    go_ret
    exact ⟨by rw [HR2.out]; rfl, bb⟩
  · obtain ⟨hN1, hN2⟩ := bw_iff.1 h1
    have H1 := Lib.hid h1; clear h1
    by_cases hn : a.n ≤ 160
    · go_wp2_with fail
      go_loopw [18] (fun i wr => ∃ k : Nat, i = .int .i64 k ∧ k ≤ a.n ∧ Hid ((∀ j, j < k → okA N a j = true) ∧ wr.cell? ⟨W.heap.size, 0, none⟩ = some (.int .i64 N) ∧ W.heap.size < wr.heap.size ∧ Ext W wr)) (fun i _ => a.n - (intOf i).toNat)
      case atStart => exact ⟨0, rfl, Nat.zero_le _, Lib.hid ⟨fun j hj => by omega, by rw [World.cell?_alloc_new]; rfl, by simp, bb⟩⟩
      case round =>
        clear bb
        obtain ⟨k, rfl, hk, hin⟩ := hrel
        by_cases hlt : k < a.n
        · obtain ⟨b, off, rfl, d1, d2, d3⟩ := HA.out.arc hin.out.2.2.2 hlt
          have m0 := hin.out.2.1
          have mz := hin.out.2.2.1
          obtain ⟨ok, hok⟩ : ∃ ok, ok = okA N a k := ⟨_, rfl⟩
          have hok2 := hok
          unfold okA at hok2
          obtain ⟨fk, hfk⟩ : ∃ x, x = a.f k := ⟨_, rfl⟩
          obtain ⟨tk, htk⟩ : ∃ x, x = a.t k := ⟨_, rfl⟩
          obtain ⟨ck, hck⟩ : ∃ x, x = a.c k := ⟨_, rfl⟩
          rw [← hfk, ← htk, ← hck] at hok2
          rw [← hfk] at d1; rw [← htk] at d2; rw [← hck] at d3
          have HOK := Lib.hid hok
          clear hfk htk hck hok
          go_wp2_with fail
          refine (isBetween_bw _ _ _ _).mono ?_
          rintro e w1 ⟨rfl, rfl⟩
          have hEX : Hid (Ext W (wr.alloc (.cells #[.int .i64 fk, .int .i64 tk, .int .i64 ck] 65))) := Lib.hid (hin.out.2.2.2.alc _)
          have hno : ok = false → r = false := fun h => by rw [HR.out]; exact vNet_no hlt (by rw [← HOK.out]; exact h)
          have HNO := Lib.hid hno; clear hno
          cases h1 : bw fk 0 (N - 1)
          · rw [h1] at hok2
            have hr := Lib.hid (HNO.out (by rw [hok2]; rfl))
            clear h1 hok2
            go_wp2
            go_ret
            exact ⟨by rw [hr.out]; rfl, hEX.out⟩
          · rw [h1] at hok2
            clear h1
            go_wp2_with fail
            refine (isBetween_bw _ _ _ _).mono ?_
            rintro e w1 ⟨rfl, rfl⟩
            cases h2 : bw tk 0 (N - 1)
            · rw [h2] at hok2
              have hr := Lib.hid (HNO.out (by rw [hok2]; rfl))
              clear h2 hok2
              go_wp2
              go_ret
              exact ⟨by rw [hr.out]; rfl, hEX.out⟩
            · rw [h2] at hok2
              clear h2
              by_cases h3 : fk = tk
              · rw [decide_eq_true h3] at hok2
                subst h3
                have hr := Lib.hid (HNO.out (by rw [hok2]; rfl))
                clear hok2
                go_wp2
                go_ret
                exact ⟨by rw [hr.out]; rfl, hEX.out⟩
              · rw [decide_eq_false h3] at hok2
                go_wp2_with fail
                refine (isBetween_bw _ _ _ _).mono ?_
                rintro e w1 ⟨rfl, rfl⟩
                cases h4 : bw ck 0 1000000
                · rw [h4] at hok2
                  have hr := Lib.hid (HNO.out (by rw [hok2]; rfl))
                  clear h4 hok2
                  go_wp2
                  go_ret
                  exact ⟨by rw [hr.out]; rfl, hEX.out⟩
                · rw [h4] at hok2
                  have hok3 : okA N a k = true := by rw [← HOK.out, hok2]; rfl
                  have HK := Lib.hid hok3
                  have hcell : Hid ((wr.alloc (.cells #[.int .i64 fk, .int .i64 tk, .int .i64 ck] 65)).cell? ⟨W.heap.size, 0, none⟩ = some (.int .i64 N)) := Lib.hid (keepAt (Ext.alc (Ext.refl wr) _) mz m0)
                  clear h4 hok2 hok3
                  go_wp2
                  go_roundw
                  case rel =>
                    refine ⟨k + 1, by go_num, by omega, Lib.hid ⟨fun j hj => ?_, hcell.out, by simp; omega, hEX.out⟩⟩
                    by_cases e : j = k
                    · subst e; exact HK.out
                    · exact hin.out.1 j (by omega)
                  case measure => simp [intOf]; omega
        · obtain rfl : k = a.n := by omega
          have hr : r = true := by rw [HR.out]; exact vNet_iff.2 ⟨⟨hN1, hN2⟩, hn, hin.out.1⟩
          have HR2 := Lib.hid hr; clear hr
          go_wp2
          go_ret
          exact ⟨by rw [HR2.out]; rfl, hin.out.2.2.2⟩
    · have hr : vNet N a = false := by unfold vNet; rw [decide_eq_false hn, Bool.and_false, Bool.false_and]
      rw [← HR.out] at hr
      have HR2 := Lib.hid hr; clear hr HR
      have hn2 : ¬ (a.n : Int) ≤ 160 := by omega
      have hn3 : (160 : Int) < a.n := by omega
      go_wp2
      go_ret
      exact ⟨by rw [HR2.out]; rfl, bb⟩

set_option maxHeartbeats 4000000 in
set_option maxRecDepth 100000 in
theorem filled_any (N : Nat) (a : Ar) (AV : Value) (W : World) (hA : Al W AV a) (hO : a.Ok N 1000000) (hn : a.n ≤ 1000) (hN2 : 2 ≤ N) (hN : N ≤ 1000) :
    Calls Try.prog 48 #[.agg #[.int .i64 N, AV]] W fun e W' => ∃ (x : Nat → Int) (gl : Nat) (SV : Value), e = .returned (.agg #[.int .i64 (0 : Nat), .int .i64 (N - 1 : Nat), AV, SV, .slice (some ⟨gl, 0, none⟩) (2 * a.n) (2 * a.n)]) ∧
      W.heap.size ≤ gl ∧ BI W' gl (2 * a.n) x ∧ Full a.nw N 0 (N - 1) x ∧ Sl W' (W.heap.size + 1 + 1) SV N (stf a.nw a.n) ∧ Ext W W' := by
  have HA := Lib.hid hA; have HO := Lib.hid hO
  obtain ⟨A, c, rfl, hac, hcm, -⟩ := hA
  obtain ⟨t, ht⟩ : ∃ t, t = N - 1 := ⟨_, rfl⟩
  have ht2 : (N : Int) - 1 = (t : Int) := by omega
  rw [← ht]
  have HT := Lib.hid ht
  have htN : t < N := by omega
  have h0t : 0 ≠ t := by omega
  clear ht
  go_enter Try.func48, Try.ntmps48
  go_upto_region 1 with fail
  have bb := al2 W (.cells #[.int .i64 N, .slice A a.n c] 30) (.cells #[.int .i64 0, .int .i64 0, .slice none 0 0, .slice none 0 0, .slice none 0 0] 87)
  have m0 : ((W.alloc (.cells #[.int .i64 N, .slice A a.n c] 30)).alloc (.cells #[.int .i64 0, .int .i64 0, .slice none 0 0, .slice none 0 0, .slice none 0 0] 87)).cell? ⟨W.heap.size, 0, none⟩ = some (.int .i64 N) := by
    rw [World.cell?_alloc_past _ _ _ (by simp), World.cell?_alloc_new]; rfl
  have m1 : ((W.alloc (.cells #[.int .i64 N, .slice A a.n c] 30)).alloc (.cells #[.int .i64 0, .int .i64 0, .slice none 0 0, .slice none 0 0, .slice none 0 0] 87)).cell? ⟨W.heap.size, 1, none⟩ = some (.slice A a.n c) := by
    rw [World.cell?_alloc_past _ _ _ (by simp), World.cell?_alloc_new]; rfl
  have hh1 := heap_alloc_new (W.alloc (.cells #[.int .i64 N, .slice A a.n c] 30)) (.cells #[.int .i64 0, .int .i64 0, .slice none 0 0, .slice none 0 0, .slice none 0 0] 87)
  simp only [World.size_alloc] at hh1
  have hz : ((W.alloc (.cells #[.int .i64 N, .slice A a.n c] 30)).alloc (.cells #[.int .i64 0, .int .i64 0, .slice none 0 0, .slice none 0 0, .slice none 0 0] 87)).heap.size = W.heap.size + 1 + 1 := by simp
  generalize (W.alloc (.cells #[.int .i64 N, .slice A a.n c] 30)).alloc (.cells #[.int .i64 0, .int .i64 0, .slice none 0 0, .slice none 0 0, .slice none 0 0] 87) = W1 at *
  have HB : Hid (Ext W W1) := Lib.hid bb
  have HH1 := Lib.hid hh1
  have zlt : W.heap.size + 1 < W1.heap.size := (five hh1).2.2.2.2.2.2
  have HZ := Lib.hid hz
  clear bb hh1 hz
  go_wp2_with fail
  refine (newNetwork_any a N 0 t 1000000 _ _ (HA.out.ext HB.out) HO.out hn hN).mono ?_
  rintro e w1 ⟨SV, rfl, hsl, hx⟩
  have HSL := Lib.hid hsl
  have HX := Lib.hid hx
  clear m0 m1 hx
  have hz1 : W1.heap.size = W.heap.size + 1 + 1 := HZ.out
  rw [hz1] at HSL
  obtain ⟨gs, cs, rfl, -, -, -⟩ := hsl
  clear hz1
  go_wp2_with fail
  refine (fill_any a N 0 t _ 1000000 _ (.slice (some ⟨gs, 0, none⟩) N cs) (stf a.nw a.n) _ (HA.out.ext (HB.out.trans HX.out)) HO.out hn hN (by omega) HSL.out (stf_stp a.nw N) (by omega) htN h0t).mono ?_
  rintro e w2 ⟨x, gl, rfl, hgl, hbi, hfull, hx⟩
  have EX := Lib.hid (HX.out.trans hx)
  have HSL2 := Lib.hid (HSL.out.ext hx)
  have HBI := Lib.hid hbi; have HFULL := Lib.hid hfull
  obtain ⟨p0, p1, p2, p3, p4, p5, p6⟩ := five ((Below.block EX.out (W.heap.size + 1) zlt).trans HH1.out)
  have zw := HX.out.size
  clear hx hbi hfull HX HSL
  go_wp2
  refine bodyPost_ret (v := .agg #[.int .i64 0, .int .i64 t, .slice A a.n c, .slice (some ⟨gs, 0, none⟩) N cs, .slice (some ⟨gl, 0, none⟩) (2 * a.n) (2 * a.n)]) (by simp [results, Try.results48, go_sem, p0, p1, p2, p3, p4]) rfl ?_
  have hne1 : gl ≠ W.heap.size + 1 := by omega
  refine ⟨x, gl, _, rfl, by omega, Bk.far (Bk.far (Bk.far (Bk.far (Bk.far HBI.out hne1 _) hne1 _) hne1 _) hne1 _) hne1 _, HFULL.out, ?_, (((((HB.out.trans EX.out).sc (by omega)).sc (by omega)).sc (by omega)).sc (by omega)).sc (by omega)⟩
  refine HSL2.out.keep (by simp [World.setCell]) fun b hb => ?_
  have hb1 : b ≠ W.heap.size + 1 := by omega
  rw [Below.heap_setCell _ _ _ b hb1, Below.heap_setCell _ _ _ b hb1, Below.heap_setCell _ _ _ b hb1, Below.heap_setCell _ _ _ b hb1, Below.heap_setCell _ _ _ b hb1]
end Go.Proofs.Ytilcbbdmenknfaa
namespace Go.Proofs.Ytilcbbdmenknfaa

/-- v is the least cost of a side -/
structure Mc (G : Nw) (s t : Nat) (v : Int) : Prop where
  is : ∃ S, Nw.Sd s t S ∧ G.ct S = v
  le : ∀ S, Nw.Sd s t S → v ≤ G.ct S
theorem Mc.one {G : Nw} {s t : Nat} {v w : Int} (h : Mc G s t v) (k : Mc G s t w) : v = w := by
  obtain ⟨S, h1, h2⟩ := h.is
  obtain ⟨T, h3, h4⟩ := k.is
  have := h.le T h3
  have := k.le S h1
  omega
theorem Full.mc {G : Nw} {N s t : Nat} {x : Nat → Int} (hN : G.In N) (hs : s < N) (ht : t < N) (h : Full G N s t x) : Mc G s t (G.sp (Nw.fw x) s) :=
  ⟨h.side hN hs ht, fun _ hS => h.fp.weak hN hs hS⟩
theorem Ar.Ok.in_ {a : Ar} {N : Nat} {M : Int} (h : a.Ok N M) : a.nw.In N := fun k hk => by
  have h1 := h.f0 k hk; have h2 := h.fN k hk; have h3 := h.t0 k hk; have h4 := h.tN k hk
  refine ⟨?_, ?_⟩
  · show (a.f k).toNat < N; omega
  · show (a.t k).toNat < N; omega

/-- the two arcs of awake -/
def aw : Ar := ⟨2, fun k => if k = 0 then 0 else 1, fun k => if k = 0 then 1 else 2, fun k => if k = 0 then 3 else 2⟩
theorem aw_v : vNet 3 aw = true := by decide
theorem aw_two {v : Int} (h : Mc aw.nw 0 2 v) : v = 2 := by
  obtain ⟨S, h1, h2⟩ := h.is
  have h3 := h.le (fun i => decide (i < 2)) ⟨by decide, by decide⟩
  have e : ∀ S, aw.nw.ct S = (if S 0 = true ∧ S 1 = false then 3 else 0) + (if S 1 = true ∧ S 2 = false then 2 else 0) := by
    intro S
    have d : aw.nw.ct S = (0 + (if S 0 = true ∧ S 1 = false then 3 else 0)) + (if S 1 = true ∧ S 2 = false then 2 else 0) := rfl
    rw [d]; omega
  rw [e] at h3 h2
  simp at h3
  have a0 := h1.1
  have a2 := h1.2
  rw [a0, a2] at h2
  cases hb : S 1 <;> simp [hb] at h2 <;> omega
end Go.Proofs.Ytilcbbdmenknfaa
