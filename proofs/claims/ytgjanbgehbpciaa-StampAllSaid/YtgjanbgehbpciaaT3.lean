/- Walks: next. -/
import Derived.Test.YtgjanbgehbpciaaT2
namespace Go.Proofs.Ytgjanbgehbpciaa
open Go.RowKit Go.Shelf
attribute [local go_sem] Oper.semAt_some

/-- between two rounds -/
def NI (c N S bc cap : Nat) (cs : List Int) (W : World) (pre : List (IxV N)) (X : World) : Prop :=
  ∃ l, Run c cs pre l ∧ Ar3 X bc l ∧ Boxed X S 22 (.slice (some ⟨bc, 0, none⟩) N cap) ∧ Boxed X (S + 1) 3 (.int .i64 c) ∧ Boxed X (S + 1 + 1) 4 (.bool false) ∧ Gx bc W X
/-- a round has returned -/
def NX (c N S bc : Nat) (cs : List Int) (W : World) (cd : Code) (pre : List (IxV N)) (X : World) : Prop :=
  cd = .ret ∧ ∃ l pre' x, pre = pre' ++ [x] ∧ Run c cs pre' l ∧ l.getD x.1.1 0 + 1 < (c : Int) ∧ Ar3 X bc (l.set x.1.1 (l.getD x.1.1 0 + 1)) ∧ Boxed X (S + 1 + 1) 4 (.bool true) ∧ Gx bc W X
section
variable {c N S bc cap B : Nat} {cs : List Int} {W : World}
theorem NI.own (hB : S + 1 + 1 < B) (hbc : bc < B) (hW : W.heap.size ≤ B) : OwnFrom B (NI c N S bc cap cs W) := by
  rintro pre X Y row ⟨l, h1, h2, h3, h4, h5, h6⟩ hg hr
  have hb : ∀ k, k < B → k < X.heap.size → Y.heap[k]? = X.heap[k]? := fun k hk hX => hg.block k hX (fun e => by have := (hr k e.symm).1; omega)
  refine ⟨l, h1, (hb bc hbc h2.lt).trans h2, (hb _ (by omega) h3.lt).trans h3, (hb _ (by omega) h4.lt).trans h4, (hb _ (by omega) h5.lt).trans h5, ?_⟩
  exact ⟨hg.os.trans h6.os, hg.tape.trans h6.tape, hg.output.trans h6.output, Nat.le_trans h6.size hg.size, fun k hk hne => (hb k (by omega) (Nat.lt_of_lt_of_le hk h6.size)).trans (h6.block k hk hne)⟩
theorem NX.own (hB : S + 1 + 1 < B) (hbc : bc < B) (hW : W.heap.size ≤ B) (cd : Code) : OwnFrom B (NX c N S bc cs W cd) := by
  rintro pre X Y row ⟨h0, l, pre', x, h1, h2, h3, h4, h5, h6⟩ hg hr
  have hb : ∀ k, k < B → k < X.heap.size → Y.heap[k]? = X.heap[k]? := fun k hk hX => hg.block k hX (fun e => by have := (hr k e.symm).1; omega)
  refine ⟨h0, l, pre', x, h1, h2, h3, (hb bc hbc h4.lt).trans h4, (hb _ (by omega) h5.lt).trans h5, ?_⟩
  exact ⟨hg.os.trans h6.os, hg.tape.trans h6.tape, hg.output.trans h6.output, Nat.le_trans h6.size hg.size, fun k hk hne => (hb k (by omega) (Nat.lt_of_lt_of_le hk h6.size)).trans (h6.block k hk hne)⟩
end
theorem Kn.sc {n₀ bc : Nat} (X : World) (i : Nat) (x : Int) : Kn n₀ bc X (X.setCell ⟨bc, i, none⟩ (.int .i64 x)) :=
  ⟨fun b _ hne => by have : ¬ bc = b := fun e => hne e.symm
                     simp [World.setCell, Array.getElem?_modify, this], fun l hl => ⟨l.set i x, by simp, hl.set i x⟩⟩
theorem Kn.drew {n₀ bc : Nat} (X : World) : Kn n₀ bc X X.drew := ⟨fun _ _ _ => rfl, fun l hl => ⟨l, rfl, hl⟩⟩

theorem heap_far {Y : World} {g i k : Nat} {v : Value} (hne : k ≠ g) : (Y.setCell ⟨g, i, none⟩ v).heap[k]? = Y.heap[k]? := by
  have : ¬ g = k := fun e => hne e.symm
  simp [World.setCell, Array.getElem?_modify, this]
theorem Gx.drw {gf : Nat} {W Y : World} (h : Gx gf W Y) : Gx gf W Y.drew := ⟨h.os, h.tape, h.output, h.size, h.block⟩
theorem Gx.put {gf D : Nat} {o : Obj} {W Y : World} (h : Gx gf W Y) (hD : W.heap.size ≤ D) : Gx gf W (Y.putObj D o) := by
  have hg := grownBy_putObj' Y D o
  exact ⟨hg.os.trans h.os, hg.tape.trans h.tape, hg.output.trans h.output, Nat.le_trans h.size hg.size, fun k hk hne => (hg.block k (Nat.lt_of_lt_of_le hk h.size) (fun e => by injection e; omega)).trans (h.block k hk hne)⟩
theorem set_at' {l : List Int} {i : Nat} {x : Int} (hi : i < l.length) : (l.set i x).getD i 0 = x := by
  rw [List.getD_eq_getElem?_getD, List.getElem?_set_self hi]; rfl
theorem Gx.far {gf g i : Nat} {v : Value} {W Y : World} (h : Gx gf W Y) (hg : W.heap.size ≤ g) : Gx gf W (Y.setCell ⟨g, i, none⟩ v) :=
  ⟨h.os, h.tape, h.output, by have := h.size; simpa [World.setCell] using this, fun k hk hne => (heap_far (by omega)).trans (h.block k hk hne)⟩

set_option maxHeartbeats 4000000 in
set_option maxRecDepth 100000 in
theorem next_in (n N bc cap c : Nat) (cs : List Int) (W : World) (hn : 3 ≤ n) (hN : N ≤ 1000) (hc : 1 ≤ c ∧ c ≤ 8) (hl : cs.length = N) (hbd : ∀ x ∈ cs, 0 ≤ x ∧ x < (c : Int)) (hcs : Ar3 W bc cs) :
    CallsIn Fence.wide n Try.prog 73 #[.slice (some ⟨bc, 0, none⟩) N cap, .int .i64 c] W fun e W' => e = .returned (.bool (nxt c cs).1) ∧ Ar3 W' bc (nxt c cs).2 ∧ Gx bc W W' := by
  have h1 : 1 ≤ n := by omega
  have hrun := fun (pre : List (IxV N)) l (h : Run c cs pre l) => (⟨h.len, h.bd hc.1 hbd⟩ : l.length = cs.length ∧ ∀ x ∈ l, 0 ≤ x ∧ x < (c : Int))
  have hdone := fun (pre : List (IxV N)) l (hd : dn N N pre) (h : Run c cs pre l) => run_nxt (c := c) hl N pre l (Nat.le_refl _) hd h
  have hstop := fun (k : Nat) (pre : List (IxV N)) x l (hk : k ≤ N) (hd : dn N k (pre ++ [x])) (h : Run c cs pre l) (hx : l.getD x.1.1 0 + 1 < (c : Int)) => run_stop hl hk hd h hx
  have HRUN := Lib.hid hrun; have HDONE := Lib.hid hdone; have HSTOP := Lib.hid hstop; have HCS := Lib.hid hcs; have HL := Lib.hid hl
  clear hrun hdone hstop hbd hcs
  have hblt := HCS.out.lt
  refine callsIn_of_wp_marks Try.func73 rfl trivial ?_ rfl
  simp only [Try.ntmps73, List.size_toArray, List.length_cons, List.length_nil, Nat.reduceAdd, Nat.reduceSub, Array.replicate_succ, Array.replicate_zero, List.push_toArray, List.append_toArray, List.nil_append, List.cons_append]
  gi_wp2
  refine ⟨trivial, ?_⟩
  refine (callsIn_wide.2 (back_c _ _ _ _)).mono ?_
  rintro e V ⟨rfl, rfl⟩
  gi_wp2
  obtain ⟨W0, hW0⟩ : ∃ W0, (((W.alloc (.cells #[.slice (some ⟨bc, 0, none⟩) N cap] 22)).alloc (.cells #[.int .i64 c] 3)).alloc (.cells #[.bool false] 4)).alloc (.cells #[.slice (some ⟨bc, 0, none⟩) N cap] 22) = W0 := ⟨_, rfl⟩
  have b0 : Boxed W0 W.heap.size 22 (.slice (some ⟨bc, 0, none⟩) N cap) := by rw [← hW0]; exact (((Boxed.new W _ _).alloc _).alloc _).alloc _
  have b1 : Boxed W0 (W.heap.size + 1) 3 (.int .i64 c) := by
    rw [← hW0]; have := Boxed.new (W.alloc (.cells #[.slice (some ⟨bc, 0, none⟩) N cap] 22)) 3 (.int .i64 c); rw [World.size_alloc] at this; exact (this.alloc _).alloc _
  have b2 : Boxed W0 (W.heap.size + 1 + 1) 4 (.bool false) := by
    rw [← hW0]; have := Boxed.new ((W.alloc (.cells #[.slice (some ⟨bc, 0, none⟩) N cap] 22)).alloc (.cells #[.int .i64 c] 3)) 4 (.bool false); rw [World.size_alloc, World.size_alloc] at this; exact this.alloc _
  have b3 : Boxed W0 (W.heap.size + 1 + 1 + 1) 22 (.slice (some ⟨bc, 0, none⟩) N cap) := by
    rw [← hW0]; have := Boxed.new (((W.alloc (.cells #[.slice (some ⟨bc, 0, none⟩) N cap] 22)).alloc (.cells #[.int .i64 c] 3)).alloc (.cells #[.bool false] 4)) 22 (.slice (some ⟨bc, 0, none⟩) N cap); rw [World.size_alloc, World.size_alloc, World.size_alloc] at this; exact this
  have e0 : Ext W W0 := by rw [← hW0]; exact ((((Ext.refl W).alc _).alc _).alc _).alc _
  have hs0 : W0.heap.size = W.heap.size + 1 + 1 + 1 + 1 := by rw [← hW0]; simp
  have hcs0 := HCS.out.ext e0
  rw [hW0]
  clear hW0
  have zl : W0.heap.size ≤ W.heap.size + 1 + 1 + 1 + 1 := by omega
  have zg : W.heap.size + 1 + 1 + 1 + 1 ≤ W0.heap.size := by omega
  clear hs0
  refine wpIn_rangeFunc_ownF rfl h1 (gf := 107) (lb := #[.pointer (some ⟨W.heap.size + 1 + 1 + 1, 0, none⟩)]) rfl trivial (enters_of Try.func107 (by kernel_rfl) rfl)
    (back_stops (n - 1) (by omega) (W.heap.size + 1 + 1 + 1) W0.heap.size bc N cap hN (by omega) (by omega) (by omega) W0 (Nat.le_refl _) b3 ⟨cs, HL.out, hcs0⟩)
    Kn.trans (fun X l o o' hl h _ _ => Kn.put (by omega) X l o o' hl h) (Below.refl _ _) (fun _ => rfl)
    (NI c N W.heap.size bc cap cs W) (NX c N W.heap.size bc cs W) (NI.own (by omega) (by omega) (by omega)) (NX.own (by omega) (by omega) (by omega))
    ⟨cs, .nil, hcs0, b0, b1, b2, Gx.of e0⟩
    (fun x => { tmps := #[.slice (some ⟨bc, 0, none⟩) N cap, .int .i64 c, .pointer (some ⟨W.heap.size, 0, none⟩), .pointer (some ⟨W.heap.size + 1, 0, none⟩), .pointer (some ⟨W.heap.size + 1 + 1, 0, none⟩), .int .i64 (x.1.1 : Int), .slice (some ⟨bc, 0, none⟩) N cap, .func (.func 107) #[] #[.pointer (some ⟨W.heap.size + 1 + 1 + 1, 0, none⟩)], .int .i64 (x.1.1 : Int), .int .i64 x.1.2, undef, undef, undef, undef, undef, undef, undef, undef, undef, undef, undef, undef, undef, undef, undef], defers := [] }) ?assign ?body ?done ?stop
  case assign =>
    intro l x X K hK
    unfold encI
    gi_wp2
    exact hK
  case body =>
    rintro lo pre x X ⟨l, h1, h2, h3, h4, h5, h6⟩ hlt
    obtain ⟨r1, r2⟩ := HRUN.out pre l h1
    have hxi := x.2
    have hlN : l.length = N := r1.trans HL.out
    have hlx : x.1.1 < l.length := by omega
    have c0 := h3.cell
    have c1 := h4.cell
    have c3 := h2.cell hlx
    have f3 := h2.frozen
    have f5 := h5.frozen
    have hv : 0 ≤ l.getD x.1.1 0 ∧ l.getD x.1.1 0 < (c : Int) := r2 _ (by rw [List.getD_eq_getElem?_getD, List.getElem?_eq_getElem hlx]; exact List.getElem_mem _)
    obtain ⟨⟨i, x2⟩, hi⟩ := x
    simp only at *
    obtain ⟨v, hvv⟩ : ∃ v, v = l.getD i 0 := ⟨_, rfl⟩
    rw [← hvv] at c3 hv
    obtain ⟨cc1, cc2⟩ := hc
    obtain ⟨v0, v1⟩ := hv
    have HV := Lib.hid hvv; have H1 := Lib.hid h1; have H2 := Lib.hid h2; have H3 := Lib.hid h3; have H4 := Lib.hid h4; have H5 := Lib.hid h5; have H6 := Lib.hid h6
    have hS := HCS.out.lt
    clear hvv h1 h2 h3 h4 h5 h6 r1 r2 HDONE HSTOP HRUN b0 b1 b2 b3 e0 hcs0 hlN f5
    have hne : ∀ k, bc < k → (X.setCell ⟨bc, i, none⟩ (.int .i64 (v + 1))).heap[k]? = X.heap[k]? := fun k hk => by
      have : ¬ bc = k := by omega
      simp [World.setCell, Array.getElem?_modify, this]
    have y0 : Boxed (X.setCell ⟨bc, i, none⟩ (.int .i64 (v + 1))) W.heap.size 22 (.slice (some ⟨bc, 0, none⟩) N cap) := (hne _ (by omega)).trans H3.out
    have y1 : Boxed (X.setCell ⟨bc, i, none⟩ (.int .i64 (v + 1))) (W.heap.size + 1) 3 (.int .i64 c) := (hne _ (by omega)).trans H4.out
    have y2 : Boxed (X.setCell ⟨bc, i, none⟩ (.int .i64 (v + 1))) (W.heap.size + 1 + 1) 4 (.bool false) := (hne _ (by omega)).trans H5.out
    have y3 : Ar3 (X.setCell ⟨bc, i, none⟩ (.int .i64 (v + 1))) bc (l.set i (v + 1)) := H2.out.set i (v + 1)
    have y4 : Gx bc W (X.setCell ⟨bc, i, none⟩ (.int .i64 (v + 1))) := H6.out.trans (Gx.sc i _)
    have y5 : KeepsOthers X (X.setCell ⟨bc, i, none⟩ (.int .i64 (v + 1))) := KeepsOthers.setCell _ _ _
    have y6 : Kn W0.heap.size bc X (X.setCell ⟨bc, i, none⟩ (.int .i64 (v + 1))) := Kn.sc _ _ _
    clear hne
    gi_wp2
    generalize X.setCell ⟨bc, i, none⟩ (.int .i64 (v + 1)) = Y at *
    clear c0 c1 c3 f3
    have c0 := y0.cell
    have c1 := y1.cell
    have c3 : Y.cell? ⟨bc, i, none⟩ = some (.int .i64 (v + 1)) := by
      have := y3.cell (j := i) (by rw [List.length_set]; exact hlx)
      rwa [set_at' hlx] at this
    have f3 := y3.frozen
    have f5 := y2.frozen
    have c5 := y2.cell
    have Y0 := Lib.hid y0; have Y1 := Lib.hid y1; have Y2 := Lib.hid y2; have Y3 := Lib.hid y3; have Y4 := Lib.hid y4; have Y5 := Lib.hid y5; have Y6 := Lib.hid y6
    clear y0 y1 y2 y3 y4 y5 y6
    have hmo : Try.prog.follows .mixedOrders = true := by kernel_rfl
    by_cases hcl : v + 1 < (c : Int)
    · gi_region_o
      all_goals gi_wp2
      all_goals
        exact ⟨(Y5.out.trans (KeepsOthers.setCell Y _ _)).trans (KeepsOthers.drew _), rfl, l, pre, ⟨(i, x2), hi⟩, rfl, H1.out, by rw [← HV.out]; exact hcl, by rw [← HV.out]; exact (heap_far (Y := Y) (g := W.heap.size + 1 + 1) (i := 0) (v := .bool true) (by omega)).trans Y3.out, Boxed.set _ Y2.out, (Gx.far Y4.out (by omega)).drw⟩
    · gi_region_o
      all_goals gi_wp2
      all_goals
        exact ⟨(Y5.out.trans (KeepsOthers.setCell Y _ _)).trans (KeepsOthers.drew _), (Y6.out.trans (Kn.sc _ _ _)).trans (Kn.drew _), l.set i 0, Run.snoc (x := ⟨(i, x2), hi⟩) H1.out (by rw [← HV.out]; omega), by have := Y3.out.set i 0; rwa [List.set_set] at this, (heap_far (Y := Y) (g := bc) (i := i) (v := .int .i64 0) (by omega)).trans Y0.out, (heap_far (Y := Y) (g := bc) (i := i) (v := .int .i64 0) (by omega)).trans Y1.out, (heap_far (Y := Y) (g := bc) (i := i) (v := .int .i64 0) (by omega)).trans Y2.out, (Y4.out.trans (Gx.sc i _)).drw⟩
  case done =>
    rintro D xs X hD hxs ⟨l, h1, h2, h3, h4, h5, h6⟩ hK
    obtain ⟨n1, n2⟩ := HDONE.out xs l hxs h1
    rw [Nat.sub_self, List.drop_zero] at n1
    rw [Nat.sub_self, List.take_zero, List.nil_append] at n2
    have c5 := h5.cell
    have f5 := h5.frozen
    have N1 := Lib.hid n1; have N2 := Lib.hid n2; have H2 := Lib.hid h2; have H5 := Lib.hid h5; have H6 := Lib.hid h6; have HK := Lib.hid hK
    clear n1 n2 h1 h2 h3 h4 h5 h6 HDONE HSTOP HRUN b0 b1 b2 b3 e0 hcs0
    gi_wp2
    have hK' := (KeepsOthers.setCell X ⟨W.heap.size + 1 + 1, 0, none⟩ (.bool false)).same D _ HK.out rfl
    refine ⟨by simp, .inl ⟨_, _, rfl, run_takeDeferred hK', ?_⟩⟩
    have hc5 := cell_kept (World.cell?_setCell_same' X ⟨W.heap.size + 1 + 1, 0, none⟩ (.bool false) (by rw [c5]; rfl)) (grownBy_putObj' _ D (.deferred none)) (fun r e => by cases e; exact ⟨_, hK', rfl⟩)
    refine ⟨.bool false, ?_, by rw [N1.out], ?_, Gx.put (Gx.far H6.out (by omega)) (by omega)⟩
    · simp [results, Try.f73, go_sem, hc5]
    · rw [N1.out]
      have h2 := H2.out
      rw [N2.out] at h2
      have hlt := h2.lt
      exact ((grownBy_putObj' _ D (.deferred none)).block bc (by simpa [World.setCell] using hlt) (fun e => by injection e; omega)).trans ((heap_far (by omega)).trans h2)
  case stop =>
    rintro D cd pre X hD ⟨k, hk, hdn⟩ ⟨rfl, l, pre', x, rfl, h1, h2, h3, h4, h5⟩ hK
    have hst := HSTOP.out k pre' x l hk hdn h1 h2
    have c5 := h4.cell
    have ST := Lib.hid hst; have H3 := Lib.hid h3; have H4 := Lib.hid h4; have H5 := Lib.hid h5; have HK := Lib.hid hK
    clear hst h1 h2 h3 h4 h5 HDONE HSTOP HRUN b0 b1 b2 b3 e0 hcs0
    gi_wp2
    refine ⟨by simp, .inl ⟨_, _, rfl, run_takeDeferred HK.out, ?_⟩⟩
    have hc5 := cell_kept c5 (grownBy_putObj' _ D (.deferred none)) (fun r e => by cases e; exact ⟨_, HK.out, rfl⟩)
    refine ⟨.bool true, ?_, by rw [ST.out], ?_, Gx.put H5.out (by omega)⟩
    · simp [results, Try.f73, go_sem, hc5]
    · rw [ST.out]
      exact ((grownBy_putObj' _ D (.deferred none)).block bc H3.out.lt (fun e => by injection e; omega)).trans H3.out
theorem next_c (N bc cap c : Nat) (cs : List Int) (W : World) (hN : N ≤ 1000) (hc : 1 ≤ c ∧ c ≤ 8) (hl : cs.length = N) (hbd : ∀ x ∈ cs, 0 ≤ x ∧ x < (c : Int)) (hcs : Ar3 W bc cs) :
    Calls Try.prog 73 #[.slice (some ⟨bc, 0, none⟩) N cap, .int .i64 c] W fun e W' => e = .returned (.bool (nxt c cs).1) ∧ Ar3 W' bc (nxt c cs).2 ∧ Gx bc W W' :=
  callsIn_wide.1 (next_in 3 N bc cap c cs W (by omega) hN hc hl hbd hcs)
end Go.Proofs.Ytgjanbgehbpciaa
