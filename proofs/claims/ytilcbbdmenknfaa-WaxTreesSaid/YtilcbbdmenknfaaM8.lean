/- Filling a network until there is no more way: mathematics. · Walks: fill. · Walks: surplus, rest.flow. -/
import Derived.Test.YtilcbbdmenknfaaM6
import Derived.Test.YtilcbbdmenknfaaM7
namespace Go.Proofs.Ytilcbbdmenknfaa

/-- a rest beside a flow from s to t -/
structure Fp (G : Nw) (N s t : Nat) (x : Nat → Int) : Prop where
  rs : G.Rs x
  cons : ∀ v, v < N → v ≠ s → v ≠ t → G.sp (Nw.fw x) v = 0
/-- .. beside a greatest one -/
structure Full (G : Nw) (N s t : Nat) (x : Nat → Int) : Prop where
  fp : Fp G N s t x
  no : ∃ R la rk, G.Wk N s (fun j => decide (0 < x j)) R la rk ∧ R t = false

/-- before anything flows, when the first k arcs have been set -/
def xs (c : Nat → Int) (k : Nat) : Nat → Int := fun j => if j % 2 = 0 ∧ j / 2 < k then c (j / 2) else 0
theorem xs_zero (c : Nat → Int) : xs c 0 = fun _ => 0 := by funext j; unfold xs; rw [if_neg (by omega)]
theorem xs_succ (c : Nat → Int) (k : Nat) : up (xs c k) (2 * k) (c k) = xs c (k + 1) := by
  funext j
  unfold up xs
  by_cases e : j = 2 * k
  · subst e; rw [if_pos rfl, if_pos (by omega)]; congr 1; omega
  · rw [if_neg e]
    by_cases h : j % 2 = 0 ∧ j / 2 < k
    · rw [if_pos h, if_pos (by omega)]
    · rw [if_neg h, if_neg (by omega)]
theorem Fp.start {G : Nw} (N s t : Nat) (hc : ∀ k, k < G.m → 0 ≤ G.cp k) : Fp G N s t (xs G.cp G.m) := by
  have h0 : ∀ k, xs G.cp G.m (2 * k + 1) = 0 := fun k => by unfold xs; rw [if_neg (by omega)]
  have h1 : ∀ k, k < G.m → xs G.cp G.m (2 * k) = G.cp k := fun k hk => by unfold xs; rw [if_pos (by omega)]; congr 1; omega
  refine ⟨⟨fun k hk => by rw [h0, h1 k hk]; omega, fun j hj => ?_⟩, fun v _ _ _ => ?_⟩
  · unfold xs; split
    · exact hc _ (by omega)
    · omega
  · unfold Nw.sp Nw.fw
    refine Eq.trans (sm_congr (g := fun _ => 0) fun k _ => ?_) (sm_zero _)
    rw [h0]; simp
theorem Nw.sp_le (G : Nw) {x : Nat → Int} (h : G.Rs x) (v : Nat) : G.sp (fw x) v ≤ sm G.m G.cp := by
  refine sm_le fun k hk => ?_
  have a := h.sum k hk
  have b := h.nn (2 * k) (by omega)
  have c := h.nn (2 * k + 1) (by omega)
  unfold fw
  split <;> split <;> omega
theorem Fp.more {G : Nw} {N s t : Nat} {x : Nat → Int} {w : List Nat} {r : Int} (h : Fp G N s t x) (hne : s ≠ t) (hr : 1 ≤ r) (hc : G.Ch t w s) (hn : w.Nodup) (hw : ∀ j ∈ w, j < 2 * G.m ∧ r ≤ x j) :
    Fp G N s t (Nw.augs x w r) ∧ G.sp (Nw.fw (Nw.augs x w r)) s = G.sp (Nw.fw x) s + r := by
  have hsp := fun v => G.sp_augs (r := r) v (x := x) (fun j hj => (hw j hj).1) hc
  refine ⟨⟨Nw.Rs.augs G (by omega) h.rs hn hw, fun v hv h1 h2 => ?_⟩, ?_⟩
  · rw [hsp, h.cons v hv h1 h2, if_neg (fun e => h1 e.symm), if_neg (fun e => h2 e.symm)]; omega
  · rw [hsp, if_pos rfl, if_neg (fun e => hne e.symm)]; omega

/-- how much more may go from a network's source -/
def room (G : Nw) (s : Nat) (x : Nat → Int) : Nat := (sm G.m G.cp - G.sp (Nw.fw x) s).toNat
theorem room_less {G : Nw} {N s t : Nat} {x y : Nat → Int} {r : Int} (hy : Fp G N s t y) (hr : 1 ≤ r) (h : G.sp (Nw.fw y) s = G.sp (Nw.fw x) s + r) : room G s y < room G s x := by
  have := G.sp_le hy.rs s
  unfold room
  omega

/-- a greatest flow and its two sides -/
theorem Full.side {G : Nw} {N s t : Nat} {x : Nat → Int} (hN : G.In N) (hs : s < N) (ht : t < N) (h : Full G N s t x) : ∃ S, Nw.Sd s t S ∧ G.ct S = G.sp (Nw.fw x) s := by
  obtain ⟨R, la, rk, hw, hR⟩ := h.no
  refine ⟨R, ⟨hw.root, hR⟩, (G.tight hN hs h.fp.rs h.fp.cons ⟨hw.root, hR⟩).2 fun j hj hx hS => hw.closed j hj (by simpa using hx) hS⟩
theorem Fp.weak {G : Nw} {N s t : Nat} {x : Nat → Int} {S : Nat → Bool} (h : Fp G N s t x) (hN : G.In N) (hs : s < N) (hS : Nw.Sd s t S) : G.sp (Nw.fw x) s ≤ G.ct S := G.weak hN hs (h.rs.fl G h.cons) hS
end Go.Proofs.Ytilcbbdmenknfaa
namespace Go.Proofs.Ytilcbbdmenknfaa
open Go.RowKit

set_option maxHeartbeats 8000000 in
set_option maxRecDepth 100000 in
theorem fill_any (a : Ar) (N s t bs : Nat) (M : Int) (AV SV : Value) (st : Nat → List Nat) (W : World) (hA : Al W AV a) (hO : a.Ok N M) (hn : a.n ≤ 1000) (hN : N ≤ 1000) (hM : M ≤ 2000000)
    (hS : Sl W bs SV N st) (hst : Stp a.nw N st) (hs : s < N) (ht : t < N) (hne : s ≠ t) :
    Calls Try.prog 71 #[.agg #[.int .i64 s, .int .i64 t, AV, SV]] W fun e W' => ∃ (x : Nat → Int) (gl : Nat), e = .returned (.agg #[.int .i64 s, .int .i64 t, AV, SV, .slice (some ⟨gl, 0, none⟩) (2 * a.n) (2 * a.n)]) ∧
      W.heap.size ≤ gl ∧ BI W' gl (2 * a.n) x ∧ Full a.nw N s t x ∧ Ext W W' := by
  obtain ⟨n2, hn2⟩ : ∃ n2, n2 = 2 * a.n := ⟨_, rfl⟩
  rw [← hn2]
  obtain ⟨hn2a, hn2b⟩ : n2 ≤ 2 * a.n ∧ 2 * a.n ≤ n2 := by omega
  have HN2 := Lib.hid hn2
  clear hn2
  have hwr2 : IntKind.i64.wrap (2 * (a.n : Int)) = (n2 : Int) := by rw [IntWalk.i64_in _ (by omega)]; omega
  have hm1 : ∀ w, (Instr.makeSlice 33 (.int .i64 (n2 : Int)) (.int .i64 (n2 : Int))).run Try.prog w = .ok (.slice (some ⟨w.heap.size, 0, none⟩) n2 n2) (w.alloc (.cells (Array.ofFn fun _ : Fin n2 => .int .i64 0) 3)) := fun w => make_one 33 3 _ 8 Try.underlying33 info3 rfl (by omega) n2 (by omega) w
  have HA := Lib.hid hA; have HO := Lib.hid hO; have HS := Lib.hid hS; have HST := Lib.hid hst
  clear hO hst
  obtain ⟨A, c, rfl, hac, hcm, -⟩ := hA
  obtain ⟨gs, cs, rfl, hgs, -, -⟩ := hS
  go_enter Try.func71, Try.ntmps71
  go_upto_region 1 with fail
  have bb := al2 W (.cells #[.int .i64 s, .int .i64 t, .slice A a.n c, .slice (some ⟨gs, 0, none⟩) N cs] 85) (.cells #[.int .i64 0, .int .i64 0, .slice none 0 0, .slice none 0 0, .slice none 0 0] 87)
  have zz : ((W.alloc (.cells #[.int .i64 s, .int .i64 t, .slice A a.n c, .slice (some ⟨gs, 0, none⟩) N cs] 85)).alloc (.cells #[.int .i64 0, .int .i64 0, .slice none 0 0, .slice none 0 0, .slice none 0 0] 87)).heap.size = W.heap.size + 1 + 1 := by simp
  have hh0 : ((W.alloc (.cells #[.int .i64 s, .int .i64 t, .slice A a.n c, .slice (some ⟨gs, 0, none⟩) N cs] 85)).alloc (.cells #[.int .i64 0, .int .i64 0, .slice none 0 0, .slice none 0 0, .slice none 0 0] 87)).heap[W.heap.size]? = some (.cells #[.int .i64 s, .int .i64 t, .slice A a.n c, .slice (some ⟨gs, 0, none⟩) N cs] 85 (0, 0)) := (heap_alloc_old _ _ (by simp)).trans (heap_alloc_new W _)
  have hh1 : ((W.alloc (.cells #[.int .i64 s, .int .i64 t, .slice A a.n c, .slice (some ⟨gs, 0, none⟩) N cs] 85)).alloc (.cells #[.int .i64 0, .int .i64 0, .slice none 0 0, .slice none 0 0, .slice none 0 0] 87)).heap[W.heap.size + 1]? = some (.cells #[.int .i64 0, .int .i64 0, .slice none 0 0, .slice none 0 0, .slice none 0 0] 87 (0, 0)) := by
    have := heap_alloc_new (W.alloc (.cells #[.int .i64 s, .int .i64 t, .slice A a.n c, .slice (some ⟨gs, 0, none⟩) N cs] 85)) (.cells #[.int .i64 0, .int .i64 0, .slice none 0 0, .slice none 0 0, .slice none 0 0] 87)
    simp only [World.size_alloc] at this
    exact this
  generalize (W.alloc (.cells #[.int .i64 s, .int .i64 t, .slice A a.n c, .slice (some ⟨gs, 0, none⟩) N cs] 85)).alloc (.cells #[.int .i64 0, .int .i64 0, .slice none 0 0, .slice none 0 0, .slice none 0 0] 87) = W1 at *
  have zle : W.heap.size + 1 < W1.heap.size := by omega
  have HB : Hid (Ext W W1) := Lib.hid bb; have HH0 := Lib.hid hh0; have HH1 := Lib.hid hh1
  clear bb zz hh0 hh1
  go_cut [3] from 6 to 12 (fun s3 wx => ∃ g3 gl, s3 = .pointer (some ⟨g3, 0, none⟩) ∧ wx.heap[g3]? = some (.cells #[.int .i64 s, .int .i64 t, .slice A a.n c, .slice (some ⟨gs, 0, none⟩) N cs, .slice (some ⟨gl, 0, none⟩) n2 n2] 87 (0, 0)) ∧ BI wx gl n2 (fun _ => 0) ∧ g3 ≠ gl ∧ W1.heap.size ≤ g3 ∧ W1.heap.size ≤ gl ∧ Ext W1 wx)
  case first =>
    obtain ⟨q0, q1, q2, q3, -, -⟩ := four HH0.out
    refine wp_region_noPanic ?_
    refine wp_split (S := fun X => Ext W1 X) 8 (by kernel_rfl) (by kernel_rfl) (Ext.drw (Ext.refl _)) ?_
    simp only [List.take_succ_cons, List.take_zero, List.drop_succ_cons, List.drop_zero]
    refine take_at 0 (some 6) (.agg #[.int .i64 s, .int .i64 t, .slice A a.n c, .slice (some ⟨gs, 0, none⟩) N cs]) rfl rfl (by kernel_rfl) (by kernel_rfl) (by kernel_rfl) (fun _ _ _ h => h) (Or.inl ⟨by rfl, fun w' hSw => ?_⟩) (Ext.drw (Ext.refl _)) ?_
    · have m0 := keepAt hSw (by omega) q0
      have m1 := keepAt hSw (by omega) q1
      have m2 := keepAt hSw (by omega) q2
      have m3 := keepAt hSw (by omega) q3
      try clear hSw
      go_simp
      all_goals (with_reducible rfl)
    try simp only [Act.put, List.setIfInBounds_toArray, List.set_cons_zero, List.set_cons_succ]
    refine take_at 1 (some 7) (.pointer (some ⟨W.heap.size, 2, none⟩)) rfl rfl (by kernel_rfl) (by kernel_rfl) (by kernel_rfl) (fun _ _ _ h => h) (Or.inl ⟨by rfl, fun w' hSw => ?_⟩) (Ext.drw (Ext.refl _)) ?_
    · skip
      try clear hSw
      go_simp
      all_goals (with_reducible rfl)
    try simp only [Act.put, List.setIfInBounds_toArray, List.set_cons_zero, List.set_cons_succ]
    refine take_at 2 (some 8) (.slice A a.n c) rfl rfl (by kernel_rfl) (by kernel_rfl) (by kernel_rfl) (fun _ _ _ h => h) (Or.inl ⟨by rfl, fun w' hSw => ?_⟩) (Ext.drw (Ext.refl _)) ?_
    · have m0 := keepAt hSw (by omega) q0
      have m1 := keepAt hSw (by omega) q1
      have m2 := keepAt hSw (by omega) q2
      have m3 := keepAt hSw (by omega) q3
      try clear hSw
      go_simp
      all_goals (with_reducible rfl)
    try simp only [Act.put, List.setIfInBounds_toArray, List.set_cons_zero, List.set_cons_succ]
    refine take_at 3 (some 9) (.int .i64 a.n) rfl rfl (by kernel_rfl) (by kernel_rfl) (by kernel_rfl) (fun _ _ _ h => h) (Or.inl ⟨by rfl, fun w' hSw => ?_⟩) (Ext.drw (Ext.refl _)) ?_
    · skip
      try clear hSw
      go_simp
      all_goals (with_reducible rfl)
    try simp only [Act.put, List.setIfInBounds_toArray, List.set_cons_zero, List.set_cons_succ]
    refine take_at 4 (some 10) (.int .i64 n2) rfl rfl (by kernel_rfl) (by kernel_rfl) (by kernel_rfl) (fun _ _ _ h => h) (Or.inl ⟨by rfl, fun w' hSw => ?_⟩) (Ext.drw (Ext.refl _)) ?_
    · skip
      try clear hSw
      go_simp
      all_goals (first | exact hwr2 | with_reducible rfl)
    try simp only [Act.put, List.setIfInBounds_toArray, List.set_cons_zero, List.set_cons_succ]
    refine wpAnyH_ready (rs := [5, 7]) (by kernel_rfl) (by simp) ?_
    refine AllReadyH.cons rfl (fun K hK => ?_) (AllReadyH.cons rfl (fun K hK => ?_) AllReadyH.nil)
    · go_simp
      have e1 : Ext W1 (W1.drew.alloc (.cells (Array.ofFn fun _ : Fin n2 => Value.int .i64 0) 3)) := Ext.alc (Ext.drw (Ext.refl _)) _
      refine hK.out _ _ e1 (fun _ => ?_)
      clear hK K
      try simp only [Act.put, List.setIfInBounds_toArray, List.set_cons_zero, List.set_cons_succ]
      refine take_at 6 (some 12) (.agg #[.int .i64 s, .int .i64 t, .slice A a.n c, .slice (some ⟨gs, 0, none⟩) N cs, .slice (some ⟨W1.heap.size, 0, none⟩) n2 n2]) rfl rfl (by kernel_rfl) (by kernel_rfl) (by kernel_rfl) (fun _ _ _ h => h) (Or.inl ⟨by rfl, fun w' hSw => ?_⟩) (e1) ?_
      · skip
        try clear hSw
        go_simp
        all_goals (with_reducible rfl)
      try simp only [Act.put, List.setIfInBounds_toArray, List.set_cons_zero, List.set_cons_succ]
      refine wpAnyH_ready (rs := [7]) (by kernel_rfl) (by simp) ?_
      refine AllReadyH.cons rfl (fun K hK => ?_) AllReadyH.nil
      go_simp
      have e2 : Ext W1 ((W1.drew.alloc (.cells (Array.ofFn fun _ : Fin n2 => Value.int .i64 0) 3)).alloc (.cells #[.int .i64 0, .int .i64 0, .slice none 0 0, .slice none 0 0, .slice none 0 0] 87)) := Ext.alc e1 _
      refine hK.out _ _ e2 (fun _ => ?_)
      clear hK K
      try simp only [Act.put, List.setIfInBounds_toArray, List.set_cons_zero, List.set_cons_succ]
      refine wpAnyH_done (by kernel_rfl) ?_ _
      refine cut_normal ?_
      go_wp2_with fail
      refine NoPanic.normal ?_
      go_wp2_with fail
      go_meet
      have r1 := heap_alloc_new W1 (.cells (Array.ofFn fun _ : Fin n2 => Value.int .i64 0) 3)
      have r3 := (Below.heap_alloc (W1.alloc (.cells (Array.ofFn fun _ : Fin n2 => Value.int .i64 0) 3)) (.cells #[.int .i64 s, .int .i64 t, .slice A a.n c, .slice (some ⟨gs, 0, none⟩) N cs, .slice (some ⟨W1.heap.size, 0, none⟩) n2 n2] 87) W1.heap.size (by simp)).trans r1
      have r2 := heap_alloc_new (W1.alloc (.cells (Array.ofFn fun _ : Fin n2 => Value.int .i64 0) 3)) (.cells #[.int .i64 s, .int .i64 t, .slice A a.n c, .slice (some ⟨gs, 0, none⟩) N cs, .slice (some ⟨W1.heap.size, 0, none⟩) n2 n2] 87)
      simp only [World.size_alloc] at r2
      exact ⟨W1.heap.size + 1, W1.heap.size, rfl, r2, r3, by omega, by omega, by omega, Ext.drw (al2 W1 _ _)⟩
    · go_simp
      have e1 : Ext W1 (W1.drew.alloc (.cells #[.int .i64 0, .int .i64 0, .slice none 0 0, .slice none 0 0, .slice none 0 0] 87)) := Ext.alc (Ext.drw (Ext.refl _)) _
      refine hK.out _ _ e1 (fun _ => ?_)
      clear hK K
      try simp only [Act.put, List.setIfInBounds_toArray, List.set_cons_zero, List.set_cons_succ]
      refine wpAnyH_ready (rs := [5]) (by kernel_rfl) (by simp) ?_
      refine AllReadyH.cons rfl (fun K hK => ?_) AllReadyH.nil
      go_simp
      have e2 : Ext W1 ((W1.drew.alloc (.cells #[.int .i64 0, .int .i64 0, .slice none 0 0, .slice none 0 0, .slice none 0 0] 87)).alloc (.cells (Array.ofFn fun _ : Fin n2 => Value.int .i64 0) 3)) := Ext.alc e1 _
      refine hK.out _ _ e2 (fun _ => ?_)
      clear hK K
      try simp only [Act.put, List.setIfInBounds_toArray, List.set_cons_zero, List.set_cons_succ]
      refine take_at 6 (some 12) (.agg #[.int .i64 s, .int .i64 t, .slice A a.n c, .slice (some ⟨gs, 0, none⟩) N cs, .slice (some ⟨W1.heap.size + 1, 0, none⟩) n2 n2]) rfl rfl (by kernel_rfl) (by kernel_rfl) (by kernel_rfl) (fun _ _ _ h => h) (Or.inl ⟨by rfl, fun w' hSw => ?_⟩) (e2) ?_
      · skip
        try clear hSw
        go_simp
        all_goals (with_reducible rfl)
      try simp only [Act.put, List.setIfInBounds_toArray, List.set_cons_zero, List.set_cons_succ]
      refine wpAnyH_done (by kernel_rfl) ?_ _
      refine cut_normal ?_
      go_wp2_with fail
      refine NoPanic.normal ?_
      go_wp2_with fail
      go_meet
      have r1 := heap_alloc_new W1 (.cells #[.int .i64 s, .int .i64 t, .slice A a.n c, .slice (some ⟨gs, 0, none⟩) N cs, .slice (some ⟨W1.heap.size + 1, 0, none⟩) n2 n2] 87)
      have r3 := (Below.heap_alloc (W1.alloc (.cells #[.int .i64 s, .int .i64 t, .slice A a.n c, .slice (some ⟨gs, 0, none⟩) N cs, .slice (some ⟨W1.heap.size + 1, 0, none⟩) n2 n2] 87)) (.cells (Array.ofFn fun _ : Fin n2 => Value.int .i64 0) 3) W1.heap.size (by simp)).trans r1
      have r2 := heap_alloc_new (W1.alloc (.cells #[.int .i64 s, .int .i64 t, .slice A a.n c, .slice (some ⟨gs, 0, none⟩) N cs, .slice (some ⟨W1.heap.size + 1, 0, none⟩) n2 n2] 87)) (.cells (Array.ofFn fun _ : Fin n2 => Value.int .i64 0) 3)
      simp only [World.size_alloc] at r2
      exact ⟨W1.heap.size, W1.heap.size + 1, rfl, r3, r2, by omega, by omega, by omega, Ext.drw (al2 W1 _ _)⟩
  case rest =>
    obtain ⟨g3, gl, rfl, hg3, hbi, hne3, hle3, hlel, ex⟩ := hcut
    have hE := HB.out.trans ex
    have HG := Lib.hid (And.intro hg3 (And.intro hbi ex))
    clear hg3 hbi ex
    obtain ⟨m0, m1, m2, m3, m4, m5, m6⟩ := five HG.out.1
    obtain ⟨p0, p1, p2, p3, -, -⟩ := four HH0.out
    have p2' := keepAt HG.out.2.2 (by omega) p2
    clear m0 m1 m2 m3 m4 m5 p0 p1 p2 p3 hE
    go_wp2_with fail
    clear p2'
    go_loopw [16] (fun i wr => ∃ k : Nat, i = .int .i64 k ∧ k ≤ a.n ∧ Hid (wr.heap[g3]? = some (.cells #[.int .i64 s, .int .i64 t, .slice A a.n c, .slice (some ⟨gs, 0, none⟩) N cs, .slice (some ⟨gl, 0, none⟩) n2 n2] 87 (0, 0)) ∧ BI wr gl n2 (xs a.c k) ∧ Ext W1 wr)) (fun i _ => a.n - (intOf i).toNat)
    case atStart => exact ⟨0, rfl, Nat.zero_le _, Lib.hid ⟨HG.out.1, by rw [xs_zero]; exact HG.out.2.1, HG.out.2.2⟩⟩
    case round =>
      obtain ⟨k, rfl, hk, hin⟩ := hrel
      obtain ⟨m0, m1, m2, m3, m4, m5, m6⟩ := five hin.out.1
      by_cases hlt : k < a.n
      · obtain ⟨b, off, rfl, hb, hc⟩ : ∃ b off, A = some ⟨b, off, none⟩ ∧ b < W.heap.size ∧ ∀ j, j < a.n → W.cell? ⟨b, off + j * 3, none⟩ = some (.int .i64 (a.f j)) ∧ W.cell? ⟨b, off + j * 3 + 1, none⟩ = some (.int .i64 (a.t j)) ∧ W.cell? ⟨b, off + j * 3 + 2, none⟩ = some (.int .i64 (a.c j)) := by
          obtain ⟨A', c', e, _, _, h3⟩ := HA.out
          injection e with e1 e2 e3
          subst e1
          exact h3 (by omega)
        obtain ⟨c1, c2, c3⟩ := hc k hlt
        have d1 := keepAt (HB.out.trans hin.out.2.2) hb c1
        have d2 := keepAt (HB.out.trans hin.out.2.2) hb c2
        have d3 := keepAt (HB.out.trans hin.out.2.2) hb c3
        obtain ⟨fk, hfk⟩ : ∃ x, x = a.f k := ⟨_, rfl⟩
        obtain ⟨tk, htk⟩ : ∃ x, x = a.t k := ⟨_, rfl⟩
        obtain ⟨ck, hck⟩ : ∃ x, x = a.c k := ⟨_, rfl⟩
        rw [← hfk] at d1; rw [← htk] at d2; rw [← hck] at d3
        have HCK := Lib.hid hck
        have hk2 : 2 * k < n2 := by omega
        have e4 := Bk.cell hin.out.2.1 hk2
        have f4 := Bk.free hin.out.2.1 (2 * k)
        have lgl := Bk.lt hin.out.2.1
        have hwr3 : IntKind.i64.wrap (2 * (k : Int)) = ((2 * k : Nat) : Int) := by rw [IntWalk.i64_in _ (by omega)]; omega
        clear hc c1 c2 c3 hfk htk hck m0 m1 m2 m3 m5
        go_wp2
        go_roundw
        case rel =>
          refine ⟨k + 1, by go_num, by omega, Lib.hid ⟨?_, ?_, ?_⟩⟩
          · exact (Below.heap_alloc _ _ g3 (by simp [World.setCell]; omega)).trans ((Below.heap_setCell wr ⟨gl, 2 * k, none⟩ (.int .i64 ck) g3 hne3).trans hin.out.1)
          · have y := BI.set_ hin.out.2.1 (2 * k) ck
            rw [HCK.out, xs_succ] at y
            rw [HCK.out]
            exact y.ext (Ext.alc (Ext.refl _) _)
          · exact (hin.out.2.2.sc hlel).alc _
        case measure => simp [intOf]; omega
      · obtain rfl : k = a.n := by omega
        clear m0 m1 m2 m3 m4 m5
        go_wp2_with fail
        have hf0 : Fp a.nw N s t (xs a.c a.n) := Fp.start N s t HO.out.c0
        go_loopg [] (room a.nw s (xs a.c a.n)) (fun k wr => ∃ x, room a.nw s x ≤ k ∧ Hid (wr.heap[g3]? = some (.cells #[.int .i64 s, .int .i64 t, .slice A a.n c, .slice (some ⟨gs, 0, none⟩) N cs, .slice (some ⟨gl, 0, none⟩) n2 n2] 87 (0, 0)) ∧ BI wr gl n2 x ∧ Fp a.nw N s t x ∧ Ext W1 wr))
        case atStart => exact ⟨_, Nat.le_refl _, Lib.hid ⟨hin.out.1, hin.out.2.1, hf0, hin.out.2.2⟩⟩
        case round =>
          clear hf0 hin m6
          obtain ⟨x, hk, hin⟩ := hrel
          obtain ⟨m0, m1, m2, m3, m4, m5, m6⟩ := five hin.out.1
          go_wp2_with fail
          refine (add_any a N s t n2 bs M _ (.slice (some ⟨gs, 0, none⟩) N cs) gl x st wr (HA.out.ext (HB.out.trans hin.out.2.2.2)) HO.out HN2.out hn hN hM (HS.out.ext (HB.out.trans hin.out.2.2.2)) HST.out hs ht hne hin.out.2.1 hin.out.2.2.1.rs).mono ?_
          rintro e w2 ⟨R, la, rk, hwk, ⟨hRt, rfl, hx⟩ | ⟨hRt, rfl, w, r, hr, hch, hnd, hw, hbi, hgr⟩⟩
          · have hg2 := (Below.block hx g3 m6).trans hin.out.1
            have hh2 := (Below.block (hin.out.2.2.2.trans hx) (W.heap.size + 1) (by omega)).trans HH1.out
            obtain ⟨n0, n1, n2', n3, n4, n5, n6⟩ := five hg2
            obtain ⟨p0, p1, p2, p3, p4, p5, p6⟩ := five hh2
            have EX := Lib.hid (hin.out.2.2.2.trans hx)
            have HBI := Lib.hid (BI.ext hin.out.2.1 hx)
            have HFULL : Hid (Full a.nw N s t x) := Lib.hid ⟨hin.out.2.2.1, R, la, rk, hwk, hRt⟩
            clear hg2 hh2 m0 m1 m2 m3 m4 m5 hx hwk hRt hin
            go_wp2
            refine bodyPost_ret (v := .agg #[.int .i64 s, .int .i64 t, .slice A a.n c, .slice (some ⟨gs, 0, none⟩) N cs, .slice (some ⟨gl, 0, none⟩) n2 n2]) (by simp [results, Try.results71, go_sem, p0, p1, p2, p3, p4]) rfl ?_
            have hne1 : gl ≠ W.heap.size + 1 := by omega
            refine ⟨x, gl, rfl, by omega, Bk.far (Bk.far (Bk.far (Bk.far (Bk.far HBI.out hne1 _) hne1 _) hne1 _) hne1 _) hne1 _, HFULL.out, (((((HB.out.trans EX.out).sc (by omega)).sc (by omega)).sc (by omega)).sc (by omega)).sc (by omega)⟩
          · obtain ⟨hf1, hf2⟩ := hin.out.2.2.1.more hne hr hch hnd (fun j hj => hw j hj)
            have hrl := room_less hf1 hr hf2
            have hg2 := (hgr.block g3 m6 (fun e => hne3 (Option.some.inj e))).trans hin.out.1
            have hx : Ext W1 w2 := by
              have e := hin.out.2.2.2
              exact ⟨hgr.os.trans e.os, hgr.tape.trans e.tape, hgr.output.trans e.output, Nat.le_trans e.size hgr.size, fun b hb => (hgr.block b (Nat.lt_of_lt_of_le hb e.size) (fun e2 => by have := Option.some.inj e2; omega)).trans (e.block b hb)⟩
            have HN : Hid (w2.heap[g3]? = some (.cells #[.int .i64 s, .int .i64 t, .slice A a.n c, .slice (some ⟨gs, 0, none⟩) N cs, .slice (some ⟨gl, 0, none⟩) n2 n2] 87 (0, 0)) ∧ BI w2 gl n2 (Nw.augs x w r) ∧ Fp a.nw N s t (Nw.augs x w r) ∧ Ext W1 w2) := Lib.hid ⟨hg2, hbi, hf1, hx⟩
            clear hg2 hx hbi hf1 hf2 hgr hw hnd hch hwk hRt m0 m1 m2 m3 m4 m5
            go_wp2
            go_roundg (gk - 1)
            case measure => omega
            case rel => exact ⟨_, by omega, HN⟩
end Go.Proofs.Ytilcbbdmenknfaa
namespace Go.Proofs.Ytilcbbdmenknfaa
open Go.RowKit

theorem sm_bd {n : Nat} {f : Nat → Int} {B : Int} (h : ∀ i, i < n → -B ≤ f i ∧ f i ≤ B) : -(n * B) ≤ sm n f ∧ sm n f ≤ n * B := by
  induction n with
  | zero => simp [sm]
  | succ n ih =>
    have h1 := ih (fun i hi => h i (by omega))
    have h2 := h n (by omega)
    simp only [sm]
    rw [Int.natCast_add, Int.add_mul]
    omega
/-- the arc of a slice of arcs -/
theorem Al.arc {W X : World} {A : Option Addr} {n c : Nat} {a : Ar} (h : Al W (.slice A n c) a) (e : Ext W X) {k : Nat} (hk : k < a.n) : ∃ b off, A = some ⟨b, off, none⟩ ∧ X.cell? ⟨b, off + k * 3, none⟩ = some (.int .i64 (a.f k)) ∧ X.cell? ⟨b, off + k * 3 + 1, none⟩ = some (.int .i64 (a.t k)) ∧ X.cell? ⟨b, off + k * 3 + 2, none⟩ = some (.int .i64 (a.c k)) := by
  obtain ⟨A', c', e', _, _, h3⟩ := h
  injection e' with e1 e2 e3
  subst e1
  obtain ⟨b, off, rfl, hb, hc⟩ := h3 (by omega)
  exact ⟨b, off, rfl, keepAt e hb (hc k hk).1, keepAt e hb (hc k hk).2.1, keepAt e hb (hc k hk).2.2⟩

/-- one term of a surplus -/
def tm (a : Ar) (f : Nat → Int) (v : Nat) (k : Nat) : Int := (if (a.f k).toNat = v then f k else 0) - (if (a.t k).toNat = v then f k else 0)
theorem sp_tm (a : Ar) (f : Nat → Int) (v : Nat) : a.nw.sp f v = sm a.n (tm a f v) := rfl

set_option maxHeartbeats 4000000 in
set_option maxRecDepth 100000 in
theorem surplus_any (a : Ar) (N v : Nat) (M : Int) (f : Nat → Int) (AV FV : Value) (W : World) (hA : Al W AV a) (hF : Il W FV a.n f) (hO : a.Ok N M) (hn : a.n ≤ 1000) (hf : ∀ k, k < a.n → 0 ≤ f k ∧ f k ≤ 2000000) :
    Calls Try.prog 56 #[AV, FV, .int .i64 v] W fun e W' => e = .returned (.int .i64 (a.nw.sp f v)) ∧ Ext W W' := by
  rw [sp_tm]
  have hb := fun k (hk : k ≤ a.n) => sm_bd (n := k) (f := tm a f v) (B := 2000000) (fun i hi => by
    have := hf i (by omega)
    unfold tm; split <;> split <;> omega)
  have HA := Lib.hid hA; have HO := Lib.hid hO; have HF := Lib.hid hF; have Hf := Lib.hid hf; have HB := Lib.hid hb
  clear hO hf hb
  obtain ⟨A, c, rfl, hac, hcm, -⟩ := hA
  obtain ⟨A2, c2, rfl, hac2, hcm2, -⟩ := hF
  go_enter Try.func56, Try.ntmps56
  go_wp2_with fail
  go_loopw [7, 12] (fun s i wr => ∃ k : Nat, i = .int .i64 k ∧ k ≤ a.n ∧ s = .int .i64 (sm k (tm a f v)) ∧ Hid (Ext W wr)) (fun _ i _ => a.n - (intOf i).toNat)
  case atStart => exact ⟨0, rfl, Nat.zero_le _, rfl, Lib.hid (Ext.refl _)⟩
  case round =>
    obtain ⟨k, rfl, hk, rfl, hin⟩ := hrel
    by_cases hlt : k < a.n
    · obtain ⟨b, off, rfl, d1, d2, d3⟩ := HA.out.arc hin.out hlt
      obtain ⟨A3, c3, e3, -, -, h3⟩ := HF.out
      injection e3 with e3 _ _
      subst e3
      obtain ⟨b2, off2, rfl, hb2, hc2⟩ := h3 (by omega)
      have d4 := keepAt hin.out hb2 (hc2 k hlt)
      have hb3 : b2 < wr.heap.size := Nat.lt_of_lt_of_le hb2 hin.out.size
      have f0 := HO.out.f0 k hlt
      have t0 := HO.out.t0 k hlt
      have hfk := Hf.out k hlt
      have hs := HB.out k hk
      have hs1 := HB.out (k + 1) (by omega)
      have hsm : sm (k + 1) (tm a f v) = sm k (tm a f v) + tm a f v k := rfl
      have htm : tm a f v k = (if a.f k = v then f k else 0) - (if a.t k = v then f k else 0) := by
        unfold tm
        by_cases e1 : a.f k = v <;> by_cases e2 : a.t k = v <;> simp only [e1, e2, if_true, if_false, Int.toNat_natCast] <;> (try rw [if_neg (by omega)]) <;> (try rw [if_neg (by omega)])
      rw [hsm, htm] at hs1
      obtain ⟨S, hS⟩ : ∃ S, S = sm k (tm a f v) := ⟨_, rfl⟩
      rw [← hS] at hs hs1 ⊢
      obtain ⟨fk, hfk'⟩ : ∃ x, x = a.f k := ⟨_, rfl⟩
      obtain ⟨tk, htk⟩ : ∃ x, x = a.t k := ⟨_, rfl⟩
      obtain ⟨ck, hck⟩ : ∃ x, x = a.c k := ⟨_, rfl⟩
      obtain ⟨xk, hxk⟩ : ∃ x, x = f k := ⟨_, rfl⟩
      rw [← hfk', ← htk, ← hxk] at htm hs1
      rw [← hfk'] at d1 f0; rw [← htk] at d2 t0; rw [← hck] at d3
      simp only [← hxk] at d4 hfk
      have HTM := Lib.hid htm; have HSM := Lib.hid hsm; have HS := Lib.hid hS
      clear htm hsm hS hfk' htk hck hxk hc2 h3
      have hkk : k * 2000000 ≤ 2000000000 := by have : k * 2000000 ≤ 1000 * 2000000 := Nat.mul_le_mul_right _ (by omega); omega
      have hS1 : -2000000000 ≤ S ∧ S ≤ 2000000000 := by omega
      clear hs hs1 hkk
      by_cases e1 : fk = v
      · by_cases e2 : tk = v
        · have e1' := e1; have e2' := e2
          rw [if_pos e1, if_pos e2] at HTM
          go_wp2
          go_roundw
          case rel => exact ⟨k + 1, by go_num, by omega, by rw [HSM.out, HTM.out, ← HS.out]; congr 1; omega, Lib.hid (hin.out.alc _)⟩
          case measure => simp [intOf]; omega
        · rw [if_pos e1, if_neg e2] at HTM
          go_wp2
          go_roundw
          case rel => exact ⟨k + 1, by go_num, by omega, by rw [HSM.out, HTM.out, ← HS.out]; congr 1; omega, Lib.hid (hin.out.alc _)⟩
          case measure => simp [intOf]; omega
      · by_cases e2 : tk = v
        · rw [if_neg e1, if_pos e2] at HTM
          go_wp2
          go_roundw
          case rel => exact ⟨k + 1, by go_num, by omega, by rw [HSM.out, HTM.out, ← HS.out]; congr 1; omega, Lib.hid (hin.out.alc _)⟩
          case measure => simp [intOf]; omega
        · rw [if_neg e1, if_neg e2] at HTM
          go_wp2
          go_roundw
          case rel => exact ⟨k + 1, by go_num, by omega, by rw [HSM.out, HTM.out, ← HS.out]; congr 1; omega, Lib.hid (hin.out.alc _)⟩
          case measure => simp [intOf]; omega
    · obtain rfl : k = a.n := by omega
      go_wp2
      go_ret
      exact ⟨rfl, hin.out⟩
end Go.Proofs.Ytilcbbdmenknfaa
