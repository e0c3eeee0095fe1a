/- Walks: fill. -/
import Derived.Test.YtilcbbdmenknfaaC5
import Derived.Test.YtilcbbdmenknfaaFi
namespace Go.Proofs.Ytilcbbdmenknfaa
open Go.RowKit

set_option maxHeartbeats 8000000 in
set_option maxRecDepth 100000 in
theorem fill_any (a : Ar) (N s t bs : Nat) (M : Int) (AV SV : Value) (st : Nat → List Nat) (W : World) (hA : Al W AV a) (hO : a.Ok N M) (hn : a.n ≤ 1000) (hN : N ≤ 1000) (hM : M ≤ 2000000)
    (hS : Sl W bs SV N st) (hst : Stp a.nw N st) (hs : s < N) (ht : t < N) (hne : s ≠ t) :
    Calls Try.prog 71 #[.agg #[.int .i64 s, .int .i64 t, AV, SV]] W fun e W' => ∃ (x : Nat → Int) (gl : Nat), e = .returned (.agg #[.int .i64 s, .int .i64 t, AV, SV, .slice (some ⟨gl, 0, none⟩) (2 * a.n) (2 * a.n)]) ∧
      W.heap.size ≤ gl ∧ BI W' gl (2 * a.n) x ∧ Full a.nw N s t x ∧ Ext W W' := by
  obtain ⟨n2, hn2⟩ : ∃ n2, n2 = 2 * a.n := ⟨_, rfl⟩
  rw [← hn2]
  obtain ⟨hn2a, hn2b⟩ : n2 ≤ 2 * a.n ∧ 2 * a.n ≤ n2 := by omega
  have HN2 := Lib.hid hn2
  clear hn2
  have hwr2 : IntKind.i64.wrap (2 * (a.n : Int)) = (n2 : Int) := by rw [IntWalk.i64_in _ (by omega)]; omega
  have hm1 : ∀ w, (Instr.makeSlice 33 (.int .i64 (n2 : Int)) (.int .i64 (n2 : Int))).run Try.prog w = .ok (.slice (some ⟨w.heap.size, 0, none⟩) n2 n2) (w.alloc (.cells (Array.ofFn fun _ : Fin n2 => .int .i64 0) 3)) := fun w => make_one 33 3 _ 8 Try.underlying33 info3 rfl (by omega) n2 (by omega) w
  have HA := Lib.hid hA; have HO := Lib.hid hO; have HS := Lib.hid hS; have HST := Lib.hid hst
  clear hO hst
  obtain ⟨A, c, rfl, hac, hcm, -⟩ := hA
  obtain ⟨gs, cs, rfl, hgs, -, -⟩ := hS
  go_enter Try.func71, Try.ntmps71
  go_upto_region 1 with fail
  have bb := al2 W (.cells #[.int .i64 s, .int .i64 t, .slice A a.n c, .slice (some ⟨gs, 0, none⟩) N cs] 85) (.cells #[.int .i64 0, .int .i64 0, .slice none 0 0, .slice none 0 0, .slice none 0 0] 87)
  have zz : ((W.alloc (.cells #[.int .i64 s, .int .i64 t, .slice A a.n c, .slice (some ⟨gs, 0, none⟩) N cs] 85)).alloc (.cells #[.int .i64 0, .int .i64 0, .slice none 0 0, .slice none 0 0, .slice none 0 0] 87)).heap.size = W.heap.size + 1 + 1 := by simp
  have hh0 : ((W.alloc (.cells #[.int .i64 s, .int .i64 t, .slice A a.n c, .slice (some ⟨gs, 0, none⟩) N cs] 85)).alloc (.cells #[.int .i64 0, .int .i64 0, .slice none 0 0, .slice none 0 0, .slice none 0 0] 87)).heap[W.heap.size]? = some (.cells #[.int .i64 s, .int .i64 t, .slice A a.n c, .slice (some ⟨gs, 0, none⟩) N cs] 85 (0, 0)) := (heap_alloc_old _ _ (by simp)).trans (heap_alloc_new W _)
  have hh1 : ((W.alloc (.cells #[.int .i64 s, .int .i64 t, .slice A a.n c, .slice (some ⟨gs, 0, none⟩) N cs] 85)).alloc (.cells #[.int .i64 0, .int .i64 0, .slice none 0 0, .slice none 0 0, .slice none 0 0] 87)).heap[W.heap.size + 1]? = some (.cells #[.int .i64 0, .int .i64 0, .slice none 0 0, .slice none 0 0, .slice none 0 0] 87 (0, 0)) := by
    have := heap_alloc_new (W.alloc (.cells #[.int .i64 s, .int .i64 t, .slice A a.n c, .slice (some ⟨gs, 0, none⟩) N cs] 85)) (.cells #[.int .i64 0, .int .i64 0, .slice none 0 0, .slice none 0 0, .slice none 0 0] 87)
    simp only [World.size_alloc] at this
    exact this
  generalize (W.alloc (.cells #[.int .i64 s, .int .i64 t, .slice A a.n c, .slice (some ⟨gs, 0, none⟩) N cs] 85)).alloc (.cells #[.int .i64 0, .int .i64 0, .slice none 0 0, .slice none 0 0, .slice none 0 0] 87) = W1 at *
  have zle : W.heap.size + 1 < W1.heap.size := by omega
  have HB : Hid (Ext W W1) := Lib.hid bb; have HH0 := Lib.hid hh0; have HH1 := Lib.hid hh1
  clear bb zz hh0 hh1
  go_cut [3] from 6 to 12 (fun s3 wx => ∃ g3 gl, s3 = .pointer (some ⟨g3, 0, none⟩) ∧ wx.heap[g3]? = some (.cells #[.int .i64 s, .int .i64 t, .slice A a.n c, .slice (some ⟨gs, 0, none⟩) N cs, .slice (some ⟨gl, 0, none⟩) n2 n2] 87 (0, 0)) ∧ BI wx gl n2 (fun _ => 0) ∧ g3 ≠ gl ∧ W1.heap.size ≤ g3 ∧ W1.heap.size ≤ gl ∧ Ext W1 wx)
  case first =>
    obtain ⟨q0, q1, q2, q3, -, -⟩ := four HH0.out
    refine wp_region_noPanic ?_
    refine wp_split (S := fun X => Ext W1 X) 8 (by kernel_rfl) (by kernel_rfl) (Ext.drw (Ext.refl _)) ?_
    simp only [List.take_succ_cons, List.take_zero, List.drop_succ_cons, List.drop_zero]
    refine take_at 0 (some 6) (.agg #[.int .i64 s, .int .i64 t, .slice A a.n c, .slice (some ⟨gs, 0, none⟩) N cs]) rfl rfl (by kernel_rfl) (by kernel_rfl) (by kernel_rfl) (fun _ _ _ h => h) (Or.inl ⟨by rfl, fun w' hSw => ?_⟩) (Ext.drw (Ext.refl _)) ?_
    · have m0 := keepAt hSw (by omega) q0
      have m1 := keepAt hSw (by omega) q1
      have m2 := keepAt hSw (by omega) q2
      have m3 := keepAt hSw (by omega) q3
      try clear hSw
      go_simp
      all_goals (with_reducible rfl)
    try simp only [Act.put, List.setIfInBounds_toArray, List.set_cons_zero, List.set_cons_succ]
    refine take_at 1 (some 7) (.pointer (some ⟨W.heap.size, 2, none⟩)) rfl rfl (by kernel_rfl) (by kernel_rfl) (by kernel_rfl) (fun _ _ _ h => h) (Or.inl ⟨by rfl, fun w' hSw => ?_⟩) (Ext.drw (Ext.refl _)) ?_
    · skip
      try clear hSw
      go_simp
      all_goals (with_reducible rfl)
    try simp only [Act.put, List.setIfInBounds_toArray, List.set_cons_zero, List.set_cons_succ]
    refine take_at 2 (some 8) (.slice A a.n c) rfl rfl (by kernel_rfl) (by kernel_rfl) (by kernel_rfl) (fun _ _ _ h => h) (Or.inl ⟨by rfl, fun w' hSw => ?_⟩) (Ext.drw (Ext.refl _)) ?_
    · have m0 := keepAt hSw (by omega) q0
      have m1 := keepAt hSw (by omega) q1
      have m2 := keepAt hSw (by omega) q2
      have m3 := keepAt hSw (by omega) q3
      try clear hSw
      go_simp
      all_goals (with_reducible rfl)
    try simp only [Act.put, List.setIfInBounds_toArray, List.set_cons_zero, List.set_cons_succ]
    refine take_at 3 (some 9) (.int .i64 a.n) rfl rfl (by kernel_rfl) (by kernel_rfl) (by kernel_rfl) (fun _ _ _ h => h) (Or.inl ⟨by rfl, fun w' hSw => ?_⟩) (Ext.drw (Ext.refl _)) ?_
    · skip
      try clear hSw
      go_simp
      all_goals (with_reducible rfl)
    try simp only [Act.put, List.setIfInBounds_toArray, List.set_cons_zero, List.set_cons_succ]
    refine take_at 4 (some 10) (.int .i64 n2) rfl rfl (by kernel_rfl) (by kernel_rfl) (by kernel_rfl) (fun _ _ _ h => h) (Or.inl ⟨by rfl, fun w' hSw => ?_⟩) (Ext.drw (Ext.refl _)) ?_
    · skip
      try clear hSw
      go_simp
      all_goals (first | exact hwr2 | with_reducible rfl)
    try simp only [Act.put, List.setIfInBounds_toArray, List.set_cons_zero, List.set_cons_succ]
    refine wpAnyH_ready (rs := [5, 7]) (by kernel_rfl) (by simp) ?_
    refine AllReadyH.cons rfl (fun K hK => ?_) (AllReadyH.cons rfl (fun K hK => ?_) AllReadyH.nil)
    · go_simp
      have e1 : Ext W1 (W1.drew.alloc (.cells (Array.ofFn fun _ : Fin n2 => Value.int .i64 0) 3)) := Ext.alc (Ext.drw (Ext.refl _)) _
      refine hK.out _ _ e1 (fun _ => ?_)
      clear hK K
      try simp only [Act.put, List.setIfInBounds_toArray, List.set_cons_zero, List.set_cons_succ]
      refine take_at 6 (some 12) (.agg #[.int .i64 s, .int .i64 t, .slice A a.n c, .slice (some ⟨gs, 0, none⟩) N cs, .slice (some ⟨W1.heap.size, 0, none⟩) n2 n2]) rfl rfl (by kernel_rfl) (by kernel_rfl) (by kernel_rfl) (fun _ _ _ h => h) (Or.inl ⟨by rfl, fun w' hSw => ?_⟩) (e1) ?_
      · skip
        try clear hSw
        go_simp
        all_goals (with_reducible rfl)
      try simp only [Act.put, List.setIfInBounds_toArray, List.set_cons_zero, List.set_cons_succ]
      refine wpAnyH_ready (rs := [7]) (by kernel_rfl) (by simp) ?_
      refine AllReadyH.cons rfl (fun K hK => ?_) AllReadyH.nil
      go_simp
      have e2 : Ext W1 ((W1.drew.alloc (.cells (Array.ofFn fun _ : Fin n2 => Value.int .i64 0) 3)).alloc (.cells #[.int .i64 0, .int .i64 0, .slice none 0 0, .slice none 0 0, .slice none 0 0] 87)) := Ext.alc e1 _
      refine hK.out _ _ e2 (fun _ => ?_)
      clear hK K
      try simp only [Act.put, List.setIfInBounds_toArray, List.set_cons_zero, List.set_cons_succ]
      refine wpAnyH_done (by kernel_rfl) ?_ _
      refine cut_normal ?_
      go_wp2_with fail
      refine NoPanic.normal ?_
      go_wp2_with fail
      go_meet
      have r1 := heap_alloc_new W1 (.cells (Array.ofFn fun _ : Fin n2 => Value.int .i64 0) 3)
      have r3 := (Below.heap_alloc (W1.alloc (.cells (Array.ofFn fun _ : Fin n2 => Value.int .i64 0) 3)) (.cells #[.int .i64 s, .int .i64 t, .slice A a.n c, .slice (some ⟨gs, 0, none⟩) N cs, .slice (some ⟨W1.heap.size, 0, none⟩) n2 n2] 87) W1.heap.size (by simp)).trans r1
      have r2 := heap_alloc_new (W1.alloc (.cells (Array.ofFn fun _ : Fin n2 => Value.int .i64 0) 3)) (.cells #[.int .i64 s, .int .i64 t, .slice A a.n c, .slice (some ⟨gs, 0, none⟩) N cs, .slice (some ⟨W1.heap.size, 0, none⟩) n2 n2] 87)
      simp only [World.size_alloc] at r2
      exact ⟨W1.heap.size + 1, W1.heap.size, rfl, r2, r3, by omega, by omega, by omega, Ext.drw (al2 W1 _ _)⟩
    · go_simp
      have e1 : Ext W1 (W1.drew.alloc (.cells #[.int .i64 0, .int .i64 0, .slice none 0 0, .slice none 0 0, .slice none 0 0] 87)) := Ext.alc (Ext.drw (Ext.refl _)) _
      refine hK.out _ _ e1 (fun _ => ?_)
      clear hK K
      try simp only [Act.put, List.setIfInBounds_toArray, List.set_cons_zero, List.set_cons_succ]
      refine wpAnyH_ready (rs := [5]) (by kernel_rfl) (by simp) ?_
      refine AllReadyH.cons rfl (fun K hK => ?_) AllReadyH.nil
      go_simp
      have e2 : Ext W1 ((W1.drew.alloc (.cells #[.int .i64 0, .int .i64 0, .slice none 0 0, .slice none 0 0, .slice none 0 0] 87)).alloc (.cells (Array.ofFn fun _ : Fin n2 => Value.int .i64 0) 3)) := Ext.alc e1 _
      refine hK.out _ _ e2 (fun _ => ?_)
      clear hK K
      try simp only [Act.put, List.setIfInBounds_toArray, List.set_cons_zero, List.set_cons_succ]
      refine take_at 6 (some 12) (.agg #[.int .i64 s, .int .i64 t, .slice A a.n c, .slice (some ⟨gs, 0, none⟩) N cs, .slice (some ⟨W1.heap.size + 1, 0, none⟩) n2 n2]) rfl rfl (by kernel_rfl) (by kernel_rfl) (by kernel_rfl) (fun _ _ _ h => h) (Or.inl ⟨by rfl, fun w' hSw => ?_⟩) (e2) ?_
      · skip
        try clear hSw
        go_simp
        all_goals (with_reducible rfl)
      try simp only [Act.put, List.setIfInBounds_toArray, List.set_cons_zero, List.set_cons_succ]
      refine wpAnyH_done (by kernel_rfl) ?_ _
      refine cut_normal ?_
      go_wp2_with fail
      refine NoPanic.normal ?_
      go_wp2_with fail
      go_meet
      have r1 := heap_alloc_new W1 (.cells #[.int .i64 s, .int .i64 t, .slice A a.n c, .slice (some ⟨gs, 0, none⟩) N cs, .slice (some ⟨W1.heap.size + 1, 0, none⟩) n2 n2] 87)
      have r3 := (Below.heap_alloc (W1.alloc (.cells #[.int .i64 s, .int .i64 t, .slice A a.n c, .slice (some ⟨gs, 0, none⟩) N cs, .slice (some ⟨W1.heap.size + 1, 0, none⟩) n2 n2] 87)) (.cells (Array.ofFn fun _ : Fin n2 => Value.int .i64 0) 3) W1.heap.size (by simp)).trans r1
      have r2 := heap_alloc_new (W1.alloc (.cells #[.int .i64 s, .int .i64 t, .slice A a.n c, .slice (some ⟨gs, 0, none⟩) N cs, .slice (some ⟨W1.heap.size + 1, 0, none⟩) n2 n2] 87)) (.cells (Array.ofFn fun _ : Fin n2 => Value.int .i64 0) 3)
      simp only [World.size_alloc] at r2
      exact ⟨W1.heap.size, W1.heap.size + 1, rfl, r3, r2, by omega, by omega, by omega, Ext.drw (al2 W1 _ _)⟩
  case rest =>
    obtain ⟨g3, gl, rfl, hg3, hbi, hne3, hle3, hlel, ex⟩ := hcut
    have hE := HB.out.trans ex
    have HG := Lib.hid (And.intro hg3 (And.intro hbi ex))
    clear hg3 hbi ex
    obtain ⟨m0, m1, m2, m3, m4, m5, m6⟩ := five HG.out.1
    obtain ⟨p0, p1, p2, p3, -, -⟩ := four HH0.out
    have p2' := keepAt HG.out.2.2 (by omega) p2
    clear m0 m1 m2 m3 m4 m5 p0 p1 p2 p3 hE
    go_wp2_with fail
    clear p2'
    go_loopw [16] (fun i wr => ∃ k : Nat, i = .int .i64 k ∧ k ≤ a.n ∧ Hid (wr.heap[g3]? = some (.cells #[.int .i64 s, .int .i64 t, .slice A a.n c, .slice (some ⟨gs, 0, none⟩) N cs, .slice (some ⟨gl, 0, none⟩) n2 n2] 87 (0, 0)) ∧ BI wr gl n2 (xs a.c k) ∧ Ext W1 wr)) (fun i _ => a.n - (intOf i).toNat)
    case atStart => exact ⟨0, rfl, Nat.zero_le _, Lib.hid ⟨HG.out.1, by rw [xs_zero]; exact HG.out.2.1, HG.out.2.2⟩⟩
    case round =>
      obtain ⟨k, rfl, hk, hin⟩ := hrel
      obtain ⟨m0, m1, m2, m3, m4, m5, m6⟩ := five hin.out.1
      by_cases hlt : k < a.n
      · obtain ⟨b, off, rfl, hb, hc⟩ : ∃ b off, A = some ⟨b, off, none⟩ ∧ b < W.heap.size ∧ ∀ j, j < a.n → W.cell? ⟨b, off + j * 3, none⟩ = some (.int .i64 (a.f j)) ∧ W.cell? ⟨b, off + j * 3 + 1, none⟩ = some (.int .i64 (a.t j)) ∧ W.cell? ⟨b, off + j * 3 + 2, none⟩ = some (.int .i64 (a.c j)) := by
          obtain ⟨A', c', e, _, _, h3⟩ := HA.out
          injection e with e1 e2 e3
          subst e1
          exact h3 (by omega)
        obtain ⟨c1, c2, c3⟩ := hc k hlt
        have d1 := keepAt (HB.out.trans hin.out.2.2) hb c1
        have d2 := keepAt (HB.out.trans hin.out.2.2) hb c2
        have d3 := keepAt (HB.out.trans hin.out.2.2) hb c3
        obtain ⟨fk, hfk⟩ : ∃ x, x = a.f k := ⟨_, rfl⟩
        obtain ⟨tk, htk⟩ : ∃ x, x = a.t k := ⟨_, rfl⟩
        obtain ⟨ck, hck⟩ : ∃ x, x = a.c k := ⟨_, rfl⟩
        rw [← hfk] at d1; rw [← htk] at d2; rw [← hck] at d3
        have HCK := Lib.hid hck
        have hk2 : 2 * k < n2 := by omega
        have e4 := Bk.cell hin.out.2.1 hk2
        have f4 := Bk.free hin.out.2.1 (2 * k)
        have lgl := Bk.lt hin.out.2.1
        have hwr3 : IntKind.i64.wrap (2 * (k : Int)) = ((2 * k : Nat) : Int) := by rw [IntWalk.i64_in _ (by omega)]; omega
        clear hc c1 c2 c3 hfk htk hck m0 m1 m2 m3 m5
        go_wp2
        go_roundw
        case rel =>
          refine ⟨k + 1, by go_num, by omega, Lib.hid ⟨?_, ?_, ?_⟩⟩
          · exact (Below.heap_alloc _ _ g3 (by simp [World.setCell]; omega)).trans ((Below.heap_setCell wr ⟨gl, 2 * k, none⟩ (.int .i64 ck) g3 hne3).trans hin.out.1)
          · have y := BI.set_ hin.out.2.1 (2 * k) ck
            rw [HCK.out, xs_succ] at y
            rw [HCK.out]
            exact y.ext (Ext.alc (Ext.refl _) _)
          · exact (hin.out.2.2.sc hlel).alc _
        case measure => simp [intOf]; omega
      · obtain rfl : k = a.n := by omega
        clear m0 m1 m2 m3 m4 m5
        go_wp2_with fail
        have hf0 : Fp a.nw N s t (xs a.c a.n) := Fp.start N s t HO.out.c0
        go_loopg [] (room a.nw s (xs a.c a.n)) (fun k wr => ∃ x, room a.nw s x ≤ k ∧ Hid (wr.heap[g3]? = some (.cells #[.int .i64 s, .int .i64 t, .slice A a.n c, .slice (some ⟨gs, 0, none⟩) N cs, .slice (some ⟨gl, 0, none⟩) n2 n2] 87 (0, 0)) ∧ BI wr gl n2 x ∧ Fp a.nw N s t x ∧ Ext W1 wr))
        case atStart => exact ⟨_, Nat.le_refl _, Lib.hid ⟨hin.out.1, hin.out.2.1, hf0, hin.out.2.2⟩⟩
        case round =>
          clear hf0 hin m6
          obtain ⟨x, hk, hin⟩ := hrel
          obtain ⟨m0, m1, m2, m3, m4, m5, m6⟩ := five hin.out.1
          go_wp2_with fail
          refine (add_any a N s t n2 bs M _ (.slice (some ⟨gs, 0, none⟩) N cs) gl x st wr (HA.out.ext (HB.out.trans hin.out.2.2.2)) HO.out HN2.out hn hN hM (HS.out.ext (HB.out.trans hin.out.2.2.2)) HST.out hs ht hne hin.out.2.1 hin.out.2.2.1.rs).mono ?_
          rintro e w2 ⟨R, la, rk, hwk, ⟨hRt, rfl, hx⟩ | ⟨hRt, rfl, w, r, hr, hch, hnd, hw, hbi, hgr⟩⟩
          · have hg2 := (Below.block hx g3 m6).trans hin.out.1
            have hh2 := (Below.block (hin.out.2.2.2.trans hx) (W.heap.size + 1) (by omega)).trans HH1.out
            obtain ⟨n0, n1, n2', n3, n4, n5, n6⟩ := five hg2
            obtain ⟨p0, p1, p2, p3, p4, p5, p6⟩ := five hh2
            have EX := Lib.hid (hin.out.2.2.2.trans hx)
            have HBI := Lib.hid (BI.ext hin.out.2.1 hx)
            have HFULL : Hid (Full a.nw N s t x) := Lib.hid ⟨hin.out.2.2.1, R, la, rk, hwk, hRt⟩
            clear hg2 hh2 m0 m1 m2 m3 m4 m5 hx hwk hRt hin
            go_wp2
            refine bodyPost_ret (v := .agg #[.int .i64 s, .int .i64 t, .slice A a.n c, .slice (some ⟨gs, 0, none⟩) N cs, .slice (some ⟨gl, 0, none⟩) n2 n2]) (by simp [results, Try.results71, go_sem, p0, p1, p2, p3, p4]) rfl ?_
            have hne1 : gl ≠ W.heap.size + 1 := by omega
            refine ⟨x, gl, rfl, by omega, Bk.far (Bk.far (Bk.far (Bk.far (Bk.far HBI.out hne1 _) hne1 _) hne1 _) hne1 _) hne1 _, HFULL.out, (((((HB.out.trans EX.out).sc (by omega)).sc (by omega)).sc (by omega)).sc (by omega)).sc (by omega)⟩
          · obtain ⟨hf1, hf2⟩ := hin.out.2.2.1.more hne hr hch hnd (fun j hj => hw j hj)
            have hrl := room_less hf1 hr hf2
            have hg2 := (hgr.block g3 m6 (fun e => hne3 (Option.some.inj e))).trans hin.out.1
            have hx : Ext W1 w2 := by
              have e := hin.out.2.2.2
              exact ⟨hgr.os.trans e.os, hgr.tape.trans e.tape, hgr.output.trans e.output, Nat.le_trans e.size hgr.size, fun b hb => (hgr.block b (Nat.lt_of_lt_of_le hb e.size) (fun e2 => by have := Option.some.inj e2; omega)).trans (e.block b hb)⟩
            have HN : Hid (w2.heap[g3]? = some (.cells #[.int .i64 s, .int .i64 t, .slice A a.n c, .slice (some ⟨gs, 0, none⟩) N cs, .slice (some ⟨gl, 0, none⟩) n2 n2] 87 (0, 0)) ∧ BI w2 gl n2 (Nw.augs x w r) ∧ Fp a.nw N s t (Nw.augs x w r) ∧ Ext W1 w2) := Lib.hid ⟨hg2, hbi, hf1, hx⟩
            clear hg2 hx hbi hf1 hf2 hgr hw hnd hch hwk hRt m0 m1 m2 m3 m4 m5
            go_wp2
            go_roundg (gk - 1)
            case measure => omega
            case rel => exact ⟨_, by omega, HN⟩
end Go.Proofs.Ytilcbbdmenknfaa
