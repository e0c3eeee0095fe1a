/- Walks: newNetwork, its loop. · One more way: mathematics. -/
import Derived.Test.YtilcbbdmenknfaaM5
import Derived.Test.YtilcbbdmenknfaaM4
namespace Go.Proofs.Ytilcbbdmenknfaa
open Go.RowKit

set_option maxHeartbeats 8000000 in
set_option maxRecDepth 100000 in
theorem newNetwork_any (a : Ar) (N : Nat) (s t M : Int) (AV : Value) (W : World) (hA : Al W AV a) (hO : a.Ok N M) (hn : a.n ≤ 1000) (hN : N ≤ 1000) :
    Calls Try.prog 78 #[.int .i64 N, .int .i64 s, .int .i64 t, AV] W fun e W' => ∃ SV, e = .returned (.agg #[.int .i64 s, .int .i64 t, AV, SV]) ∧ Sl W' W.heap.size SV N (stf a.nw a.n) ∧ Ext W W' := by
  have hm1 : ∀ w, (Instr.makeSlice 83 (.int .i64 (N : Int)) (.int .i64 (N : Int))).run Try.prog w = .ok (.slice (some ⟨w.heap.size, 0, none⟩) N N) (w.alloc (.cells (Array.ofFn fun _ : Fin N => .slice none 0 0) 33)) := fun w => make_one 83 33 _ 24 Try.underlying83 info33 rfl (by omega) N (by omega) w
  have HA := Lib.hid hA; have HO := Lib.hid hO
  clear hO
  obtain ⟨A, c, rfl, hac, hcm, -⟩ := hA
  obtain ⟨i0, hi, hz0, hz1, hz2⟩ := info_parts info3
  have HI := Lib.hid (And.intro hi (And.intro hz0 (And.intro hz1 hz2)))
  clear hi hz0 hz1 hz2
  go_enter Try.func78, Try.ntmps78
  go_wp2_with fail
  go_loopw [20] (fun i wr => ∃ (k : Nat) (u : Nat → Value), i = .int .i64 k ∧ k ≤ a.n ∧ wr.heap[W.heap.size]? = some (.cells #[.int .i64 0, .int .i64 0, .slice none 0 0, .slice none 0 0] 85 (0, 0)) ∧
    wr.heap[W.heap.size + 1 + 1]? = some (.cells #[.int .i64 s, .int .i64 t, .slice A a.n c, .slice (some ⟨W.heap.size + 1, 0, none⟩) N N] 85 (0, 0)) ∧ Nst wr (W.heap.size + 1 + 1 + 1) (W.heap.size + 1) N u (stf a.nw k) ∧ Ext W wr) (fun i _ => a.n - (intOf i).toNat)
  case atStart =>
    have e1 : ∀ v, stf a.nw 0 v = [] := fun v => by simp [stf]
    refine ⟨0, fun _ => .slice none 0 0, rfl, Nat.zero_le _, ?_, ?_, ⟨?_, fun i hi => ?_, fun i j _ _ _ b hb => by simp [Value.ownBlock] at hb⟩, al3 W _ _ _⟩
    · rw [heap_alloc_old _ _ (by simp; omega), heap_alloc_old _ _ (by simp), heap_alloc_new]
    · have := heap_alloc_new ((W.alloc (.cells #[.int .i64 0, .int .i64 0, .slice none 0 0, .slice none 0 0] 85)).alloc (.cells (Array.ofFn fun _ : Fin N => Value.slice none 0 0) 33)) (.cells #[.int .i64 s, .int .i64 t, .slice A a.n c, .slice (some ⟨W.heap.size + 1, 0, none⟩) N N] 85)
      simp only [World.size_alloc] at this
      exact this
    · have := heap_alloc_new (W.alloc (.cells #[.int .i64 0, .int .i64 0, .slice none 0 0, .slice none 0 0] 85)) (.cells (Array.ofFn fun _ : Fin N => Value.slice none 0 0) 33)
      simp only [World.size_alloc] at this
      exact Bk.alloc (t := 33) (n := N) (f := fun _ => Value.slice none 0 0) this _
    · rw [e1]; exact Qs.nil _ _ _
  case round =>
    obtain ⟨k, u, rfl, hk, h8, h9, hst, hext⟩ := hrel
    by_cases hlt : k < a.n
    · obtain ⟨b, off, rfl, hb, hc⟩ : ∃ b off, A = some ⟨b, off, none⟩ ∧ b < W.heap.size ∧ ∀ j, j < a.n → W.cell? ⟨b, off + j * 3, none⟩ = some (.int .i64 (a.f j)) ∧ W.cell? ⟨b, off + j * 3 + 1, none⟩ = some (.int .i64 (a.t j)) ∧ W.cell? ⟨b, off + j * 3 + 2, none⟩ = some (.int .i64 (a.c j)) := by
        obtain ⟨A', c', e, _, _, h3⟩ := HA.out
        injection e with e1 e2 e3
        subst e1
        exact h3 (by omega)
      obtain ⟨c1, c2, c3⟩ := hc k hlt
      have d1 := keepAt hext hb c1
      have d2 := keepAt hext hb c2
      have d3 := keepAt hext hb c3
      obtain ⟨fk, hfk, hfN⟩ : ∃ x : Nat, a.f k = (x : Int) ∧ x < N := ⟨(a.f k).toNat, by have := HO.out.f0 k hlt; omega, by have := HO.out.f0 k hlt; have := HO.out.fN k hlt; omega⟩
      obtain ⟨tk, htk, htN⟩ : ∃ x : Nat, a.t k = (x : Int) ∧ x < N := ⟨(a.t k).toNat, by have := HO.out.t0 k hlt; omega, by have := HO.out.t0 k hlt; have := HO.out.tN k hlt; omega⟩
      have hne : fk ≠ tk := by have := HO.out.ne k hlt; omega
      rw [hfk] at d1
      rw [htk] at d2
      obtain ⟨ck, hck⟩ : ∃ x, x = a.c k := ⟨_, rfl⟩
      rw [← hck] at d3
      have HFT := Lib.hid (And.intro hfk htk)
      have hsz : W.heap.size + 1 + 1 < wr.heap.size := (four h9).2.2.2.2.2
      have HST := Lib.hid hst; have HE := Lib.hid hext
      have H8 := Lib.hid h8; have H9 := Lib.hid h9
      clear hc c1 c2 c3 hfk htk hck hst hext h8 h9
      go_upto_region 5 with fail
      obtain ⟨OB, hOB⟩ : ∃ o, o = Obj.cells #[.int .i64 fk, .int .i64 tk, .int .i64 ck] 65 := ⟨_, rfl⟩
      have b0 : (wr.alloc (.cells #[.int .i64 fk, .int .i64 tk, .int .i64 ck] 65)).cell? ⟨wr.heap.size, 0, none⟩ = some (.int .i64 fk) := by rw [World.cell?_alloc_new]; rfl
      have b1 : (wr.alloc (.cells #[.int .i64 fk, .int .i64 tk, .int .i64 ck] 65)).cell? ⟨wr.heap.size, 1, none⟩ = some (.int .i64 tk) := by rw [World.cell?_alloc_new]; rfl
      have e8 := (Below.heap_alloc wr (.cells #[.int .i64 fk, .int .i64 tk, .int .i64 ck] 65) W.heap.size (by omega)).trans H8.out
      have e9 := (Below.heap_alloc wr (.cells #[.int .i64 fk, .int .i64 tk, .int .i64 ck] 65) (W.heap.size + 1 + 1) (by omega)).trans H9.out
      have est := HST.out.ext (Ext.alc (Ext.refl wr) (.cells #[.int .i64 fk, .int .i64 tk, .int .i64 ck] 65))
      have ee := HE.out.alc (.cells #[.int .i64 fk, .int .i64 tk, .int .i64 ck] 65)
      have es : (wr.alloc (.cells #[.int .i64 fk, .int .i64 tk, .int .i64 ck] 65)).heap.size = wr.heap.size + 1 := by simp
      have hown : ∀ i, i < N → ∀ b, (u i).ownBlock = some b → W.heap.size + 1 + 1 + 1 ≤ b ∧ b < wr.heap.size := fun i hi b hb => (HST.out.row i hi).1 b hb
      generalize wr.alloc (.cells #[.int .i64 fk, .int .i64 tk, .int .i64 ck] 65) = w1 at *
      have HOW := Lib.hid hown; have HB1 := Lib.hid b1
      have lw1 : wr.heap.size < w1.heap.size := by omega
      clear es d1 d2 d3 hOB OB HST HE H8 H9 hown b1
      have hlen : ∀ v, (stf a.nw k v).length ≤ 2000 := fun v => by unfold stf; refine Nat.le_trans (List.length_filter_le _ _) ?_; simp; omega
      have HLEN := Lib.hid hlen; clear hlen
      obtain ⟨k0, k1, k2, k3, k4, k5⟩ := four e9
      have cg := Bk.cell est.blk hfN
      have lg : W.heap.size + 1 < w1.heap.size := est.blk.lt
      have hS : w1.cell? ⟨W.heap.size + 1 + 1, 3, none⟩ = some (.slice (some ⟨W.heap.size + 1, 0, none⟩) N N) ∧ w1.cell? ⟨wr.heap.size, 0, none⟩ = some (.int .i64 fk) ∧ w1.cell? ⟨W.heap.size + 1, fk, none⟩ = some (u fk) := ⟨k3, b0, cg⟩
      have HSS := Lib.hid hS
      clear k0 k1 k2 k3 k4 k5 cg
      obtain ⟨v, hv⟩ : ∃ v, v = u fk := ⟨_, rfl⟩
      rw [← hv] at hS HSS
      have HV := Lib.hid hv; clear hv
      refine wp_region_noPanic ?_
      refine wp_split (S := fun X => X.cell? ⟨W.heap.size + 1 + 1, 3, none⟩ = some (.slice (some ⟨W.heap.size + 1, 0, none⟩) N N) ∧ X.cell? ⟨wr.heap.size, 0, none⟩ = some (.int .i64 fk) ∧ X.cell? ⟨W.heap.size + 1, fk, none⟩ = some v) 14 (by kernel_rfl) (by kernel_rfl) HSS.out ?_
      simp only [List.take_succ_cons, List.take_zero, List.drop_succ_cons, List.drop_zero]
      clear hS
      refine take_at 0 (some 25) (.pointer (some ⟨W.heap.size + 1 + 1, 3, none⟩)) rfl rfl (by kernel_rfl) (by kernel_rfl) (by kernel_rfl) (fun _ _ _ h => h) (Or.inl ⟨by rfl, fun w' hSw => ?_⟩) (HSS.out) ?_
      · skip
        try clear hSw
        go_simp
        all_goals (with_reducible rfl)
      try simp only [Act.put, List.setIfInBounds_toArray, List.set_cons_zero, List.set_cons_succ]
      refine take_at 1 (some 26) (.slice (some ⟨W.heap.size + 1, 0, none⟩) N N) rfl rfl (by kernel_rfl) (by kernel_rfl) (by kernel_rfl) (fun _ _ _ h => h) (Or.inl ⟨by rfl, fun w' hSw => ?_⟩) (HSS.out) ?_
      · obtain ⟨s1, s2, s3⟩ := hSw
        try clear hSw
        go_simp
        all_goals (with_reducible rfl)
      try simp only [Act.put, List.setIfInBounds_toArray, List.set_cons_zero, List.set_cons_succ]
      refine take_at 2 (some 27) (.pointer (some ⟨wr.heap.size, 0, none⟩)) rfl rfl (by kernel_rfl) (by kernel_rfl) (by kernel_rfl) (fun _ _ _ h => h) (Or.inl ⟨by rfl, fun w' hSw => ?_⟩) (HSS.out) ?_
      · skip
        try clear hSw
        go_simp
        all_goals (with_reducible rfl)
      try simp only [Act.put, List.setIfInBounds_toArray, List.set_cons_zero, List.set_cons_succ]
      refine take_at 3 (some 28) (.int .i64 fk) rfl rfl (by kernel_rfl) (by kernel_rfl) (by kernel_rfl) (fun _ _ _ h => h) (Or.inl ⟨by rfl, fun w' hSw => ?_⟩) (HSS.out) ?_
      · obtain ⟨s1, s2, s3⟩ := hSw
        try clear hSw
        go_simp
        all_goals (with_reducible rfl)
      try simp only [Act.put, List.setIfInBounds_toArray, List.set_cons_zero, List.set_cons_succ]
      refine take_at 4 (some 29) (.pointer (some ⟨W.heap.size + 1 + 1, 3, none⟩)) rfl rfl (by kernel_rfl) (by kernel_rfl) (by kernel_rfl) (fun _ _ _ h => h) (Or.inl ⟨by rfl, fun w' hSw => ?_⟩) (HSS.out) ?_
      · skip
        try clear hSw
        go_simp
        all_goals (with_reducible rfl)
      try simp only [Act.put, List.setIfInBounds_toArray, List.set_cons_zero, List.set_cons_succ]
      refine take_at 5 (some 30) (.slice (some ⟨W.heap.size + 1, 0, none⟩) N N) rfl rfl (by kernel_rfl) (by kernel_rfl) (by kernel_rfl) (fun _ _ _ h => h) (Or.inl ⟨by rfl, fun w' hSw => ?_⟩) (HSS.out) ?_
      · obtain ⟨s1, s2, s3⟩ := hSw
        try clear hSw
        go_simp
        all_goals (with_reducible rfl)
      try simp only [Act.put, List.setIfInBounds_toArray, List.set_cons_zero, List.set_cons_succ]
      refine take_at 6 (some 31) (.pointer (some ⟨wr.heap.size, 0, none⟩)) rfl rfl (by kernel_rfl) (by kernel_rfl) (by kernel_rfl) (fun _ _ _ h => h) (Or.inl ⟨by rfl, fun w' hSw => ?_⟩) (HSS.out) ?_
      · skip
        try clear hSw
        go_simp
        all_goals (with_reducible rfl)
      try simp only [Act.put, List.setIfInBounds_toArray, List.set_cons_zero, List.set_cons_succ]
      refine take_at 7 (some 32) (.int .i64 fk) rfl rfl (by kernel_rfl) (by kernel_rfl) (by kernel_rfl) (fun _ _ _ h => h) (Or.inl ⟨by rfl, fun w' hSw => ?_⟩) (HSS.out) ?_
      · obtain ⟨s1, s2, s3⟩ := hSw
        try clear hSw
        go_simp
        all_goals (with_reducible rfl)
      try simp only [Act.put, List.setIfInBounds_toArray, List.set_cons_zero, List.set_cons_succ]
      refine take_at 8 (some 33) (.pointer (some ⟨W.heap.size + 1, fk, none⟩)) rfl rfl (by kernel_rfl) (by kernel_rfl) (by kernel_rfl) (fun _ _ _ h => h) (Or.inl ⟨by rfl, fun w' hSw => ?_⟩) (HSS.out) ?_
      · skip
        try clear hSw
        go_simp
        all_goals (with_reducible rfl)
      try simp only [Act.put, List.setIfInBounds_toArray, List.set_cons_zero, List.set_cons_succ]
      refine take_at 9 (some 34) (v) rfl rfl (by kernel_rfl) (by kernel_rfl) (by kernel_rfl) (fun _ _ _ h => h) (Or.inl ⟨by rfl, fun w' hSw => ?_⟩) (HSS.out) ?_
      · obtain ⟨s1, s2, s3⟩ := hSw
        try clear hSw
        go_simp
        all_goals (with_reducible rfl)
      try simp only [Act.put, List.setIfInBounds_toArray, List.set_cons_zero, List.set_cons_succ]
      refine take_at 10 (some 35) (.int .i64 k) rfl rfl (by kernel_rfl) (by kernel_rfl) (by kernel_rfl) (fun _ _ _ h => h) (Or.inl ⟨by rfl, fun w' hSw => ?_⟩) (HSS.out) ?_
      · skip
        try clear hSw
        go_simp
        all_goals (with_reducible rfl)
      try simp only [Act.put, List.setIfInBounds_toArray, List.set_cons_zero, List.set_cons_succ]
      refine take_at 11 (some 36) (.int .i64 (2 * (k : Int))) rfl rfl (by kernel_rfl) (by kernel_rfl) (by kernel_rfl) (fun _ _ _ h => h) (Or.inl ⟨by rfl, fun w' hSw => ?_⟩) (HSS.out) ?_
      · have hwr : IntKind.i64.wrap (2 * (k : Int)) = 2 * k := IntWalk.i64_in _ (by omega)
        try clear hSw
        go_simp
        all_goals (first | exact hwr | with_reducible rfl)
      try simp only [Act.put, List.setIfInBounds_toArray, List.set_cons_zero, List.set_cons_succ]
      have hS2 : (w1.drew.alloc (.cells #[.int .i64 (2 * (k : Int))] 3)).cell? ⟨W.heap.size + 1 + 1, 3, none⟩ = some (.slice (some ⟨W.heap.size + 1, 0, none⟩) N N) ∧ (w1.drew.alloc (.cells #[.int .i64 (2 * (k : Int))] 3)).cell? ⟨wr.heap.size, 0, none⟩ = some (.int .i64 fk) ∧ (w1.drew.alloc (.cells #[.int .i64 (2 * (k : Int))] 3)).cell? ⟨W.heap.size + 1, fk, none⟩ = some v := by
        obtain ⟨s1, s2, s3⟩ := HSS.out
        have hx : Ext w1 (w1.drew.alloc (.cells #[.int .i64 (2 * (k : Int))] 3)) := Ext.alc (Ext.drw (Ext.refl _)) _
        exact ⟨keepAt hx (by omega) s1, keepAt hx (by omega) s2, keepAt hx lg s3⟩
      refine wpAnyH_ready (rs := [12]) (by kernel_rfl) (by simp) ?_
      refine AllReadyH.cons rfl (fun K hK => ?_) AllReadyH.nil
      go_simp
      refine hK.out _ _ hS2 (fun _ => ?_)
      clear hK K
      try simp only [Act.put, List.setIfInBounds_toArray, List.set_cons_zero, List.set_cons_succ]
      refine wpAnyH_ready (rs := [13]) (by kernel_rfl) (by simp) ?_
      refine AllReadyH.cons rfl (fun K hK => ?_) AllReadyH.nil
      refine wp_append_q _ _ 33 rfl i0 Try.underlying33 HI.out.1 HI.out.2.1 HI.out.2.2.1 HI.out.2.2.2 (W.heap.size + 1 + 1 + 1) v ((stf a.nw k) fk).length (fun i => ((((stf a.nw k) fk).getD i 0 : Nat) : Int)) rfl ?qs ?base ⟨w1.heap.size, 0, none⟩ 1 (2 * (k : Int)) rfl ?cell ?n ?_
      case qs => rw [HV.out]; exact (est.row fk hfN).ext (Ext.alc (Ext.drw (Ext.refl _)) _)
      case base => simp; omega
      case cell => show (w1.drew.alloc (.cells #[.int .i64 (2 * (k : Int))] 3)).cell? ⟨w1.drew.heap.size, 0, none⟩ = _; rw [World.cell?_alloc_new]; rfl
      case n => have := HLEN.out fk; omega
      intro v40 w4 hq4 hgr
      obtain ⟨Av4, nv4, cv4, hv0⟩ : ∃ A n c, v40 = .slice A n c := by obtain ⟨-, A, c, h, -⟩ := hq4; exact ⟨A, _, c, h⟩
      subst hv0
      have hS3 : w4.cell? ⟨W.heap.size + 1 + 1, 3, none⟩ = some (.slice (some ⟨W.heap.size + 1, 0, none⟩) N N) ∧ w4.cell? ⟨wr.heap.size, 0, none⟩ = some (.int .i64 fk) ∧ w4.cell? ⟨W.heap.size + 1, fk, none⟩ = some v := by
        obtain ⟨s1, s2, s3⟩ := hS2
        have ho := HOW.out fk hfN
        have hk : ∀ b o, b < w1.heap.size + 1 → (∀ c, v.ownBlock = some c → c ≠ b) → w4.cell? ⟨b, o, none⟩ = (w1.drew.alloc (.cells #[.int .i64 (2 * (k : Int))] 3)).cell? ⟨b, o, none⟩ := fun b o hb hne => World.cell?_of_block (hgr.by_.block b (by simp; omega) (fun e => hne b e.symm rfl))
        have hvo : ∀ c, v.ownBlock = some c → W.heap.size + 1 + 1 + 1 ≤ c ∧ c < wr.heap.size := fun c hc => ho c (by rw [← HV.out]; exact hc)
        exact ⟨(hk _ _ (by omega) (fun c hc => by have := hvo c hc; omega)).trans s1, (hk _ _ (by omega) (fun c hc => by have := hvo c hc; omega)).trans s2, (hk _ _ (by omega) (fun c hc => by have := hvo c hc; omega)).trans s3⟩
      refine hK.out _ _ hS3 (fun _ => ?_)
      clear hK K
      try simp only [Act.put, List.setIfInBounds_toArray, List.set_cons_zero, List.set_cons_succ]
      refine wpAnyH_done (by kernel_rfl) ?_ _
      refine cut_normal ?_
      have est2 := est.ext (Ext.alc (Ext.drw (Ext.refl _)) (.cells #[.int .i64 (2 * (k : Int))] 3))
      have hvo : ∀ c, v.ownBlock = some c → W.heap.size + 1 + 1 + 1 ≤ c ∧ c < w1.heap.size + 1 := fun c hc => by have := (est2.row fk hfN).1 c (by rw [← HV.out]; exact hc); simpa using this
      have hk : ∀ b, b < w1.heap.size + 1 → (∀ c, v.ownBlock = some c → c ≠ b) → w4.heap[b]? = (w1.drew.alloc (.cells #[.int .i64 (2 * (k : Int))] 3)).heap[b]? := fun b hb hne => hgr.by_.block b (by simp; omega) (fun e => hne b e.symm rfl)
      have hko : ∀ b, b < w1.heap.size → (w1.drew.alloc (.cells #[.int .i64 (2 * (k : Int))] 3)).heap[b]? = w1.heap[b]? := fun b hb => Below.heap_alloc w1.drew _ b hb
      have f8 := (hk W.heap.size (by omega) (fun c hc => by have := hvo c hc; omega)).trans ((hko _ (by omega)).trans e8)
      have f9 := (hk (W.heap.size + 1 + 1) (by omega) (fun c hc => by have := hvo c hc; omega)).trans ((hko _ (by omega)).trans e9)
      have fE : Ext W w4 := hgr.ext (ee.trans (Ext.alc (Ext.drw (Ext.refl _)) _)) (fun c hc => by have := hvo c hc; omega)
      have ffr : w4.frozen? ⟨W.heap.size + 1, fk, none⟩ = false := Bk.free (hgr.bk est2.blk (fun e => by have := hvo _ e; omega)) _
      have hzz : w1.heap.size < w4.heap.size := by have := hgr.by_.size; simp at this; omega
      rw [HV.out] at hgr
      have fN : Nst (w4.setCell ⟨W.heap.size + 1, fk, none⟩ (.slice Av4 nv4 cv4)) (W.heap.size + 1 + 1 + 1) (W.heap.size + 1) N (up (u) fk (.slice Av4 nv4 cv4)) (up ((stf a.nw k)) fk ((stf a.nw k) fk ++ [2 * k])) := est2.more hfN (by omega) hq4 hgr
      have fB : w4.cell? ⟨wr.heap.size, 1, none⟩ = some (.int .i64 tk) := (World.cell?_of_block ((hk wr.heap.size (by omega) (fun c hc => by have := HOW.out fk hfN c (by rw [← HV.out]; exact hc); omega)).trans (hko _ (by omega)))).trans HB1.out
      have HF := Lib.hid (And.intro f8 (And.intro f9 (And.intro fE fN))); have HS3 := Lib.hid hS3
      obtain ⟨s1, s2, s3⟩ := hS3
      clear f8 f9 fE fN hk hko hvo est est2 e8 e9 ee hq4 hgr hS2 s1 s2
      have HFB := Lib.hid fB; clear fB
      go_wp2_with fail
      refine NoPanic.normal ?_
      go_upto_region 6 with fail
      obtain ⟨f8, f9, fE, fN⟩ := HF.out
      have e8 := (Below.heap_setCell w4 ⟨W.heap.size + 1, fk, none⟩ (.slice Av4 nv4 cv4) W.heap.size (by simp)).trans f8
      have e9 := (Below.heap_setCell w4 ⟨W.heap.size + 1, fk, none⟩ (.slice Av4 nv4 cv4) (W.heap.size + 1 + 1) (by simp)).trans f9
      have ee : Ext W (w4.setCell ⟨W.heap.size + 1, fk, none⟩ (.slice Av4 nv4 cv4)) := fE.sc (by omega)
      have b1 : (w4.setCell ⟨W.heap.size + 1, fk, none⟩ (.slice Av4 nv4 cv4)).cell? ⟨wr.heap.size, 1, none⟩ = some (.int .i64 tk) := (World.cell?_of_block (Below.heap_setCell w4 ⟨W.heap.size + 1, fk, none⟩ (.slice Av4 nv4 cv4) wr.heap.size (by simp; omega))).trans HFB.out
      have es : (w4.setCell ⟨W.heap.size + 1, fk, none⟩ (.slice Av4 nv4 cv4)).heap.size = w4.heap.size := by simp [World.setCell]
      have est := fN
      have hlen2 : ∀ v, (up (stf a.nw k) fk (stf a.nw k fk ++ [2 * k]) v).length ≤ 2001 := fun v => by
        by_cases e : v = fk
        · subst e; rw [up_self, List.length_append]; have := HLEN.out v; simp; omega
        · rw [up_ne _ _ e]; have := HLEN.out v; omega
      clear HF HFB f8 f9 fE fN HLEN s3 ffr HS3 HSS HV b0
      generalize w4.setCell ⟨W.heap.size + 1, fk, none⟩ (.slice Av4 nv4 cv4) = w5 at *
      obtain ⟨u2, hu2⟩ : ∃ x, x = up u fk (.slice Av4 nv4 cv4) := ⟨_, rfl⟩
      obtain ⟨st2, hst2⟩ : ∃ x, x = up (stf a.nw k) fk (stf a.nw k fk ++ [2 * k]) := ⟨_, rfl⟩
      rw [← hu2, ← hst2] at est
      rw [← hst2] at hlen2
      have HU2 := Lib.hid hu2; have HST2 := Lib.hid hst2; have HLEN := Lib.hid hlen2
      have lw1 : wr.heap.size < w5.heap.size := by omega
      clear hu2 hst2 hlen2 es hzz lg
      obtain ⟨k0, k1, k2, k3, k4, k5⟩ := four e9
      have cg := Bk.cell est.blk htN
      have lg : W.heap.size + 1 < w5.heap.size := est.blk.lt
      have hS : w5.cell? ⟨W.heap.size + 1 + 1, 3, none⟩ = some (.slice (some ⟨W.heap.size + 1, 0, none⟩) N N) ∧ w5.cell? ⟨wr.heap.size, 1, none⟩ = some (.int .i64 tk) ∧ w5.cell? ⟨W.heap.size + 1, tk, none⟩ = some (u2 tk) := ⟨k3, b1, cg⟩
      have HSS := Lib.hid hS
      clear k0 k1 k2 k3 k4 k5 cg
      obtain ⟨v, hv⟩ : ∃ v, v = u2 tk := ⟨_, rfl⟩
      rw [← hv] at hS HSS
      have HV := Lib.hid hv; clear hv
      refine wp_region_noPanic ?_
      refine wp_split (S := fun X => X.cell? ⟨W.heap.size + 1 + 1, 3, none⟩ = some (.slice (some ⟨W.heap.size + 1, 0, none⟩) N N) ∧ X.cell? ⟨wr.heap.size, 1, none⟩ = some (.int .i64 tk) ∧ X.cell? ⟨W.heap.size + 1, tk, none⟩ = some v) 15 (by kernel_rfl) (by kernel_rfl) HSS.out ?_
      simp only [List.take_succ_cons, List.take_zero, List.drop_succ_cons, List.drop_zero]
      clear hS
      refine take_at 0 (some 40) (.pointer (some ⟨W.heap.size + 1 + 1, 3, none⟩)) rfl rfl (by kernel_rfl) (by kernel_rfl) (by kernel_rfl) (fun _ _ _ h => h) (Or.inl ⟨by rfl, fun w' hSw => ?_⟩) (HSS.out) ?_
      · skip
        try clear hSw
        go_simp
        all_goals (with_reducible rfl)
      try simp only [Act.put, List.setIfInBounds_toArray, List.set_cons_zero, List.set_cons_succ]
      refine take_at 1 (some 41) (.slice (some ⟨W.heap.size + 1, 0, none⟩) N N) rfl rfl (by kernel_rfl) (by kernel_rfl) (by kernel_rfl) (fun _ _ _ h => h) (Or.inl ⟨by rfl, fun w' hSw => ?_⟩) (HSS.out) ?_
      · obtain ⟨s1, s2, s3⟩ := hSw
        try clear hSw
        go_simp
        all_goals (with_reducible rfl)
      try simp only [Act.put, List.setIfInBounds_toArray, List.set_cons_zero, List.set_cons_succ]
      refine take_at 2 (some 42) (.pointer (some ⟨wr.heap.size, 1, none⟩)) rfl rfl (by kernel_rfl) (by kernel_rfl) (by kernel_rfl) (fun _ _ _ h => h) (Or.inl ⟨by rfl, fun w' hSw => ?_⟩) (HSS.out) ?_
      · skip
        try clear hSw
        go_simp
        all_goals (with_reducible rfl)
      try simp only [Act.put, List.setIfInBounds_toArray, List.set_cons_zero, List.set_cons_succ]
      refine take_at 3 (some 43) (.int .i64 tk) rfl rfl (by kernel_rfl) (by kernel_rfl) (by kernel_rfl) (fun _ _ _ h => h) (Or.inl ⟨by rfl, fun w' hSw => ?_⟩) (HSS.out) ?_
      · obtain ⟨s1, s2, s3⟩ := hSw
        try clear hSw
        go_simp
        all_goals (with_reducible rfl)
      try simp only [Act.put, List.setIfInBounds_toArray, List.set_cons_zero, List.set_cons_succ]
      refine take_at 4 (some 44) (.pointer (some ⟨W.heap.size + 1 + 1, 3, none⟩)) rfl rfl (by kernel_rfl) (by kernel_rfl) (by kernel_rfl) (fun _ _ _ h => h) (Or.inl ⟨by rfl, fun w' hSw => ?_⟩) (HSS.out) ?_
      · skip
        try clear hSw
        go_simp
        all_goals (with_reducible rfl)
      try simp only [Act.put, List.setIfInBounds_toArray, List.set_cons_zero, List.set_cons_succ]
      refine take_at 5 (some 45) (.slice (some ⟨W.heap.size + 1, 0, none⟩) N N) rfl rfl (by kernel_rfl) (by kernel_rfl) (by kernel_rfl) (fun _ _ _ h => h) (Or.inl ⟨by rfl, fun w' hSw => ?_⟩) (HSS.out) ?_
      · obtain ⟨s1, s2, s3⟩ := hSw
        try clear hSw
        go_simp
        all_goals (with_reducible rfl)
      try simp only [Act.put, List.setIfInBounds_toArray, List.set_cons_zero, List.set_cons_succ]
      refine take_at 6 (some 46) (.pointer (some ⟨wr.heap.size, 1, none⟩)) rfl rfl (by kernel_rfl) (by kernel_rfl) (by kernel_rfl) (fun _ _ _ h => h) (Or.inl ⟨by rfl, fun w' hSw => ?_⟩) (HSS.out) ?_
      · skip
        try clear hSw
        go_simp
        all_goals (with_reducible rfl)
      try simp only [Act.put, List.setIfInBounds_toArray, List.set_cons_zero, List.set_cons_succ]
      refine take_at 7 (some 47) (.int .i64 tk) rfl rfl (by kernel_rfl) (by kernel_rfl) (by kernel_rfl) (fun _ _ _ h => h) (Or.inl ⟨by rfl, fun w' hSw => ?_⟩) (HSS.out) ?_
      · obtain ⟨s1, s2, s3⟩ := hSw
        try clear hSw
        go_simp
        all_goals (with_reducible rfl)
      try simp only [Act.put, List.setIfInBounds_toArray, List.set_cons_zero, List.set_cons_succ]
      refine take_at 8 (some 48) (.pointer (some ⟨W.heap.size + 1, tk, none⟩)) rfl rfl (by kernel_rfl) (by kernel_rfl) (by kernel_rfl) (fun _ _ _ h => h) (Or.inl ⟨by rfl, fun w' hSw => ?_⟩) (HSS.out) ?_
      · skip
        try clear hSw
        go_simp
        all_goals (with_reducible rfl)
      try simp only [Act.put, List.setIfInBounds_toArray, List.set_cons_zero, List.set_cons_succ]
      refine take_at 9 (some 49) (v) rfl rfl (by kernel_rfl) (by kernel_rfl) (by kernel_rfl) (fun _ _ _ h => h) (Or.inl ⟨by rfl, fun w' hSw => ?_⟩) (HSS.out) ?_
      · obtain ⟨s1, s2, s3⟩ := hSw
        try clear hSw
        go_simp
        all_goals (with_reducible rfl)
      try simp only [Act.put, List.setIfInBounds_toArray, List.set_cons_zero, List.set_cons_succ]
      refine take_at 10 (some 50) (.int .i64 k) rfl rfl (by kernel_rfl) (by kernel_rfl) (by kernel_rfl) (fun _ _ _ h => h) (Or.inl ⟨by rfl, fun w' hSw => ?_⟩) (HSS.out) ?_
      · skip
        try clear hSw
        go_simp
        all_goals (with_reducible rfl)
      try simp only [Act.put, List.setIfInBounds_toArray, List.set_cons_zero, List.set_cons_succ]
      refine take_at 11 (some 51) (.int .i64 (2 * (k : Int))) rfl rfl (by kernel_rfl) (by kernel_rfl) (by kernel_rfl) (fun _ _ _ h => h) (Or.inl ⟨by rfl, fun w' hSw => ?_⟩) (HSS.out) ?_
      · have hwr : IntKind.i64.wrap (2 * (k : Int)) = 2 * k := IntWalk.i64_in _ (by omega)
        try clear hSw
        go_simp
        all_goals (first | exact hwr | with_reducible rfl)
      try simp only [Act.put, List.setIfInBounds_toArray, List.set_cons_zero, List.set_cons_succ]
      refine take_at 12 (some 52) (.int .i64 (2 * (k : Int) + 1)) rfl rfl (by kernel_rfl) (by kernel_rfl) (by kernel_rfl) (fun _ _ _ h => h) (Or.inl ⟨by rfl, fun w' hSw => ?_⟩) (HSS.out) ?_
      · have hwr : IntKind.i64.wrap (2 * (k : Int) + 1) = 2 * k + 1 := IntWalk.i64_in _ (by omega)
        try clear hSw
        go_simp
        all_goals (first | exact hwr | with_reducible rfl)
      try simp only [Act.put, List.setIfInBounds_toArray, List.set_cons_zero, List.set_cons_succ]
      have hS2 : (w5.drew.alloc (.cells #[.int .i64 (2 * (k : Int) + 1)] 3)).cell? ⟨W.heap.size + 1 + 1, 3, none⟩ = some (.slice (some ⟨W.heap.size + 1, 0, none⟩) N N) ∧ (w5.drew.alloc (.cells #[.int .i64 (2 * (k : Int) + 1)] 3)).cell? ⟨wr.heap.size, 1, none⟩ = some (.int .i64 tk) ∧ (w5.drew.alloc (.cells #[.int .i64 (2 * (k : Int) + 1)] 3)).cell? ⟨W.heap.size + 1, tk, none⟩ = some v := by
        obtain ⟨s1, s2, s3⟩ := HSS.out
        have hx : Ext w5 (w5.drew.alloc (.cells #[.int .i64 (2 * (k : Int) + 1)] 3)) := Ext.alc (Ext.drw (Ext.refl _)) _
        exact ⟨keepAt hx (by omega) s1, keepAt hx (by omega) s2, keepAt hx lg s3⟩
      refine wpAnyH_ready (rs := [13]) (by kernel_rfl) (by simp) ?_
      refine AllReadyH.cons rfl (fun K hK => ?_) AllReadyH.nil
      go_simp
      refine hK.out _ _ hS2 (fun _ => ?_)
      clear hK K
      try simp only [Act.put, List.setIfInBounds_toArray, List.set_cons_zero, List.set_cons_succ]
      refine wpAnyH_ready (rs := [14]) (by kernel_rfl) (by simp) ?_
      refine AllReadyH.cons rfl (fun K hK => ?_) AllReadyH.nil
      refine wp_append_q _ _ 33 rfl i0 Try.underlying33 HI.out.1 HI.out.2.1 HI.out.2.2.1 HI.out.2.2.2 (W.heap.size + 1 + 1 + 1) v (st2 tk).length (fun i => (((st2 tk).getD i 0 : Nat) : Int)) rfl ?qs ?base ⟨w5.heap.size, 0, none⟩ 1 (2 * (k : Int) + 1) rfl ?cell ?n ?_
      case qs => rw [HV.out]; exact (est.row tk htN).ext (Ext.alc (Ext.drw (Ext.refl _)) _)
      case base => simp; omega
      case cell => show (w5.drew.alloc (.cells #[.int .i64 (2 * (k : Int) + 1)] 3)).cell? ⟨w5.drew.heap.size, 0, none⟩ = _; rw [World.cell?_alloc_new]; rfl
      case n => have := HLEN.out tk; omega
      intro v60 w6 hq4 hgr
      obtain ⟨Av6, nv6, cv6, hv0⟩ : ∃ A n c, v60 = .slice A n c := by obtain ⟨-, A, c, h, -⟩ := hq4; exact ⟨A, _, c, h⟩
      subst hv0
      have hS3 : w6.cell? ⟨W.heap.size + 1 + 1, 3, none⟩ = some (.slice (some ⟨W.heap.size + 1, 0, none⟩) N N) ∧ w6.cell? ⟨wr.heap.size, 1, none⟩ = some (.int .i64 tk) ∧ w6.cell? ⟨W.heap.size + 1, tk, none⟩ = some v := by
        obtain ⟨s1, s2, s3⟩ := hS2
        have ho := HOW.out tk htN
        have hk : ∀ b o, b < w5.heap.size + 1 → (∀ c, v.ownBlock = some c → c ≠ b) → w6.cell? ⟨b, o, none⟩ = (w5.drew.alloc (.cells #[.int .i64 (2 * (k : Int) + 1)] 3)).cell? ⟨b, o, none⟩ := fun b o hb hne => World.cell?_of_block (hgr.by_.block b (by simp; omega) (fun e => hne b e.symm rfl))
        have hvo : ∀ c, v.ownBlock = some c → W.heap.size + 1 + 1 + 1 ≤ c ∧ c < wr.heap.size := fun c hc => ho c (by rw [HU2.out, up_ne _ _ (fun e => hne e.symm)] at HV; rw [← HV.out]; exact hc)
        exact ⟨(hk _ _ (by omega) (fun c hc => by have := hvo c hc; omega)).trans s1, (hk _ _ (by omega) (fun c hc => by have := hvo c hc; omega)).trans s2, (hk _ _ (by omega) (fun c hc => by have := hvo c hc; omega)).trans s3⟩
      refine hK.out _ _ hS3 (fun _ => ?_)
      clear hK K
      try simp only [Act.put, List.setIfInBounds_toArray, List.set_cons_zero, List.set_cons_succ]
      refine wpAnyH_done (by kernel_rfl) ?_ _
      refine cut_normal ?_
      have est2 := est.ext (Ext.alc (Ext.drw (Ext.refl _)) (.cells #[.int .i64 (2 * (k : Int) + 1)] 3))
      have hvo : ∀ c, v.ownBlock = some c → W.heap.size + 1 + 1 + 1 ≤ c ∧ c < w5.heap.size + 1 := fun c hc => by have := (est2.row tk htN).1 c (by rw [← HV.out]; exact hc); simpa using this
      have hk : ∀ b, b < w5.heap.size + 1 → (∀ c, v.ownBlock = some c → c ≠ b) → w6.heap[b]? = (w5.drew.alloc (.cells #[.int .i64 (2 * (k : Int) + 1)] 3)).heap[b]? := fun b hb hne => hgr.by_.block b (by simp; omega) (fun e => hne b e.symm rfl)
      have hko : ∀ b, b < w5.heap.size → (w5.drew.alloc (.cells #[.int .i64 (2 * (k : Int) + 1)] 3)).heap[b]? = w5.heap[b]? := fun b hb => Below.heap_alloc w5.drew _ b hb
      have f8 := (hk W.heap.size (by omega) (fun c hc => by have := hvo c hc; omega)).trans ((hko _ (by omega)).trans e8)
      have f9 := (hk (W.heap.size + 1 + 1) (by omega) (fun c hc => by have := hvo c hc; omega)).trans ((hko _ (by omega)).trans e9)
      have fE : Ext W w6 := hgr.ext (ee.trans (Ext.alc (Ext.drw (Ext.refl _)) _)) (fun c hc => by have := hvo c hc; omega)
      have ffr : w6.frozen? ⟨W.heap.size + 1, tk, none⟩ = false := Bk.free (hgr.bk est2.blk (fun e => by have := hvo _ e; omega)) _
      have hzz : w5.heap.size < w6.heap.size := by have := hgr.by_.size; simp at this; omega
      rw [HV.out] at hgr
      have fN : Nst (w6.setCell ⟨W.heap.size + 1, tk, none⟩ (.slice Av6 nv6 cv6)) (W.heap.size + 1 + 1 + 1) (W.heap.size + 1) N (up (u2) tk (.slice Av6 nv6 cv6)) (up (st2) tk (st2 tk ++ [2 * k + 1])) := est2.more htN (by omega) hq4 hgr
      have HF := Lib.hid (And.intro f8 (And.intro f9 (And.intro fE fN))); have HS3 := Lib.hid hS3
      obtain ⟨s1, s2, s3⟩ := hS3
      clear f8 f9 fE fN hk hko hvo est est2 e8 e9 ee hq4 hgr hS2 s1 s2
      go_wp2_with fail
      refine NoPanic.normal ?_
      go_wp2
      go_roundw
      case rel =>
        obtain ⟨f8, f9, fE, fN⟩ := HF.out
        refine ⟨k + 1, up u2 tk (.slice Av6 nv6 cv6), by go_num, by omega, (Below.heap_setCell w6 ⟨W.heap.size + 1, tk, none⟩ (.slice Av6 nv6 cv6) W.heap.size (by simp)).trans f8, (Below.heap_setCell w6 ⟨W.heap.size + 1, tk, none⟩ (.slice Av6 nv6 cv6) (W.heap.size + 1 + 1) (by simp)).trans f9, ?_, fE.sc (by omega)⟩
        have est : up st2 tk (st2 tk ++ [2 * k + 1]) = stf a.nw (k + 1) := by
          refine stf_up a.nw hne ?_ ?_ HST2.out
          · show (a.f k).toNat = fk; have := HFT.out.1; omega
          · show (a.t k).toNat = tk; have := HFT.out.2; omega
        rw [← est]
        exact fN
      case measure => simp [intOf]; omega
    · obtain rfl : k = a.n := by omega
      obtain ⟨k0, k1, k2, k3, k4, k5⟩ := four h8
      obtain ⟨m0, m1, m2, m3, m4, m5⟩ := four h9
      have HST := Lib.hid hst; have HE := Lib.hid hext
      clear hst hext h8 h9
      go_wp2
      refine bodyPost_ret (v := .agg #[.int .i64 s, .int .i64 t, .slice A a.n c, .slice (some ⟨W.heap.size + 1, 0, none⟩) N N]) (by simp [results, Try.results78, go_sem, k0, k1, k2, k3]) rfl ?_
      have hX : ∀ (b o : Nat), b ≠ W.heap.size → ((((wr.setCell ⟨W.heap.size, 0, none⟩ (.int .i64 s)).setCell ⟨W.heap.size, 1, none⟩ (.int .i64 t)).setCell ⟨W.heap.size, 2, none⟩ (.slice A a.n c)).setCell ⟨W.heap.size, 3, none⟩ (.slice (some ⟨W.heap.size + 1, 0, none⟩) N N)).heap[b]? = wr.heap[b]? := fun b o hb => by
        rw [Below.heap_setCell _ _ _ b hb, Below.heap_setCell _ _ _ b hb, Below.heap_setCell _ _ _ b hb, Below.heap_setCell _ _ _ b hb]
      refine ⟨_, rfl, ⟨W.heap.size + 1, N, rfl, ?_, by omega, fun i hi => ⟨u i, ?_, ?_, fun b hb => by have := ((HST.out.row i hi).1 b hb).1; omega⟩⟩, (((HE.out.sc (by omega)).sc (by omega)).sc (by omega)).sc (by omega)⟩
      · simp [World.setCell]; omega
      · exact (World.cell?_of_block (hX (W.heap.size + 1) 0 (by omega))).trans (HST.out.blk.cell hi)
      · refine ((HST.out.row i hi).block (by simp [World.setCell]) fun b hb => hX b 0 ?_).il
        have := (HST.out.row i hi).1 b hb
        omega
end Go.Proofs.Ytilcbbdmenknfaa
namespace Go.Proofs.Ytilcbbdmenknfaa

theorem nodup_len : ∀ (n : Nat) (l : List Nat), l.Nodup → (∀ x ∈ l, x < n) → l.length ≤ n := by
  intro n
  induction n with
  | zero => intro l _ h; cases l with
    | nil => simp
    | cons a l => have := h a (by simp); omega
  | succ n ih =>
    intro l hn h
    by_cases hm : n ∈ l
    · have h1 := ih (l.erase n) (hn.erase n) (fun x hx => by have h2 := (hn.mem_erase_iff).1 hx; have := h x h2.2; omega)
      rw [List.length_erase_of_mem hm] at h1
      omega
    · have := ih l hn (fun x hx => by have h1 := h x hx; have : x ≠ n := fun e => hm (e ▸ hx); omega)
      omega

/-- the way that has been gone back from t to v -/
structure Wy (G : Nw) (x : Nat → Int) (R : Nat → Bool) (rk : Nat → Nat) (t v : Nat) (w : List Nat) : Prop where
  here : R v = true
  ch : G.Ch t w v
  nd : w.Nodup
  op : ∀ j ∈ w, j < 2 * G.m ∧ 0 < x j
  rk : ∀ j ∈ w, rk v < rk (G.hd j)
theorem Wy.start {G : Nw} {x : Nat → Int} {R : Nat → Bool} {rk : Nat → Nat} {t : Nat} (h : R t = true) : Wy G x R rk t t [] :=
  ⟨h, rfl, List.nodup_nil, fun j hj => by simp at hj, fun j hj => by simp at hj⟩
theorem Wy.step {G : Nw} {N s t v : Nat} {x : Nat → Int} {R : Nat → Bool} {la rk : Nat → Nat} {w : List Nat} (hw : G.Wk N s (fun j => decide (0 < x j)) R la rk) (h : Wy G x R rk t v w) (hv : v < N) (hne : v ≠ s) :
    Wy G x R rk t (G.tl (la v)) (w ++ [la v]) ∧ rk (G.tl (la v)) < rk v ∧ G.tl (la v) < N ∧ la v < 2 * G.m := by
  obtain ⟨h1, h2, h3, h4, h5, h6⟩ := hw.tree v hv h.here hne
  refine ⟨⟨h5, h.ch.snoc G _ h3, ?_, fun j hj => ?_, fun j hj => ?_⟩, h6, h4, h1⟩
  · rw [List.nodup_append]
    refine ⟨h.nd, by simp, fun a ha b hb => ?_⟩
    simp at hb
    subst hb
    intro e
    have := h.rk a ha
    rw [e, h3] at this
    omega
  · rcases List.mem_append.1 hj with h7 | h7
    · exact h.op j h7
    · simp at h7; subst h7; exact ⟨h1, by simpa using h2⟩
  · rcases List.mem_append.1 hj with h7 | h7
    · have := h.rk j h7; omega
    · simp at h7; subst h7; rw [h3]; exact h6
theorem Wy.len {G : Nw} {x : Nat → Int} {R : Nat → Bool} {rk : Nat → Nat} {t v : Nat} {w : List Nat} (h : Wy G x R rk t v w) : w.length ≤ 2 * G.m := nodup_len _ _ h.nd (fun j hj => (h.op j hj).1)
theorem Wy.ne {G : Nw} {x : Nat → Int} {R : Nat → Bool} {rk : Nat → Nat} {t v : Nat} {w : List Nat} (h : Wy G x R rk t v w) (hne : t ≠ v) : 0 < w.length := by
  cases w with
  | nil => exact absurd h.ch hne
  | cons a w => simp
theorem Nw.Rs.le {G : Nw} {x : Nat → Int} (h : G.Rs x) {M : Int} (hM : ∀ k, k < G.m → G.cp k ≤ M) {j : Nat} (hj : j < 2 * G.m) : 0 ≤ x j ∧ x j ≤ M := by
  have h0 := h.nn j hj
  have h1 := h.nn (rev j) (rev_lt hj)
  have h2 := h.sum (j / 2) (by omega)
  have h3 := hM (j / 2) (by omega)
  refine ⟨h0, ?_⟩
  unfold rev at h1
  by_cases e : j % 2 = 0
  · rw [if_pos e] at h1
    rw [show 2 * (j / 2) = j by omega] at h2
    omega
  · rw [if_neg e] at h1
    rw [show 2 * (j / 2) + 1 = j by omega, show 2 * (j / 2) = j - 1 by omega] at h2
    omega
/-- while r more goes along the way, arc after arc -/
theorem Nw.Rs.part {G : Nw} {x : Nat → Int} (h : G.Rs x) {r : Int} (hr : 0 ≤ r) {w : List Nat} (hn : w.Nodup) (hw : ∀ j ∈ w, j < 2 * G.m ∧ r ≤ x j) (k : Nat) : G.Rs (Nw.augs x (w.take k) r) :=
  Nw.Rs.augs G hr h (hn.sublist (List.take_sublist _ _)) (fun j hj => hw j (List.mem_of_mem_take hj))
theorem Nw.augs_out {w : List Nat} {r : Int} (hr : 0 ≤ r) : ∀ {x : Nat → Int} {i : Nat}, i ∉ w → x i ≤ Nw.augs x w r i := by
  induction w with
  | nil => intro x i _; exact Int.le_refl _
  | cons j w ih =>
    intro x i hi
    simp at hi
    have h1 := Nw.aug_other (x := x) (j := j) (i := i) hr hi.1
    have h2 := ih (x := Nw.aug x j r) hi.2
    exact Int.le_trans h1 h2
theorem Nw.augs_take (x : Nat → Int) (w : List Nat) (r : Int) {k : Nat} (hk : k < w.length) : Nw.augs x (w.take (k + 1)) r = Nw.aug (Nw.augs x (w.take k) r) (w.getD k 0) r := by
  rw [List.take_add_one, List.getElem?_eq_getElem hk, Option.toList_some, Nw.augs_snoc, List.getD_eq_getElem?_getD, List.getElem?_eq_getElem hk, Option.getD_some]
theorem Nw.aug_up (x : Nat → Int) (j : Nat) (r : Int) : up (up x j (x j - r)) (rev j) (up x j (x j - r) (rev j) + r) = Nw.aug x j r := by
  funext i
  have h := rev_ne j
  unfold up Nw.aug
  by_cases e1 : i = j
  · subst e1; rw [if_neg (fun e => h e.symm), if_pos rfl, if_pos rfl]
  · by_cases e2 : i = rev j
    · subst e2; rw [if_pos rfl, if_neg h, if_neg h, if_pos rfl]
    · rw [if_neg e2, if_neg e1, if_neg e1, if_neg e2]
end Go.Proofs.Ytilcbbdmenknfaa
