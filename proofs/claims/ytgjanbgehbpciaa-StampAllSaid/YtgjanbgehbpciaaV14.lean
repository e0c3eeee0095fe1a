/- Walks: the law's stamps. -/
import Derived.Test.YtgjanbgehbpciaaV13
namespace Go.Proofs.Ytgjanbgehbpciaa
open Go.RowKit

set_option maxHeartbeats 1000000 in
set_option maxRecDepth 100000 in
theorem stamps_nil (w h : Int) (W : World) :
    Calls Try.prog 15 #[.agg #[.int .i64 w, .int .i64 h, .slice none 0 0]] W fun e W' => e = .returned (.agg #[.int .i64 w, .int .i64 h, .slice none 0 0]) ∧ Ext W W' := by
  have hk : min (0 : Int) 70 = 0 := by omega
  have ccl : ∀ W, Calls Try.prog 49 #[.slice none 0 0] W fun e W' => e = .returned (.slice none 0 0) ∧ Ext W W' := clone_nil
  have CCL := Lib.hid ccl; clear ccl
  go_enter Try.func15, Try.ntmps15
  go_wp2_with fail
  have q1 : Q3 ((W.alloc (.cells #[.int .i64 w, .int .i64 h, .slice none 0 0] 24)).alloc (.cells #[.int .i64 0, .int .i64 0, .slice none 0 0] 27)) W.heap.size (.int .i64 w) (.int .i64 h) (.slice none 0 0) := by
    refine ⟨?_, ?_, ?_⟩ <;> (rw [World.cell?_alloc_past _ _ _ (by simp), World.cell?_alloc_new]; rfl)
  have q2 : TB ((W.alloc (.cells #[.int .i64 w, .int .i64 h, .slice none 0 0] 24)).alloc (.cells #[.int .i64 0, .int .i64 0, .slice none 0 0] 27)) (W.heap.size + 1) := by
    have := heap_alloc_new (W.alloc (.cells #[.int .i64 w, .int .i64 h, .slice none 0 0] 24)) (.cells #[.int .i64 0, .int .i64 0, .slice none 0 0] 27)
    simp only [World.size_alloc] at this
    exact ⟨_, _, _, _, this⟩
  have bb := al2 W (.cells #[.int .i64 w, .int .i64 h, .slice none 0 0] 24) (.cells #[.int .i64 0, .int .i64 0, .slice none 0 0] 27)
  have zz : ((W.alloc (.cells #[.int .i64 w, .int .i64 h, .slice none 0 0] 24)).alloc (.cells #[.int .i64 0, .int .i64 0, .slice none 0 0] 27)).heap.size = W.heap.size + 1 + 1 := by simp
  generalize ((W.alloc (.cells #[.int .i64 w, .int .i64 h, .slice none 0 0] 24)).alloc (.cells #[.int .i64 0, .int .i64 0, .slice none 0 0] 27)) = W2 at *
  have zle : W.heap.size + 1 + 1 ≤ W2.heap.size := by omega
  have BB : Hid (Ext W W2) := Lib.hid bb
  have QB2 := Lib.hid q2
  clear bb zz q2
  obtain ⟨s0, s1, s2⟩ := q1
  refine wp_region_noPanic ?_
  refine wp_split (S := fun X => Ext W2 X) 13 (by kernel_rfl) (by kernel_rfl) (Ext.drw (Ext.refl _)) ?_
  simp only [List.take_succ_cons, List.take_zero, List.drop_succ_cons, List.drop_zero]
  refine take_at 0 (some 3) (.pointer (some ⟨W.heap.size, 0, none⟩)) rfl rfl (by kernel_rfl) (by kernel_rfl) (by kernel_rfl) (fun _ _ _ h => h) (Or.inl ⟨by rfl, fun w' hSw => ?_⟩) (Ext.drw (Ext.refl _)) ?_
  · skip
    clear hSw
    go_simp
    all_goals (with_reducible rfl)
  try simp only [Act.put, List.setIfInBounds_toArray, List.set_cons_zero, List.set_cons_succ]
  refine take_at 1 (some 4) (.int .i64 w) rfl rfl (by kernel_rfl) (by kernel_rfl) (by kernel_rfl) (fun _ _ _ h => h) (Or.inl ⟨by rfl, fun w' hSw => ?_⟩) (Ext.drw (Ext.refl _)) ?_
  · have q0 := keepAt hSw (by omega) s0
    clear hSw
    go_simp
    all_goals (with_reducible rfl)
  try simp only [Act.put, List.setIfInBounds_toArray, List.set_cons_zero, List.set_cons_succ]
  refine take_at 2 (some 5) (.pointer (some ⟨W.heap.size, 1, none⟩)) rfl rfl (by kernel_rfl) (by kernel_rfl) (by kernel_rfl) (fun _ _ _ h => h) (Or.inl ⟨by rfl, fun w' hSw => ?_⟩) (Ext.drw (Ext.refl _)) ?_
  · skip
    clear hSw
    go_simp
    all_goals (with_reducible rfl)
  try simp only [Act.put, List.setIfInBounds_toArray, List.set_cons_zero, List.set_cons_succ]
  refine take_at 3 (some 6) (.int .i64 h) rfl rfl (by kernel_rfl) (by kernel_rfl) (by kernel_rfl) (fun _ _ _ h => h) (Or.inl ⟨by rfl, fun w' hSw => ?_⟩) (Ext.drw (Ext.refl _)) ?_
  · have q0 := keepAt hSw (by omega) s1
    clear hSw
    go_simp
    all_goals (with_reducible rfl)
  try simp only [Act.put, List.setIfInBounds_toArray, List.set_cons_zero, List.set_cons_succ]
  refine take_at 4 (some 7) (.pointer (some ⟨W.heap.size, 2, none⟩)) rfl rfl (by kernel_rfl) (by kernel_rfl) (by kernel_rfl) (fun _ _ _ h => h) (Or.inl ⟨by rfl, fun w' hSw => ?_⟩) (Ext.drw (Ext.refl _)) ?_
  · skip
    clear hSw
    go_simp
    all_goals (with_reducible rfl)
  try simp only [Act.put, List.setIfInBounds_toArray, List.set_cons_zero, List.set_cons_succ]
  refine take_at 5 (some 8) (.slice none 0 0) rfl rfl (by kernel_rfl) (by kernel_rfl) (by kernel_rfl) (fun _ _ _ h => h) (Or.inl ⟨by rfl, fun w' hSw => ?_⟩) (Ext.drw (Ext.refl _)) ?_
  · have q0 := keepAt hSw (by omega) s2
    clear hSw
    go_simp
    all_goals (with_reducible rfl)
  try simp only [Act.put, List.setIfInBounds_toArray, List.set_cons_zero, List.set_cons_succ]
  refine take_at 6 (some 9) (.pointer (some ⟨W.heap.size, 2, none⟩)) rfl rfl (by kernel_rfl) (by kernel_rfl) (by kernel_rfl) (fun _ _ _ h => h) (Or.inl ⟨by rfl, fun w' hSw => ?_⟩) (Ext.drw (Ext.refl _)) ?_
  · skip
    clear hSw
    go_simp
    all_goals (with_reducible rfl)
  try simp only [Act.put, List.setIfInBounds_toArray, List.set_cons_zero, List.set_cons_succ]
  refine take_at 7 (some 10) (.slice none 0 0) rfl rfl (by kernel_rfl) (by kernel_rfl) (by kernel_rfl) (fun _ _ _ h => h) (Or.inl ⟨by rfl, fun w' hSw => ?_⟩) (Ext.drw (Ext.refl _)) ?_
  · have q0 := keepAt hSw (by omega) s2
    clear hSw
    go_simp
    all_goals (with_reducible rfl)
  try simp only [Act.put, List.setIfInBounds_toArray, List.set_cons_zero, List.set_cons_succ]
  refine take_at 8 (some 11) (.int .i64 0) rfl rfl (by kernel_rfl) (by kernel_rfl) (by kernel_rfl) (fun _ _ _ h => h) (Or.inl ⟨by rfl, fun w' hSw => ?_⟩) (Ext.drw (Ext.refl _)) ?_
  · skip
    clear hSw
    go_simp
    all_goals (with_reducible rfl)
  try simp only [Act.put, List.setIfInBounds_toArray, List.set_cons_zero, List.set_cons_succ]
  refine take_at 9 (some 12) (.int .i64 0) rfl rfl (by kernel_rfl) (by kernel_rfl) (by kernel_rfl) (fun _ _ _ h => h) (Or.inl ⟨by rfl, fun w' hSw => ?_⟩) (Ext.drw (Ext.refl _)) ?_
  · skip
    clear hSw
    go_simp
    all_goals (with_reducible rfl)
  try simp only [Act.put, List.setIfInBounds_toArray, List.set_cons_zero, List.set_cons_succ]
  refine take_at 10 (some 13) (.slice none 0 0) rfl rfl (by kernel_rfl) (by kernel_rfl) (by kernel_rfl) (fun _ _ _ h => h) (Or.inl ⟨by rfl, fun w' hSw => ?_⟩) (Ext.drw (Ext.refl _)) ?_
  · skip
    clear hSw
    go_simp
    all_goals (with_reducible rfl)
  try simp only [Act.put, List.setIfInBounds_toArray, List.set_cons_zero, List.set_cons_succ]
  refine wpAnyH_ready (rs := [11]) (by kernel_rfl) (by simp) ?_
  refine AllReadyH.cons rfl (fun K hK => ?_) AllReadyH.nil
  go_simp
  refine (CCL.out _).mono ?_
  rintro e v11 ⟨rfl, hb11⟩
  have e11 : Ext W2 v11 := (Ext.drw (Ext.refl _)).trans hb11
  try go_wp2_with fail
  refine hK.out _ _ e11 (fun _ => ?_)
  clear hK K
  try simp only [Act.put, List.setIfInBounds_toArray, List.set_cons_zero, List.set_cons_succ]
  refine take_at 12 (some 15) (.agg #[.int .i64 w, .int .i64 h, .slice none 0 0]) rfl rfl (by kernel_rfl) (by kernel_rfl) (by kernel_rfl) (fun _ _ _ h => h) (Or.inl ⟨by rfl, fun w' hSw => ?_⟩) (e11) ?_
  · skip
    clear hSw
    go_simp
    all_goals (with_reducible rfl)
  try simp only [Act.put, List.setIfInBounds_toArray, List.set_cons_zero, List.set_cons_succ]
  refine wpAnyH_done (by kernel_rfl) ?_ _
  refine cut_normal ?_
  obtain ⟨⟨_, _, _, r0, r1, r2⟩, rf⟩ := (QB2.out.ext e11).facts
  have zz := e11.size
  go_wp2_with fail
  refine NoPanic.normal ?_
  go_wp2
  refine bodyPost_ret (v := .agg #[.int .i64 w, .int .i64 h, .slice none 0 0]) (by simp [results, Try.results15, go_sem, r0, r1, r2]) rfl ⟨rfl, ?_⟩
  exact sc (sc (sc (nx BB.out e11) (by omega) _) (by omega) _) (by omega) _

set_option maxHeartbeats 1000000 in
set_option maxRecDepth 100000 in
theorem stamps_some (w h : Int) (a : Addr) (n c k : Nat) (l : List Int) (W : World) (hn : n = l.length) (hnc : n ≤ c) (hcm : c ≤ 9223372036854775807) (hk : min (n : Int) 70 = (k : Int)) (hc : 0 < n → ∃ b off, a = ⟨b, off, none⟩ ∧ b < W.heap.size ∧ ∀ j, j < n → W.cell? ⟨b, off + j, none⟩ = some (.int .i64 (l.getD j 0))) :
    Calls Try.prog 15 #[.agg #[.int .i64 w, .int .i64 h, .slice (some a) n c]] W fun e W' => ∃ A' n' c', e = .returned (.agg #[.int .i64 w, .int .i64 h, .slice A' n' c']) ∧ Il W' (.slice A' n' c') (l.take k) ∧ Fr W.heap.size (.slice A' n' c') ∧ Ext W W' := by
  have hkn : k ≤ n := by omega
  have hk70 : k ≤ 70 := by omega
  have htk : (l.take k).length = k := by rw [List.length_take]; omega
  have ccl : ∀ X, Ext W X → Calls Try.prog 49 #[.slice (some a) k c] X fun e W' => ∃ A' n' c', e = .returned (.slice A' n' c') ∧ Il W' (.slice A' n' c') (l.take k) ∧ Fr X.heap.size (.slice A' n' c') ∧ Ext X W' := fun X hX => by
    by_cases hk0 : k = 0
    · subst hk0
      refine (clone_zero a c X).mono ?_
      rintro e W' ⟨r, rfl, hil, hfr, hx⟩
      obtain ⟨A', c', rfl, h1, h2, h3⟩ := hil
      exact ⟨A', _, c', rfl, ⟨A', c', rfl, h1, h2, h3⟩, hfr, hx⟩
    obtain ⟨b, off, rfl, hb, hc⟩ := hc (by omega)
    refine (clone_some b off k c (l.take k) X htk.symm hk70 (Nat.lt_of_lt_of_le hb hX.size) (fun j hj => ?_)).mono ?_
    · rw [keepAt hX hb (hc j (by omega))]
      simp [List.getD_eq_getElem?_getD, List.getElem?_take, hj]
    · rintro e W' ⟨r, rfl, hil, hfr, hx⟩
      obtain ⟨A', c', rfl, h1, h2, h3⟩ := hil
      exact ⟨A', _, c', rfl, ⟨A', c', rfl, h1, h2, h3⟩, hfr, hx⟩
  have CCL := Lib.hid ccl; clear ccl
  have HC := Lib.hid hc; have Hn := Lib.hid hn; have Htk := Lib.hid htk; clear hc hn htk
  have d1 : (0 : Int) ≤ k := by omega
  have d2 : (k : Int) ≤ c := by omega
  have d3 : (k : Int) ≤ n := by omega
  go_enter Try.func15, Try.ntmps15
  go_wp2_with fail
  have q1 : Q3 ((W.alloc (.cells #[.int .i64 w, .int .i64 h, .slice (some a) n c] 24)).alloc (.cells #[.int .i64 0, .int .i64 0, .slice none 0 0] 27)) W.heap.size (.int .i64 w) (.int .i64 h) (.slice (some a) n c) := by
    refine ⟨?_, ?_, ?_⟩ <;> (rw [World.cell?_alloc_past _ _ _ (by simp), World.cell?_alloc_new]; rfl)
  have q2 : TB ((W.alloc (.cells #[.int .i64 w, .int .i64 h, .slice (some a) n c] 24)).alloc (.cells #[.int .i64 0, .int .i64 0, .slice none 0 0] 27)) (W.heap.size + 1) := by
    have := heap_alloc_new (W.alloc (.cells #[.int .i64 w, .int .i64 h, .slice (some a) n c] 24)) (.cells #[.int .i64 0, .int .i64 0, .slice none 0 0] 27)
    simp only [World.size_alloc] at this
    exact ⟨_, _, _, _, this⟩
  have bb := al2 W (.cells #[.int .i64 w, .int .i64 h, .slice (some a) n c] 24) (.cells #[.int .i64 0, .int .i64 0, .slice none 0 0] 27)
  have zz : ((W.alloc (.cells #[.int .i64 w, .int .i64 h, .slice (some a) n c] 24)).alloc (.cells #[.int .i64 0, .int .i64 0, .slice none 0 0] 27)).heap.size = W.heap.size + 1 + 1 := by simp
  generalize ((W.alloc (.cells #[.int .i64 w, .int .i64 h, .slice (some a) n c] 24)).alloc (.cells #[.int .i64 0, .int .i64 0, .slice none 0 0] 27)) = W2 at *
  have zle : W.heap.size + 1 + 1 ≤ W2.heap.size := by omega
  have BB : Hid (Ext W W2) := Lib.hid bb
  have QB2 := Lib.hid q2
  clear bb zz q2
  obtain ⟨s0, s1, s2⟩ := q1
  refine wp_region_noPanic ?_
  refine wp_split (S := fun X => Ext W2 X) 13 (by kernel_rfl) (by kernel_rfl) (Ext.drw (Ext.refl _)) ?_
  simp only [List.take_succ_cons, List.take_zero, List.drop_succ_cons, List.drop_zero]
  refine take_at 0 (some 3) (.pointer (some ⟨W.heap.size, 0, none⟩)) rfl rfl (by kernel_rfl) (by kernel_rfl) (by kernel_rfl) (fun _ _ _ h => h) (Or.inl ⟨by rfl, fun w' hSw => ?_⟩) (Ext.drw (Ext.refl _)) ?_
  · skip
    clear hSw
    go_simp
    all_goals (with_reducible rfl)
  try simp only [Act.put, List.setIfInBounds_toArray, List.set_cons_zero, List.set_cons_succ]
  refine take_at 1 (some 4) (.int .i64 w) rfl rfl (by kernel_rfl) (by kernel_rfl) (by kernel_rfl) (fun _ _ _ h => h) (Or.inl ⟨by rfl, fun w' hSw => ?_⟩) (Ext.drw (Ext.refl _)) ?_
  · have q0 := keepAt hSw (by omega) s0
    clear hSw
    go_simp
    all_goals (with_reducible rfl)
  try simp only [Act.put, List.setIfInBounds_toArray, List.set_cons_zero, List.set_cons_succ]
  refine take_at 2 (some 5) (.pointer (some ⟨W.heap.size, 1, none⟩)) rfl rfl (by kernel_rfl) (by kernel_rfl) (by kernel_rfl) (fun _ _ _ h => h) (Or.inl ⟨by rfl, fun w' hSw => ?_⟩) (Ext.drw (Ext.refl _)) ?_
  · skip
    clear hSw
    go_simp
    all_goals (with_reducible rfl)
  try simp only [Act.put, List.setIfInBounds_toArray, List.set_cons_zero, List.set_cons_succ]
  refine take_at 3 (some 6) (.int .i64 h) rfl rfl (by kernel_rfl) (by kernel_rfl) (by kernel_rfl) (fun _ _ _ h => h) (Or.inl ⟨by rfl, fun w' hSw => ?_⟩) (Ext.drw (Ext.refl _)) ?_
  · have q0 := keepAt hSw (by omega) s1
    clear hSw
    go_simp
    all_goals (with_reducible rfl)
  try simp only [Act.put, List.setIfInBounds_toArray, List.set_cons_zero, List.set_cons_succ]
  refine take_at 4 (some 7) (.pointer (some ⟨W.heap.size, 2, none⟩)) rfl rfl (by kernel_rfl) (by kernel_rfl) (by kernel_rfl) (fun _ _ _ h => h) (Or.inl ⟨by rfl, fun w' hSw => ?_⟩) (Ext.drw (Ext.refl _)) ?_
  · skip
    clear hSw
    go_simp
    all_goals (with_reducible rfl)
  try simp only [Act.put, List.setIfInBounds_toArray, List.set_cons_zero, List.set_cons_succ]
  refine take_at 5 (some 8) (.slice (some a) n c) rfl rfl (by kernel_rfl) (by kernel_rfl) (by kernel_rfl) (fun _ _ _ h => h) (Or.inl ⟨by rfl, fun w' hSw => ?_⟩) (Ext.drw (Ext.refl _)) ?_
  · have q0 := keepAt hSw (by omega) s2
    clear hSw
    go_simp
    all_goals (with_reducible rfl)
  try simp only [Act.put, List.setIfInBounds_toArray, List.set_cons_zero, List.set_cons_succ]
  refine take_at 6 (some 9) (.pointer (some ⟨W.heap.size, 2, none⟩)) rfl rfl (by kernel_rfl) (by kernel_rfl) (by kernel_rfl) (fun _ _ _ h => h) (Or.inl ⟨by rfl, fun w' hSw => ?_⟩) (Ext.drw (Ext.refl _)) ?_
  · skip
    clear hSw
    go_simp
    all_goals (with_reducible rfl)
  try simp only [Act.put, List.setIfInBounds_toArray, List.set_cons_zero, List.set_cons_succ]
  refine take_at 7 (some 10) (.slice (some a) n c) rfl rfl (by kernel_rfl) (by kernel_rfl) (by kernel_rfl) (fun _ _ _ h => h) (Or.inl ⟨by rfl, fun w' hSw => ?_⟩) (Ext.drw (Ext.refl _)) ?_
  · have q0 := keepAt hSw (by omega) s2
    clear hSw
    go_simp
    all_goals (with_reducible rfl)
  try simp only [Act.put, List.setIfInBounds_toArray, List.set_cons_zero, List.set_cons_succ]
  refine take_at 8 (some 11) (.int .i64 n) rfl rfl (by kernel_rfl) (by kernel_rfl) (by kernel_rfl) (fun _ _ _ h => h) (Or.inl ⟨by rfl, fun w' hSw => ?_⟩) (Ext.drw (Ext.refl _)) ?_
  · skip
    clear hSw
    go_simp
    all_goals (with_reducible rfl)
  try simp only [Act.put, List.setIfInBounds_toArray, List.set_cons_zero, List.set_cons_succ]
  refine take_at 9 (some 12) (.int .i64 k) rfl rfl (by kernel_rfl) (by kernel_rfl) (by kernel_rfl) (fun _ _ _ h => h) (Or.inl ⟨by rfl, fun w' hSw => ?_⟩) (Ext.drw (Ext.refl _)) ?_
  · skip
    clear hSw
    go_simp
    all_goals (with_reducible rfl)
  try simp only [Act.put, List.setIfInBounds_toArray, List.set_cons_zero, List.set_cons_succ]
  refine take_at 10 (some 13) (.slice (some a) k c) rfl rfl (by kernel_rfl) (by kernel_rfl) (by kernel_rfl) (fun _ _ _ h => h) (Or.inl ⟨by rfl, fun w' hSw => ?_⟩) (Ext.drw (Ext.refl _)) ?_
  · skip
    clear hSw
    go_simp
    all_goals (with_reducible rfl)
  try simp only [Act.put, List.setIfInBounds_toArray, List.set_cons_zero, List.set_cons_succ]
  refine wpAnyH_ready (rs := [11]) (by kernel_rfl) (by simp) ?_
  refine AllReadyH.cons rfl (fun K hK => ?_) AllReadyH.nil
  go_simp
  refine (CCL.out _ (BB.out.trans (Ext.drw (Ext.refl _)))).mono ?_
  rintro e v11 ⟨A', n', c', rfl, hil, hfr, hb11⟩
  have e11 : Ext W2 v11 := (Ext.drw (Ext.refl _)).trans hb11
  try go_wp2_with fail
  refine hK.out _ _ e11 (fun _ => ?_)
  clear hK K
  try simp only [Act.put, List.setIfInBounds_toArray, List.set_cons_zero, List.set_cons_succ]
  refine take_at 12 (some 15) (.agg #[.int .i64 w, .int .i64 h, .slice A' n' c']) rfl rfl (by kernel_rfl) (by kernel_rfl) (by kernel_rfl) (fun _ _ _ h => h) (Or.inl ⟨by rfl, fun w' hSw => ?_⟩) (e11) ?_
  · skip
    clear hSw
    go_simp
    all_goals (with_reducible rfl)
  try simp only [Act.put, List.setIfInBounds_toArray, List.set_cons_zero, List.set_cons_succ]
  refine wpAnyH_done (by kernel_rfl) ?_ _
  refine cut_normal ?_
  have IL := Lib.hid hil; have FR : Hid (Fr W2.heap.size (.slice A' n' c')) := Lib.hid hfr; clear hil hfr
  obtain ⟨⟨_, _, _, r0, r1, r2⟩, rf⟩ := (QB2.out.ext e11).facts
  have zz := e11.size
  go_wp2_with fail
  refine NoPanic.normal ?_
  go_wp2
  refine bodyPost_ret (v := .agg #[.int .i64 w, .int .i64 h, .slice A' n' c']) (by simp [results, Try.results15, go_sem, r0, r1, r2]) rfl ⟨A', n', c', rfl, ?_, fun a n'' c'' e => Nat.le_trans (by omega) (FR.out a n'' c'' e), ?_⟩
  · exact ((IL.out.far FR.out (by omega)).far FR.out (by omega)).far FR.out (by omega)
  · exact sc (sc (sc (nx BB.out e11) (by omega) _) (by omega) _) (by omega) _

/-- ints that come in from outside -/
def Ins (W : World) (A : Option Addr) (n c : Nat) (l : List Int) : Prop :=
  n = l.length ∧ n ≤ c ∧ c ≤ 9223372036854775807 ∧ (A = none → c = 0) ∧ (0 < n → ∃ b off, A = some ⟨b, off, none⟩ ∧ b < W.heap.size ∧ ∀ j, j < n → W.cell? ⟨b, off + j, none⟩ = some (.int .i64 (l.getD j 0)))
theorem Ins.il {W : World} {A : Option Addr} {n c : Nat} {l : List Int} (h : Ins W A n c l) : Il W (.slice A n c) l := by
  obtain ⟨rfl, h1, h2, h3, h4⟩ := h
  exact ⟨A, c, rfl, h1, h2, h4⟩
theorem Ins.ext {W X : World} {A : Option Addr} {n c : Nat} {l : List Int} (h : Ins W A n c l) (e : Ext W X) : Ins X A n c l := by
  obtain ⟨h0, h1, h2, h3, h4⟩ := h
  refine ⟨h0, h1, h2, h3, fun hp => ?_⟩
  obtain ⟨b, off, rfl, hb, hc⟩ := h4 hp
  exact ⟨b, off, rfl, Nat.lt_of_lt_of_le hb e.size, fun j hj => keepAt e hb (hc j hj)⟩

/-- stamps -/
theorem stamps_any (w h : Int) (A : Option Addr) (n c : Nat) (l : List Int) (W : World) (hl : Ins W A n c l) :
    Calls Try.prog 15 #[.agg #[.int .i64 w, .int .i64 h, .slice A n c]] W fun e W' => ∃ A' n' c', e = .returned (.agg #[.int .i64 w, .int .i64 h, .slice A' n' c']) ∧ Il W' (.slice A' n' c') (l.take 70) ∧ Fr W.heap.size (.slice A' n' c') ∧ Ext W W' := by
  obtain ⟨hn, h1, h2, h3, h4⟩ := hl
  cases A with
  | none =>
    obtain rfl := h3 rfl
    obtain rfl : n = 0 := by omega
    refine (stamps_nil w h W).mono ?_
    rintro e W' ⟨rfl, hx⟩
    have hl0 : l = [] := List.eq_nil_of_length_eq_zero hn.symm
    subst hl0
    exact ⟨none, 0, 0, rfl, Il.nil_ _, (fun a n c e => by cases e), hx⟩
  | some a =>
    obtain ⟨k, hk⟩ : ∃ k : Nat, min (n : Int) 70 = (k : Int) := ⟨min n 70, by omega⟩
    have hk2 : (n ≤ 70 → k = n) ∧ (70 < n → k = 70) := ⟨fun h => by omega, fun h => by omega⟩
    have htk : l.take k = l.take 70 := by
      by_cases h7 : n ≤ 70
      · have := hk2.1 h7
        rw [List.take_of_length_le (by omega), List.take_of_length_le (by omega)]
      · rw [hk2.2 (by omega)]
    refine (stamps_some w h a n c k l W hn h1 h2 hk (fun hp => ?_)).mono ?_
    · obtain ⟨b, off, e, hb, hc⟩ := h4 hp
      injection e with e
      exact ⟨b, off, e, hb, hc⟩
    · rw [htk]
      exact fun _ _ h => h

end Go.Proofs.Ytgjanbgehbpciaa
