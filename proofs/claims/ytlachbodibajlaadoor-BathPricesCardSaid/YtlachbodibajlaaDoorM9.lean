/- Walks: the law BathTight. -/
import Derived.Test.YtlachbodibajlaaDoorM8
import Derived.RegionTactic
namespace Go.Proofs.YtlachbodibajlaaDoor
open Go.RowKit Go.Shelf

theorem rest_letters {ws : List Bw.Word} (hw : Bw.okW ws) : ∀ (n p : Nat), p < Bw.sz ws → Bw.rem ws p ≤ n → ∀ c ∈ (Bw.rest ws p).1, c ∈ Bw.letters
  | n, p, hp, hn => by
    by_cases e : p = Bw.last ws
    · rw [e, Bw.rest_last]; intro c hc; cases hc
    · obtain ⟨pre, c0, post, hL, hm, h1, -, -⟩ := Bw.rest_head hw hp e
      have := Bw.rem_lt hm
      cases n with
      | zero => omega
      | succ n =>
        rw [h1]
        intro c hc
        rcases List.mem_cons.1 hc with rfl | hc
        · rw [hL]; simp
        · exact rest_letters hw n _ (Bw.mv_lt ws p c0 hp) (by omega) c hc
theorem cvB_less {ws : List Bw.Word} (hw : okWs ws = true) {s : List UInt8} (hs : s.length < (Bw.rest ws 0).1.length) (hl : ∀ c ∈ s, c ∈ Bw.letters) : cvB s ws = false := by
  obtain ⟨-, -, -, hW⟩ := okWs_iff.1 hw
  unfold cvB
  rw [Bool.and_eq_false_iff]
  right
  rw [decide_eq_false_iff_not]
  intro h
  have := Bw.rest_least hW s 0 (Bw.sz_pos ws) hl h
  omega
theorem ble_leq : ∀ {s t : List UInt8}, s.length = t.length → Bw.ble s t → (Op.bytesLess s t || s == t) = true
  | [], [], _, _ => by simp
  | a :: s, b :: t, hl, h => by
    have ih := fun h => ble_leq (s := s) (t := t) (by simpa using hl) h
    rcases h with h | ⟨rfl, h⟩
    · simp [Op.bytesLess, h]
    · have := ih h
      simp [Op.bytesLess] at this ⊢
      exact this

theorem slice_to (l : List UInt8) {k : Nat} (hk : k ≤ l.length) (W : World) : (Instr.slice 9 (.string ⟨l.toArray⟩) none (some (.int .i64 (k : Int))) none).run Tryd.prog W = .ok (.string ⟨(l.take k).toArray⟩) W := by
  have hz : (⟨l.toArray⟩ : ByteArray).size = l.length := rfl
  rw [run_slice_string_h (ht := Tryd.underlying9) (h0 := by omega) (h2 := by rw [hz]; omega), extract_bytes]
  simp
theorem slice_from (l : List UInt8) {k : Nat} (hk : k ≤ l.length) (W : World) : (Instr.slice 9 (.string ⟨l.toArray⟩) (some (.int .i64 (k : Int))) none none).run Tryd.prog W = .ok (.string ⟨(l.drop k).toArray⟩) W := by
  have hz : (⟨l.toArray⟩ : ByteArray).size = l.length := rfl
  rw [run_slice_string_l (ht := Tryd.underlying9) (h0 := by omega) (h1 := by rw [hz]; omega), extract_bytes, hz]
  have : ((k : Int)).toNat = k := by omega
  rw [this, List.take_of_length_le (by simp)]
theorem app_bytes (s t : List UInt8) : (⟨s.toArray⟩ : ByteArray) ++ ⟨t.toArray⟩ = ⟨(s ++ t).toArray⟩ := by
  apply ByteArray.ext
  simp [ByteArray.data_append]

set_option maxHeartbeats 4000000 in
set_option maxRecDepth 100000 in
theorem bathTight_walk (s : List UInt8) (ws : List Bw.Word) (V : Value) (W : World) (hV : Sl W V ws) (hs : Sm ws) (hl : s.length ≤ 9223372036854775807) :
    Calls Tryd.prog 6 #[V, .string ⟨s.toArray⟩] W fun e W' => e = .returned (.bool true) ∧ Ext W W' := by
  have c1 := fun X h => shortest_any ws V X h hs
  have c2 := fun X h => covers_any s ws V X h hs hl
  have HV := Lib.hid hV
  obtain ⟨A, c, rfl, hac, hcm, -⟩ := hV
  cases hw : okWs ws
  · have h1 : shS ws = [] := by unfold shS; rw [hw]; rfl
    have h2 : shE ws = 2 := by unfold shE; rw [hw]; rfl
    rw [h1, h2] at c1
    have C1 := Lib.hid c1
    clear c1 c2 h1 h2 hw hs hl
    go_enter Tryd.func6, Tryd.ntmps6
    go_wp2_with fail
    refine (C1.out _ HV.out).mono ?_
    rintro e w1 ⟨rfl, hx⟩
    have HX := Lib.hid hx; clear hx
    go_wp2_with fail
    refine (awake_any _).mono ?_
    rintro e w3 ⟨rfl, hx⟩
    replace HX := Lib.hid (HX.out.trans hx); clear hx
    go_wp2
    go_ret
    exact ⟨rfl, HX.out⟩
  · have h1 : shS ws = (Bw.rest ws 0).1 := by unfold shS; rw [if_pos hw]
    have h2 : shE ws = 0 := by unfold shE; rw [if_pos hw]
    obtain ⟨-, h4, h8, hW⟩ := okWs_iff.1 hw
    have hlet := rest_letters hW _ 0 (Bw.sz_pos ws) (Nat.le_refl _)
    have hlen : (Bw.rest ws 0).1.length ≤ 32 := Nat.le_trans (Bw.rest_len hW _ 0 (Bw.sz_pos ws) (Nat.le_refl _)) (Bw.rem_zero_le ws h4 h8 0)
    rw [h1, h2] at c1
    have hck : ∀ k, k < (Bw.rest ws 0).1.length → ∀ X, Sl X (.slice A ws.length c) ws → Calls Tryd.prog 15 #[.string ⟨((Bw.rest ws 0).1.take k ++ (Bw.rest ws 0).1.drop (k + 1)).toArray⟩, .slice A ws.length c] X fun e W' => e = .returned (.tuple #[.bool false, .int .i64 0]) ∧ Ext X W' := fun k hk X hX => by
      have hl2 : ((Bw.rest ws 0).1.take k ++ (Bw.rest ws 0).1.drop (k + 1)).length < (Bw.rest ws 0).1.length := by simp; omega
      have hm2 : ∀ c ∈ (Bw.rest ws 0).1.take k ++ (Bw.rest ws 0).1.drop (k + 1), c ∈ Bw.letters := fun c hc => by
        rcases List.mem_append.1 hc with h | h
        · exact hlet c (List.mem_of_mem_take h)
        · exact hlet c (List.mem_of_mem_drop h)
      have hcv := covers_any ((Bw.rest ws 0).1.take k ++ (Bw.rest ws 0).1.drop (k + 1)) ws _ X hX hs (by omega)
      have e1 := cvB_less hw hl2 hm2
      have e2 : cvE ((Bw.rest ws 0).1.take k ++ (Bw.rest ws 0).1.drop (k + 1)) ws = 0 := by
        unfold cvE okT
        rw [if_pos]
        rw [hw, decide_eq_true (by omega), okL_iff.2 hm2]; rfl
      rw [e1, e2] at hcv
      exact hcv
    have hfin : cvB s ws = true → cvE s ws = 0 → (Bw.rest ws 0).1.length ≤ s.length ∧ ((Bw.rest ws 0).1.length = s.length → (Op.bytesLess (⟨(Bw.rest ws 0).1.toArray⟩ : ByteArray).toList (⟨s.toArray⟩ : ByteArray).toList || (⟨(Bw.rest ws 0).1.toArray⟩ : ByteArray).toList == (⟨s.toArray⟩ : ByteArray).toList) = true) := fun hb _ => by
      unfold cvB okT at hb
      simp only [Bool.and_eq_true, decide_eq_true_eq] at hb
      obtain ⟨⟨-, -, hsl⟩, hrun⟩ := hb
      have hsl := okL_iff.1 hsl
      refine ⟨Bw.rest_least hW s 0 (Bw.sz_pos ws) hsl hrun, fun he => ?_⟩
      have hbl := Bw.rest_first hW s 0 (Bw.sz_pos ws) hsl hrun he.symm
      have := ble_leq he hbl
      simpa [Lib.toList_data] using this
    obtain ⟨t, ht⟩ : ∃ t, t = (Bw.rest ws 0).1 := ⟨_, rfl⟩
    rw [← ht] at c1 hck hfin hlen
    have C1 := Lib.hid c1; have CK0 := Lib.hid hck; have HF := Lib.hid hfin
    generalize cvB s ws = cb at c2 HF
    generalize cvE s ws = ce at c2 HF
    have C2 := Lib.hid c2
    clear c1 c2 h1 h2 hw hs hl ht hck hfin hlet h4 h8 hW
    go_enter Tryd.func6, Tryd.ntmps6
    go_wp2_with fail
    refine (C1.out _ HV.out).mono ?_
    rintro e w1 ⟨rfl, hx⟩
    have HX := Lib.hid hx; clear hx
    go_wp2_with fail
    go_loopw [25] (fun i wr => ∃ k : Nat, i = .int .i64 k ∧ k ≤ t.length ∧ Hid (Ext W wr)) (fun i _ => t.length - (intOf i).toNat)
    case atStart => exact ⟨0, rfl, Nat.zero_le _, HX⟩
    case round =>
      clear HX
      obtain ⟨k, rfl, hk, hin⟩ := hrel
      by_cases hlt : k < t.length
      · have CK := Lib.hid (CK0.out k hlt)
        have hkl : k < t.length := hlt
        go_upto_region 7 with fail
        refine wp_region_noPanic ?_
        refine wp_region_held_drew (S := fun X => Ext wr X) (by kernel_rfl) (Ext.drw (Ext.refl _)) (fun _ => ?_)
        refine take_at 0 (some 29) (.string ⟨(t).toArray⟩) rfl rfl (by kernel_rfl) (by kernel_rfl) (by kernel_rfl) (fun _ _ _ h => h) (Or.inl ⟨by rfl, fun w' hSw => ?_⟩) (Ext.drw (Ext.refl _)) ?_
        · skip
          try clear hSw
          go_simp
          all_goals (with_reducible rfl)
        try simp only [Act.put, List.setIfInBounds_toArray, List.set_cons_zero, List.set_cons_succ]
        refine take_at 1 (some 30) (.int .i64 k) rfl rfl (by kernel_rfl) (by kernel_rfl) (by kernel_rfl) (fun _ _ _ h => h) (Or.inl ⟨by rfl, fun w' hSw => ?_⟩) (Ext.drw (Ext.refl _)) ?_
        · skip
          try clear hSw
          go_simp
          all_goals (with_reducible rfl)
        try simp only [Act.put, List.setIfInBounds_toArray, List.set_cons_zero, List.set_cons_succ]
        refine take_at 2 (some 31) (.string ⟨(t.take k).toArray⟩) rfl rfl (by kernel_rfl) (by kernel_rfl) (by kernel_rfl) (fun _ _ _ h => h) (Or.inl ⟨by rfl, fun w' hSw => ?_⟩) (Ext.drw (Ext.refl _)) ?_
        · have hx9 := fun W => slice_to t (k := k) (by omega) W
          try clear hSw
          go_simp
          all_goals (with_reducible rfl)
        try simp only [Act.put, List.setIfInBounds_toArray, List.set_cons_zero, List.set_cons_succ]
        refine take_at 3 (some 32) (.string ⟨(t).toArray⟩) rfl rfl (by kernel_rfl) (by kernel_rfl) (by kernel_rfl) (fun _ _ _ h => h) (Or.inl ⟨by rfl, fun w' hSw => ?_⟩) (Ext.drw (Ext.refl _)) ?_
        · skip
          try clear hSw
          go_simp
          all_goals (with_reducible rfl)
        try simp only [Act.put, List.setIfInBounds_toArray, List.set_cons_zero, List.set_cons_succ]
        refine take_at 4 (some 33) (.int .i64 k) rfl rfl (by kernel_rfl) (by kernel_rfl) (by kernel_rfl) (fun _ _ _ h => h) (Or.inl ⟨by rfl, fun w' hSw => ?_⟩) (Ext.drw (Ext.refl _)) ?_
        · skip
          try clear hSw
          go_simp
          all_goals (with_reducible rfl)
        try simp only [Act.put, List.setIfInBounds_toArray, List.set_cons_zero, List.set_cons_succ]
        refine take_at 5 (some 34) (.int .i64 ((k : Int) + 1)) rfl rfl (by kernel_rfl) (by kernel_rfl) (by kernel_rfl) (fun _ _ _ h => h) (Or.inl ⟨by rfl, fun w' hSw => ?_⟩) (Ext.drw (Ext.refl _)) ?_
        · skip
          try clear hSw
          go_simp
          all_goals (first | (with_reducible rfl) | exact IntWalk.i64_in _ (by omega))
        try simp only [Act.put, List.setIfInBounds_toArray, List.set_cons_zero, List.set_cons_succ]
        refine take_at 6 (some 35) (.string ⟨(t.drop (k + 1)).toArray⟩) rfl rfl (by kernel_rfl) (by kernel_rfl) (by kernel_rfl) (fun _ _ _ h => h) (Or.inl ⟨by rfl, fun w' hSw => ?_⟩) (Ext.drw (Ext.refl _)) ?_
        · have hx9 : ∀ W, (Instr.slice 9 (.string ⟨t.toArray⟩) (some (.int .i64 ((k : Int) + 1))) none none).run Tryd.prog W = .ok (.string ⟨(t.drop (k + 1)).toArray⟩) W := fun W => slice_from t (k := k + 1) (by omega) W
          try clear hSw
          go_simp
          all_goals (first | (with_reducible rfl) | omega)
        try simp only [Act.put, List.setIfInBounds_toArray, List.set_cons_zero, List.set_cons_succ]
        refine take_at 7 (some 36) (.string ⟨(t.take k ++ t.drop (k + 1)).toArray⟩) rfl rfl (by kernel_rfl) (by kernel_rfl) (by kernel_rfl) (fun _ _ _ h => h) (Or.inl ⟨by rfl, fun w' hSw => ?_⟩) (Ext.drw (Ext.refl _)) ?_
        · have hx8 := app_bytes (t.take k) (t.drop (k + 1))
          have hz8 : (t.take k).length ≤ 40 := by simp; omega
          have hz9 : (t.drop (k + 1)).length ≤ 40 := by simp; omega
          try clear hSw
          go_simp
          all_goals (first | (with_reducible rfl) | omega)
        try simp only [Act.put, List.setIfInBounds_toArray, List.set_cons_zero, List.set_cons_succ]
        refine take_at 8 (some 37) (.slice A ws.length c) rfl rfl (by kernel_rfl) (by kernel_rfl) (by kernel_rfl) (fun _ _ _ h => h) (Or.inl ⟨by rfl, fun w' hSw => ?_⟩) (Ext.drw (Ext.refl _)) ?_
        · skip
          try clear hSw
          go_simp
          all_goals (with_reducible rfl)
        try simp only [Act.put, List.setIfInBounds_toArray, List.set_cons_zero, List.set_cons_succ]
        refine wpAnyH_ready (rs := [9]) (by kernel_rfl) (by simp) ?_
        refine AllReadyH.cons rfl (fun K hK => ?_) AllReadyH.nil
        go_simp
        refine (CK.out wr.drew (HV.out.ext (hin.out.drw))).mono ?_
        rintro e v9 ⟨rfl, hb9⟩
        have e9 : Ext wr v9 := (Ext.drw (Ext.refl _)).trans hb9
        try go_wp2_with fail
        refine hK.out _ _ e9 (fun _ => ?_)
        clear hK K
        try simp only [Act.put, List.setIfInBounds_toArray, List.set_cons_zero, List.set_cons_succ]
        refine take_at 10 (some 28) (.tuple #[.bool false, .int .i64 0]) rfl rfl (by kernel_rfl) (by kernel_rfl) (by kernel_rfl) (fun _ _ _ h => h) (Or.inl ⟨by rfl, fun w' hSw => ?_⟩) (e9) ?_
        · skip
          try clear hSw
          go_simp
          all_goals (with_reducible rfl)
        try simp only [Act.put, List.setIfInBounds_toArray, List.set_cons_zero, List.set_cons_succ]
        refine take_at 11 (some 39) (.bool false) rfl rfl (by kernel_rfl) (by kernel_rfl) (by kernel_rfl) (fun _ _ _ h => h) (Or.inl ⟨by rfl, fun w' hSw => ?_⟩) (e9) ?_
        · skip
          try clear hSw
          go_simp
          all_goals (with_reducible rfl)
        try simp only [Act.put, List.setIfInBounds_toArray, List.set_cons_zero, List.set_cons_succ]
        refine take_at 12 (some 40) (.int .i64 0) rfl rfl (by kernel_rfl) (by kernel_rfl) (by kernel_rfl) (fun _ _ _ h => h) (Or.inl ⟨by rfl, fun w' hSw => ?_⟩) (e9) ?_
        · skip
          try clear hSw
          go_simp
          all_goals (with_reducible rfl)
        try simp only [Act.put, List.setIfInBounds_toArray, List.set_cons_zero, List.set_cons_succ]
        refine take_at 13 (some 8) (.bool false) rfl rfl (by kernel_rfl) (by kernel_rfl) (by kernel_rfl) (fun _ _ _ h => h) (Or.inl ⟨by rfl, fun w' hSw => ?_⟩) (e9) ?_
        · skip
          try clear hSw
          go_simp
          all_goals (with_reducible rfl)
        try simp only [Act.put, List.setIfInBounds_toArray, List.set_cons_zero, List.set_cons_succ]
        refine take_at 14 (some 9) (.int .i64 0) rfl rfl (by kernel_rfl) (by kernel_rfl) (by kernel_rfl) (fun _ _ _ h => h) (Or.inl ⟨by rfl, fun w' hSw => ?_⟩) (e9) ?_
        · skip
          try clear hSw
          go_simp
          all_goals (with_reducible rfl)
        try simp only [Act.put, List.setIfInBounds_toArray, List.set_cons_zero, List.set_cons_succ]
        refine wpAnyH_done (by kernel_rfl) ?_ _
        refine NoPanic.normal ?_
        have hin2 := Lib.hid (hin.out.trans e9)
        clear hb9 e9
        go_wp2
        go_roundw
        case rel => exact ⟨k + 1, by go_num, by omega, hin2⟩
        case measure => simp [intOf]; omega
      · obtain rfl : k = t.length := by omega
        go_wp2_with fail
        refine (C2.out _ (HV.out.ext hin.out)).mono ?_
        rintro e w5 ⟨rfl, hx⟩
        have HX := Lib.hid (hin.out.trans hx); clear hx
        have hnl : ¬ ((t.length : Nat) : Int) < (t.length : Int) := by omega
        by_cases hce : ce = 0
        · have h0 : (ce != 0) = false := by rw [hce]; rfl
          cases hcb : cb
          · clear hce hcb
            go_wp2_with fail
            refine (awake_any _).mono ?_
            rintro e w6 ⟨rfl, hx⟩
            have HX2 := Lib.hid (HX.out.trans hx); clear hx
            go_wp2
            go_ret
            exact ⟨rfl, HX2.out⟩
          · obtain ⟨f1, f2⟩ := HF.out hcb hce
            by_cases hlt2 : t.length < s.length
            · have hg : (t.length : Int) < (s.length : Int) := by omega
              clear hce hcb f1 f2 hlt2
              go_wp2_with fail
              refine (awake_any _).mono ?_
              rintro e w6 ⟨rfl, hx⟩
              have HX2 := Lib.hid (HX.out.trans hx); clear hx
              go_wp2
              go_ret
              exact ⟨rfl, HX2.out⟩
            · have heq : t.length = s.length := by omega
              have hle := f2 heq
              have hg : ¬ (t.length : Int) < (s.length : Int) := by omega
              have he2 : ((s.length : Int) == (t.length : Int)) = true := by simp; omega
              have hle2 : Op.bytesLess t s = true ∨ t = s := by simpa [Lib.toList_data] using hle
              clear hce hcb f1 f2 hlt2 heq hle
              rcases hle2 with hle3 | hle3
              · go_wp2_with fail
                refine (awake_any _).mono ?_
                rintro e w6 ⟨rfl, hx⟩
                have HX2 := Lib.hid (HX.out.trans hx); clear hx
                go_wp2
                go_ret
                exact ⟨rfl, HX2.out⟩
              · subst hle3
                go_wp2_with fail
                refine (awake_any _).mono ?_
                rintro e w6 ⟨rfl, hx⟩
                have HX2 := Lib.hid (HX.out.trans hx); clear hx
                go_wp2
                go_ret
                exact ⟨rfl, HX2.out⟩
        · have h0 : (ce != 0) = true := by simpa using hce
          clear hce
          go_wp2_with fail
          refine (awake_any _).mono ?_
          rintro e w6 ⟨rfl, hx⟩
          have HX2 := Lib.hid (HX.out.trans hx); clear hx
          go_wp2
          go_ret
          exact ⟨rfl, HX2.out⟩
end Go.Proofs.YtlachbodibajlaaDoor
