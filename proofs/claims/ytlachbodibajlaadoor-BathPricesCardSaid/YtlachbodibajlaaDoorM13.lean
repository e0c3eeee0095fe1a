/- Walks: the reference's Common; the law BathCommon. -/
import Derived.Test.YtlachbodibajlaaDoorM12
import Derived.Test.YtlachbodibajlaaDoorM9
namespace Go.Proofs.YtlachbodibajlaaDoor
open Go.RowKit Go.Shelf

set_option maxHeartbeats 8000000 in
set_option maxRecDepth 100000 in
theorem commonR_any (u v : List UInt8) (W : World) (hu : u.length ≤ 9223372036854775807) (hv : v.length ≤ 9223372036854775807) :
    Calls Tryd.prog 28 #[.string ⟨u.toArray⟩, .string ⟨v.toArray⟩] W fun e W' => e = .returned (.tuple #[.string ⟨(coS u v).toArray⟩, .int .i64 (coE u v)]) ∧ Ext W W' := by
  have CU := Lib.hid fun X => wordR_any u X hu
  have CV := Lib.hid fun X => wordR_any v X hv
  clear hu hv
  go_enter Tryd.func28, Tryd.ntmps28
  go_wp2_with fail
  refine (CU.out _).mono ?_
  rintro e w1 ⟨rfl, hx⟩
  have HX := Lib.hid hx
  clear hx
  cases hou : okWd u
  · have h1 : coS u v = [] := by unfold coS; rw [hou]; rfl
    have h2 : coE u v = 2 := by unfold coE; rw [hou]; rfl
    have H12 := Lib.hid (And.intro h1 h2)
    clear h1 h2 hou
    go_wp2
    refine bodyPost_ret (v := .tuple #[.string ⟨#[]⟩, .int .i64 2]) (by simp [results, Tryd.results28, go_sem]) rfl ?_
    exact ⟨by rw [H12.out.1, H12.out.2], HX.out⟩
  have HOU := Lib.hid hou
  clear hou
  go_wp2_with fail
  refine (CV.out _).mono ?_
  rintro e w1 ⟨rfl, hx⟩
  replace HX := Lib.hid (HX.out.trans hx)
  clear hx
  cases hov : okWd v
  · have h1 : coS u v = [] := by unfold coS; rw [HOU.out, hov]; rfl
    have h2 : coE u v = 2 := by unfold coE; rw [HOU.out, hov]; rfl
    have H12 := Lib.hid (And.intro h1 h2)
    clear h1 h2 hov
    go_wp2
    refine bodyPost_ret (v := .tuple #[.string ⟨#[]⟩, .int .i64 2]) (by simp [results, Tryd.results28, go_sem]) rfl ?_
    exact ⟨by rw [H12.out.1, H12.out.2], HX.out⟩
  have h1 : coS u v = Bw.cm u v := by unfold coS; rw [HOU.out, hov]; rfl
  have h2 : coE u v = 0 := by unfold coE; rw [HOU.out, hov]; rfl
  have H12 := Lib.hid (And.intro h1 h2)
  have hu8 := (okWd_iff.1 HOU.out).1
  have hv8 := (okWd_iff.1 hov).1
  obtain ⟨n1, hn1⟩ : ∃ a, a = u.length + 1 := ⟨_, rfl⟩
  obtain ⟨m1, hm1⟩ : ∃ a, a = v.length + 1 := ⟨_, rfl⟩
  have CT := Lib.hid fun X => tableC_any u v n1 m1 X HOU.out hov hn1 hm1
  have HNM := Lib.hid (And.intro hn1 hm1)
  have hn9 : n1 ≤ 9 := by omega
  have hm9 : m1 ≤ 9 := by omega
  clear h1 h2 hov hn1 hm1
  go_wp2_with fail
  refine (CT.out _).mono ?_
  rintro e w2 ⟨gt, f, r, rfl, hRw, hgt, hx⟩
  have HT := Lib.hid hRw
  have HX2 := Lib.hid (HX.out.trans hx)
  obtain ⟨zz, hzz⟩ : ∃ z, z = Bw.cm u v := ⟨_, rfl⟩
  have HZZ := Lib.hid hzz
  have hzl : zz.length ≤ 8 := by rw [hzz]; exact Nat.le_trans (cm_le u v) hu8
  clear hRw hgt hx hzz
  go_wp2_with fail
  go_loopw [7, 8, 9] (fun s i j wr => ∃ (t : List UInt8) (p q : Nat), s = .string ⟨t.toArray⟩ ∧ i = .int .i64 p ∧ j = .int .i64 q ∧ p ≤ u.length ∧ q ≤ v.length ∧ t.length ≤ 8 ∧ Hid (t ++ Bw.cm (u.drop p) (v.drop q) = zz) ∧ Hid (Ext w2 wr)) (fun _ i j _ => cL u v (intOf i).toNat (intOf j).toNat)
  case atStart => exact ⟨[], 0, 0, rfl, rfl, rfl, Nat.zero_le _, Nat.zero_le _, by simp, Lib.hid (by rw [HZZ.out]; simp), Lib.hid (Ext.refl _)⟩
  case round =>
    obtain ⟨t, p, q, rfl, rfl, rfl, hpu, hqv, htl, htf, hin⟩ := hrel
    have hpn : p < n1 := by have := HNM.out; omega
    have hqm : q < m1 := by have := HNM.out; omega
    obtain ⟨g1, g2, g3, g4⟩ := HT.out.2 p (Nat.zero_le _) hpn
    obtain ⟨r1, hr1⟩ : ∃ a, a = r p := ⟨_, rfl⟩
    obtain ⟨c1, hc1⟩ : ∃ a : Nat, a = cL u v p q := ⟨_, rfl⟩
    rw [← hr1] at g1 g4
    have cg1 := Bk.cell (Bk.ext HT.out.1 hin.out) hpn
    rw [g1] at cg1
    have zg := Bk.lt (Bk.ext HT.out.1 hin.out)
    have cr1 := Bk.cell (Bk.ext g4 hin.out) hqm
    dsimp only at cr1
    rw [← hc1] at cr1
    have zr1 := Bk.lt (Bk.ext g4 hin.out)
    have hc8 : c1 ≤ 8 := by rw [hc1]; have := cL_le u v p q; omega
    have HC1 := Lib.hid hc1
    have HR1 : Hid (BI w2 r1 m1 (fun j => (cL u v p j : Nat)) ∧ f p = .slice (some ⟨r1, 0, none⟩) m1 m1) := Lib.hid ⟨g4, g1⟩
    clear g1 g2 g3 g4 hr1 hc1
    by_cases h0 : 0 < c1
    · go_wp2_with fail
      go_loopw [7, 8, 9, 32] (fun s i j kk wr' => s = .string ⟨t.toArray⟩ ∧ i = .int .i64 p ∧ j = .int .i64 q ∧ ∃ k : Nat, kk = .int .i64 k ∧ k ≤ 8 ∧ Hid (∀ j' d, j' < k → Bw.letters[j']? = some d → ¬ Bw.gd (u.drop p) (v.drop q) d) ∧ Hid (Ext w2 wr')) (fun _ _ _ kk _ => 8 - (intOf kk).toNat)
      case atStart => exact ⟨rfl, rfl, rfl, 0, rfl, by omega, Lib.hid (fun j d hj => by omega), hin⟩
      case round =>
        obtain ⟨rfl, rfl, rfl, k, rfl, hk, hno, hin2⟩ := hrel
        clear cg1 zg cr1 zr1
        by_cases hlt : k < 8
        · have hidx := letters_idx hlt hlt
          obtain ⟨A, hA⟩ : ∃ A, A = ix (u.drop p) (lt k) := ⟨_, rfl⟩
          obtain ⟨B, hB⟩ : ∃ B, B = ix (v.drop q) (lt k) := ⟨_, rfl⟩
          have CA := Lib.hid (ix_any (u.drop p) (lt k))
          have CB := Lib.hid (ix_any (v.drop q) (lt k))
          rw [← hA] at CA
          rw [← hB] at CB
          have HAB := Lib.hid (And.intro hA hB)
          clear hA hB
          go_upto_region 10 with fail
          refine wp_region_noPanic ?_
          refine wp_region_held_drew (S := fun X => Ext wr X) (by kernel_rfl) (Ext.drw (Ext.refl _)) (fun _ => ?_)
          refine take_at 0 (some 35) (.string ⟨(u).toArray⟩) rfl rfl (by kernel_rfl) (by kernel_rfl) (by kernel_rfl) (fun _ _ _ h => h) (Or.inl ⟨by rfl, fun w' hSw => ?_⟩) (Ext.drw (Ext.refl _)) ?_
          · skip
            try clear hSw
            go_simp
            all_goals (with_reducible rfl)
          try simp only [Act.put, List.setIfInBounds_toArray, List.set_cons_zero, List.set_cons_succ]
          refine take_at 1 (some 36) (.int .i64 (p : Nat)) rfl rfl (by kernel_rfl) (by kernel_rfl) (by kernel_rfl) (fun _ _ _ h => h) (Or.inl ⟨by rfl, fun w' hSw => ?_⟩) (Ext.drw (Ext.refl _)) ?_
          · skip
            try clear hSw
            go_simp
            all_goals (with_reducible rfl)
          try simp only [Act.put, List.setIfInBounds_toArray, List.set_cons_zero, List.set_cons_succ]
          refine take_at 2 (some 37) (.string ⟨(u.drop p).toArray⟩) rfl rfl (by kernel_rfl) (by kernel_rfl) (by kernel_rfl) (fun _ _ _ h => h) (Or.inl ⟨by rfl, fun w' hSw => ?_⟩) (Ext.drw (Ext.refl _)) ?_
          · have hx9 := fun W => slice_from u (k := p) hpu W
            try clear hSw
            go_simp
            all_goals (with_reducible rfl)
          try simp only [Act.put, List.setIfInBounds_toArray, List.set_cons_zero, List.set_cons_succ]
          refine take_at 3 (some 38) (.int .i64 k) rfl rfl (by kernel_rfl) (by kernel_rfl) (by kernel_rfl) (fun _ _ _ h => h) (Or.inl ⟨by rfl, fun w' hSw => ?_⟩) (Ext.drw (Ext.refl _)) ?_
          · skip
            try clear hSw
            go_simp
            all_goals (with_reducible rfl)
          try simp only [Act.put, List.setIfInBounds_toArray, List.set_cons_zero, List.set_cons_succ]
          refine take_at 4 (some 39) (.int .u8 ((lt k).toNat : Nat)) rfl rfl (by kernel_rfl) (by kernel_rfl) (by kernel_rfl) (fun _ _ _ h => h) (Or.inl ⟨by rfl, fun w' hSw => ?_⟩) (Ext.drw (Ext.refl _)) ?_
          · skip
            try clear hSw
            go_simp
            all_goals (with_reducible rfl)
          try simp only [Act.put, List.setIfInBounds_toArray, List.set_cons_zero, List.set_cons_succ]
          refine take_at 6 (some 41) (.string ⟨(v).toArray⟩) rfl rfl (by kernel_rfl) (by kernel_rfl) (by kernel_rfl) (fun _ _ _ h => h) (Or.inl ⟨by rfl, fun w' hSw => ?_⟩) (Ext.drw (Ext.refl _)) ?_
          · skip
            try clear hSw
            go_simp
            all_goals (with_reducible rfl)
          try simp only [Act.put, List.setIfInBounds_toArray, List.set_cons_zero, List.set_cons_succ]
          refine take_at 7 (some 42) (.int .i64 (q : Nat)) rfl rfl (by kernel_rfl) (by kernel_rfl) (by kernel_rfl) (fun _ _ _ h => h) (Or.inl ⟨by rfl, fun w' hSw => ?_⟩) (Ext.drw (Ext.refl _)) ?_
          · skip
            try clear hSw
            go_simp
            all_goals (with_reducible rfl)
          try simp only [Act.put, List.setIfInBounds_toArray, List.set_cons_zero, List.set_cons_succ]
          refine take_at 8 (some 43) (.string ⟨(v.drop q).toArray⟩) rfl rfl (by kernel_rfl) (by kernel_rfl) (by kernel_rfl) (fun _ _ _ h => h) (Or.inl ⟨by rfl, fun w' hSw => ?_⟩) (Ext.drw (Ext.refl _)) ?_
          · have hx9 := fun W => slice_from v (k := q) hqv W
            try clear hSw
            go_simp
            all_goals (with_reducible rfl)
          try simp only [Act.put, List.setIfInBounds_toArray, List.set_cons_zero, List.set_cons_succ]
          refine take_at 9 (some 44) (.int .i64 k) rfl rfl (by kernel_rfl) (by kernel_rfl) (by kernel_rfl) (fun _ _ _ h => h) (Or.inl ⟨by rfl, fun w' hSw => ?_⟩) (Ext.drw (Ext.refl _)) ?_
          · skip
            try clear hSw
            go_simp
            all_goals (with_reducible rfl)
          try simp only [Act.put, List.setIfInBounds_toArray, List.set_cons_zero, List.set_cons_succ]
          refine take_at 10 (some 45) (.int .u8 ((lt k).toNat : Nat)) rfl rfl (by kernel_rfl) (by kernel_rfl) (by kernel_rfl) (fun _ _ _ h => h) (Or.inl ⟨by rfl, fun w' hSw => ?_⟩) (Ext.drw (Ext.refl _)) ?_
          · skip
            try clear hSw
            go_simp
            all_goals (with_reducible rfl)
          try simp only [Act.put, List.setIfInBounds_toArray, List.set_cons_zero, List.set_cons_succ]
          refine wpAnyH_ready (rs := [5]) (by kernel_rfl) (by simp) ?_
          refine AllReadyH.cons rfl (fun K hK => ?_) AllReadyH.nil
          go_simp
          refine (CA.out _).mono ?_
          rintro e v5 ⟨rfl, hb5⟩
          have e5 : Ext wr v5 := (Ext.drw (Ext.refl _)).trans hb5
          try go_wp2_with fail
          refine hK.out _ _ e5 (fun _ => ?_)
          clear hK K
          try simp only [Act.put, List.setIfInBounds_toArray, List.set_cons_zero, List.set_cons_succ]
          refine wpAnyH_ready (rs := [11]) (by kernel_rfl) (by simp) ?_
          refine AllReadyH.cons rfl (fun K hK => ?_) AllReadyH.nil
          go_simp
          refine (CB.out _).mono ?_
          rintro e v11 ⟨rfl, hb11⟩
          have e11 : Ext wr v11 := (e5).trans hb11
          try go_wp2_with fail
          refine hK.out _ _ e11 (fun _ => ?_)
          clear hK K
          try simp only [Act.put, List.setIfInBounds_toArray, List.set_cons_zero, List.set_cons_succ]
          refine take_at 12 (some 11) (.int .i64 A) rfl rfl (by kernel_rfl) (by kernel_rfl) (by kernel_rfl) (fun _ _ _ h => h) (Or.inl ⟨by rfl, fun w' hSw => ?_⟩) (e11) ?_
          · skip
            try clear hSw
            go_simp
            all_goals (with_reducible rfl)
          try simp only [Act.put, List.setIfInBounds_toArray, List.set_cons_zero, List.set_cons_succ]
          refine take_at 13 (some 12) (.int .i64 B) rfl rfl (by kernel_rfl) (by kernel_rfl) (by kernel_rfl) (fun _ _ _ h => h) (Or.inl ⟨by rfl, fun w' hSw => ?_⟩) (e11) ?_
          · skip
            try clear hSw
            go_simp
            all_goals (with_reducible rfl)
          try simp only [Act.put, List.setIfInBounds_toArray, List.set_cons_zero, List.set_cons_succ]
          refine wpAnyH_done (by kernel_rfl) ?_ _
          refine NoPanic.normal ?_
          have hin3 := Lib.hid (hin2.out.trans e11)
          generalize v11 = wa at *
          clear hb5 hb11 e5 e11
          clear hidx
          have hnx : (¬ Bw.gd (u.drop p) (v.drop q) (lt k)) → ∀ j' d, j' < k + 1 → Bw.letters[j']? = some d → ¬ Bw.gd (u.drop p) (v.drop q) d := fun hn j' d hj hd => by
            by_cases e : j' = k
            · subst e; rw [lt_get hlt] at hd; injection hd with hd; subst hd; exact hn
            · exact hno.out j' d (by omega) hd
          have HNX := Lib.hid hnx
          clear hnx
          cases hfa : Bw.fi (u.drop p) (lt k) with
          | none =>
            have hAv : A = -1 := by rw [HAB.out.1]; unfold ix; rw [hfa]
            have HN := Lib.hid (HNX.out (fun h => by obtain ⟨i, j, h1, -⟩ := h; rw [hfa] at h1; cases h1))
            subst hAv
            clear hfa
            go_upto_region 11 with fail
            refine wp_region_noPanic ?_
            refine wp_region_held_drew (S := fun X => Ext wa X) (by kernel_rfl) (Ext.drw (Ext.refl _)) (fun _ => ?_)
            refine take_at 0 (some 47) (.int .i64 (-1)) rfl rfl (by kernel_rfl) (by kernel_rfl) (by kernel_rfl) (fun _ _ _ h => h) (Or.inl ⟨by rfl, fun w' hSw => ?_⟩) (Ext.drw (Ext.refl _)) ?_
            · skip
              try clear hSw
              go_simp
              all_goals (with_reducible rfl)
            try simp only [Act.put, List.setIfInBounds_toArray, List.set_cons_zero, List.set_cons_succ]
            refine take_at 1 (some 48) (.bool false) rfl rfl (by kernel_rfl) (by kernel_rfl) (by kernel_rfl) (fun _ _ _ h => h) (Or.inl ⟨by rfl, fun w' hSw => ?_⟩) (Ext.drw (Ext.refl _)) ?_
            · skip
              try clear hSw
              go_simp
              all_goals (with_reducible rfl)
            try simp only [Act.put, List.setIfInBounds_toArray, List.set_cons_zero, List.set_cons_succ]
            refine take_at 2 (some 49) (.bool false) rfl rfl (by kernel_rfl) (by kernel_rfl) (by kernel_rfl) (fun _ _ _ h => h) (Or.inl ⟨by rfl, fun w' hSw => ?_⟩) (Ext.drw (Ext.refl _)) ?_
            · skip
              try clear hSw
              go_simp
              all_goals (with_reducible rfl)
            try simp only [Act.put, List.setIfInBounds_toArray, List.set_cons_zero, List.set_cons_succ]
            refine take_at 3 (some 50) undef rfl rfl (by kernel_rfl) (by kernel_rfl) (by kernel_rfl) (fun _ _ _ h => h) (Or.inr ⟨by rfl, rfl⟩) (Ext.drw (Ext.refl _)) ?_
            try simp only [Act.put, List.setIfInBounds_toArray, List.set_cons_zero, List.set_cons_succ]
            refine take_at 4 (some 51) undef rfl rfl (by kernel_rfl) (by kernel_rfl) (by kernel_rfl) (fun _ _ _ h => h) (Or.inr ⟨by rfl, rfl⟩) (Ext.drw (Ext.refl _)) ?_
            try simp only [Act.put, List.setIfInBounds_toArray, List.set_cons_zero, List.set_cons_succ]
            refine take_at 5 (some 52) (.bool false) rfl rfl (by kernel_rfl) (by kernel_rfl) (by kernel_rfl) (fun _ _ _ h => h) (Or.inl ⟨by rfl, fun w' hSw => ?_⟩) (Ext.drw (Ext.refl _)) ?_
            · skip
              try clear hSw
              go_simp
              all_goals (with_reducible rfl)
            try simp only [Act.put, List.setIfInBounds_toArray, List.set_cons_zero, List.set_cons_succ]
            refine take_at 6 (some 53) (.bool false) rfl rfl (by kernel_rfl) (by kernel_rfl) (by kernel_rfl) (fun _ _ _ h => h) (Or.inl ⟨by rfl, fun w' hSw => ?_⟩) (Ext.drw (Ext.refl _)) ?_
            · skip
              try clear hSw
              go_simp
              all_goals (with_reducible rfl)
            try simp only [Act.put, List.setIfInBounds_toArray, List.set_cons_zero, List.set_cons_succ]
            refine take_at 7 (some 54) undef rfl rfl (by kernel_rfl) (by kernel_rfl) (by kernel_rfl) (fun _ _ _ h => h) (Or.inr ⟨by rfl, rfl⟩) (Ext.drw (Ext.refl _)) ?_
            try simp only [Act.put, List.setIfInBounds_toArray, List.set_cons_zero, List.set_cons_succ]
            refine take_at 8 (some 55) undef rfl rfl (by kernel_rfl) (by kernel_rfl) (by kernel_rfl) (fun _ _ _ h => h) (Or.inr ⟨by rfl, rfl⟩) (Ext.drw (Ext.refl _)) ?_
            try simp only [Act.put, List.setIfInBounds_toArray, List.set_cons_zero, List.set_cons_succ]
            refine take_at 9 (some 56) undef rfl rfl (by kernel_rfl) (by kernel_rfl) (by kernel_rfl) (fun _ _ _ h => h) (Or.inr ⟨by rfl, rfl⟩) (Ext.drw (Ext.refl _)) ?_
            try simp only [Act.put, List.setIfInBounds_toArray, List.set_cons_zero, List.set_cons_succ]
            refine take_at 10 (some 57) undef rfl rfl (by kernel_rfl) (by kernel_rfl) (by kernel_rfl) (fun _ _ _ h => h) (Or.inr ⟨by rfl, rfl⟩) (Ext.drw (Ext.refl _)) ?_
            try simp only [Act.put, List.setIfInBounds_toArray, List.set_cons_zero, List.set_cons_succ]
            refine take_at 11 (some 58) undef rfl rfl (by kernel_rfl) (by kernel_rfl) (by kernel_rfl) (fun _ _ _ h => h) (Or.inr ⟨by rfl, rfl⟩) (Ext.drw (Ext.refl _)) ?_
            try simp only [Act.put, List.setIfInBounds_toArray, List.set_cons_zero, List.set_cons_succ]
            refine take_at 12 (some 59) undef rfl rfl (by kernel_rfl) (by kernel_rfl) (by kernel_rfl) (fun _ _ _ h => h) (Or.inr ⟨by rfl, rfl⟩) (Ext.drw (Ext.refl _)) ?_
            try simp only [Act.put, List.setIfInBounds_toArray, List.set_cons_zero, List.set_cons_succ]
            refine take_at 13 (some 60) undef rfl rfl (by kernel_rfl) (by kernel_rfl) (by kernel_rfl) (fun _ _ _ h => h) (Or.inr ⟨by rfl, rfl⟩) (Ext.drw (Ext.refl _)) ?_
            try simp only [Act.put, List.setIfInBounds_toArray, List.set_cons_zero, List.set_cons_succ]
            refine take_at 14 (some 61) undef rfl rfl (by kernel_rfl) (by kernel_rfl) (by kernel_rfl) (fun _ _ _ h => h) (Or.inr ⟨by rfl, rfl⟩) (Ext.drw (Ext.refl _)) ?_
            try simp only [Act.put, List.setIfInBounds_toArray, List.set_cons_zero, List.set_cons_succ]
            refine take_at 15 (some 62) undef rfl rfl (by kernel_rfl) (by kernel_rfl) (by kernel_rfl) (fun _ _ _ h => h) (Or.inr ⟨by rfl, rfl⟩) (Ext.drw (Ext.refl _)) ?_
            try simp only [Act.put, List.setIfInBounds_toArray, List.set_cons_zero, List.set_cons_succ]
            refine take_at 16 (some 63) undef rfl rfl (by kernel_rfl) (by kernel_rfl) (by kernel_rfl) (fun _ _ _ h => h) (Or.inr ⟨by rfl, rfl⟩) (Ext.drw (Ext.refl _)) ?_
            try simp only [Act.put, List.setIfInBounds_toArray, List.set_cons_zero, List.set_cons_succ]
            refine take_at 17 (some 64) undef rfl rfl (by kernel_rfl) (by kernel_rfl) (by kernel_rfl) (fun _ _ _ h => h) (Or.inr ⟨by rfl, rfl⟩) (Ext.drw (Ext.refl _)) ?_
            try simp only [Act.put, List.setIfInBounds_toArray, List.set_cons_zero, List.set_cons_succ]
            refine take_at 18 (some 65) undef rfl rfl (by kernel_rfl) (by kernel_rfl) (by kernel_rfl) (fun _ _ _ h => h) (Or.inr ⟨by rfl, rfl⟩) (Ext.drw (Ext.refl _)) ?_
            try simp only [Act.put, List.setIfInBounds_toArray, List.set_cons_zero, List.set_cons_succ]
            refine take_at 19 (some 66) undef rfl rfl (by kernel_rfl) (by kernel_rfl) (by kernel_rfl) (fun _ _ _ h => h) (Or.inr ⟨by rfl, rfl⟩) (Ext.drw (Ext.refl _)) ?_
            try simp only [Act.put, List.setIfInBounds_toArray, List.set_cons_zero, List.set_cons_succ]
            refine take_at 20 (some 67) undef rfl rfl (by kernel_rfl) (by kernel_rfl) (by kernel_rfl) (fun _ _ _ h => h) (Or.inr ⟨by rfl, rfl⟩) (Ext.drw (Ext.refl _)) ?_
            try simp only [Act.put, List.setIfInBounds_toArray, List.set_cons_zero, List.set_cons_succ]
            refine take_at 21 (some 68) undef rfl rfl (by kernel_rfl) (by kernel_rfl) (by kernel_rfl) (fun _ _ _ h => h) (Or.inr ⟨by rfl, rfl⟩) (Ext.drw (Ext.refl _)) ?_
            try simp only [Act.put, List.setIfInBounds_toArray, List.set_cons_zero, List.set_cons_succ]
            refine take_at 22 (some 69) undef rfl rfl (by kernel_rfl) (by kernel_rfl) (by kernel_rfl) (fun _ _ _ h => h) (Or.inr ⟨by rfl, rfl⟩) (Ext.drw (Ext.refl _)) ?_
            try simp only [Act.put, List.setIfInBounds_toArray, List.set_cons_zero, List.set_cons_succ]
            refine take_at 23 (some 70) undef rfl rfl (by kernel_rfl) (by kernel_rfl) (by kernel_rfl) (fun _ _ _ h => h) (Or.inr ⟨by rfl, rfl⟩) (Ext.drw (Ext.refl _)) ?_
            try simp only [Act.put, List.setIfInBounds_toArray, List.set_cons_zero, List.set_cons_succ]
            refine take_at 24 (some 71) undef rfl rfl (by kernel_rfl) (by kernel_rfl) (by kernel_rfl) (fun _ _ _ h => h) (Or.inr ⟨by rfl, rfl⟩) (Ext.drw (Ext.refl _)) ?_
            try simp only [Act.put, List.setIfInBounds_toArray, List.set_cons_zero, List.set_cons_succ]
            refine take_at 25 (some 72) undef rfl rfl (by kernel_rfl) (by kernel_rfl) (by kernel_rfl) (fun _ _ _ h => h) (Or.inr ⟨by rfl, rfl⟩) (Ext.drw (Ext.refl _)) ?_
            try simp only [Act.put, List.setIfInBounds_toArray, List.set_cons_zero, List.set_cons_succ]
            refine take_at 26 (some 73) undef rfl rfl (by kernel_rfl) (by kernel_rfl) (by kernel_rfl) (fun _ _ _ h => h) (Or.inr ⟨by rfl, rfl⟩) (Ext.drw (Ext.refl _)) ?_
            try simp only [Act.put, List.setIfInBounds_toArray, List.set_cons_zero, List.set_cons_succ]
            refine take_at 27 (some 74) undef rfl rfl (by kernel_rfl) (by kernel_rfl) (by kernel_rfl) (fun _ _ _ h => h) (Or.inr ⟨by rfl, rfl⟩) (Ext.drw (Ext.refl _)) ?_
            try simp only [Act.put, List.setIfInBounds_toArray, List.set_cons_zero, List.set_cons_succ]
            refine take_at 28 (some 75) undef rfl rfl (by kernel_rfl) (by kernel_rfl) (by kernel_rfl) (fun _ _ _ h => h) (Or.inr ⟨by rfl, rfl⟩) (Ext.drw (Ext.refl _)) ?_
            try simp only [Act.put, List.setIfInBounds_toArray, List.set_cons_zero, List.set_cons_succ]
            refine take_at 29 (some 76) (.bool false) rfl rfl (by kernel_rfl) (by kernel_rfl) (by kernel_rfl) (fun _ _ _ h => h) (Or.inl ⟨by rfl, fun w' hSw => ?_⟩) (Ext.drw (Ext.refl _)) ?_
            · skip
              try clear hSw
              go_simp
              all_goals (with_reducible rfl)
            try simp only [Act.put, List.setIfInBounds_toArray, List.set_cons_zero, List.set_cons_succ]
            refine wpAnyH_done (by kernel_rfl) ?_ _
            refine NoPanic.normal ?_
            have hin4 : Hid (Ext w2 wa.drew) := Lib.hid (hin3.out.drw)
            generalize wa.drew = wb at *
            go_wp2
            go_roundw
            case rel => exact ⟨rfl, rfl, rfl, k + 1, by go_num, by omega, HN, hin4⟩
            case measure => simp [intOf] <;> omega
          | some a =>
            have hAv : A = (a : Int) := by rw [HAB.out.1]; unfold ix; rw [hfa]
            have hal := (Bw.fi_some hfa).2
            rw [List.length_drop] at hal
            subst hAv
            have ha0 : ¬ (a : Int) < 0 := by omega
            cases hfb : Bw.fi (v.drop q) (lt k) with
            | none =>
              have hBv : B = -1 := by rw [HAB.out.2]; unfold ix; rw [hfb]
              have HN := Lib.hid (HNX.out (fun h => by obtain ⟨i, j, -, h1, -⟩ := h; rw [hfb] at h1; cases h1))
              subst hBv
              clear hfa hfb hal
              go_upto_region 11 with fail
              refine wp_region_noPanic ?_
              refine wp_region_held_drew (S := fun X => Ext wa X) (by kernel_rfl) (Ext.drw (Ext.refl _)) (fun _ => ?_)
              refine take_at 0 (some 47) (.int .i64 (a : Nat)) rfl rfl (by kernel_rfl) (by kernel_rfl) (by kernel_rfl) (fun _ _ _ h => h) (Or.inl ⟨by rfl, fun w' hSw => ?_⟩) (Ext.drw (Ext.refl _)) ?_
              · skip
                try clear hSw
                go_simp
                all_goals (with_reducible rfl)
              try simp only [Act.put, List.setIfInBounds_toArray, List.set_cons_zero, List.set_cons_succ]
              refine take_at 1 (some 48) (.bool true) rfl rfl (by kernel_rfl) (by kernel_rfl) (by kernel_rfl) (fun _ _ _ h => h) (Or.inl ⟨by rfl, fun w' hSw => ?_⟩) (Ext.drw (Ext.refl _)) ?_
              · skip
                try clear hSw
                go_simp
                all_goals (with_reducible rfl)
              try simp only [Act.put, List.setIfInBounds_toArray, List.set_cons_zero, List.set_cons_succ]
              refine take_at 2 (some 49) (.bool true) rfl rfl (by kernel_rfl) (by kernel_rfl) (by kernel_rfl) (fun _ _ _ h => h) (Or.inl ⟨by rfl, fun w' hSw => ?_⟩) (Ext.drw (Ext.refl _)) ?_
              · skip
                try clear hSw
                go_simp
                all_goals (with_reducible rfl)
              try simp only [Act.put, List.setIfInBounds_toArray, List.set_cons_zero, List.set_cons_succ]
              refine take_at 3 (some 50) (.int .i64 (-1)) rfl rfl (by kernel_rfl) (by kernel_rfl) (by kernel_rfl) (fun _ _ _ h => h) (Or.inl ⟨by rfl, fun w' hSw => ?_⟩) (Ext.drw (Ext.refl _)) ?_
              · skip
                try clear hSw
                go_simp
                all_goals (with_reducible rfl)
              try simp only [Act.put, List.setIfInBounds_toArray, List.set_cons_zero, List.set_cons_succ]
              refine take_at 4 (some 51) (.bool false) rfl rfl (by kernel_rfl) (by kernel_rfl) (by kernel_rfl) (fun _ _ _ h => h) (Or.inl ⟨by rfl, fun w' hSw => ?_⟩) (Ext.drw (Ext.refl _)) ?_
              · skip
                try clear hSw
                go_simp
                all_goals (with_reducible rfl)
              try simp only [Act.put, List.setIfInBounds_toArray, List.set_cons_zero, List.set_cons_succ]
              refine take_at 5 (some 52) (.bool false) rfl rfl (by kernel_rfl) (by kernel_rfl) (by kernel_rfl) (fun _ _ _ h => h) (Or.inl ⟨by rfl, fun w' hSw => ?_⟩) (Ext.drw (Ext.refl _)) ?_
              · skip
                try clear hSw
                go_simp
                all_goals (with_reducible rfl)
              try simp only [Act.put, List.setIfInBounds_toArray, List.set_cons_zero, List.set_cons_succ]
              refine take_at 6 (some 53) (.bool false) rfl rfl (by kernel_rfl) (by kernel_rfl) (by kernel_rfl) (fun _ _ _ h => h) (Or.inl ⟨by rfl, fun w' hSw => ?_⟩) (Ext.drw (Ext.refl _)) ?_
              · skip
                try clear hSw
                go_simp
                all_goals (with_reducible rfl)
              try simp only [Act.put, List.setIfInBounds_toArray, List.set_cons_zero, List.set_cons_succ]
              refine take_at 7 (some 54) undef rfl rfl (by kernel_rfl) (by kernel_rfl) (by kernel_rfl) (fun _ _ _ h => h) (Or.inr ⟨by rfl, rfl⟩) (Ext.drw (Ext.refl _)) ?_
              try simp only [Act.put, List.setIfInBounds_toArray, List.set_cons_zero, List.set_cons_succ]
              refine take_at 8 (some 55) undef rfl rfl (by kernel_rfl) (by kernel_rfl) (by kernel_rfl) (fun _ _ _ h => h) (Or.inr ⟨by rfl, rfl⟩) (Ext.drw (Ext.refl _)) ?_
              try simp only [Act.put, List.setIfInBounds_toArray, List.set_cons_zero, List.set_cons_succ]
              refine take_at 9 (some 56) undef rfl rfl (by kernel_rfl) (by kernel_rfl) (by kernel_rfl) (fun _ _ _ h => h) (Or.inr ⟨by rfl, rfl⟩) (Ext.drw (Ext.refl _)) ?_
              try simp only [Act.put, List.setIfInBounds_toArray, List.set_cons_zero, List.set_cons_succ]
              refine take_at 10 (some 57) undef rfl rfl (by kernel_rfl) (by kernel_rfl) (by kernel_rfl) (fun _ _ _ h => h) (Or.inr ⟨by rfl, rfl⟩) (Ext.drw (Ext.refl _)) ?_
              try simp only [Act.put, List.setIfInBounds_toArray, List.set_cons_zero, List.set_cons_succ]
              refine take_at 11 (some 58) undef rfl rfl (by kernel_rfl) (by kernel_rfl) (by kernel_rfl) (fun _ _ _ h => h) (Or.inr ⟨by rfl, rfl⟩) (Ext.drw (Ext.refl _)) ?_
              try simp only [Act.put, List.setIfInBounds_toArray, List.set_cons_zero, List.set_cons_succ]
              refine take_at 12 (some 59) undef rfl rfl (by kernel_rfl) (by kernel_rfl) (by kernel_rfl) (fun _ _ _ h => h) (Or.inr ⟨by rfl, rfl⟩) (Ext.drw (Ext.refl _)) ?_
              try simp only [Act.put, List.setIfInBounds_toArray, List.set_cons_zero, List.set_cons_succ]
              refine take_at 13 (some 60) undef rfl rfl (by kernel_rfl) (by kernel_rfl) (by kernel_rfl) (fun _ _ _ h => h) (Or.inr ⟨by rfl, rfl⟩) (Ext.drw (Ext.refl _)) ?_
              try simp only [Act.put, List.setIfInBounds_toArray, List.set_cons_zero, List.set_cons_succ]
              refine take_at 14 (some 61) undef rfl rfl (by kernel_rfl) (by kernel_rfl) (by kernel_rfl) (fun _ _ _ h => h) (Or.inr ⟨by rfl, rfl⟩) (Ext.drw (Ext.refl _)) ?_
              try simp only [Act.put, List.setIfInBounds_toArray, List.set_cons_zero, List.set_cons_succ]
              refine take_at 15 (some 62) undef rfl rfl (by kernel_rfl) (by kernel_rfl) (by kernel_rfl) (fun _ _ _ h => h) (Or.inr ⟨by rfl, rfl⟩) (Ext.drw (Ext.refl _)) ?_
              try simp only [Act.put, List.setIfInBounds_toArray, List.set_cons_zero, List.set_cons_succ]
              refine take_at 16 (some 63) undef rfl rfl (by kernel_rfl) (by kernel_rfl) (by kernel_rfl) (fun _ _ _ h => h) (Or.inr ⟨by rfl, rfl⟩) (Ext.drw (Ext.refl _)) ?_
              try simp only [Act.put, List.setIfInBounds_toArray, List.set_cons_zero, List.set_cons_succ]
              refine take_at 17 (some 64) undef rfl rfl (by kernel_rfl) (by kernel_rfl) (by kernel_rfl) (fun _ _ _ h => h) (Or.inr ⟨by rfl, rfl⟩) (Ext.drw (Ext.refl _)) ?_
              try simp only [Act.put, List.setIfInBounds_toArray, List.set_cons_zero, List.set_cons_succ]
              refine take_at 18 (some 65) undef rfl rfl (by kernel_rfl) (by kernel_rfl) (by kernel_rfl) (fun _ _ _ h => h) (Or.inr ⟨by rfl, rfl⟩) (Ext.drw (Ext.refl _)) ?_
              try simp only [Act.put, List.setIfInBounds_toArray, List.set_cons_zero, List.set_cons_succ]
              refine take_at 19 (some 66) undef rfl rfl (by kernel_rfl) (by kernel_rfl) (by kernel_rfl) (fun _ _ _ h => h) (Or.inr ⟨by rfl, rfl⟩) (Ext.drw (Ext.refl _)) ?_
              try simp only [Act.put, List.setIfInBounds_toArray, List.set_cons_zero, List.set_cons_succ]
              refine take_at 20 (some 67) undef rfl rfl (by kernel_rfl) (by kernel_rfl) (by kernel_rfl) (fun _ _ _ h => h) (Or.inr ⟨by rfl, rfl⟩) (Ext.drw (Ext.refl _)) ?_
              try simp only [Act.put, List.setIfInBounds_toArray, List.set_cons_zero, List.set_cons_succ]
              refine take_at 21 (some 68) undef rfl rfl (by kernel_rfl) (by kernel_rfl) (by kernel_rfl) (fun _ _ _ h => h) (Or.inr ⟨by rfl, rfl⟩) (Ext.drw (Ext.refl _)) ?_
              try simp only [Act.put, List.setIfInBounds_toArray, List.set_cons_zero, List.set_cons_succ]
              refine take_at 22 (some 69) undef rfl rfl (by kernel_rfl) (by kernel_rfl) (by kernel_rfl) (fun _ _ _ h => h) (Or.inr ⟨by rfl, rfl⟩) (Ext.drw (Ext.refl _)) ?_
              try simp only [Act.put, List.setIfInBounds_toArray, List.set_cons_zero, List.set_cons_succ]
              refine take_at 23 (some 70) undef rfl rfl (by kernel_rfl) (by kernel_rfl) (by kernel_rfl) (fun _ _ _ h => h) (Or.inr ⟨by rfl, rfl⟩) (Ext.drw (Ext.refl _)) ?_
              try simp only [Act.put, List.setIfInBounds_toArray, List.set_cons_zero, List.set_cons_succ]
              refine take_at 24 (some 71) undef rfl rfl (by kernel_rfl) (by kernel_rfl) (by kernel_rfl) (fun _ _ _ h => h) (Or.inr ⟨by rfl, rfl⟩) (Ext.drw (Ext.refl _)) ?_
              try simp only [Act.put, List.setIfInBounds_toArray, List.set_cons_zero, List.set_cons_succ]
              refine take_at 25 (some 72) undef rfl rfl (by kernel_rfl) (by kernel_rfl) (by kernel_rfl) (fun _ _ _ h => h) (Or.inr ⟨by rfl, rfl⟩) (Ext.drw (Ext.refl _)) ?_
              try simp only [Act.put, List.setIfInBounds_toArray, List.set_cons_zero, List.set_cons_succ]
              refine take_at 26 (some 73) undef rfl rfl (by kernel_rfl) (by kernel_rfl) (by kernel_rfl) (fun _ _ _ h => h) (Or.inr ⟨by rfl, rfl⟩) (Ext.drw (Ext.refl _)) ?_
              try simp only [Act.put, List.setIfInBounds_toArray, List.set_cons_zero, List.set_cons_succ]
              refine take_at 27 (some 74) undef rfl rfl (by kernel_rfl) (by kernel_rfl) (by kernel_rfl) (fun _ _ _ h => h) (Or.inr ⟨by rfl, rfl⟩) (Ext.drw (Ext.refl _)) ?_
              try simp only [Act.put, List.setIfInBounds_toArray, List.set_cons_zero, List.set_cons_succ]
              refine take_at 28 (some 75) undef rfl rfl (by kernel_rfl) (by kernel_rfl) (by kernel_rfl) (fun _ _ _ h => h) (Or.inr ⟨by rfl, rfl⟩) (Ext.drw (Ext.refl _)) ?_
              try simp only [Act.put, List.setIfInBounds_toArray, List.set_cons_zero, List.set_cons_succ]
              refine take_at 29 (some 76) (.bool false) rfl rfl (by kernel_rfl) (by kernel_rfl) (by kernel_rfl) (fun _ _ _ h => h) (Or.inl ⟨by rfl, fun w' hSw => ?_⟩) (Ext.drw (Ext.refl _)) ?_
              · skip
                try clear hSw
                go_simp
                all_goals (with_reducible rfl)
              try simp only [Act.put, List.setIfInBounds_toArray, List.set_cons_zero, List.set_cons_succ]
              refine wpAnyH_done (by kernel_rfl) ?_ _
              refine NoPanic.normal ?_
              have hin4 : Hid (Ext w2 wa.drew) := Lib.hid (hin3.out.drw)
              generalize wa.drew = wb at *
              go_wp2
              go_roundw
              case rel => exact ⟨rfl, rfl, rfl, k + 1, by go_num, by omega, HN, hin4⟩
              case measure => simp [intOf] <;> omega
            | some b =>
              have hBv : B = (b : Int) := by rw [HAB.out.2]; unfold ix; rw [hfb]
              have hbl := (Bw.fi_some hfb).2
              rw [List.length_drop] at hbl
              subst hBv
              have hb0 : ¬ (b : Int) < 0 := by omega
              obtain ⟨p1, hp1⟩ : ∃ n, n = p + a := ⟨_, rfl⟩
              obtain ⟨p2, hp2⟩ : ∃ n, n = p1 + 1 := ⟨_, rfl⟩
              obtain ⟨q1, hq1⟩ : ∃ n, n = q + b := ⟨_, rfl⟩
              obtain ⟨q2, hq2⟩ : ∃ n, n = q1 + 1 := ⟨_, rfl⟩
              have hp2u : p2 ≤ u.length := by omega
              have hq2v : q2 ≤ v.length := by omega
              have hp2n : p2 < n1 := by have := HNM.out; omega
              have hq2m : q2 < m1 := by have := HNM.out; omega
              obtain ⟨g1, g2, g3, g4⟩ := HT.out.2 p2 (Nat.zero_le _) hp2n
              obtain ⟨r2, hr2⟩ : ∃ a, a = r p2 := ⟨_, rfl⟩
              obtain ⟨c2, hc2⟩ : ∃ a : Nat, a = cL u v p2 q2 := ⟨_, rfl⟩
              rw [← hr2] at g1 g4
              have cg1 := Bk.cell (Bk.ext HT.out.1 hin3.out) hpn
              rw [HR1.out.2] at cg1
              have cg2 := Bk.cell (Bk.ext HT.out.1 hin3.out) hp2n
              rw [g1] at cg2
              have zg := Bk.lt (Bk.ext HT.out.1 hin3.out)
              have cr1 := Bk.cell (Bk.ext HR1.out.1 hin3.out) hqm
              dsimp only at cr1
              rw [← HC1.out] at cr1
              have zr1 := Bk.lt (Bk.ext HR1.out.1 hin3.out)
              have cr2 := Bk.cell (Bk.ext g4 hin3.out) hq2m
              dsimp only at cr2
              rw [← hc2] at cr2
              have zr2 := Bk.lt (Bk.ext g4 hin3.out)
              have hc28 : c2 ≤ 8 := by rw [hc2]; have := cL_le u v p2 q2; omega
              have w1 : IntKind.i64.wrap ((p : Int) + (a : Int)) = (p1 : Int) := by
                rw [show (p : Int) + (a : Int) = (p1 : Int) by omega]; exact IntWalk.i64_in _ (by omega)
              have w2' : IntKind.i64.wrap ((p1 : Int) + 1) = (p2 : Int) := by
                rw [show (p1 : Int) + 1 = (p2 : Int) by omega]; exact IntWalk.i64_in _ (by omega)
              have w3 : IntKind.i64.wrap ((q : Int) + (b : Int)) = (q1 : Int) := by
                rw [show (q : Int) + (b : Int) = (q1 : Int) by omega]; exact IntWalk.i64_in _ (by omega)
              have w4 : IntKind.i64.wrap ((q1 : Int) + 1) = (q2 : Int) := by
                rw [show (q1 : Int) + 1 = (q2 : Int) by omega]; exact IntWalk.i64_in _ (by omega)
              have w5 : IntKind.i64.wrap ((c2 : Int) + 1) = (c2 : Int) + 1 := IntWalk.i64_in _ (by omega)
              have HW := Lib.hid (And.intro w1 (And.intro w2' (And.intro w3 (And.intro w4 w5))))
              have hdr : Bw.cl ((u.drop p).drop (a + 1)) ((v.drop q).drop (b + 1)) = c2 := by
                rw [List.drop_drop, List.drop_drop, hc2, show p + (a + 1) = p2 by omega, show q + (b + 1) = q2 by omega]; rfl
              have hcm2 : Bw.cm ((u.drop p).drop (a + 1)) ((v.drop q).drop (b + 1)) = Bw.cm (u.drop p2) (v.drop q2) := by
                rw [List.drop_drop, List.drop_drop, show p + (a + 1) = p2 by omega, show q + (b + 1) = q2 by omega]
              have hcl : Bw.cl (u.drop p) (v.drop q) = c1 := HC1.out.symm
              obtain ⟨be, hbe⟩ : ∃ be, be = ((c2 : Int) + 1 == (c1 : Int)) := ⟨_, rfl⟩
              have HBE := Lib.hid hbe.symm
              have HFF := Lib.hid (And.intro hfa (And.intro hfb (And.intro hdr (And.intro hcm2 (And.intro hcl hc2)))))
              have hlet := lt_get hlt
              have HLT := Lib.hid hlet
              clear hfa hfb hal hbl hp1 hp2 hq1 hq2 g1 g2 g3 g4 hr2 hc2 w1 w2' w3 w4 w5 hdr hcm2 hcl hbe hlet
              go_upto_region 11 with fail
              refine wp_region_noPanic ?_
              refine wp_region_held_drew (S := fun X => Ext wa X) (by kernel_rfl) (Ext.drw (Ext.refl _)) (fun _ => ?_)
              refine take_at 0 (some 47) (.int .i64 (a : Nat)) rfl rfl (by kernel_rfl) (by kernel_rfl) (by kernel_rfl) (fun _ _ _ h => h) (Or.inl ⟨by rfl, fun w' hSw => ?_⟩) (Ext.drw (Ext.refl _)) ?_
              · skip
                try clear hSw
                go_simp
                all_goals (with_reducible rfl)
              try simp only [Act.put, List.setIfInBounds_toArray, List.set_cons_zero, List.set_cons_succ]
              refine take_at 1 (some 48) (.bool true) rfl rfl (by kernel_rfl) (by kernel_rfl) (by kernel_rfl) (fun _ _ _ h => h) (Or.inl ⟨by rfl, fun w' hSw => ?_⟩) (Ext.drw (Ext.refl _)) ?_
              · skip
                try clear hSw
                go_simp
                all_goals (with_reducible rfl)
              try simp only [Act.put, List.setIfInBounds_toArray, List.set_cons_zero, List.set_cons_succ]
              refine take_at 2 (some 49) (.bool true) rfl rfl (by kernel_rfl) (by kernel_rfl) (by kernel_rfl) (fun _ _ _ h => h) (Or.inl ⟨by rfl, fun w' hSw => ?_⟩) (Ext.drw (Ext.refl _)) ?_
              · skip
                try clear hSw
                go_simp
                all_goals (with_reducible rfl)
              try simp only [Act.put, List.setIfInBounds_toArray, List.set_cons_zero, List.set_cons_succ]
              refine take_at 3 (some 50) (.int .i64 (b : Nat)) rfl rfl (by kernel_rfl) (by kernel_rfl) (by kernel_rfl) (fun _ _ _ h => h) (Or.inl ⟨by rfl, fun w' hSw => ?_⟩) (Ext.drw (Ext.refl _)) ?_
              · skip
                try clear hSw
                go_simp
                all_goals (with_reducible rfl)
              try simp only [Act.put, List.setIfInBounds_toArray, List.set_cons_zero, List.set_cons_succ]
              refine take_at 4 (some 51) (.bool true) rfl rfl (by kernel_rfl) (by kernel_rfl) (by kernel_rfl) (fun _ _ _ h => h) (Or.inl ⟨by rfl, fun w' hSw => ?_⟩) (Ext.drw (Ext.refl _)) ?_
              · skip
                try clear hSw
                go_simp
                all_goals (with_reducible rfl)
              try simp only [Act.put, List.setIfInBounds_toArray, List.set_cons_zero, List.set_cons_succ]
              refine take_at 5 (some 52) (.bool true) rfl rfl (by kernel_rfl) (by kernel_rfl) (by kernel_rfl) (fun _ _ _ h => h) (Or.inl ⟨by rfl, fun w' hSw => ?_⟩) (Ext.drw (Ext.refl _)) ?_
              · skip
                try clear hSw
                go_simp
                all_goals (with_reducible rfl)
              try simp only [Act.put, List.setIfInBounds_toArray, List.set_cons_zero, List.set_cons_succ]
              refine take_at 6 (some 53) (.bool true) rfl rfl (by kernel_rfl) (by kernel_rfl) (by kernel_rfl) (fun _ _ _ h => h) (Or.inl ⟨by rfl, fun w' hSw => ?_⟩) (Ext.drw (Ext.refl _)) ?_
              · skip
                try clear hSw
                go_simp
                all_goals (with_reducible rfl)
              try simp only [Act.put, List.setIfInBounds_toArray, List.set_cons_zero, List.set_cons_succ]
              refine take_at 7 (some 54) (.slice (some ⟨gt, 0, none⟩) n1 n1) rfl rfl (by kernel_rfl) (by kernel_rfl) (by kernel_rfl) (fun _ _ _ h => h) (Or.inl ⟨by rfl, fun w' hSw => ?_⟩) (Ext.drw (Ext.refl _)) ?_
              · skip
                try clear hSw
                go_simp
                all_goals (with_reducible rfl)
              try simp only [Act.put, List.setIfInBounds_toArray, List.set_cons_zero, List.set_cons_succ]
              refine take_at 8 (some 55) (.int .i64 (p : Nat)) rfl rfl (by kernel_rfl) (by kernel_rfl) (by kernel_rfl) (fun _ _ _ h => h) (Or.inl ⟨by rfl, fun w' hSw => ?_⟩) (Ext.drw (Ext.refl _)) ?_
              · skip
                try clear hSw
                go_simp
                all_goals (with_reducible rfl)
              try simp only [Act.put, List.setIfInBounds_toArray, List.set_cons_zero, List.set_cons_succ]
              refine take_at 9 (some 56) (.int .i64 (a : Nat)) rfl rfl (by kernel_rfl) (by kernel_rfl) (by kernel_rfl) (fun _ _ _ h => h) (Or.inl ⟨by rfl, fun w' hSw => ?_⟩) (Ext.drw (Ext.refl _)) ?_
              · skip
                try clear hSw
                go_simp
                all_goals (with_reducible rfl)
              try simp only [Act.put, List.setIfInBounds_toArray, List.set_cons_zero, List.set_cons_succ]
              refine take_at 10 (some 57) (.int .i64 (p1 : Nat)) rfl rfl (by kernel_rfl) (by kernel_rfl) (by kernel_rfl) (fun _ _ _ h => h) (Or.inl ⟨by rfl, fun w' hSw => ?_⟩) (Ext.drw (Ext.refl _)) ?_
              · have y := HW.out.1
                try clear hSw
                go_simp
                all_goals (with_reducible rfl)
              try simp only [Act.put, List.setIfInBounds_toArray, List.set_cons_zero, List.set_cons_succ]
              refine take_at 11 (some 58) (.int .i64 (p2 : Nat)) rfl rfl (by kernel_rfl) (by kernel_rfl) (by kernel_rfl) (fun _ _ _ h => h) (Or.inl ⟨by rfl, fun w' hSw => ?_⟩) (Ext.drw (Ext.refl _)) ?_
              · have y := HW.out.2.1
                try clear hSw
                go_simp
                all_goals (with_reducible rfl)
              try simp only [Act.put, List.setIfInBounds_toArray, List.set_cons_zero, List.set_cons_succ]
              refine take_at 12 (some 59) (.pointer (some ⟨gt, p2, none⟩)) rfl rfl (by kernel_rfl) (by kernel_rfl) (by kernel_rfl) (fun _ _ _ h => h) (Or.inl ⟨by rfl, fun w' hSw => ?_⟩) (Ext.drw (Ext.refl _)) ?_
              · skip
                try clear hSw
                go_simp
                all_goals (with_reducible rfl)
              try simp only [Act.put, List.setIfInBounds_toArray, List.set_cons_zero, List.set_cons_succ]
              refine take_at 13 (some 60) (.slice (some ⟨r2, 0, none⟩) m1 m1) rfl rfl (by kernel_rfl) (by kernel_rfl) (by kernel_rfl) (fun _ _ _ h => h) (Or.inl ⟨by rfl, fun w' hSw => ?_⟩) (Ext.drw (Ext.refl _)) ?_
              · have z0 := keepAt hSw zg cg2
                try clear hSw
                go_simp
                all_goals (with_reducible rfl)
              try simp only [Act.put, List.setIfInBounds_toArray, List.set_cons_zero, List.set_cons_succ]
              refine take_at 14 (some 61) (.int .i64 (q : Nat)) rfl rfl (by kernel_rfl) (by kernel_rfl) (by kernel_rfl) (fun _ _ _ h => h) (Or.inl ⟨by rfl, fun w' hSw => ?_⟩) (Ext.drw (Ext.refl _)) ?_
              · skip
                try clear hSw
                go_simp
                all_goals (with_reducible rfl)
              try simp only [Act.put, List.setIfInBounds_toArray, List.set_cons_zero, List.set_cons_succ]
              refine take_at 15 (some 62) (.int .i64 (b : Nat)) rfl rfl (by kernel_rfl) (by kernel_rfl) (by kernel_rfl) (fun _ _ _ h => h) (Or.inl ⟨by rfl, fun w' hSw => ?_⟩) (Ext.drw (Ext.refl _)) ?_
              · skip
                try clear hSw
                go_simp
                all_goals (with_reducible rfl)
              try simp only [Act.put, List.setIfInBounds_toArray, List.set_cons_zero, List.set_cons_succ]
              refine take_at 16 (some 63) (.int .i64 (q1 : Nat)) rfl rfl (by kernel_rfl) (by kernel_rfl) (by kernel_rfl) (fun _ _ _ h => h) (Or.inl ⟨by rfl, fun w' hSw => ?_⟩) (Ext.drw (Ext.refl _)) ?_
              · have y := HW.out.2.2.1
                try clear hSw
                go_simp
                all_goals (with_reducible rfl)
              try simp only [Act.put, List.setIfInBounds_toArray, List.set_cons_zero, List.set_cons_succ]
              refine take_at 17 (some 64) (.int .i64 (q2 : Nat)) rfl rfl (by kernel_rfl) (by kernel_rfl) (by kernel_rfl) (fun _ _ _ h => h) (Or.inl ⟨by rfl, fun w' hSw => ?_⟩) (Ext.drw (Ext.refl _)) ?_
              · have y := HW.out.2.2.2.1
                try clear hSw
                go_simp
                all_goals (with_reducible rfl)
              try simp only [Act.put, List.setIfInBounds_toArray, List.set_cons_zero, List.set_cons_succ]
              refine take_at 18 (some 65) (.pointer (some ⟨r2, q2, none⟩)) rfl rfl (by kernel_rfl) (by kernel_rfl) (by kernel_rfl) (fun _ _ _ h => h) (Or.inl ⟨by rfl, fun w' hSw => ?_⟩) (Ext.drw (Ext.refl _)) ?_
              · skip
                try clear hSw
                go_simp
                all_goals (with_reducible rfl)
              try simp only [Act.put, List.setIfInBounds_toArray, List.set_cons_zero, List.set_cons_succ]
              refine take_at 19 (some 66) (.int .i64 (c2 : Nat)) rfl rfl (by kernel_rfl) (by kernel_rfl) (by kernel_rfl) (fun _ _ _ h => h) (Or.inl ⟨by rfl, fun w' hSw => ?_⟩) (Ext.drw (Ext.refl _)) ?_
              · have z0 := keepAt hSw zr2 cr2
                try clear hSw
                go_simp
                all_goals (with_reducible rfl)
              try simp only [Act.put, List.setIfInBounds_toArray, List.set_cons_zero, List.set_cons_succ]
              refine take_at 20 (some 67) (.int .i64 ((c2 : Int) + 1)) rfl rfl (by kernel_rfl) (by kernel_rfl) (by kernel_rfl) (fun _ _ _ h => h) (Or.inl ⟨by rfl, fun w' hSw => ?_⟩) (Ext.drw (Ext.refl _)) ?_
              · have y := HW.out.2.2.2.2
                try clear hSw
                go_simp
                all_goals (with_reducible rfl)
              try simp only [Act.put, List.setIfInBounds_toArray, List.set_cons_zero, List.set_cons_succ]
              refine take_at 21 (some 68) (.slice (some ⟨gt, 0, none⟩) n1 n1) rfl rfl (by kernel_rfl) (by kernel_rfl) (by kernel_rfl) (fun _ _ _ h => h) (Or.inl ⟨by rfl, fun w' hSw => ?_⟩) (Ext.drw (Ext.refl _)) ?_
              · skip
                try clear hSw
                go_simp
                all_goals (with_reducible rfl)
              try simp only [Act.put, List.setIfInBounds_toArray, List.set_cons_zero, List.set_cons_succ]
              refine take_at 22 (some 69) (.int .i64 (p : Nat)) rfl rfl (by kernel_rfl) (by kernel_rfl) (by kernel_rfl) (fun _ _ _ h => h) (Or.inl ⟨by rfl, fun w' hSw => ?_⟩) (Ext.drw (Ext.refl _)) ?_
              · skip
                try clear hSw
                go_simp
                all_goals (with_reducible rfl)
              try simp only [Act.put, List.setIfInBounds_toArray, List.set_cons_zero, List.set_cons_succ]
              refine take_at 23 (some 70) (.pointer (some ⟨gt, p, none⟩)) rfl rfl (by kernel_rfl) (by kernel_rfl) (by kernel_rfl) (fun _ _ _ h => h) (Or.inl ⟨by rfl, fun w' hSw => ?_⟩) (Ext.drw (Ext.refl _)) ?_
              · skip
                try clear hSw
                go_simp
                all_goals (with_reducible rfl)
              try simp only [Act.put, List.setIfInBounds_toArray, List.set_cons_zero, List.set_cons_succ]
              refine take_at 24 (some 71) (.slice (some ⟨r1, 0, none⟩) m1 m1) rfl rfl (by kernel_rfl) (by kernel_rfl) (by kernel_rfl) (fun _ _ _ h => h) (Or.inl ⟨by rfl, fun w' hSw => ?_⟩) (Ext.drw (Ext.refl _)) ?_
              · have z0 := keepAt hSw zg cg1
                try clear hSw
                go_simp
                all_goals (with_reducible rfl)
              try simp only [Act.put, List.setIfInBounds_toArray, List.set_cons_zero, List.set_cons_succ]
              refine take_at 25 (some 72) (.int .i64 (q : Nat)) rfl rfl (by kernel_rfl) (by kernel_rfl) (by kernel_rfl) (fun _ _ _ h => h) (Or.inl ⟨by rfl, fun w' hSw => ?_⟩) (Ext.drw (Ext.refl _)) ?_
              · skip
                try clear hSw
                go_simp
                all_goals (with_reducible rfl)
              try simp only [Act.put, List.setIfInBounds_toArray, List.set_cons_zero, List.set_cons_succ]
              refine take_at 26 (some 73) (.pointer (some ⟨r1, q, none⟩)) rfl rfl (by kernel_rfl) (by kernel_rfl) (by kernel_rfl) (fun _ _ _ h => h) (Or.inl ⟨by rfl, fun w' hSw => ?_⟩) (Ext.drw (Ext.refl _)) ?_
              · skip
                try clear hSw
                go_simp
                all_goals (with_reducible rfl)
              try simp only [Act.put, List.setIfInBounds_toArray, List.set_cons_zero, List.set_cons_succ]
              refine take_at 27 (some 74) (.int .i64 (c1 : Nat)) rfl rfl (by kernel_rfl) (by kernel_rfl) (by kernel_rfl) (fun _ _ _ h => h) (Or.inl ⟨by rfl, fun w' hSw => ?_⟩) (Ext.drw (Ext.refl _)) ?_
              · have z0 := keepAt hSw zr1 cr1
                try clear hSw
                go_simp
                all_goals (with_reducible rfl)
              try simp only [Act.put, List.setIfInBounds_toArray, List.set_cons_zero, List.set_cons_succ]
              refine take_at 28 (some 75) (.bool be) rfl rfl (by kernel_rfl) (by kernel_rfl) (by kernel_rfl) (fun _ _ _ h => h) (Or.inl ⟨by rfl, fun w' hSw => ?_⟩) (Ext.drw (Ext.refl _)) ?_
              · have y := HBE.out
                try clear hSw
                go_simp
                all_goals (with_reducible rfl)
              try simp only [Act.put, List.setIfInBounds_toArray, List.set_cons_zero, List.set_cons_succ]
              refine take_at 29 (some 76) (.bool be) rfl rfl (by kernel_rfl) (by kernel_rfl) (by kernel_rfl) (fun _ _ _ h => h) (Or.inl ⟨by rfl, fun w' hSw => ?_⟩) (Ext.drw (Ext.refl _)) ?_
              · skip
                try clear hSw
                go_simp
                all_goals (with_reducible rfl)
              try simp only [Act.put, List.setIfInBounds_toArray, List.set_cons_zero, List.set_cons_succ]
              refine wpAnyH_done (by kernel_rfl) ?_ _
              refine NoPanic.normal ?_
              have hin4 : Hid (Ext w2 wa.drew) := Lib.hid (hin3.out.drw)
              generalize wa.drew = wb at *
              clear cg1 cg2 zg cr1 zr1 cr2 zr2
              cases be
              · have hne : ¬ c2 + 1 = c1 := fun h => by
                  have h9 := HBE.out
                  simp at h9
                  omega
                have HN := Lib.hid (HNX.out (fun h => by
                  obtain ⟨i, j, h1, h2, h3⟩ := h
                  rw [HFF.out.1] at h1; rw [HFF.out.2.1] at h2
                  cases h1; cases h2
                  rw [HFF.out.2.2.1, HFF.out.2.2.2.2.1] at h3
                  exact hne h3))
                clear hne
                go_wp2
                go_roundw
                case rel => exact ⟨rfl, rfl, rfl, k + 1, by go_num, by omega, HN, hin4⟩
                case measure => simp [intOf] <;> omega
              · have heq : c2 + 1 = c1 := by
                  have h9 := HBE.out
                  simp at h9
                  omega
                have hfirst := Bw.gd_first (by rw [HFF.out.2.2.2.2.1]; exact h0) HLT.out HFF.out.1 HFF.out.2.1 (by rw [HFF.out.2.2.1, HFF.out.2.2.2.2.1]; exact heq) hno.out
                rw [HFF.out.2.2.2.1] at hfirst
                have HFI := Lib.hid hfirst
                have hsl := fun W => slice_letter hlt W
                have happ : (⟨t.toArray⟩ : ByteArray) ++ ⟨#[lt k]⟩ = ⟨(t ++ [lt k]).toArray⟩ := snoc_bytes t (lt k)
                have htl2 : (t ++ [lt k]).length ≤ 8 := by
                  have h9 := congrArg List.length htf.out
                  rw [hfirst, List.length_append, List.length_cons] at h9
                  rw [List.length_append, List.length_cons, List.length_nil]
                  omega
                have HTL := Lib.hid htl2
                obtain ⟨y1, y2, y3, y4, -⟩ := HW.out
                clear hfirst htl2
                go_wp2
                go_roundw
                case rel => exact ⟨t ++ [lt k], p2, q2, rfl, rfl, rfl, hp2u, hq2v, HTL.out, Lib.hid (by rw [← htf.out, HFI.out, List.append_assoc]; rfl), hin4⟩
                case measure =>
                  have h8 := HFF.out.2.2.2.2.2
                  have h9 := HC1.out
                  simp [intOf]
                  omega
        · exfalso
          obtain ⟨k', d, h1, h2, h3⟩ := Bw.gd_some (x := u.drop p) (y := v.drop q) (by have := HC1.out; unfold cL at this; omega)
          exact hno.out k' d (by omega) h2 h3
    · obtain rfl : c1 = 0 := by omega
      have hfin : t = zz := by
        have h9 := HC1.out
        unfold cL Bw.cl at h9
        have h8 := List.eq_nil_of_length_eq_zero h9.symm
        rw [← htf.out, h8, List.append_nil]
      have HFN := Lib.hid hfin
      clear hfin
      go_wp2
      refine bodyPost_ret (v := .tuple #[.string ⟨t.toArray⟩, .int .i64 0]) (by simp [results, Tryd.results28, go_sem]) rfl ?_
      exact ⟨by rw [H12.out.1, H12.out.2, ← HZZ.out, HFN.out], HX2.out.trans hin.out⟩

set_option maxHeartbeats 4000000 in
set_option maxRecDepth 100000 in
theorem bathCommon_walk (u v : List UInt8) (W : World) (hu : u.length ≤ 9223372036854775807) (hv : v.length ≤ 9223372036854775807) :
    Calls Tryd.prog 7 #[.string ⟨u.toArray⟩, .string ⟨v.toArray⟩] W fun e W' => e = .returned (.bool true) ∧ Ext W W' := by
  have c1 := fun X => common_any u v X hu hv
  have c2 := fun X => commonR_any u v X hu hv
  generalize coS u v = t at c1 c2
  generalize coE u v = er at c1 c2
  have C1 := Lib.hid c1; have C2 := Lib.hid c2
  clear c1 c2 hu hv
  go_enter Tryd.func7, Tryd.ntmps7
  go_wp2_with fail
  refine (C1.out _).mono ?_
  rintro e w1 ⟨rfl, hx⟩
  have HX := Lib.hid hx; clear hx
  go_wp2_with fail
  refine (C2.out _).mono ?_
  rintro e w2 ⟨rfl, hx⟩
  replace HX := Lib.hid (HX.out.trans hx); clear hx
  go_wp2_with fail
  refine (awake_any _).mono ?_
  rintro e w3 ⟨rfl, hx⟩
  replace HX := Lib.hid (HX.out.trans hx); clear hx
  go_wp2
  go_ret
  exact ⟨rfl, HX.out⟩
end Go.Proofs.YtlachbodibajlaaDoor
