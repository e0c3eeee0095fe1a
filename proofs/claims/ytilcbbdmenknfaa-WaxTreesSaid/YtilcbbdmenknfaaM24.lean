/- Walks: Check. · Walks: the reference's Flow. -/
import Derived.Test.YtilcbbdmenknfaaM13
import Derived.Test.YtilcbbdmenknfaaM20
namespace Go.Proofs.Ytilcbbdmenknfaa
open Go.RowKit

set_option maxHeartbeats 4000000 in
set_option maxRecDepth 100000 in
theorem check_any (N : Int) (a : Ar) (nf ns : Nat) (f : Nat → Int) (s : Nat → Bool) (AV FV SV : Value) (W : World) (hA : Al W AV a) (hF : Il W FV nf f) (hS : Bl W SV ns s) :
    Calls Try.prog 21 #[.agg #[.int .i64 N, AV], FV, SV] W fun e W' => ∃ (b : Bool) (er : Int), e = .returned (.tuple #[.bool b, .int .i64 er]) ∧ Chk N a nf ns f s b er ∧ Ext W W' := by
  have HA := Lib.hid hA; have HF := Lib.hid hF; have HS := Lib.hid hS
  obtain ⟨A, c, rfl, hac, hcm, -⟩ := hA
  obtain ⟨A2, c2, rfl, hac2, hcm2, -⟩ := hF
  obtain ⟨A3, c3, rfl, hac3, hcm3, -⟩ := hS
  go_enter Try.func21, Try.ntmps21
  go_upto_region 1 with fail
  have bb := al1 W (.cells #[.int .i64 N, .slice A a.n c] 30)
  have hh := heap_alloc_new W (.cells #[.int .i64 N, .slice A a.n c] 30)
  have zz : W.heap.size < (W.alloc (.cells #[.int .i64 N, .slice A a.n c] 30)).heap.size := by simp
  generalize W.alloc (.cells #[.int .i64 N, .slice A a.n c] 30) = W0 at *
  have HB0 : Hid (Ext W W0) := Lib.hid bb
  obtain ⟨m0, m1, m2, m3⟩ := two hh
  clear bb hh m2 m3
  go_wp2_with fail
  refine (isNet_any N a _ _ (HA.out.ext HB0.out)).mono ?_
  rintro e W1 ⟨rfl, hx⟩
  replace m0 := keepAt hx zz m0
  replace m1 := keepAt hx zz m1
  replace zz : W.heap.size < W1.heap.size := Nat.lt_of_lt_of_le zz hx.size
  have HB : Hid (Ext W W1) := Lib.hid (HB0.out.trans hx)
  clear hx HB0
  cases hv : vNet N a
  · have HV := Lib.hid hv; clear hv
    go_wp2
    refine bodyPost_ret (v := .tuple #[.bool false, .int .i64 2]) (by simp [results, Try.results21, go_sem]) rfl ⟨false, 2, rfl, .inl ⟨HV.out, rfl, rfl⟩, HB.out⟩
  · have HV := Lib.hid hv
    obtain ⟨m, rfl, hm2, hm40, hn, hO⟩ := vNet_ok hv
    have HO := Lib.hid hO
    clear hv hO
    by_cases h1 : nf = a.n
    · by_cases h2 : m = ns
      · subst h1 h2
        go_upto_region 5 with fail
        refine wp_region_noPanic ?_
        refine wp_split (S := fun X => Ext W1 X) 18 (by kernel_rfl) (by kernel_rfl) (Ext.drw (Ext.refl _)) ?_
        simp only [List.take_succ_cons, List.take_zero, List.drop_succ_cons, List.drop_zero]
        refine take_at 0 (some 25) (.agg #[.int .i64 m, .slice A a.n c]) rfl rfl (by kernel_rfl) (by kernel_rfl) (by kernel_rfl) (fun _ _ _ h => h) (Or.inl ⟨by rfl, fun w' hSw => ?_⟩) (Ext.drw (Ext.refl _)) ?_
        · have z0 := keepAt hSw zz m0
          have z1 := keepAt hSw zz m1
          try clear hSw
          go_simp
          all_goals (with_reducible rfl)
        try simp only [Act.put, List.setIfInBounds_toArray, List.set_cons_zero, List.set_cons_succ]
        refine take_at 1 (some 26) (.slice A2 a.n c2) rfl rfl (by kernel_rfl) (by kernel_rfl) (by kernel_rfl) (fun _ _ _ h => h) (Or.inl ⟨by rfl, fun w' hSw => ?_⟩) (Ext.drw (Ext.refl _)) ?_
        · skip
          try clear hSw
          go_simp
          all_goals (with_reducible rfl)
        try simp only [Act.put, List.setIfInBounds_toArray, List.set_cons_zero, List.set_cons_succ]
        refine wpAnyH_ready (rs := [2]) (by kernel_rfl) (by simp) ?_
        refine AllReadyH.cons rfl (fun K hK => ?_) AllReadyH.nil
        go_simp
        refine (isFlow_any m a f _ _ _ (HA.out.ext (HB.out.trans (Ext.drw (Ext.refl _)))) (Il.ext HF.out (HB.out.trans (Ext.drw (Ext.refl _)))) HO.out (by omega) hm2 (by omega)).mono ?_
        rintro e v2 ⟨rfl, hb2⟩
        have e2 : Ext W1 v2 := (Ext.drw (Ext.refl _)).trans hb2
        try go_wp2_with fail
        refine hK.out _ _ e2 (fun _ => ?_)
        clear hK K
        try simp only [Act.put, List.setIfInBounds_toArray, List.set_cons_zero, List.set_cons_succ]
        cases p : isFlB m a f
        · have HP := Lib.hid p; clear p
          refine take_at 3 (some 28) (.bool false) rfl rfl (by kernel_rfl) (by kernel_rfl) (by kernel_rfl) (fun _ _ _ h => h) (Or.inl ⟨by rfl, fun w' hSw => ?_⟩) (e2) ?_
          · skip
            try clear hSw
            go_simp
            all_goals (with_reducible rfl)
          try simp only [Act.put, List.setIfInBounds_toArray, List.set_cons_zero, List.set_cons_succ]
          refine take_at 4 (some 29) undef rfl rfl (by kernel_rfl) (by kernel_rfl) (by kernel_rfl) (fun _ _ _ h => h) (Or.inr ⟨by rfl, rfl⟩) (e2) ?_
          try simp only [Act.put, List.setIfInBounds_toArray, List.set_cons_zero, List.set_cons_succ]
          refine take_at 5 (some 30) undef rfl rfl (by kernel_rfl) (by kernel_rfl) (by kernel_rfl) (fun _ _ _ h => h) (Or.inr ⟨by rfl, rfl⟩) (e2) ?_
          try simp only [Act.put, List.setIfInBounds_toArray, List.set_cons_zero, List.set_cons_succ]
          refine take_at 6 (some 31) (.bool false) rfl rfl (by kernel_rfl) (by kernel_rfl) (by kernel_rfl) (fun _ _ _ h => h) (Or.inl ⟨by rfl, fun w' hSw => ?_⟩) (e2) ?_
          · skip
            try clear hSw
            go_simp
            all_goals (with_reducible rfl)
          try simp only [Act.put, List.setIfInBounds_toArray, List.set_cons_zero, List.set_cons_succ]
          refine take_at 7 (some 32) (.bool false) rfl rfl (by kernel_rfl) (by kernel_rfl) (by kernel_rfl) (fun _ _ _ h => h) (Or.inl ⟨by rfl, fun w' hSw => ?_⟩) (e2) ?_
          · skip
            try clear hSw
            go_simp
            all_goals (with_reducible rfl)
          try simp only [Act.put, List.setIfInBounds_toArray, List.set_cons_zero, List.set_cons_succ]
          refine take_at 8 (some 33) undef rfl rfl (by kernel_rfl) (by kernel_rfl) (by kernel_rfl) (fun _ _ _ h => h) (Or.inr ⟨by rfl, rfl⟩) (e2) ?_
          try simp only [Act.put, List.setIfInBounds_toArray, List.set_cons_zero, List.set_cons_succ]
          refine take_at 9 (some 34) undef rfl rfl (by kernel_rfl) (by kernel_rfl) (by kernel_rfl) (fun _ _ _ h => h) (Or.inr ⟨by rfl, rfl⟩) (e2) ?_
          try simp only [Act.put, List.setIfInBounds_toArray, List.set_cons_zero, List.set_cons_succ]
          refine take_at 10 (some 35) undef rfl rfl (by kernel_rfl) (by kernel_rfl) (by kernel_rfl) (fun _ _ _ h => h) (Or.inr ⟨by rfl, rfl⟩) (e2) ?_
          try simp only [Act.put, List.setIfInBounds_toArray, List.set_cons_zero, List.set_cons_succ]
          refine take_at 11 (some 36) undef rfl rfl (by kernel_rfl) (by kernel_rfl) (by kernel_rfl) (fun _ _ _ h => h) (Or.inr ⟨by rfl, rfl⟩) (e2) ?_
          try simp only [Act.put, List.setIfInBounds_toArray, List.set_cons_zero, List.set_cons_succ]
          refine take_at 12 (some 37) undef rfl rfl (by kernel_rfl) (by kernel_rfl) (by kernel_rfl) (fun _ _ _ h => h) (Or.inr ⟨by rfl, rfl⟩) (e2) ?_
          try simp only [Act.put, List.setIfInBounds_toArray, List.set_cons_zero, List.set_cons_succ]
          refine take_at 13 (some 38) undef rfl rfl (by kernel_rfl) (by kernel_rfl) (by kernel_rfl) (fun _ _ _ h => h) (Or.inr ⟨by rfl, rfl⟩) (e2) ?_
          try simp only [Act.put, List.setIfInBounds_toArray, List.set_cons_zero, List.set_cons_succ]
          refine take_at 14 (some 39) undef rfl rfl (by kernel_rfl) (by kernel_rfl) (by kernel_rfl) (fun _ _ _ h => h) (Or.inr ⟨by rfl, rfl⟩) (e2) ?_
          try simp only [Act.put, List.setIfInBounds_toArray, List.set_cons_zero, List.set_cons_succ]
          refine take_at 15 (some 40) undef rfl rfl (by kernel_rfl) (by kernel_rfl) (by kernel_rfl) (fun _ _ _ h => h) (Or.inr ⟨by rfl, rfl⟩) (e2) ?_
          try simp only [Act.put, List.setIfInBounds_toArray, List.set_cons_zero, List.set_cons_succ]
          refine take_at 16 (some 41) undef rfl rfl (by kernel_rfl) (by kernel_rfl) (by kernel_rfl) (fun _ _ _ h => h) (Or.inr ⟨by rfl, rfl⟩) (e2) ?_
          try simp only [Act.put, List.setIfInBounds_toArray, List.set_cons_zero, List.set_cons_succ]
          refine take_at 17 (some 42) (.bool false) rfl rfl (by kernel_rfl) (by kernel_rfl) (by kernel_rfl) (fun _ _ _ h => h) (Or.inl ⟨by rfl, fun w' hSw => ?_⟩) (e2) ?_
          · skip
            try clear hSw
            go_simp
            all_goals (with_reducible rfl)
          try simp only [Act.put, List.setIfInBounds_toArray, List.set_cons_zero, List.set_cons_succ]
          refine wpAnyH_done (by kernel_rfl) ?_ _
          refine cut_normal ?_
          have EX := Lib.hid (HB.out.trans e2); clear e2
          go_wp2_with fail
          refine NoPanic.normal ?_
          go_wp2
          refine bodyPost_ret (v := .tuple #[.bool false, .int .i64 0]) (by simp [results, Try.results21, go_sem]) rfl ⟨false, 0, rfl, .inr ⟨HV.out, .inr ⟨rfl, rfl, by unfold chB; rw [HP.out]; rfl, rfl⟩⟩, EX.out⟩
        · have HP := Lib.hid p; clear p
          refine take_at 3 (some 28) (.bool true) rfl rfl (by kernel_rfl) (by kernel_rfl) (by kernel_rfl) (fun _ _ _ h => h) (Or.inl ⟨by rfl, fun w' hSw => ?_⟩) (e2) ?_
          · skip
            try clear hSw
            go_simp
            all_goals (with_reducible rfl)
          try simp only [Act.put, List.setIfInBounds_toArray, List.set_cons_zero, List.set_cons_succ]
          refine take_at 4 (some 29) (.slice A3 m c3) rfl rfl (by kernel_rfl) (by kernel_rfl) (by kernel_rfl) (fun _ _ _ h => h) (Or.inl ⟨by rfl, fun w' hSw => ?_⟩) (e2) ?_
          · skip
            try clear hSw
            go_simp
            all_goals (with_reducible rfl)
          try simp only [Act.put, List.setIfInBounds_toArray, List.set_cons_zero, List.set_cons_succ]
          refine wpAnyH_ready (rs := [5]) (by kernel_rfl) (by simp) ?_
          refine AllReadyH.cons rfl (fun K hK => ?_) AllReadyH.nil
          go_simp
          refine (isSide_any m s _ _ (Bl.ext HS.out (HB.out.trans e2)) hm2 (by omega)).mono ?_
          rintro e v5 ⟨rfl, hb5⟩
          have e5 : Ext W1 v5 := (e2).trans hb5
          try go_wp2_with fail
          refine hK.out _ _ e5 (fun _ => ?_)
          clear hK K
          try simp only [Act.put, List.setIfInBounds_toArray, List.set_cons_zero, List.set_cons_succ]
          cases q : isSdB m s
          · have HQ := Lib.hid q; clear q
            refine take_at 6 (some 31) (.bool false) rfl rfl (by kernel_rfl) (by kernel_rfl) (by kernel_rfl) (fun _ _ _ h => h) (Or.inl ⟨by rfl, fun w' hSw => ?_⟩) (e5) ?_
            · skip
              try clear hSw
              go_simp
              all_goals (with_reducible rfl)
            try simp only [Act.put, List.setIfInBounds_toArray, List.set_cons_zero, List.set_cons_succ]
            refine take_at 7 (some 32) (.bool false) rfl rfl (by kernel_rfl) (by kernel_rfl) (by kernel_rfl) (fun _ _ _ h => h) (Or.inl ⟨by rfl, fun w' hSw => ?_⟩) (e5) ?_
            · skip
              try clear hSw
              go_simp
              all_goals (with_reducible rfl)
            try simp only [Act.put, List.setIfInBounds_toArray, List.set_cons_zero, List.set_cons_succ]
            refine take_at 8 (some 33) undef rfl rfl (by kernel_rfl) (by kernel_rfl) (by kernel_rfl) (fun _ _ _ h => h) (Or.inr ⟨by rfl, rfl⟩) (e5) ?_
            try simp only [Act.put, List.setIfInBounds_toArray, List.set_cons_zero, List.set_cons_succ]
            refine take_at 9 (some 34) undef rfl rfl (by kernel_rfl) (by kernel_rfl) (by kernel_rfl) (fun _ _ _ h => h) (Or.inr ⟨by rfl, rfl⟩) (e5) ?_
            try simp only [Act.put, List.setIfInBounds_toArray, List.set_cons_zero, List.set_cons_succ]
            refine take_at 10 (some 35) undef rfl rfl (by kernel_rfl) (by kernel_rfl) (by kernel_rfl) (fun _ _ _ h => h) (Or.inr ⟨by rfl, rfl⟩) (e5) ?_
            try simp only [Act.put, List.setIfInBounds_toArray, List.set_cons_zero, List.set_cons_succ]
            refine take_at 11 (some 36) undef rfl rfl (by kernel_rfl) (by kernel_rfl) (by kernel_rfl) (fun _ _ _ h => h) (Or.inr ⟨by rfl, rfl⟩) (e5) ?_
            try simp only [Act.put, List.setIfInBounds_toArray, List.set_cons_zero, List.set_cons_succ]
            refine take_at 12 (some 37) undef rfl rfl (by kernel_rfl) (by kernel_rfl) (by kernel_rfl) (fun _ _ _ h => h) (Or.inr ⟨by rfl, rfl⟩) (e5) ?_
            try simp only [Act.put, List.setIfInBounds_toArray, List.set_cons_zero, List.set_cons_succ]
            refine take_at 13 (some 38) undef rfl rfl (by kernel_rfl) (by kernel_rfl) (by kernel_rfl) (fun _ _ _ h => h) (Or.inr ⟨by rfl, rfl⟩) (e5) ?_
            try simp only [Act.put, List.setIfInBounds_toArray, List.set_cons_zero, List.set_cons_succ]
            refine take_at 14 (some 39) undef rfl rfl (by kernel_rfl) (by kernel_rfl) (by kernel_rfl) (fun _ _ _ h => h) (Or.inr ⟨by rfl, rfl⟩) (e5) ?_
            try simp only [Act.put, List.setIfInBounds_toArray, List.set_cons_zero, List.set_cons_succ]
            refine take_at 15 (some 40) undef rfl rfl (by kernel_rfl) (by kernel_rfl) (by kernel_rfl) (fun _ _ _ h => h) (Or.inr ⟨by rfl, rfl⟩) (e5) ?_
            try simp only [Act.put, List.setIfInBounds_toArray, List.set_cons_zero, List.set_cons_succ]
            refine take_at 16 (some 41) undef rfl rfl (by kernel_rfl) (by kernel_rfl) (by kernel_rfl) (fun _ _ _ h => h) (Or.inr ⟨by rfl, rfl⟩) (e5) ?_
            try simp only [Act.put, List.setIfInBounds_toArray, List.set_cons_zero, List.set_cons_succ]
            refine take_at 17 (some 42) (.bool false) rfl rfl (by kernel_rfl) (by kernel_rfl) (by kernel_rfl) (fun _ _ _ h => h) (Or.inl ⟨by rfl, fun w' hSw => ?_⟩) (e5) ?_
            · skip
              try clear hSw
              go_simp
              all_goals (with_reducible rfl)
            try simp only [Act.put, List.setIfInBounds_toArray, List.set_cons_zero, List.set_cons_succ]
            refine wpAnyH_done (by kernel_rfl) ?_ _
            refine cut_normal ?_
            have EX := Lib.hid (HB.out.trans e5); clear e5
            go_wp2_with fail
            refine NoPanic.normal ?_
            go_wp2
            refine bodyPost_ret (v := .tuple #[.bool false, .int .i64 0]) (by simp [results, Try.results21, go_sem]) rfl ⟨false, 0, rfl, .inr ⟨HV.out, .inr ⟨rfl, rfl, by unfold chB; rw [HP.out, HQ.out]; rfl, rfl⟩⟩, EX.out⟩
          · have HQ := Lib.hid q; clear q
            refine take_at 6 (some 31) (.bool true) rfl rfl (by kernel_rfl) (by kernel_rfl) (by kernel_rfl) (fun _ _ _ h => h) (Or.inl ⟨by rfl, fun w' hSw => ?_⟩) (e5) ?_
            · skip
              try clear hSw
              go_simp
              all_goals (with_reducible rfl)
            try simp only [Act.put, List.setIfInBounds_toArray, List.set_cons_zero, List.set_cons_succ]
            refine take_at 7 (some 32) (.bool true) rfl rfl (by kernel_rfl) (by kernel_rfl) (by kernel_rfl) (fun _ _ _ h => h) (Or.inl ⟨by rfl, fun w' hSw => ?_⟩) (e5) ?_
            · skip
              try clear hSw
              go_simp
              all_goals (with_reducible rfl)
            try simp only [Act.put, List.setIfInBounds_toArray, List.set_cons_zero, List.set_cons_succ]
            refine take_at 8 (some 33) (.pointer (some ⟨W.heap.size, 1, none⟩)) rfl rfl (by kernel_rfl) (by kernel_rfl) (by kernel_rfl) (fun _ _ _ h => h) (Or.inl ⟨by rfl, fun w' hSw => ?_⟩) (e5) ?_
            · skip
              try clear hSw
              go_simp
              all_goals (with_reducible rfl)
            try simp only [Act.put, List.setIfInBounds_toArray, List.set_cons_zero, List.set_cons_succ]
            refine take_at 9 (some 34) (.slice A a.n c) rfl rfl (by kernel_rfl) (by kernel_rfl) (by kernel_rfl) (fun _ _ _ h => h) (Or.inl ⟨by rfl, fun w' hSw => ?_⟩) (e5) ?_
            · have z1 := keepAt hSw zz m1
              try clear hSw
              go_simp
              all_goals (with_reducible rfl)
            try simp only [Act.put, List.setIfInBounds_toArray, List.set_cons_zero, List.set_cons_succ]
            refine take_at 10 (some 35) (.slice A2 a.n c2) rfl rfl (by kernel_rfl) (by kernel_rfl) (by kernel_rfl) (fun _ _ _ h => h) (Or.inl ⟨by rfl, fun w' hSw => ?_⟩) (e5) ?_
            · skip
              try clear hSw
              go_simp
              all_goals (with_reducible rfl)
            try simp only [Act.put, List.setIfInBounds_toArray, List.set_cons_zero, List.set_cons_succ]
            refine take_at 12 (some 37) (.pointer (some ⟨W.heap.size, 1, none⟩)) rfl rfl (by kernel_rfl) (by kernel_rfl) (by kernel_rfl) (fun _ _ _ h => h) (Or.inl ⟨by rfl, fun w' hSw => ?_⟩) (e5) ?_
            · skip
              try clear hSw
              go_simp
              all_goals (with_reducible rfl)
            try simp only [Act.put, List.setIfInBounds_toArray, List.set_cons_zero, List.set_cons_succ]
            refine take_at 13 (some 38) (.slice A a.n c) rfl rfl (by kernel_rfl) (by kernel_rfl) (by kernel_rfl) (fun _ _ _ h => h) (Or.inl ⟨by rfl, fun w' hSw => ?_⟩) (e5) ?_
            · have z1 := keepAt hSw zz m1
              try clear hSw
              go_simp
              all_goals (with_reducible rfl)
            try simp only [Act.put, List.setIfInBounds_toArray, List.set_cons_zero, List.set_cons_succ]
            refine take_at 14 (some 39) (.slice A3 m c3) rfl rfl (by kernel_rfl) (by kernel_rfl) (by kernel_rfl) (fun _ _ _ h => h) (Or.inl ⟨by rfl, fun w' hSw => ?_⟩) (e5) ?_
            · skip
              try clear hSw
              go_simp
              all_goals (with_reducible rfl)
            try simp only [Act.put, List.setIfInBounds_toArray, List.set_cons_zero, List.set_cons_succ]
            refine wpAnyH_ready (rs := [11]) (by kernel_rfl) (by simp) ?_
            refine AllReadyH.cons rfl (fun K hK => ?_) AllReadyH.nil
            go_simp
            refine (surplus_any a m 0 1000000 f _ _ _ (HA.out.ext (HB.out.trans e5)) (Il.ext HF.out (HB.out.trans e5)) HO.out (by omega) (fun k hk => by have h8 := (isFlB_iff.1 HP.out).1 k hk; have h9 := HO.out.cM k hk; omega)).mono ?_
            rintro e v11 ⟨rfl, hb11⟩
            have e11 : Ext W1 v11 := (e5).trans hb11
            try go_wp2_with fail
            refine hK.out _ _ e11 (fun _ => ?_)
            clear hK K
            try simp only [Act.put, List.setIfInBounds_toArray, List.set_cons_zero, List.set_cons_succ]
            refine wpAnyH_ready (rs := [15]) (by kernel_rfl) (by simp) ?_
            refine AllReadyH.cons rfl (fun K hK => ?_) AllReadyH.nil
            go_simp
            refine (cost_any a m s _ _ _ (HA.out.ext (HB.out.trans e11)) (Bl.ext HS.out (HB.out.trans e11)) HO.out (by omega)).mono ?_
            rintro e v15 ⟨rfl, hb15⟩
            have e15 : Ext W1 v15 := (e11).trans hb15
            try go_wp2_with fail
            refine hK.out _ _ e15 (fun _ => ?_)
            clear hK K
            try simp only [Act.put, List.setIfInBounds_toArray, List.set_cons_zero, List.set_cons_succ]
            obtain ⟨x, hx⟩ : ∃ x, x = decide (a.nw.sp f 0 = a.nw.ct s) := ⟨_, rfl⟩
            refine take_at 16 (some 41) (.bool x) rfl rfl (by kernel_rfl) (by kernel_rfl) (by kernel_rfl) (fun _ _ _ h => h) (Or.inl ⟨by rfl, fun w' hSw => ?_⟩) (e15) ?_
            · skip
              try clear hSw
              go_simp
              all_goals (first | exact Bool.eq_iff_iff.2 (by simp) | (rw [hx]; exact Bool.eq_iff_iff.2 (by simp)) | (with_reducible rfl))
            try simp only [Act.put, List.setIfInBounds_toArray, List.set_cons_zero, List.set_cons_succ]
            refine take_at 17 (some 42) (.bool x) rfl rfl (by kernel_rfl) (by kernel_rfl) (by kernel_rfl) (fun _ _ _ h => h) (Or.inl ⟨by rfl, fun w' hSw => ?_⟩) (e15) ?_
            · skip
              try clear hSw
              go_simp
              all_goals (with_reducible rfl)
            try simp only [Act.put, List.setIfInBounds_toArray, List.set_cons_zero, List.set_cons_succ]
            refine wpAnyH_done (by kernel_rfl) ?_ _
            refine cut_normal ?_
            have EX := Lib.hid (HB.out.trans e15); clear e15
            go_wp2_with fail
            refine NoPanic.normal ?_
            go_wp2
            refine bodyPost_ret (v := .tuple #[.bool x, .int .i64 0]) (by simp [results, Try.results21, go_sem]) rfl ⟨x, 0, rfl, .inr ⟨HV.out, .inr ⟨rfl, rfl, by unfold chB; rw [HP.out, HQ.out, hx]; rfl, rfl⟩⟩, EX.out⟩
      · have h3 : ¬ (ns : Int) = m := by omega
        have h4 : ((ns : Int) != m) = true := by simp; omega
        subst h1
        go_wp2
        refine bodyPost_ret (v := .tuple #[.bool false, .int .i64 3]) (by simp [results, Try.results21, go_sem]) rfl ⟨false, 3, rfl, .inr ⟨HV.out, .inl ⟨.inr h3, rfl, rfl⟩⟩, HB.out⟩
    · have h3 : ((nf : Int) != a.n) = true := by simp; omega
      go_wp2
      refine bodyPost_ret (v := .tuple #[.bool false, .int .i64 3]) (by simp [results, Try.results21, go_sem]) rfl ⟨false, 3, rfl, .inr ⟨HV.out, .inl ⟨.inl h1, rfl, rfl⟩⟩, HB.out⟩
end Go.Proofs.Ytilcbbdmenknfaa
namespace Go.Proofs.Ytilcbbdmenknfaa
open Go.RowKit

theorem over_step (a : Ar) (f : Nat → Int) {k fk tk : Nat} (hne : fk ≠ tk) (h1 : (a.f k).toNat = fk) (h2 : (a.t k).toNat = tk) :
    up (up (fun v => -sm k (tm a f v)) fk (-sm k (tm a f fk) - f k)) tk (-sm k (tm a f tk) + f k) = fun v => -sm (k + 1) (tm a f v) := by
  have e : ∀ v, sm (k + 1) (tm a f v) = sm k (tm a f v) + ((if fk = v then f k else 0) - (if tk = v then f k else 0)) := fun v => by
    have e2 : tm a f v k = (if fk = v then f k else 0) - (if tk = v then f k else 0) := by unfold tm; rw [h1, h2]
    rw [← e2]; rfl
  funext v
  rw [e]
  dsimp only [up]
  by_cases e1 : v = tk
  · subst e1
    rw [if_pos rfl, if_neg hne, if_pos rfl]; omega
  · rw [if_neg e1, if_neg (fun e : tk = v => e1 e.symm)]
    by_cases e2 : v = fk
    · subst e2; rw [if_pos rfl, if_pos rfl]; omega
    · rw [if_neg e2, if_neg (fun e : fk = v => e2 e.symm)]; omega

set_option maxHeartbeats 4000000 in
set_option maxRecDepth 100000 in
theorem flowR_any (N : Nat) (a : Ar) (f : Nat → Int) (AV FV : Value) (W : World) (hA : Al W AV a) (hF : Il W FV a.n f) (hO : a.Ok N 1000000) (hn : a.n ≤ 1000) (hN : 2 ≤ N) (hN2 : N ≤ 1000) :
    Calls Try.prog 20 #[.agg #[.int .i64 N, AV], FV] W fun e W' => e = .returned (.tuple #[.int .i64 (if isFlB N a f = true then a.nw.sp f 0 else 0), .bool (isFlB N a f)]) ∧ Ext W W' := by
  obtain ⟨z, hz⟩ : ∃ z, z = if isFlB N a f = true then a.nw.sp f 0 else 0 := ⟨_, rfl⟩
  rw [← hz]
  obtain ⟨r, hr⟩ : ∃ r, r = isFlB N a f := ⟨_, rfl⟩
  rw [← hr] at hz ⊢
  have HR := Lib.hid hr; clear hr
  have HZ := Lib.hid hz; clear hz
  have hm1 : ∀ w, (Instr.makeSlice 33 (.int .i64 (N : Int)) (.int .i64 (N : Int))).run Try.prog w = .ok (.slice (some ⟨w.heap.size, 0, none⟩) N N) (w.alloc (.cells (Array.ofFn fun _ : Fin N => .int .i64 0) 3)) := fun w => make_one 33 3 _ 8 Try.underlying33 info3 rfl (by omega) N (by omega) w
  have HA := Lib.hid hA; have HO := Lib.hid hO; have HF := Lib.hid hF
  clear hO
  obtain ⟨A, c, rfl, hac, hcm, -⟩ := hA
  obtain ⟨A2, c2, rfl, hac2, hcm2, -⟩ := hF
  go_enter Try.func20, Try.ntmps20
  go_upto_region 2 with fail
  have bb := al2 W (.cells #[.int .i64 N, .slice A a.n c] 24) (.cells (Array.ofFn fun _ : Fin N => Value.int .i64 0) 3)
  have hh0 : ((W.alloc (.cells #[.int .i64 N, .slice A a.n c] 24)).alloc (.cells (Array.ofFn fun _ : Fin N => Value.int .i64 0) 3)).heap[W.heap.size]? = some (.cells #[.int .i64 N, .slice A a.n c] 24 (0, 0)) := (Below.heap_alloc _ _ _ (by simp)).trans (heap_alloc_new W _)
  have hb : BI ((W.alloc (.cells #[.int .i64 N, .slice A a.n c] 24)).alloc (.cells (Array.ofFn fun _ : Fin N => Value.int .i64 0) 3)) (W.heap.size + 1) N (fun _ => 0) := by
    have := heap_alloc_new (W.alloc (.cells #[.int .i64 N, .slice A a.n c] 24)) (.cells (Array.ofFn fun _ : Fin N => Value.int .i64 0) 3)
    simp only [World.size_alloc] at this
    exact this
  generalize (W.alloc (.cells #[.int .i64 N, .slice A a.n c] 24)).alloc (.cells (Array.ofFn fun _ : Fin N => Value.int .i64 0) 3) = W1 at *
  have HH := Lib.hid (And.intro hh0 (And.intro hb (show Ext W W1 from bb)))
  obtain ⟨m0, m1, m2, m3⟩ := two hh0
  clear hh0 hb bb m0 m2
  go_wp2_with fail
  clear m1
  go_loopw [16] (fun i wr => ∃ k : Nat, i = .int .i64 k ∧ k ≤ a.n ∧ Hid ((∀ j, j < k → inR a f j = true) ∧ wr.heap[W.heap.size]? = some (.cells #[.int .i64 N, .slice A a.n c] 24 (0, 0)) ∧ BI wr (W.heap.size + 1) N (fun v => -sm k (tm a f v)) ∧ Ext W wr)) (fun i _ => a.n - (intOf i).toNat)
  case atStart => exact ⟨0, rfl, Nat.zero_le _, Lib.hid ⟨fun j hj => by omega, HH.out.1, HH.out.2.1, HH.out.2.2⟩⟩
  case round =>
    obtain ⟨k, rfl, hk, hin⟩ := hrel
    obtain ⟨m0, m1, m2, m3⟩ := two hin.out.2.1
    by_cases hlt : k < a.n
    · obtain ⟨b, off, rfl, d1, d2, d3⟩ := HA.out.arc hin.out.2.2.2 hlt
      obtain ⟨fk, hfk, hfN⟩ : ∃ x : Nat, a.f k = (x : Int) ∧ x < N := ⟨(a.f k).toNat, by have := HO.out.f0 k hlt; omega, by have := HO.out.f0 k hlt; have := HO.out.fN k hlt; omega⟩
      obtain ⟨tk, htk, htN⟩ : ∃ x : Nat, a.t k = (x : Int) ∧ x < N := ⟨(a.t k).toNat, by have := HO.out.t0 k hlt; omega, by have := HO.out.t0 k hlt; have := HO.out.tN k hlt; omega⟩
      have hne : fk ≠ tk := by have := HO.out.ne k hlt; omega
      have hcM := HO.out.cM k hlt
      obtain ⟨b2, off2, rfl, hb2, e1⟩ := Vl.at HF.out hin.out.2.2.2 hlt
      rw [hfk] at d1
      rw [htk] at d2
      obtain ⟨ck, hck⟩ : ∃ x, x = a.c k := ⟨_, rfl⟩
      obtain ⟨xk, hxk⟩ : ∃ x, x = f k := ⟨_, rfl⟩
      rw [← hck] at d3 hcM; simp only [← hxk] at e1
      have hin2 : inR a f k = bw xk 0 ck := by unfold inR; rw [← hxk, ← hck]
      have HI := Lib.hid hin2; have HFT := Lib.hid (And.intro hfk (And.intro htk hxk))
      have hbk : ∀ v, -(k * 1000000) ≤ sm k (tm a f v) ∧ sm k (tm a f v) ≤ k * 1000000 := fun v => sm_bd (n := k) (f := tm a f v) (B := 1000000) (fun i hi => by
        have h1 := bw_iff.1 (hin.out.1 i hi)
        have h2 := HO.out.cM i (by omega)
        unfold tm; split <;> split <;> omega)
      have HBK := Lib.hid hbk
      clear hck hxk hin2 hfk htk hbk
      go_upto_region 5 with fail
      have g0 : (wr.alloc (.cells #[.int .i64 fk, .int .i64 tk, .int .i64 ck] 64)).cell? ⟨wr.heap.size, 0, none⟩ = some (.int .i64 fk) := by rw [World.cell?_alloc_new]; rfl
      have g1 : (wr.alloc (.cells #[.int .i64 fk, .int .i64 tk, .int .i64 ck] 64)).cell? ⟨wr.heap.size, 1, none⟩ = some (.int .i64 tk) := by rw [World.cell?_alloc_new]; rfl
      have g2 : (wr.alloc (.cells #[.int .i64 fk, .int .i64 tk, .int .i64 ck] 64)).cell? ⟨wr.heap.size, 2, none⟩ = some (.int .i64 ck) := by rw [World.cell?_alloc_new]; rfl
      have gx := keepAt (Ext.alc (Ext.refl wr) (.cells #[.int .i64 fk, .int .i64 tk, .int .i64 ck] 64)) hb2 e1
      have gb := BI.ext hin.out.2.2.1 (Ext.alc (Ext.refl wr) (.cells #[.int .i64 fk, .int .i64 tk, .int .i64 ck] 64))
      have gh := (Below.heap_alloc wr (.cells #[.int .i64 fk, .int .i64 tk, .int .i64 ck] 64) W.heap.size m3).trans hin.out.2.1
      have ge := hin.out.2.2.2.alc (.cells #[.int .i64 fk, .int .i64 tk, .int .i64 ck] 64)
      have gz := Bk.lt hin.out.2.2.1
      have hb2W : b2 < W.heap.size := by
        obtain ⟨A', c', e', _, _, h3⟩ := HF.out
        injection e' with q1 _ _
        obtain ⟨b', o', q2, q3, -⟩ := h3 (by omega)
        rw [← q1] at q2
        injection q2 with q2; injection q2 with q2
        omega
      generalize wr.alloc (.cells #[.int .i64 fk, .int .i64 tk, .int .i64 ck] 64) = w2 at *
      have HG := Lib.hid (And.intro gb (And.intro gh ge))
      have c4 : w2.cell? ⟨W.heap.size + 1, fk, none⟩ = some (.int .i64 (-sm k (tm a f fk))) := Bk.cell gb hfN
      have f4 := Bk.free gb fk
      obtain ⟨sf, hsf⟩ : ∃ x, x = sm k (tm a f fk) := ⟨_, rfl⟩
      obtain ⟨st, hst⟩ : ∃ x, x = sm k (tm a f tk) := ⟨_, rfl⟩
      rw [← hsf] at c4
      have HSF := Lib.hid (And.intro hsf hst)
      have hkk : k * 1000000 ≤ 1000000000 := by have : k * 1000000 ≤ 1000 * 1000000 := Nat.mul_le_mul_right _ (by omega); omega
      have hsfb : -1000000000 ≤ sf ∧ sf ≤ 1000000000 := by have := HBK.out fk; rw [← hsf] at this; omega
      have hstb : -1000000000 ≤ st ∧ st ≤ 1000000000 := by have := HBK.out tk; rw [← hst] at this; omega
      clear gb gh ge e1 d1 d2 d3 m0 m1 m2 hsf hst hkk
      by_cases hx0 : xk < 0
      · have hr : r = false := by rw [HR.out]; exact isFlB_no1 hlt (by rw [HI.out]; exact bw_f1 hx0)
        have hz0 : z = 0 := by rw [HZ.out, hr]; rfl
        have HR2 := Lib.hid hr; clear hr
        subst hz0
        have gxd : w2.drew.cell? ⟨b2, off2 + k, none⟩ = some (.int .i64 xk) := gx
        clear gx g0 g1 g2 c4 f4
        go_region
        all_goals go_wp2
        all_goals exact bodyPost_ret (v := .tuple #[.int .i64 0, .bool false]) (by simp [results, Try.results20, go_sem]) rfl ⟨by rw [HR2.out], HG.out.2.2.drw⟩
      · by_cases hxc : ck < xk
        · have hr : r = false := by rw [HR.out]; exact isFlB_no1 hlt (by rw [HI.out]; exact bw_f2 hxc)
          have hz0 : z = 0 := by rw [HZ.out, hr]; rfl
          have HR2 := Lib.hid hr; clear hr
          subst hz0
          have gxd : w2.drew.cell? ⟨b2, off2 + k, none⟩ = some (.int .i64 xk) := gx
          have g2d : w2.drew.cell? ⟨wr.heap.size, 2, none⟩ = some (.int .i64 ck) := g2
          clear gx g0 g1 g2 c4 f4
          go_region
          all_goals go_wp2
          all_goals exact bodyPost_ret (v := .tuple #[.int .i64 0, .bool false]) (by simp [results, Try.results20, go_sem]) rfl ⟨by rw [HR2.out], HG.out.2.2.drw⟩
        · have hok : inR a f k = true := by rw [HI.out]; exact bw_iff.2 ⟨by omega, by omega⟩
          have HOK := Lib.hid hok; clear hok
          have HGG := Lib.hid (And.intro g0 (And.intro g1 (And.intro gx (And.intro c4 f4))))
          have gxd : w2.drew.cell? ⟨b2, off2 + k, none⟩ = some (.int .i64 xk) := gx
          have g2d : w2.drew.cell? ⟨wr.heap.size, 2, none⟩ = some (.int .i64 ck) := g2
          clear gx g0 g1 g2 c4 f4
          go_region
          have HG3 : Hid (BI w2.drew (W.heap.size + 1) N (fun v => -sm k (tm a f v)) ∧ w2.drew.heap[W.heap.size]? = some (.cells #[.int .i64 N, .slice (some ⟨b, off, none⟩) a.n c] 24 (0, 0)) ∧ Ext W w2.drew) := Lib.hid ⟨HG.out.1, HG.out.2.1, HG.out.2.2.drw⟩
          have HGG3 : Hid (w2.drew.cell? ⟨wr.heap.size, 0, none⟩ = some (.int .i64 fk) ∧ w2.drew.cell? ⟨wr.heap.size, 1, none⟩ = some (.int .i64 tk) ∧ w2.drew.cell? ⟨b2, off2 + k, none⟩ = some (.int .i64 xk) ∧ w2.drew.cell? ⟨W.heap.size + 1, fk, none⟩ = some (.int .i64 (-sf)) ∧ w2.drew.frozen? ⟨W.heap.size + 1, fk, none⟩ = false) := HGG
          clear HG HGG gxd g2d
          generalize w2.drew = w3 at *
          obtain ⟨g0, g1, gx, c4, f4⟩ := HGG3.out
          go_upto_region 7 with fail
          have g0d : w3.drew.cell? ⟨wr.heap.size, 0, none⟩ = some (.int .i64 fk) := g0
          have gxd : w3.drew.cell? ⟨b2, off2 + k, none⟩ = some (.int .i64 xk) := gx
          have c4d : w3.drew.cell? ⟨W.heap.size + 1, fk, none⟩ = some (.int .i64 (-sf)) := c4
          have f4d : w3.drew.frozen? ⟨W.heap.size + 1, fk, none⟩ = false := f4
          clear g0 g1 gx c4 f4
          go_region
          have y1 : BI (w3.setCell ⟨W.heap.size + 1, fk, none⟩ (.int .i64 (-sf - xk))).drew (W.heap.size + 1) N (up (fun v => -sm k (tm a f v)) fk (-sf - xk)) := BI.set_ HG3.out.1 fk (-sf - xk)
          have y2 : (w3.setCell ⟨W.heap.size + 1, fk, none⟩ (.int .i64 (-sf - xk))).drew.heap[W.heap.size]? = some (.cells #[.int .i64 N, .slice (some ⟨b, off, none⟩) a.n c] 24 (0, 0)) := (Below.heap_setCell w3 ⟨W.heap.size + 1, fk, none⟩ _ W.heap.size (by simp)).trans HG3.out.2.1
          have y3 : Ext W (w3.setCell ⟨W.heap.size + 1, fk, none⟩ (.int .i64 (-sf - xk))).drew := (HG3.out.2.2.sc (by omega)).drw
          have y4 : (w3.setCell ⟨W.heap.size + 1, fk, none⟩ (.int .i64 (-sf - xk))).drew.cell? ⟨wr.heap.size, 1, none⟩ = some (.int .i64 tk) := (World.cell?_of_block (Below.heap_setCell w3 ⟨W.heap.size + 1, fk, none⟩ _ wr.heap.size (by show wr.heap.size ≠ W.heap.size + 1; omega))).trans HGG3.out.2.1
          have y5 : (w3.setCell ⟨W.heap.size + 1, fk, none⟩ (.int .i64 (-sf - xk))).drew.cell? ⟨b2, off2 + k, none⟩ = some (.int .i64 xk) := (World.cell?_of_block (Below.heap_setCell w3 ⟨W.heap.size + 1, fk, none⟩ _ b2 (by show b2 ≠ W.heap.size + 1; omega))).trans HGG3.out.2.2.1
          clear g0d gxd c4d f4d HG3 HGG3
          generalize (w3.setCell ⟨W.heap.size + 1, fk, none⟩ (.int .i64 (-sf - xk))).drew = w4 at *
          have c5 : w4.cell? ⟨W.heap.size + 1, tk, none⟩ = some (.int .i64 (up (fun v => -sm k (tm a f v)) fk (-sf - xk) tk)) := Bk.cell y1 htN
          rw [up_ne _ _ (fun e : tk = fk => hne e.symm), ← HSF.out.2] at c5
          have f5 := Bk.free y1 tk
          have HY := Lib.hid (And.intro y1 (And.intro y2 y3))
          go_upto_region 8 with fail
          have y4d : w4.drew.cell? ⟨wr.heap.size, 1, none⟩ = some (.int .i64 tk) := y4
          have y5d : w4.drew.cell? ⟨b2, off2 + k, none⟩ = some (.int .i64 xk) := y5
          have c5d : w4.drew.cell? ⟨W.heap.size + 1, tk, none⟩ = some (.int .i64 (-st)) := c5
          have f5d : w4.drew.frozen? ⟨W.heap.size + 1, tk, none⟩ = false := f5
          clear y1 y2 y3 y4 y5 c5 f5
          go_region
          have z1 : BI (w4.setCell ⟨W.heap.size + 1, tk, none⟩ (.int .i64 (-st + xk))).drew (W.heap.size + 1) N (up (up (fun v => -sm k (tm a f v)) fk (-sf - xk)) tk (-st + xk)) := BI.set_ HY.out.1 tk (-st + xk)
          have z2 : (w4.setCell ⟨W.heap.size + 1, tk, none⟩ (.int .i64 (-st + xk))).drew.heap[W.heap.size]? = some (.cells #[.int .i64 N, .slice (some ⟨b, off, none⟩) a.n c] 24 (0, 0)) := (Below.heap_setCell w4 ⟨W.heap.size + 1, tk, none⟩ _ W.heap.size (by simp)).trans HY.out.2.1
          have z3 : Ext W (w4.setCell ⟨W.heap.size + 1, tk, none⟩ (.int .i64 (-st + xk))).drew := (HY.out.2.2.sc (by omega)).drw
          have z4 : up (up (fun v => -sm k (tm a f v)) fk (-sf - xk)) tk (-st + xk) = fun v => -sm (k + 1) (tm a f v) := by
            rw [HSF.out.1, HSF.out.2, HFT.out.2.2]
            exact over_step a f hne (by have := HFT.out.1; omega) (by have := HFT.out.2.1; omega)
          rw [z4] at z1
          have HZ4 := Lib.hid (And.intro z1 (And.intro z2 z3))
          clear z1 z2 z3 z4 y4d y5d c5d f5d HY
          generalize (w4.setCell ⟨W.heap.size + 1, tk, none⟩ (.int .i64 (-st + xk))).drew = w5 at *
          go_wp2
          go_roundw
          case rel =>
            refine ⟨k + 1, by go_num, by omega, Lib.hid ⟨fun j hj => ?_, HZ4.out.2.1, HZ4.out.1, HZ4.out.2.2⟩⟩
            by_cases e : j = k
            · subst e; exact HOK.out
            · exact hin.out.1 j (by omega)
          case measure => simp [intOf]; omega
    · obtain rfl : k = a.n := by omega
      obtain ⟨wo, rfl⟩ : ∃ w, w = wr := ⟨_, rfl⟩
      have hall : ∀ j, j < a.n → 0 ≤ f j ∧ f j ≤ a.c j := fun j hj => bw_iff.1 (hin.out.1 j hj)
      have hbk : ∀ v, -(a.n * 1000000) ≤ sm a.n (tm a f v) ∧ sm a.n (tm a f v) ≤ a.n * 1000000 := fun v => sm_bd (n := a.n) (f := tm a f v) (B := 1000000) (fun i hi => by
        have h1 := hall i hi
        have h2 := HO.out.cM i (by omega)
        unfold tm; split <;> split <;> omega)
      have HALL := Lib.hid hall; have HBK := Lib.hid hbk
      have hkk : a.n * 1000000 ≤ 1000000000 := by have : a.n * 1000000 ≤ 1000 * 1000000 := Nat.mul_le_mul_right _ (by omega); omega
      clear hall hbk m1 m2
      go_wp2_with fail
      go_loopw [9] (fun i wz => ∃ v : Nat, i = .int .i64 v ∧ 1 ≤ v ∧ v ≤ N - 1 ∧ Hid (∀ j, j + 1 < v → a.nw.sp f (j + 1) = 0) ∧ wz = wo) (fun i _ => N - (intOf i).toNat)
      case atStart => exact ⟨1, rfl, Nat.le_refl _, by omega, Lib.hid (fun j hj => by omega), rfl⟩
      case round =>
        obtain ⟨v, rfl, hv1, hv2, hsp, hwz⟩ := hrel
        rw [hwz]; clear hwz
        by_cases hlt2 : v < N - 1
        · have hlt3 : (v : Int) < (N : Int) - 1 := by omega
          have cv : wo.cell? ⟨W.heap.size + 1, v, none⟩ = some (.int .i64 (-sm a.n (tm a f v))) := Bk.cell hin.out.2.2.1 (by omega)
          have hvN : v < N := by omega
          obtain ⟨x, hx⟩ : ∃ x, x = sm a.n (tm a f v) := ⟨_, rfl⟩
          rw [← hx] at cv
          have HX := Lib.hid hx
          clear hx
          by_cases h0 : x = 0
          · subst h0
            have cv0 : wo.cell? ⟨W.heap.size + 1, v, none⟩ = some (.int .i64 0) := cv
            clear cv
            go_wp2
            go_roundw
            case rel =>
              refine ⟨v + 1, by go_num, by omega, by omega, Lib.hid (fun j hj => ?_), by trivial⟩
              by_cases e : j + 1 = v
              · rw [e, sp_tm]; exact HX.out.symm
              · exact hsp.out j (by omega)
            case measure => simp [intOf]; omega
          · have hr : r = false := by
              rw [HR.out]
              exact isFlB_no2 (i := v - 1) (by omega) (by rw [show v - 1 + 1 = v by omega, sp_tm, ← HX.out]; exact h0)
            have hz0 : z = 0 := by rw [HZ.out, hr]; rfl
            have HR2 := Lib.hid hr; clear hr
            subst hz0
            have hneg : ¬ (-x = 0) := by omega
            go_wp2
            exact bodyPost_ret (v := .tuple #[.int .i64 0, .bool false]) (by simp [results, Try.results20, go_sem]) rfl ⟨by rw [HR2.out], hin.out.2.2.2⟩
        · obtain rfl : v = N - 1 := by omega
          have hlt3 : ¬ ((N - 1 : Nat) : Int) < (N : Int) - 1 := by omega
          have hr : r = true := by rw [HR.out]; exact isFlB_iff.2 ⟨HALL.out, fun i hi => hsp.out i (by omega)⟩
          have cv : wo.cell? ⟨W.heap.size + 1, 0, none⟩ = some (.int .i64 (-sm a.n (tm a f 0))) := Bk.cell hin.out.2.2.1 (by omega)
          have hz0 : z = sm a.n (tm a f 0) := by rw [HZ.out, hr, if_pos rfl, sp_tm]
          rw [← hz0] at cv
          have hzb := HBK.out 0
          rw [← hz0] at hzb
          have hzb2 : -1000000000 ≤ z ∧ z ≤ 1000000000 := by omega
          have HR2 := Lib.hid hr; clear hr hz0 hzb
          have h0N : (0 : Int) < N := by omega
          have hng : - -z = z := by omega
          go_wp2
          exact bodyPost_ret (v := .tuple #[.int .i64 z, .bool true]) (by simp [results, Try.results20, go_sem]) rfl ⟨by rw [HR2.out], hin.out.2.2.2⟩
end Go.Proofs.Ytilcbbdmenknfaa
