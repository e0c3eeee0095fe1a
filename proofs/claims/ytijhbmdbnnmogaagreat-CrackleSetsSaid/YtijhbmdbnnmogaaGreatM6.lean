/- Walks: isCycle. · Bonds as mathematics: what isBond counts, and the least cuts. -/
import Derived.Test.YtijhbmdbnnmogaaGreatM5
import Derived.Test.YtijhbmdbnnmogaaGreatM4
namespace Go.Proofs.YtijhbmdbnnmogaaGreat.G
open Go.RowKit

/-- what isCycle answers -/
def isCy (N E : Nat) (us vs : Nat → Nat) (S : Nat → Bool) : Bool := decide (ck us vs S (fun v => v) E = 1) && !ab (fun v => bd ((mt us vs S E v : Nat) : Int)) N
theorem mt_le (us vs : Nat → Nat) (S : Nat → Bool) (v : Nat) : ∀ k, mt us vs S k v ≤ 2 * k
  | 0 => Nat.le_refl _
  | k + 1 => by
    have := mt_le us vs S v k
    unfold mt
    split <;> split <;> omega
theorem ck_le (us vs : Nat → Nat) (S : Nat → Bool) (l : Nat → Nat) : ∀ k, ck us vs S l k ≤ k
  | 0 => Nat.le_refl _
  | k + 1 => by
    have := ck_le us vs S l k
    unfold ck
    split <;> omega
set_option maxHeartbeats 4000000 in
set_option maxRecDepth 100000 in
theorem isCycle_any (N n : Nat) (t : Nat → Nat) (z : Int) (SV : Value) (W : World) (hS : Il W SV n (fun d => ((t d : Nat) : Int))) (hn : n ≤ 100) (hN : N ≤ 100) (ht : ∀ d, d < n → t d < N) :
    Calls Tryz.prog 69 #[.agg #[.int .i64 (N : Nat), SV], .int .i64 z] W fun r W' => r = .returned (.bool (isCy N (n / 2) (eu t) (ev t) (zb z))) ∧ Ext W W' := by
  have HS := Lib.hid hS; have HT := Lib.hid ht
  clear ht
  obtain ⟨A, c, rfl, hac, hcm, -⟩ := hS
  obtain ⟨E, hE⟩ : ∃ E, E = n / 2 := ⟨_, rfl⟩
  have hE2 : ∀ e, e < E → 2 * e + 1 < n := fun e he => by omega
  have HE := Lib.hid hE2
  have HEE := Lib.hid hE
  have hE3 : E ≤ 50 := by omega
  rw [← hE]
  clear hE hE2
  have hm1 : ∀ w, (Instr.makeSlice 22 (.int .i64 (N : Int)) (.int .i64 (N : Int))).run Tryz.prog w = .ok (.slice (some ⟨w.heap.size, 0, none⟩) N N) (w.alloc (.cells (Array.ofFn fun _ : Fin N => .int .i64 0) 3)) := fun w => make_one 22 3 _ 8 Tryz.underlying22 info3 rfl (by omega) N (by omega) w
  go_enter Tryz.func69, Tryz.ntmps69
  go_upto_region 1 with fail
  have bb := al1 W (.cells #[.int .i64 (N : Nat), .slice A n c] 72)
  obtain ⟨m0, m1, -, mz⟩ := two (heap_alloc_new W (.cells #[.int .i64 (N : Nat), .slice A n c] 72))
  generalize W.alloc (.cells #[.int .i64 (N : Nat), .slice A n c] 72) = W1 at *
  have HB : Hid (Ext W W1) := Lib.hid bb
  have HM := Lib.hid (And.intro m0 m1)
  clear bb m0 m1
  go_cut [5, 6, 7] from 12 to 16 (fun s5 s6 s7 wx => ∃ g1 gp, s5 = .slice (some ⟨g1, 0, none⟩) N N ∧ s6 = .slice (some ⟨gp, 0, none⟩) N N ∧ s7 = .int .i64 0 ∧ BI wx g1 N (fun _ => 0) ∧ BI wx gp N (fun v => ((v : Nat) : Int)) ∧ g1 ≠ gp ∧ W1.heap.size ≤ g1 ∧ W1.heap.size ≤ gp ∧ Ext W1 wx)
  case first =>
    refine wp_region_noPanic ?_
    refine wp_region_held_drew (S := fun X => Ext W1 X) (by kernel_rfl) (Ext.drw (Ext.refl _)) (fun _ => ?_)
    refine take_at 0 (some 12) (.pointer (some ⟨W.heap.size, 0, none⟩)) rfl rfl (by kernel_rfl) (by kernel_rfl) (by kernel_rfl) (fun _ _ _ h => h) (Or.inl ⟨by rfl, fun w' hSw => ?_⟩) (Ext.drw (Ext.refl _)) ?_
    · skip
      try clear hSw
      go_simp
      all_goals (with_reducible rfl)
    try simp only [Act.put, List.setIfInBounds_toArray, List.set_cons_zero, List.set_cons_succ]
    refine take_at 1 (some 13) (.int .i64 (N : Int)) rfl rfl (by kernel_rfl) (by kernel_rfl) (by kernel_rfl) (fun _ _ _ h => h) (Or.inl ⟨by rfl, fun w' hSw => ?_⟩) (Ext.drw (Ext.refl _)) ?_
    · have z0 := keepAt hSw mz HM.out.1
      have z1 := keepAt hSw mz HM.out.2
      try clear hSw
      go_simp
      all_goals (with_reducible rfl)
    try simp only [Act.put, List.setIfInBounds_toArray, List.set_cons_zero, List.set_cons_succ]
    refine take_at 3 (some 15) (.agg #[.int .i64 (N : Int), .slice A n c]) rfl rfl (by kernel_rfl) (by kernel_rfl) (by kernel_rfl) (fun _ _ _ h => h) (Or.inl ⟨by rfl, fun w' hSw => ?_⟩) (Ext.drw (Ext.refl _)) ?_
    · have z0 := keepAt hSw mz HM.out.1
      have z1 := keepAt hSw mz HM.out.2
      try clear hSw
      go_simp
      all_goals (with_reducible rfl)
    try simp only [Act.put, List.setIfInBounds_toArray, List.set_cons_zero, List.set_cons_succ]
    refine wpAnyH_ready (rs := [2, 4]) (by kernel_rfl) (by simp) ?_
    refine AllReadyH.cons rfl (fun K hK => ?_) (AllReadyH.cons rfl (fun K hK => ?_) AllReadyH.nil)
    · go_simp
      have e2 : Ext W1 (W1.drew.alloc (.cells (Array.ofFn fun _ : Fin N => Value.int .i64 0) 3)) := Ext.alc (Ext.drw (Ext.refl _)) _
      refine hK.out _ _ e2 (fun _ => ?_)
      clear hK K
      try simp only [Act.put, List.setIfInBounds_toArray, List.set_cons_zero, List.set_cons_succ]
      refine wpAnyH_ready (rs := [4]) (by kernel_rfl) (by simp) ?_
      refine AllReadyH.cons rfl (fun K hK => ?_) AllReadyH.nil
      go_simp
      refine (apart_any N hN _ n _ _ (HS.out.ext (HB.out.trans (e2)))).mono ?_
      rintro e v4 ⟨gp, rfl, hgp, hb_p, hb4⟩
      have e4 : Ext W1 v4 := (e2).trans hb4
      try go_wp2_with fail
      refine hK.out _ _ e4 (fun _ => ?_)
      clear hK K
      try simp only [Act.put, List.setIfInBounds_toArray, List.set_cons_zero, List.set_cons_succ]
      refine take_at 5 (some 5) (.slice (some ⟨W1.heap.size, 0, none⟩) N N) rfl rfl (by kernel_rfl) (by kernel_rfl) (by kernel_rfl) (fun _ _ _ h => h) (Or.inl ⟨by rfl, fun w' hSw => ?_⟩) (e4) ?_
      · skip
        try clear hSw
        go_simp
        all_goals (with_reducible rfl)
      try simp only [Act.put, List.setIfInBounds_toArray, List.set_cons_zero, List.set_cons_succ]
      refine take_at 6 (some 6) (.slice (some ⟨gp, 0, none⟩) N N) rfl rfl (by kernel_rfl) (by kernel_rfl) (by kernel_rfl) (fun _ _ _ h => h) (Or.inl ⟨by rfl, fun w' hSw => ?_⟩) (e4) ?_
      · skip
        try clear hSw
        go_simp
        all_goals (with_reducible rfl)
      try simp only [Act.put, List.setIfInBounds_toArray, List.set_cons_zero, List.set_cons_succ]
      refine take_at 7 (some 7) (.int .i64 0) rfl rfl (by kernel_rfl) (by kernel_rfl) (by kernel_rfl) (fun _ _ _ h => h) (Or.inl ⟨by rfl, fun w' hSw => ?_⟩) (e4) ?_
      · skip
        try clear hSw
        go_simp
        all_goals (with_reducible rfl)
      try simp only [Act.put, List.setIfInBounds_toArray, List.set_cons_zero, List.set_cons_succ]
      refine wpAnyH_done (by kernel_rfl) ?_ _
      refine NoPanic.normal ?_
      go_wp2_with fail
      go_meet
      have q1 : BI (W1.drew.alloc (.cells (Array.ofFn fun _ : Fin N => Value.int .i64 0) 3)) W1.heap.size N (fun _ => 0) := heap_alloc_new W1.drew _
      have q2 : W1.heap.size + 1 ≤ gp := by simpa using hgp
      exact ⟨_, gp, rfl, rfl, rfl, q1.ext hb4, hb_p, by omega, Nat.le_refl _, by omega, e4⟩
    · go_simp
      refine (apart_any N hN _ n _ _ (HS.out.ext (HB.out.trans (Ext.drw (Ext.refl _))))).mono ?_
      rintro e v4 ⟨gp, rfl, hgp, hb_p, hb4⟩
      have e4 : Ext W1 v4 := (Ext.drw (Ext.refl _)).trans hb4
      try go_wp2_with fail
      refine hK.out _ _ e4 (fun _ => ?_)
      clear hK K
      try simp only [Act.put, List.setIfInBounds_toArray, List.set_cons_zero, List.set_cons_succ]
      refine wpAnyH_ready (rs := [2]) (by kernel_rfl) (by simp) ?_
      refine AllReadyH.cons rfl (fun K hK => ?_) AllReadyH.nil
      go_simp
      have e2 : Ext W1 (v4.alloc (.cells (Array.ofFn fun _ : Fin N => Value.int .i64 0) 3)) := Ext.alc e4 _
      refine hK.out _ _ e2 (fun _ => ?_)
      clear hK K
      try simp only [Act.put, List.setIfInBounds_toArray, List.set_cons_zero, List.set_cons_succ]
      refine take_at 5 (some 5) (.slice (some ⟨v4.heap.size, 0, none⟩) N N) rfl rfl (by kernel_rfl) (by kernel_rfl) (by kernel_rfl) (fun _ _ _ h => h) (Or.inl ⟨by rfl, fun w' hSw => ?_⟩) (e2) ?_
      · skip
        try clear hSw
        go_simp
        all_goals (with_reducible rfl)
      try simp only [Act.put, List.setIfInBounds_toArray, List.set_cons_zero, List.set_cons_succ]
      refine take_at 6 (some 6) (.slice (some ⟨gp, 0, none⟩) N N) rfl rfl (by kernel_rfl) (by kernel_rfl) (by kernel_rfl) (fun _ _ _ h => h) (Or.inl ⟨by rfl, fun w' hSw => ?_⟩) (e2) ?_
      · skip
        try clear hSw
        go_simp
        all_goals (with_reducible rfl)
      try simp only [Act.put, List.setIfInBounds_toArray, List.set_cons_zero, List.set_cons_succ]
      refine take_at 7 (some 7) (.int .i64 0) rfl rfl (by kernel_rfl) (by kernel_rfl) (by kernel_rfl) (fun _ _ _ h => h) (Or.inl ⟨by rfl, fun w' hSw => ?_⟩) (e2) ?_
      · skip
        try clear hSw
        go_simp
        all_goals (with_reducible rfl)
      try simp only [Act.put, List.setIfInBounds_toArray, List.set_cons_zero, List.set_cons_succ]
      refine wpAnyH_done (by kernel_rfl) ?_ _
      refine NoPanic.normal ?_
      go_wp2_with fail
      go_meet
      have q1 : BI (v4.alloc (.cells (Array.ofFn fun _ : Fin N => Value.int .i64 0) 3)) v4.heap.size N (fun _ => 0) := heap_alloc_new v4 _
      have q2 := Bk.lt hb_p
      have q3 := e4.size
      have q4 : W1.heap.size ≤ gp := by simpa using hgp
      exact ⟨_, gp, rfl, rfl, rfl, q1, Bk.alloc hb_p _, by omega, by omega, q4, e2⟩
  case rest =>
    obtain ⟨g1, gp, rfl, rfl, rfl, h1, h2, hne, hg1, hgp, hx⟩ := hcut
    have HG := Lib.hid (And.intro h1 (And.intro h2 hx))
    have HNE := Lib.hid hne
    have hb1 := Bk.lt h1
    have hb2 := Bk.lt h2
    obtain ⟨B0, hB0⟩ : ∃ B, B = wc.heap.size := ⟨_, rfl⟩
    rw [← hB0] at hb1 hb2
    have m0 := keepAt hx mz HM.out.1
    have m1 := keepAt hx mz HM.out.2
    clear h1 h2 hx hne
    go_wp2_with fail
    refine (inside_any z (N : Nat) n (fun d => ((t d : Nat) : Int)) _ _ (HS.out.ext (HB.out.trans HG.out.2.2)) hn).mono ?_
    rintro e w2 ⟨LV, x, rfl, hq, hes, hx⟩
    rw [← HEE.out] at hq hes
    rw [← hB0] at hq
    obtain ⟨K, hK⟩ : ∃ K, K = ek (zb z) E := ⟨_, rfl⟩
    have hK3 : K ≤ 50 := by have := ek_le (zb z) E; omega
    rw [← hK] at hq
    have HL := Lib.hid hes
    have HK := Lib.hid hK
    obtain ⟨AL, cL, rfl, hacL, hcmL, -⟩ := hq.il
    have hcL := hcmL
    replace HG := Lib.hid (And.intro (HG.out.1.ext hx) (And.intro (HG.out.2.1.ext hx) (And.intro (HG.out.2.2.trans hx) hq)))
    clear hK hq hes hx m0 m1
    obtain ⟨S, hSS⟩ : ∃ S, S = zb z := ⟨_, rfl⟩
    rw [← hSS] at HL HK
    have HSZ := Lib.hid hSS
    clear hSS
    go_wp2_with fail
    go_loopw [7, 21] (fun s7 i wr => ∃ k : Nat, i = .int .i64 (ek S k : Nat) ∧ s7 = .int .i64 (ck (eu t) (ev t) S (fun v => v) k : Nat) ∧ Hid (k ≤ E ∧ BI wr g1 N (fun v => ((mt (eu t) (ev t) S k v : Nat) : Int)) ∧ BI wr gp N (fun v => ((lk (eu t) (ev t) S (fun v => v) k v : Nat) : Int)) ∧ Ext W1 wr ∧ Qs wr B0 (.slice AL K cL) K x)) (fun _ i _ => K - (intOf i).toNat)
    case atStart => exact ⟨0, rfl, rfl, Lib.hid ⟨Nat.zero_le _, HG.out.1, HG.out.2.1, HG.out.2.2.1, HG.out.2.2.2⟩⟩
    case round =>
      clear HG
      obtain ⟨k, rfl, rfl, hin⟩ := hrel
      obtain ⟨j, hj⟩ : ∃ j, j = ek S k := ⟨_, rfl⟩
      rw [← hj]
      have hjK : j ≤ K := by rw [hj, HK.out]; exact ek_mono S E hin.out.1
      have HJ := Lib.hid hj
      obtain ⟨cc, hcc⟩ : ∃ c, c = ck (eu t) (ev t) S (fun v => v) k := ⟨_, rfl⟩
      rw [← hcc]
      have hc3 : cc ≤ 50 := by have := ck_le (eu t) (ev t) S (fun v => v) k; have := hin.out.1; omega
      have HC := Lib.hid hcc
      clear hj hcc
      by_cases hlt : j < K
      · obtain ⟨e, a1, a2, a3, a4⟩ := next_ex S k E hin.out.1 (by rw [← HJ.out, ← HK.out]; exact hlt)
        have hje : ek S e = j := by rw [ek_skip S e a1 a4, HJ.out]
        have hle : lk (eu t) (ev t) S (fun v => v) e = lk (eu t) (ev t) S (fun v => v) k := lk_skip e a1 a4
        have hce : ck (eu t) (ev t) S (fun v => v) e = cc := by rw [HC.out]; exact ck_skip e a1 a4
        have hme := mt_skip (us := eu t) (vs := ev t) (S := S) e a1 a4
        have hxj : x j = (e : Int) := by rw [← hje]; exact HL.out e a2 a3
        obtain ⟨bl, ol, rfl, -, el⟩ := Vl.at hin.out.2.2.2.2.il (Ext.refl _) hlt
        rw [hxj] at el
        have he50 : e ≤ 50 := by omega
        have m0 := keepAt hin.out.2.2.2.1 mz HM.out.1
        have m1 := keepAt hin.out.2.2.2.1 mz HM.out.2
        have HA := Lib.hid (And.intro a2 (And.intro a3 (And.intro hje (And.intro hle (And.intro hce hme)))))
        obtain ⟨u, hu⟩ : ∃ u, u = t (2 * e) := ⟨_, rfl⟩
        obtain ⟨v, hv⟩ : ∃ v, v = t (2 * e + 1) := ⟨_, rfl⟩
        have hue : eu t e = u := hu.symm
        have hve : ev t e = v := hv.symm
        have huN : u < N := by rw [hu]; exact HT.out _ (by have := HE.out e a2; omega)
        have hvN : v < N := by rw [hv]; exact HT.out _ (HE.out e a2)
        clear a1 a3 a4 hje hle hce hme hxj
        go_wp2_with fail
        refine (ends_any (N : Nat) n (fun d => ((t d : Nat) : Int)) e _ _ (HS.out.ext (HB.out.trans hin.out.2.2.2.1)) (by omega) (HE.out e HA.out.1)).mono ?_
        rintro r w3 ⟨rfl, hx3⟩
        rw [← hu, ← hv]
        have HUV := Lib.hid (And.intro hue hve)
        have c1 := Bk.cell (hin.out.2.1.ext hx3) huN
        have f1 := Bk.free (hin.out.2.1.ext hx3) u
        obtain ⟨mu, hmu⟩ : ∃ q, q = mt (eu t) (ev t) S k u := ⟨_, rfl⟩
        have hmu3 : mu ≤ 100 := by have := mt_le (eu t) (ev t) S u k; have := hin.out.1; omega
        dsimp only at c1
        rw [← hmu] at c1
        have HN3 := Lib.hid (And.intro (hin.out.2.1.ext hx3) (And.intro (hin.out.2.2.1.ext hx3) (And.intro (hin.out.2.2.2.1.trans hx3) (hin.out.2.2.2.2.ext hx3))))
        have HMU := Lib.hid hmu
        clear hx3 m0 m1 el hu hv hmu hue hve a2
        go_upto_region 7 with fail
        have y1 := BI.set_ HN3.out.1 u ((mu : Int) + 1)
        have y2 : BI (w3.setCell ⟨g1, u, none⟩ (.int .i64 ((mu : Int) + 1))) gp N (fun v => ((lk (eu t) (ev t) S (fun v => v) k v : Nat) : Int)) := Bk.far HN3.out.2.1 (fun e => HNE.out e.symm) _
        have y3 := HN3.out.2.2.1.sc (i := u) (v := .int .i64 ((mu : Int) + 1)) hg1
        have y4 := HN3.out.2.2.2.far (i := u) (u := .int .i64 ((mu : Int) + 1)) hb1
        generalize w3.setCell ⟨g1, u, none⟩ (.int .i64 ((mu : Int) + 1)) = w4 at *
        have c2 := Bk.cell y1 hvN
        have f2 := Bk.free y1 v
        obtain ⟨mv, hmv⟩ : ∃ q, q = up (fun v => ((mt (eu t) (ev t) S k v : Nat) : Int)) u ((mu : Int) + 1) v := ⟨_, rfl⟩
        have hmv3 : 0 ≤ mv ∧ mv ≤ 200 := by
          rw [hmv]
          by_cases e : v = u
          · subst e; rw [up_self]; omega
          · rw [up_ne _ _ e]; have := mt_le (eu t) (ev t) S v k; have := hin.out.1; omega
        rw [← hmv] at c2
        have HN4 := Lib.hid (And.intro y1 (And.intro y2 (And.intro y3 y4)))
        have HMV := Lib.hid hmv
        clear y1 y2 y3 y4 c1 f1 hmv HN3
        go_upto_region 8 with fail
        have y1 := BI.set_ HN4.out.1 v (mv + 1)
        have y2 : BI (w4.setCell ⟨g1, v, none⟩ (.int .i64 (mv + 1))) gp N (fun v => ((lk (eu t) (ev t) S (fun v => v) k v : Nat) : Int)) := Bk.far HN4.out.2.1 (fun e => HNE.out e.symm) _
        have y3 := HN4.out.2.2.1.sc (i := v) (v := .int .i64 (mv + 1)) hg1
        have y4 := HN4.out.2.2.2.far (i := v) (u := .int .i64 (mv + 1)) hb1
        generalize w4.setCell ⟨g1, v, none⟩ (.int .i64 (mv + 1)) = w5 at *
        have y5 : BI w5 g1 N (fun w => ((mt (eu t) (ev t) S (e + 1) w : Nat) : Int)) := by
          refine Bk.congr y1 fun w _ => ?_
          dsimp only
          congr 1
          have h5 := HA.out.2.2.2.2.2 w
          conv => rhs; unfold mt
          rw [HUV.out.1, HUV.out.2, h5, HMV.out]
          have h6 := HMU.out
          have h7 := HA.out.2.1
          by_cases e1 : w = v
          · rw [if_pos (show S e = true ∧ v = w from ⟨h7, e1.symm⟩), ← e1, up_self]
            by_cases e2 : w = u
            · rw [if_pos (show S e = true ∧ u = w from ⟨h7, e2.symm⟩), e2, up_self]
              omega
            · rw [up_ne _ _ e2, if_neg (show ¬ (S e = true ∧ u = w) from fun h => e2 h.2.symm)]
              omega
          · rw [up_ne _ _ e1, if_neg (show ¬ (S e = true ∧ v = w) from fun h => e1 h.2.symm)]
            by_cases e2 : w = u
            · rw [if_pos (show S e = true ∧ u = w from ⟨h7, e2.symm⟩), e2, up_self]
              omega
            · rw [up_ne _ _ e2, if_neg (show ¬ (S e = true ∧ u = w) from fun h => e2 h.2.symm)]
              omega
        have HN5 := Lib.hid (And.intro y5 (And.intro y2 (And.intro y3 y4)))
        clear y1 y2 y3 y4 y5 c2 f2 HN4
        go_wp2_with fail
        refine (join_any N gp u v (lk (eu t) (ev t) S (fun v => v) k) hN huN hvN w5 HN5.out.2.1).mono ?_
        rintro r w6 ⟨rfl, h1, h2⟩
        have h3 := HN5.out.2.2.2.block (w' := w6) h2.size (fun g hg => h2.block g (HN5.out.2.2.2.1 g hg).2 (fun e => by injection e with e; have := (HN5.out.2.2.2.1 g hg).1; omega))
        have h4 : BI w6 g1 N (fun w => ((mt (eu t) (ev t) S (e + 1) w : Nat) : Int)) := Bk.grown HN5.out.1 h2 HNE.out
        have h5 : BI w6 gp N (fun v => ((lk (eu t) (ev t) S (fun v => v) (e + 1) v : Nat) : Int)) := by
          refine Bk.congr h1 fun w _ => ?_
          dsimp only
          congr 2
          conv => rhs; unfold lk
          rw [if_pos HA.out.2.1, HA.out.2.2.2.1, HUV.out.1, HUV.out.2]
        have HN6 := Lib.hid (And.intro (show e + 1 ≤ E by have := HA.out.1; omega) (And.intro h4 (And.intro h5 (And.intro (HN5.out.2.2.1.grown h2 hgp) h3))))
        obtain ⟨jb, hjb⟩ : ∃ b, b = (lk (eu t) (ev t) S (fun v => v) k u == lk (eu t) (ev t) S (fun v => v) k v) := ⟨_, rfl⟩
        rw [← hjb]
        have hck : ck (eu t) (ev t) S (fun v => v) (e + 1) = cc + if jb = true then 1 else 0 := by
          conv => lhs; unfold ck
          rw [HA.out.2.2.2.2.1, HUV.out.1, HUV.out.2, HA.out.2.2.2.1, hjb]
          congr 1
          by_cases c : lk (eu t) (ev t) S (fun v => v) k u = lk (eu t) (ev t) S (fun v => v) k v
          · rw [if_pos ⟨HA.out.2.1, c⟩, if_pos (by simp [c])]
          · rw [if_neg (fun h => c h.2), if_neg (by simp [c])]
        have HCK := Lib.hid hck
        clear hck hjb h1 h2 h3 h4 h5 HN5 hin
        cases jb
        · go_wp2
          go_roundw
          case rel => exact ⟨e + 1, by rw [ek_sx HA.out.2.1, HA.out.2.2.1]; go_num, by rw [HCK.out]; rfl, HN6⟩
          case measure => simp [intOf]; omega
        · go_wp2
          go_roundw
          case rel => exact ⟨e + 1, by rw [ek_sx HA.out.2.1, HA.out.2.2.1]; go_num, by rw [HCK.out]; go_num, HN6⟩
          case measure => simp [intOf]; omega
      · obtain rfl : j = K := by omega
        have h0 := none_left S hin.out.1 (by rw [← HJ.out, ← HK.out])
        have h1 := lk_skip (us := eu t) (vs := ev t) (l := fun v => v) E hin.out.1 h0
        have h2 := ck_skip (us := eu t) (vs := ev t) (l := fun v => v) E hin.out.1 h0
        have h3 := mt_skip (us := eu t) (vs := ev t) E hin.out.1 h0
        obtain ⟨ba, hba⟩ : ∃ b, b = ab (fun v => bd ((mt (eu t) (ev t) S E v : Nat) : Int)) N := ⟨_, rfl⟩
        have hcy : isCy N E (eu t) (ev t) (zb z) = (decide (cc = 1) && !ba) := by
          unfold isCy
          rw [← HSZ.out, h2, ← HC.out, hba]
        have hil : Il wr (.slice (some ⟨g1, 0, none⟩) N N) N (fun v => ((mt (eu t) (ev t) S E v : Nat) : Int)) := (BI.il (Bk.congr hin.out.2.1 (fun v _ => by dsimp only; rw [h3 v])) (by omega))
        have HF := Lib.hid (And.intro hcy (And.intro hil (And.intro (HB.out.trans hin.out.2.2.2.1) hba)))
        clear h0 h1 h2 h3 hba hcy hil
        by_cases h1 : cc = 1
        · subst h1
          go_wp2_with fail
          refine (containsBad_any N _ _ _ HF.out.2.1 (by omega)).mono ?_
          rintro r w7 ⟨rfl, hx7⟩
          rw [← HF.out.2.2.2]
          have HX7 := Lib.hid (HF.out.2.2.1.trans hx7)
          clear hx7
          cases ba
          · go_wp2
            go_ret
            exact ⟨by rw [HF.out.1]; rfl, HX7.out⟩
          · go_wp2
            go_ret
            exact ⟨by rw [HF.out.1]; rfl, HX7.out⟩
        · have hbe : ((cc : Int) == 1) = false := by simp; omega
          go_wp2
          go_ret
          exact ⟨by rw [HF.out.1, decide_eq_false h1]; rfl, HF.out.2.2.1⟩
end Go.Proofs.YtijhbmdbnnmogaaGreat.G
namespace Go.Proofs.YtijhbmdbnnmogaaGreat.G
open Go.RowKit

/-- how many of the edges below k that S marks joined two -/
def jk (us vs : Nat → Nat) (S : Nat → Bool) (l : Nat → Nat) : Nat → Nat
  | 0 => 0
  | k + 1 => jk us vs S l k + if S k = true ∧ lk us vs S l k (us k) ≠ lk us vs S l k (vs k) then 1 else 0
section
variable {n : Nat} {R : Nat → Nat → Prop} {a b c d : Nat}
theorem Jn.inside (hE : Eqv n R) (h : Jn R a b c d) {x y : Nat} (hj : Jn R c d x y) : Jn R a b x y := by
  have hJ := Jn.eqv (a := a) (b := b) hE
  rcases hj with h1 | ⟨h1, h2⟩ | ⟨h1, h2⟩
  · exact .inl h1
  · exact hJ.tr _ _ _ (.inl h1) (hJ.tr _ _ _ h (.inl h2))
  · exact hJ.tr _ _ _ (.inl h1) (hJ.tr _ _ _ (hJ.sy _ _ h) (.inl h2))
theorem Jn.turn (hE : Eqv n R) (h : Jn R a b c d) (hne : ¬ R c d) : Jn R c d a b := by
  rcases h with h1 | ⟨h1, h2⟩ | ⟨h1, h2⟩
  · exact absurd h1 hne
  · exact .inr (.inl ⟨hE.sy _ _ h1, hE.sy _ _ h2⟩)
  · exact .inr (.inr ⟨h2, h1⟩)
end
section
variable {n E : Nat} {us vs : Nat → Nat} {S : Nat → Bool} {l : Nat → Nat} {R : Nat → Nat → Prop}
/-- edges between different classes: one joins just if all lead between the same two -/
theorem jk_one (hE : Eqv n R) (hL : Lb n l R) (h : ∀ e, e < E → us e < n ∧ vs e < n) (hS : ∀ e, e < E → S e = true → ¬ R (us e) (vs e)) :
    jk us vs S l E = 1 ↔ ∃ e0, e0 < E ∧ S e0 = true ∧ ∀ e, e < E → S e = true → Jn R (us e0) (vs e0) (us e) (vs e) := by
  have hk : ∀ k, k ≤ E → Eqv n (rk us vs S R k) ∧ Lb n (lk us vs S l k) (rk us vs S R k) := fun k hk => rk_lb hE hL k (fun e he => h e (by omega))
  have hsame : ∀ k, k < E → (lk us vs S l k (us k) = lk us vs S l k (vs k) ↔ rk us vs S R k (us k) (vs k)) := fun k hk' => (hk k (by omega)).2 _ _ (h k hk').1 (h k hk').2
  have step0 : ∀ k, S k ≠ true → jk us vs S l (k + 1) = jk us vs S l k ∧ rk us vs S R (k + 1) = rk us vs S R k := fun k hc => by
    constructor
    · show jk us vs S l k + _ = _
      rw [if_neg (fun x => hc x.1)]; omega
    · show (if S k = true then _ else _) = _
      rw [if_neg hc]
  have step1 : ∀ k, S k = true → rk us vs S R (k + 1) = Jn (rk us vs S R k) (us k) (vs k) := fun k hc => by
    show (if S k = true then _ else _) = _
    rw [if_pos hc]
  have step2 : ∀ k, k < E → S k = true → rk us vs S R k (us k) (vs k) → jk us vs S l (k + 1) = jk us vs S l k := fun k hk' hc hr => by
    show jk us vs S l k + _ = _
    rw [if_neg (fun x => x.2 ((hsame k hk').2 hr))]; omega
  have step3 : ∀ k, k < E → S k = true → ¬ rk us vs S R k (us k) (vs k) → jk us vs S l (k + 1) = jk us vs S l k + 1 := fun k hk' hc hr => by
    show jk us vs S l k + _ = _
    rw [if_pos ⟨hc, fun x => hr ((hsame k hk').1 x)⟩]
  constructor
  · intro hj
    have key : ∀ k, k ≤ E → (jk us vs S l k = 0 → (∀ e, e < k → S e ≠ true) ∧ ∀ x y, rk us vs S R k x y ↔ R x y) ∧
        (jk us vs S l k = 1 → ∃ e0, e0 < k ∧ S e0 = true ∧ (∀ e, e < k → S e = true → Jn R (us e0) (vs e0) (us e) (vs e)) ∧ ∀ x y, rk us vs S R k x y ↔ Jn R (us e0) (vs e0) x y) := by
      intro k
      induction k with
      | zero => intro _; exact ⟨fun _ => ⟨fun e he => by omega, fun x y => Iff.rfl⟩, fun h => by cases h⟩
      | succ k ih =>
        intro hkE
        obtain ⟨i0, i1⟩ := ih (by omega)
        by_cases hc : S k = true
        · by_cases hr : rk us vs S R k (us k) (vs k)
          · have e1 := step2 k (by omega) hc hr
            rw [e1, step1 k hc]
            refine ⟨fun h0 => ?_, fun h1 => ?_⟩
            · exact absurd (((i0 h0).2 _ _).1 hr) (hS k (by omega) hc)
            · obtain ⟨e0, g1, g2, g3, g4⟩ := i1 h1
              refine ⟨e0, by omega, g2, fun e he hse => ?_, fun x y => ⟨fun hx => ?_, fun hx => .inl ((g4 x y).2 hx)⟩⟩
              · by_cases c : e = k
                · subst c; exact (g4 _ _).1 hr
                · exact g3 e (by omega) hse
              · rcases hx with hx | ⟨h2, h3⟩ | ⟨h2, h3⟩
                · exact (g4 _ _).1 hx
                · exact (g4 _ _).1 ((hk k (by omega)).1.tr _ _ _ h2 ((hk k (by omega)).1.tr _ _ _ hr h3))
                · exact (g4 _ _).1 ((hk k (by omega)).1.tr _ _ _ h2 ((hk k (by omega)).1.tr _ _ _ ((hk k (by omega)).1.sy _ _ hr) h3))
          · have e1 := step3 k (by omega) hc hr
            rw [e1, step1 k hc]
            refine ⟨fun h0 => by omega, fun h1 => ?_⟩
            obtain ⟨g1, g2⟩ := i0 (by omega)
            refine ⟨k, by omega, hc, fun e he hse => ?_, fun x y => ?_⟩
            · by_cases c : e = k
              · subst c
                exact .inr (.inl ⟨hE.rf _ (h e (by omega)).1, hE.rf _ (h e (by omega)).2⟩)
              · exact absurd hse (g1 e (by omega))
            · unfold Jn; rw [g2, g2, g2, g2, g2]
        · obtain ⟨e1, e2⟩ := step0 k hc
          rw [e1, e2]
          refine ⟨fun h0 => ⟨fun e he => ?_, (i0 h0).2⟩, fun h1 => ?_⟩
          · by_cases c : e = k
            · subst c; exact hc
            · exact (i0 h0).1 e (by omega)
          · obtain ⟨e0, g1, g2, g3, g4⟩ := i1 h1
            refine ⟨e0, by omega, g2, fun e he hse => ?_, g4⟩
            by_cases c : e = k
            · subst c; exact absurd hse hc
            · exact g3 e (by omega) hse
    obtain ⟨e0, g1, g2, g3, -⟩ := (key E (Nat.le_refl _)).2 hj
    exact ⟨e0, g1, g2, g3⟩
  · rintro ⟨e0, g1, g2, g3⟩
    have key : ∀ k, k ≤ E → ((∀ e, e < k → S e ≠ true) → jk us vs S l k = 0 ∧ ∀ x y, rk us vs S R k x y ↔ R x y) ∧
        ((∃ e, e < k ∧ S e = true) → jk us vs S l k = 1 ∧ ∀ x y, rk us vs S R k x y ↔ Jn R (us e0) (vs e0) x y) := by
      intro k
      induction k with
      | zero => intro _; exact ⟨fun _ => ⟨rfl, fun x y => Iff.rfl⟩, fun ⟨e, he, _⟩ => by omega⟩
      | succ k ih =>
        intro hkE
        obtain ⟨i0, i1⟩ := ih (by omega)
        by_cases hc : S k = true
        · refine ⟨fun hno => absurd hc (hno k (by omega)), fun _ => ?_⟩
          have hj := g3 k (by omega) hc
          by_cases hs : ∃ e, e < k ∧ S e = true
          · obtain ⟨j1, j2⟩ := i1 hs
            have hr := (j2 _ _).2 hj
            rw [step2 k (by omega) hc hr, step1 k hc]
            refine ⟨j1, fun x y => ⟨fun hx => ?_, fun hx => .inl ((j2 x y).2 hx)⟩⟩
            rcases hx with hx | ⟨h2, h3⟩ | ⟨h2, h3⟩
            · exact (j2 _ _).1 hx
            · exact (j2 _ _).1 ((hk k (by omega)).1.tr _ _ _ h2 ((hk k (by omega)).1.tr _ _ _ hr h3))
            · exact (j2 _ _).1 ((hk k (by omega)).1.tr _ _ _ h2 ((hk k (by omega)).1.tr _ _ _ ((hk k (by omega)).1.sy _ _ hr) h3))
          · obtain ⟨j1, j2⟩ := i0 (fun e he hse => hs ⟨e, he, hse⟩)
            have hr : ¬ rk us vs S R k (us k) (vs k) := fun c => hS k (by omega) hc ((j2 _ _).1 c)
            rw [step3 k (by omega) hc hr, step1 k hc, j1]
            refine ⟨rfl, fun x y => ?_⟩
            have e1 : Jn (rk us vs S R k) (us k) (vs k) x y ↔ Jn R (us k) (vs k) x y := by unfold Jn; rw [j2, j2, j2, j2, j2]
            rw [e1]
            exact ⟨fun hx => Jn.inside hE hj hx, fun hx => Jn.inside hE (Jn.turn hE hj (hS k (by omega) hc)) hx⟩
        · obtain ⟨e1, e2⟩ := step0 k hc
          rw [e1, e2]
          refine ⟨fun hno => i0 (fun e he => hno e (by omega)), fun ⟨e, he, hse⟩ => i1 ⟨e, ?_, hse⟩⟩
          by_cases c : e = k
          · subst c; exact absurd hse hc
          · omega
    exact ((key E (Nat.le_refl _)).2 ⟨e0, g1, g2⟩).1
/-- what the edges of S connect holds of every edge of S, and nothing that they keep is parted -/
theorem rk_has (hE : Eqv n R) (h : ∀ e, e < E → us e < n ∧ vs e < n) : ∀ k, k ≤ E → ∀ e, e < k → S e = true → rk us vs S R k (us e) (vs e)
  | 0, _, e, he, _ => by omega
  | k + 1, hk, e, he, hs => by
    unfold rk
    by_cases c : e = k
    · subst c
      rw [if_pos hs]
      have hE' := (rk_lb (us := us) (vs := vs) (S := S) (l := fun v => v) (Idn.eqv n) (Lb.start n) e (fun j hj => h j (by omega))).1
      have hEe : ∀ k, k ≤ E → Eqv n (rk us vs S R k) := fun k hk' => by
        induction k with
        | zero => exact hE
        | succ k ih =>
          unfold rk
          split
          · exact Jn.eqv (ih (by omega))
          · exact ih (by omega)
      exact .inr (.inl ⟨(hEe e (by omega)).rf _ (h e (by omega)).1, (hEe e (by omega)).rf _ (h e (by omega)).2⟩)
    · have ih := rk_has hE h k (by omega) e (by omega) hs
      split
      · exact .inl ih
      · exact ih
theorem rk_const (n : Nat) {T : Nat → Bool} (h : ∀ e, e < E → S e = true → T (us e) = T (vs e)) : ∀ k, k ≤ E → ∀ a b, rk us vs S (Idn n) k a b → T a = T b
  | 0, _, a, b, hab => by rw [hab.1]
  | k + 1, hk, a, b, hab => by
    have ih := rk_const n h k (by omega)
    unfold rk at hab
    split at hab
    · rename_i c
      have e1 := h k (by omega) c
      rcases hab with h1 | ⟨h1, h2⟩ | ⟨h1, h2⟩
      · exact ih _ _ h1
      · rw [ih _ _ h1, e1, ih _ _ h2]
      · rw [ih _ _ h1, ← e1, ih _ _ h2]
    · exact ih _ _ hab
theorem rk_sub {S' : Nat → Bool} (hsub : ∀ e, S e = true → S' e = true) : ∀ k, ∀ a b, rk us vs S (Idn n) k a b → rk us vs S' (Idn n) k a b
  | 0, _, _, h => h
  | k + 1, a, b, h => by
    have ih := rk_sub hsub k
    unfold rk at h ⊢
    by_cases c : S k = true
    · rw [if_pos c] at h
      rw [if_pos (hsub k c)]
      rcases h with h1 | ⟨h1, h2⟩ | ⟨h1, h2⟩
      · exact .inl (ih _ _ h1)
      · exact .inr (.inl ⟨ih _ _ h1, ih _ _ h2⟩)
      · exact .inr (.inr ⟨ih _ _ h1, ih _ _ h2⟩)
    · rw [if_neg c] at h
      split
      · exact .inl (ih _ _ h)
      · exact ih _ _ h
end
/-- the edges of C have just one end among some vertices of one part -/
def Cut (n E : Nat) (us vs : Nat → Nat) (C : Nat → Bool) : Prop := ∃ T : Nat → Bool, (∃ p, ∀ w, w < n → T w = true → rk us vs (fun _ => true) (Idn n) E p w) ∧ ∀ e, e < E → C e = (T (us e) != T (vs e))
/-- a least cut -/
def Bnd (n E : Nat) (us vs : Nat → Nat) (S : Nat → Bool) : Prop := (∃ e, e < E ∧ S e = true) ∧ Cut n E us vs S ∧ ∀ C : Nat → Bool, (∀ e, e < E → C e = true → S e = true) → (∃ e, e < E ∧ C e = true) → Cut n E us vs C → ∀ e, e < E → S e = true → C e = true
section
variable {n E : Nat} {us vs : Nat → Nat} {S : Nat → Bool}
/-- what isBond asks is a least cut -/
theorem bond_iff (h : ∀ e, e < E → us e < n ∧ vs e < n) :
    ((∀ e, e < E → S e = true → ¬ rk us vs (fun e => !S e) (Idn n) E (us e) (vs e)) ∧ ∃ e0, e0 < E ∧ S e0 = true ∧ ∀ e, e < E → S e = true → Jn (rk us vs (fun e => !S e) (Idn n) E) (us e0) (vs e0) (us e) (vs e)) ↔ Bnd n E us vs S := by
  have hE := (rk_lb (us := us) (vs := vs) (S := fun e => !S e) (Idn.eqv n) (Lb.start n) E h).1
  have hin : ∀ e, e < E → S e = false → rk us vs (fun e => !S e) (Idn n) E (us e) (vs e) := fun e he hs => rk_has (Idn.eqv n) h E (Nat.le_refl _) e he (by simp [hs])
  have hpart : ∀ a b, rk us vs (fun e => !S e) (Idn n) E a b → rk us vs (fun _ => true) (Idn n) E a b := fun a b => rk_sub (fun _ _ => rfl) E a b
  have cls_cut : ∀ u, ∃ T : Nat → Bool, (∀ w, T w = true ↔ rk us vs (fun e => !S e) (Idn n) E u w) ∧ ∀ e, e < E → S e = false → (T (us e) != T (vs e)) = false := fun u => by
    classical
    refine ⟨fun w => decide (rk us vs (fun e => !S e) (Idn n) E u w), fun w => by simp, fun e he hs => ?_⟩
    have h1 := hin e he hs
    have : (rk us vs (fun e => !S e) (Idn n) E u (us e)) ↔ (rk us vs (fun e => !S e) (Idn n) E u (vs e)) := ⟨fun c => hE.tr _ _ _ c h1, fun c => hE.tr _ _ _ c (hE.sy _ _ h1)⟩
    simp [this]
  have sides : ∀ u v x y : Nat, Jn (rk us vs (fun e => !S e) (Idn n) E) u v x y → ¬ rk us vs (fun e => !S e) (Idn n) E x y →
      (rk us vs (fun e => !S e) (Idn n) E u x ∧ rk us vs (fun e => !S e) (Idn n) E v y) ∨ (rk us vs (fun e => !S e) (Idn n) E v x ∧ rk us vs (fun e => !S e) (Idn n) E u y) := fun u v x y hj hn => by
    rcases hj with c | ⟨c1, c2⟩ | ⟨c1, c2⟩
    · exact absurd c hn
    · exact .inl ⟨hE.sy _ _ c1, c2⟩
    · exact .inr ⟨hE.sy _ _ c1, c2⟩
  have noside : ∀ u v x : Nat, ¬ rk us vs (fun e => !S e) (Idn n) E u v → rk us vs (fun e => !S e) (Idn n) E u x → ¬ rk us vs (fun e => !S e) (Idn n) E v x := fun u v x hn h1 h2 => hn (hE.tr _ _ _ h1 (hE.sy _ _ h2))
  have bools : ∀ a b : Bool, (a != b) = true ↔ (a = true ∧ ¬ (b = true)) ∨ (¬ (a = true) ∧ b = true) := by decide
  constructor
  · rintro ⟨hno, e0, g1, g2, g3⟩
    refine ⟨⟨e0, g1, g2⟩, ?_, fun C hsub hC1 hcut e he hse => ?_⟩
    · obtain ⟨T, t1, t2⟩ := cls_cut (us e0)
      refine ⟨T, ⟨us e0, fun w _ hw => hpart _ _ ((t1 w).1 hw)⟩, fun e he => ?_⟩
      cases hse : S e
      · exact (t2 e he hse).symm
      · symm
        rw [bools, t1, t1]
        have h0 := hno e0 g1 g2
        rcases sides _ _ _ _ (g3 e he hse) (hno e he hse) with ⟨c1, c2⟩ | ⟨c1, c2⟩
        · exact .inl ⟨c1, fun c => noside _ _ _ h0 c c2⟩
        · exact .inr ⟨fun c => noside _ _ _ h0 c c1, c2⟩
    · obtain ⟨e1, k1, k2⟩ := hC1
      obtain ⟨T, -, hT⟩ := hcut
      have hconst : ∀ a b, rk us vs (fun e => !S e) (Idn n) E a b → T a = T b := rk_const n (fun e he hse => by
        have h1 : C e = false := by
          cases q : C e
          · rfl
          · have := hsub e he q
            simp [this] at hse
        have h2 := hT e he
        rw [h1] at h2
        revert h2
        cases T (us e) <;> cases T (vs e) <;> simp) E (Nat.le_refl _)
      have q1 : T (us e1) ≠ T (vs e1) := fun c => by
        have := hT e1 k1
        rw [k2, c] at this
        simp at this
      have hs1 := sides _ _ _ _ (g3 e1 k1 (hsub e1 k1 k2)) (hno e1 k1 (hsub e1 k1 k2))
      have hs2 := sides _ _ _ _ (g3 e he hse) (hno e he hse)
      have q0 : T (us e0) ≠ T (vs e0) := fun c => by
        rcases hs1 with ⟨c1, c2⟩ | ⟨c1, c2⟩
        · exact q1 (by rw [← hconst _ _ c1, ← hconst _ _ c2, c])
        · exact q1 (by rw [← hconst _ _ c1, ← hconst _ _ c2, c])
      have q2 : T (us e) ≠ T (vs e) := fun c => by
        rcases hs2 with ⟨c1, c2⟩ | ⟨c1, c2⟩
        · exact q0 (by rw [hconst _ _ c1, hconst _ _ c2, c])
        · exact q0 (by rw [hconst _ _ c1, hconst _ _ c2, c])
      rw [hT e he]
      simpa using q2
  · rintro ⟨⟨e0, g1, g2⟩, ⟨T, -, hT⟩, hmin⟩
    have hconst : ∀ a b, rk us vs (fun e => !S e) (Idn n) E a b → T a = T b := rk_const n (fun e he hse => by
      have h2 := hT e he
      have h1 : S e = false := by simpa using hse
      rw [h1] at h2
      revert h2
      cases T (us e) <;> cases T (vs e) <;> simp) E (Nat.le_refl _)
    have hno : ∀ e, e < E → S e = true → ¬ rk us vs (fun e => !S e) (Idn n) E (us e) (vs e) := fun e he hse c => by
      have := hT e he
      rw [hse, hconst _ _ c] at this
      simp at this
    have whole : ∀ u, (∃ e, e < E ∧ S e = true ∧ (us e = u ∨ vs e = u)) → ∀ e, e < E → S e = true → (rk us vs (fun e => !S e) (Idn n) E u (us e) ∧ ¬ rk us vs (fun e => !S e) (Idn n) E u (vs e)) ∨ (¬ rk us vs (fun e => !S e) (Idn n) E u (us e) ∧ rk us vs (fun e => !S e) (Idn n) E u (vs e)) := by
      rintro u ⟨e1, k1, k2, k3⟩ e he hse
      obtain ⟨T2, t1, t2⟩ := cls_cut u
      have hc := hmin (fun e => decide (e < E) && (T2 (us e) != T2 (vs e))) (fun e he' hc => by
          cases q : S e
          · have := t2 e he' q
            simp only [Bool.and_eq_true] at hc
            rw [this] at hc
            exact absurd hc.2 (by decide)
          · rfl) ⟨e1, k1, by
          simp only [Bool.and_eq_true, decide_eq_true_eq]
          refine ⟨k1, ?_⟩
          rw [bools, t1, t1]
          have hn1 := hno e1 k1 k2
          rcases k3 with rfl | rfl
          · exact .inl ⟨hE.rf _ (h e1 k1).1, hn1⟩
          · exact .inr ⟨fun c => hn1 (hE.sy _ _ c), hE.rf _ (h e1 k1).2⟩⟩ ⟨T2, ⟨u, fun w _ hw => hpart _ _ ((t1 w).1 hw)⟩, fun e he' => by simp [he']⟩ e he hse
      simp only [Bool.and_eq_true, decide_eq_true_eq] at hc
      have h3 := (bools _ _).1 hc.2
      rw [← t1, ← t1]
      exact h3
    refine ⟨hno, e0, g1, g2, fun e he hse => ?_⟩
    have w1 := whole (us e0) ⟨e0, g1, g2, .inl rfl⟩ e he hse
    have w2 := whole (vs e0) ⟨e0, g1, g2, .inr rfl⟩ e he hse
    have h0 := hno e0 g1 g2
    rcases w1 with ⟨a1, a2⟩ | ⟨a1, a2⟩ <;> rcases w2 with ⟨b1, b2⟩ | ⟨b1, b2⟩
    · exact absurd (hE.tr _ _ _ a1 (hE.sy _ _ b1)) h0
    · exact .inr (.inl ⟨hE.sy _ _ a1, b2⟩)
    · exact .inr (.inr ⟨hE.sy _ _ b1, a2⟩)
    · exact absurd (hE.tr _ _ _ a2 (hE.sy _ _ b2)) h0
end
end Go.Proofs.YtijhbmdbnnmogaaGreat.G
