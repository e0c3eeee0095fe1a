/- Walks: isBond. · Walks: sets, Cycles, Bonds. · Walks: Cycles, Bonds. -/
import Derived.Test.YtijhbmdbnnmogaaGreatM6
namespace Go.Proofs.YtijhbmdbnnmogaaGreat.G
open Go.RowKit

theorem jk_skip {us vs : Nat → Nat} {S : Nat → Bool} {l : Nat → Nat} {a : Nat} : ∀ b, a ≤ b → (∀ e, a ≤ e → e < b → S e = false) → jk us vs S l b = jk us vs S l a
  | 0, h, _ => by rw [Nat.le_zero.1 h]
  | b + 1, h, hs => by
    rcases Nat.lt_or_ge b a with h1 | h1
    · rw [show a = b + 1 by omega]
    · conv => lhs; unfold jk
      rw [hs b h1 (by omega), jk_skip b h1 fun e h2 h3 => hs e h2 (by omega)]
      simp
theorem jk_le (us vs : Nat → Nat) (S : Nat → Bool) (l : Nat → Nat) : ∀ k, jk us vs S l k ≤ k
  | 0 => Nat.le_refl _
  | k + 1 => by
    have := jk_le us vs S l k
    unfold jk
    split <;> omega
/-- the labels when the edges outside of a set are joined -/
def olb (E : Nat) (us vs : Nat → Nat) (S : Nat → Bool) : Nat → Nat := lk us vs (fun e => !S e) (fun v => v) E
/-- what isBond answers -/
def isBo (E : Nat) (us vs : Nat → Nat) (S : Nat → Bool) : Bool := !ab (fun e => S e && olb E us vs S (us e) == olb E us vs S (vs e)) E && decide (jk us vs S (olb E us vs S) E = 1)
set_option maxHeartbeats 4000000 in
set_option maxRecDepth 100000 in
theorem isBond_any (N n : Nat) (t : Nat → Nat) (z : Int) (z0 : 0 ≤ z) (z1 : z ≤ 1000000) (SV : Value) (W : World) (hS : Il W SV n (fun d => ((t d : Nat) : Int))) (hn : n ≤ 100) (hN : N ≤ 100) (ht : ∀ d, d < n → t d < N) :
    Calls Tryz.prog 70 #[.agg #[.int .i64 (N : Nat), SV], .int .i64 z] W fun r W' => r = .returned (.bool (isBo (n / 2) (eu t) (ev t) (zb z))) ∧ Ext W W' := by
  have HS := Lib.hid hS; have HT := Lib.hid ht; have HZ01 := Lib.hid (And.intro z0 z1)
  clear ht z0 z1
  obtain ⟨A, c, rfl, hac, hcm, -⟩ := hS
  obtain ⟨E, hE⟩ : ∃ E, E = n / 2 := ⟨_, rfl⟩
  have hE2 : ∀ e, e < E → 2 * e + 1 < n := fun e he => by omega
  have HE := Lib.hid hE2
  have HEE := Lib.hid hE
  have hE3 : E ≤ 50 := by omega
  rw [← hE]
  clear hE hE2
  go_enter Tryz.func70, Tryz.ntmps70
  go_upto_region 1 with fail
  have bb := al1 W (.cells #[.int .i64 (N : Nat), .slice A n c] 72)
  obtain ⟨m0, m1, -, mz⟩ := two (heap_alloc_new W (.cells #[.int .i64 (N : Nat), .slice A n c] 72))
  generalize W.alloc (.cells #[.int .i64 (N : Nat), .slice A n c] 72) = W1 at *
  have HB : Hid (Ext W W1) := Lib.hid bb
  have HM := Lib.hid (And.intro m0 m1)
  clear bb m0 m1
  refine wp_region_noPanic ?_
  refine wp_region_held_drew (S := fun X => Ext W1 X) (by kernel_rfl) (Ext.drw (Ext.refl _)) (fun _ => ?_)
  refine take_at 0 (some 14) (.agg #[.int .i64 (N : Int), .slice A n c]) rfl rfl (by kernel_rfl) (by kernel_rfl) (by kernel_rfl) (fun _ _ _ h => h) (Or.inl ⟨by rfl, fun w' hSw => ?_⟩) (Ext.drw (Ext.refl _)) ?_
  · have z0 := keepAt hSw mz HM.out.1
    have z1 := keepAt hSw mz HM.out.2
    try clear hSw
    go_simp
    all_goals (with_reducible rfl)
  try simp only [Act.put, List.setIfInBounds_toArray, List.set_cons_zero, List.set_cons_succ]
  refine take_at 1 (some 15) (.agg #[.int .i64 (N : Int), .slice A n c]) rfl rfl (by kernel_rfl) (by kernel_rfl) (by kernel_rfl) (fun _ _ _ h => h) (Or.inl ⟨by rfl, fun w' hSw => ?_⟩) (Ext.drw (Ext.refl _)) ?_
  · have z0 := keepAt hSw mz HM.out.1
    have z1 := keepAt hSw mz HM.out.2
    try clear hSw
    go_simp
    all_goals (with_reducible rfl)
  try simp only [Act.put, List.setIfInBounds_toArray, List.set_cons_zero, List.set_cons_succ]
  refine take_at 2 (some 16) (.int .i64 z) rfl rfl (by kernel_rfl) (by kernel_rfl) (by kernel_rfl) (fun _ _ _ h => h) (Or.inl ⟨by rfl, fun w' hSw => ?_⟩) (Ext.drw (Ext.refl _)) ?_
  · skip
    try clear hSw
    go_simp
    all_goals (with_reducible rfl)
  try simp only [Act.put, List.setIfInBounds_toArray, List.set_cons_zero, List.set_cons_succ]
  refine take_at 5 (some 19) (.agg #[.int .i64 (N : Int), .slice A n c]) rfl rfl (by kernel_rfl) (by kernel_rfl) (by kernel_rfl) (fun _ _ _ h => h) (Or.inl ⟨by rfl, fun w' hSw => ?_⟩) (Ext.drw (Ext.refl _)) ?_
  · have z0 := keepAt hSw mz HM.out.1
    have z1 := keepAt hSw mz HM.out.2
    try clear hSw
    go_simp
    all_goals (with_reducible rfl)
  try simp only [Act.put, List.setIfInBounds_toArray, List.set_cons_zero, List.set_cons_succ]
  refine take_at 6 (some 20) (.int .i64 z) rfl rfl (by kernel_rfl) (by kernel_rfl) (by kernel_rfl) (fun _ _ _ h => h) (Or.inl ⟨by rfl, fun w' hSw => ?_⟩) (Ext.drw (Ext.refl _)) ?_
  · skip
    try clear hSw
    go_simp
    all_goals (with_reducible rfl)
  try simp only [Act.put, List.setIfInBounds_toArray, List.set_cons_zero, List.set_cons_succ]
  refine wpAnyH_ready (rs := [3]) (by kernel_rfl) (by simp) ?_
  refine AllReadyH.cons rfl (fun K hK => ?_) AllReadyH.nil
  go_simp
  refine (outside_any z HZ01.out.1 HZ01.out.2 (N : Nat) n (fun d => ((t d : Nat) : Int)) _ _ (HS.out.ext (HB.out.trans (Ext.drw (Ext.refl _)))) hn).mono ?_
  rintro e v3 ⟨LO, xo, rfl, hqo, heso, hb3⟩
  have e3 : Ext W1 v3 := (Ext.drw (Ext.refl _)).trans hb3
  try go_wp2_with fail
  refine hK.out _ _ e3 (fun _ => ?_)
  clear hK K
  try simp only [Act.put, List.setIfInBounds_toArray, List.set_cons_zero, List.set_cons_succ]
  refine wpAnyH_ready (rs := [4]) (by kernel_rfl) (by simp) ?_
  refine AllReadyH.cons rfl (fun K hK => ?_) AllReadyH.nil
  go_simp
  refine (connected_any N n t _ (fun e => !zb z e) xo LO _ (HS.out.ext (HB.out.trans (e3))) hn hN HT.out hqo.il heso).mono ?_
  rintro e v4 ⟨gr, rfl, hgr, hb_r, hb4⟩
  have e4 : Ext W1 v4 := (e3).trans hb4
  try go_wp2_with fail
  refine hK.out _ _ e4 (fun _ => ?_)
  clear hK K
  try simp only [Act.put, List.setIfInBounds_toArray, List.set_cons_zero, List.set_cons_succ]
  refine wpAnyH_ready (rs := [7]) (by kernel_rfl) (by simp) ?_
  refine AllReadyH.cons rfl (fun K hK => ?_) AllReadyH.nil
  go_simp
  refine (inside_any z (N : Nat) n (fun d => ((t d : Nat) : Int)) _ _ (HS.out.ext (HB.out.trans (e4))) hn).mono ?_
  rintro e v7 ⟨LV, x, rfl, hq, hes, hb7⟩
  have e7 : Ext W1 v7 := (e4).trans hb7
  try go_wp2_with fail
  refine hK.out _ _ e7 (fun _ => ?_)
  clear hK K
  try simp only [Act.put, List.setIfInBounds_toArray, List.set_cons_zero, List.set_cons_succ]
  refine take_at 8 (some 5) (.slice (some ⟨gr, 0, none⟩) N N) rfl rfl (by kernel_rfl) (by kernel_rfl) (by kernel_rfl) (fun _ _ _ h => h) (Or.inl ⟨by rfl, fun w' hSw => ?_⟩) (e7) ?_
  · skip
    try clear hSw
    go_simp
    all_goals (with_reducible rfl)
  try simp only [Act.put, List.setIfInBounds_toArray, List.set_cons_zero, List.set_cons_succ]
  refine take_at 9 (some 6) (LV) rfl rfl (by kernel_rfl) (by kernel_rfl) (by kernel_rfl) (fun _ _ _ h => h) (Or.inl ⟨by rfl, fun w' hSw => ?_⟩) (e7) ?_
  · skip
    try clear hSw
    go_simp
    all_goals (with_reducible rfl)
  try simp only [Act.put, List.setIfInBounds_toArray, List.set_cons_zero, List.set_cons_succ]
  refine wpAnyH_done (by kernel_rfl) ?_ _
  refine NoPanic.normal ?_
  obtain ⟨B0, hB0⟩ : ∃ B, B = v4.heap.size := ⟨_, rfl⟩
  have hgB : gr < B0 := by rw [hB0]; exact Bk.lt hb_r
  have hg1 : W1.heap.size ≤ gr := by have := e3.size; omega
  rw [← HEE.out] at hb_r hq hes
  rw [← hB0] at hq
  obtain ⟨S, hSS⟩ : ∃ S, S = zb z := ⟨_, rfl⟩
  obtain ⟨l, hl⟩ : ∃ l, l = lk (eu t) (ev t) (fun e => !zb z e) (fun v => v) E := ⟨_, rfl⟩
  rw [← hl] at hb_r
  rw [← hSS] at hl hq hes
  obtain ⟨K, hK⟩ : ∃ K, K = ek S E := ⟨_, rfl⟩
  have hK3 : K ≤ 50 := by have := ek_le S E; omega
  rw [← hK] at hq
  have HSZ := Lib.hid (And.intro hSS hl)
  have HK := Lib.hid hK
  have HL := Lib.hid hes
  have HBB := Lib.hid hB0
  have HG := Lib.hid (And.intro (BI.ext hb_r hb7) (And.intro e7 hq))
  obtain ⟨AL, cL, rfl, hacL, hcmL, -⟩ := hq.il
  clear hSS hl hK hb_r hb7 e3 e4 e7 hb3 hb4 hq hes hqo heso hgr hB0
  go_wp2_with fail
  go_loopw [24] (fun i wr => ∃ k : Nat, i = .int .i64 (ek S k : Nat) ∧ Hid (k ≤ E ∧ (∀ e, e < k → S e = true → l (eu t e) ≠ l (ev t e)) ∧ BI wr gr N (fun v => ((l v : Nat) : Int)) ∧ Ext W1 wr ∧ Qs wr B0 (.slice AL K cL) K x)) (fun i _ => K - (intOf i).toNat)
  case atStart => exact ⟨0, rfl, Lib.hid ⟨Nat.zero_le _, fun e h => by omega, HG.out.1, HG.out.2.1, HG.out.2.2⟩⟩
  case round =>
    clear HG
    obtain ⟨k, rfl, hin⟩ := hrel
    obtain ⟨j, hj⟩ : ∃ j, j = ek S k := ⟨_, rfl⟩
    rw [← hj]
    have hjK : j ≤ K := by rw [hj, HK.out]; exact ek_mono S E hin.out.1
    have HJ := Lib.hid hj
    clear hj
    by_cases hlt : j < K
    · obtain ⟨e, a1, a2, a3, a4⟩ := next_ex S k E hin.out.1 (by rw [← HJ.out, ← HK.out]; exact hlt)
      have hje : ek S e = j := by rw [ek_skip S e a1 a4, HJ.out]
      have hxj : x j = (e : Int) := by rw [← hje]; exact HL.out e a2 a3
      obtain ⟨bl, ol, rfl, -, el⟩ := Vl.at hin.out.2.2.2.2.il (Ext.refl _) hlt
      rw [hxj] at el
      have he50 : e ≤ 50 := by omega
      have m0 := keepAt hin.out.2.2.2.1 mz HM.out.1
      have m1 := keepAt hin.out.2.2.2.1 mz HM.out.2
      obtain ⟨u, hu⟩ : ∃ u, u = t (2 * e) := ⟨_, rfl⟩
      obtain ⟨v, hv⟩ : ∃ v, v = t (2 * e + 1) := ⟨_, rfl⟩
      have hue : eu t e = u := hu.symm
      have hve : ev t e = v := hv.symm
      have huN : u < N := by rw [hu]; exact HT.out _ (by have := HE.out e a2; omega)
      have hvN : v < N := by rw [hv]; exact HT.out _ (HE.out e a2)
      have hkp : ∀ f, f < e → S f = true → l (eu t f) ≠ l (ev t f) := fun f hf hs => by
        rcases Nat.lt_or_ge f k with h | h
        · exact hin.out.2.1 f h hs
        · rw [a4 f h hf] at hs; cases hs
      have HA := Lib.hid (And.intro a2 (And.intro a3 (And.intro hje (And.intro hkp (And.intro hue hve)))))
      clear a1 a3 a4 hje hxj hkp hue hve
      go_wp2_with fail
      refine (ends_any (N : Nat) n (fun d => ((t d : Nat) : Int)) e _ _ (HS.out.ext (HB.out.trans hin.out.2.2.2.1)) (by omega) (HE.out e HA.out.1)).mono ?_
      rintro r w3 ⟨rfl, hx3⟩
      rw [← hu, ← hv]
      have HN3 := Lib.hid (And.intro (hin.out.2.2.1.ext hx3) (And.intro (hin.out.2.2.2.1.trans hx3) (hin.out.2.2.2.2.ext hx3)))
      obtain ⟨p, hp⟩ : ∃ p, p = l u := ⟨_, rfl⟩
      obtain ⟨q, hq⟩ : ∃ q, q = l v := ⟨_, rfl⟩
      clear hx3 m0 m1 el hu hv a2
      go_upto_region 6 with fail
      have d0 : w3.drew.cell? ⟨gr, u, none⟩ = some (.int .i64 (p : Nat)) := (Bk.cell HN3.out.1 huN).trans (by rw [hp])
      have d1 : w3.drew.cell? ⟨gr, v, none⟩ = some (.int .i64 (q : Nat)) := (Bk.cell HN3.out.1 hvN).trans (by rw [hq])
      have HPQ := Lib.hid (And.intro hp hq)
      clear hp hq
      go_region
      clear d0 d1
      by_cases hpq : p = q
      · subst hpq
        have hbe : ((p : Int) == (p : Int)) = true := by simp
        go_wp2
        go_ret
        refine ⟨?_, HB.out.trans HN3.out.2.1.drw⟩
        have : isBo E (eu t) (ev t) (zb z) = false := by
          unfold isBo olb
          rw [← HSZ.out.1, ← HSZ.out.2, (ab_iff _ _).2 ⟨e, HA.out.1, by rw [HA.out.2.1, HA.out.2.2.2.2.1, HA.out.2.2.2.2.2, ← HPQ.out.1, ← HPQ.out.2]; simp⟩]
          rfl
        rw [this]
        rfl
      · have hbe : ((p : Int) == (q : Int)) = false := by simp; omega
        go_wp2
        go_roundw
        case rel =>
          refine ⟨e + 1, by rw [ek_sx HA.out.2.1, HA.out.2.2.1]; go_num, Lib.hid ⟨by have := HA.out.1; omega, fun f hf hs => ?_, HN3.out.1.drew, HN3.out.2.1.drw, HN3.out.2.2.ext (Ext.drw (Ext.refl _))⟩⟩
          by_cases e1 : f = e
          · rw [e1, HA.out.2.2.2.2.1, HA.out.2.2.2.2.2, ← HPQ.out.1, ← HPQ.out.2]; exact hpq
          · exact HA.out.2.2.2.1 f (by omega) hs
        case measure => simp [intOf]; omega
    · obtain rfl : j = K := by omega
      have h0 := none_left S hin.out.1 (by rw [← HJ.out, ← HK.out])
      have hall : ab (fun e => S e && l (eu t e) == l (ev t e)) E = false := by
        cases c : ab (fun e => S e && l (eu t e) == l (ev t e)) E
        · rfl
        · obtain ⟨f, hf, h1⟩ := (ab_iff _ _).1 c
          simp only [Bool.and_eq_true, beq_iff_eq] at h1
          rcases Nat.lt_or_ge f k with h | h
          · exact absurd h1.2 (hin.out.2.1 f h h1.1)
          · rw [h0 f h hf] at h1; exact absurd h1.1 (by simp)
      have HG := Lib.hid (And.intro hin.out.2.2.1 (And.intro hin.out.2.2.2.1 (And.intro hin.out.2.2.2.2 hall)))
      clear h0 hall hin hlt hjK HJ
      go_wp2_with fail
      go_loopw [11, 46] (fun s i wx => ∃ k : Nat, i = .int .i64 (ek S k : Nat) ∧ s = .int .i64 (jk (eu t) (ev t) S l k : Nat) ∧ Hid (k ≤ E ∧ BI wx gr N (fun v => ((lk (eu t) (ev t) S l k v : Nat) : Int)) ∧ Ext W1 wx ∧ Qs wx B0 (.slice AL j cL) j x)) (fun _ i _ => j - (intOf i).toNat)
      case atStart => exact ⟨0, rfl, rfl, Lib.hid ⟨Nat.zero_le _, HG.out.1, HG.out.2.1, HG.out.2.2.1⟩⟩
      case round =>
        obtain ⟨k, rfl, rfl, hin⟩ := hrel
        obtain ⟨i, hi⟩ : ∃ i, i = ek S k := ⟨_, rfl⟩
        rw [← hi]
        have hiK : i ≤ j := by rw [hi, HK.out]; exact ek_mono S E hin.out.1
        have HI := Lib.hid hi
        obtain ⟨cc, hcc⟩ : ∃ c, c = jk (eu t) (ev t) S l k := ⟨_, rfl⟩
        rw [← hcc]
        have hc3 : cc ≤ 50 := by have := jk_le (eu t) (ev t) S l k; have := hin.out.1; omega
        have HC := Lib.hid hcc
        clear hi hcc
        by_cases hlt : i < j
        · obtain ⟨e, a1, a2, a3, a4⟩ := next_ex S k E hin.out.1 (by rw [← HI.out, ← HK.out]; exact hlt)
          have hje : ek S e = i := by rw [ek_skip S e a1 a4, HI.out]
          have hle : lk (eu t) (ev t) S l e = lk (eu t) (ev t) S l k := lk_skip e a1 a4
          have hce : jk (eu t) (ev t) S l e = cc := by rw [HC.out]; exact jk_skip e a1 a4
          have hxj : x i = (e : Int) := by rw [← hje]; exact HL.out e a2 a3
          obtain ⟨bl, of, rfl, -, el⟩ := Vl.at hin.out.2.2.2.il (Ext.refl _) hlt
          rw [hxj] at el
          have he50 : e ≤ 50 := by omega
          have m0 := keepAt hin.out.2.2.1 mz HM.out.1
          have m1 := keepAt hin.out.2.2.1 mz HM.out.2
          obtain ⟨u, hu⟩ : ∃ u, u = t (2 * e) := ⟨_, rfl⟩
          obtain ⟨v, hv⟩ : ∃ v, v = t (2 * e + 1) := ⟨_, rfl⟩
          have hue : eu t e = u := hu.symm
          have hve : ev t e = v := hv.symm
          have huN : u < N := by rw [hu]; exact HT.out _ (by have := HE.out e a2; omega)
          have hvN : v < N := by rw [hv]; exact HT.out _ (HE.out e a2)
          have HA := Lib.hid (And.intro a2 (And.intro a3 (And.intro hje (And.intro hle (And.intro hce (And.intro hue hve))))))
          clear a1 a3 a4 hje hxj hle hce hue hve
          go_wp2_with fail
          refine (ends_any (N : Nat) n (fun d => ((t d : Nat) : Int)) e _ _ (HS.out.ext (HB.out.trans hin.out.2.2.1)) (by omega) (HE.out e HA.out.1)).mono ?_
          rintro r w3 ⟨rfl, hx3⟩
          rw [← hu, ← hv]
          have HN3 := Lib.hid (And.intro (hin.out.2.1.ext hx3) (And.intro (hin.out.2.2.1.trans hx3) (hin.out.2.2.2.ext hx3)))
          clear hx3 m0 m1 el hu hv a2
          go_wp2_with fail
          refine (join_any N gr u v (lk (eu t) (ev t) S l k) hN huN hvN w3 HN3.out.1).mono ?_
          rintro r w6 ⟨rfl, h1, h2⟩
          have h3 := HN3.out.2.2.block (w' := w6) h2.size (fun g hg => h2.block g (HN3.out.2.2.1 g hg).2 (fun e => by injection e with e; have := (HN3.out.2.2.1 g hg).1; omega))
          have h5 : BI w6 gr N (fun v => ((lk (eu t) (ev t) S l (e + 1) v : Nat) : Int)) := by
            refine Bk.congr h1 fun w _ => ?_
            dsimp only
            congr 2
            conv => rhs; unfold lk
            rw [if_pos HA.out.2.1, HA.out.2.2.2.1, HA.out.2.2.2.2.2.1, HA.out.2.2.2.2.2.2]
          have HN6 := Lib.hid (And.intro (show e + 1 ≤ E by have := HA.out.1; omega) (And.intro h5 (And.intro (HN3.out.2.1.grown h2 hg1) h3)))
          obtain ⟨jb, hjb⟩ : ∃ b, b = (lk (eu t) (ev t) S l k u == lk (eu t) (ev t) S l k v) := ⟨_, rfl⟩
          rw [← hjb]
          have hck : jk (eu t) (ev t) S l (e + 1) = cc + if jb = true then 0 else 1 := by
            conv => lhs; unfold jk
            rw [HA.out.2.2.2.2.1, HA.out.2.2.2.2.2.1, HA.out.2.2.2.2.2.2, HA.out.2.2.2.1, hjb]
            congr 1
            by_cases c : lk (eu t) (ev t) S l k u = lk (eu t) (ev t) S l k v
            · rw [if_neg (fun h => h.2 c), if_pos (by simp [c])]
            · rw [if_pos ⟨HA.out.2.1, c⟩, if_neg (by simp [c])]
          have HCK := Lib.hid hck
          clear hck hjb h1 h2 h3 h5 HN3 hin
          cases jb
          · go_wp2
            go_roundw
            case rel => exact ⟨e + 1, by rw [ek_sx HA.out.2.1, HA.out.2.2.1]; go_num, by rw [HCK.out]; go_num, HN6⟩
            case measure => simp [intOf]; omega
          · go_wp2
            go_roundw
            case rel => exact ⟨e + 1, by rw [ek_sx HA.out.2.1, HA.out.2.2.1]; go_num, by rw [HCK.out]; rfl, HN6⟩
            case measure => simp [intOf]; omega
        · obtain rfl : i = j := by omega
          have h0 := none_left S hin.out.1 (by rw [← HI.out, ← HK.out])
          have h2 := jk_skip (us := eu t) (vs := ev t) (l := l) E hin.out.1 h0
          have hbo : isBo E (eu t) (ev t) (zb z) = ((cc : Int) == 1) := by
            unfold isBo olb
            rw [← HSZ.out.1, ← HSZ.out.2, HG.out.2.2.2, h2, ← HC.out]
            by_cases c : cc = 1
            · subst c; rfl
            · rw [decide_eq_false c, Bool.and_false]; exact (beq_eq_false_iff_ne.2 (by omega)).symm
          have HF := Lib.hid (And.intro hbo (HB.out.trans hin.out.2.2.1))
          clear h0 h2 hbo
          go_wp2
          go_ret
          exact ⟨by rw [HF.out.1]; rfl, HF.out.2⟩
end Go.Proofs.YtijhbmdbnnmogaaGreat.G
namespace Go.Proofs.YtijhbmdbnnmogaaGreat.G
open Go.RowKit

theorem rank_in {n k : Nat} {st : Nat → Nat → Nat} {m : Nat → Nat} (h : Nm n k st m) {d : Nat} (hd : d < n) : rank m (m d) < rank m n := by
  have h3 := h.le_self hd
  have h4 := h.idem hd
  have key : ∀ r, m r = r → ∀ a, r < a → rank m r < rank m a := fun r hr a => by
    induction a with
    | zero => intro h; omega
    | succ a ih =>
      intro h
      show rank m r < rank m a + _
      by_cases e : r = a
      · subst e; rw [if_pos hr]; omega
      · have := ih (by omega); omega
  exact key (m d) h4 n (by omega)
theorem pow_shl2 (s : Nat) : (2 : Int) ^ s = ((2 ^ s : Nat) : Int) := by rw [Int.natCast_pow]; rfl
theorem shl_twelve (r : Nat) (h : r ≤ 12) : wrap64 ((2 : Int) ^ r) = ((2 ^ r : Nat) : Int) := by
  have h1 : 2 ^ r ≤ 4096 := Nat.le_trans (Nat.pow_le_pow_right (by omega) h) (by decide)
  rw [pow_shl2]
  generalize 2 ^ r = P at *
  unfold wrap64
  omega

set_option maxHeartbeats 4000000 in
set_option maxRecDepth 100000 in
theorem sets_any (id : Nat) (Q : Nat → Nat → (Nat → Nat) → Int → Bool) (hcf : ∀ args w, (callFunc id args).run Tryz.prog w = .ok (.enter id args) w)
    (hop : ∀ (N n : Nat) (t : Nat → Nat) (z : Int) (SV : Value) (X : World), 0 ≤ z → z ≤ 1000000 → Il X SV n (fun d => ((t d : Nat) : Int)) → n ≤ 100 → N ≤ 100 → (∀ d, d < n → t d < N) →
      Calls Tryz.prog id #[.agg #[.int .i64 (N : Nat), SV], .int .i64 z] X fun r X' => r = .returned (.bool (Q N n t z)) ∧ Ext X X')
    (n : Nat) (f : Nat → Int) (NV : Value) (W : World) (hN : Il W NV n f) :
    Calls Tryz.prog 68 #[.agg #[NV], .func (.func id) #[] #[]] W fun r W' => ∃ (v : Value) (er : Int), r = .returned (.tuple #[v, .int .i64 er]) ∧ Ext W W' ∧
      ((vMap n f = false ∧ v = .slice none 0 0 ∧ er = 2) ∨ (vMap n f = true ∧ 12 < n / 2 ∧ v = .slice none 0 0 ∧ er = 3) ∨
       (vMap n f = true ∧ n / 2 ≤ 12 ∧ er = 0 ∧ ∃ (m : Nat → Nat) (x : Nat → Int), Nm n 1 (fun _ => tn f) m ∧ Il W' v (ek (fun z => Q (rank m n) n (fun d => rank m (m d)) (z : Nat)) (2 ^ (n / 2))) x ∧ Es (fun z => Q (rank m n) n (fun d => rank m (m d)) (z : Nat)) (2 ^ (n / 2)) x)) := by
  have HN := Lib.hid hN; have HCF := Lib.hid hcf; have HOP := Lib.hid hop
  clear hcf hop
  obtain ⟨A, c, rfl, hac, hcm, -⟩ := hN
  go_enter Tryz.func68, Tryz.ntmps68
  go_upto_region 1 with fail
  have bb := al1 W (.cells #[.slice A n c] 29)
  obtain ⟨m0, -, mz⟩ := uno (heap_alloc_new W (.cells #[.slice A n c] 29))
  generalize W.alloc (.cells #[.slice A n c] 29) = W1 at *
  have HB : Hid (Ext W W1) := Lib.hid bb
  have HM := Lib.hid m0
  clear bb
  go_wp2_with fail
  refine (validS_any n f _ _ (HN.out.ext HB.out)).mono ?_
  rintro e w1 ⟨rfl, hx⟩
  have HX := Lib.hid hx
  clear m0
  have m0 := keepAt hx mz HM.out
  clear hx
  cases hv : vMap n f
  · have HV := Lib.hid hv; clear hv
    go_wp2
    exact bodyPost_ret (v := .tuple #[.slice none 0 0, .int .i64 2]) (by simp [results, Tryz.results68, go_sem]) rfl ⟨_, _, rfl, HB.out.trans HX.out, .inl ⟨HV.out, rfl, rfl⟩⟩
  · have hM := vMap_mp hv
    have hn80 : n ≤ 80 := hM.le
    have HV := Lib.hid (And.intro hv hM)
    clear hv hM
    obtain ⟨E, hE⟩ : ∃ E, E = n / 2 := ⟨_, rfl⟩
    have hE40 : E ≤ 40 := by omega
    have HE := Lib.hid hE
    clear hE
    go_wp2_with fail
    refine (edges_any n f _ _ (HN.out.ext (HB.out.trans HX.out)) (by omega)).mono ?_
    rintro e w2 ⟨rfl, hx⟩
    rw [← HE.out]
    replace HX := Lib.hid (HX.out.trans hx)
    clear m0
    have m0 := keepAt HX.out mz HM.out
    clear hx
    by_cases h12 : E ≤ 12
    · have hbe : ¬ (12 : Int) < E := by omega
      have hsh : wrap64 ((2 : Int) ^ E) = ((2 ^ E : Nat) : Int) := shl_twelve E h12
      obtain ⟨P, hP⟩ : ∃ P, P = 2 ^ E := ⟨_, rfl⟩
      rw [← hP] at hsh
      have hP2 : P ≤ 4096 := by rw [hP]; exact Nat.le_trans (Nat.pow_le_pow_right (by omega) h12) (by decide)
      have HP := Lib.hid (And.intro hP hsh)
      clear hP hsh
      go_wp2_with fail
      refine (graphOf_any n f _ _ (HN.out.ext (HB.out.trans HX.out)) HV.out.2).mono ?_
      rintro e w3 ⟨m, g, rfl, hgW, hbi, hnm, hx⟩
      obtain ⟨N, hNN⟩ : ∃ N, N = rank m n := ⟨_, rfl⟩
      rw [← hNN]
      have hN80 : N ≤ 80 := by have := rank_le m n; omega
      replace HX := Lib.hid (HX.out.trans hx)
      have HG := Lib.hid (And.intro hbi (And.intro hnm hNN))
      clear hx hbi hnm hNN m0
      go_upto_region 6 with fail
      have b4 := al1 w3 (.cells #[.int .i64 (N : Nat), .slice (some ⟨g, 0, none⟩) n n] 72)
      obtain ⟨u0, u1, -, uz⟩ := two (heap_alloc_new w3 (.cells #[.int .i64 (N : Nat), .slice (some ⟨g, 0, none⟩) n n] 72))
      obtain ⟨gb, hgb⟩ : ∃ g, g = w3.heap.size := ⟨_, rfl⟩
      rw [← hgb] at u0 u1 uz ⊢
      generalize w3.alloc (.cells #[.int .i64 (N : Nat), .slice (some ⟨g, 0, none⟩) n n] 72) = w4 at *
      have HU := Lib.hid (And.intro u0 u1)
      have HGI := Lib.hid ((BI.ext HG.out.1 b4).il (show n ≤ 9223372036854775807 by omega))
      replace HX := Lib.hid (HX.out.trans b4)
      have m0 := keepAt HX.out mz HM.out
      clear u0 u1 b4 hgb
      go_wp2_with fail
      refine (edges_any n f _ _ (HN.out.ext (HB.out.trans HX.out)) (by omega)).mono ?_
      rintro e w5 ⟨rfl, hx⟩
      rw [← HE.out]
      have HW5 := Lib.hid hx
      have hsh := HP.out.2
      clear hx m0
      go_wp2_with fail
      rw [hsh]
      clear hsh
      obtain ⟨S, hS⟩ : ∃ S : Nat → Bool, S = fun z => Q N n (fun d => rank m (m d)) (z : Nat) := ⟨_, rfl⟩
      have HS := Lib.hid hS
      clear hS
      go_loopw [7, 20] (fun v i wr => ∃ k : Nat, i = .int .i64 k ∧ k ≤ P ∧ Hid (∃ x, Qs wr w4.heap.size v (ek S k) x ∧ Es S k x ∧ Ext w4 wr)) (fun _ i _ => P - (intOf i).toNat)
      case atStart => exact ⟨0, rfl, Nat.zero_le _, Lib.hid ⟨fun _ => 0, Qs.nil _ _ _, fun e he => by omega, HW5.out⟩⟩
      case round =>
        clear HW5
        obtain ⟨k, rfl, hk, hin⟩ := hrel
        by_cases hlt : k < P
        · obtain ⟨x, g1, g2, g3⟩ := hin.out
          have HF := Lib.hid (And.intro g1 (And.intro g2 g3))
          have u0 := keepAt g3 uz HU.out.1
          have u1 := keepAt g3 uz HU.out.2
          clear hin g1 g2 g3
          go_wp2_with fail
          rw [HCF.out]
          refine (HOP.out N n (fun d => rank m (m d)) k _ _ (by omega) (by omega) (HGI.out.ext HF.out.2.2) (by omega) (by omega) (fun d hd => by rw [HG.out.2.2]; exact rank_in HG.out.2.1 hd)).mono ?_
          rintro e w8 ⟨rfl, hx⟩
          have hkS : Q N n (fun d => rank m (m d)) (k : Nat) = S k := by rw [HS.out]
          rw [hkS]
          have HG8 := Lib.hid (And.intro (HF.out.1.ext hx) (And.intro HF.out.2.1 (HF.out.2.2.trans hx)))
          clear hx HF hkS u0 u1
          cases hs : S k
          · have HSK := Lib.hid hs; clear hs
            go_wp2
            go_roundw
            case rel => exact ⟨k + 1, by go_num, by omega, Lib.hid ⟨x, by rw [ek_no HSK.out]; exact HG8.out.1, HG8.out.2.1.no HSK.out, HG8.out.2.2⟩⟩
            case measure => simp [intOf]; omega
          · have HSK := Lib.hid hs; clear hs
            obtain ⟨l, hl⟩ : ∃ l, l = ek S k := ⟨_, rfl⟩
            have hl3 : l ≤ 4096 := by have := ek_le S k; omega
            have HL := Lib.hid hl
            have r1 := HG8.out.1
            rw [← hl] at r1
            have HR := Lib.hid r1
            clear hl r1
            obtain ⟨i0, hi, hz0, hz1, hz2⟩ := info_parts info3
            go_upto_region 11 with fail
            go_wp2_with (at_builtin; refine wpList_append_q rfl _ _ 22 rfl i0 Tryz.underlying22 hi hz0 hz1 hz2 w4.heap.size _ l x rfl ?qs ?base ⟨w8.heap.size, 0, none⟩ 1 k rfl ?cell ?nlim ?_)
            case qs => exact HR.out.ext (Ext.alc (Ext.refl _) _)
            case base => have := HG8.out.2.2.size; simp; omega
            case cell => rw [World.cell?_alloc_new]; rfl
            case nlim => omega
            intro v' w9 hq4 hgr
            have z4 := hgr.ext (HG8.out.2.2.alc _) (fun b hb => (HR.out.1 b hb).1)
            have HH := Lib.hid (And.intro hq4 z4)
            clear hq4 hgr z4
            go_wp2
            go_roundw
            case rel => exact ⟨k + 1, by go_num, by omega, Lib.hid ⟨_, by rw [ek_sx HSK.out, ← HL.out]; exact HH.out.1, by have := HG8.out.2.1.up_ HSK.out; rw [← HL.out] at this; exact this, HH.out.2⟩⟩
            case measure => simp [intOf]; omega
        · obtain rfl : k = P := by omega
          obtain ⟨x, g1, g2, g3⟩ := hin.out
          have HF := Lib.hid (And.intro g1 (And.intro g2 g3))
          clear hin g1 g2 g3
          obtain ⟨-, A9, c9, rfl, -⟩ := HF.out.1
          go_wp2
          refine bodyPost_ret (v := .tuple #[.slice A9 (ek S k) c9, .int .i64 0]) (by simp [results, Tryz.results68, go_sem]) rfl ⟨_, _, rfl, HB.out.trans (HX.out.trans HF.out.2.2), .inr (.inr ⟨HV.out.1, by rw [← HE.out]; exact h12, rfl, m, x, HG.out.2.1, ?_, ?_⟩)⟩
          · have := HF.out.1.il
            rw [← HE.out, ← HP.out.1, ← HG.out.2.2, ← HS.out]
            exact this
          · have := HF.out.2.1
            rw [← HE.out, ← HP.out.1, ← HG.out.2.2, ← HS.out]
            exact this
    · have hbe : (12 : Int) < E := by omega
      go_wp2
      exact bodyPost_ret (v := .tuple #[.slice none 0 0, .int .i64 3]) (by simp [results, Tryz.results68, go_sem]) rfl ⟨_, _, rfl, HB.out.trans HX.out, .inr (.inl ⟨HV.out.1, by rw [← HE.out]; omega, rfl, rfl⟩)⟩
end Go.Proofs.YtijhbmdbnnmogaaGreat.G
namespace Go.Proofs.YtijhbmdbnnmogaaGreat.G
open Go.RowKit

theorem call69 : ∀ args w, (callFunc 69 args).run Tryz.prog w = .ok (.enter 69 args) w := by
  intro args w
  go_simp
theorem call70 : ∀ args w, (callFunc 70 args).run Tryz.prog w = .ok (.enter 70 args) w := by
  intro args w
  go_simp
/-- what a map answers when its sets are listed: nothing and an error, or the sets that P marks -/
def SetsOf (n : Nat) (f : Nat → Int) (Q : (Nat → Nat) → Nat → Bool) (v : Value) (er : Int) (W' : World) : Prop :=
  (vMap n f = false ∧ v = .slice none 0 0 ∧ er = 2) ∨ (vMap n f = true ∧ 12 < n / 2 ∧ v = .slice none 0 0 ∧ er = 3) ∨
    (vMap n f = true ∧ n / 2 ≤ 12 ∧ er = 0 ∧ ∃ (m : Nat → Nat) (x : Nat → Int), Nm n 1 (fun _ => tn f) m ∧ Il W' v (ek (Q m) (2 ^ (n / 2))) x ∧ Es (Q m) (2 ^ (n / 2)) x)
/-- the ends of an edge, by ranks -/
def ru (m : Nat → Nat) (e : Nat) : Nat := rank m (m (2 * e))
def rv (m : Nat → Nat) (e : Nat) : Nat := rank m (m (2 * e + 1))
set_option maxHeartbeats 4000000 in
set_option maxRecDepth 100000 in
theorem cycles_any (n : Nat) (f : Nat → Int) (NV : Value) (W : World) (hN : Il W NV n f) :
    Calls Tryz.prog 21 #[.agg #[NV]] W fun r W' => ∃ (v : Value) (er : Int), r = .returned (.tuple #[v, .int .i64 er]) ∧ Ext W W' ∧ SetsOf n f (fun m z => isCy (rank m n) (n / 2) (ru m) (rv m) (zb z)) v er W' := by
  have HN := Lib.hid hN
  obtain ⟨A, c, rfl, hac, hcm, -⟩ := hN
  go_enter Tryz.func21, Tryz.ntmps21
  go_upto_region 1 with fail
  have bb := al1 W (.cells #[.slice A n c] 29)
  obtain ⟨m0, -, mz⟩ := uno (heap_alloc_new W (.cells #[.slice A n c] 29))
  generalize W.alloc (.cells #[.slice A n c] 29) = W1 at *
  have HB : Hid (Ext W W1) := Lib.hid bb
  clear bb
  go_wp2_with fail
  refine (sets_any 69 (fun N n t z => isCy N (n / 2) (eu t) (ev t) (zb z)) call69 (fun N n t z SV X _ _ hS hn hN ht => isCycle_any N n t z SV X hS hn hN ht) n f _ _ (HN.out.ext HB.out)).mono ?_
  rintro e w1 ⟨v, er, rfl, hx, hs⟩
  have HS := Lib.hid (And.intro hs (HB.out.trans hx))
  clear hs hx m0
  go_wp2
  exact bodyPost_ret (v := .tuple #[v, .int .i64 er]) (by simp [results, Tryz.results21, go_sem]) rfl ⟨v, er, rfl, HS.out.2, HS.out.1⟩
set_option maxHeartbeats 4000000 in
set_option maxRecDepth 100000 in
theorem bonds_any (n : Nat) (f : Nat → Int) (NV : Value) (W : World) (hN : Il W NV n f) :
    Calls Tryz.prog 22 #[.agg #[NV]] W fun r W' => ∃ (v : Value) (er : Int), r = .returned (.tuple #[v, .int .i64 er]) ∧ Ext W W' ∧ SetsOf n f (fun m z => isBo (n / 2) (ru m) (rv m) (zb z)) v er W' := by
  have HN := Lib.hid hN
  obtain ⟨A, c, rfl, hac, hcm, -⟩ := hN
  go_enter Tryz.func22, Tryz.ntmps22
  go_upto_region 1 with fail
  have bb := al1 W (.cells #[.slice A n c] 29)
  obtain ⟨m0, -, mz⟩ := uno (heap_alloc_new W (.cells #[.slice A n c] 29))
  generalize W.alloc (.cells #[.slice A n c] 29) = W1 at *
  have HB : Hid (Ext W W1) := Lib.hid bb
  clear bb
  go_wp2_with fail
  refine (sets_any 70 (fun _ n t z => isBo (n / 2) (eu t) (ev t) (zb z)) call70 (fun N n t z SV X h0 h1 hS hn hN ht => isBond_any N n t z h0 h1 SV X hS hn hN ht) n f _ _ (HN.out.ext HB.out)).mono ?_
  rintro e w1 ⟨v, er, rfl, hx, hs⟩
  have HS := Lib.hid (And.intro hs (HB.out.trans hx))
  clear hs hx m0
  go_wp2
  exact bodyPost_ret (v := .tuple #[v, .int .i64 er]) (by simp [results, Tryz.results22, go_sem]) rfl ⟨v, er, rfl, HS.out.2, HS.out.1⟩
end Go.Proofs.YtijhbmdbnnmogaaGreat.G
