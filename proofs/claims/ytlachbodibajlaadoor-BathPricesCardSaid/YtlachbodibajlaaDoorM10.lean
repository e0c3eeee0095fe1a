/- Walks: the rule of Common. · Walks: keep of strings, Common. -/
import Derived.Test.YtlachbodibajlaaDoorM8
import Derived.Test.YtlachbodibajlaaDoorM9
namespace Go.Proofs.YtlachbodibajlaaDoor
open Go.RowKit Go.Shelf

/-- the first place of a letter, or -1 -/
def ix (l : List UInt8) (c : UInt8) : Int := match Bw.fi l c with
  | some i => i
  | none => -1
theorem ix_eq (l : List UInt8) (c : UInt8) : Lib.indexByte l c = ix l c := by
  unfold ix Bw.fi
  induction l with
  | nil => rfl
  | cons b l ih =>
    rw [Lib.indexByte, List.findIdx?_cons, ih]
    by_cases h : (b == c) = true
    · rw [if_pos h, if_pos h]; rfl
    · rw [if_neg h, if_neg h]
      cases h2 : l.findIdx? (· == c) with
      | none => rfl
      | some i => simp <;> omega
theorem ix_any (l : List UInt8) (c : UInt8) (W : World) : Calls Tryd.prog 65 #[.string ⟨l.toArray⟩, .int .u8 (c.toNat : Nat)] W fun e W' => e = .returned (.int .i64 (ix l c)) ∧ Ext W W' := by
  refine (Tryd.strings_IndexByte ⟨l.toArray⟩ (c.toNat : Nat) W).mono ?_
  rintro e W' ⟨rfl, rfl⟩
  refine ⟨?_, Ext.refl _⟩
  rw [← ix_eq]
  simp

set_option maxHeartbeats 4000000 in
set_option maxRecDepth 100000 in
theorem ruleC_step (u v : List UInt8) (W0 : World) (kb g1 g2 rb ub vb p : Nat) (hK : Kc u v W0 kb g1 g2 rb ub vb) (hp : p < gz u v)
    (ih : ∀ q, q < gz u v → u.length - q % (u.length + 1) < u.length - p % (u.length + 1) → OfC u v W0 kb g1 g2 rb ub vb q) : RuleC u v W0 kb g1 g2 rb ub vb p := by
  intro W hI
  have HK := Lib.hid hK; have HI := Lib.hid hI; have HIH := Lib.hid ih
  have hu8 := hK.hu; have hv8 := hK.hv
  have hzl := gz_le hu8 hv8
  obtain ⟨hi, hj⟩ := gz_row hp
  obtain ⟨R, hR⟩ : ∃ R, R = u.length + 1 := ⟨_, rfl⟩
  obtain ⟨i, hie⟩ : ∃ i, i = p % R := ⟨_, rfl⟩
  obtain ⟨j, hje⟩ : ∃ j, j = p / R := ⟨_, rfl⟩
  have crb := hI.ext.at hK.rb.lt hK.rb.cell
  have zrb := Nat.lt_of_lt_of_le hK.rb.lt hI.ext.size
  have cub := hI.ext.at hK.ub.lt hK.ub.cell
  have zub := Nat.lt_of_lt_of_le hK.ub.lt hI.ext.size
  have cvb := hI.ext.at hK.vb.lt hK.vb.cell
  have zvb := Nat.lt_of_lt_of_le hK.vb.lt hI.ext.size
  rw [← hR, ← hie] at hi
  rw [← hR, ← hje] at hj
  rw [← hR] at crb
  have hcv : cv u v p = Bw.cm (u.drop i) (v.drop j) := by rw [hie, hje, hR]; rfl
  have hrem : Int.tmod (p : Int) (R : Int) = (i : Int) := by rw [hie]; simp [Int.tmod_eq_emod_of_nonneg]
  have hquo : Int.tdiv (p : Int) (R : Int) = (j : Int) := by rw [hje]; simp
  have hpl : p < 81 := by omega
  have hR9 : 1 ≤ R ∧ R ≤ 9 := by omega
  have hR0 : ((R : Int) == 0) = false := by simp; omega
  rw [hcv]
  have HR := Lib.hid (And.intro hR (And.intro hie hje))
  clear hK hI ih hp hcv hzl hR hie hje
  go_enter Tryd.func64, Tryd.ntmps64
  go_upto_region 1 with fail
  go_region
  have hin0 : Hid (Kq g1 g2 W W.drew ∧ Ks u v W0 kb g1 g2 rb ub vb W.drew) := Lib.hid ⟨(Kq.refl g1 g2 W).drw, HI.out.drw⟩
  generalize W.drew = W1 at *
  have nrs : ub ≠ g1 ∧ ub ≠ g2 ∧ vb ≠ g1 ∧ vb ≠ g2 ∧ rb ≠ g1 ∧ rb ≠ g2 := by
    have h1 := HK.out.l1; have h2 := HK.out.l2; have h3 := HK.out.rb.lt; have h4 := HK.out.ub.lt; have h5 := HK.out.vb.lt
    omega
  have HNR := Lib.hid (And.intro nrs (And.intro zub (And.intro zvb (And.intro zrb (And.intro cub (And.intro cvb crb))))))
  clear nrs zub zvb zrb cub cvb crb hrem hquo hR0
  go_wp2_with fail
  go_loopw [10, 21] (fun s kk wr => ∃ (k : Nat) (t : List UInt8), kk = .int .i64 k ∧ k ≤ 8 ∧ s = .string ⟨t.toArray⟩ ∧ t.length ≤ 8 ∧ Hid (t = (Bw.letters.take k).foldl (Bw.cmS Bw.cm (u.drop i) (v.drop j)) []) ∧ Hid (Kq g1 g2 W wr ∧ Ks u v W0 kb g1 g2 rb ub vb wr)) (fun _ kk _ => 8 - (intOf kk).toNat)
  case atStart => exact ⟨0, [], rfl, by omega, rfl, by simp, Lib.hid rfl, hin0⟩
  case round =>
    clear hin0
    obtain ⟨k, t, rfl, hk, rfl, htl, htf, hin⟩ := hrel
    by_cases hlt : k < 8
    · have hk8 : k < 8 := hlt
      have hidx := letters_idx hlt hlt
      obtain ⟨⟨nu1, nu2, nv1, nv2, nr1, nr2⟩, zu, zv, zr, cu, cv0, cr⟩ := HNR.out
      have cu1 := hin.out.1.cell zu nu1 nu2 cu
      have zu1 := Nat.lt_of_lt_of_le zu hin.out.1.size
      have cv1 := hin.out.1.cell zv nv1 nv2 cv0
      have zv1 := Nat.lt_of_lt_of_le zv hin.out.1.size
      have cr1 := hin.out.1.cell zr nr1 nr2 cr
      have zr1 := Nat.lt_of_lt_of_le zr hin.out.1.size
      have HCR := Lib.hid (And.intro cr1 zr1)
      clear zu zv zr cu cv0 cr nu1 nu2 nv1 nv2 cr1 zr1
      have hst := take_lt hlt
      have hnext : (Bw.letters.take (k + 1)).foldl (Bw.cmS Bw.cm (u.drop i) (v.drop j)) [] = Bw.cmS Bw.cm (u.drop i) (v.drop j) t (lt k) := by
        rw [hst, List.foldl_append, ← htf.out]; rfl
      obtain ⟨A, hA⟩ : ∃ A, A = ix (u.drop i) (lt k) := ⟨_, rfl⟩
      obtain ⟨B, hB⟩ : ∃ B, B = ix (v.drop j) (lt k) := ⟨_, rfl⟩
      have CA := Lib.hid (ix_any (u.drop i) (lt k))
      have CB := Lib.hid (ix_any (v.drop j) (lt k))
      rw [← hA] at CA
      rw [← hB] at CB
      have HAB := Lib.hid (And.intro hA hB)
      have HNX := Lib.hid hnext
      clear hst hnext hA hB
      go_upto_region 6 with fail
      refine wp_region_noPanic ?_
      refine wp_region_held_drew (S := fun X => Ext wr X) (by kernel_rfl) (Ext.drw (Ext.refl _)) (fun _ => ?_)
      refine take_at 0 (some 24) (.string ⟨(u).toArray⟩) rfl rfl (by kernel_rfl) (by kernel_rfl) (by kernel_rfl) (fun _ _ _ h => h) (Or.inl ⟨by rfl, fun w' hSw => ?_⟩) (Ext.drw (Ext.refl _)) ?_
      · have q1_ := hSw.at zu1 cu1
        try clear hSw
        go_simp
        all_goals (with_reducible rfl)
      try simp only [Act.put, List.setIfInBounds_toArray, List.set_cons_zero, List.set_cons_succ]
      refine take_at 1 (some 25) (.int .i64 i) rfl rfl (by kernel_rfl) (by kernel_rfl) (by kernel_rfl) (fun _ _ _ h => h) (Or.inl ⟨by rfl, fun w' hSw => ?_⟩) (Ext.drw (Ext.refl _)) ?_
      · skip
        try clear hSw
        go_simp
        all_goals (with_reducible rfl)
      try simp only [Act.put, List.setIfInBounds_toArray, List.set_cons_zero, List.set_cons_succ]
      refine take_at 2 (some 26) (.string ⟨(u.drop i).toArray⟩) rfl rfl (by kernel_rfl) (by kernel_rfl) (by kernel_rfl) (fun _ _ _ h => h) (Or.inl ⟨by rfl, fun w' hSw => ?_⟩) (Ext.drw (Ext.refl _)) ?_
      · have hx9 := fun W => slice_from u (k := i) (by omega) W
        try clear hSw
        go_simp
        all_goals (with_reducible rfl)
      try simp only [Act.put, List.setIfInBounds_toArray, List.set_cons_zero, List.set_cons_succ]
      refine take_at 3 (some 27) (.int .i64 k) rfl rfl (by kernel_rfl) (by kernel_rfl) (by kernel_rfl) (fun _ _ _ h => h) (Or.inl ⟨by rfl, fun w' hSw => ?_⟩) (Ext.drw (Ext.refl _)) ?_
      · skip
        try clear hSw
        go_simp
        all_goals (with_reducible rfl)
      try simp only [Act.put, List.setIfInBounds_toArray, List.set_cons_zero, List.set_cons_succ]
      refine take_at 4 (some 28) (.int .u8 ((lt k).toNat : Nat)) rfl rfl (by kernel_rfl) (by kernel_rfl) (by kernel_rfl) (fun _ _ _ h => h) (Or.inl ⟨by rfl, fun w' hSw => ?_⟩) (Ext.drw (Ext.refl _)) ?_
      · skip
        try clear hSw
        go_simp
        all_goals (with_reducible rfl)
      try simp only [Act.put, List.setIfInBounds_toArray, List.set_cons_zero, List.set_cons_succ]
      refine take_at 6 (some 30) (.string ⟨(v).toArray⟩) rfl rfl (by kernel_rfl) (by kernel_rfl) (by kernel_rfl) (fun _ _ _ h => h) (Or.inl ⟨by rfl, fun w' hSw => ?_⟩) (Ext.drw (Ext.refl _)) ?_
      · have q1_ := hSw.at zv1 cv1
        try clear hSw
        go_simp
        all_goals (with_reducible rfl)
      try simp only [Act.put, List.setIfInBounds_toArray, List.set_cons_zero, List.set_cons_succ]
      refine take_at 7 (some 31) (.int .i64 j) rfl rfl (by kernel_rfl) (by kernel_rfl) (by kernel_rfl) (fun _ _ _ h => h) (Or.inl ⟨by rfl, fun w' hSw => ?_⟩) (Ext.drw (Ext.refl _)) ?_
      · skip
        try clear hSw
        go_simp
        all_goals (with_reducible rfl)
      try simp only [Act.put, List.setIfInBounds_toArray, List.set_cons_zero, List.set_cons_succ]
      refine take_at 8 (some 32) (.string ⟨(v.drop j).toArray⟩) rfl rfl (by kernel_rfl) (by kernel_rfl) (by kernel_rfl) (fun _ _ _ h => h) (Or.inl ⟨by rfl, fun w' hSw => ?_⟩) (Ext.drw (Ext.refl _)) ?_
      · have hx9 := fun W => slice_from v (k := j) (by omega) W
        try clear hSw
        go_simp
        all_goals (with_reducible rfl)
      try simp only [Act.put, List.setIfInBounds_toArray, List.set_cons_zero, List.set_cons_succ]
      refine take_at 9 (some 33) (.int .i64 k) rfl rfl (by kernel_rfl) (by kernel_rfl) (by kernel_rfl) (fun _ _ _ h => h) (Or.inl ⟨by rfl, fun w' hSw => ?_⟩) (Ext.drw (Ext.refl _)) ?_
      · skip
        try clear hSw
        go_simp
        all_goals (with_reducible rfl)
      try simp only [Act.put, List.setIfInBounds_toArray, List.set_cons_zero, List.set_cons_succ]
      refine take_at 10 (some 34) (.int .u8 ((lt k).toNat : Nat)) rfl rfl (by kernel_rfl) (by kernel_rfl) (by kernel_rfl) (fun _ _ _ h => h) (Or.inl ⟨by rfl, fun w' hSw => ?_⟩) (Ext.drw (Ext.refl _)) ?_
      · skip
        try clear hSw
        go_simp
        all_goals (with_reducible rfl)
      try simp only [Act.put, List.setIfInBounds_toArray, List.set_cons_zero, List.set_cons_succ]
      refine wpAnyH_ready (rs := [5]) (by kernel_rfl) (by simp) ?_
      refine AllReadyH.cons rfl (fun K hK => ?_) AllReadyH.nil
      go_simp
      refine (CA.out _).mono ?_
      rintro e v5 ⟨rfl, hb5⟩
      have e5 : Ext wr v5 := (Ext.drw (Ext.refl _)).trans hb5
      try go_wp2_with fail
      refine hK.out _ _ e5 (fun _ => ?_)
      clear hK K
      try simp only [Act.put, List.setIfInBounds_toArray, List.set_cons_zero, List.set_cons_succ]
      refine wpAnyH_ready (rs := [11]) (by kernel_rfl) (by simp) ?_
      refine AllReadyH.cons rfl (fun K hK => ?_) AllReadyH.nil
      go_simp
      refine (CB.out _).mono ?_
      rintro e v11 ⟨rfl, hb11⟩
      have e11 : Ext wr v11 := (e5).trans hb11
      try go_wp2_with fail
      refine hK.out _ _ e11 (fun _ => ?_)
      clear hK K
      try simp only [Act.put, List.setIfInBounds_toArray, List.set_cons_zero, List.set_cons_succ]
      refine take_at 12 (some 12) (.int .i64 A) rfl rfl (by kernel_rfl) (by kernel_rfl) (by kernel_rfl) (fun _ _ _ h => h) (Or.inl ⟨by rfl, fun w' hSw => ?_⟩) (e11) ?_
      · skip
        try clear hSw
        go_simp
        all_goals (with_reducible rfl)
      try simp only [Act.put, List.setIfInBounds_toArray, List.set_cons_zero, List.set_cons_succ]
      refine take_at 13 (some 13) (.int .i64 B) rfl rfl (by kernel_rfl) (by kernel_rfl) (by kernel_rfl) (fun _ _ _ h => h) (Or.inl ⟨by rfl, fun w' hSw => ?_⟩) (e11) ?_
      · skip
        try clear hSw
        go_simp
        all_goals (with_reducible rfl)
      try simp only [Act.put, List.setIfInBounds_toArray, List.set_cons_zero, List.set_cons_succ]
      refine wpAnyH_done (by kernel_rfl) ?_ _
      refine NoPanic.normal ?_
      have hin2 := Lib.hid (And.intro (hin.out.1.trans (Kq.of g1 g2 e11)) (hin.out.2.ext' e11))
      have hcra := (Kq.of g1 g2 e11).cell HCR.out.2 nr1 nr2 HCR.out.1
      have hzra := Nat.lt_of_lt_of_le HCR.out.2 e11.size
      clear hb5 hb11 e5 e11
      clear cu1 zu1 cv1 zv1 hidx
      generalize v11 = wa at *
      cases hfa : Bw.fi (u.drop i) (lt k) with
      | none =>
        have hAv : A = -1 := by rw [HAB.out.1]; unfold ix; rw [hfa]
        have hsame : Bw.cmS Bw.cm (u.drop i) (v.drop j) t (lt k) = t := by unfold Bw.cmS; rw [hfa]
        have HSA := Lib.hid hsame
        subst hAv
        clear hfa hsame
        go_wp2
        go_roundw
        case rel => exact ⟨k + 1, t, by go_num, by omega, rfl, htl, Lib.hid (by rw [HNX.out, HSA.out]), hin2⟩
        case measure => simp [intOf]; omega
      | some a =>
        have hAv : A = (a : Int) := by rw [HAB.out.1]; unfold ix; rw [hfa]
        have hal := (Bw.fi_some hfa).2
        rw [List.length_drop] at hal
        subst hAv
        have ha0 : ¬ (a : Int) < 0 := by omega
        cases hfb : Bw.fi (v.drop j) (lt k) with
        | none =>
          have hBv : B = -1 := by rw [HAB.out.2]; unfold ix; rw [hfb]
          have hsame : Bw.cmS Bw.cm (u.drop i) (v.drop j) t (lt k) = t := by unfold Bw.cmS; rw [hfa, hfb]
          have HSA := Lib.hid hsame
          subst hBv
          clear hfa hfb hsame hal
          go_wp2
          go_roundw
          case rel => exact ⟨k + 1, t, by go_num, by omega, rfl, htl, Lib.hid (by rw [HNX.out, HSA.out]), hin2⟩
          case measure => simp [intOf]; omega
        | some b =>
          have hBv : B = (b : Int) := by rw [HAB.out.2]; unfold ix; rw [hfb]
          have hbl := (Bw.fi_some hfb).2
          rw [List.length_drop] at hbl
          subst hBv
          have hb0 : ¬ (b : Int) < 0 := by omega
          obtain ⟨n1, hn1⟩ : ∃ n, n = i + a := ⟨_, rfl⟩
          obtain ⟨n2, hn2⟩ : ∃ n, n = n1 + 1 := ⟨_, rfl⟩
          obtain ⟨n3, hn3⟩ : ∃ n, n = j + b := ⟨_, rfl⟩
          obtain ⟨n4, hn4⟩ : ∃ n, n = n3 + 1 := ⟨_, rfl⟩
          obtain ⟨n5, hn5⟩ : ∃ n, n = R * n4 := ⟨_, rfl⟩
          obtain ⟨q, hq⟩ : ∃ n, n = n2 + n5 := ⟨_, rfl⟩
          have h2u : n2 ≤ u.length := by omega
          have h4v : n4 ≤ v.length := by omega
          have hqN : q < gz u v := by rw [hq, hn5, HR.out.1]; exact gz_at h2u h4v
          have hcq : cv u v q = Bw.cm (u.drop n2) (v.drop n4) := by rw [hq, hn5, HR.out.1]; exact cv_at h2u
          have hqm : q % (u.length + 1) = n2 := by rw [hq, hn5, HR.out.1]; exact (gz_mod h2u).1
          have hpm : p % (u.length + 1) = i := by rw [← HR.out.1, ← HR.out.2.1]
          have h5b : n5 ≤ 81 := by rw [hn5]; exact Nat.mul_le_mul (show R ≤ 9 by omega) (show n4 ≤ 9 by omega)
          have w5 : IntKind.i64.wrap ((R : Int) * (n4 : Int)) = (n5 : Int) := by
            have : (R : Int) * (n4 : Int) = (n5 : Int) := by rw [hn5]; simp
            rw [this]; exact IntWalk.i64_in _ (by omega)
          have w1 : IntKind.i64.wrap ((i : Int) + (a : Int)) = (n1 : Int) := by
            rw [show (i : Int) + (a : Int) = (n1 : Int) by omega]; exact IntWalk.i64_in _ (by omega)
          have w2 : IntKind.i64.wrap ((n1 : Int) + 1) = (n2 : Int) := by
            rw [show (n1 : Int) + 1 = (n2 : Int) by omega]; exact IntWalk.i64_in _ (by omega)
          have w3 : IntKind.i64.wrap ((j : Int) + (b : Int)) = (n3 : Int) := by
            rw [show (j : Int) + (b : Int) = (n3 : Int) by omega]; exact IntWalk.i64_in _ (by omega)
          have w4 : IntKind.i64.wrap ((n3 : Int) + 1) = (n4 : Int) := by
            rw [show (n3 : Int) + 1 = (n4 : Int) by omega]; exact IntWalk.i64_in _ (by omega)
          have w6 : IntKind.i64.wrap ((n2 : Int) + (n5 : Int)) = (q : Int) := by
            rw [show (n2 : Int) + (n5 : Int) = (q : Int) by omega]; exact IntWalk.i64_in _ (by omega)
          have HW := Lib.hid (And.intro w1 (And.intro w2 (And.intro w3 (And.intro w4 (And.intro w5 w6)))))
          obtain ⟨r, hr⟩ : ∃ r, r = cv u v q := ⟨_, rfl⟩
          have hrl : r.length ≤ 8 := by rw [hr]; exact Nat.le_trans (cv_le u v q) hu8
          have HQ := Lib.hid (HIH.out q hqN (by omega))
          unfold OfC at HQ
          rw [← hr] at HQ
          have hcs : Bw.cmS Bw.cm (u.drop i) (v.drop j) t (lt k) = if t.length < r.length + 1 then lt k :: r else t := by
            unfold Bw.cmS
            rw [hfa, hfb]
            dsimp only
            rw [List.drop_drop, List.drop_drop, show i + (a + 1) = n2 by omega, show j + (b + 1) = n4 by omega, ← hcq, ← hr]
          have HCS := Lib.hid hcs
          have hrl7 : t.length < r.length + 1 → r.length + 1 ≤ 8 := fun _ => by
            have h1 := cm_le (u.drop n2) (v.drop n4)
            rw [← hcq, ← hr, List.length_drop] at h1
            omega
          have HRL := Lib.hid hrl7
          have cr2 : wa.cell? ⟨rb, 0, none⟩ = some (.int .i64 (R : Int)) := hcra
          have zr2 : rb < wa.heap.size := hzra
          clear hcra hzra hfa hfb hqN hcq hqm hpm hr hcs hrl7 w1 w2 w3 w4 w5 w6 hn1 hn2 hn3 hn4 hn5 hq h2u h4v h5b hal hbl hi hj hpl
          go_upto_region 8 with fail
          refine wp_region_noPanic ?_
          refine wp_region_held_drew (S := fun X => Kq g1 g2 wa X) (by kernel_rfl) ((Kq.refl g1 g2 wa).drw) (fun _ => ?_)
          refine take_at 0 (some 42) (.int .i64 k) rfl rfl (by kernel_rfl) (by kernel_rfl) (by kernel_rfl) (fun _ _ _ h => h) (Or.inl ⟨by rfl, fun w' hSw => ?_⟩) ((Kq.refl g1 g2 wa).drw) ?_
          · skip
            try clear hSw
            go_simp
            all_goals (with_reducible rfl)
          try simp only [Act.put, List.setIfInBounds_toArray, List.set_cons_zero, List.set_cons_succ]
          refine take_at 1 (some 43) (.int .i64 k) rfl rfl (by kernel_rfl) (by kernel_rfl) (by kernel_rfl) (fun _ _ _ h => h) (Or.inl ⟨by rfl, fun w' hSw => ?_⟩) ((Kq.refl g1 g2 wa).drw) ?_
          · skip
            try clear hSw
            go_simp
            all_goals (with_reducible rfl)
          try simp only [Act.put, List.setIfInBounds_toArray, List.set_cons_zero, List.set_cons_succ]
          refine take_at 2 (some 44) (.int .i64 ((k : Int) + 1)) rfl rfl (by kernel_rfl) (by kernel_rfl) (by kernel_rfl) (fun _ _ _ h => h) (Or.inl ⟨by rfl, fun w' hSw => ?_⟩) ((Kq.refl g1 g2 wa).drw) ?_
          · skip
            try clear hSw
            go_simp
            all_goals (first | (with_reducible rfl) | exact IntWalk.i64_in _ (by omega))
          try simp only [Act.put, List.setIfInBounds_toArray, List.set_cons_zero, List.set_cons_succ]
          refine take_at 3 (some 45) (.string ⟨#[lt k]⟩) rfl rfl (by kernel_rfl) (by kernel_rfl) (by kernel_rfl) (fun _ _ _ h => h) (Or.inl ⟨by rfl, fun w' hSw => ?_⟩) ((Kq.refl g1 g2 wa).drw) ?_
          · have hx9 := fun W => slice_letter hk8 W
            try clear hSw
            go_simp
            all_goals (with_reducible rfl)
          try simp only [Act.put, List.setIfInBounds_toArray, List.set_cons_zero, List.set_cons_succ]
          refine take_at 4 (some 46) (.func (.func 66) #[.pointer (some ⟨kb, 0, none⟩)] #[]) rfl rfl (by kernel_rfl) (by kernel_rfl) (by kernel_rfl) (fun _ _ _ h => h) (Or.inl ⟨by rfl, fun w' hSw => ?_⟩) ((Kq.refl g1 g2 wa).drw) ?_
          · skip
            try clear hSw
            go_simp
            all_goals (with_reducible rfl)
          try simp only [Act.put, List.setIfInBounds_toArray, List.set_cons_zero, List.set_cons_succ]
          refine take_at 5 (some 47) (.int .i64 (i : Nat)) rfl rfl (by kernel_rfl) (by kernel_rfl) (by kernel_rfl) (fun _ _ _ h => h) (Or.inl ⟨by rfl, fun w' hSw => ?_⟩) ((Kq.refl g1 g2 wa).drw) ?_
          · skip
            try clear hSw
            go_simp
            all_goals (with_reducible rfl)
          try simp only [Act.put, List.setIfInBounds_toArray, List.set_cons_zero, List.set_cons_succ]
          refine take_at 6 (some 48) (.int .i64 (a : Nat)) rfl rfl (by kernel_rfl) (by kernel_rfl) (by kernel_rfl) (fun _ _ _ h => h) (Or.inl ⟨by rfl, fun w' hSw => ?_⟩) ((Kq.refl g1 g2 wa).drw) ?_
          · skip
            try clear hSw
            go_simp
            all_goals (with_reducible rfl)
          try simp only [Act.put, List.setIfInBounds_toArray, List.set_cons_zero, List.set_cons_succ]
          refine take_at 7 (some 49) (.int .i64 (n1 : Nat)) rfl rfl (by kernel_rfl) (by kernel_rfl) (by kernel_rfl) (fun _ _ _ h => h) (Or.inl ⟨by rfl, fun w' hSw => ?_⟩) ((Kq.refl g1 g2 wa).drw) ?_
          · have w1 := HW.out.1
            try clear hSw
            go_simp
            all_goals (with_reducible rfl)
          try simp only [Act.put, List.setIfInBounds_toArray, List.set_cons_zero, List.set_cons_succ]
          refine take_at 8 (some 50) (.int .i64 (n2 : Nat)) rfl rfl (by kernel_rfl) (by kernel_rfl) (by kernel_rfl) (fun _ _ _ h => h) (Or.inl ⟨by rfl, fun w' hSw => ?_⟩) ((Kq.refl g1 g2 wa).drw) ?_
          · have w2 := HW.out.2.1
            try clear hSw
            go_simp
            all_goals (with_reducible rfl)
          try simp only [Act.put, List.setIfInBounds_toArray, List.set_cons_zero, List.set_cons_succ]
          refine take_at 9 (some 51) (.int .i64 (R : Nat)) rfl rfl (by kernel_rfl) (by kernel_rfl) (by kernel_rfl) (fun _ _ _ h => h) (Or.inl ⟨by rfl, fun w' hSw => ?_⟩) ((Kq.refl g1 g2 wa).drw) ?_
          · have q1_ := hSw.cell zr2 nr1 nr2 cr2
            try clear hSw
            go_simp
            all_goals (with_reducible rfl)
          try simp only [Act.put, List.setIfInBounds_toArray, List.set_cons_zero, List.set_cons_succ]
          refine take_at 10 (some 52) (.int .i64 (j : Nat)) rfl rfl (by kernel_rfl) (by kernel_rfl) (by kernel_rfl) (fun _ _ _ h => h) (Or.inl ⟨by rfl, fun w' hSw => ?_⟩) ((Kq.refl g1 g2 wa).drw) ?_
          · skip
            try clear hSw
            go_simp
            all_goals (with_reducible rfl)
          try simp only [Act.put, List.setIfInBounds_toArray, List.set_cons_zero, List.set_cons_succ]
          refine take_at 11 (some 53) (.int .i64 (b : Nat)) rfl rfl (by kernel_rfl) (by kernel_rfl) (by kernel_rfl) (fun _ _ _ h => h) (Or.inl ⟨by rfl, fun w' hSw => ?_⟩) ((Kq.refl g1 g2 wa).drw) ?_
          · skip
            try clear hSw
            go_simp
            all_goals (with_reducible rfl)
          try simp only [Act.put, List.setIfInBounds_toArray, List.set_cons_zero, List.set_cons_succ]
          refine take_at 12 (some 54) (.int .i64 (n3 : Nat)) rfl rfl (by kernel_rfl) (by kernel_rfl) (by kernel_rfl) (fun _ _ _ h => h) (Or.inl ⟨by rfl, fun w' hSw => ?_⟩) ((Kq.refl g1 g2 wa).drw) ?_
          · have w3 := HW.out.2.2.1
            try clear hSw
            go_simp
            all_goals (with_reducible rfl)
          try simp only [Act.put, List.setIfInBounds_toArray, List.set_cons_zero, List.set_cons_succ]
          refine take_at 13 (some 55) (.int .i64 (n4 : Nat)) rfl rfl (by kernel_rfl) (by kernel_rfl) (by kernel_rfl) (fun _ _ _ h => h) (Or.inl ⟨by rfl, fun w' hSw => ?_⟩) ((Kq.refl g1 g2 wa).drw) ?_
          · have w4 := HW.out.2.2.2.1
            try clear hSw
            go_simp
            all_goals (with_reducible rfl)
          try simp only [Act.put, List.setIfInBounds_toArray, List.set_cons_zero, List.set_cons_succ]
          refine take_at 14 (some 56) (.int .i64 (n5 : Nat)) rfl rfl (by kernel_rfl) (by kernel_rfl) (by kernel_rfl) (fun _ _ _ h => h) (Or.inl ⟨by rfl, fun w' hSw => ?_⟩) ((Kq.refl g1 g2 wa).drw) ?_
          · have w5 := HW.out.2.2.2.2.1
            try clear hSw
            go_simp
            all_goals (with_reducible rfl)
          try simp only [Act.put, List.setIfInBounds_toArray, List.set_cons_zero, List.set_cons_succ]
          refine take_at 15 (some 57) (.int .i64 (q : Nat)) rfl rfl (by kernel_rfl) (by kernel_rfl) (by kernel_rfl) (fun _ _ _ h => h) (Or.inl ⟨by rfl, fun w' hSw => ?_⟩) ((Kq.refl g1 g2 wa).drw) ?_
          · have w6 := HW.out.2.2.2.2.2
            try clear hSw
            go_simp
            all_goals (with_reducible rfl)
          try simp only [Act.put, List.setIfInBounds_toArray, List.set_cons_zero, List.set_cons_succ]
          refine wpAnyH_ready (rs := [16]) (by kernel_rfl) (by simp) ?_
          refine AllReadyH.cons rfl (fun K hK => ?_) AllReadyH.nil
          go_simp
          refine (HQ.out _ hin2.out.2.drw).mono ?_
          rintro e wz ⟨rfl, hkz, hiz⟩
          have ez : Kq g1 g2 wa wz := ((Kq.refl g1 g2 wa).drw).trans hkz
          try go_wp2_with fail
          refine hK.out _ _ ez (fun _ => ?_)
          clear hK K
          try simp only [Act.put, List.setIfInBounds_toArray, List.set_cons_zero, List.set_cons_succ]
          refine take_at 17 (some 59) (.string ⟨(lt k :: r).toArray⟩) rfl rfl (by kernel_rfl) (by kernel_rfl) (by kernel_rfl) (fun _ _ _ h => h) (Or.inl ⟨by rfl, fun w' hSw => ?_⟩) (ez) ?_
          · have hx9 := cons_bytes (lt k) r
            try clear hSw
            go_simp
            all_goals (first | (with_reducible rfl) | omega)
          try simp only [Act.put, List.setIfInBounds_toArray, List.set_cons_zero, List.set_cons_succ]
          refine take_at 18 (some 14) (.string ⟨(lt k :: r).toArray⟩) rfl rfl (by kernel_rfl) (by kernel_rfl) (by kernel_rfl) (fun _ _ _ h => h) (Or.inl ⟨by rfl, fun w' hSw => ?_⟩) (ez) ?_
          · skip
            try clear hSw
            go_simp
            all_goals (with_reducible rfl)
          try simp only [Act.put, List.setIfInBounds_toArray, List.set_cons_zero, List.set_cons_succ]
          refine wpAnyH_done (by kernel_rfl) ?_ _
          refine NoPanic.normal ?_
          have hin3 := Lib.hid (And.intro (hin2.out.1.trans ez) hiz)
          clear hkz hiz ez
          clear cr2 zr2
          by_cases hgt : t.length < r.length + 1
          · have hg : (t.length : Int) < (r.length : Int) + 1 := by omega
            have hl9 := HRL.out hgt
            have HGT := Lib.hid hgt
            clear hgt
            go_wp2
            go_roundw
            case rel => exact ⟨k + 1, lt k :: r, by go_num, by omega, rfl, by simp; omega, Lib.hid (by rw [HNX.out, HCS.out, if_pos HGT.out]), hin3⟩
            case measure => simp [intOf]; omega
          · have hg : ¬ (t.length : Int) < (r.length : Int) + 1 := by omega
            have HGT := Lib.hid hgt
            clear hgt
            go_wp2
            go_roundw
            case rel => exact ⟨k + 1, t, by go_num, by omega, rfl, htl, Lib.hid (by rw [HNX.out, HCS.out, if_neg HGT.out]), hin3⟩
            case measure => simp [intOf]; omega
    · obtain rfl : k = 8 := by omega
      have hfin : t = Bw.cm (u.drop i) (v.drop j) := by rw [htf.out, Bw.cm_eq (u.drop i) (v.drop j)]; rfl
      have HF := Lib.hid hfin
      clear hfin
      go_wp2
      go_ret
      exact ⟨by rw [HF.out]; rfl, hin.out⟩
end Go.Proofs.YtlachbodibajlaaDoor
namespace Go.Proofs.YtlachbodibajlaaDoor
open Go.RowKit Go.Shelf

set_option maxRecDepth 100000 in
theorem info9 : (Tryd.prog.info? 9).map (fun i => (i.zero, i.size, i.bytes)) = some (some (.string ⟨#[]⟩), 1, 16) := by kernel_rfl
set_option maxHeartbeats 4000000 in
set_option maxRecDepth 100000 in
theorem keepC_any (N : Nat) (rule : Value) (f : Fn) (a1 a2 : Array Value) (hr : rule = .func f a1 a2) (hN : N ≤ 100000) (W : World) :
    Calls Tryd.prog 63 #[.int .i64 N, rule] W fun e W' => ∃ kb g1 g2, e = .returned (.pointer (some ⟨kb, 0, none⟩)) ∧ Ext W W' ∧ W.heap.size ≤ g1 ∧ W.heap.size ≤ g2 ∧ g1 ≠ g2 ∧ kb ≠ g1 ∧ kb ≠ g2 ∧
      W'.heap[kb]? = some (.cells #[rule, .slice (some ⟨g1, 0, none⟩) N N, .slice (some ⟨g2, 0, none⟩) N N] 132 (0, 0)) ∧ BB W' g1 N (fun _ => false) ∧ Bk W' g2 9 N (fun _ => .string ⟨#[]⟩) := by
  subst hr
  have hm1 : ∀ w, (Instr.makeSlice 115 (.int .i64 (N : Int)) (.int .i64 (N : Int))).run Tryd.prog w = .ok (.slice (some ⟨w.heap.size, 0, none⟩) N N) (w.alloc (.cells (Array.ofFn fun _ : Fin N => .bool false) 4)) :=
    fun w => make_one 115 4 _ 1 Tryd.underlying115 info4 rfl (by omega) N (by omega) w
  have hm2 : ∀ w, (Instr.makeSlice 22 (.int .i64 (N : Int)) (.int .i64 (N : Int))).run Tryd.prog w = .ok (.slice (some ⟨w.heap.size, 0, none⟩) N N) (w.alloc (.cells (Array.ofFn fun _ : Fin N => .string ⟨#[]⟩) 9)) :=
    fun w => make_one 22 9 _ 16 Tryd.underlying22 info9 rfl (by omega) N (by omega) w
  obtain ⟨C1, hC1⟩ : ∃ C, C = (Array.ofFn fun _ : Fin N => Value.bool false) := ⟨_, rfl⟩
  obtain ⟨C2, hC2⟩ : ∃ C, C = (Array.ofFn fun _ : Fin N => Value.string ⟨#[]⟩) := ⟨_, rfl⟩
  rw [← hC1] at hm1
  rw [← hC2] at hm2
  have HC1 := Lib.hid hC1; have HC2 := Lib.hid hC2
  clear hC1 hC2
  go_enter Tryd.func63, Tryd.ntmps63
  go_upto_region 1 with fail
  go_region
  · have b1 : (((W.alloc (.cells C1 4)).alloc (.cells C2 9)).alloc (.cells #[.func f a1 a2, .slice (some ⟨W.heap.size, 0, none⟩) N N, .slice (some ⟨W.heap.size + 1, 0, none⟩) N N] 132)).drew.heap[W.heap.size]? = some (.cells C1 4 (0, 0)) := (Below.heap_alloc _ _ _ (by simp; omega)).trans ((Below.heap_alloc _ _ _ (by simp)).trans (heap_alloc_new W _))
    have b2 : (((W.alloc (.cells C1 4)).alloc (.cells C2 9)).alloc (.cells #[.func f a1 a2, .slice (some ⟨W.heap.size, 0, none⟩) N N, .slice (some ⟨W.heap.size + 1, 0, none⟩) N N] 132)).drew.heap[W.heap.size + 1]? = some (.cells C2 9 (0, 0)) := by
      have h1 := heap_alloc_new (W.alloc (.cells C1 4)) (.cells C2 9)
      simp only [World.size_alloc] at h1
      exact (Below.heap_alloc _ _ _ (by simp)).trans h1
    have b3 : (((W.alloc (.cells C1 4)).alloc (.cells C2 9)).alloc (.cells #[.func f a1 a2, .slice (some ⟨W.heap.size, 0, none⟩) N N, .slice (some ⟨W.heap.size + 1, 0, none⟩) N N] 132)).drew.heap[W.heap.size + 1 + 1]? = some (.cells #[.func f a1 a2, .slice (some ⟨W.heap.size, 0, none⟩) N N, .slice (some ⟨W.heap.size + 1, 0, none⟩) N N] 132 (0, 0)) := by
      have h1 := heap_alloc_new ((W.alloc (.cells C1 4)).alloc (.cells C2 9)) (.cells #[.func f a1 a2, .slice (some ⟨W.heap.size, 0, none⟩) N N, .slice (some ⟨W.heap.size + 1, 0, none⟩) N N] 132)
      simp only [World.size_alloc] at h1
      exact h1
    have ex : Ext W (((W.alloc (.cells C1 4)).alloc (.cells C2 9)).alloc (.cells #[.func f a1 a2, .slice (some ⟨W.heap.size, 0, none⟩) N N, .slice (some ⟨W.heap.size + 1, 0, none⟩) N N] 132)).drew := ((((Ext.refl W).alc _).alc _).alc _).drw
    generalize (((W.alloc (.cells C1 4)).alloc (.cells C2 9)).alloc (.cells #[.func f a1 a2, .slice (some ⟨W.heap.size, 0, none⟩) N N, .slice (some ⟨W.heap.size + 1, 0, none⟩) N N] 132)).drew = Y at *
    rw [HC1.out] at b1
    rw [HC2.out] at b2
    have HB := Lib.hid (And.intro b1 (And.intro b2 (And.intro b3 ex)))
    clear b1 b2 b3 ex
    go_wp2
    go_ret
    exact ⟨_, _, _, rfl, HB.out.2.2.2, Nat.le_refl _, Nat.le_succ _, by omega, by omega, by omega, HB.out.2.2.1, HB.out.1, HB.out.2.1⟩
  · have b1 : (((W.alloc (.cells C2 9)).alloc (.cells C1 4)).alloc (.cells #[.func f a1 a2, .slice (some ⟨W.heap.size + 1, 0, none⟩) N N, .slice (some ⟨W.heap.size, 0, none⟩) N N] 132)).drew.heap[W.heap.size]? = some (.cells C2 9 (0, 0)) := (Below.heap_alloc _ _ _ (by simp; omega)).trans ((Below.heap_alloc _ _ _ (by simp)).trans (heap_alloc_new W _))
    have b2 : (((W.alloc (.cells C2 9)).alloc (.cells C1 4)).alloc (.cells #[.func f a1 a2, .slice (some ⟨W.heap.size + 1, 0, none⟩) N N, .slice (some ⟨W.heap.size, 0, none⟩) N N] 132)).drew.heap[W.heap.size + 1]? = some (.cells C1 4 (0, 0)) := by
      have h1 := heap_alloc_new (W.alloc (.cells C2 9)) (.cells C1 4)
      simp only [World.size_alloc] at h1
      exact (Below.heap_alloc _ _ _ (by simp)).trans h1
    have b3 : (((W.alloc (.cells C2 9)).alloc (.cells C1 4)).alloc (.cells #[.func f a1 a2, .slice (some ⟨W.heap.size + 1, 0, none⟩) N N, .slice (some ⟨W.heap.size, 0, none⟩) N N] 132)).drew.heap[W.heap.size + 1 + 1]? = some (.cells #[.func f a1 a2, .slice (some ⟨W.heap.size + 1, 0, none⟩) N N, .slice (some ⟨W.heap.size, 0, none⟩) N N] 132 (0, 0)) := by
      have h1 := heap_alloc_new ((W.alloc (.cells C2 9)).alloc (.cells C1 4)) (.cells #[.func f a1 a2, .slice (some ⟨W.heap.size + 1, 0, none⟩) N N, .slice (some ⟨W.heap.size, 0, none⟩) N N] 132)
      simp only [World.size_alloc] at h1
      exact h1
    have ex : Ext W (((W.alloc (.cells C2 9)).alloc (.cells C1 4)).alloc (.cells #[.func f a1 a2, .slice (some ⟨W.heap.size + 1, 0, none⟩) N N, .slice (some ⟨W.heap.size, 0, none⟩) N N] 132)).drew := ((((Ext.refl W).alc _).alc _).alc _).drw
    generalize (((W.alloc (.cells C2 9)).alloc (.cells C1 4)).alloc (.cells #[.func f a1 a2, .slice (some ⟨W.heap.size + 1, 0, none⟩) N N, .slice (some ⟨W.heap.size, 0, none⟩) N N] 132)).drew = Y at *
    rw [HC2.out] at b1
    rw [HC1.out] at b2
    have HB := Lib.hid (And.intro b1 (And.intro b2 (And.intro b3 ex)))
    clear b1 b2 b3 ex
    go_wp2
    go_ret
    exact ⟨_, _, _, rfl, HB.out.2.2.2, Nat.le_succ _, Nat.le_refl _, by omega, by omega, by omega, HB.out.2.2.1, HB.out.2.1, HB.out.1⟩

/-- every number has its common string -/
theorem ofC_all {u v : List UInt8} {W0 : World} {kb g1 g2 rb ub vb : Nat} (hK : Kc u v W0 kb g1 g2 rb ub vb) : ∀ (m q : Nat), q < gz u v → u.length - q % (u.length + 1) ≤ m → OfC u v W0 kb g1 g2 rb ub vb q
  | m, q, hq, hm => ofC_step u v W0 kb g1 g2 rb ub vb q hK hq (ruleC_step u v W0 kb g1 g2 rb ub vb q hK hq fun r hr hlt => by
      cases m with
      | zero => omega
      | succ m => exact ofC_all hK m r hr (by omega))

/-- what Common returns -/
def coS (u v : List UInt8) : List UInt8 := if (okWd u && okWd v) = true then Bw.cm u v else []
def coE (u v : List UInt8) : Int := if (okWd u && okWd v) = true then 0 else 2
theorem let8_any (s : List UInt8) (W : World) (hs : s.length ≤ 9223372036854775807) : Calls Tryd.prog 48 #[.string ⟨s.toArray⟩, .int .i64 8] W fun e W' => e = .returned (.bool (okWd s)) ∧ Ext W W' := by
  have h := areLetters_any s 8 W hs
  have e : (decide ((s.length : Int) ≤ 8) && okL s) = okWd s := by unfold okWd; congr 1; rw [decide_eq_decide]; omega
  rw [e] at h
  exact h

set_option maxHeartbeats 4000000 in
set_option maxRecDepth 100000 in
theorem common_any (u v : List UInt8) (W : World) (hu : u.length ≤ 9223372036854775807) (hv : v.length ≤ 9223372036854775807) :
    Calls Tryd.prog 27 #[.string ⟨u.toArray⟩, .string ⟨v.toArray⟩] W fun e W' => e = .returned (.tuple #[.string ⟨(coS u v).toArray⟩, .int .i64 (coE u v)]) ∧ Ext W W' := by
  have HU := Lib.hid hu; have HV := Lib.hid hv
  clear hu hv
  go_enter Tryd.func27, Tryd.ntmps27
  go_upto_region 1 with fail
  have ea : Ext W ((W.alloc (.cells #[.string ⟨u.toArray⟩] 9)).alloc (.cells #[.string ⟨v.toArray⟩] 9)) := ((Ext.refl W).alc _).alc _
  have ba : Boxed ((W.alloc (.cells #[.string ⟨u.toArray⟩] 9)).alloc (.cells #[.string ⟨v.toArray⟩] 9)) W.heap.size 9 (.string ⟨u.toArray⟩) := (Below.heap_alloc _ _ _ (by simp)).trans (heap_alloc_new W _)
  have bb : Boxed ((W.alloc (.cells #[.string ⟨u.toArray⟩] 9)).alloc (.cells #[.string ⟨v.toArray⟩] 9)) (W.heap.size + 1) 9 (.string ⟨v.toArray⟩) := by
    have h1 := heap_alloc_new (W.alloc (.cells #[.string ⟨u.toArray⟩] 9)) (.cells #[.string ⟨v.toArray⟩] 9)
    simp only [World.size_alloc] at h1
    exact h1
  generalize (W.alloc (.cells #[.string ⟨u.toArray⟩] 9)).alloc (.cells #[.string ⟨v.toArray⟩] 9) = W1 at *
  obtain ⟨ub, hub⟩ : ∃ b, b = W.heap.size := ⟨_, rfl⟩
  obtain ⟨vb, hvb⟩ : ∃ b, b = W.heap.size + 1 := ⟨_, rfl⟩
  rw [← hvb] at bb ⊢
  rw [← hub] at ba ⊢
  have HBX := Lib.hid (And.intro ea (And.intro ba bb))
  have cu := ba.cell; have cv0 := bb.cell; have zu := ba.lt; have zv := bb.lt
  have hlu : ub < vb := by omega
  clear ea ba bb hub hvb
  go_wp2_with fail
  refine (let8_any u _ HU.out).mono ?_
  rintro e w2 ⟨rfl, hx⟩
  cases hou : okWd u
  · have h1 : coS u v = [] := by unfold coS; rw [hou]; rfl
    have h2 : coE u v = 2 := by unfold coE; rw [hou]; rfl
    have H12 := Lib.hid (And.intro h1 h2)
    have HX := Lib.hid (HBX.out.1.trans hx)
    clear h1 h2 hou hx
    go_wp2
    refine bodyPost_ret (v := .tuple #[.string ⟨#[]⟩, .int .i64 2]) (by simp [results, Tryd.results27, go_sem]) rfl ?_
    exact ⟨by rw [H12.out.1, H12.out.2], HX.out⟩
  replace cu := hx.at zu cu
  replace cv0 := hx.at zv cv0
  replace zu := Nat.lt_of_lt_of_le zu hx.size
  replace zv := Nat.lt_of_lt_of_le zv hx.size
  have HX := Lib.hid hx
  have HOU := Lib.hid hou
  clear hx hou
  go_wp2_with fail
  refine (let8_any v _ HV.out).mono ?_
  rintro e w3 ⟨rfl, hx⟩
  replace cu := hx.at zu cu
  replace cv0 := hx.at zv cv0
  replace zu := Nat.lt_of_lt_of_le zu hx.size
  replace zv := Nat.lt_of_lt_of_le zv hx.size
  replace HX := Lib.hid (HX.out.trans hx)
  clear hx
  cases hov : okWd v
  · have h1 : coS u v = [] := by unfold coS; rw [HOU.out, hov]; rfl
    have h2 : coE u v = 2 := by unfold coE; rw [HOU.out, hov]; rfl
    have H12 := Lib.hid (And.intro h1 h2)
    have HX2 := Lib.hid (HBX.out.1.trans HX.out)
    clear h1 h2 hov cu cv0 zu zv
    go_wp2
    refine bodyPost_ret (v := .tuple #[.string ⟨#[]⟩, .int .i64 2]) (by simp [results, Tryd.results27, go_sem]) rfl ?_
    exact ⟨by rw [H12.out.1, H12.out.2], HX2.out⟩
  have h1 : coS u v = Bw.cm u v := by unfold coS; rw [HOU.out, hov]; rfl
  have h2 : coE u v = 0 := by unfold coE; rw [HOU.out, hov]; rfl
  have hu8 : u.length ≤ 8 := by
    have h := HOU.out; unfold okWd at h; rw [Bool.and_eq_true, decide_eq_true_eq] at h; exact h.1
  have hv8 : v.length ≤ 8 := by
    have h := hov; unfold okWd at h; rw [Bool.and_eq_true, decide_eq_true_eq] at h; exact h.1
  have H12 := Lib.hid (And.intro h1 h2)
  have hgz := gz_le hu8 hv8
  obtain ⟨N, hN⟩ : ∃ N, N = gz u v := ⟨_, rfl⟩
  obtain ⟨R, hR⟩ : ∃ R, R = u.length + 1 := ⟨_, rfl⟩
  obtain ⟨C, hC⟩ : ∃ C, C = v.length + 1 := ⟨_, rfl⟩
  have hNC : N = R * C := by rw [hN, hR, hC]; rfl
  have y1 : IntKind.i64.wrap ((u.length : Int) + 1) = (R : Int) := by
    rw [show (u.length : Int) + 1 = (R : Int) by omega]; exact IntWalk.i64_in _ (by omega)
  have y2 : IntKind.i64.wrap ((v.length : Int) + 1) = (C : Int) := by
    rw [show (v.length : Int) + 1 = (C : Int) by omega]; exact IntWalk.i64_in _ (by omega)
  have hN81 : N ≤ 81 := by omega
  have y3 : IntKind.i64.wrap ((R : Int) * (C : Int)) = (N : Int) := by
    rw [show (R : Int) * (C : Int) = (N : Int) by rw [hNC]; simp]; exact IntWalk.i64_in _ (by omega)
  have HN := Lib.hid hN; have HR := Lib.hid hR; have H8 := Lib.hid (And.intro hu8 hv8)
  clear h1 h2 hov hgz hN hR hC hNC hu8 hv8
  go_upto_region 4 with fail
  have er : Ext w3 (w3.alloc (.cells #[.int .i64 (R : Int)] 3)) := al1 w3 _
  have br : Boxed (w3.alloc (.cells #[.int .i64 (R : Int)] 3)) w3.heap.size 3 (.int .i64 (R : Int)) := heap_alloc_new w3 _
  obtain ⟨rb, hrb⟩ : ∃ b, b = w3.heap.size := ⟨_, rfl⟩
  rw [← hrb] at br ⊢
  replace cu := er.at zu cu
  replace cv0 := er.at zv cv0
  replace zu := Nat.lt_of_lt_of_le zu er.size
  replace zv := Nat.lt_of_lt_of_le zv er.size
  replace HX := Lib.hid (HX.out.trans er)
  generalize w3.alloc (.cells #[.int .i64 (R : Int)] 3) = w4 at *
  have cr := br.cell; have zr := br.lt
  have HBR := Lib.hid br
  clear er br hrb
  go_wp2_with fail
  refine (keepC_any N _ (.func 64) #[] #[.pointer (some ⟨rb, 0, none⟩), .pointer (some ⟨ub, 0, none⟩), .pointer (some ⟨vb, 0, none⟩)] rfl (by omega) _).mono ?_
  rintro e w5 ⟨kb, g1, g2, rfl, hx, l1, l2, n12, nk1, nk2, hkb, hB1, hB2⟩
  have hK : Kc u v w4 kb g1 g2 rb ub vb := ⟨H8.out.1, H8.out.2, by rw [← HR.out]; exact HBR.out, (HX.out.block ub (HBX.out.2.1.lt)).trans HBX.out.2.1, (HX.out.block vb (HBX.out.2.2.lt)).trans HBX.out.2.2, l1, l2, n12, nk1, nk2⟩
  have hI : Ks u v w4 kb g1 g2 rb ub vb w5 := ⟨hx, by rw [← HN.out]; exact hkb, fun _ => false, fun _ => [], by rw [← HN.out]; exact hB1, by rw [← HN.out]; exact hB2, fun p _ h => by cases h⟩
  have hcon := ofC_all hK _ 0 (gz_pos u v) (Nat.le_refl _) w5 hI
  have hc0 : cv u v 0 = Bw.cm u v := by unfold cv; simp
  rw [hc0] at hcon
  have HCON := Lib.hid hcon
  clear hx hkb hB1 hB2 hK hI hcon hc0 cu cv0 cr zu zv zr y1 y2 y3 l1 l2 n12 nk1 nk2
  go_wp2_with fail
  refine HCON.out.mono ?_
  rintro e w6 ⟨rfl, hk, hi⟩
  have HX2 := Lib.hid (HBX.out.1.trans (HX.out.trans hi.ext))
  clear hk hi
  obtain ⟨z, hz⟩ : ∃ z, z = Bw.cm u v := ⟨_, rfl⟩
  rw [← hz]
  have HZ := Lib.hid hz
  clear hz
  go_wp2
  refine bodyPost_ret (v := .tuple #[.string ⟨z.toArray⟩, .int .i64 0]) (by simp [results, Tryd.results27, go_sem]) rfl ?_
  exact ⟨by rw [H12.out.1, H12.out.2, ← HZ.out], HX2.out⟩
end Go.Proofs.YtlachbodibajlaaDoor
