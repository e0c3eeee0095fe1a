/- Courses: the cheapest bath, the prices out of a table. -/
import Derived.Test.YtlachbodibajlaaDoorM20
namespace Go.Proofs.YtlachbodibajlaaDoor
open Go.RowKit Go.Shelf

theorem num_lt {c : Crs} {s x : Nat} (hs : s < 2 ^ c.n) (hx : x < c.n) : c.n * s + x < c.sz := by
  have h6 : c.n * (s + 1) ≤ c.n * 2 ^ c.n := Nat.mul_le_mul_left _ hs
  rw [Nat.mul_add, Nat.mul_one] at h6
  unfold Crs.sz; omega

set_option maxHeartbeats 4000000 in
set_option maxRecDepth 100000 in
theorem cheapestT_any (S C E N : Value) (c : Crs) (W0 W : World) (kb g1 g2 s l : Nat) (pr : Nat → Int) (Inv : World → Prop) (h : Cv W0 S C E N c) (hc : c.ok) (hs : s < 2 ^ c.n) (hl : l < c.n) (hI : Inv W)
    (hI1 : ∀ X, Inv X → Ext W0 X) (hI2 : ∀ X Y, Inv X → Ext X Y → Inv Y) (hg1 : g1 < W.heap.size) (hg2 : g2 < W.heap.size)
    (hb : ∀ p, p < c.sz → -1099511627776 ≤ pr p ∧ pr p ≤ 1099511627776)
    (hP : ∀ x, x < c.n → c.can s x = true → ∀ X, Inv X → Calls Tryd.prog 83 #[.int .i64 ((c.n * (s ||| 2 ^ x) + x : Nat) : Int), .pointer (some ⟨kb, 0, none⟩)] X fun e X' => e = .returned (.int .i64 (pr (c.n * (s ||| 2 ^ x) + x))) ∧ Kq g1 g2 X X' ∧ Inv X') :
    Calls Tryd.prog 84 #[.agg #[S, C, E, N], .func (.func 83) #[] #[.pointer (some ⟨kb, 0, none⟩)], .int .i64 s, .int .i64 l] W fun e W' => e = .returned (.tuple #[.int .i64 (c.chp pr s l).1, .int .i64 (c.chp pr s l).2]) ∧ Kq g1 g2 W W' ∧ Inv W' := by
  obtain ⟨A, k, rfl, hk, hk2, -⟩ := id h.vs
  obtain ⟨A2, k2, rfl, -⟩ := id h.vc
  obtain ⟨A3, k3, rfl, -⟩ := id h.ve
  obtain ⟨A4, k4, rfl, -⟩ := id h.vn
  have hn := hc.n10
  have hs2 : s < 1024 := Nat.lt_of_lt_of_le hs (pow_1024 hn)
  have HC := Lib.hid h; have HOK := Lib.hid hc; have HS := Lib.hid hs; have HINV := Lib.hid (And.intro hI1 hI2); have HPR := Lib.hid hP; have HBD := Lib.hid hb
  have e1 : Ext W (W.alloc (.cells #[.slice A c.n k, .slice A2 c.n k2, .slice A3 c.n k3, .slice A4 c.n k4] 93)) := al1 W _
  have hin0 : Hid (Inv (W.alloc (.cells #[.slice A c.n k, .slice A2 c.n k2, .slice A3 c.n k3, .slice A4 c.n k4] 93)) ∧ Kq g1 g2 W (W.alloc (.cells #[.slice A c.n k, .slice A2 c.n k2, .slice A3 c.n k3, .slice A4 c.n k4] 93))) := Lib.hid ⟨hI2 _ _ hI e1, Kq.of g1 g2 e1⟩
  have hbk := heap_alloc_new W (.cells #[.slice A c.n k, .slice A2 c.n k2, .slice A3 c.n k3, .slice A4 c.n k4] 93)
  clear h hc hs hk hk2 hI1 hI2 hP hb hI e1
  go_enter Tryd.func84, Tryd.ntmps84
  go_upto_region 1 with fail
  obtain ⟨s1, hs1⟩ : ∃ s, s = W.heap.size := ⟨_, rfl⟩
  rw [← hs1] at hbk hg1 hg2 ⊢
  generalize W.alloc (.cells #[.slice A c.n k, .slice A2 c.n k2, .slice A3 c.n k3, .slice A4 c.n k4] 93) = W1 at *
  have gs1 : s1 ≠ g1 := by omega
  have gs2 : s1 ≠ g2 := by omega
  obtain ⟨c0, c1, c2, c3, z0⟩ := four_c hbk
  have HBK := Lib.hid hbk
  clear hbk hs1
  go_wp2_with fail
  refine (baths_any _ _ _ _ c _ (HC.out.ext (HINV.out.1 _ hin0.out.1)) HOK.out).mono ?_
  rintro e w2 ⟨rfl, hx⟩
  replace hin0 : Hid (Inv w2 ∧ Kq g1 g2 W w2) := Lib.hid ⟨HINV.out.2 _ _ hin0.out.1 hx, hin0.out.2.trans (Kq.of g1 g2 hx)⟩
  replace c0 := hx.at z0 c0
  replace c1 := hx.at z0 c1
  replace c2 := hx.at z0 c2
  replace c3 := hx.at z0 c3
  replace z0 := Nat.lt_of_lt_of_le z0 hx.size
  have HCC := Lib.hid (And.intro c0 (And.intro c1 (And.intro c2 (And.intro c3 z0))))
  clear c0 c1 c2 c3 z0 hx
  go_wp2_with fail
  go_loopw [8, 9, 14] (fun b d xx wr => ∃ (x : Nat) (bb dd : Int), xx = .int .i64 x ∧ x ≤ c.n ∧ b = .int .i64 bb ∧ d = .int .i64 dd ∧ Hid ((bb, dd) = ((List.range x).foldl (c.ck pr s l) (-1, 0))) ∧ Hid (Inv wr ∧ Kq g1 g2 W wr) ∧ Hid (Kq g1 g2 w2 wr)) (fun _ _ xx _ => c.n - (intOf xx).toNat)
  case atStart => exact ⟨0, -1, 0, rfl, Nat.zero_le _, rfl, rfl, Lib.hid rfl, hin0, Lib.hid (Kq.refl _ _ _)⟩
  case round =>
    clear hin0
    obtain ⟨x, bb, dd, rfl, hx, rfl, rfl, hbd, hin, hkw⟩ := hrel
    by_cases hxn : x < c.n
    · obtain ⟨c0, c1, c2, c3, z0⟩ := HCC.out
      replace c0 := hkw.out.cell z0 gs1 gs2 c0
      replace c1 := hkw.out.cell z0 gs1 gs2 c1
      replace c2 := hkw.out.cell z0 gs1 gs2 c2
      replace c3 := hkw.out.cell z0 gs1 gs2 c3
      replace z0 := Nat.lt_of_lt_of_le z0 hkw.out.size
      have hstep : (List.range (x + 1)).foldl (c.ck pr s l) (-1, 0) = c.ck pr s l (bb, dd) x := by
        rw [List.range_succ, List.foldl_append, ← hbd.out]; rfl
      have HST := Lib.hid hstep
      clear hstep
      go_wp2_with fail
      refine (canFollow_any _ _ _ _ c _ s x (HC.out.ext (HINV.out.1 _ hin.out.1)) HOK.out HS.out hxn).mono ?_
      rintro e w3 ⟨rfl, hx3⟩
      replace c0 := hx3.at z0 c0
      replace c1 := hx3.at z0 c1
      replace c2 := hx3.at z0 c2
      replace c3 := hx3.at z0 c3
      replace z0 := Nat.lt_of_lt_of_le z0 hx3.size
      replace hin : Hid (Inv w3 ∧ Kq g1 g2 W w3) := Lib.hid ⟨HINV.out.2 _ _ hin.out.1 hx3, hin.out.2.trans (Kq.of g1 g2 hx3)⟩
      replace hkw := Lib.hid (hkw.out.trans (Kq.of g1 g2 hx3))
      clear hx3
      cases hcan : c.can s x
      · have hsame : c.ck pr s l (bb, dd) x = (bb, dd) := by unfold Crs.ck; rw [hcan]; rfl
        have HSA := Lib.hid hsame
        clear hsame hcan c0 c1 c2 c3 z0
        go_wp2
        go_roundw
        case rel => exact ⟨x + 1, bb, dd, by go_num, by omega, rfl, rfl, Lib.hid (by rw [HST.out, HSA.out]), hin, hkw⟩
        case measure => simp [intOf] <;> omega
      · have HCAN := Lib.hid hcan
        obtain ⟨px, hpx⟩ : ∃ a : Nat, a = 2 ^ x := ⟨_, rfl⟩
        obtain ⟨sx, hsx⟩ : ∃ a : Nat, a = s ||| 2 ^ x := ⟨_, rfl⟩
        have hpl : px < 1024 := by rw [hpx]; exact Nat.lt_of_lt_of_le (Nat.pow_lt_pow_right (by omega) hxn) (pow_1024 hn)
        have y1 : (2 : Int) ^ x = (px : Int) := by rw [hpx]; simp
        have y2 : bits .or .i64 (s : Int) (px : Int) = (sx : Int) := by rw [or_nat hs2 hpl, hsx, hpx]
        have y3 : sx < 2 ^ c.n := by rw [hsx]; exact or_lt HS.out hxn
        have y4 : IntKind.i64.wrap (px : Int) = (px : Int) := IntWalk.i64_in _ (by omega)
        have HSX := Lib.hid (And.intro y1 (And.intro y2 (And.intro y3 y4)))
        have HPR2 := Lib.hid (HPR.out x hxn hcan)
        have hbv := HBD.out (c.n * sx + x) (num_lt y3 hxn)
        have hbs := stp_bd HOK.out (s := s) hl hxn
        obtain ⟨v, hv⟩ : ∃ v, v = c.stp s l x + pr (c.n * sx + x) := ⟨_, rfl⟩
        have hvw : IntKind.i64.wrap (c.stp s l x + pr (c.n * sx + x)) = v := by rw [hv]; exact IntWalk.i64_in _ (by omega)
        have HV := Lib.hid hvw
        have hck : c.ck pr s l (bb, dd) x = if bb < 0 ∨ v < dd then ((x : Int), v) else (bb, dd) := by
          unfold Crs.ck
          rw [if_pos hcan, ← hsx, ← hv]
        have HCK := Lib.hid hck
        rw [← hsx] at HPR2
        clear hcan hpx hpl y1 y2 y3 y4 hbv hbs hvw hck hv hsx
        have hid : Inv w3.drew := HINV.out.2 _ _ hin.out.1 (Ext.drw (Ext.refl _))
        have HPRx := HPR
        clear HPR
        obtain ⟨wr, hwr⟩ : ∃ w, w = w3 := ⟨_, rfl⟩
        subst hwr
        go_upto_region 6 with fail
        refine wp_region_noPanic ?_
        refine wp_region_held_drew (S := fun X => Kq g1 g2 wr X) (by kernel_rfl) ((Kq.refl g1 g2 wr).drw) (fun _ => ?_)
        refine take_at 0 (some 22) (.agg #[.slice A c.n k, .slice A2 c.n k2, .slice A3 c.n k3, .slice A4 c.n k4]) rfl rfl (by kernel_rfl) (by kernel_rfl) (by kernel_rfl) (fun _ _ _ h => h) (Or.inl ⟨by rfl, fun w' hSw => ?_⟩) ((Kq.refl g1 g2 wr).drw) ?_
        · have m0 := hSw.cell z0 gs1 gs2 c0
          have m1 := hSw.cell z0 gs1 gs2 c1
          have m2 := hSw.cell z0 gs1 gs2 c2
          have m3 := hSw.cell z0 gs1 gs2 c3
          try clear hSw
          go_simp
          all_goals (with_reducible rfl)
        try simp only [Act.put, List.setIfInBounds_toArray, List.set_cons_zero, List.set_cons_succ]
        refine take_at 1 (some 23) (.int .i64 (s : Nat)) rfl rfl (by kernel_rfl) (by kernel_rfl) (by kernel_rfl) (fun _ _ _ h => h) (Or.inl ⟨by rfl, fun w' hSw => ?_⟩) ((Kq.refl g1 g2 wr).drw) ?_
        · skip
          try clear hSw
          go_simp
          all_goals (with_reducible rfl)
        try simp only [Act.put, List.setIfInBounds_toArray, List.set_cons_zero, List.set_cons_succ]
        refine take_at 2 (some 24) (.int .i64 (l : Nat)) rfl rfl (by kernel_rfl) (by kernel_rfl) (by kernel_rfl) (fun _ _ _ h => h) (Or.inl ⟨by rfl, fun w' hSw => ?_⟩) ((Kq.refl g1 g2 wr).drw) ?_
        · skip
          try clear hSw
          go_simp
          all_goals (with_reducible rfl)
        try simp only [Act.put, List.setIfInBounds_toArray, List.set_cons_zero, List.set_cons_succ]
        refine take_at 3 (some 25) (.int .i64 (x : Nat)) rfl rfl (by kernel_rfl) (by kernel_rfl) (by kernel_rfl) (fun _ _ _ h => h) (Or.inl ⟨by rfl, fun w' hSw => ?_⟩) ((Kq.refl g1 g2 wr).drw) ?_
        · skip
          try clear hSw
          go_simp
          all_goals (with_reducible rfl)
        try simp only [Act.put, List.setIfInBounds_toArray, List.set_cons_zero, List.set_cons_succ]
        refine take_at 5 (some 27) (.func (.func 83) #[] #[.pointer (some ⟨kb, 0, none⟩)]) rfl rfl (by kernel_rfl) (by kernel_rfl) (by kernel_rfl) (fun _ _ _ h => h) (Or.inl ⟨by rfl, fun w' hSw => ?_⟩) ((Kq.refl g1 g2 wr).drw) ?_
        · skip
          try clear hSw
          go_simp
          all_goals (with_reducible rfl)
        try simp only [Act.put, List.setIfInBounds_toArray, List.set_cons_zero, List.set_cons_succ]
        refine take_at 6 (some 28) (.agg #[.slice A c.n k, .slice A2 c.n k2, .slice A3 c.n k3, .slice A4 c.n k4]) rfl rfl (by kernel_rfl) (by kernel_rfl) (by kernel_rfl) (fun _ _ _ h => h) (Or.inl ⟨by rfl, fun w' hSw => ?_⟩) ((Kq.refl g1 g2 wr).drw) ?_
        · have m0 := hSw.cell z0 gs1 gs2 c0
          have m1 := hSw.cell z0 gs1 gs2 c1
          have m2 := hSw.cell z0 gs1 gs2 c2
          have m3 := hSw.cell z0 gs1 gs2 c3
          try clear hSw
          go_simp
          all_goals (with_reducible rfl)
        try simp only [Act.put, List.setIfInBounds_toArray, List.set_cons_zero, List.set_cons_succ]
        refine take_at 7 (some 29) (.int .i64 (s : Nat)) rfl rfl (by kernel_rfl) (by kernel_rfl) (by kernel_rfl) (fun _ _ _ h => h) (Or.inl ⟨by rfl, fun w' hSw => ?_⟩) ((Kq.refl g1 g2 wr).drw) ?_
        · skip
          try clear hSw
          go_simp
          all_goals (with_reducible rfl)
        try simp only [Act.put, List.setIfInBounds_toArray, List.set_cons_zero, List.set_cons_succ]
        refine take_at 8 (some 30) (.int .i64 (x : Nat)) rfl rfl (by kernel_rfl) (by kernel_rfl) (by kernel_rfl) (fun _ _ _ h => h) (Or.inl ⟨by rfl, fun w' hSw => ?_⟩) ((Kq.refl g1 g2 wr).drw) ?_
        · skip
          try clear hSw
          go_simp
          all_goals (with_reducible rfl)
        try simp only [Act.put, List.setIfInBounds_toArray, List.set_cons_zero, List.set_cons_succ]
        refine take_at 9 (some 31) (.int .i64 (px : Nat)) rfl rfl (by kernel_rfl) (by kernel_rfl) (by kernel_rfl) (fun _ _ _ h => h) (Or.inl ⟨by rfl, fun w' hSw => ?_⟩) ((Kq.refl g1 g2 wr).drw) ?_
        · have y := HSX.out.1
          have yw := HSX.out.2.2.2
          try clear hSw
          go_simp
          all_goals (with_reducible rfl)
        try simp only [Act.put, List.setIfInBounds_toArray, List.set_cons_zero, List.set_cons_succ]
        refine take_at 10 (some 32) (.int .i64 (sx : Nat)) rfl rfl (by kernel_rfl) (by kernel_rfl) (by kernel_rfl) (fun _ _ _ h => h) (Or.inl ⟨by rfl, fun w' hSw => ?_⟩) ((Kq.refl g1 g2 wr).drw) ?_
        · have y := HSX.out.2.1
          try clear hSw
          go_simp
          all_goals (with_reducible rfl)
        try simp only [Act.put, List.setIfInBounds_toArray, List.set_cons_zero, List.set_cons_succ]
        refine take_at 11 (some 33) (.int .i64 (x : Nat)) rfl rfl (by kernel_rfl) (by kernel_rfl) (by kernel_rfl) (fun _ _ _ h => h) (Or.inl ⟨by rfl, fun w' hSw => ?_⟩) ((Kq.refl g1 g2 wr).drw) ?_
        · skip
          try clear hSw
          go_simp
          all_goals (with_reducible rfl)
        try simp only [Act.put, List.setIfInBounds_toArray, List.set_cons_zero, List.set_cons_succ]
        refine wpAnyH_ready (rs := [4]) (by kernel_rfl) (by simp) ?_
        refine AllReadyH.cons rfl (fun K hK => ?_) AllReadyH.nil
        go_simp
        refine (step_any _ _ _ _ c _ s l x (HC.out.ext (HINV.out.1 _ hid)) hl hxn).mono ?_
        rintro e v4 ⟨rfl, hb4⟩
        have e4 : Kq g1 g2 wr v4 := ((Kq.refl g1 g2 wr).drw).trans (Kq.of g1 g2 hb4)
        have i4 : Inv v4 := HINV.out.2 _ _ (hid) hb4
        try go_wp2_with fail
        refine hK.out _ _ e4 (fun _ => ?_)
        clear hK K
        try simp only [Act.put, List.setIfInBounds_toArray, List.set_cons_zero, List.set_cons_succ]
        refine wpAnyH_ready (rs := [12]) (by kernel_rfl) (by simp) ?_
        refine AllReadyH.cons rfl (fun K hK => ?_) AllReadyH.nil
        go_simp
        refine (number_any _ _ _ _ c _ sx x (HC.out.ext (HINV.out.1 _ i4)) HOK.out HSX.out.2.2.1 hxn).mono ?_
        rintro e v12 ⟨rfl, hb12⟩
        have e12 : Kq g1 g2 wr v12 := (e4).trans (Kq.of g1 g2 hb12)
        have i12 : Inv v12 := HINV.out.2 _ _ (i4) hb12
        try go_wp2_with fail
        refine hK.out _ _ e12 (fun _ => ?_)
        clear hK K
        try simp only [Act.put, List.setIfInBounds_toArray, List.set_cons_zero, List.set_cons_succ]
        refine wpAnyH_ready (rs := [13]) (by kernel_rfl) (by simp) ?_
        refine AllReadyH.cons rfl (fun K hK => ?_) AllReadyH.nil
        go_simp
        refine (HPR2.out _ i12).mono ?_
        rintro e v13 ⟨rfl, hb13, hi13⟩
        have e13 : Kq g1 g2 wr v13 := (e12).trans hb13
        have i13 : Inv v13 := hi13
        try go_wp2_with fail
        refine hK.out _ _ e13 (fun _ => ?_)
        clear hK K
        try simp only [Act.put, List.setIfInBounds_toArray, List.set_cons_zero, List.set_cons_succ]
        refine take_at 14 (some 36) (.int .i64 v) rfl rfl (by kernel_rfl) (by kernel_rfl) (by kernel_rfl) (fun _ _ _ h => h) (Or.inl ⟨by rfl, fun w' hSw => ?_⟩) (e13) ?_
        · have y := HV.out
          try clear hSw
          go_simp
          all_goals (with_reducible rfl)
        try simp only [Act.put, List.setIfInBounds_toArray, List.set_cons_zero, List.set_cons_succ]
        refine take_at 15 (some 11) (.int .i64 v) rfl rfl (by kernel_rfl) (by kernel_rfl) (by kernel_rfl) (fun _ _ _ h => h) (Or.inl ⟨by rfl, fun w' hSw => ?_⟩) (e13) ?_
        · skip
          try clear hSw
          go_simp
          all_goals (with_reducible rfl)
        try simp only [Act.put, List.setIfInBounds_toArray, List.set_cons_zero, List.set_cons_succ]
        refine wpAnyH_done (by kernel_rfl) ?_ _
        refine NoPanic.normal ?_
        have HNK := Lib.hid (hkw.out.trans e13)
        have HN := Lib.hid (And.intro (hin.out.2.trans e13) i13)
        clear hb4 hb12 hb13 hi13 e4 e12 e13 i4 i12 i13 hid
        clear c0 c1 c2 c3 z0
        by_cases hbb : bb < 0
        · have HBB := Lib.hid hbb
          go_wp2
          go_roundw
          case rel => exact ⟨x + 1, (x : Int), v, by go_num, by omega, rfl, rfl, Lib.hid (by rw [HST.out, HCK.out, if_pos (Or.inl HBB.out)]), Lib.hid ⟨HN.out.2, HN.out.1⟩, HNK⟩
          case measure => simp [intOf] <;> omega
        · by_cases hvd : v < dd
          · have HBB := Lib.hid hvd
            go_wp2
            go_roundw
            case rel => exact ⟨x + 1, (x : Int), v, by go_num, by omega, rfl, rfl, Lib.hid (by rw [HST.out, HCK.out, if_pos (Or.inr HBB.out)]), Lib.hid ⟨HN.out.2, HN.out.1⟩, HNK⟩
            case measure => simp [intOf] <;> omega
          · have HBB := Lib.hid (And.intro hbb hvd)
            go_wp2
            go_roundw
            case rel => exact ⟨x + 1, bb, dd, by go_num, by omega, rfl, rfl, Lib.hid (by rw [HST.out, HCK.out, if_neg (fun h => h.elim HBB.out.1 HBB.out.2)]), Lib.hid ⟨HN.out.2, HN.out.1⟩, HNK⟩
            case measure => simp [intOf] <;> omega
    · obtain rfl : x = c.n := by omega
      have hfin : c.chp pr s l = (bb, dd) := hbd.out.symm
      have HFI := Lib.hid hfin
      have hx9 : ¬ (c.n : Int) < (c.n : Int) := by omega
      clear hfin
      go_wp2
      refine bodyPost_ret (v := .tuple #[.int .i64 bb, .int .i64 dd]) (by simp [results, Tryd.results84, go_sem]) rfl ?_
      exact ⟨by rw [HFI.out], hin.out.2, hin.out.1⟩
end Go.Proofs.YtlachbodibajlaaDoor
