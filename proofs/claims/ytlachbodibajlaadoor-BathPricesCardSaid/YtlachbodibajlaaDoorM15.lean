/- Courses: the cheapest bath. · Courses: what is due. · Courses: the least costs still to be paid; their keeper. -/
import Derived.Test.YtlachbodibajlaaDoorM14
namespace Go.Proofs.YtlachbodibajlaaDoor
open Go.RowKit Go.Shelf

/-- one bath looked at -/
def Crs.ck (c : Crs) (pr : Nat → Int) (s l : Nat) (b : Int × Int) (x : Nat) : Int × Int :=
  if c.can s x = true then (if b.1 < 0 ∨ c.stp s l x + pr (c.n * (s ||| 2 ^ x) + x) < b.2 then ((x : Int), c.stp s l x + pr (c.n * (s ||| 2 ^ x) + x)) else b) else b
def Crs.chp (c : Crs) (pr : Nat → Int) (s l : Nat) : Int × Int := (List.range c.n).foldl (c.ck pr s l) (-1, 0)
theorem stp_bd {c : Crs} (hc : c.ok) {s l x : Nat} (hl : l < c.n) (hx : x < c.n) : 0 ≤ c.stp s l x ∧ c.stp s l x ≤ 1000 := by
  unfold Crs.stp
  split
  · exact hc.st x hx
  · exact hc.ch l x hl hx
theorem or_lt {c : Crs} {s x : Nat} (hs : s < 2 ^ c.n) (hx : x < c.n) : s ||| 2 ^ x < 2 ^ c.n := Nat.or_lt_two_pow hs (Nat.pow_lt_pow_right (by omega) hx)

set_option maxHeartbeats 4000000 in
set_option maxRecDepth 100000 in
theorem cheapest_any (S C E N : Value) (c : Crs) (W0 W : World) (kb g1 g2 s l : Nat) (pr : Nat → Int) (Inv : World → Prop) (h : Cv W0 S C E N c) (hc : c.ok) (hs : s < 2 ^ c.n) (hl : l < c.n) (hI : Inv W)
    (hI1 : ∀ X, Inv X → Ext W0 X) (hI2 : ∀ X Y, Inv X → Ext X Y → Inv Y) (hg1 : g1 < W.heap.size) (hg2 : g2 < W.heap.size)
    (hb : ∀ p, -1000000000 ≤ pr p ∧ pr p ≤ 1000000000)
    (hP : ∀ x, x < c.n → c.can s x = true → ∀ X, Inv X → Calls Tryd.prog 82 #[.pointer (some ⟨kb, 0, none⟩), .int .i64 ((c.n * (s ||| 2 ^ x) + x : Nat) : Int)] X fun e X' => e = .returned (.int .i64 (pr (c.n * (s ||| 2 ^ x) + x))) ∧ Kq g1 g2 X X' ∧ Inv X') :
    Calls Tryd.prog 84 #[.agg #[S, C, E, N], .func (.func 82) #[.pointer (some ⟨kb, 0, none⟩)] #[], .int .i64 s, .int .i64 l] W fun e W' => e = .returned (.tuple #[.int .i64 (c.chp pr s l).1, .int .i64 (c.chp pr s l).2]) ∧ Kq g1 g2 W W' ∧ Inv W' := by
  obtain ⟨A, k, rfl, hk, hk2, -⟩ := id h.vs
  obtain ⟨A2, k2, rfl, -⟩ := id h.vc
  obtain ⟨A3, k3, rfl, -⟩ := id h.ve
  obtain ⟨A4, k4, rfl, -⟩ := id h.vn
  have hn := hc.n10
  have hs2 : s < 1024 := Nat.lt_of_lt_of_le hs (pow_1024 hn)
  have HC := Lib.hid h; have HOK := Lib.hid hc; have HS := Lib.hid hs; have HINV := Lib.hid (And.intro hI1 hI2); have HPR := Lib.hid hP; have HBD := Lib.hid hb
  have e1 : Ext W (W.alloc (.cells #[.slice A c.n k, .slice A2 c.n k2, .slice A3 c.n k3, .slice A4 c.n k4] 93)) := al1 W _
  have hin0 : Hid (Inv (W.alloc (.cells #[.slice A c.n k, .slice A2 c.n k2, .slice A3 c.n k3, .slice A4 c.n k4] 93)) ∧ Kq g1 g2 W (W.alloc (.cells #[.slice A c.n k, .slice A2 c.n k2, .slice A3 c.n k3, .slice A4 c.n k4] 93))) := Lib.hid ⟨hI2 _ _ hI e1, Kq.of g1 g2 e1⟩
  have hbk := heap_alloc_new W (.cells #[.slice A c.n k, .slice A2 c.n k2, .slice A3 c.n k3, .slice A4 c.n k4] 93)
  clear h hc hs hk hk2 hI1 hI2 hP hb hI e1
  go_enter Tryd.func84, Tryd.ntmps84
  go_upto_region 1 with fail
  obtain ⟨s1, hs1⟩ : ∃ s, s = W.heap.size := ⟨_, rfl⟩
  rw [← hs1] at hbk hg1 hg2 ⊢
  generalize W.alloc (.cells #[.slice A c.n k, .slice A2 c.n k2, .slice A3 c.n k3, .slice A4 c.n k4] 93) = W1 at *
  have gs1 : s1 ≠ g1 := by omega
  have gs2 : s1 ≠ g2 := by omega
  obtain ⟨c0, c1, c2, c3, z0⟩ := four_c hbk
  have HBK := Lib.hid hbk
  clear hbk hs1
  go_wp2_with fail
  refine (baths_any _ _ _ _ c _ (HC.out.ext (HINV.out.1 _ hin0.out.1)) HOK.out).mono ?_
  rintro e w2 ⟨rfl, hx⟩
  replace hin0 : Hid (Inv w2 ∧ Kq g1 g2 W w2) := Lib.hid ⟨HINV.out.2 _ _ hin0.out.1 hx, hin0.out.2.trans (Kq.of g1 g2 hx)⟩
  replace c0 := hx.at z0 c0
  replace c1 := hx.at z0 c1
  replace c2 := hx.at z0 c2
  replace c3 := hx.at z0 c3
  replace z0 := Nat.lt_of_lt_of_le z0 hx.size
  have HCC := Lib.hid (And.intro c0 (And.intro c1 (And.intro c2 (And.intro c3 z0))))
  clear c0 c1 c2 c3 z0 hx
  go_wp2_with fail
  go_loopw [8, 9, 14] (fun b d xx wr => ∃ (x : Nat) (bb dd : Int), xx = .int .i64 x ∧ x ≤ c.n ∧ b = .int .i64 bb ∧ d = .int .i64 dd ∧ Hid ((bb, dd) = ((List.range x).foldl (c.ck pr s l) (-1, 0))) ∧ Hid (Inv wr ∧ Kq g1 g2 W wr) ∧ Hid (Kq g1 g2 w2 wr)) (fun _ _ xx _ => c.n - (intOf xx).toNat)
  case atStart => exact ⟨0, -1, 0, rfl, Nat.zero_le _, rfl, rfl, Lib.hid rfl, hin0, Lib.hid (Kq.refl _ _ _)⟩
  case round =>
    clear hin0
    obtain ⟨x, bb, dd, rfl, hx, rfl, rfl, hbd, hin, hkw⟩ := hrel
    by_cases hxn : x < c.n
    · obtain ⟨c0, c1, c2, c3, z0⟩ := HCC.out
      replace c0 := hkw.out.cell z0 gs1 gs2 c0
      replace c1 := hkw.out.cell z0 gs1 gs2 c1
      replace c2 := hkw.out.cell z0 gs1 gs2 c2
      replace c3 := hkw.out.cell z0 gs1 gs2 c3
      replace z0 := Nat.lt_of_lt_of_le z0 hkw.out.size
      have hstep : (List.range (x + 1)).foldl (c.ck pr s l) (-1, 0) = c.ck pr s l (bb, dd) x := by
        rw [List.range_succ, List.foldl_append, ← hbd.out]; rfl
      have HST := Lib.hid hstep
      clear hstep
      go_wp2_with fail
      refine (canFollow_any _ _ _ _ c _ s x (HC.out.ext (HINV.out.1 _ hin.out.1)) HOK.out HS.out hxn).mono ?_
      rintro e w3 ⟨rfl, hx3⟩
      replace c0 := hx3.at z0 c0
      replace c1 := hx3.at z0 c1
      replace c2 := hx3.at z0 c2
      replace c3 := hx3.at z0 c3
      replace z0 := Nat.lt_of_lt_of_le z0 hx3.size
      replace hin : Hid (Inv w3 ∧ Kq g1 g2 W w3) := Lib.hid ⟨HINV.out.2 _ _ hin.out.1 hx3, hin.out.2.trans (Kq.of g1 g2 hx3)⟩
      replace hkw := Lib.hid (hkw.out.trans (Kq.of g1 g2 hx3))
      clear hx3
      cases hcan : c.can s x
      · have hsame : c.ck pr s l (bb, dd) x = (bb, dd) := by unfold Crs.ck; rw [hcan]; rfl
        have HSA := Lib.hid hsame
        clear hsame hcan c0 c1 c2 c3 z0
        go_wp2
        go_roundw
        case rel => exact ⟨x + 1, bb, dd, by go_num, by omega, rfl, rfl, Lib.hid (by rw [HST.out, HSA.out]), hin, hkw⟩
        case measure => simp [intOf] <;> omega
      · have HCAN := Lib.hid hcan
        obtain ⟨px, hpx⟩ : ∃ a : Nat, a = 2 ^ x := ⟨_, rfl⟩
        obtain ⟨sx, hsx⟩ : ∃ a : Nat, a = s ||| 2 ^ x := ⟨_, rfl⟩
        have hpl : px < 1024 := by rw [hpx]; exact Nat.lt_of_lt_of_le (Nat.pow_lt_pow_right (by omega) hxn) (pow_1024 hn)
        have y1 : (2 : Int) ^ x = (px : Int) := by rw [hpx]; simp
        have y2 : bits .or .i64 (s : Int) (px : Int) = (sx : Int) := by rw [or_nat hs2 hpl, hsx, hpx]
        have y3 : sx < 2 ^ c.n := by rw [hsx]; exact or_lt HS.out hxn
        have y4 : IntKind.i64.wrap (px : Int) = (px : Int) := IntWalk.i64_in _ (by omega)
        have HSX := Lib.hid (And.intro y1 (And.intro y2 (And.intro y3 y4)))
        have HPR2 := Lib.hid (HPR.out x hxn hcan)
        have hbv := HBD.out (c.n * sx + x)
        have hbs := stp_bd HOK.out (s := s) hl hxn
        obtain ⟨v, hv⟩ : ∃ v, v = c.stp s l x + pr (c.n * sx + x) := ⟨_, rfl⟩
        have hvw : IntKind.i64.wrap (c.stp s l x + pr (c.n * sx + x)) = v := by rw [hv]; exact IntWalk.i64_in _ (by omega)
        have HV := Lib.hid hvw
        have hck : c.ck pr s l (bb, dd) x = if bb < 0 ∨ v < dd then ((x : Int), v) else (bb, dd) := by
          unfold Crs.ck
          rw [if_pos hcan, ← hsx, ← hv]
        have HCK := Lib.hid hck
        rw [← hsx] at HPR2
        clear hcan hpx hpl y1 y2 y3 y4 hbv hbs hvw hck hv hsx
        have hid : Inv w3.drew := HINV.out.2 _ _ hin.out.1 (Ext.drw (Ext.refl _))
        have HPRx := HPR
        clear HPR
        obtain ⟨wr, hwr⟩ : ∃ w, w = w3 := ⟨_, rfl⟩
        subst hwr
        go_upto_region 6 with fail
        refine wp_region_noPanic ?_
        refine wp_region_held_drew (S := fun X => Kq g1 g2 wr X) (by kernel_rfl) ((Kq.refl g1 g2 wr).drw) (fun _ => ?_)
        refine take_at 0 (some 22) (.agg #[.slice A c.n k, .slice A2 c.n k2, .slice A3 c.n k3, .slice A4 c.n k4]) rfl rfl (by kernel_rfl) (by kernel_rfl) (by kernel_rfl) (fun _ _ _ h => h) (Or.inl ⟨by rfl, fun w' hSw => ?_⟩) ((Kq.refl g1 g2 wr).drw) ?_
        · have m0 := hSw.cell z0 gs1 gs2 c0
          have m1 := hSw.cell z0 gs1 gs2 c1
          have m2 := hSw.cell z0 gs1 gs2 c2
          have m3 := hSw.cell z0 gs1 gs2 c3
          try clear hSw
          go_simp
          all_goals (with_reducible rfl)
        try simp only [Act.put, List.setIfInBounds_toArray, List.set_cons_zero, List.set_cons_succ]
        refine take_at 1 (some 23) (.int .i64 (s : Nat)) rfl rfl (by kernel_rfl) (by kernel_rfl) (by kernel_rfl) (fun _ _ _ h => h) (Or.inl ⟨by rfl, fun w' hSw => ?_⟩) ((Kq.refl g1 g2 wr).drw) ?_
        · skip
          try clear hSw
          go_simp
          all_goals (with_reducible rfl)
        try simp only [Act.put, List.setIfInBounds_toArray, List.set_cons_zero, List.set_cons_succ]
        refine take_at 2 (some 24) (.int .i64 (l : Nat)) rfl rfl (by kernel_rfl) (by kernel_rfl) (by kernel_rfl) (fun _ _ _ h => h) (Or.inl ⟨by rfl, fun w' hSw => ?_⟩) ((Kq.refl g1 g2 wr).drw) ?_
        · skip
          try clear hSw
          go_simp
          all_goals (with_reducible rfl)
        try simp only [Act.put, List.setIfInBounds_toArray, List.set_cons_zero, List.set_cons_succ]
        refine take_at 3 (some 25) (.int .i64 (x : Nat)) rfl rfl (by kernel_rfl) (by kernel_rfl) (by kernel_rfl) (fun _ _ _ h => h) (Or.inl ⟨by rfl, fun w' hSw => ?_⟩) ((Kq.refl g1 g2 wr).drw) ?_
        · skip
          try clear hSw
          go_simp
          all_goals (with_reducible rfl)
        try simp only [Act.put, List.setIfInBounds_toArray, List.set_cons_zero, List.set_cons_succ]
        refine take_at 5 (some 27) (.func (.func 82) #[.pointer (some ⟨kb, 0, none⟩)] #[]) rfl rfl (by kernel_rfl) (by kernel_rfl) (by kernel_rfl) (fun _ _ _ h => h) (Or.inl ⟨by rfl, fun w' hSw => ?_⟩) ((Kq.refl g1 g2 wr).drw) ?_
        · skip
          try clear hSw
          go_simp
          all_goals (with_reducible rfl)
        try simp only [Act.put, List.setIfInBounds_toArray, List.set_cons_zero, List.set_cons_succ]
        refine take_at 6 (some 28) (.agg #[.slice A c.n k, .slice A2 c.n k2, .slice A3 c.n k3, .slice A4 c.n k4]) rfl rfl (by kernel_rfl) (by kernel_rfl) (by kernel_rfl) (fun _ _ _ h => h) (Or.inl ⟨by rfl, fun w' hSw => ?_⟩) ((Kq.refl g1 g2 wr).drw) ?_
        · have m0 := hSw.cell z0 gs1 gs2 c0
          have m1 := hSw.cell z0 gs1 gs2 c1
          have m2 := hSw.cell z0 gs1 gs2 c2
          have m3 := hSw.cell z0 gs1 gs2 c3
          try clear hSw
          go_simp
          all_goals (with_reducible rfl)
        try simp only [Act.put, List.setIfInBounds_toArray, List.set_cons_zero, List.set_cons_succ]
        refine take_at 7 (some 29) (.int .i64 (s : Nat)) rfl rfl (by kernel_rfl) (by kernel_rfl) (by kernel_rfl) (fun _ _ _ h => h) (Or.inl ⟨by rfl, fun w' hSw => ?_⟩) ((Kq.refl g1 g2 wr).drw) ?_
        · skip
          try clear hSw
          go_simp
          all_goals (with_reducible rfl)
        try simp only [Act.put, List.setIfInBounds_toArray, List.set_cons_zero, List.set_cons_succ]
        refine take_at 8 (some 30) (.int .i64 (x : Nat)) rfl rfl (by kernel_rfl) (by kernel_rfl) (by kernel_rfl) (fun _ _ _ h => h) (Or.inl ⟨by rfl, fun w' hSw => ?_⟩) ((Kq.refl g1 g2 wr).drw) ?_
        · skip
          try clear hSw
          go_simp
          all_goals (with_reducible rfl)
        try simp only [Act.put, List.setIfInBounds_toArray, List.set_cons_zero, List.set_cons_succ]
        refine take_at 9 (some 31) (.int .i64 (px : Nat)) rfl rfl (by kernel_rfl) (by kernel_rfl) (by kernel_rfl) (fun _ _ _ h => h) (Or.inl ⟨by rfl, fun w' hSw => ?_⟩) ((Kq.refl g1 g2 wr).drw) ?_
        · have y := HSX.out.1
          have yw := HSX.out.2.2.2
          try clear hSw
          go_simp
          all_goals (with_reducible rfl)
        try simp only [Act.put, List.setIfInBounds_toArray, List.set_cons_zero, List.set_cons_succ]
        refine take_at 10 (some 32) (.int .i64 (sx : Nat)) rfl rfl (by kernel_rfl) (by kernel_rfl) (by kernel_rfl) (fun _ _ _ h => h) (Or.inl ⟨by rfl, fun w' hSw => ?_⟩) ((Kq.refl g1 g2 wr).drw) ?_
        · have y := HSX.out.2.1
          try clear hSw
          go_simp
          all_goals (with_reducible rfl)
        try simp only [Act.put, List.setIfInBounds_toArray, List.set_cons_zero, List.set_cons_succ]
        refine take_at 11 (some 33) (.int .i64 (x : Nat)) rfl rfl (by kernel_rfl) (by kernel_rfl) (by kernel_rfl) (fun _ _ _ h => h) (Or.inl ⟨by rfl, fun w' hSw => ?_⟩) ((Kq.refl g1 g2 wr).drw) ?_
        · skip
          try clear hSw
          go_simp
          all_goals (with_reducible rfl)
        try simp only [Act.put, List.setIfInBounds_toArray, List.set_cons_zero, List.set_cons_succ]
        refine wpAnyH_ready (rs := [4]) (by kernel_rfl) (by simp) ?_
        refine AllReadyH.cons rfl (fun K hK => ?_) AllReadyH.nil
        go_simp
        refine (step_any _ _ _ _ c _ s l x (HC.out.ext (HINV.out.1 _ hid)) hl hxn).mono ?_
        rintro e v4 ⟨rfl, hb4⟩
        have e4 : Kq g1 g2 wr v4 := ((Kq.refl g1 g2 wr).drw).trans (Kq.of g1 g2 hb4)
        have i4 : Inv v4 := HINV.out.2 _ _ (hid) hb4
        try go_wp2_with fail
        refine hK.out _ _ e4 (fun _ => ?_)
        clear hK K
        try simp only [Act.put, List.setIfInBounds_toArray, List.set_cons_zero, List.set_cons_succ]
        refine wpAnyH_ready (rs := [12]) (by kernel_rfl) (by simp) ?_
        refine AllReadyH.cons rfl (fun K hK => ?_) AllReadyH.nil
        go_simp
        refine (number_any _ _ _ _ c _ sx x (HC.out.ext (HINV.out.1 _ i4)) HOK.out HSX.out.2.2.1 hxn).mono ?_
        rintro e v12 ⟨rfl, hb12⟩
        have e12 : Kq g1 g2 wr v12 := (e4).trans (Kq.of g1 g2 hb12)
        have i12 : Inv v12 := HINV.out.2 _ _ (i4) hb12
        try go_wp2_with fail
        refine hK.out _ _ e12 (fun _ => ?_)
        clear hK K
        try simp only [Act.put, List.setIfInBounds_toArray, List.set_cons_zero, List.set_cons_succ]
        refine wpAnyH_ready (rs := [13]) (by kernel_rfl) (by simp) ?_
        refine AllReadyH.cons rfl (fun K hK => ?_) AllReadyH.nil
        go_simp
        refine (HPR2.out _ i12).mono ?_
        rintro e v13 ⟨rfl, hb13, hi13⟩
        have e13 : Kq g1 g2 wr v13 := (e12).trans hb13
        have i13 : Inv v13 := hi13
        try go_wp2_with fail
        refine hK.out _ _ e13 (fun _ => ?_)
        clear hK K
        try simp only [Act.put, List.setIfInBounds_toArray, List.set_cons_zero, List.set_cons_succ]
        refine take_at 14 (some 36) (.int .i64 v) rfl rfl (by kernel_rfl) (by kernel_rfl) (by kernel_rfl) (fun _ _ _ h => h) (Or.inl ⟨by rfl, fun w' hSw => ?_⟩) (e13) ?_
        · have y := HV.out
          try clear hSw
          go_simp
          all_goals (with_reducible rfl)
        try simp only [Act.put, List.setIfInBounds_toArray, List.set_cons_zero, List.set_cons_succ]
        refine take_at 15 (some 11) (.int .i64 v) rfl rfl (by kernel_rfl) (by kernel_rfl) (by kernel_rfl) (fun _ _ _ h => h) (Or.inl ⟨by rfl, fun w' hSw => ?_⟩) (e13) ?_
        · skip
          try clear hSw
          go_simp
          all_goals (with_reducible rfl)
        try simp only [Act.put, List.setIfInBounds_toArray, List.set_cons_zero, List.set_cons_succ]
        refine wpAnyH_done (by kernel_rfl) ?_ _
        refine NoPanic.normal ?_
        have HNK := Lib.hid (hkw.out.trans e13)
        have HN := Lib.hid (And.intro (hin.out.2.trans e13) i13)
        clear hb4 hb12 hb13 hi13 e4 e12 e13 i4 i12 i13 hid
        clear c0 c1 c2 c3 z0
        by_cases hbb : bb < 0
        · have HBB := Lib.hid hbb
          go_wp2
          go_roundw
          case rel => exact ⟨x + 1, (x : Int), v, by go_num, by omega, rfl, rfl, Lib.hid (by rw [HST.out, HCK.out, if_pos (Or.inl HBB.out)]), Lib.hid ⟨HN.out.2, HN.out.1⟩, HNK⟩
          case measure => simp [intOf] <;> omega
        · by_cases hvd : v < dd
          · have HBB := Lib.hid hvd
            go_wp2
            go_roundw
            case rel => exact ⟨x + 1, (x : Int), v, by go_num, by omega, rfl, rfl, Lib.hid (by rw [HST.out, HCK.out, if_pos (Or.inr HBB.out)]), Lib.hid ⟨HN.out.2, HN.out.1⟩, HNK⟩
            case measure => simp [intOf] <;> omega
          · have HBB := Lib.hid (And.intro hbb hvd)
            go_wp2
            go_roundw
            case rel => exact ⟨x + 1, bb, dd, by go_num, by omega, rfl, rfl, Lib.hid (by rw [HST.out, HCK.out, if_neg (fun h => h.elim HBB.out.1 HBB.out.2)]), Lib.hid ⟨HN.out.2, HN.out.1⟩, HNK⟩
            case measure => simp [intOf] <;> omega
    · obtain rfl : x = c.n := by omega
      have hfin : c.chp pr s l = (bb, dd) := hbd.out.symm
      have HFI := Lib.hid hfin
      have hx9 : ¬ (c.n : Int) < (c.n : Int) := by omega
      clear hfin
      go_wp2
      refine bodyPost_ret (v := .tuple #[.int .i64 bb, .int .i64 dd]) (by simp [results, Tryd.results84, go_sem]) rfl ?_
      exact ⟨by rw [HFI.out], hin.out.2, hin.out.1⟩
end Go.Proofs.YtlachbodibajlaaDoor
namespace Go.Proofs.YtlachbodibajlaaDoor
open Go.RowKit Go.Shelf

/-- what a price table has at a set and its last bath -/
def Crs.due (c : Crs) (pr : Nat → Int) (s l : Nat) : Int := if s = c.all then c.en l else (c.chp pr s l).2

set_option maxHeartbeats 4000000 in
set_option maxRecDepth 100000 in
theorem due_any (S C E N : Value) (c : Crs) (W0 W : World) (kb g1 g2 s l : Nat) (pr : Nat → Int) (Inv : World → Prop) (h : Cv W0 S C E N c) (hc : c.ok) (hs : s < 2 ^ c.n) (hl : l < c.n) (hI : Inv W)
    (hI1 : ∀ X, Inv X → Ext W0 X) (hI2 : ∀ X Y, Inv X → Ext X Y → Inv Y) (hg1 : g1 < W.heap.size) (hg2 : g2 < W.heap.size)
    (hb : ∀ p, -1000000000 ≤ pr p ∧ pr p ≤ 1000000000)
    (hP : ∀ x, x < c.n → c.can s x = true → ∀ X, Inv X → Calls Tryd.prog 82 #[.pointer (some ⟨kb, 0, none⟩), .int .i64 ((c.n * (s ||| 2 ^ x) + x : Nat) : Int)] X fun e X' => e = .returned (.int .i64 (pr (c.n * (s ||| 2 ^ x) + x))) ∧ Kq g1 g2 X X' ∧ Inv X') :
    Calls Tryd.prog 111 #[.agg #[S, C, E, N], .func (.func 82) #[.pointer (some ⟨kb, 0, none⟩)] #[], .int .i64 s, .int .i64 l] W fun e W' => e = .returned (.int .i64 (c.due pr s l)) ∧ Kq g1 g2 W W' ∧ Inv W' := by
  have HP := Lib.hid fun X hX h1 h2 => cheapest_any S C E N c W0 X kb g1 g2 s l pr Inv h hc hs hl hX hI1 hI2 h1 h2 hb hP
  obtain ⟨A, k, rfl, hk, hk2, -⟩ := id h.vs
  obtain ⟨A2, k2, rfl, -⟩ := id h.vc
  obtain ⟨A3, k3, rfl, -⟩ := id h.ve
  obtain ⟨A4, k4, rfl, -⟩ := id h.vn
  obtain ⟨b3, o3, rfl, zb3, hq3⟩ := Vl.at h.ve (Ext.refl _) hl
  have hx0 := hI1 W hI
  have e1 : Ext W (W.alloc (.cells #[.slice A c.n k, .slice A2 c.n k2, .slice (some ⟨b3, o3, none⟩) c.n k3, .slice A4 c.n k4] 93)) := al1 W _
  have q3 := (hx0.trans e1).at zb3 hq3
  have z3 := Nat.lt_of_lt_of_le zb3 (hx0.trans e1).size
  have hbk := heap_alloc_new W (.cells #[.slice A c.n k, .slice A2 c.n k2, .slice (some ⟨b3, o3, none⟩) c.n k3, .slice A4 c.n k4] 93)
  have HG : Hid (Inv (W.alloc (.cells #[.slice A c.n k, .slice A2 c.n k2, .slice (some ⟨b3, o3, none⟩) c.n k3, .slice A4 c.n k4] 93)) ∧ Kq g1 g2 W (W.alloc (.cells #[.slice A c.n k, .slice A2 c.n k2, .slice (some ⟨b3, o3, none⟩) c.n k3, .slice A4 c.n k4] 93)) ∧ g1 < (W.alloc (.cells #[.slice A c.n k, .slice A2 c.n k2, .slice (some ⟨b3, o3, none⟩) c.n k3, .slice A4 c.n k4] 93)).heap.size ∧ g2 < (W.alloc (.cells #[.slice A c.n k, .slice A2 c.n k2, .slice (some ⟨b3, o3, none⟩) c.n k3, .slice A4 c.n k4] 93)).heap.size) :=
    Lib.hid ⟨hI2 _ _ hI e1, Kq.of g1 g2 e1, Nat.lt_of_lt_of_le hg1 e1.size, Nat.lt_of_lt_of_le hg2 e1.size⟩
  have HC := Lib.hid h; have HOK := Lib.hid hc; have HINV := Lib.hid (And.intro hI1 hI2)
  obtain ⟨s1, hs1⟩ : ∃ s, s = W.heap.size := ⟨_, rfl⟩
  have HS1 := Lib.hid hs1
  rw [← hs1] at hbk
  obtain ⟨a, ha⟩ : ∃ a, a = c.all := ⟨_, rfl⟩
  have HA := Lib.hid fun X hX => all_any (.slice A c.n k) (.slice A2 c.n k2) (.slice (some ⟨b3, o3, none⟩) c.n k3) (.slice A4 c.n k4) c X (h.ext (hI1 X hX)) hc
  rw [← ha] at HA
  have hdue : c.due pr s l = if s = a then c.en l else (c.chp pr s l).2 := by rw [ha]; rfl
  obtain ⟨rb, hrb⟩ : ∃ r, r = (c.chp pr s l).1 := ⟨_, rfl⟩
  obtain ⟨rc, hrc⟩ : ∃ r, r = (c.chp pr s l).2 := ⟨_, rfl⟩
  rw [← hrc] at hdue
  rw [← hrb, ← hrc] at HP
  have HD := Lib.hid hdue
  have HGS := Lib.hid (And.intro hg1 hg2)
  clear h hc hs hI hI1 hI2 hg1 hg2 hb hP hx0 e1 zb3 hq3 ha hdue hrb hrc hk hk2
  go_enter Tryd.func111, Tryd.ntmps111
  go_upto_region 1 with fail
  rw [← HS1.out]
  generalize W.alloc (.cells #[.slice A c.n k, .slice A2 c.n k2, .slice (some ⟨b3, o3, none⟩) c.n k3, .slice A4 c.n k4] 93) = W1 at *
  have gs1 : s1 ≠ g1 := by have := HGS.out; have := HS1.out; omega
  have gs2 : s1 ≠ g2 := by have := HGS.out; have := HS1.out; omega
  obtain ⟨c0, c1, c2, c3, z0⟩ := four_c hbk
  clear hbk hs1
  go_wp2_with fail
  refine (HA.out _ HG.out.1).mono ?_
  rintro e w2 ⟨rfl, hx⟩
  replace c0 := hx.at z0 c0
  replace c1 := hx.at z0 c1
  replace c2 := hx.at z0 c2
  replace c3 := hx.at z0 c3
  replace z0 := Nat.lt_of_lt_of_le z0 hx.size
  replace q3 := hx.at z3 q3
  replace z3 := Nat.lt_of_lt_of_le z3 hx.size
  have HG2 : Hid (Inv w2 ∧ Kq g1 g2 W w2 ∧ g1 < w2.heap.size ∧ g2 < w2.heap.size) := Lib.hid ⟨HINV.out.2 _ _ HG.out.1 hx, HG.out.2.1.trans (Kq.of g1 g2 hx), Nat.lt_of_lt_of_le HG.out.2.2.1 hx.size, Nat.lt_of_lt_of_le HG.out.2.2.2 hx.size⟩
  clear hx
  by_cases hsa : s = a
  · have hb : ((s : Int) == (a : Int)) = true := by simp; omega
    have HSA : Hid (c.due pr s l = c.en l) := Lib.hid (by rw [HD.out, if_pos hsa])
    clear HD
    subst hsa
    clear hb
    go_wp2
    go_ret
    exact ⟨by rw [HSA.out]; rfl, HG2.out.2.1, HG2.out.1⟩
  · have hb : ((s : Int) == (a : Int)) = false := by simp; omega
    have HSA := Lib.hid hsa
    clear hsa
    go_wp2_with fail
    refine (HP.out _ HG2.out.1 HG2.out.2.2.1 HG2.out.2.2.2).mono ?_
    rintro e w3 ⟨rfl, hk3, hi3⟩
    have HF := Lib.hid (And.intro hk3 hi3)
    clear hk3 hi3
    go_wp2
    go_ret
    exact ⟨by rw [HD.out, if_neg HSA.out]; rfl, HG2.out.2.1.trans HF.out.1, HF.out.2⟩
end Go.Proofs.YtlachbodibajlaaDoor
namespace Go.Proofs.YtlachbodibajlaaDoor
open Go.RowKit Go.Shelf

/-- what is still to be paid; m: more than sets are left -/
def Crs.pzN (c : Crs) : Nat → Nat → Int
  | 0, _ => 0
  | m + 1, p => if (p / c.n).testBit (p % c.n) = true then c.due (c.pzN m) (p / c.n) (p % c.n) else -1
def Crs.pz (c : Crs) (p : Nat) : Int := c.pzN (2 ^ c.n + 1) p
theorem or_more {s x : Nat} (h : s.testBit x = false) : s < s ||| 2 ^ x := by
  rcases Nat.lt_or_ge s (s ||| 2 ^ x) with h1 | h1
  · exact h1
  · exfalso
    have h2 : s ||| 2 ^ x = s := Nat.le_antisymm h1 Nat.left_le_or
    have h3 : (s ||| 2 ^ x).testBit x = true := by rw [Nat.testBit_or, Nat.testBit_two_pow_self]; simp
    rw [h2, h] at h3; cases h3
theorem can_bit {c : Crs} {s x : Nat} (h : c.can s x = true) : s.testBit x = false := by
  unfold Crs.can at h
  rw [Bool.and_eq_true] at h
  simpa using h.1
theorem ck_congr {c : Crs} {pr qr : Nat → Int} {s l : Nat} (h : ∀ x, x < c.n → c.can s x = true → pr (c.n * (s ||| 2 ^ x) + x) = qr (c.n * (s ||| 2 ^ x) + x)) (b : Int × Int) {x : Nat} (hx : x < c.n) : c.ck pr s l b x = c.ck qr s l b x := by
  unfold Crs.ck
  split
  · rename_i hc; rw [h x hx hc]
  · rfl
theorem fold_congr {α β : Type} {f g : β → α → β} : ∀ (l : List α) (b : β), (∀ b x, x ∈ l → f b x = g b x) → l.foldl f b = l.foldl g b
  | [], _, _ => rfl
  | x :: l, b, h => by rw [List.foldl_cons, List.foldl_cons, h b x (by simp)]; exact fold_congr l _ fun b y hy => h b y (by simp [hy])
theorem due_congr {c : Crs} {pr qr : Nat → Int} {s l : Nat} (h : ∀ x, x < c.n → c.can s x = true → pr (c.n * (s ||| 2 ^ x) + x) = qr (c.n * (s ||| 2 ^ x) + x)) : c.due pr s l = c.due qr s l := by
  unfold Crs.due Crs.chp
  split
  · rfl
  · rw [fold_congr _ _ fun b x hx => ck_congr h b (List.mem_range.1 hx)]
theorem nd_num {n s x : Nat} (hx : x < n) : (n * s + x) / n = s ∧ (n * s + x) % n = x := by
  constructor
  · rw [Nat.mul_add_div (by omega), Nat.div_eq_of_lt hx, Nat.add_zero]
  · rw [Nat.mul_add_mod, Nat.mod_eq_of_lt hx]
theorem pzN_enough {c : Crs} : ∀ (m m' p : Nat), p / c.n < 2 ^ c.n → 2 ^ c.n - p / c.n < m → 2 ^ c.n - p / c.n < m' → c.pzN m p = c.pzN m' p
  | 0, _, _, _, h, _ => by omega
  | _ + 1, 0, _, _, _, h => by omega
  | m + 1, m' + 1, p, h0, h1, h2 => by
    unfold Crs.pzN
    split
    · refine due_congr fun x hx hc => ?_
      have h3 := or_more (can_bit hc)
      have h4 := or_lt h0 hx
      exact pzN_enough m m' _ (by rw [(nd_num hx).1]; exact h4) (by rw [(nd_num hx).1]; omega) (by rw [(nd_num hx).1]; omega)
    · rfl
theorem pz_eq {c : Crs} {p : Nat} (hp : p / c.n < 2 ^ c.n) : c.pz p = if (p / c.n).testBit (p % c.n) = true then c.due c.pz (p / c.n) (p % c.n) else -1 := by
  conv => lhs; unfold Crs.pz Crs.pzN
  split
  · refine due_congr fun x hx hc => ?_
    have h3 := or_more (can_bit hc)
    have h4 := or_lt hp hx
    have h5 : 0 < p / c.n ||| 2 ^ x := Nat.lt_of_le_of_lt (Nat.zero_le _) h3
    exact pzN_enough _ _ _ (by rw [(nd_num hx).1]; exact h4) (by rw [(nd_num hx).1]; omega) (by rw [(nd_num hx).1]; omega)
  · rfl
theorem chp_bd {c : Crs} (hc : c.ok) {pr : Nat → Int} {B : Int} (hB : 0 ≤ B) (h : ∀ p, -1 ≤ pr p ∧ pr p ≤ B) {s l : Nat} (hl : l < c.n) : -1 ≤ (c.chp pr s l).2 ∧ (c.chp pr s l).2 ≤ B + 1000 := by
  have key : ∀ (L : List Nat) (b : Int × Int), (∀ x ∈ L, x < c.n) → -1 ≤ b.2 ∧ b.2 ≤ B + 1000 → -1 ≤ (L.foldl (c.ck pr s l) b).2 ∧ (L.foldl (c.ck pr s l) b).2 ≤ B + 1000 := by
    intro L
    induction L with
    | nil => intro b _ hb; exact hb
    | cons x L ih =>
      intro b hx hb
      rw [List.foldl_cons]
      refine ih _ (fun y hy => hx y (by simp [hy])) ?_
      unfold Crs.ck
      split
      · split
        · have h1 := stp_bd hc (s := s) hl (hx x (by simp))
          have h2 := h (c.n * (s ||| 2 ^ x) + x)
          dsimp only
          omega
        · exact hb
      · exact hb
  exact key _ _ (fun x hx => List.mem_range.1 hx) (by dsimp only; omega)
theorem pzN_bd {c : Crs} (hc : c.ok) : ∀ (m p : Nat), -1 ≤ c.pzN m p ∧ c.pzN m p ≤ 1000 * m
  | 0, p => by unfold Crs.pzN; omega
  | m + 1, p => by
    have ih := pzN_bd hc m
    have hn := hc.n1
    have hl : p % c.n < c.n := Nat.mod_lt _ (by omega)
    unfold Crs.pzN
    split
    · unfold Crs.due
      split
      · have := hc.en _ hl; omega
      · have := chp_bd hc (B := 1000 * m) (by omega) ih (s := p / c.n) hl
        omega
    · omega
theorem pz_bd {c : Crs} (hc : c.ok) (p : Nat) : -1000000000 ≤ c.pz p ∧ c.pz p ≤ 1000000000 := by
  have h1 := pzN_bd hc (2 ^ c.n + 1) p
  have h2 := pow_1024 hc.n10
  unfold Crs.pz
  omega

/-- the keeper's context -/
structure Kp (c : Crs) (S C E N : Value) (W0 : World) (kb g1 g2 cb : Nat) : Prop where
  ok : c.ok
  cv : Cv W0 S C E N c
  cb : W0.heap[cb]? = some (.cells #[S, C, E, N] 93 (0, 0))
  l1 : W0.heap.size ≤ g1
  l2 : W0.heap.size ≤ g2
  n12 : g1 ≠ g2
  nk1 : kb ≠ g1
  nk2 : kb ≠ g2
/-- its state -/
structure Kt (c : Crs) (W0 : World) (kb g1 g2 cb : Nat) (X : World) : Prop where
  ext : Ext W0 X
  kbk : X.heap[kb]? = some (.cells #[.func (.func 109) #[] #[.pointer (some ⟨cb, 0, none⟩)], .slice (some ⟨g1, 0, none⟩) c.sz c.sz, .slice (some ⟨g2, 0, none⟩) c.sz c.sz] 141 (0, 0))
  known : ∃ (kn : Nat → Bool) (a : Nat → Int), BB X g1 c.sz kn ∧ BI X g2 c.sz a ∧ ∀ p, p < c.sz → kn p = true → a p = c.pz p
section
variable {c : Crs} {W0 X Y : World} {kb g1 g2 cb : Nat}
theorem Kt.lt (h : Kt c W0 kb g1 g2 cb X) : kb < X.heap.size ∧ g1 < X.heap.size ∧ g2 < X.heap.size := by
  obtain ⟨kn, a, h1, h2, -⟩ := h.known
  exact ⟨(Array.getElem?_eq_some_iff.1 h.kbk).1, Bk.lt h1, Bk.lt h2⟩
theorem Kt.move (h : Kt c W0 kb g1 g2 cb X) (e : Ext W0 Y) (hb : ∀ b, b = kb ∨ b = g1 ∨ b = g2 → Y.heap[b]? = X.heap[b]?) : Kt c W0 kb g1 g2 cb Y := by
  obtain ⟨kn, a, h1, h2, h3⟩ := h.known
  exact ⟨e, (hb kb (by simp)).trans h.kbk, kn, a, (hb g1 (by simp)).trans h1, (hb g2 (by simp)).trans h2, h3⟩
theorem Kt.ext' (h : Kt c W0 kb g1 g2 cb X) (e : Ext X Y) : Kt c W0 kb g1 g2 cb Y :=
  h.move (h.ext.trans e) (fun b hb => e.block b (by have := h.lt; omega))
end
/-- the contracts of the keeper and of its rule -/
def OfP (c : Crs) (W0 : World) (kb g1 g2 cb q : Nat) : Prop := ∀ X, Kt c W0 kb g1 g2 cb X →
  Calls Tryd.prog 82 #[.pointer (some ⟨kb, 0, none⟩), .int .i64 q] X fun e X' => e = .returned (.int .i64 (c.pz q)) ∧ Kq g1 g2 X X' ∧ Kt c W0 kb g1 g2 cb X'
def RuleP (c : Crs) (W0 : World) (kb g1 g2 cb q : Nat) : Prop := ∀ X, Kt c W0 kb g1 g2 cb X →
  Calls Tryd.prog 109 #[.func (.func 82) #[.pointer (some ⟨kb, 0, none⟩)] #[], .int .i64 q, .pointer (some ⟨cb, 0, none⟩)] X fun e X' => e = .returned (.int .i64 (c.pz q)) ∧ Kq g1 g2 X X' ∧ Kt c W0 kb g1 g2 cb X'

set_option maxHeartbeats 4000000 in
set_option maxRecDepth 100000 in
theorem ofP_step (c : Crs) (S C E N' : Value) (W0 : World) (kb g1 g2 cb q : Nat) (hK : Kp c S C E N' W0 kb g1 g2 cb) (hq : q < c.sz) (hR : RuleP c W0 kb g1 g2 cb q) : OfP c W0 kb g1 g2 cb q := by
  intro W hI
  have HK := Lib.hid hK; have HI := Lib.hid hI; have HR := Lib.hid hR
  have hzl : c.sz ≤ 10 * 1024 := Nat.mul_le_mul hK.ok.n10 (pow_1024 hK.ok.n10)
  obtain ⟨N, hN⟩ : ∃ N, N = c.sz := ⟨_, rfl⟩
  have hkb := hI.kbk
  obtain ⟨kn, a, hB1, hB2, hval⟩ := hI.known
  rw [← hN] at hq hzl hkb hB1 hB2 hval
  have HN := Lib.hid hN
  clear hK hI hR hN
  obtain ⟨t, ht⟩ : ∃ t, t = c.pz q := ⟨_, rfl⟩
  have HT := Lib.hid ht
  have HR2 : Hid (∀ X, Kt c W0 kb g1 g2 cb X → Calls Tryd.prog 109 #[.func (.func 82) #[.pointer (some ⟨kb, 0, none⟩)] #[], .int .i64 q, .pointer (some ⟨cb, 0, none⟩)] X fun e X' => e = .returned (.int .i64 t) ∧ Kq g1 g2 X X' ∧ Kt c W0 kb g1 g2 cb X') := Lib.hid (by rw [ht]; exact HR.out)
  clear HR
  rw [← ht]
  clear ht
  have n12 := HK.out.n12; have nk1 := HK.out.nk1; have nk2 := HK.out.nk2
  obtain ⟨k0, k1, k2, kz⟩ := three_c hkb
  have v1 := Bk.cell hB1 hq
  have HB1 := Lib.hid hB1; have HB2 := Lib.hid hB2; have HKB := Lib.hid hkb; have HV := Lib.hid hval
  clear hB1 hB2 hkb hval
  go_enter Tryd.func82, Tryd.ntmps82
  cases hkn : kn q
  · rw [hkn] at v1
    go_wp2_with fail
    refine (HR2.out _ HI.out).mono ?_
    rintro e w2 ⟨rfl, hk2, hi2⟩
    clear k0 k1 k2 kz v1
    obtain ⟨kn', a', hB1, hB2, hval⟩ := hi2.known
    have hkb := hi2.kbk
    rw [← HN.out] at hB1 hB2 hval hkb
    obtain ⟨k0, k1, k2, kz⟩ := three_c hkb
    have uf := Bk.free hB2 q
    have u0 := Bk.cell hB2 hq
    have uz := Bk.lt hB2
    have gB2 : BI (w2.setCell ⟨g2, q, none⟩ (.int .i64 t)) g2 N (up a' q t) := BI.set_ hB2 q t
    have gB1 : BB (w2.setCell ⟨g2, q, none⟩ (.int .i64 t)) g1 N kn' := (heap_far n12).trans hB1
    have gkb := (heap_far (Y := w2) (g := g2) (i := q) (v := .int .i64 t) nk2).trans hkb
    have gK := hk2.sc (i := q) (.int .i64 t) (.inr (.inr rfl))
    have gX : Ext W0 (w2.setCell ⟨g2, q, none⟩ (.int .i64 t)) := hi2.ext.sc HK.out.l2
    have HG := Lib.hid (And.intro gB1 (And.intro gB2 (And.intro gkb (And.intro gK gX))))
    have HV' := Lib.hid hval
    clear hB1 hB2 hval hkb hk2 hi2 gB1 gB2 gkb gK gX
    go_upto_region 4 with fail
    obtain ⟨hB1, hB2, hkb, hk2, hx2⟩ := HG.out
    clear HG
    generalize w2.setCell ⟨g2, q, none⟩ (.int .i64 t) = w3 at *
    clear k0 k1 k2 kz uf uz u0
    obtain ⟨k0, k1, k2, kz⟩ := three_c hkb
    have v0 := Bk.cell hB1 hq
    have vf := Bk.free hB1 q
    have vz := Bk.lt hB1
    have gB1 := BB.set_ hB1 q true
    have gB2 : BI (w3.setCell ⟨g1, q, none⟩ (.bool true)) g2 N (up a' q t) := (heap_far (Ne.symm n12)).trans hB2
    have gkb := (heap_far (Y := w3) (g := g1) (i := q) (v := .bool true) nk1).trans hkb
    have gK := hk2.sc (i := q) (.bool true) (.inr (.inl rfl))
    have gX : Ext W0 (w3.setCell ⟨g1, q, none⟩ (.bool true)) := hx2.sc HK.out.l1
    have HG := Lib.hid (And.intro gB1 (And.intro gB2 (And.intro gkb (And.intro gK gX))))
    clear hB1 hB2 hkb hk2 hx2 gB1 gB2 gkb gK gX
    go_upto_region 5 with fail
    obtain ⟨hB1, hB2, hkb, hk2, hx2⟩ := HG.out
    clear HG
    generalize w3.setCell ⟨g1, q, none⟩ (.bool true) = w4 at *
    clear k0 k1 k2 kz vf vz v0
    obtain ⟨k0, k1, k2, kz⟩ := three_c hkb
    have u0 := Bk.cell hB2 hq
    have uz := Bk.lt hB2
    rw [up_self] at u0
    have gI : Kt c W0 kb g1 g2 cb w4 := by
      refine ⟨hx2, by rw [← HN.out]; exact hkb, up kn' q true, up a' q t, by rw [← HN.out]; exact hB1, by rw [← HN.out]; exact hB2, fun p hp hk => ?_⟩
      by_cases e : p = q
      · subst e; rw [up_self]; exact HT.out
      · rw [up_ne _ _ e] at hk ⊢
        exact HV'.out p (by rw [HN.out]; exact hp) hk
    have HG := Lib.hid (And.intro hk2 gI)
    clear hB1 hB2 hkb hk2 hx2 gI
    go_wp2
    go_ret
    exact ⟨rfl, HG.out⟩
  · rw [hkn] at v1
    have u0 := Bk.cell HB2.out hq
    have uz := Bk.lt HB2.out
    rw [HV.out q hq hkn, ← HT.out] at u0
    go_wp2
    go_ret
    exact ⟨rfl, Kq.refl _ _ _, HI.out⟩
end Go.Proofs.YtlachbodibajlaaDoor
