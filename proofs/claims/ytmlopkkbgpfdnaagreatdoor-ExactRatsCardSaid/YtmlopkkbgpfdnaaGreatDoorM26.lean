/- Walks: the reference's RatParse. · Walks: the law ExactRatParses. · Walks: one contract each for NewRat, RatPrint, RatFloor; the text of a fraction is read back. -/
import Derived.Test.YtmlopkkbgpfdnaaGreatDoorM25
import Derived.Test.YtmlopkkbgpfdnaaGreatDoorM23
namespace Go.Proofs.YtmlopkkbgpfdnaaGreatDoor
open Go.RowKit

def downT (l : List UInt8) : List UInt8 := if divT l then botT l else [49]
theorem okF_one : okF [49] ∧ numT [49] = 1 := by
  refine okF_of_txt (z := 1) ?_ ?_
  · have h := one_text 1
    rw [Lib.toList_data] at h
    exact eq_of_beq (h.trans (by decide))
  · have h1 := dig_len_le (n := 1) (k := 1) (by decide)
    exact Nat.le_trans h1 (by decide)
theorem denT_eq (l : List UInt8) : denT l = numT (downT l) := by
  unfold denT downT
  by_cases hd : divT l = true
  · rw [if_pos hd, if_pos hd]
  · rw [if_neg hd, if_neg hd]; exact okF_one.2.symm
theorem RF_iff (l : List UInt8) : RF l ↔ (okF (topT l) ∧ okF (downT l)) ∧ (0 < numT (downT l) ∧ Int.gcd (numT (topT l)) (numT (downT l)) = 1) ∧ pT (numT (topT l)) (numT (downT l)) = l := by
  constructor
  · rintro ⟨h1, h2, h3, h4⟩
    rw [denT_eq] at h3 h4
    refine ⟨⟨h1, ?_⟩, ⟨h3, h4⟩, ?_⟩
    · unfold downT
      by_cases hd : divT l = true
      · rw [if_pos hd]; exact (h2 hd).1
      · rw [if_neg hd]; exact okF_one.1
    · have hc := cut_text2 l
      unfold pT downT
      by_cases hd : divT l = true
      · simp only [if_pos hd] at hc ⊢
        rw [if_neg (h2 hd).2, txt_numT h1.1, txt_numT (h2 hd).1.1]; exact hc.symm
      · simp only [if_neg hd] at hc ⊢
        rw [if_pos okF_one.2, txt_numT h1.1]; exact hc.symm
  · rintro ⟨⟨h1, h2⟩, ⟨h3, h4⟩, h5⟩
    refine ⟨h1, fun hd => ?_, by rw [denT_eq]; exact h3, by rw [denT_eq]; exact h4⟩
    have hdn : downT l = botT l := if_pos hd
    rw [hdn] at h2 h5
    refine ⟨h2, fun he => ?_⟩
    have hc := cut_text2 l
    rw [if_pos hd] at hc
    unfold pT at h5
    rw [if_pos he, txt_numT h1.1] at h5
    have := congrArg List.length (h5.trans hc)
    rw [List.length_append, List.length_cons] at this
    omega
theorem vldR_eq {x y : Int} (lx : (dig x.natAbs).length ≤ 256) (ly : (dig y.natAbs).length ≤ 256) : vldR (decide (x < 0)) (decide (y < 0)) (dig x.natAbs) (dig y.natAbs) = decide (0 < y ∧ Int.gcd x y = 1) := by
  unfold vldR
  rw [vld_of lx, vld_of ly, num_of, num_of]
  rfl

set_option maxHeartbeats 400000 in
set_option maxRecDepth 100000 in
theorem refRatParse_any (s : ByteArray) (hsz : s.size ≤ 9223372036854775807) (w : World) (htab : Tab w) : Calls Tryz.prog 17 #[.string s] w (PF s.data.toList w) := by
  obtain ⟨l, hl⟩ : ∃ l, l = s.data.toList := ⟨_, rfl⟩
  obtain ⟨a, ha⟩ : ∃ a : ByteArray, a.data.toList = topT s.data.toList := ⟨⟨(topT s.data.toList).toArray⟩, rfl⟩
  obtain ⟨b, hb⟩ : ∃ b : ByteArray, b.data.toList = botT s.data.toList := ⟨⟨(botT s.data.toList).toArray⟩, rfl⟩
  obtain ⟨f, hf⟩ : ∃ f, f = divT s.data.toList := ⟨_, rfl⟩
  have CT := Lib.hid (fun W => cut43 s a b f ha hb hf hsz W)
  rw [← hl] at ha hb hf ⊢
  have HA := Lib.hid ha; have HB := Lib.hid hb; have HF_ := Lib.hid hf; have HS := Lib.hid hl; have HT := Lib.hid htab
  clear ha hb hf hl hsz htab
  go_enter Tryz.func17, Tryz.ntmps17
  go_wp2_with fail
  have r0 := FB.new w false none 0 0 false none 0 0 26
  have e0 := below_alloc w (Obj.cells #[.bool false, .slice none 0 0, .bool false, .slice none 0 0] 26)
  obtain ⟨W0, hW0⟩ : ∃ W0, W0 = w.alloc (Obj.cells #[.bool false, .slice none 0 0, .bool false, .slice none 0 0] 26) := ⟨_, rfl⟩
  rw [← hW0] at r0 e0 ⊢
  have z0 : W0.heap.size = w.heap.size + 1 := by rw [hW0]; simp
  clear hW0
  refine (CT.out W0).mono ?_
  rintro e W1 ⟨rfl, x1⟩
  replace x1 : Ext W0 W1 := x1
  have R0 := Lib.hid (r0.ext x1)
  have E1 := Lib.hid (e0.trans ((Ext.below x1).mono (by omega)))
  have z1 : w.heap.size < W1.heap.size := (r0.ext x1).lt
  clear r0 e0 x1 CT z0
  go_upto_if 21 with fail
  go_cut [5] (fun v wx => ∃ d : ByteArray, v = .string d ∧ d.data.toList = downT l ∧ wx = W1)
  case first =>
    cases f with
    | false =>
      go_wp2_with fail
      go_meet
      have hd := HF_.out
      exact ⟨_, rfl, by unfold downT; rw [← hd]; rfl, rfl⟩
    | true =>
      go_wp2_with fail
      go_meet
      have hd := HF_.out
      exact ⟨b, rfl, by unfold downT; rw [← hd]; exact HB.out, rfl⟩
  case rest =>
  obtain ⟨d, rfl, hdt, hwc⟩ := hcut
  rw [hwc]
  clear hwc
  have HD := Lib.hid hdt
  clear hdt HB
  go_wp2_with fail
  refine (parseR_any a W1 (tab_below HT.out E1.out)).mono ?_
  intro e W2 hpp
  obtain ⟨b1, A1, n1, c1, k1, rfl, y1, q1, x2⟩ := hpp.val
  replace x2 : Ext W1 W2 := x2
  clear hpp
  rw [HA.out] at y1 q1
  obtain ⟨vx, hvx⟩ : ∃ z, z = (if k1 = 0 then numT (topT l) else 0) := ⟨_, rfl⟩
  rw [← hvx] at y1
  obtain ⟨W3, hW3⟩ : ∃ W3, W3 = W2.alloc (Obj.cells #[.bool b1, .slice A1 n1 c1] 24) := ⟨_, rfl⟩
  have x3 : Ext W2 W3 := by rw [hW3]; exact (Ext.refl _).alc _
  have j0 : W3.cell? ⟨W2.heap.size, 0, none⟩ = some (.bool b1) := by rw [hW3, World.cell?_alloc_new]; rfl
  have j1 : W3.cell? ⟨W2.heap.size, 1, none⟩ = some (.slice A1 n1 c1) := by rw [hW3, World.cell?_alloc_new]; rfl
  have zj : W2.heap.size < W3.heap.size := by rw [hW3]; simp
  have y3 := y1.ext x3
  have X3 := Lib.hid (x2.trans x3)
  have Y3 := Lib.hid y3; have HW3 := Lib.hid hW3; have Q1 := Lib.hid q1; have HVX := Lib.hid hvx
  have E3 := Lib.hid (E1.out.trans ((Ext.below X3.out).mono (Nat.le_of_lt z1)))
  clear x2 x3 y1 y3 q1 hvx hW3
  go_wp2_with fail
  rw [← HW3.out]
  refine (parseR_any d W3 (tab_below HT.out E3.out)).mono ?_
  intro e W4 hpp
  obtain ⟨b2, A2, n2, c2, k2, rfl, y2, q2, x4⟩ := hpp.val
  replace x4 : Ext W3 W4 := x4
  clear hpp HW3
  rw [HD.out] at y2 q2
  obtain ⟨vy, hvy⟩ : ∃ z, z = (if k2 = 0 then numT (downT l) else 0) := ⟨_, rfl⟩
  rw [← hvy] at y2
  have y1 := Y3.out.ext x4
  have j0 := keepAt x4 zj j0
  have j1 := keepAt x4 zj j1
  have zj4 := x4.size
  obtain ⟨W5, hW5⟩ : ∃ W5, W5 = W4.alloc (Obj.cells #[.bool b2, .slice A2 n2 c2] 24) := ⟨_, rfl⟩
  have x5 : Ext W4 W5 := by rw [hW5]; exact (Ext.refl _).alc _
  obtain ⟨W6, hW6⟩ : ∃ W6, W6 = W5.alloc (Obj.cells #[.bool b1, .slice A1 n1 c1, .bool b2, .slice A2 n2 c2] 26) := ⟨_, rfl⟩
  have x6 : Ext W5 W6 := by rw [hW6]; exact (Ext.refl _).alc _
  have s5 : W5.heap.size = W4.heap.size + 1 := by rw [hW5]; simp
  have i0 := keepAt x5 (by omega) j0
  have i1 := keepAt x5 (by omega) j1
  have i2 : W5.cell? ⟨W4.heap.size, 0, none⟩ = some (.bool b2) := by rw [hW5, World.cell?_alloc_new]; rfl
  have i3 : W5.cell? ⟨W4.heap.size, 1, none⟩ = some (.slice A2 n2 c2) := by rw [hW5, World.cell?_alloc_new]; rfl
  rw [hW5] at i0 i1 i2 i3
  have X6 := Lib.hid (x4.trans (x5.trans x6))
  have hz6 : HF W6 (W4.heap.size + 1) vx vy := by
    rw [← s5, hW6]; exact HF.new W5 b1 A1 n1 c1 b2 A2 n2 c2 26 (y1.ext x5) (y2.ext x5)
  have Y6 := Lib.hid (And.intro (y1.ext (x5.trans x6)) (y2.ext (x5.trans x6)))
  have HZ6 := Lib.hid hz6
  have k0 : W6.cell? ⟨W4.heap.size + 1, 0, none⟩ = some (.bool b1) := by rw [← s5, hW6, World.cell?_alloc_new]; rfl
  have k1' : W6.cell? ⟨W4.heap.size + 1, 1, none⟩ = some (.slice A1 n1 c1) := by rw [← s5, hW6, World.cell?_alloc_new]; rfl
  have k2' : W6.cell? ⟨W4.heap.size + 1, 2, none⟩ = some (.bool b2) := by rw [← s5, hW6, World.cell?_alloc_new]; rfl
  have k3 : W6.cell? ⟨W4.heap.size + 1, 3, none⟩ = some (.slice A2 n2 c2) := by rw [← s5, hW6, World.cell?_alloc_new]; rfl
  have z6 : W4.heap.size + 1 < W6.heap.size := hz6.lt
  rw [hW5] at hW6
  have HW6 := Lib.hid hW6; have Q2 := Lib.hid q2; have HVY := Lib.hid hvy
  have HC := Lib.hid (And.intro k0 (And.intro k1' (And.intro k2' k3)))
  clear hW5 hW6 x4 x5 x6 y1 y2 q2 hvy Y3 hz6 s5 k0 k1' k2' k3
  rcases Q1.out with ⟨rfl, h1⟩ | ⟨rfl, h1⟩
  · rcases Q2.out with ⟨rfl, h2⟩ | ⟨rfl, h2⟩
    · have ex : vx = numT (topT l) := HVX.out
      have ey : vy = numT (downT l) := HVY.out
      have lx : (dig vx.natAbs).length ≤ 256 := by rw [ex]; exact h1.2
      have ly : (dig vy.natAbs).length ≤ 256 := by rw [ey]; exact h2.2
      have hR : RF l ↔ (0 < vy ∧ Int.gcd vx vy = 1) ∧ pT vx vy = l := by
        rw [RF_iff, ex, ey]; exact ⟨fun h => h.2, fun h => ⟨⟨h1, h2⟩, h⟩⟩
      obtain ⟨A9, n9, c9, he, hw1, -, -⟩ := Y6.out.1.open_
      simp only [Value.agg.injEq, Array.mk.injEq, List.cons.injEq, Value.bool.injEq, Value.slice.injEq, and_true] at he
      obtain ⟨hb1, rfl, rfl, rfl⟩ := he
      obtain ⟨A9, n9, c9, he, hw2, -, -⟩ := Y6.out.2.open_
      simp only [Value.agg.injEq, Array.mk.injEq, List.cons.injEq, Value.bool.injEq, Value.slice.injEq, and_true] at he
      obtain ⟨hb2, rfl, rfl, rfl⟩ := he
      obtain ⟨vb, hvb⟩ : ∃ v, v = vldR b1 b2 (dig vx.natAbs) (dig vy.natAbs) := ⟨_, rfl⟩
      have hvd : vb = decide (0 < vy ∧ Int.gcd vx vy = 1) := by rw [hvb, hb1, hb2, vldR_eq lx ly]
      have RV := Lib.hid (validRatR_any b1 b2 A1 A2 n1 c1 n2 c2 _ _ W6 hw1 hw2)
      rw [← hvb] at RV
      have hn1 : numOf b1 (dig vx.natAbs) = vx := by rw [hb1, num_of]
      have hn2 : numOf b2 (dig vy.natAbs) = vy := by rw [hb2, num_of]
      have HH := Lib.hid (And.intro hR (And.intro hvb (And.intro hvd (And.intro hn1 (And.intro hn2 (And.intro hw1 hw2))))))
      have HE := Lib.hid (And.intro ex ey)
      clear h1 h2 Q1 Q2 ex ey lx ly hR hb1 hb2 hvb hvd hn1 hn2 hw1 hw2 HVX HVY
      go_wp2_with fail
      rw [← HW6.out]
      refine RV.out.mono ?_
      rintro e W7 ⟨rfl, x7⟩
      have R7 := Lib.hid (((R0.out.ext X3.out).ext X6.out).ext x7)
      have E7 := Lib.hid ((E3.out.trans ((Ext.below X6.out).mono (Nat.le_of_lt (R0.out.ext X3.out).lt))).trans ((Ext.below x7).mono (Nat.le_of_lt ((R0.out.ext X3.out).ext X6.out).lt)))
      obtain ⟨k0, k1, k2, k3⟩ := HC.out
      have k0 := keepAt x7 z6 k0
      have k1 := keepAt x7 z6 k1
      have k2 := keepAt x7 z6 k2
      have k3 := keepAt x7 z6 k3
      have z7 := x7.size
      have Y7 := Lib.hid (And.intro (Y6.out.1.ext x7) (Y6.out.2.ext x7))
      have X7 := Lib.hid x7
      clear RV HW6 HC HZ6 X3 E3 R0 E1 X6 Y6 x7 i0 i1 i2 i3 j0 j1
      cases vb with
      | false =>
        have hno : ¬ RF l := fun h => by
          have := decide_eq_true (HH.out.1.1 h).1
          rw [← HH.out.2.2.1] at this; cases this
        have HN := Lib.hid hno
        obtain ⟨_, _, _, _, k40, k41, k42, k43, k44, k45, k46, k47⟩ := put4_walk R7.out (.bool false) (.slice none 0 0) (.bool false)
        obtain ⟨W', hW', FR⟩ := put_ret R7.out E7.out (Nat.le_refl _) false none 0 0 false none 0 0 (ZV.zero _) (ZV.zero _)
        have HW' := Lib.hid hW'
        have HFR := Lib.hid FR
        clear hW' FR hno k0 k1 k2 k3
        go_wp2_with fail
        rw [← HW'.out]
        obtain ⟨⟨f0, f1, f2, f3⟩, y1, y2, y3⟩ := HFR.out
        exact bodyPost_ret (v := .tuple #[.agg #[.bool false, .slice none 0 0, .bool false, .slice none 0 0], .int .i64 6]) (by simp [results, Tryz.results17, go_sem, f0, f1, f2, f3]) rfl (.inr ⟨HN.out, ⟨_, _, _, _, _, _, _, _, rfl, y1, y2, y3⟩⟩)
      | true =>
        have hvl : decide (0 < vy ∧ Int.gcd vx vy = 1) = true := HH.out.2.2.1.symm
        have PR := Lib.hid (refRatPrint_u b1 b2 A1 A2 n1 c1 n2 c2 _ _ W7 (HH.out.2.2.2.2.2.1.below X7.out) (HH.out.2.2.2.2.2.2.below X7.out) HH.out.2.1.symm (tab_below HT.out E7.out))
        rw [HH.out.2.2.2.1, HH.out.2.2.2.2.1] at PR
        obtain ⟨P, hP⟩ : ∃ P : ByteArray, P = ⟨(pT vx vy).toArray⟩ := ⟨_, rfl⟩
        rw [← hP] at PR
        have hPl : (P.toList == s.toList) = decide (pT vx vy = l) := by
          rw [Lib.toList_data, Lib.toList_data, HS.out, hP]
          show (pT vx vy == s.data.toList) = _
          by_cases h : pT vx vy = s.data.toList
          · rw [decide_eq_true h]; exact beq_iff_eq.2 h
          · rw [decide_eq_false h]; exact beq_eq_false_iff_ne.2 h
        have hRF : RF l ↔ pT vx vy = l := ⟨fun h => (HH.out.1.1 h).2, fun h => HH.out.1.2 ⟨of_decide_eq_true hvl, h⟩⟩
        have HR := Lib.hid hRF
        obtain ⟨pe, hpe⟩ : ∃ v, v = decide (pT vx vy = l) := ⟨_, rfl⟩
        rw [← hpe] at hPl
        have HPE := Lib.hid hpe
        clear hP hRF hvl hpe HH
        go_wp2_with fail
        refine PR.out.mono ?_
        rintro e W8 ⟨rfl, x8⟩
        replace x8 : Ext W7 W8 := x8
        have R8 := Lib.hid (R7.out.ext x8)
        have E8 := Lib.hid (E7.out.trans ((Ext.below x8).mono (Nat.le_of_lt R7.out.lt)))
        have Y8 := Lib.hid (And.intro (Y7.out.1.ext x8) (Y7.out.2.ext x8))
        have k0 := keepAt x8 (by omega) k0
        have k1 := keepAt x8 (by omega) k1
        have k2 := keepAt x8 (by omega) k2
        have k3 := keepAt x8 (by omega) k3
        clear PR R7 E7 Y7 X7 x8
        cases pe with
        | false =>
          have hno : ¬ RF l := fun h => by have := decide_eq_true (HR.out.1 h); rw [← HPE.out] at this; cases this
          have HN := Lib.hid hno
          obtain ⟨_, _, _, _, k40, k41, k42, k43, k44, k45, k46, k47⟩ := put4_walk R8.out (.bool false) (.slice none 0 0) (.bool false)
          obtain ⟨W', hW', FR⟩ := put_ret R8.out E8.out (Nat.le_refl _) false none 0 0 false none 0 0 (ZV.zero _) (ZV.zero _)
          have HW' := Lib.hid hW'
          have HFR := Lib.hid FR
          clear hW' FR hno k0 k1 k2 k3
          go_wp2_with fail
          rw [← HW'.out]
          obtain ⟨⟨f0, f1, f2, f3⟩, y1, y2, y3⟩ := HFR.out
          exact bodyPost_ret (v := .tuple #[.agg #[.bool false, .slice none 0 0, .bool false, .slice none 0 0], .int .i64 6]) (by simp [results, Tryz.results17, go_sem, f0, f1, f2, f3]) rfl (.inr ⟨HN.out, ⟨_, _, _, _, _, _, _, _, rfl, y1, y2, y3⟩⟩)
        | true =>
          have hyes : RF l := HR.out.2 (of_decide_eq_true HPE.out.symm)
          have HN := Lib.hid hyes
          have ex := HE.out.1
          have ey := HE.out.2.trans (denT_eq l).symm
          have hzz := Y8.out
          obtain ⟨_, _, _, _, k40, k41, k42, k43, k44, k45, k46, k47⟩ := put4_walk R8.out (.bool b1) (.slice A1 n1 c1) (.bool b2)
          obtain ⟨W', hW', FR⟩ := put_ret R8.out E8.out (Nat.le_refl _) b1 A1 n1 c1 b2 A2 n2 c2 hzz.1 hzz.2
          have HW' := Lib.hid hW'
          have HFR := Lib.hid FR
          clear hW' FR hyes hzz
          rw [ex, ey] at HFR
          clear ex ey
          go_wp2_with fail
          rw [← HW'.out]
          obtain ⟨⟨f0, f1, f2, f3⟩, y1, y2, y3⟩ := HFR.out
          exact bodyPost_ret (v := .tuple #[.agg #[.bool b1, .slice A1 n1 c1, .bool b2, .slice A2 n2 c2], .int .i64 0]) (by simp [results, Tryz.results17, go_sem, f0, f1, f2, f3]) rfl (.inl ⟨HN.out, ⟨_, _, _, _, _, _, _, _, rfl, y1, y2, y3⟩⟩)
    · have hno : ¬ RF l := fun h => h2 ((RF_iff l).1 h).1.2
      clear h1 h2
      have HN := Lib.hid hno
      have fb := (R0.out.ext X3.out).ext X6.out
      have pb := E3.out.trans ((Ext.below X6.out).mono (Nat.le_of_lt (R0.out.ext X3.out).lt))
      rw [HW6.out] at fb pb
      obtain ⟨_, _, _, _, k40, k41, k42, k43, k44, k45, k46, k47⟩ := put4_walk fb (.bool false) (.slice none 0 0) (.bool false)
      obtain ⟨W', hW', FR⟩ := put_ret fb pb (Nat.le_refl _) false none 0 0 false none 0 0 (ZV.zero _) (ZV.zero _)
      have HW' := Lib.hid hW'
      have HFR := Lib.hid FR
      clear hW' FR hno fb pb Q1 Q2 HC X6 X3 Y6 HZ6
      go_wp2_with fail
      rw [← HW'.out]
      obtain ⟨⟨f0, f1, f2, f3⟩, y1, y2, y3⟩ := HFR.out
      exact bodyPost_ret (v := .tuple #[.agg #[.bool false, .slice none 0 0, .bool false, .slice none 0 0], .int .i64 6]) (by simp [results, Tryz.results17, go_sem, f0, f1, f2, f3]) rfl (.inr ⟨HN.out, ⟨_, _, _, _, _, _, _, _, rfl, y1, y2, y3⟩⟩)
  · have hno : ¬ RF l := fun h => h1 h.1
    clear h1
    have HN := Lib.hid hno
    have fb := (R0.out.ext X3.out).ext X6.out
    have pb := E3.out.trans ((Ext.below X6.out).mono (Nat.le_of_lt (R0.out.ext X3.out).lt))
    rw [HW6.out] at fb pb
    obtain ⟨_, _, _, _, k40, k41, k42, k43, k44, k45, k46, k47⟩ := put4_walk fb (.bool false) (.slice none 0 0) (.bool false)
    obtain ⟨W', hW', FR⟩ := put_ret fb pb (Nat.le_refl _) false none 0 0 false none 0 0 (ZV.zero _) (ZV.zero _)
    have HW' := Lib.hid hW'
    have HFR := Lib.hid FR
    clear hW' FR hno fb pb Q1 Q2 HC X6 X3 Y6 HZ6
    go_wp2_with fail
    rw [← HW'.out]
    obtain ⟨⟨f0, f1, f2, f3⟩, y1, y2, y3⟩ := HFR.out
    exact bodyPost_ret (v := .tuple #[.agg #[.bool false, .slice none 0 0, .bool false, .slice none 0 0], .int .i64 6]) (by simp [results, Tryz.results17, go_sem, f0, f1, f2, f3]) rfl (.inr ⟨HN.out, ⟨_, _, _, _, _, _, _, _, rfl, y1, y2, y3⟩⟩)
end Go.Proofs.YtmlopkkbgpfdnaaGreatDoor
namespace Go.Proofs.YtmlopkkbgpfdnaaGreatDoor
open Go.RowKit

/-- both have the same value -/
theorem PF.val {l : List UInt8} {w w' : World} {e : Ending} (h : PF l w e w') : ∃ (b : Bool) (A : Option Addr) (n c : Nat) (b' : Bool) (A' : Option Addr) (n' c' : Nat) (k x y : Int), e = .returned (.tuple #[.agg #[.bool b, .slice A n c, .bool b', .slice A' n' c'], .int .i64 k]) ∧ ZV w' (.agg #[.bool b, .slice A n c]) x ∧ ZV w' (.agg #[.bool b', .slice A' n' c']) y ∧ (k = 0 ∧ x = numT (topT l) ∧ y = denT l ∧ RF l ∨ k = 6 ∧ x = 0 ∧ y = 0 ∧ ¬ RF l) ∧ Below w.heap.size w w' := by
  rcases h with ⟨hf, b, A, n, c, b', A', n', c', rfl, h1, h2, hb⟩ | ⟨hf, b, A, n, c, b', A', n', c', rfl, h1, h2, hb⟩
  · exact ⟨b, A, n, c, b', A', n', c', 0, _, _, rfl, h1, h2, .inl ⟨rfl, rfl, rfl, hf⟩, hb⟩
  · exact ⟨b, A, n, c, b', A', n', c', 6, _, _, rfl, h1, h2, .inr ⟨rfl, rfl, rfl, hf⟩, hb⟩

set_option maxHeartbeats 400000 in
set_option maxRecDepth 100000 in
theorem exactRatParses_walk (s : ByteArray) (hsz : s.size ≤ 9223372036854775807) (w : World) (htab : Tab w) : Calls Tryz.prog 4 #[.string s] w fun e w' => e = .returned (.bool true) ∧ Below w.heap.size w w' := by
  have Htab := Lib.hid htab; have HS := Lib.hid hsz
  clear htab hsz
  go_enter Tryz.func4, Tryz.ntmps4
  go_wp2_with fail
  refine (ratParse_any s HS.out w).mono ?_
  intro e w1 hp
  obtain ⟨b, A, n, c, b', A', n', c', k, x, y, rfl, hz, hz', hk, hb1⟩ := PF.val hp
  clear hp
  replace hb1 : Ext w w1 := hb1
  obtain ⟨w2, hw2⟩ : ∃ w2, w2 = w1.alloc (Obj.cells #[.bool b, .slice A n c, .bool b', .slice A' n' c'] 26) := ⟨_, rfl⟩
  have x2 : Ext w1 w2 := by rw [hw2]; exact (Ext.refl _).alc _
  have h2 : HF w2 w1.heap.size x y := by rw [hw2]; exact HF.new w1 b A n c b' A' n' c' 26 hz hz'
  have X2 := Lib.hid (hb1.trans x2)
  have HT := Lib.hid (tab_below Htab.out (Ext.below X2.out))
  have H2 := Lib.hid h2
  have Hk := Lib.hid hk
  have HW2 := Lib.hid hw2
  clear hz hz' hb1 h2 hk hw2 x2
  go_wp2_with fail
  rw [← HW2.out]
  refine (refRatParse_any s HS.out w2 HT.out).mono ?_
  intro e w3 hp
  obtain ⟨b2, A2, n2, c2, b2', A2', n2', c2', k', x', y', rfl, hz, hz', hk, hb3⟩ := PF.val hp
  clear hp
  replace hb3 : Ext w2 w3 := hb3
  have hkk : k' = k ∧ x' = x ∧ y' = y := by
    rcases hk with ⟨h1, h2, h2', h5⟩ | ⟨h1, h2, h2', h5⟩ <;> rcases Hk.out with ⟨h3, h4, h4', h6⟩ | ⟨h3, h4, h4', h6⟩
    · exact ⟨h1.trans h3.symm, h2.trans h4.symm, h2'.trans h4'.symm⟩
    · exact absurd h5 h6
    · exact absurd h6 h5
    · exact ⟨h1.trans h3.symm, h2.trans h4.symm, h2'.trans h4'.symm⟩
  obtain ⟨rfl, rfl, rfl⟩ := hkk
  obtain ⟨w4, hw4⟩ : ∃ w4, w4 = w3.alloc (Obj.cells #[.bool b2, .slice A2 n2 c2, .bool b2', .slice A2' n2' c2'] 26) := ⟨_, rfl⟩
  have x4 : Ext w3 w4 := by rw [hw4]; exact (Ext.refl _).alc _
  have h4 : HF w4 w3.heap.size x' y' := by rw [hw4]; exact HF.new w3 b2 A2 n2 c2 b2' A2' n2' c2' 26 hz hz'
  have X4 := Lib.hid (X2.out.trans (hb3.trans x4))
  obtain ⟨⟨p0, P0, pn, pc, k0, k1, kz⟩, ⟨p1, P1, pn1, pc1, k2, k3, kz1⟩⟩ := H2.out.ext (hb3.trans x4)
  obtain ⟨⟨q0, Q0, qn, qc, j0, j1, jz⟩, ⟨q1, Q1, qn1, qc1, j2, j3, jz1⟩⟩ := h4
  have SR := Lib.hid (sameRat_true x' y' _ _ w4 (fv_mk kz kz1) (fv_mk jz jz1))
  have HW4 := Lib.hid hw4
  rw [hw4] at k0 k1 k2 k3 j0 j1 j2 j3
  clear hz hz' hk hb3 x4 kz jz kz1 jz1 hw4 HW2
  go_wp2_with fail
  rw [← HW4.out]
  refine SR.out.mono ?_
  rintro e w5 ⟨rfl, x5⟩
  replace x5 : Ext w4 w5 := x5
  clear k0 k1 k2 k3 j0 j1 j2 j3 SR HW4
  go_wp2_with fail
  refine (awake_any _).mono ?_
  rintro e w6 ⟨rfl, x6⟩
  replace x6 : Ext w5 w6 := x6
  go_wp2
  go_ret
  exact ⟨rfl, Ext.below (X4.out.trans (x5.trans x6))⟩
end Go.Proofs.YtmlopkkbgpfdnaaGreatDoor
namespace Go.Proofs.YtmlopkkbgpfdnaaGreatDoor
open Go.RowKit

theorem txt_chars (z : Int) : ∀ c ∈ txt z, c ≠ 47 := by
  have hd : ∀ k, ∀ c ∈ dec k, c ≠ 47 := by
    intro k c hc e
    have h := dec_isD k c hc
    rw [e] at h
    exact absurd h.1 (by decide)
  intro c hc
  unfold txt at hc
  split at hc
  · rcases List.mem_cons.1 hc with h | h
    · rw [h]; decide
    · exact hd _ c h
  · exact hd _ c hc
theorem index_none {a : List UInt8} (h : ∀ c ∈ a, c ≠ 47) : Lib.indexByte a 47 = -1 := by
  by_cases e : Lib.indexByte a 47 = -1
  · exact e
  · have hge := Lib.indexByte_ge a 47
    obtain ⟨i, hi⟩ : ∃ i : Nat, Lib.indexByte a 47 = (i : Int) := ⟨(Lib.indexByte a 47).toNat, by omega⟩
    exact absurd rfl (h 47 (List.mem_of_getElem? (Lib.indexByte_some hi).1))
theorem index_app {a : List UInt8} (r : List UInt8) (h : ∀ c ∈ a, c ≠ 47) : Lib.indexByte (a ++ 47 :: r) 47 = (a.length : Int) := by
  have hl : (a ++ 47 :: r)[a.length]? = some 47 := by rw [List.getElem?_append_right (Nat.le_refl _), Nat.sub_self]; rfl
  by_cases e : Lib.indexByte (a ++ 47 :: r) 47 = -1
  · exact absurd hl (Lib.indexByte_none e _)
  · have hge := Lib.indexByte_ge (a ++ 47 :: r) 47
    obtain ⟨i, hi⟩ : ∃ i : Nat, Lib.indexByte (a ++ 47 :: r) 47 = (i : Int) := ⟨(Lib.indexByte (a ++ 47 :: r) 47).toNat, by omega⟩
    obtain ⟨h1, h2⟩ := Lib.indexByte_some hi
    rw [hi]
    by_cases hlt : i < a.length
    · rw [List.getElem?_append_left hlt] at h1
      exact absurd rfl (h 47 (List.mem_of_getElem? h1))
    · by_cases hgt : a.length < i
      · exact absurd hl (h2 _ hgt)
      · have : i = a.length := by omega
        rw [this]
theorem RF_pT {x y : Int} (lx : (dig x.natAbs).length ≤ 256) (ly : (dig y.natAbs).length ≤ 256) (hy : 0 < y) (hg : Int.gcd x y = 1) : RF (pT x y) ∧ numT (topT (pT x y)) = x ∧ denT (pT x y) = y := by
  unfold pT
  by_cases h1 : y = 1
  · rw [if_pos h1]
    have hi := index_none (txt_chars x)
    have ht : topT (txt x) = txt x := by unfold topT; rw [if_pos hi]
    have hd : divT (txt x) = false := by unfold divT; rw [hi]; rfl
    have hn : denT (txt x) = 1 := by unfold denT; rw [hd]; rfl
    unfold RF okD
    rw [ht, hn, hd]
    have hf := okF_of_txt rfl lx
    refine ⟨⟨hf.1, fun h => (by cases h), by omega, ?_⟩, hf.2, h1.symm⟩
    rw [hf.2, ← h1]; exact hg
  · rw [if_neg h1]
    have hi := index_app (txt y) (txt_chars x)
    have hne : ¬ Lib.indexByte (txt x ++ 47 :: txt y) 47 = -1 := by rw [hi]; omega
    have ht : topT (txt x ++ 47 :: txt y) = txt x := by
      unfold topT; rw [if_neg hne, hi, Int.toNat_natCast, List.take_left']; rfl
    have hb : botT (txt x ++ 47 :: txt y) = txt y := by
      unfold botT; rw [if_neg hne, hi, Int.toNat_natCast]
      rw [List.drop_append, List.drop_of_length_le (by omega), List.nil_append, Nat.add_sub_cancel_left]; rfl
    have hd : divT (txt x ++ 47 :: txt y) = true := by unfold divT; rw [decide_eq_false hne]; rfl
    have hf := okF_of_txt rfl lx
    have hf2 := okF_of_txt rfl ly
    have hn : denT (txt x ++ 47 :: txt y) = y := by unfold denT; rw [if_pos hd, hb]; exact hf2.2
    unfold RF okD
    rw [ht, hn, hb]
    refine ⟨⟨hf.1, fun _ => ⟨hf2.1, by rw [hf2.2]; exact h1⟩, hy, ?_⟩, hf.2, rfl⟩
    rw [hf.2]; exact hg

def nE (p q : Bool) (l l' : List Nat) : Int := if (vld p l && vld q l') = true then (if numOf q l' = 0 then 4 else 0) else 2
def nX (p q : Bool) (l l' : List Nat) : Int := if nE p q l l' = 0 then numOf p l / nfg (numOf p l) (numOf q l') else 0
def nY (p q : Bool) (l l' : List Nat) : Int := if nE p q l l' = 0 then numOf q l' / nfg (numOf p l) (numOf q l') else 0
theorem newRat_u (p q : Bool) (A A' : Option Addr) (n c n' c' : Nat) (l l' : List Nat) (w : World) (hx : Wd w (.slice A n c) l) (hy : Wd w (.slice A' n' c') l') : Calls Tryz.prog 5 #[.agg #[.bool p, .slice A n c], .agg #[.bool q, .slice A' n' c']] w (RetR w (nX p q l l') (nY p q l l') (nE p q l l')) := by
  unfold nX nY nE
  by_cases h : (vld p l && vld q l') = true
  · obtain ⟨h1, h2⟩ := Bool.and_eq_true_iff.1 h
    by_cases h0 : numOf q l' = 0
    · simp only [h, h0, if_true, if_neg (show ¬ (4 : Int) = 0 by decide)]
      exact newRat_zero p q A A' n c n' c' l l' w hx hy h1 h2 h0
    · simp only [h, h0, if_true, if_false]
      exact newRat_yes p q A A' n c n' c' l l' w hx hy h1 h2 h0
  · simp only [if_neg h, if_neg (show ¬ (2 : Int) = 0 by decide)]
    exact newRat_no p q A A' n c n' c' l l' w hx hy (by simpa using h)
theorem refNewRat_u (p q : Bool) (A A' : Option Addr) (n c n' c' : Nat) (l l' : List Nat) (w : World) (hx : Wd w (.slice A n c) l) (hy : Wd w (.slice A' n' c') l') : Calls Tryz.prog 6 #[.agg #[.bool p, .slice A n c], .agg #[.bool q, .slice A' n' c']] w (RetR w (nX p q l l') (nY p q l l') (nE p q l l')) := by
  unfold nX nY nE
  by_cases h : (vld p l && vld q l') = true
  · obtain ⟨h1, h2⟩ := Bool.and_eq_true_iff.1 h
    by_cases h0 : numOf q l' = 0
    · simp only [h, h0, if_true, if_neg (show ¬ (4 : Int) = 0 by decide)]
      exact refNewRat_zero p q A A' n c n' c' l l' w hx hy h1 h2 h0
    · simp only [h, h0, if_true, if_false]
      exact refNewRat_yes p q A A' n c n' c' l l' w hx hy h1 h2 h0
  · simp only [if_neg h, if_neg (show ¬ (2 : Int) = 0 by decide)]
    by_cases h1 : vld p l = true
    · exact refNewRat_nob p q A A' n c n' c' l l' w hx hy h1 (by cases hq : vld q l' <;> simp_all)
    · exact refNewRat_noa p q A A' n c n' c' l l' w hx hy (by simpa using h1)
def rE (p q : Bool) (l l' : List Nat) : Int := if vldR p q l l' = true then 0 else 2
def rS (p q : Bool) (l l' : List Nat) : ByteArray := if vldR p q l l' = true then ⟨(pT (numOf p l) (numOf q l')).toArray⟩ else ⟨#[]⟩
def rZ (p q : Bool) (l l' : List Nat) : Int := if vldR p q l l' = true then numOf p l / numOf q l' else 0
theorem ratPrint_w (p q : Bool) (A A' : Option Addr) (n c n' c' : Nat) (l l' : List Nat) (w : World) (hx : Wd w (.slice A n c) l) (hy : Wd w (.slice A' n' c') l') (htab : Tab w) : Calls Tryz.prog 11 #[.agg #[.bool p, .slice A n c, .bool q, .slice A' n' c']] w fun e w' => e = .returned (.tuple #[.string (rS p q l l'), .int .i64 (rE p q l l')]) ∧ Below w.heap.size w w' := by
  unfold rS rE
  by_cases h : vldR p q l l' = true
  · rw [if_pos h, if_pos h]; exact ratPrint_u p q A A' n c n' c' l l' w hx hy h htab
  · rw [if_neg h, if_neg h]; exact ratPrint_no p q A A' n c n' c' l l' w hx hy (by simpa using h)
theorem refRatPrint_w (p q : Bool) (A A' : Option Addr) (n c n' c' : Nat) (l l' : List Nat) (w : World) (hx : Wd w (.slice A n c) l) (hy : Wd w (.slice A' n' c') l') (htab : Tab w) : Calls Tryz.prog 12 #[.agg #[.bool p, .slice A n c, .bool q, .slice A' n' c']] w fun e w' => e = .returned (.tuple #[.string (rS p q l l'), .int .i64 (rE p q l l')]) ∧ Below w.heap.size w w' := by
  unfold rS rE
  by_cases h : vldR p q l l' = true
  · rw [if_pos h, if_pos h]; exact refRatPrint_u p q A A' n c n' c' l l' w hx hy h htab
  · rw [if_neg h, if_neg h]; exact refRatPrint_no p q A A' n c n' c' l l' w hx hy (by simpa using h)
theorem ratFloor_w (p q : Bool) (A A' : Option Addr) (n c n' c' : Nat) (l l' : List Nat) (w : World) (hx : Wd w (.slice A n c) l) (hy : Wd w (.slice A' n' c') l') : Calls Tryz.prog 13 #[.agg #[.bool p, .slice A n c, .bool q, .slice A' n' c']] w (RetI w (rZ p q l l') (rE p q l l')) := by
  unfold rZ rE
  by_cases h : vldR p q l l' = true
  · rw [if_pos h, if_pos h]; exact ratFloor_yes p q A A' n c n' c' l l' w hx hy h
  · rw [if_neg h, if_neg h]; exact ratFloor_no p q A A' n c n' c' l l' w hx hy (by simpa using h)
theorem refRatFloor_w (p q : Bool) (A A' : Option Addr) (n c n' c' : Nat) (l l' : List Nat) (w : World) (hx : Wd w (.slice A n c) l) (hy : Wd w (.slice A' n' c') l') : Calls Tryz.prog 14 #[.agg #[.bool p, .slice A n c, .bool q, .slice A' n' c']] w (RetI w (rZ p q l l') (rE p q l l')) := by
  unfold rZ rE
  by_cases h : vldR p q l l' = true
  · rw [if_pos h, if_pos h]; exact refRatFloor_yes p q A A' n c n' c' l l' w hx hy h
  · rw [if_neg h, if_neg h]; exact refRatFloor_no p q A A' n c n' c' l l' w hx hy (by simpa using h)
theorem rS_size (p q : Bool) (A A' : Option Addr) (n c n' c' : Nat) (l l' : List Nat) (w : World) (hx : Wd w (.slice A n c) l) (hy : Wd w (.slice A' n' c') l') : (rS p q l l').size ≤ 9223372036854775807 := by
  unfold rS
  by_cases h : vldR p q l l' = true
  · rw [if_pos h]
    obtain ⟨v1, v2, -, -⟩ := vldR_parts h
    have h1 := txt_len (numOf p l) (by rw [vld_dig hx.ok v1]; exact vld_len v1)
    have h2 := txt_len (numOf q l') (by rw [vld_dig hy.ok v2]; exact vld_len v2)
    have h3 : (pT (numOf p l) (numOf q l')).length ≤ 5201 := by
      unfold pT
      split
      · omega
      · rw [List.length_append, List.length_cons]; omega
    exact Nat.le_trans h3 (by decide)
  · rw [if_neg h]; exact Nat.zero_le _
/-- what is printed is read back -/
theorem back_any (p q : Bool) (A A' : Option Addr) (n c n' c' : Nat) (l l' : List Nat) (w : World) (hx : Wd w (.slice A n c) l) (hy : Wd w (.slice A' n' c') l') (w' : World) : Calls Tryz.prog 15 #[.string (rS p q l l')] w' fun e w'' => ∃ (b : Bool) (B : Option Addr) (m d : Nat) (b' : Bool) (B' : Option Addr) (m' d' : Nat) (k x y : Int), e = .returned (.tuple #[.agg #[.bool b, .slice B m d, .bool b', .slice B' m' d'], .int .i64 k]) ∧ ZV w'' (.agg #[.bool b, .slice B m d]) x ∧ ZV w'' (.agg #[.bool b', .slice B' m' d']) y ∧ (vldR p q l l' = true → k = 0 ∧ x = numOf p l ∧ y = numOf q l') ∧ Below w'.heap.size w' w'' := by
  refine (ratParse_any _ (rS_size p q A A' n c n' c' l l' w hx hy) w').mono ?_
  intro e w'' hp
  obtain ⟨b, B, m, d, b', B', m', d', k, x, y, rfl, h1, h2, hk, hb⟩ := PF.val hp
  refine ⟨b, B, m, d, b', B', m', d', k, x, y, rfl, h1, h2, fun h => ?_, hb⟩
  obtain ⟨v1, v2, v3, v4⟩ := vldR_parts h
  have e : (rS p q l l').data.toList = pT (numOf p l) (numOf q l') := by unfold rS; rw [if_pos h]
  obtain ⟨g1, g2, g3⟩ := RF_pT (by rw [vld_dig hx.ok v1]; exact vld_len v1) (by rw [vld_dig hy.ok v2]; exact vld_len v2) v3 v4
  rw [e] at hk
  rcases hk with ⟨k1, k2, k3, -⟩ | ⟨-, -, -, k4⟩
  · exact ⟨k1, k2.trans g2, k3.trans g3⟩
  · exact absurd g1 k4
end Go.Proofs.YtmlopkkbgpfdnaaGreatDoor
