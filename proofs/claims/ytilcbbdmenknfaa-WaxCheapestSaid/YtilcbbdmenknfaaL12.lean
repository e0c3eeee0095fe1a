/- The law WaxCheapest. -/
import Derived.Test.YtilcbbdmenknfaaH9
import Derived.Test.YtilcbbdmenknfaaL13
import Derived.Test.YtilcbbdmenknfaaL6
namespace Go.Proofs.Ytilcbbdmenknfaa
open Go.RowKit

theorem cheap {c : Cl} (hc : vCl c = true) {r : Int} {L M : Nat → Bool} (hL : Lst (c.nwa r).nw (c.nb + 2) c.nb (c.nb + 1) L) (hM : Gst (c.nwa r).nw (c.nb + 2) c.nb (c.nb + 1) M) (hO : (c.nwa r).nw.In (c.nb + 2)) (l : Nat → Bool) :
    c.en r M = c.en r L ∧ c.en r L ≤ c.en r l ∧ (c.en r l = c.en r L → ∀ i, i < c.nb → (L i = true → l i = true) ∧ (l i = true → M i = true)) := by
  obtain ⟨S, hS⟩ : ∃ S : Nat → Bool, S = fun v => if v < c.nb then l v else decide (v = c.nb) := ⟨_, rfl⟩
  have hSd : Nw.Sd c.nb (c.nb + 1) S := by
    rw [hS]
    refine ⟨?_, ?_⟩
    · dsimp only; rw [if_neg (by omega)]; simp
    · dsimp only; rw [if_neg (by omega)]; simp
  have hSl : ∀ k, k < c.nb → S k = l k := fun k hk => by rw [hS]; dsimp only; rw [if_pos hk]
  have e1 := ct_en hc r hL.1.sd
  have e2 := ct_en hc r hM.1.sd
  have e3 := ct_en hc r hSd
  have e4 := en_congr hc r hSl
  have l1 := hL.1.le _ hM.1.sd
  have l2 := hM.1.le _ hL.1.sd
  have l3 := hL.1.le _ hSd
  refine ⟨by omega, by omega, fun he => ?_⟩
  have hms : Ms (c.nwa r).nw c.nb (c.nb + 1) S := ⟨hSd, fun T hT => by have := hL.1.le T hT; omega⟩
  intro i hi
  have a1 := hL.2 S hms i (by omega)
  have a2 := hM.2 S hms i (by omega)
  rw [hSl i hi] at a1 a2
  exact ⟨a1, a2⟩

set_option maxHeartbeats 4000000 in
set_option maxRecDepth 100000 in
theorem waxCheapest_walk (c : Cl) (ri : Int) (nl_ : Nat) (l : Nat → Bool) (V LV : Value) (W : World) (hV : Kl W V c) (hL : Bl W LV nl_ l) :
    Calls Try.prog 12 #[V, .int .i64 ri, LV] W fun e W' => e = .returned (.bool true) ∧ Ext W W' := by
  have HV := Lib.hid hV; have HA := Lib.hid hL
  obtain ⟨A1, cLa, rfl, hc1, hd1, -⟩ := hL
  obtain ⟨B, X, R, D, rfl, -, -, -, -⟩ := hV
  obtain ⟨w, hw⟩ : ∃ w, w = c.w := ⟨_, rfl⟩
  obtain ⟨h, hh⟩ : ∃ h, h = c.h := ⟨_, rfl⟩
  rw [← hw, ← hh] at HV ⊢
  clear hw hh
  obtain ⟨C, hC⟩ : ∃ C, C = c.cut := ⟨_, rfl⟩
  have hcl : ∀ X1, Ext W X1 → Calls Try.prog 39 #[.agg #[.int .i64 w, .int .i64 h, B, X, R, D]] X1 fun e W' => ∃ U, e = .returned U ∧ Kl W' U C ∧ Ext X1 W' := fun X1 hX1 => by
    rw [hC]; exact cloth_any c _ X1 (HV.out.ext hX1)
  have HCL := Lib.hid hcl
  clear hcl hC
  go_enter Try.func12, Try.ntmps12
  go_upto_region 1 with fail
  have bb := al1 W (.cells #[.int .i64 w, .int .i64 h, B, X, R, D] 68)
  obtain ⟨m0, m1, m2, m3, m4, m5, mz, -⟩ := six (heap_alloc_new W (.cells #[.int .i64 w, .int .i64 h, B, X, R, D] 68))
  generalize W.alloc (.cells #[.int .i64 w, .int .i64 h, B, X, R, D] 68) = W1 at *
  have HB : Hid (Ext W W1) := Lib.hid bb
  have HM := Lib.hid (And.intro m0 (And.intro m1 (And.intro m2 (And.intro m3 (And.intro m4 m5)))))
  clear bb
  go_wp2_with fail
  refine (HCL.out _ HB.out).mono ?_
  clear m0 m1 m2 m3 m4 m5
  rintro e w1a ⟨U1, rfl, hk, hx⟩
  have HK1 := Lib.hid hk
  have HY1 : Hid (Ext W1 w1a) := Lib.hid hx
  clear hk hx
  go_wp2_with fail
  refine (labels_any C ri U1 _ HK1.out).mono ?_
  rintro e w1 ⟨F, G, er, rfl, hx, hcase⟩
  have HX1 : Hid (Ext W1 w1) := Lib.hid (HY1.out.trans hx)
  clear hx HK1 HY1
  rcases hcase with ⟨_, rfl, rfl, rfl⟩ | ⟨hok, rfl, Ls, Ms_, hF, hG, hLs, hMs⟩
  · go_wp2_with fail
    refine (awake_any _).mono ?_
    rintro e w9 ⟨rfl, hx⟩
    have EF : Hid (Ext W w9) := Lib.hid (HB.out.trans (HX1.out.trans hx)); clear hx
    go_wp2
    go_ret
    exact ⟨rfl, EF.out⟩
  · have hok2 := hok
    rw [Bool.and_eq_true, bw_iff] at hok2
    obtain ⟨hvc, hr1, hr2⟩ := hok2
    have hin := (nwa_ok hvc (r := ri) (by omega) (by omega)).in_
    have HCH : Hid (∀ l, C.en ri Ms_ = C.en ri Ls ∧ C.en ri Ls ≤ C.en ri l ∧ (C.en ri l = C.en ri Ls → ∀ i, i < C.nb → (Ls i = true → l i = true) ∧ (l i = true → Ms_ i = true))) := Lib.hid fun l => cheap hvc hLs hMs hin l
    have HOKE : Hid (okE C ri C.nb = true) := Lib.hid (by unfold okE; rw [hok]; simp)
    have HFG := Lib.hid (And.intro hF hG)
    have HBD : Hid (∀ l, -2000000 ≤ C.en ri l ∧ C.en ri l ≤ 2000000) := Lib.hid fun l => en_bd hvc hr1 hr2 l
    have hnb36 : C.nb ≤ 36 := by
      obtain ⟨⟨q1, q2⟩, ⟨q3, q4⟩, ⟨q5, -⟩, -⟩ := vCl_ok hvc
      have h1 := (side_prod (show 0 ≤ C.w by omega) q2 (show 0 ≤ C.h by omega) q4).2
      omega
    obtain ⟨AF, cF, rfl, -, -, -⟩ := hF
    obtain ⟨AG, cG, rfl, -, -, -⟩ := hG
    clear hok hvc hr1 hr2 hin hLs hMs
    have m0 := keepAt HX1.out mz HM.out.1
    have m1 := keepAt HX1.out mz HM.out.2.1
    have m2 := keepAt HX1.out mz HM.out.2.2.1
    have m3 := keepAt HX1.out mz HM.out.2.2.2.1
    have m4 := keepAt HX1.out mz HM.out.2.2.2.2.1
    have m5 := keepAt HX1.out mz HM.out.2.2.2.2.2
    go_wp2_with fail
    refine (HCL.out _ (HB.out.trans HX1.out)).mono ?_
    clear m0 m1 m2 m3 m4 m5
    rintro e w2a ⟨U2, rfl, hk, hx⟩
    have HK2 := Lib.hid hk
    have HY2 : Hid (Ext W1 w2a ∧ Ext w1 w2a) := Lib.hid ⟨HX1.out.trans hx, hx⟩
    clear hk hx
    go_wp2_with fail
    refine (energyS C ri C.nb Ls U2 _ _ HK2.out (HFG.out.1.ext HY2.out.2)).mono ?_
    rintro e w2 ⟨v2, e2, rfl, hx, h2⟩
    have HX2 : Hid (Ext W1 w2) := Lib.hid (HY2.out.1.trans hx)
    have HZ2 : Hid (Ext w1 w2) := Lib.hid (HY2.out.2.trans hx)
    clear hx
    rcases h2 with ⟨o1, -⟩ | ⟨-, rfl, rfl⟩
    · rw [HOKE.out] at o1; cases o1
    obtain ⟨xL, hxL⟩ : ∃ x, x = C.en ri Ls := ⟨_, rfl⟩
    have hb := HBD.out Ls
    rw [← hxL] at hb ⊢
    obtain ⟨d1, d2⟩ := hb
    have HXL := Lib.hid hxL
    clear hxL
    have m0 := keepAt HX2.out mz HM.out.1
    have m1 := keepAt HX2.out mz HM.out.2.1
    have m2 := keepAt HX2.out mz HM.out.2.2.1
    have m3 := keepAt HX2.out mz HM.out.2.2.2.1
    have m4 := keepAt HX2.out mz HM.out.2.2.2.2.1
    have m5 := keepAt HX2.out mz HM.out.2.2.2.2.2
    go_wp2_with fail
    refine (HCL.out _ (HB.out.trans HX2.out)).mono ?_
    clear m0 m1 m2 m3 m4 m5
    rintro e w3a ⟨U3, rfl, hk, hx⟩
    have HK3 := Lib.hid hk
    have HY3 : Hid (Ext W1 w3a ∧ Ext w1 w3a) := Lib.hid ⟨HX2.out.trans hx, HZ2.out.trans hx⟩
    clear hk hx
    go_wp2_with fail
    refine (energyS C ri C.nb Ms_ U3 _ _ HK3.out (HFG.out.2.ext HY3.out.2)).mono ?_
    rintro e w3 ⟨v3, e3, rfl, hx, h3⟩
    have HX3 : Hid (Ext W1 w3) := Lib.hid (HY3.out.1.trans hx)
    have HZ3 : Hid (Ext w1 w3) := Lib.hid (HY3.out.2.trans hx)
    clear hx
    rcases h3 with ⟨o1, -⟩ | ⟨-, rfl, rfl⟩
    · rw [HOKE.out] at o1; cases o1
    rw [(HCH.out l).1, ← HXL.out]
    have m0 := keepAt HX3.out mz HM.out.1
    have m1 := keepAt HX3.out mz HM.out.2.1
    have m2 := keepAt HX3.out mz HM.out.2.2.1
    have m3 := keepAt HX3.out mz HM.out.2.2.2.1
    have m4 := keepAt HX3.out mz HM.out.2.2.2.2.1
    have m5 := keepAt HX3.out mz HM.out.2.2.2.2.2
    go_wp2_with fail
    refine (HCL.out _ (HB.out.trans HX3.out)).mono ?_
    clear m0 m1 m2 m3 m4 m5
    rintro e w4a ⟨U4, rfl, hk, hx⟩
    have HK4 := Lib.hid hk
    have HY4 : Hid (Ext W1 w4a ∧ Ext w1 w4a) := Lib.hid ⟨HX3.out.trans hx, HZ3.out.trans hx⟩
    clear hk hx
    go_wp2_with fail
    refine (energyS C ri nl_ l U4 _ _ HK4.out (HA.out.ext (HB.out.trans HY4.out.1))).mono ?_
    rintro e w4 ⟨v4, e4, rfl, hx, h4⟩
    have HX4 : Hid (Ext W1 w4) := Lib.hid (HY4.out.1.trans hx)
    have HZ4 : Hid (Ext w1 w4) := Lib.hid (HY4.out.2.trans hx)
    clear hx
    rcases h4 with ⟨_, z1⟩ | ⟨o4, rfl, rfl⟩
    · have z1b : (e4 == 0) = false := by simp; exact z1
      have z1c : (e4 != 0) = true := by simp; exact z1
      go_wp2_with fail
      refine (awake_any _).mono ?_
      rintro e w9 ⟨rfl, hx⟩
      have EF : Hid (Ext W w9) := Lib.hid (HB.out.trans (HX4.out.trans hx)); clear hx
      go_wp2
      go_ret
      exact ⟨rfl, EF.out⟩
    · have hn := (okE_ok o4).2.2
      obtain ⟨-, hle, hbt⟩ := HCH.out l
      rw [← HXL.out] at hle hbt
      have hb := HBD.out l
      obtain ⟨x, hx_⟩ : ∃ x, x = C.en ri l := ⟨_, rfl⟩
      rw [← hx_] at hle hbt hb ⊢
      obtain ⟨d3, d4⟩ := hb
      have HBT := Lib.hid (And.intro hn hbt)
      clear hx_ o4 hbt hn
      by_cases hxe : x = xL
      · subst hxe
        go_wp2_with fail
        refine (between_any C.nb Ls l Ms_ _ _ _ _ (HFG.out.1.ext HZ4.out) (by rw [← HBT.out.1]; exact HA.out.ext (HB.out.trans HX4.out)) (HFG.out.2.ext HZ4.out) (by omega)).mono ?_
        rintro e w5 ⟨b, rfl, hbb, hx⟩
        obtain rfl : b = true := hbb.2 (by first | exact HBT.out.2 rfl | exact HBT.out.2 trivial)
        have HX5 : Hid (Ext W1 w5) := Lib.hid (HX4.out.trans hx)
        clear hx hbb
        go_wp2_with fail
        refine (awake_any _).mono ?_
        rintro e w9 ⟨rfl, hx⟩
        have EF : Hid (Ext W w9) := Lib.hid (HB.out.trans (HX5.out.trans hx)); clear hx
        go_wp2
        go_ret
        exact ⟨rfl, EF.out⟩
      · have hgt : xL < x := by omega
        go_wp2_with fail
        refine (awake_any _).mono ?_
        rintro e w9 ⟨rfl, hx⟩
        have EF : Hid (Ext W w9) := Lib.hid (HB.out.trans (HX4.out.trans hx)); clear hx
        go_wp2
        go_ret
        exact ⟨rfl, EF.out⟩
end Go.Proofs.Ytilcbbdmenknfaa
