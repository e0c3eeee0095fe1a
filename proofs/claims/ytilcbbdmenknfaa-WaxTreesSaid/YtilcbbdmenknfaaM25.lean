/- The law WaxDual. · The law WaxCheapest. · More rise only takes wax away: mathematics. -/
import Derived.Test.YtilcbbdmenknfaaM22
import Derived.Test.YtilcbbdmenknfaaM24
import Derived.Test.YtilcbbdmenknfaaM23
import Derived.Test.YtilcbbdmenknfaaM18
namespace Go.Proofs.Ytilcbbdmenknfaa
open Go.RowKit

set_option maxHeartbeats 4000000 in
set_option maxRecDepth 100000 in
theorem between_any (N : Nat) (L S M : Nat → Bool) (LV SV MV : Value) (W : World) (hL : Bl W LV N L) (hS : Bl W SV N S) (hM : Bl W MV N M) (hN : N ≤ 1000) :
    Calls Try.prog 32 #[LV, SV, MV] W fun e W' => ∃ b, e = .returned (.bool b) ∧ (b = true ↔ ∀ i, i < N → (L i = true → S i = true) ∧ (S i = true → M i = true)) ∧ Ext W W' := by
  have HL := Lib.hid hL; have HS := Lib.hid hS; have HM := Lib.hid hM
  obtain ⟨A1, c1, rfl, hc1, hd1, -⟩ := hL
  obtain ⟨A2, c2, rfl, hc2, hd2, -⟩ := hS
  obtain ⟨A3, c3, rfl, hc3, hd3, -⟩ := hM
  go_enter Try.func32, Try.ntmps32
  go_wp2_with fail
  go_loopw [23] (fun i wr => ∃ k : Nat, i = .int .i64 k ∧ k ≤ N ∧ Hid (∀ j, j < k → (L j = true → S j = true) ∧ (S j = true → M j = true)) ∧ wr = W) (fun i _ => N - (intOf i).toNat)
  case atStart => exact ⟨0, rfl, Nat.zero_le _, Lib.hid (fun j hj => by omega), rfl⟩
  case round =>
    obtain ⟨k, rfl, hk, hin, hwr⟩ := hrel
    rw [hwr]; clear hwr
    by_cases hlt : k < N
    · obtain ⟨b1, o1, rfl, -, e1⟩ := Vl.at HL.out (Ext.refl W) hlt
      obtain ⟨b2, o2, rfl, -, e2⟩ := Vl.at HS.out (Ext.refl W) hlt
      obtain ⟨b3, o3, rfl, -, e3⟩ := Vl.at HM.out (Ext.refl W) hlt
      cases p : L k <;> cases q : S k <;> cases r : M k
      · have HP := Lib.hid p; have HQ := Lib.hid q; have HR := Lib.hid r
        rw [p] at e1; rw [q] at e2; rw [r] at e3
        clear p q r
        go_wp2
        go_roundw
        case rel =>
          refine ⟨k + 1, by go_num, by omega, Lib.hid (fun j hj => ?_), by trivial⟩
          by_cases e : j = k
          · subst e; rw [HP.out, HQ.out, HR.out]; simp
          · exact hin.out j (by omega)
        case measure => simp [intOf]; omega
      · have HP := Lib.hid p; have HQ := Lib.hid q; have HR := Lib.hid r
        rw [p] at e1; rw [q] at e2; rw [r] at e3
        clear p q r
        go_wp2
        go_roundw
        case rel =>
          refine ⟨k + 1, by go_num, by omega, Lib.hid (fun j hj => ?_), by trivial⟩
          by_cases e : j = k
          · subst e; rw [HP.out, HQ.out, HR.out]; simp
          · exact hin.out j (by omega)
        case measure => simp [intOf]; omega
      · have HP := Lib.hid p; have HQ := Lib.hid q; have HR := Lib.hid r
        rw [p] at e1; rw [q] at e2; rw [r] at e3
        clear p q r
        go_wp2
        go_ret
        refine ⟨false, rfl, ⟨fun h => (by cases h), fun h => ?_⟩, Ext.refl _⟩
        have h9 := h k hlt
        rw [HP.out, HQ.out, HR.out] at h9
        simp at h9
      · have HP := Lib.hid p; have HQ := Lib.hid q; have HR := Lib.hid r
        rw [p] at e1; rw [q] at e2; rw [r] at e3
        clear p q r
        go_wp2
        go_roundw
        case rel =>
          refine ⟨k + 1, by go_num, by omega, Lib.hid (fun j hj => ?_), by trivial⟩
          by_cases e : j = k
          · subst e; rw [HP.out, HQ.out, HR.out]; simp
          · exact hin.out j (by omega)
        case measure => simp [intOf]; omega
      · have HP := Lib.hid p; have HQ := Lib.hid q; have HR := Lib.hid r
        rw [p] at e1; rw [q] at e2; rw [r] at e3
        clear p q r
        go_wp2
        go_ret
        refine ⟨false, rfl, ⟨fun h => (by cases h), fun h => ?_⟩, Ext.refl _⟩
        have h9 := h k hlt
        rw [HP.out, HQ.out, HR.out] at h9
        simp at h9
      · have HP := Lib.hid p; have HQ := Lib.hid q; have HR := Lib.hid r
        rw [p] at e1; rw [q] at e2; rw [r] at e3
        clear p q r
        go_wp2
        go_ret
        refine ⟨false, rfl, ⟨fun h => (by cases h), fun h => ?_⟩, Ext.refl _⟩
        have h9 := h k hlt
        rw [HP.out, HQ.out, HR.out] at h9
        simp at h9
      · have HP := Lib.hid p; have HQ := Lib.hid q; have HR := Lib.hid r
        rw [p] at e1; rw [q] at e2; rw [r] at e3
        clear p q r
        go_wp2
        go_ret
        refine ⟨false, rfl, ⟨fun h => (by cases h), fun h => ?_⟩, Ext.refl _⟩
        have h9 := h k hlt
        rw [HP.out, HQ.out, HR.out] at h9
        simp at h9
      · have HP := Lib.hid p; have HQ := Lib.hid q; have HR := Lib.hid r
        rw [p] at e1; rw [q] at e2; rw [r] at e3
        clear p q r
        go_wp2
        go_roundw
        case rel =>
          refine ⟨k + 1, by go_num, by omega, Lib.hid (fun j hj => ?_), by trivial⟩
          by_cases e : j = k
          · subst e; rw [HP.out, HQ.out, HR.out]; simp
          · exact hin.out j (by omega)
        case measure => simp [intOf]; omega
    · obtain rfl : k = N := by omega
      go_wp2
      go_ret
      exact ⟨true, rfl, ⟨fun _ => hin.out, fun _ => rfl⟩, Ext.refl _⟩

set_option maxHeartbeats 4000000 in
set_option maxRecDepth 100000 in
theorem waxDual_walk (N : Int) (a : Ar) (nf ns : Nat) (f : Nat → Int) (s : Nat → Bool) (AV FV SV : Value) (W : World) (hA : Al W AV a) (hF : Il W FV nf f) (hS : Bl W SV ns s) :
    Calls Try.prog 6 #[.agg #[.int .i64 N, AV], FV, SV] W fun e W' => e = .returned (.bool true) ∧ Ext W W' := by
  have HA := Lib.hid hA; have HF := Lib.hid hF; have HS := Lib.hid hS
  obtain ⟨ac, hac'⟩ : ∃ z, z = a.cut 162 := ⟨_, rfl⟩
  have hnet : ∀ (X : World), Ext W X → Calls Try.prog 16 #[.agg #[.int .i64 N, AV]] X fun e W' => ∃ v, e = .returned (.agg #[.int .i64 N, v]) ∧ Al W' v ac ∧ Ext X W' := fun X hX => by
    refine (net_any N a AV X (hA.ext hX)).mono ?_
    rintro e w ⟨v, rfl, h1, -, h2⟩
    exact ⟨v, rfl, by rw [hac']; exact h1, h2⟩
  have HNET := Lib.hid hnet; have HAC := Lib.hid hac'
  clear hnet hac'
  obtain ⟨A, c, rfl, hac, hcm, -⟩ := hA
  obtain ⟨A2, c2, rfl, hac2, hcm2, -⟩ := hF
  obtain ⟨A3, c3, rfl, hac3, hcm3, -⟩ := hS
  go_enter Try.func6, Try.ntmps6
  go_upto_region 1 with fail
  have bb := al1 W (.cells #[.int .i64 N, .slice A a.n c] 24)
  have hh := heap_alloc_new W (.cells #[.int .i64 N, .slice A a.n c] 24)
  have zz : W.heap.size < (W.alloc (.cells #[.int .i64 N, .slice A a.n c] 24)).heap.size := by simp
  generalize W.alloc (.cells #[.int .i64 N, .slice A a.n c] 24) = W0 at *
  have HB : Hid (Ext W W0) := Lib.hid bb
  obtain ⟨m0, m1, m2, m3⟩ := two hh
  have HM := Lib.hid (And.intro m0 m1)
  clear bb hh m2 m3
  go_wp2_with fail
  refine (HNET.out _ HB.out).mono ?_
  rintro e x1 ⟨o1, rfl, hal, hx⟩
  have HO1 := Lib.hid hal
  have HX1 : Hid (Ext W0 x1) := Lib.hid hx
  obtain ⟨Ao1, co1, rfl, -, -, -⟩ := hal
  clear hx m0 m1
  go_wp2_with fail
  refine (flowS_any N ac _ _ HO1.out).mono ?_
  rintro e y1 ⟨F, er, rfl, hx, hcase⟩
  have HY1 : Hid (Ext W0 y1) := Lib.hid (HX1.out.trans hx)
  have m0 := keepAt HY1.out zz HM.out.1
  have m1 := keepAt HY1.out zz HM.out.2
  clear hx
  rcases hcase with ⟨hv, rfl, rfl⟩ | ⟨hv, rfl, g, f0, rfl, hg, hbf, hfl, hmc⟩
  · have _h := hv
    clear hv _h
    go_wp2_with fail
    refine (awake_any _).mono ?_
    rintro e w9 ⟨rfl, hx⟩
    have EF : Hid (Ext W w9) := Lib.hid (HB.out.trans (HY1.out.trans hx)); clear hx
    go_wp2
    go_ret
    exact ⟨rfl, EF.out⟩
  · rw [HAC.out, vNet_cut] at hv
    have hca : ac = a := by rw [HAC.out]; exact vNet_same hv
    subst hca
    obtain ⟨m, rfl, hm2, hm40, hn, hO⟩ := vNet_ok hv
    rw [Int.toNat_natCast] at hfl hmc
    have HV := Lib.hid hv; have HO := Lib.hid hO; have HFL := Lib.hid hfl; have HMC := Lib.hid hmc; have HBF := Lib.hid hbf
    clear hv hO hfl hmc hbf HAC
    go_wp2_with fail
    refine (HNET.out _ (HB.out.trans HY1.out)).mono ?_
    rintro e x2 ⟨o2, rfl, hal, hx⟩
    have HO2 := Lib.hid hal
    have HX2 : Hid (Ext W0 x2) := Lib.hid (HY1.out.trans hx)
    obtain ⟨Ao2, co2, rfl, -, -, -⟩ := hal
    replace HBF := Lib.hid (HBF.out.ext hx)
    clear hx m0 m1
    go_wp2_with fail
    refine (valueS_any m ac _ _ HO2.out).mono ?_
    rintro e y2 ⟨v, er, rfl, hx, hcase⟩
    replace HBF := Lib.hid (HBF.out.ext hx)
    have HY2 : Hid (Ext W0 y2) := Lib.hid (HX2.out.trans hx)
    have m0 := keepAt HY2.out zz HM.out.1
    have m1 := keepAt HY2.out zz HM.out.2
    clear hx
    have hvz : er = 0 ∧ v = ac.nw.sp f0 0 := by
      rcases hcase with ⟨h1, -⟩ | ⟨-, h2, h3⟩
      · rw [HV.out] at h1; cases h1
      · rw [Int.toNat_natCast] at h3; exact ⟨h2, h3.one HMC.out⟩
    obtain ⟨rfl, hvz⟩ := hvz
    have HVZ := Lib.hid hvz
    clear hcase hvz
    go_wp2_with fail
    refine (HNET.out _ (HB.out.trans HY2.out)).mono ?_
    rintro e x3 ⟨o3, rfl, hal, hx⟩
    have HO3 := Lib.hid hal
    have HX3 : Hid (Ext W0 x3) := Lib.hid (HY2.out.trans hx)
    obtain ⟨Ao3, co3, rfl, -, -, -⟩ := hal
    replace HBF := Lib.hid (HBF.out.ext hx)
    clear hx m0 m1
    go_wp2_with fail
    refine (leastS_any m ac _ _ HO3.out).mono ?_
    rintro e y3 ⟨F3, er3, rfl, hx, hcase⟩
    replace HBF := Lib.hid (HBF.out.ext hx)
    have HY3 : Hid (Ext W0 y3) := Lib.hid (HX3.out.trans hx)
    have m0 := keepAt HY3.out zz HM.out.1
    have m1 := keepAt HY3.out zz HM.out.2
    rcases hcase with ⟨h1, -⟩ | ⟨-, rfl, gL, L, rfl, hgL, hbL, hlst⟩
    · rw [HV.out] at h1; cases h1
    rw [Int.toNat_natCast] at hbL hlst ⊢
    have HBL := Lib.hid hbL; have HLST := Lib.hid hlst
    clear hx hbL hlst
    go_wp2_with fail
    refine (HNET.out _ (HB.out.trans HY3.out)).mono ?_
    rintro e x4 ⟨o4, rfl, hal, hx⟩
    have HO4 := Lib.hid hal
    have HX4 : Hid (Ext W0 x4) := Lib.hid (HY3.out.trans hx)
    obtain ⟨Ao4, co4, rfl, -, -, -⟩ := hal
    replace HBF := Lib.hid (HBF.out.ext hx)
    replace HBL := Lib.hid (HBL.out.ext hx)
    clear hx m0 m1
    go_wp2_with fail
    refine (greatestS_any m ac _ _ HO4.out).mono ?_
    rintro e y4 ⟨F4, er4, rfl, hx, hcase⟩
    replace HBF := Lib.hid (HBF.out.ext hx)
    replace HBL := Lib.hid (HBL.out.ext hx)
    have HY4 : Hid (Ext W0 y4) := Lib.hid (HX4.out.trans hx)
    have m0 := keepAt HY4.out zz HM.out.1
    have m1 := keepAt HY4.out zz HM.out.2
    rcases hcase with ⟨h1, -⟩ | ⟨-, rfl, gG, G, rfl, hgG, hbG, hgst⟩
    · rw [HV.out] at h1; cases h1
    rw [Int.toNat_natCast] at hbG hgst ⊢
    have HBG := Lib.hid hbG; have HGST := Lib.hid hgst
    clear hx hbG hgst
    have hfB : isFlB m ac f0 = true := (isFlB_fl hm2).2 HFL.out
    have hvL : ac.nw.sp f0 0 = ac.nw.ct L := HMC.out.one HLST.out.1.mc
    have hvG : ac.nw.sp f0 0 = ac.nw.ct G := HMC.out.one HGST.out.1.mc
    have hcL : chB m ac f0 L = true := by unfold chB; rw [hfB, isSdB_iff.2 HLST.out.1.sd, decide_eq_true hvL]; rfl
    have hcG : chB m ac f0 G = true := by unfold chB; rw [hfB, isSdB_iff.2 HGST.out.1.sd, decide_eq_true hvG]; rfl
    have HCL := Lib.hid (And.intro hcL hvL); have HCG := Lib.hid hcG
    clear hfB hvL hvG hcL hcG
    go_wp2_with fail
    refine (HNET.out _ (HB.out.trans HY4.out)).mono ?_
    rintro e x5 ⟨o5, rfl, hal, hx⟩
    have HO5 := Lib.hid hal
    have HX5 : Hid (Ext W0 x5) := Lib.hid (HY4.out.trans hx)
    obtain ⟨Ao5, co5, rfl, -, -, -⟩ := hal
    replace HBF := Lib.hid (HBF.out.ext hx)
    replace HBL := Lib.hid (HBL.out.ext hx)
    replace HBG := Lib.hid (HBG.out.ext hx)
    clear hx m0 m1
    go_wp2_with fail
    refine (check_any m ac ac.n m f0 L _ _ _ _ HO5.out (BI.il HBF.out (by omega)) (BB.bl HBL.out (by omega))).mono ?_
    rintro e y5 ⟨b5, er5, rfl, hc, hx⟩
    replace HBF := Lib.hid (HBF.out.ext hx)
    replace HBL := Lib.hid (HBL.out.ext hx)
    replace HBG := Lib.hid (HBG.out.ext hx)
    have HY5 : Hid (Ext W0 y5) := Lib.hid (HX5.out.trans hx)
    have m0 := keepAt HY5.out zz HM.out.1
    have m1 := keepAt HY5.out zz HM.out.2
    have hb5 : b5 = true ∧ er5 = 0 := by
      rcases hc with ⟨h1, -⟩ | ⟨-, ⟨h1, -⟩ | ⟨-, -, h2, h3⟩⟩
      · rw [HV.out] at h1; cases h1
      · rcases h1 with h1 | h1 <;> exact absurd rfl h1
      · rw [HCL.out.1] at h2; exact ⟨h2, h3⟩
    obtain ⟨rfl, rfl⟩ := hb5
    clear hx hc
    go_wp2_with fail
    refine (HNET.out _ (HB.out.trans HY5.out)).mono ?_
    rintro e x6 ⟨o6, rfl, hal, hx⟩
    have HO6 := Lib.hid hal
    have HX6 : Hid (Ext W0 x6) := Lib.hid (HY5.out.trans hx)
    obtain ⟨Ao6, co6, rfl, -, -, -⟩ := hal
    replace HBF := Lib.hid (HBF.out.ext hx)
    replace HBL := Lib.hid (HBL.out.ext hx)
    replace HBG := Lib.hid (HBG.out.ext hx)
    clear hx m0 m1
    go_wp2_with fail
    refine (check_any m ac ac.n m f0 G _ _ _ _ HO6.out (BI.il HBF.out (by omega)) (BB.bl HBG.out (by omega))).mono ?_
    rintro e y6 ⟨b6, er6, rfl, hc, hx⟩
    replace HBF := Lib.hid (HBF.out.ext hx)
    replace HBL := Lib.hid (HBL.out.ext hx)
    replace HBG := Lib.hid (HBG.out.ext hx)
    have HY6 : Hid (Ext W0 y6) := Lib.hid (HX6.out.trans hx)
    have m0 := keepAt HY6.out zz HM.out.1
    have m1 := keepAt HY6.out zz HM.out.2
    have hb6 : b6 = true ∧ er6 = 0 := by
      rcases hc with ⟨h1, -⟩ | ⟨-, ⟨h1, -⟩ | ⟨-, -, h2, h3⟩⟩
      · rw [HV.out] at h1; cases h1
      · rcases h1 with h1 | h1 <;> exact absurd rfl h1
      · rw [HCG.out] at h2; exact ⟨h2, h3⟩
    obtain ⟨rfl, rfl⟩ := hb6
    clear hx hc
    by_cases h1 : nf = ac.n
    · subst h1
      go_wp2_with fail
      refine (flowR_any m ac f _ _ _ (HA.out.ext (HB.out.trans HY6.out)) (Il.ext HF.out (HB.out.trans HY6.out)) HO.out (by omega) hm2 (by omega)).mono ?_
      rintro e y7 ⟨rfl, hx⟩
      have HY7 : Hid (Ext W0 y7) := Lib.hid (HY6.out.trans hx)
      replace HBL := Lib.hid (HBL.out.ext hx)
      replace HBG := Lib.hid (HBG.out.ext hx)
      replace m0 := keepAt HY7.out zz HM.out.1
      replace m1 := keepAt HY7.out zz HM.out.2
      obtain ⟨p, hp⟩ : ∃ p, p = isFlB m ac f := ⟨_, rfl⟩
      obtain ⟨x, hxx⟩ : ∃ x, x = if isFlB m ac f = true then ac.nw.sp f 0 else 0 := ⟨_, rfl⟩
      rw [← hxx]
      rw [← hp] at hxx ⊢
      have HP := Lib.hid hp; have HXX := Lib.hid hxx
      clear hx hp hxx
      cases p
      · have _h := hm2
        by_cases h2 : m = ns
        · subst h2
          go_wp2_with fail
          refine (sideR_any ac m s _ _ _ (HA.out.ext (HB.out.trans HY7.out)) (Bl.ext HS.out (HB.out.trans HY7.out)) HO.out (by omega) hm2 (by omega)).mono ?_
          rintro e y8 ⟨rfl, hx⟩
          have HY8 : Hid (Ext W0 y8) := Lib.hid (HY7.out.trans hx)
          replace HBL := Lib.hid (HBL.out.ext hx)
          replace HBG := Lib.hid (HBG.out.ext hx)
          obtain ⟨q, hq⟩ : ∃ q, q = isSdB m s := ⟨_, rfl⟩
          obtain ⟨cz, hcz⟩ : ∃ z, z = ac.nw.ct s := ⟨_, rfl⟩
          rw [← hq, ← hcz]
          have HQ := Lib.hid hq; have HCZ := Lib.hid hcz
          clear hx m0 m1 hq hcz
          cases q
          · have _h := hm2
            go_wp2_with fail
            refine (awake_any _).mono ?_
            rintro e w9 ⟨rfl, hx⟩
            have EF : Hid (Ext W w9) := Lib.hid (HB.out.trans (HY8.out.trans hx)); clear hx
            go_wp2
            go_ret
            exact ⟨rfl, EF.out⟩
          · have hsd : Nw.Sd 0 (m - 1) s := isSdB_iff.1 HQ.out.symm
            have hle : v ≤ cz := by rw [HCZ.out, HVZ.out]; exact HMC.out.le s hsd
            have hnl : ¬ cz < v := by omega
            have HSD := Lib.hid hsd
            clear hsd
            by_cases he : cz = v
            · subst he
              go_wp2_with fail
              refine (between_any m L s G _ _ _ _ (BB.bl HBL.out (by omega)) (Bl.ext HS.out (HB.out.trans HY8.out)) (BB.bl HBG.out (by omega)) (by omega)).mono ?_
              rintro e y9 ⟨b, rfl, hb, hx⟩
              have hbt : b = true := by
                have hms := HMC.out.ms HSD.out (HCZ.out.symm.trans HVZ.out)
                exact hb.2 (fun i hi => ⟨HLST.out.2 s hms i hi, HGST.out.2 s hms i hi⟩)
              subst hbt
              have HY9 : Hid (Ext W0 y9) := Lib.hid (HY8.out.trans hx)
              clear hx hb
              go_wp2_with fail
              refine (awake_any _).mono ?_
              rintro e w9 ⟨rfl, hx⟩
              have EF : Hid (Ext W w9) := Lib.hid (HB.out.trans (HY9.out.trans hx)); clear hx
              go_wp2
              go_ret
              exact ⟨rfl, EF.out⟩
            · have hne : (cz == v) = false := by simp; omega
              go_wp2_with fail
              refine (awake_any _).mono ?_
              rintro e w9 ⟨rfl, hx⟩
              have EF : Hid (Ext W w9) := Lib.hid (HB.out.trans (HY8.out.trans hx)); clear hx
              go_wp2
              go_ret
              exact ⟨rfl, EF.out⟩
        · have h3 : ¬ (ns : Int) = m := by omega
          go_wp2_with fail
          refine (awake_any _).mono ?_
          rintro e w9 ⟨rfl, hx⟩
          have EF : Hid (Ext W w9) := Lib.hid (HB.out.trans (HY7.out.trans hx)); clear hx
          go_wp2
          go_ret
          exact ⟨rfl, EF.out⟩
      · have hx1 : ¬ v < x := by
          have h8 : x = ac.nw.sp f 0 := by rw [HXX.out, if_pos rfl]
          have h9 := ac.nw.weak HO.out.in_ (by omega) ((isFlB_fl hm2).1 HP.out.symm) HLST.out.1.sd
          have h7 := HCL.out.2; have h6 := HVZ.out
          omega
        by_cases h2 : m = ns
        · subst h2
          go_wp2_with fail
          refine (sideR_any ac m s _ _ _ (HA.out.ext (HB.out.trans HY7.out)) (Bl.ext HS.out (HB.out.trans HY7.out)) HO.out (by omega) hm2 (by omega)).mono ?_
          rintro e y8 ⟨rfl, hx⟩
          have HY8 : Hid (Ext W0 y8) := Lib.hid (HY7.out.trans hx)
          replace HBL := Lib.hid (HBL.out.ext hx)
          replace HBG := Lib.hid (HBG.out.ext hx)
          obtain ⟨q, hq⟩ : ∃ q, q = isSdB m s := ⟨_, rfl⟩
          obtain ⟨cz, hcz⟩ : ∃ z, z = ac.nw.ct s := ⟨_, rfl⟩
          rw [← hq, ← hcz]
          have HQ := Lib.hid hq; have HCZ := Lib.hid hcz
          clear hx m0 m1 hq hcz
          cases q
          · have _h := hm2
            go_wp2_with fail
            refine (awake_any _).mono ?_
            rintro e w9 ⟨rfl, hx⟩
            have EF : Hid (Ext W w9) := Lib.hid (HB.out.trans (HY8.out.trans hx)); clear hx
            go_wp2
            go_ret
            exact ⟨rfl, EF.out⟩
          · have hsd : Nw.Sd 0 (m - 1) s := isSdB_iff.1 HQ.out.symm
            have hle : v ≤ cz := by rw [HCZ.out, HVZ.out]; exact HMC.out.le s hsd
            have hnl : ¬ cz < v := by omega
            have HSD := Lib.hid hsd
            clear hsd
            by_cases he : cz = v
            · subst he
              go_wp2_with fail
              refine (between_any m L s G _ _ _ _ (BB.bl HBL.out (by omega)) (Bl.ext HS.out (HB.out.trans HY8.out)) (BB.bl HBG.out (by omega)) (by omega)).mono ?_
              rintro e y9 ⟨b, rfl, hb, hx⟩
              have hbt : b = true := by
                have hms := HMC.out.ms HSD.out (HCZ.out.symm.trans HVZ.out)
                exact hb.2 (fun i hi => ⟨HLST.out.2 s hms i hi, HGST.out.2 s hms i hi⟩)
              subst hbt
              have HY9 : Hid (Ext W0 y9) := Lib.hid (HY8.out.trans hx)
              clear hx hb
              go_wp2_with fail
              refine (awake_any _).mono ?_
              rintro e w9 ⟨rfl, hx⟩
              have EF : Hid (Ext W w9) := Lib.hid (HB.out.trans (HY9.out.trans hx)); clear hx
              go_wp2
              go_ret
              exact ⟨rfl, EF.out⟩
            · have hne : (cz == v) = false := by simp; omega
              go_wp2_with fail
              refine (awake_any _).mono ?_
              rintro e w9 ⟨rfl, hx⟩
              have EF : Hid (Ext W w9) := Lib.hid (HB.out.trans (HY8.out.trans hx)); clear hx
              go_wp2
              go_ret
              exact ⟨rfl, EF.out⟩
        · have h3 : ¬ (ns : Int) = m := by omega
          go_wp2_with fail
          refine (awake_any _).mono ?_
          rintro e w9 ⟨rfl, hx⟩
          have EF : Hid (Ext W w9) := Lib.hid (HB.out.trans (HY7.out.trans hx)); clear hx
          go_wp2
          go_ret
          exact ⟨rfl, EF.out⟩
    · have h3 : ¬ (nf : Int) = ac.n := by omega
      by_cases h2 : m = ns
      · subst h2
        go_wp2_with fail
        refine (sideR_any ac m s _ _ _ (HA.out.ext (HB.out.trans HY6.out)) (Bl.ext HS.out (HB.out.trans HY6.out)) HO.out (by omega) hm2 (by omega)).mono ?_
        rintro e y8 ⟨rfl, hx⟩
        have HY8 : Hid (Ext W0 y8) := Lib.hid (HY6.out.trans hx)
        replace HBL := Lib.hid (HBL.out.ext hx)
        replace HBG := Lib.hid (HBG.out.ext hx)
        obtain ⟨q, hq⟩ : ∃ q, q = isSdB m s := ⟨_, rfl⟩
        obtain ⟨cz, hcz⟩ : ∃ z, z = ac.nw.ct s := ⟨_, rfl⟩
        rw [← hq, ← hcz]
        have HQ := Lib.hid hq; have HCZ := Lib.hid hcz
        clear hx m0 m1 hq hcz
        cases q
        · have _h := hm2
          go_wp2_with fail
          refine (awake_any _).mono ?_
          rintro e w9 ⟨rfl, hx⟩
          have EF : Hid (Ext W w9) := Lib.hid (HB.out.trans (HY8.out.trans hx)); clear hx
          go_wp2
          go_ret
          exact ⟨rfl, EF.out⟩
        · have hsd : Nw.Sd 0 (m - 1) s := isSdB_iff.1 HQ.out.symm
          have hle : v ≤ cz := by rw [HCZ.out, HVZ.out]; exact HMC.out.le s hsd
          have hnl : ¬ cz < v := by omega
          have HSD := Lib.hid hsd
          clear hsd
          by_cases he : cz = v
          · subst he
            go_wp2_with fail
            refine (between_any m L s G _ _ _ _ (BB.bl HBL.out (by omega)) (Bl.ext HS.out (HB.out.trans HY8.out)) (BB.bl HBG.out (by omega)) (by omega)).mono ?_
            rintro e y9 ⟨b, rfl, hb, hx⟩
            have hbt : b = true := by
              have hms := HMC.out.ms HSD.out (HCZ.out.symm.trans HVZ.out)
              exact hb.2 (fun i hi => ⟨HLST.out.2 s hms i hi, HGST.out.2 s hms i hi⟩)
            subst hbt
            have HY9 : Hid (Ext W0 y9) := Lib.hid (HY8.out.trans hx)
            clear hx hb
            go_wp2_with fail
            refine (awake_any _).mono ?_
            rintro e w9 ⟨rfl, hx⟩
            have EF : Hid (Ext W w9) := Lib.hid (HB.out.trans (HY9.out.trans hx)); clear hx
            go_wp2
            go_ret
            exact ⟨rfl, EF.out⟩
          · have hne : (cz == v) = false := by simp; omega
            go_wp2_with fail
            refine (awake_any _).mono ?_
            rintro e w9 ⟨rfl, hx⟩
            have EF : Hid (Ext W w9) := Lib.hid (HB.out.trans (HY8.out.trans hx)); clear hx
            go_wp2
            go_ret
            exact ⟨rfl, EF.out⟩
      · have h3 : ¬ (ns : Int) = m := by omega
        go_wp2_with fail
        refine (awake_any _).mono ?_
        rintro e w9 ⟨rfl, hx⟩
        have EF : Hid (Ext W w9) := Lib.hid (HB.out.trans (HY6.out.trans hx)); clear hx
        go_wp2
        go_ret
        exact ⟨rfl, EF.out⟩
end Go.Proofs.Ytilcbbdmenknfaa
namespace Go.Proofs.Ytilcbbdmenknfaa
open Go.RowKit

theorem cheap {c : Cl} (hc : vCl c = true) {r : Int} {L M : Nat → Bool} (hL : Lst (c.nwa r).nw (c.nb + 2) c.nb (c.nb + 1) L) (hM : Gst (c.nwa r).nw (c.nb + 2) c.nb (c.nb + 1) M) (hO : (c.nwa r).nw.In (c.nb + 2)) (l : Nat → Bool) :
    c.en r M = c.en r L ∧ c.en r L ≤ c.en r l ∧ (c.en r l = c.en r L → ∀ i, i < c.nb → (L i = true → l i = true) ∧ (l i = true → M i = true)) := by
  obtain ⟨S, hS⟩ : ∃ S : Nat → Bool, S = fun v => if v < c.nb then l v else decide (v = c.nb) := ⟨_, rfl⟩
  have hSd : Nw.Sd c.nb (c.nb + 1) S := by
    rw [hS]
    refine ⟨?_, ?_⟩
    · dsimp only; rw [if_neg (by omega)]; simp
    · dsimp only; rw [if_neg (by omega)]; simp
  have hSl : ∀ k, k < c.nb → S k = l k := fun k hk => by rw [hS]; dsimp only; rw [if_pos hk]
  have e1 := ct_en hc r hL.1.sd
  have e2 := ct_en hc r hM.1.sd
  have e3 := ct_en hc r hSd
  have e4 := en_congr hc r hSl
  have l1 := hL.1.le _ hM.1.sd
  have l2 := hM.1.le _ hL.1.sd
  have l3 := hL.1.le _ hSd
  refine ⟨by omega, by omega, fun he => ?_⟩
  have hms : Ms (c.nwa r).nw c.nb (c.nb + 1) S := ⟨hSd, fun T hT => by have := hL.1.le T hT; omega⟩
  intro i hi
  have a1 := hL.2 S hms i (by omega)
  have a2 := hM.2 S hms i (by omega)
  rw [hSl i hi] at a1 a2
  exact ⟨a1, a2⟩

set_option maxHeartbeats 4000000 in
set_option maxRecDepth 100000 in
theorem waxCheapest_walk (c : Cl) (ri : Int) (nl_ : Nat) (l : Nat → Bool) (V LV : Value) (W : World) (hV : Kl W V c) (hL : Bl W LV nl_ l) :
    Calls Try.prog 12 #[V, .int .i64 ri, LV] W fun e W' => e = .returned (.bool true) ∧ Ext W W' := by
  have HV := Lib.hid hV; have HA := Lib.hid hL
  obtain ⟨A1, cLa, rfl, hc1, hd1, -⟩ := hL
  obtain ⟨B, X, R, D, rfl, -, -, -, -⟩ := hV
  obtain ⟨w, hw⟩ : ∃ w, w = c.w := ⟨_, rfl⟩
  obtain ⟨h, hh⟩ : ∃ h, h = c.h := ⟨_, rfl⟩
  rw [← hw, ← hh] at HV ⊢
  clear hw hh
  obtain ⟨C, hC⟩ : ∃ C, C = c.cut := ⟨_, rfl⟩
  have hcl : ∀ X1, Ext W X1 → Calls Try.prog 39 #[.agg #[.int .i64 w, .int .i64 h, B, X, R, D]] X1 fun e W' => ∃ U, e = .returned U ∧ Kl W' U C ∧ Ext X1 W' := fun X1 hX1 => by
    rw [hC]; exact cloth_any c _ X1 (HV.out.ext hX1)
  have HCL := Lib.hid hcl
  clear hcl hC
  go_enter Try.func12, Try.ntmps12
  go_upto_region 1 with fail
  have bb := al1 W (.cells #[.int .i64 w, .int .i64 h, B, X, R, D] 68)
  obtain ⟨m0, m1, m2, m3, m4, m5, mz, -⟩ := six (heap_alloc_new W (.cells #[.int .i64 w, .int .i64 h, B, X, R, D] 68))
  generalize W.alloc (.cells #[.int .i64 w, .int .i64 h, B, X, R, D] 68) = W1 at *
  have HB : Hid (Ext W W1) := Lib.hid bb
  have HM := Lib.hid (And.intro m0 (And.intro m1 (And.intro m2 (And.intro m3 (And.intro m4 m5)))))
  clear bb
  go_wp2_with fail
  refine (HCL.out _ HB.out).mono ?_
  clear m0 m1 m2 m3 m4 m5
  rintro e w1a ⟨U1, rfl, hk, hx⟩
  have HK1 := Lib.hid hk
  have HY1 : Hid (Ext W1 w1a) := Lib.hid hx
  clear hk hx
  go_wp2_with fail
  refine (labels_any C ri U1 _ HK1.out).mono ?_
  rintro e w1 ⟨F, G, er, rfl, hx, hcase⟩
  have HX1 : Hid (Ext W1 w1) := Lib.hid (HY1.out.trans hx)
  clear hx HK1 HY1
  rcases hcase with ⟨_, rfl, rfl, rfl⟩ | ⟨hok, rfl, Ls, Ms_, hF, hG, hLs, hMs⟩
  · go_wp2_with fail
    refine (awake_any _).mono ?_
    rintro e w9 ⟨rfl, hx⟩
    have EF : Hid (Ext W w9) := Lib.hid (HB.out.trans (HX1.out.trans hx)); clear hx
    go_wp2
    go_ret
    exact ⟨rfl, EF.out⟩
  · have hok2 := hok
    rw [Bool.and_eq_true, bw_iff] at hok2
    obtain ⟨hvc, hr1, hr2⟩ := hok2
    have hin := (nwa_ok hvc (r := ri) (by omega) (by omega)).in_
    have HCH : Hid (∀ l, C.en ri Ms_ = C.en ri Ls ∧ C.en ri Ls ≤ C.en ri l ∧ (C.en ri l = C.en ri Ls → ∀ i, i < C.nb → (Ls i = true → l i = true) ∧ (l i = true → Ms_ i = true))) := Lib.hid fun l => cheap hvc hLs hMs hin l
    have HOKE : Hid (okE C ri C.nb = true) := Lib.hid (by unfold okE; rw [hok]; simp)
    have HFG := Lib.hid (And.intro hF hG)
    have HBD : Hid (∀ l, -2000000 ≤ C.en ri l ∧ C.en ri l ≤ 2000000) := Lib.hid fun l => en_bd hvc hr1 hr2 l
    have hnb36 : C.nb ≤ 36 := by
      obtain ⟨⟨q1, q2⟩, ⟨q3, q4⟩, ⟨q5, -⟩, -⟩ := vCl_ok hvc
      have h1 := (side_prod (show 0 ≤ C.w by omega) q2 (show 0 ≤ C.h by omega) q4).2
      omega
    obtain ⟨AF, cF, rfl, -, -, -⟩ := hF
    obtain ⟨AG, cG, rfl, -, -, -⟩ := hG
    clear hok hvc hr1 hr2 hin hLs hMs
    have m0 := keepAt HX1.out mz HM.out.1
    have m1 := keepAt HX1.out mz HM.out.2.1
    have m2 := keepAt HX1.out mz HM.out.2.2.1
    have m3 := keepAt HX1.out mz HM.out.2.2.2.1
    have m4 := keepAt HX1.out mz HM.out.2.2.2.2.1
    have m5 := keepAt HX1.out mz HM.out.2.2.2.2.2
    go_wp2_with fail
    refine (HCL.out _ (HB.out.trans HX1.out)).mono ?_
    clear m0 m1 m2 m3 m4 m5
    rintro e w2a ⟨U2, rfl, hk, hx⟩
    have HK2 := Lib.hid hk
    have HY2 : Hid (Ext W1 w2a ∧ Ext w1 w2a) := Lib.hid ⟨HX1.out.trans hx, hx⟩
    clear hk hx
    go_wp2_with fail
    refine (energyS C ri C.nb Ls U2 _ _ HK2.out (HFG.out.1.ext HY2.out.2)).mono ?_
    rintro e w2 ⟨v2, e2, rfl, hx, h2⟩
    have HX2 : Hid (Ext W1 w2) := Lib.hid (HY2.out.1.trans hx)
    have HZ2 : Hid (Ext w1 w2) := Lib.hid (HY2.out.2.trans hx)
    clear hx
    rcases h2 with ⟨o1, -⟩ | ⟨-, rfl, rfl⟩
    · rw [HOKE.out] at o1; cases o1
    obtain ⟨xL, hxL⟩ : ∃ x, x = C.en ri Ls := ⟨_, rfl⟩
    have hb := HBD.out Ls
    rw [← hxL] at hb ⊢
    obtain ⟨d1, d2⟩ := hb
    have HXL := Lib.hid hxL
    clear hxL
    have m0 := keepAt HX2.out mz HM.out.1
    have m1 := keepAt HX2.out mz HM.out.2.1
    have m2 := keepAt HX2.out mz HM.out.2.2.1
    have m3 := keepAt HX2.out mz HM.out.2.2.2.1
    have m4 := keepAt HX2.out mz HM.out.2.2.2.2.1
    have m5 := keepAt HX2.out mz HM.out.2.2.2.2.2
    go_wp2_with fail
    refine (HCL.out _ (HB.out.trans HX2.out)).mono ?_
    clear m0 m1 m2 m3 m4 m5
    rintro e w3a ⟨U3, rfl, hk, hx⟩
    have HK3 := Lib.hid hk
    have HY3 : Hid (Ext W1 w3a ∧ Ext w1 w3a) := Lib.hid ⟨HX2.out.trans hx, HZ2.out.trans hx⟩
    clear hk hx
    go_wp2_with fail
    refine (energyS C ri C.nb Ms_ U3 _ _ HK3.out (HFG.out.2.ext HY3.out.2)).mono ?_
    rintro e w3 ⟨v3, e3, rfl, hx, h3⟩
    have HX3 : Hid (Ext W1 w3) := Lib.hid (HY3.out.1.trans hx)
    have HZ3 : Hid (Ext w1 w3) := Lib.hid (HY3.out.2.trans hx)
    clear hx
    rcases h3 with ⟨o1, -⟩ | ⟨-, rfl, rfl⟩
    · rw [HOKE.out] at o1; cases o1
    rw [(HCH.out l).1, ← HXL.out]
    have m0 := keepAt HX3.out mz HM.out.1
    have m1 := keepAt HX3.out mz HM.out.2.1
    have m2 := keepAt HX3.out mz HM.out.2.2.1
    have m3 := keepAt HX3.out mz HM.out.2.2.2.1
    have m4 := keepAt HX3.out mz HM.out.2.2.2.2.1
    have m5 := keepAt HX3.out mz HM.out.2.2.2.2.2
    go_wp2_with fail
    refine (HCL.out _ (HB.out.trans HX3.out)).mono ?_
    clear m0 m1 m2 m3 m4 m5
    rintro e w4a ⟨U4, rfl, hk, hx⟩
    have HK4 := Lib.hid hk
    have HY4 : Hid (Ext W1 w4a ∧ Ext w1 w4a) := Lib.hid ⟨HX3.out.trans hx, HZ3.out.trans hx⟩
    clear hk hx
    go_wp2_with fail
    refine (energyS C ri nl_ l U4 _ _ HK4.out (HA.out.ext (HB.out.trans HY4.out.1))).mono ?_
    rintro e w4 ⟨v4, e4, rfl, hx, h4⟩
    have HX4 : Hid (Ext W1 w4) := Lib.hid (HY4.out.1.trans hx)
    have HZ4 : Hid (Ext w1 w4) := Lib.hid (HY4.out.2.trans hx)
    clear hx
    rcases h4 with ⟨_, z1⟩ | ⟨o4, rfl, rfl⟩
    · have z1b : (e4 == 0) = false := by simp; exact z1
      have z1c : (e4 != 0) = true := by simp; exact z1
      go_wp2_with fail
      refine (awake_any _).mono ?_
      rintro e w9 ⟨rfl, hx⟩
      have EF : Hid (Ext W w9) := Lib.hid (HB.out.trans (HX4.out.trans hx)); clear hx
      go_wp2
      go_ret
      exact ⟨rfl, EF.out⟩
    · have hn := (okE_ok o4).2.2
      obtain ⟨-, hle, hbt⟩ := HCH.out l
      rw [← HXL.out] at hle hbt
      have hb := HBD.out l
      obtain ⟨x, hx_⟩ : ∃ x, x = C.en ri l := ⟨_, rfl⟩
      rw [← hx_] at hle hbt hb ⊢
      obtain ⟨d3, d4⟩ := hb
      have HBT := Lib.hid (And.intro hn hbt)
      clear hx_ o4 hbt hn
      by_cases hxe : x = xL
      · subst hxe
        go_wp2_with fail
        refine (between_any C.nb Ls l Ms_ _ _ _ _ (HFG.out.1.ext HZ4.out) (by rw [← HBT.out.1]; exact HA.out.ext (HB.out.trans HX4.out)) (HFG.out.2.ext HZ4.out) (by omega)).mono ?_
        rintro e w5 ⟨b, rfl, hbb, hx⟩
        obtain rfl : b = true := hbb.2 (by first | exact HBT.out.2 rfl | exact HBT.out.2 trivial)
        have HX5 : Hid (Ext W1 w5) := Lib.hid (HX4.out.trans hx)
        clear hx hbb
        go_wp2_with fail
        refine (awake_any _).mono ?_
        rintro e w9 ⟨rfl, hx⟩
        have EF : Hid (Ext W w9) := Lib.hid (HB.out.trans (HX5.out.trans hx)); clear hx
        go_wp2
        go_ret
        exact ⟨rfl, EF.out⟩
      · have hgt : xL < x := by omega
        go_wp2_with fail
        refine (awake_any _).mono ?_
        rintro e w9 ⟨rfl, hx⟩
        have EF : Hid (Ext W w9) := Lib.hid (HB.out.trans (HX4.out.trans hx)); clear hx
        go_wp2
        go_ret
        exact ⟨rfl, EF.out⟩
end Go.Proofs.Ytilcbbdmenknfaa
namespace Go.Proofs.Ytilcbbdmenknfaa
open Go.RowKit

/-- how many cells are waxed -/
def Cl.cnt (c : Cl) (S : Nat → Bool) : Int := sm c.nb fun k => if S k = true then 1 else 0
theorem sm_mul (n : Nat) (d : Int) (f : Nat → Int) : sm n (fun k => d * f k) = d * sm n f := by
  induction n with
  | zero => simp [sm]
  | succ n ih => show sm n (fun k => d * f k) + d * f n = d * (sm n f + f n); rw [ih, Int.mul_add]
theorem en_rise (c : Cl) (r d : Int) (S : Nat → Bool) : c.en (r + d) S = c.en r S + d * c.cnt S := by
  have h : sm c.nb (c.dt (r + d) S) = sm c.nb (c.dt r S) + d * c.cnt S := by
    unfold Cl.cnt
    rw [← sm_mul, ← sm_add]
    refine sm_congr fun k _ => ?_
    unfold Cl.dt
    split <;> omega
  unfold Cl.en
  rw [h]
  omega
/-- the greatest labelling at a greater rise lies inside the least at the smaller one -/
theorem nested {c : Cl} (hc : vCl c = true) {r d : Int} (hd : 0 < d) {L M : Nat → Bool}
    (hL : ∀ S, c.en r L ≤ c.en r S) (hM : ∀ S, c.en (r + d) M ≤ c.en (r + d) S) : ∀ i, i < c.nb → M i = true → L i = true := by
  have h1 := en_sub hc (r + d) L M
  have h2 := hM fun k => L k && M k
  have h3 := hL fun k => L k || M k
  have h4 : c.en (r + d) (fun k => L k || M k) ≤ c.en (r + d) L := by omega
  rw [en_rise, en_rise] at h4
  have h5 : d * (c.cnt (fun k => L k || M k) - c.cnt L) ≤ 0 := by rw [Int.mul_sub]; omega
  have h6 : c.cnt (fun k => L k || M k) - c.cnt L = sm c.nb fun k => if L k = false ∧ M k = true then 1 else 0 := by
    unfold Cl.cnt
    rw [← sm_sub]
    refine sm_congr fun k _ => ?_
    have tt : ∀ a b : Bool, ((if (a || b) = true then (1 : Int) else 0) - if a = true then 1 else 0) = if a = false ∧ b = true then 1 else 0 := by intro a b; cases a <;> cases b <;> simp
    exact tt _ _
  have h7 : 0 ≤ sm c.nb (fun k => if L k = false ∧ M k = true then (1 : Int) else 0) := sm_nonneg fun i _ => by split <;> omega
  have h8 : sm c.nb (fun k => if L k = false ∧ M k = true then (1 : Int) else 0) = 0 := by
    rw [h6] at h5
    have : sm c.nb (fun k => if L k = false ∧ M k = true then (1 : Int) else 0) ≤ 0 := by
      rcases Int.lt_or_le 0 (sm c.nb (fun k => if L k = false ∧ M k = true then (1 : Int) else 0)) with h | h
      · have := Int.mul_pos hd h; omega
      · exact h
    omega
  have h9 := sm_all_zero (n := c.nb) (f := fun k => if L k = false ∧ M k = true then (1 : Int) else 0) (fun i _ => by split <;> omega) h8
  intro i hi hm
  have := h9 i hi
  cases hl : L i
  · rw [if_pos ⟨hl, hm⟩] at this; omega
  · rfl
end Go.Proofs.Ytilcbbdmenknfaa
