/- Walks: the reference's Prices and Check. -/
import Derived.Test.YtlachbodibajlaaDoorM26
import Derived.Test.YtlachbodibajlaaDoorM27
import Derived.Test.YtlachbodibajlaaDoorM24
namespace Go.Proofs.YtlachbodibajlaaDoor
open Go.RowKit Go.Shelf

set_option maxHeartbeats 8000000 in
set_option maxRecDepth 100000 in
theorem PricesR_any (S C B : Value) (n mc m : Nat) (st : Nat → Int) (ln : Nat → Nat) (y : Nat → Nat → Int) (a b : Nat → Int) (W : World) (h : Pv W S C B n mc m st ln y a b) :
    Calls Tryd.prog 37 #[.agg #[S, C, B]] W fun e W' => ∃ U, e = .returned (.tuple #[U, .int .i64 (bestE (okPlan n mc m st ln y a b) (crs n m st y a b))]) ∧ Il W' U (prcN (okPlan n mc m st ln y a b) (crs n m st y a b)) (crs n m st y a b).pz ∧ Ext W W' := by
  obtain ⟨re, hre⟩ : ∃ v, v = bestE (okPlan n mc m st ln y a b) (crs n m st y a b) := ⟨_, rfl⟩
  obtain ⟨rn, hrn⟩ : ∃ v, v = prcN (okPlan n mc m st ln y a b) (crs n m st y a b) := ⟨_, rfl⟩
  rw [← hre, ← hrn]
  have HR0 := Lib.hid (And.intro hre hrn)
  clear hre hrn
  have HV := Lib.hid h
  have HVA := Lib.hid fun X hX => validR_any S C B n mc m st ln y a b X hX
  have HPO := Lib.hid fun X hX hk => possible_any S C B n mc m st ln y a b X hX hk
  have HPS := Lib.hid fun X hX hk hh => pricesR_any S C B n mc m st ln y a b X hX hk hh
  obtain ⟨A, k, rfl, hk1, hk2, -⟩ := id h.vs
  obtain ⟨A2, k2, rfl, hk3, hk4, hrow⟩ := id h.vc
  obtain ⟨A3, k3, rfl, -⟩ := id h.vb
  have HROW := Lib.hid hrow
  have E1 : Hid (Ext W (W.alloc (.cells #[.slice A n k, .slice A2 mc k2, .slice A3 m k3] 48))) := Lib.hid (al1 W _)
  have hbk := heap_alloc_new W (.cells #[.slice A n k, .slice A2 mc k2, .slice A3 m k3] 48)
  clear h hrow HROW
  go_enter Tryd.func37, Tryd.ntmps37
  go_upto_region 1 with fail
  obtain ⟨s1, hs1⟩ : ∃ s, s = W.heap.size := ⟨_, rfl⟩
  rw [← hs1] at hbk ⊢
  generalize W.alloc (.cells #[.slice A n k, .slice A2 mc k2, .slice A3 m k3] 48) = W1 at *
  obtain ⟨c0, c1, c2, z0⟩ := three_c hbk
  have HB := Lib.hid hbk
  clear hbk hs1
  go_wp2_with fail
  refine (HVA.out _ (HV.out.ext E1.out)).mono ?_
  rintro e w2 ⟨rfl, hx⟩
  have HX2 := Lib.hid hx
  clear hx c0 c1 c2 z0
  obtain ⟨c0, c1, c2, z0⟩ := three_c (ext_ty' HX2.out HB.out)
  cases hok : (okPlan n mc m st ln y a b)
  · have HR : Hid (re = 2 ∧ rn = 0) := Lib.hid (by rw [HR0.out.1, HR0.out.2, hok]; exact ⟨rfl, rfl⟩)
    clear hok HR0 c0 c1 c2 z0
    go_wp2
    refine bodyPost_ret (v := .tuple #[.slice none 0 0, .int .i64 2]) (by simp [results, Tryd.results37, go_sem]) rfl ?_
    exact ⟨.slice none 0 0, by rw [HR.out.1], by rw [HR.out.2]; exact il_none _ _, E1.out.trans HX2.out⟩
  have hkp := okPlan_iff.1 hok
  have HPO2 := Lib.hid fun X hX => HPO.out X hX hkp
  have HPS2 := Lib.hid fun X hX hh => HPS.out X hX hkp hh
  obtain ⟨c, hc⟩ : ∃ c, c = (crs n m st y a b) := ⟨_, rfl⟩
  rw [← hc] at HPO2 HPS2
  have HR1 : Hid (re = (if c.has = true then 0 else 7) ∧ rn = if c.has = true then c.sz else 0) := Lib.hid (by rw [HR0.out.1, HR0.out.2, hok, hc]; exact ⟨rfl, rfl⟩)
  have HC9 := Lib.hid hc
  clear hok hkp hc HR0 HPO HPS
  go_wp2_with fail
  refine (HPO2.out _ (HV.out.ext (E1.out.trans HX2.out))).mono ?_
  rintro e w3 ⟨rfl, hx⟩
  have HX3 := Lib.hid (HX2.out.trans hx)
  clear hx c0 c1 c2 z0
  obtain ⟨c0, c1, c2, z0⟩ := three_c (ext_ty' HX3.out HB.out)
  cases hh : c.has
  · have HR : Hid (re = 7 ∧ rn = 0) := Lib.hid (by rw [HR1.out.1, HR1.out.2, hh]; exact ⟨rfl, rfl⟩)
    clear hh c0 c1 c2 z0
    go_wp2
    refine bodyPost_ret (v := .tuple #[.slice none 0 0, .int .i64 7]) (by simp [results, Tryd.results37, go_sem]) rfl ?_
    exact ⟨.slice none 0 0, by rw [HR.out.1], by rw [HR.out.2]; exact il_none _ _, E1.out.trans HX3.out⟩
  have HR : Hid (re = 0 ∧ rn = c.sz) := Lib.hid (by rw [HR1.out.1, HR1.out.2, hh]; exact ⟨rfl, rfl⟩)
  have HH := Lib.hid hh
  clear hh
  go_wp2_with fail
  refine (HPS2.out _ (HV.out.ext (E1.out.trans HX3.out)) HH.out).mono ?_
  rintro e w5 ⟨T, rfl, hT, hx⟩
  have HT := Lib.hid hT
  obtain ⟨TA, tc, rfl, -⟩ := id hT
  have HX5 := Lib.hid (HX3.out.trans hx)
  clear hx hT c0 c1 c2 z0
  go_wp2
  refine bodyPost_ret (v := .tuple #[.slice TA c.sz tc, .int .i64 0]) (by simp [results, Tryd.results37, go_sem]) rfl ?_
  refine ⟨_, by rw [HR.out.1], ?_, E1.out.trans HX5.out⟩
  rw [HR.out.2, ← HC9.out]
  exact HT.out

set_option maxHeartbeats 32000000 in
set_option maxRecDepth 100000 in
theorem CheckR_any (S C B : Value) (n mc m : Nat) (st : Nat → Int) (ln : Nat → Nat) (y : Nat → Nat → Int) (a b : Nat → Int) (T : Value) (q : Nat) (t : Nat → Int) (W : World) (h : Pv W S C B n mc m st ln y a b) (hT : Il W T q t) :
    Calls Tryd.prog 39 #[.agg #[S, C, B], T] W fun e W' => e = .returned (.tuple #[.int .i64 (chkV (okPlan n mc m st ln y a b) (crs n m st y a b) q t), .bool (chkS (okPlan n mc m st ln y a b) (crs n m st y a b) q t), .int .i64 (chkE (okPlan n mc m st ln y a b) (crs n m st y a b) q t)]) ∧ Ext W W' := by
  obtain ⟨re, hre⟩ : ∃ v, v = chkE (okPlan n mc m st ln y a b) (crs n m st y a b) q t := ⟨_, rfl⟩
  obtain ⟨rv, hrv⟩ : ∃ v, v = chkV (okPlan n mc m st ln y a b) (crs n m st y a b) q t := ⟨_, rfl⟩
  obtain ⟨rs, hrs⟩ : ∃ v, v = chkS (okPlan n mc m st ln y a b) (crs n m st y a b) q t := ⟨_, rfl⟩
  unfold chkV at hrv
  unfold chkS at hrs
  rw [← hre] at hrv hrs
  rw [← hre]
  have g1 : chkV (okPlan n mc m st ln y a b) (crs n m st y a b) q t = rv := by unfold chkV; rw [← hre]; exact hrv.symm
  have g2 : chkS (okPlan n mc m st ln y a b) (crs n m st y a b) q t = rs := by unfold chkS; rw [← hre]; exact hrs.symm
  rw [g1, g2]
  have HR0 := Lib.hid (And.intro hre (And.intro hrv hrs))
  clear hre hrv hrs g1 g2
  have HV := Lib.hid h; have HT := Lib.hid hT
  have HVA := Lib.hid fun X hX => validR_any S C B n mc m st ln y a b X hX
  have HPO := Lib.hid fun X hX hk => possible_any S C B n mc m st ln y a b X hX hk
  have HFO := Lib.hid fun s j X hX hk hs hj => follows_any S C B n mc m st ln y a b s j X hX hk hs hj
  obtain ⟨A, k, rfl, hk1, hk2, -⟩ := id h.vs
  obtain ⟨A2, k2, rfl, hk3, hk4, hrow⟩ := id h.vc
  obtain ⟨A3, k3, rfl, -⟩ := id h.vb
  have HROW := Lib.hid hrow
  have E1 : Hid (Ext W (W.alloc (.cells #[.slice A n k, .slice A2 mc k2, .slice A3 m k3] 48))) := Lib.hid (al1 W _)
  have hbk := heap_alloc_new W (.cells #[.slice A n k, .slice A2 mc k2, .slice A3 m k3] 48)
  obtain ⟨TA, tc, rfl, -⟩ := id hT
  clear h hrow hT
  go_enter Tryd.func39, Tryd.ntmps39
  go_upto_region 1 with fail
  obtain ⟨s1, hs1⟩ : ∃ s, s = W.heap.size := ⟨_, rfl⟩
  rw [← hs1] at hbk ⊢
  generalize W.alloc (.cells #[.slice A n k, .slice A2 mc k2, .slice A3 m k3] 48) = W1 at *
  obtain ⟨c0, c1, c2, z0⟩ := three_c hbk
  have HB := Lib.hid hbk
  clear hbk hs1
  go_wp2_with fail
  refine (HVA.out _ (HV.out.ext E1.out)).mono ?_
  rintro e w2 ⟨rfl, hx⟩
  have HX2 := Lib.hid hx
  clear hx c0 c1 c2 z0
  obtain ⟨c0, c1, c2, z0⟩ := three_c (ext_ty' HX2.out HB.out)
  cases hok : (okPlan n mc m st ln y a b)
  · have HR : Hid (re = 2 ∧ rv = 0 ∧ rs = false) := Lib.hid (by
      have h1 : re = 2 := by rw [HR0.out.1, hok]; rfl
      exact ⟨h1, by rw [HR0.out.2.1, h1]; rfl, by rw [HR0.out.2.2, h1]; rfl⟩)
    clear hok HR0 c0 c1 c2 z0
    go_wp2
    refine bodyPost_ret (v := .tuple #[.int .i64 0, .bool false, .int .i64 2]) (by simp [results, Tryd.results39, go_sem]) rfl ?_
    exact ⟨by rw [HR.out.1, HR.out.2.1, HR.out.2.2], E1.out.trans HX2.out⟩
  have hkp := okPlan_iff.1 hok
  have HK := Lib.hid hkp
  have hn10 := hkp.n10; have hn1 := hkp.n1
  have HPO2 := Lib.hid fun X hX => HPO.out X hX hkp
  have HF := Lib.hid fun s j X hX hs hj => HFO.out s j X hX hkp hs hj
  obtain ⟨c, hc⟩ : ∃ c, c = (crs n m st y a b) := ⟨_, rfl⟩
  have hcn : c.n = n := by rw [hc]; rfl
  have hcok : c.ok := by rw [hc]; exact hkp.crs
  have hcch : c.ch = y := by rw [hc]; rfl
  have hcst : c.st = st := by rw [hc]; rfl
  have hcen : ∀ i, c.en i = 0 := by rw [hc]; exact fun _ => rfl
  rw [← hc] at HPO2 HF
  have HR1 : Hid (re = (if q = c.sz then (if btw t (-1099511627776) 1099511627776 q = true then (if c.has = true then 0 else 7) else 2) else 3) ∧ rv = (if re = 0 then (c.chp t 0 0).2 else 0) ∧ rs = (decide (re = 0) && c.isSnd t)) := Lib.hid (by
    have h1 := HR0.out.1; have h2 := HR0.out.2.1; have h3 := HR0.out.2.2
    rw [hok, ← hc] at h1
    rw [← hc] at h2 h3
    exact ⟨h1, h2, h3⟩)
  have HCN := Lib.hid hcn; have HCH := Lib.hid hcch; have HCS := Lib.hid hcst; have HOK := Lib.hid hcok; have HEN := Lib.hid hcen
  obtain ⟨P, hP⟩ : ∃ P, P = 2 ^ n := ⟨_, rfl⟩
  have hPl : P ≤ 1024 := by rw [hP]; exact pow_1024 hn10
  have hP1 : 1 ≤ P := by rw [hP]; exact Nat.one_le_two_pow
  obtain ⟨z, hz⟩ : ∃ z, z = c.sz := ⟨_, rfl⟩
  have hzP : z = n * P := by rw [hz, hP, ← hcn]; rfl
  have hzl : z ≤ 10 * 1024 := by rw [hzP]; exact Nat.mul_le_mul hn10 hPl
  have q1 : (2 : Int) ^ n = (P : Int) := by rw [hP]; simp
  have q2 : IntKind.i64.wrap (P : Int) = (P : Int) := IntWalk.i64_in _ (by omega)
  have q3 : IntKind.i64.wrap ((P : Int) - 1) = (P : Int) - 1 := IntWalk.i64_in _ (by omega)
  have q4 : (n : Int) * (P : Int) = (z : Int) := by rw [hzP]; simp
  have q5 : IntKind.i64.wrap (z : Int) = (z : Int) := IntWalk.i64_in _ (by omega)
  have HZ := Lib.hid hz; have HP := Lib.hid hP
  clear hok hkp hc hcn hcok hcch hcst hcen HR0 HPO HFO hP hz hzP
  by_cases hqz : q = z
  case neg =>
    have hqb : ((q : Int) != (z : Int)) = true := by simp; omega
    have HR : Hid (re = 3 ∧ rv = 0 ∧ rs = false) := Lib.hid (by
      have h1 : re = 3 := by rw [HR1.out.1, if_neg (by rw [← HZ.out]; exact hqz)]
      exact ⟨h1, by rw [HR1.out.2.1, h1]; rfl, by rw [HR1.out.2.2, h1]; rfl⟩)
    clear hqz c0 c1 c2 z0
    go_wp2
    refine bodyPost_ret (v := .tuple #[.int .i64 0, .bool false, .int .i64 3]) (by simp [results, Tryd.results39, go_sem]) rfl ?_
    exact ⟨by rw [HR.out.1, HR.out.2.1, HR.out.2.2], E1.out.trans HX2.out⟩
  have hqb : ((q : Int) != (z : Int)) = false := by simp; omega
  have HQZ : Hid (q = c.sz) := Lib.hid (by rw [← HZ.out]; exact hqz)
  have HR2 : Hid (re = (if btw t (-1099511627776) 1099511627776 q = true then (if c.has = true then 0 else 7) else 2) ∧ rv = (if re = 0 then (c.chp t 0 0).2 else 0) ∧ rs = (decide (re = 0) && c.isSnd t)) := Lib.hid ⟨by have h1 := HR1.out.1; rw [if_pos HQZ.out] at h1; exact h1, HR1.out.2⟩
  have hql : q ≤ 10 * 1024 := by omega
  clear hqz
  go_wp2_with fail
  refine (near_any q t _ _ (HT.out.ext (E1.out.trans HX2.out))).mono ?_
  rintro e w3 ⟨rfl, rfl⟩
  cases hb : btw t (-1099511627776) 1099511627776 q
  · have HR : Hid (re = 2 ∧ rv = 0 ∧ rs = false) := Lib.hid (by
      have h1 : re = 2 := by rw [HR2.out.1, hb]; rfl
      exact ⟨h1, by rw [HR2.out.2.1, h1]; rfl, by rw [HR2.out.2.2, h1]; rfl⟩)
    clear hb c0 c1 c2 z0
    go_wp2
    refine bodyPost_ret (v := .tuple #[.int .i64 0, .bool false, .int .i64 2]) (by simp [results, Tryd.results39, go_sem]) rfl ?_
    exact ⟨by rw [HR.out.1, HR.out.2.1, HR.out.2.2], E1.out.trans HX2.out⟩
  have HBT := Lib.hid (btw_iff.1 hb)
  have HR3 : Hid (re = (if c.has = true then 0 else 7) ∧ rv = (if re = 0 then (c.chp t 0 0).2 else 0) ∧ rs = (decide (re = 0) && c.isSnd t)) := Lib.hid ⟨by have h1 := HR2.out.1; rw [hb] at h1; exact h1, HR2.out.2⟩
  clear hb
  go_wp2_with fail
  refine (HPO2.out _ (HV.out.ext (E1.out.trans HX2.out))).mono ?_
  rintro e w4 ⟨rfl, hx⟩
  have HX4 := Lib.hid (HX2.out.trans hx)
  clear hx c0 c1 c2 z0
  cases hh : c.has
  · have HR : Hid (re = 7 ∧ rv = 0 ∧ rs = false) := Lib.hid (by
      have h1 : re = 7 := by rw [HR3.out.1, hh]; rfl
      exact ⟨h1, by rw [HR3.out.2.1, h1]; rfl, by rw [HR3.out.2.2, h1]; rfl⟩)
    clear hh
    go_wp2
    refine bodyPost_ret (v := .tuple #[.int .i64 0, .bool false, .int .i64 7]) (by simp [results, Tryd.results39, go_sem]) rfl ?_
    exact ⟨by rw [HR.out.1, HR.out.2.1, HR.out.2.2], E1.out.trans HX4.out⟩
  have HR : Hid (re = 0 ∧ rv = (c.chp t 0 0).2 ∧ rs = c.isSnd t) := Lib.hid (by
    have h1 : re = 0 := by rw [HR3.out.1, hh]; rfl
    exact ⟨h1, by rw [HR3.out.2.1, h1]; rfl, by rw [HR3.out.2.2, h1]; rfl⟩)
  have HH := Lib.hid hh
  clear hh
  have hq1 : 0 < q := by rw [HQZ.out]; exact Nat.lt_of_le_of_lt (Nat.zero_le _) (num_lt (c := c) (s := 0) (x := 0) (Nat.two_pow_pos _) HOK.out.n1)
  obtain ⟨tb, tof, rfl, -, -⟩ := Vl.at HT.out (Ext.refl _) hq1
  obtain ⟨sb, so, rfl, -, -⟩ := Vl.at HV.out.vs (Ext.refl _) (show 0 < n by omega)
  obtain ⟨rb, ro, rfl, -, -⟩ := HROW.out (by have := HK.out.mn; omega)
  clear hq1
  go_wp2_with fail
  go_loopw [8, 9, 36, 60, 88] (fun lw sw iv _ _ wz => ∃ (i : Nat) (lv : Int) (sd : Bool), iv = .int .i64 i ∧ i ≤ n ∧ lw = .int .i64 lv ∧ sw = .bool sd ∧ (lv = (List.range i).foldl (c.lsR t 0 0) 2199023255552) ∧ Hid (sd = (List.range i).all fun i => (List.range (2 ^ c.n)).all (c.sr1 t i)) ∧ Hid (Ext W1 wz)) (fun _ _ iv _ _ _ => n - (intOf iv).toNat)
  case atStart => exact ⟨0, 2199023255552, true, rfl, Nat.zero_le _, rfl, rfl, rfl, Lib.hid rfl, HX4⟩
  case round =>
    obtain ⟨i, lv, sd, rfl, hi, rfl, rfl, hlv, HSD, hin⟩ := hrel
    have HLV0 := Lib.hid hlv
    clear hlv
    obtain ⟨c0, c1, c2, z0⟩ := three_c (ext_ty' hin.out HB.out)
    by_cases hin9 : i < n
    · have hstep : (List.range (i + 1)).foldl (c.lsR t 0 0) 2199023255552 = c.lsR t 0 0 lv i := by rw [List.range_succ, List.foldl_append, ← HLV0.out]; rfl
      have HSTL := Lib.hid hstep
      clear hstep
      go_wp2_with fail
      refine (HF.out 0 i _ (HV.out.ext (E1.out.trans hin.out)) (Nat.two_pow_pos _) hin9).mono ?_
      rintro e w8 ⟨rfl, hx⟩
      have hin4 := Lib.hid (hin.out.trans hx)
      replace c0 := hx.at z0 c0
      replace c1 := hx.at z0 c1
      replace c2 := hx.at z0 c2
      replace z0 := Nat.lt_of_lt_of_le z0 hx.size
      clear hx
      cases hcan : c.can 0 i
      · have hg : c.lsR t 0 0 lv i = lv := by unfold Crs.lsR; rw [hcan]; rfl
        obtain ⟨mv, hmv⟩ : ∃ v, v = lv := ⟨_, rfl⟩
        subst hmv
        have HLV : Hid (mv = (List.range (i + 1)).foldl (c.lsR t 0 0) 2199023255552) := Lib.hid (by rw [HSTL.out, hg])
        have hin5 := hin4
        clear hg hcan c0 c1 c2 z0 hin hin4
        go_wp2_with fail
        go_loopw [9, 60, 88] (fun sw sv _ wz => ∃ (s : Nat) (se : Bool), sv = .int .i64 s ∧ s ≤ P ∧ sw = .bool se ∧ Hid (se = (sd && (List.range s).all (c.sr1 t i))) ∧ Hid (Ext W1 wz)) (fun _ sv _ _ => P - (intOf sv).toNat)
        case atStart => exact ⟨0, sd, rfl, Nat.zero_le _, rfl, Lib.hid (by simp), hin5⟩
        case round =>
          clear hin5
          obtain ⟨s, se, rfl, hs, rfl, hse, hin2⟩ := hrel
          by_cases hsP : s < P
          · have hs10 : s < 1024 := by omega
            have HSN : Hid (s < 2 ^ n) := Lib.hid (by rw [← HP.out]; exact hsP)
            have hi10 : i < 10 := by omega
            have y7 := and1_nat (l := i) hs10
            have hstep := range_all_succ (c.sr1 t i) s
            have HST9 := Lib.hid hstep
            clear hstep
            cases hb : s.testBit i
            · rw [hb] at y7
              simp only [Bool.false_eq_true, if_false] at y7
              have hg : c.sr1 t i s = true := by unfold Crs.sr1; rw [hb]; rfl
              have HNX : Hid (se = (sd && (List.range (s + 1)).all (c.sr1 t i))) := Lib.hid (by rw [HST9.out, hg, hse.out, Bool.and_true])
              clear hb hg
              go_wp2
              go_roundw
              case rel => exact ⟨s + 1, se, by go_num, by omega, rfl, HNX, hin2⟩
              case measure => simp [intOf] <;> omega
            · rw [hb] at y7
              simp only [if_true] at y7
              have hg : c.sr1 t i s = (decide (s ≠ c.all ∨ t (c.n * s + i) ≤ 0) && (List.range c.n).all (c.sr2 t i s)) := by unfold Crs.sr1; rw [hb]; rfl
              rw [HCN.out] at hg
              obtain ⟨ns, hns⟩ : ∃ a : Nat, a = n * s := ⟨_, rfl⟩
              have hnsl : ns ≤ 10 * 1024 := by rw [hns]; exact Nat.mul_le_mul hn10 (by omega)
              obtain ⟨num, hnum⟩ : ∃ a : Nat, a = ns + i := ⟨_, rfl⟩
              have HNUM : Hid (num = n * s + i) := Lib.hid (by rw [hnum, hns])
              have hnz : num < q := by rw [HNUM.out, HQZ.out, ← HCN.out]; exact num_lt (by rw [HCN.out]; exact HSN.out) (by rw [HCN.out]; exact hin9)
              have y5 : IntKind.i64.wrap ((n : Int) * (s : Int)) = (ns : Int) := by rw [show (n : Int) * (s : Int) = (ns : Int) by rw [hns]; simp]; exact IntWalk.i64_in _ (by omega)
              have y6 : IntKind.i64.wrap ((ns : Int) + (i : Int)) = (num : Int) := by rw [show (ns : Int) + (i : Int) = (num : Int) by rw [hnum]; simp]; exact IntWalk.i64_in _ (by omega)
              have HM := Lib.hid (And.intro y5 y6)
              obtain ⟨tv1, htv1⟩ : ∃ v, v = t num := ⟨_, rfl⟩
              have HTV := Lib.hid htv1
              rw [← HNUM.out, ← htv1] at hg
              obtain ⟨tb', tof', e9, tz9, tG9⟩ := Vl.at HT.out (E1.out.trans hin2.out) hnz
              cases e9
              try dsimp only at tG9
              rw [← htv1] at tG9
              have HG9 := Lib.hid hg
              have hall9 : c.all = P - 1 := by unfold Crs.all; rw [HCN.out, ← HP.out]
              have HAL := Lib.hid hall9
              clear hb hg hns hnum hnsl htv1 hall9
              obtain ⟨sd1, hsd1⟩ : ∃ v, v = (se && decide (s ≠ c.all ∨ tv1 ≤ 0)) := ⟨_, rfl⟩
              have HSD1 := Lib.hid hsd1
              have HEND : Hid ((sd1 && (List.range n).all (c.sr2 t i s)) = (sd && (List.range (s + 1)).all (c.sr1 t i))) := Lib.hid (by
                rw [HST9.out, ← Bool.and_assoc, ← hse.out, HG9.out, hsd1, Bool.and_assoc])
              clear hsd1
              go_upto_region 20 with fail
              go_cut [9] (fun sw wx => sw = .bool sd1 ∧ wx = wr)
              case first =>
                cases se
                · have h9 : sd1 = false := by rw [HSD1.out]; rfl
                  subst h9
                  go_wp2_with fail
                  go_meet
                  exact ⟨rfl, rfl⟩
                · by_cases hsa : s = P - 1
                  · have hsa2 : ((s : Int) != (P : Int) - 1) = false := by simp; omega
                    by_cases htn9 : tv1 ≤ 0
                    · have h9 : sd1 = true := by rw [HSD1.out, decide_eq_true (Or.inr htn9)]; rfl
                      subst h9
                      clear hsa
                      go_wp2_with fail
                      go_meet
                      exact ⟨rfl, rfl⟩
                    · have h9 : sd1 = false := by rw [HSD1.out, decide_eq_false (fun h => h.elim (fun h => h (by rw [HAL.out]; exact hsa)) htn9)]; rfl
                      subst h9
                      clear hsa
                      go_wp2_with fail
                      go_meet
                      exact ⟨rfl, rfl⟩
                  · have hsa2 : ((s : Int) != (P : Int) - 1) = true := by simp; omega
                    have h9 : sd1 = true := by rw [HSD1.out, decide_eq_true (Or.inl (by rw [HAL.out]; exact hsa))]; rfl
                    subst h9
                    clear hsa
                    go_wp2_with fail
                    go_meet
                    exact ⟨rfl, rfl⟩
              case rest =>
                obtain ⟨rfl, rfl⟩ := hcut
                clear tz9 tG9 y5 y6 y7
                go_wp2_with fail
                go_loopw [9, 88] (fun sw jv wz => ∃ (j : Nat) (sj : Bool), jv = .int .i64 j ∧ j ≤ n ∧ sw = .bool sj ∧ Hid (sj = (sd1 && (List.range j).all (c.sr2 t i s))) ∧ Hid (Ext W1 wz)) (fun _ jv _ => n - (intOf jv).toNat)
                case atStart => exact ⟨0, sd1, rfl, Nat.zero_le _, rfl, Lib.hid (by simp), hin2⟩
                case round =>
                  obtain ⟨j, sj, rfl, hj, rfl, hsj, hin3⟩ := hrel
                  obtain ⟨c0, c1, c2, z0⟩ := three_c (ext_ty' hin3.out HB.out)
                  by_cases hjn : j < n
                  · have hstep := range_all_succ (c.sr2 t i s) j
                    have HST := Lib.hid hstep
                    clear hstep
                    cases hcan : c.can s j
                    · have hg : c.sr2 t i s j = true := by unfold Crs.sr2; rw [hcan]; rfl
                      have HNX : Hid (sj = (sd1 && (List.range (j + 1)).all (c.sr2 t i s))) := Lib.hid (by rw [HST.out, hg, hsj.out]; simp)
                      have HCAN := Lib.hid hcan
                      clear hg hcan
                      go_upto_region 24 with fail
                      refine wp_region_noPanic ?_
                      refine wp_region_held_drew (S := fun X => Ext wr X) (by kernel_rfl) (Ext.drw (Ext.refl _)) (fun _ => ?_)
                      refine take_at 0 (some 91) (.agg #[.slice (some ⟨sb, so, none⟩) n k, .slice (some ⟨rb, ro, none⟩) mc k2, .slice A3 m k3]) rfl rfl (by kernel_rfl) (by kernel_rfl) (by kernel_rfl) (fun _ _ _ h => h) (Or.inl ⟨by rfl, fun w' hSw => ?_⟩) (Ext.drw (Ext.refl _)) ?_
                      · have m0 := keepAt hSw z0 c0; have m1 := keepAt hSw z0 c1; have m2 := keepAt hSw z0 c2; try clear hSw; go_simp; all_goals (with_reducible rfl)
                      try simp only [Act.put, List.setIfInBounds_toArray, List.set_cons_zero, List.set_cons_succ]
                      refine take_at 1 (some 92) (.int .i64 (s : Nat)) rfl rfl (by kernel_rfl) (by kernel_rfl) (by kernel_rfl) (fun _ _ _ h => h) (Or.inl ⟨by rfl, fun w' hSw => ?_⟩) (Ext.drw (Ext.refl _)) ?_
                      · try clear hSw; go_simp; all_goals (with_reducible rfl)
                      try simp only [Act.put, List.setIfInBounds_toArray, List.set_cons_zero, List.set_cons_succ]
                      refine take_at 2 (some 93) (.int .i64 (j : Nat)) rfl rfl (by kernel_rfl) (by kernel_rfl) (by kernel_rfl) (fun _ _ _ h => h) (Or.inl ⟨by rfl, fun w' hSw => ?_⟩) (Ext.drw (Ext.refl _)) ?_
                      · try clear hSw; go_simp; all_goals (with_reducible rfl)
                      try simp only [Act.put, List.setIfInBounds_toArray, List.set_cons_zero, List.set_cons_succ]
                      refine wpAnyH_ready (rs := [3]) (by kernel_rfl) (by simp) ?_
                      refine AllReadyH.cons rfl (fun K hK => ?_) AllReadyH.nil
                      go_simp
                      refine (HF.out s j _ (HV.out.ext (E1.out.trans (hin3.out.trans (Ext.drw (Ext.refl _))))) HSN.out hjn).mono ?_
                      rintro e v3 ⟨rfl, hb3⟩
                      have e3 : Ext wr v3 := (Ext.drw (Ext.refl _)).trans hb3
                      try go_wp2_with fail
                      refine hK.out _ _ e3 (fun _ => ?_)
                      clear hK K
                      try simp only [Act.put, List.setIfInBounds_toArray, List.set_cons_zero, List.set_cons_succ]
                      refine take_at 4 (some 95) (.bool false) rfl rfl (by kernel_rfl) (by kernel_rfl) (by kernel_rfl) (fun _ _ _ h => h) (Or.inl ⟨by rfl, fun w' hSw => ?_⟩) (e3) ?_
                      · have y := HCAN.out; try clear hSw; go_simp; all_goals (with_reducible rfl)
                      try simp only [Act.put, List.setIfInBounds_toArray, List.set_cons_zero, List.set_cons_succ]
                      refine take_at 5 (some 96) undef rfl rfl (by kernel_rfl) (by kernel_rfl) (by kernel_rfl) (fun _ _ _ h => h) (Or.inr ⟨by rfl, rfl⟩) (e3) ?_
                      try simp only [Act.put, List.setIfInBounds_toArray, List.set_cons_zero, List.set_cons_succ]
                      refine take_at 6 (some 97) undef rfl rfl (by kernel_rfl) (by kernel_rfl) (by kernel_rfl) (fun _ _ _ h => h) (Or.inr ⟨by rfl, rfl⟩) (e3) ?_
                      try simp only [Act.put, List.setIfInBounds_toArray, List.set_cons_zero, List.set_cons_succ]
                      refine take_at 7 (some 98) undef rfl rfl (by kernel_rfl) (by kernel_rfl) (by kernel_rfl) (fun _ _ _ h => h) (Or.inr ⟨by rfl, rfl⟩) (e3) ?_
                      try simp only [Act.put, List.setIfInBounds_toArray, List.set_cons_zero, List.set_cons_succ]
                      refine take_at 8 (some 99) undef rfl rfl (by kernel_rfl) (by kernel_rfl) (by kernel_rfl) (fun _ _ _ h => h) (Or.inr ⟨by rfl, rfl⟩) (e3) ?_
                      try simp only [Act.put, List.setIfInBounds_toArray, List.set_cons_zero, List.set_cons_succ]
                      refine take_at 9 (some 100) undef rfl rfl (by kernel_rfl) (by kernel_rfl) (by kernel_rfl) (fun _ _ _ h => h) (Or.inr ⟨by rfl, rfl⟩) (e3) ?_
                      try simp only [Act.put, List.setIfInBounds_toArray, List.set_cons_zero, List.set_cons_succ]
                      refine take_at 10 (some 101) undef rfl rfl (by kernel_rfl) (by kernel_rfl) (by kernel_rfl) (fun _ _ _ h => h) (Or.inr ⟨by rfl, rfl⟩) (e3) ?_
                      try simp only [Act.put, List.setIfInBounds_toArray, List.set_cons_zero, List.set_cons_succ]
                      refine take_at 11 (some 102) undef rfl rfl (by kernel_rfl) (by kernel_rfl) (by kernel_rfl) (fun _ _ _ h => h) (Or.inr ⟨by rfl, rfl⟩) (e3) ?_
                      try simp only [Act.put, List.setIfInBounds_toArray, List.set_cons_zero, List.set_cons_succ]
                      refine take_at 12 (some 103) undef rfl rfl (by kernel_rfl) (by kernel_rfl) (by kernel_rfl) (fun _ _ _ h => h) (Or.inr ⟨by rfl, rfl⟩) (e3) ?_
                      try simp only [Act.put, List.setIfInBounds_toArray, List.set_cons_zero, List.set_cons_succ]
                      refine take_at 13 (some 104) undef rfl rfl (by kernel_rfl) (by kernel_rfl) (by kernel_rfl) (fun _ _ _ h => h) (Or.inr ⟨by rfl, rfl⟩) (e3) ?_
                      try simp only [Act.put, List.setIfInBounds_toArray, List.set_cons_zero, List.set_cons_succ]
                      refine take_at 14 (some 105) undef rfl rfl (by kernel_rfl) (by kernel_rfl) (by kernel_rfl) (fun _ _ _ h => h) (Or.inr ⟨by rfl, rfl⟩) (e3) ?_
                      try simp only [Act.put, List.setIfInBounds_toArray, List.set_cons_zero, List.set_cons_succ]
                      refine take_at 15 (some 106) undef rfl rfl (by kernel_rfl) (by kernel_rfl) (by kernel_rfl) (fun _ _ _ h => h) (Or.inr ⟨by rfl, rfl⟩) (e3) ?_
                      try simp only [Act.put, List.setIfInBounds_toArray, List.set_cons_zero, List.set_cons_succ]
                      refine take_at 16 (some 107) undef rfl rfl (by kernel_rfl) (by kernel_rfl) (by kernel_rfl) (fun _ _ _ h => h) (Or.inr ⟨by rfl, rfl⟩) (e3) ?_
                      try simp only [Act.put, List.setIfInBounds_toArray, List.set_cons_zero, List.set_cons_succ]
                      refine take_at 17 (some 108) undef rfl rfl (by kernel_rfl) (by kernel_rfl) (by kernel_rfl) (fun _ _ _ h => h) (Or.inr ⟨by rfl, rfl⟩) (e3) ?_
                      try simp only [Act.put, List.setIfInBounds_toArray, List.set_cons_zero, List.set_cons_succ]
                      refine take_at 18 (some 109) undef rfl rfl (by kernel_rfl) (by kernel_rfl) (by kernel_rfl) (fun _ _ _ h => h) (Or.inr ⟨by rfl, rfl⟩) (e3) ?_
                      try simp only [Act.put, List.setIfInBounds_toArray, List.set_cons_zero, List.set_cons_succ]
                      refine take_at 19 (some 110) undef rfl rfl (by kernel_rfl) (by kernel_rfl) (by kernel_rfl) (fun _ _ _ h => h) (Or.inr ⟨by rfl, rfl⟩) (e3) ?_
                      try simp only [Act.put, List.setIfInBounds_toArray, List.set_cons_zero, List.set_cons_succ]
                      refine take_at 20 (some 111) undef rfl rfl (by kernel_rfl) (by kernel_rfl) (by kernel_rfl) (fun _ _ _ h => h) (Or.inr ⟨by rfl, rfl⟩) (e3) ?_
                      try simp only [Act.put, List.setIfInBounds_toArray, List.set_cons_zero, List.set_cons_succ]
                      refine take_at 21 (some 112) undef rfl rfl (by kernel_rfl) (by kernel_rfl) (by kernel_rfl) (fun _ _ _ h => h) (Or.inr ⟨by rfl, rfl⟩) (e3) ?_
                      try simp only [Act.put, List.setIfInBounds_toArray, List.set_cons_zero, List.set_cons_succ]
                      refine take_at 22 (some 113) undef rfl rfl (by kernel_rfl) (by kernel_rfl) (by kernel_rfl) (fun _ _ _ h => h) (Or.inr ⟨by rfl, rfl⟩) (e3) ?_
                      try simp only [Act.put, List.setIfInBounds_toArray, List.set_cons_zero, List.set_cons_succ]
                      refine take_at 23 (some 114) undef rfl rfl (by kernel_rfl) (by kernel_rfl) (by kernel_rfl) (fun _ _ _ h => h) (Or.inr ⟨by rfl, rfl⟩) (e3) ?_
                      try simp only [Act.put, List.setIfInBounds_toArray, List.set_cons_zero, List.set_cons_succ]
                      refine take_at 24 (some 115) undef rfl rfl (by kernel_rfl) (by kernel_rfl) (by kernel_rfl) (fun _ _ _ h => h) (Or.inr ⟨by rfl, rfl⟩) (e3) ?_
                      try simp only [Act.put, List.setIfInBounds_toArray, List.set_cons_zero, List.set_cons_succ]
                      refine take_at 25 (some 116) undef rfl rfl (by kernel_rfl) (by kernel_rfl) (by kernel_rfl) (fun _ _ _ h => h) (Or.inr ⟨by rfl, rfl⟩) (e3) ?_
                      try simp only [Act.put, List.setIfInBounds_toArray, List.set_cons_zero, List.set_cons_succ]
                      refine take_at 26 (some 117) undef rfl rfl (by kernel_rfl) (by kernel_rfl) (by kernel_rfl) (fun _ _ _ h => h) (Or.inr ⟨by rfl, rfl⟩) (e3) ?_
                      try simp only [Act.put, List.setIfInBounds_toArray, List.set_cons_zero, List.set_cons_succ]
                      refine take_at 27 (some 118) undef rfl rfl (by kernel_rfl) (by kernel_rfl) (by kernel_rfl) (fun _ _ _ h => h) (Or.inr ⟨by rfl, rfl⟩) (e3) ?_
                      try simp only [Act.put, List.setIfInBounds_toArray, List.set_cons_zero, List.set_cons_succ]
                      refine take_at 28 (some 119) undef rfl rfl (by kernel_rfl) (by kernel_rfl) (by kernel_rfl) (fun _ _ _ h => h) (Or.inr ⟨by rfl, rfl⟩) (e3) ?_
                      try simp only [Act.put, List.setIfInBounds_toArray, List.set_cons_zero, List.set_cons_succ]
                      refine take_at 29 (some 120) undef rfl rfl (by kernel_rfl) (by kernel_rfl) (by kernel_rfl) (fun _ _ _ h => h) (Or.inr ⟨by rfl, rfl⟩) (e3) ?_
                      try simp only [Act.put, List.setIfInBounds_toArray, List.set_cons_zero, List.set_cons_succ]
                      refine take_at 30 (some 121) undef rfl rfl (by kernel_rfl) (by kernel_rfl) (by kernel_rfl) (fun _ _ _ h => h) (Or.inr ⟨by rfl, rfl⟩) (e3) ?_
                      try simp only [Act.put, List.setIfInBounds_toArray, List.set_cons_zero, List.set_cons_succ]
                      refine take_at 31 (some 122) undef rfl rfl (by kernel_rfl) (by kernel_rfl) (by kernel_rfl) (fun _ _ _ h => h) (Or.inr ⟨by rfl, rfl⟩) (e3) ?_
                      try simp only [Act.put, List.setIfInBounds_toArray, List.set_cons_zero, List.set_cons_succ]
                      refine take_at 32 (some 123) undef rfl rfl (by kernel_rfl) (by kernel_rfl) (by kernel_rfl) (fun _ _ _ h => h) (Or.inr ⟨by rfl, rfl⟩) (e3) ?_
                      try simp only [Act.put, List.setIfInBounds_toArray, List.set_cons_zero, List.set_cons_succ]
                      refine take_at 33 (some 124) undef rfl rfl (by kernel_rfl) (by kernel_rfl) (by kernel_rfl) (fun _ _ _ h => h) (Or.inr ⟨by rfl, rfl⟩) (e3) ?_
                      try simp only [Act.put, List.setIfInBounds_toArray, List.set_cons_zero, List.set_cons_succ]
                      refine take_at 34 (some 125) (.bool false) rfl rfl (by kernel_rfl) (by kernel_rfl) (by kernel_rfl) (fun _ _ _ h => h) (Or.inl ⟨by rfl, fun w' hSw => ?_⟩) (e3) ?_
                      · try clear hSw; go_simp; all_goals (with_reducible rfl)
                      try simp only [Act.put, List.setIfInBounds_toArray, List.set_cons_zero, List.set_cons_succ]
                      refine wpAnyH_done (by kernel_rfl) ?_ _
                      refine NoPanic.normal ?_
                      have hin4 : Hid (Ext W1 v3) := Lib.hid (hin3.out.trans e3)
                      clear hb3 e3
                      clear c0 c1 c2 z0
                      go_wp2
                      go_roundw
                      case rel => exact ⟨j + 1, sj, by go_num, by omega, rfl, HNX, hin4⟩
                      case measure => simp [intOf] <;> omega
                    · have HCAN := Lib.hid hcan
                      have hEX := E1.out.trans hin3.out
                      obtain ⟨rb', ro', e9, zb, hrr⟩ := HROW.out (by have := HK.out.mn; omega)
                      cases e9
                      have himc : i < mc := by have := HK.out.mn; omega
                      obtain ⟨R, hR, hRl⟩ := hrr i himc
                      have hln := HK.out.ln i hin9
                      rw [hln] at hRl
                      obtain ⟨RA, rc, rfl, hr1, hr2, -⟩ := id hRl
                      obtain ⟨qb, qo, rfl, zq, hQ⟩ := Vl.at hRl hEX hjn
                      try dsimp only at hQ
                      replace hR := hEX.at zb hR
                      replace zb := Nat.lt_of_lt_of_le zb hEX.size
                      have hj10 : j < 10 := by omega
                      obtain ⟨px, hpx⟩ : ∃ a : Nat, a = 2 ^ j := ⟨_, rfl⟩
                      obtain ⟨sx, hsx⟩ : ∃ a : Nat, a = s ||| 2 ^ j := ⟨_, rfl⟩
                      have hpl : px < 1024 := by rw [hpx]; exact Nat.lt_of_lt_of_le (Nat.pow_lt_pow_right (by omega) hjn) (pow_1024 hn10)
                      have hsxl : sx < 2 ^ c.n := by rw [hsx]; exact or_lt (by rw [HCN.out]; exact HSN.out) (by rw [HCN.out]; exact hjn)
                      have hsx10 : sx < 1024 := Nat.lt_of_lt_of_le hsxl (by rw [HCN.out]; exact pow_1024 hn10)
                      obtain ⟨nsx, hnsx⟩ : ∃ a : Nat, a = n * sx := ⟨_, rfl⟩
                      have hnsxl : nsx ≤ 10 * 1024 := by rw [hnsx]; exact Nat.mul_le_mul hn10 (by omega)
                      obtain ⟨num2, hnum2⟩ : ∃ a : Nat, a = nsx + j := ⟨_, rfl⟩
                      have hz2 : num2 < q := by
                        rw [hnum2, hnsx, HQZ.out, ← HCN.out]; exact num_lt hsxl (by rw [HCN.out]; exact hjn)
                      obtain ⟨tb', tof', e9, tz2, tG2⟩ := Vl.at HT.out hEX hz2
                      cases e9
                      obtain ⟨tb', tof', e9, tz1, tG1⟩ := Vl.at HT.out hEX hnz
                      cases e9
                      try dsimp only at tG2
                      try dsimp only at tG1
                      have hbt2 := HBT.out num2 hz2
                      obtain ⟨chv, hchv⟩ : ∃ v, v = y i j := ⟨_, rfl⟩
                      rw [← hchv] at hQ
                      obtain ⟨tv2, htv2⟩ : ∃ v, v = t num2 := ⟨_, rfl⟩
                      rw [← htv2] at tG2 hbt2
                      rw [← HTV.out] at tG1
                      obtain ⟨sv, hsv⟩ : ∃ v, v = chv + tv2 := ⟨_, rfl⟩
                      have hb2 := HK.out.ch i j hin9 hjn
                      rw [← hchv] at hb2
                      have y1 : (2 : Int) ^ j = (px : Int) := by rw [hpx]; simp
                      have y2 : bits .or .i64 (s : Int) (px : Int) = (sx : Int) := by rw [or_nat hs10 hpl, hsx, hpx]
                      have y4 : IntKind.i64.wrap (px : Int) = (px : Int) := IntWalk.i64_in _ (by omega)
                      have y5 : IntKind.i64.wrap ((n : Int) * (sx : Int)) = (nsx : Int) := by rw [show (n : Int) * (sx : Int) = (nsx : Int) by rw [hnsx]; simp]; exact IntWalk.i64_in _ (by omega)
                      have y6 : IntKind.i64.wrap ((nsx : Int) + (j : Int)) = (num2 : Int) := by rw [show (nsx : Int) + (j : Int) = (num2 : Int) by rw [hnum2]; simp]; exact IntWalk.i64_in _ (by omega)
                      have y7 : IntKind.i64.wrap (chv + tv2) = sv := by rw [hsv]; exact IntWalk.i64_in _ (by omega)
                      have HN := Lib.hid (And.intro y1 (And.intro y4 (And.intro y2 (And.intro y5 (And.intro y6 y7)))))
                      obtain ⟨be, hbe⟩ : ∃ be, be = decide (sv < tv1) := ⟨_, rfl⟩
                      have HBE := Lib.hid hbe.symm
                      have hg : c.sr2 t i s j = !be := by
                        unfold Crs.sr2
                        rw [hcan, hbe, hsv, hchv, htv2, hnum2, hnsx, hsx, HTV.out, HNUM.out, HCN.out, HCH.out, Bool.true_and]
                      have HNX : Hid ((sj && !be) = (sd1 && (List.range (j + 1)).all (c.sr2 t i s))) := Lib.hid (by rw [HST.out, hg, hsj.out, Bool.and_assoc])
                      clear hg hcan hpx hsx hpl hsxl hsx10 hnsx hnsxl hnum2 hchv htv2 hsv hb2 hbt2 y1 y2 y4 y5 y6 y7 hrr hRl hEX hln hr1 hr2 hbe
                      go_upto_region 24 with fail
                      refine wp_region_noPanic ?_
                      refine wp_region_held_drew (S := fun X => Ext wr X) (by kernel_rfl) (Ext.drw (Ext.refl _)) (fun _ => ?_)
                      refine take_at 0 (some 91) (.agg #[.slice (some ⟨sb, so, none⟩) n k, .slice (some ⟨rb, ro, none⟩) mc k2, .slice A3 m k3]) rfl rfl (by kernel_rfl) (by kernel_rfl) (by kernel_rfl) (fun _ _ _ h => h) (Or.inl ⟨by rfl, fun w' hSw => ?_⟩) (Ext.drw (Ext.refl _)) ?_
                      · have m0 := keepAt hSw z0 c0; have m1 := keepAt hSw z0 c1; have m2 := keepAt hSw z0 c2; try clear hSw; go_simp; all_goals (with_reducible rfl)
                      try simp only [Act.put, List.setIfInBounds_toArray, List.set_cons_zero, List.set_cons_succ]
                      refine take_at 1 (some 92) (.int .i64 (s : Nat)) rfl rfl (by kernel_rfl) (by kernel_rfl) (by kernel_rfl) (fun _ _ _ h => h) (Or.inl ⟨by rfl, fun w' hSw => ?_⟩) (Ext.drw (Ext.refl _)) ?_
                      · try clear hSw; go_simp; all_goals (with_reducible rfl)
                      try simp only [Act.put, List.setIfInBounds_toArray, List.set_cons_zero, List.set_cons_succ]
                      refine take_at 2 (some 93) (.int .i64 (j : Nat)) rfl rfl (by kernel_rfl) (by kernel_rfl) (by kernel_rfl) (fun _ _ _ h => h) (Or.inl ⟨by rfl, fun w' hSw => ?_⟩) (Ext.drw (Ext.refl _)) ?_
                      · try clear hSw; go_simp; all_goals (with_reducible rfl)
                      try simp only [Act.put, List.setIfInBounds_toArray, List.set_cons_zero, List.set_cons_succ]
                      refine wpAnyH_ready (rs := [3]) (by kernel_rfl) (by simp) ?_
                      refine AllReadyH.cons rfl (fun K hK => ?_) AllReadyH.nil
                      go_simp
                      refine (HF.out s j _ (HV.out.ext (E1.out.trans (hin3.out.trans (Ext.drw (Ext.refl _))))) HSN.out hjn).mono ?_
                      rintro e v3 ⟨rfl, hb3⟩
                      have e3 : Ext wr v3 := (Ext.drw (Ext.refl _)).trans hb3
                      try go_wp2_with fail
                      refine hK.out _ _ e3 (fun _ => ?_)
                      clear hK K
                      try simp only [Act.put, List.setIfInBounds_toArray, List.set_cons_zero, List.set_cons_succ]
                      refine take_at 4 (some 95) (.bool true) rfl rfl (by kernel_rfl) (by kernel_rfl) (by kernel_rfl) (fun _ _ _ h => h) (Or.inl ⟨by rfl, fun w' hSw => ?_⟩) (e3) ?_
                      · have y := HCAN.out; try clear hSw; go_simp; all_goals (with_reducible rfl)
                      try simp only [Act.put, List.setIfInBounds_toArray, List.set_cons_zero, List.set_cons_succ]
                      refine take_at 5 (some 96) (.slice (some ⟨tb, tof, none⟩) q tc) rfl rfl (by kernel_rfl) (by kernel_rfl) (by kernel_rfl) (fun _ _ _ h => h) (Or.inl ⟨by rfl, fun w' hSw => ?_⟩) (e3) ?_
                      · try clear hSw; go_simp; all_goals (with_reducible rfl)
                      try simp only [Act.put, List.setIfInBounds_toArray, List.set_cons_zero, List.set_cons_succ]
                      refine take_at 6 (some 97) (.int .i64 (n : Nat)) rfl rfl (by kernel_rfl) (by kernel_rfl) (by kernel_rfl) (fun _ _ _ h => h) (Or.inl ⟨by rfl, fun w' hSw => ?_⟩) (e3) ?_
                      · try clear hSw; go_simp; all_goals (with_reducible rfl)
                      try simp only [Act.put, List.setIfInBounds_toArray, List.set_cons_zero, List.set_cons_succ]
                      refine take_at 7 (some 98) (.int .i64 (s : Nat)) rfl rfl (by kernel_rfl) (by kernel_rfl) (by kernel_rfl) (fun _ _ _ h => h) (Or.inl ⟨by rfl, fun w' hSw => ?_⟩) (e3) ?_
                      · try clear hSw; go_simp; all_goals (with_reducible rfl)
                      try simp only [Act.put, List.setIfInBounds_toArray, List.set_cons_zero, List.set_cons_succ]
                      refine take_at 8 (some 99) (.int .i64 (ns : Nat)) rfl rfl (by kernel_rfl) (by kernel_rfl) (by kernel_rfl) (fun _ _ _ h => h) (Or.inl ⟨by rfl, fun w' hSw => ?_⟩) (e3) ?_
                      · have y := HM.out.1; try clear hSw; go_simp; all_goals (with_reducible rfl)
                      try simp only [Act.put, List.setIfInBounds_toArray, List.set_cons_zero, List.set_cons_succ]
                      refine take_at 9 (some 100) (.int .i64 (i : Nat)) rfl rfl (by kernel_rfl) (by kernel_rfl) (by kernel_rfl) (fun _ _ _ h => h) (Or.inl ⟨by rfl, fun w' hSw => ?_⟩) (e3) ?_
                      · try clear hSw; go_simp; all_goals (with_reducible rfl)
                      try simp only [Act.put, List.setIfInBounds_toArray, List.set_cons_zero, List.set_cons_succ]
                      refine take_at 10 (some 101) (.int .i64 (num : Nat)) rfl rfl (by kernel_rfl) (by kernel_rfl) (by kernel_rfl) (fun _ _ _ h => h) (Or.inl ⟨by rfl, fun w' hSw => ?_⟩) (e3) ?_
                      · have y := HM.out.2; try clear hSw; go_simp; all_goals (with_reducible rfl)
                      try simp only [Act.put, List.setIfInBounds_toArray, List.set_cons_zero, List.set_cons_succ]
                      refine take_at 11 (some 102) (.pointer (some ⟨tb, tof + num, none⟩)) rfl rfl (by kernel_rfl) (by kernel_rfl) (by kernel_rfl) (fun _ _ _ h => h) (Or.inl ⟨by rfl, fun w' hSw => ?_⟩) (e3) ?_
                      · try clear hSw; go_simp; all_goals (with_reducible rfl)
                      try simp only [Act.put, List.setIfInBounds_toArray, List.set_cons_zero, List.set_cons_succ]
                      refine take_at 12 (some 103) (.int .i64 tv1) rfl rfl (by kernel_rfl) (by kernel_rfl) (by kernel_rfl) (fun _ _ _ h => h) (Or.inl ⟨by rfl, fun w' hSw => ?_⟩) (e3) ?_
                      · have m0 := keepAt hSw tz1 tG1; try clear hSw; go_simp; all_goals (with_reducible rfl)
                      try simp only [Act.put, List.setIfInBounds_toArray, List.set_cons_zero, List.set_cons_succ]
                      refine take_at 13 (some 104) (.pointer (some ⟨s1, 1, none⟩)) rfl rfl (by kernel_rfl) (by kernel_rfl) (by kernel_rfl) (fun _ _ _ h => h) (Or.inl ⟨by rfl, fun w' hSw => ?_⟩) (e3) ?_
                      · try clear hSw; go_simp; all_goals (with_reducible rfl)
                      try simp only [Act.put, List.setIfInBounds_toArray, List.set_cons_zero, List.set_cons_succ]
                      refine take_at 14 (some 105) (.slice (some ⟨rb, ro, none⟩) mc k2) rfl rfl (by kernel_rfl) (by kernel_rfl) (by kernel_rfl) (fun _ _ _ h => h) (Or.inl ⟨by rfl, fun w' hSw => ?_⟩) (e3) ?_
                      · have m0 := keepAt hSw z0 c0; have m1 := keepAt hSw z0 c1; have m2 := keepAt hSw z0 c2; try clear hSw; go_simp; all_goals (with_reducible rfl)
                      try simp only [Act.put, List.setIfInBounds_toArray, List.set_cons_zero, List.set_cons_succ]
                      refine take_at 15 (some 106) (.int .i64 (i : Nat)) rfl rfl (by kernel_rfl) (by kernel_rfl) (by kernel_rfl) (fun _ _ _ h => h) (Or.inl ⟨by rfl, fun w' hSw => ?_⟩) (e3) ?_
                      · try clear hSw; go_simp; all_goals (with_reducible rfl)
                      try simp only [Act.put, List.setIfInBounds_toArray, List.set_cons_zero, List.set_cons_succ]
                      refine take_at 16 (some 107) (.pointer (some ⟨rb, ro + i, none⟩)) rfl rfl (by kernel_rfl) (by kernel_rfl) (by kernel_rfl) (fun _ _ _ h => h) (Or.inl ⟨by rfl, fun w' hSw => ?_⟩) (e3) ?_
                      · try clear hSw; go_simp; all_goals (with_reducible rfl)
                      try simp only [Act.put, List.setIfInBounds_toArray, List.set_cons_zero, List.set_cons_succ]
                      refine take_at 17 (some 108) (.slice (some ⟨qb, qo, none⟩) n rc) rfl rfl (by kernel_rfl) (by kernel_rfl) (by kernel_rfl) (fun _ _ _ h => h) (Or.inl ⟨by rfl, fun w' hSw => ?_⟩) (e3) ?_
                      · have m0 := keepAt hSw zb hR; try clear hSw; go_simp; all_goals (with_reducible rfl)
                      try simp only [Act.put, List.setIfInBounds_toArray, List.set_cons_zero, List.set_cons_succ]
                      refine take_at 18 (some 109) (.int .i64 (j : Nat)) rfl rfl (by kernel_rfl) (by kernel_rfl) (by kernel_rfl) (fun _ _ _ h => h) (Or.inl ⟨by rfl, fun w' hSw => ?_⟩) (e3) ?_
                      · try clear hSw; go_simp; all_goals (with_reducible rfl)
                      try simp only [Act.put, List.setIfInBounds_toArray, List.set_cons_zero, List.set_cons_succ]
                      refine take_at 19 (some 110) (.pointer (some ⟨qb, qo + j, none⟩)) rfl rfl (by kernel_rfl) (by kernel_rfl) (by kernel_rfl) (fun _ _ _ h => h) (Or.inl ⟨by rfl, fun w' hSw => ?_⟩) (e3) ?_
                      · try clear hSw; go_simp; all_goals (with_reducible rfl)
                      try simp only [Act.put, List.setIfInBounds_toArray, List.set_cons_zero, List.set_cons_succ]
                      refine take_at 20 (some 111) (.int .i64 chv) rfl rfl (by kernel_rfl) (by kernel_rfl) (by kernel_rfl) (fun _ _ _ h => h) (Or.inl ⟨by rfl, fun w' hSw => ?_⟩) (e3) ?_
                      · have m0 := keepAt hSw zq hQ; try clear hSw; go_simp; all_goals (with_reducible rfl)
                      try simp only [Act.put, List.setIfInBounds_toArray, List.set_cons_zero, List.set_cons_succ]
                      refine take_at 21 (some 112) (.slice (some ⟨tb, tof, none⟩) q tc) rfl rfl (by kernel_rfl) (by kernel_rfl) (by kernel_rfl) (fun _ _ _ h => h) (Or.inl ⟨by rfl, fun w' hSw => ?_⟩) (e3) ?_
                      · try clear hSw; go_simp; all_goals (with_reducible rfl)
                      try simp only [Act.put, List.setIfInBounds_toArray, List.set_cons_zero, List.set_cons_succ]
                      refine take_at 22 (some 113) (.int .i64 (n : Nat)) rfl rfl (by kernel_rfl) (by kernel_rfl) (by kernel_rfl) (fun _ _ _ h => h) (Or.inl ⟨by rfl, fun w' hSw => ?_⟩) (e3) ?_
                      · try clear hSw; go_simp; all_goals (with_reducible rfl)
                      try simp only [Act.put, List.setIfInBounds_toArray, List.set_cons_zero, List.set_cons_succ]
                      refine take_at 23 (some 114) (.int .i64 (s : Nat)) rfl rfl (by kernel_rfl) (by kernel_rfl) (by kernel_rfl) (fun _ _ _ h => h) (Or.inl ⟨by rfl, fun w' hSw => ?_⟩) (e3) ?_
                      · try clear hSw; go_simp; all_goals (with_reducible rfl)
                      try simp only [Act.put, List.setIfInBounds_toArray, List.set_cons_zero, List.set_cons_succ]
                      refine take_at 24 (some 115) (.int .i64 (j : Nat)) rfl rfl (by kernel_rfl) (by kernel_rfl) (by kernel_rfl) (fun _ _ _ h => h) (Or.inl ⟨by rfl, fun w' hSw => ?_⟩) (e3) ?_
                      · try clear hSw; go_simp; all_goals (with_reducible rfl)
                      try simp only [Act.put, List.setIfInBounds_toArray, List.set_cons_zero, List.set_cons_succ]
                      refine take_at 25 (some 116) (.int .i64 (px : Nat)) rfl rfl (by kernel_rfl) (by kernel_rfl) (by kernel_rfl) (fun _ _ _ h => h) (Or.inl ⟨by rfl, fun w' hSw => ?_⟩) (e3) ?_
                      · have y := HN.out.1; have yw := HN.out.2.1; try clear hSw; go_simp; all_goals (with_reducible rfl)
                      try simp only [Act.put, List.setIfInBounds_toArray, List.set_cons_zero, List.set_cons_succ]
                      refine take_at 26 (some 117) (.int .i64 (sx : Nat)) rfl rfl (by kernel_rfl) (by kernel_rfl) (by kernel_rfl) (fun _ _ _ h => h) (Or.inl ⟨by rfl, fun w' hSw => ?_⟩) (e3) ?_
                      · have y := HN.out.2.2.1; try clear hSw; go_simp; all_goals (with_reducible rfl)
                      try simp only [Act.put, List.setIfInBounds_toArray, List.set_cons_zero, List.set_cons_succ]
                      refine take_at 27 (some 118) (.int .i64 (nsx : Nat)) rfl rfl (by kernel_rfl) (by kernel_rfl) (by kernel_rfl) (fun _ _ _ h => h) (Or.inl ⟨by rfl, fun w' hSw => ?_⟩) (e3) ?_
                      · have y := HN.out.2.2.2.1; try clear hSw; go_simp; all_goals (with_reducible rfl)
                      try simp only [Act.put, List.setIfInBounds_toArray, List.set_cons_zero, List.set_cons_succ]
                      refine take_at 28 (some 119) (.int .i64 (j : Nat)) rfl rfl (by kernel_rfl) (by kernel_rfl) (by kernel_rfl) (fun _ _ _ h => h) (Or.inl ⟨by rfl, fun w' hSw => ?_⟩) (e3) ?_
                      · try clear hSw; go_simp; all_goals (with_reducible rfl)
                      try simp only [Act.put, List.setIfInBounds_toArray, List.set_cons_zero, List.set_cons_succ]
                      refine take_at 29 (some 120) (.int .i64 (num2 : Nat)) rfl rfl (by kernel_rfl) (by kernel_rfl) (by kernel_rfl) (fun _ _ _ h => h) (Or.inl ⟨by rfl, fun w' hSw => ?_⟩) (e3) ?_
                      · have y := HN.out.2.2.2.2.1; try clear hSw; go_simp; all_goals (with_reducible rfl)
                      try simp only [Act.put, List.setIfInBounds_toArray, List.set_cons_zero, List.set_cons_succ]
                      refine take_at 30 (some 121) (.pointer (some ⟨tb, tof + num2, none⟩)) rfl rfl (by kernel_rfl) (by kernel_rfl) (by kernel_rfl) (fun _ _ _ h => h) (Or.inl ⟨by rfl, fun w' hSw => ?_⟩) (e3) ?_
                      · try clear hSw; go_simp; all_goals (with_reducible rfl)
                      try simp only [Act.put, List.setIfInBounds_toArray, List.set_cons_zero, List.set_cons_succ]
                      refine take_at 31 (some 122) (.int .i64 tv2) rfl rfl (by kernel_rfl) (by kernel_rfl) (by kernel_rfl) (fun _ _ _ h => h) (Or.inl ⟨by rfl, fun w' hSw => ?_⟩) (e3) ?_
                      · have m0 := keepAt hSw tz2 tG2; try clear hSw; go_simp; all_goals (with_reducible rfl)
                      try simp only [Act.put, List.setIfInBounds_toArray, List.set_cons_zero, List.set_cons_succ]
                      refine take_at 32 (some 123) (.int .i64 sv) rfl rfl (by kernel_rfl) (by kernel_rfl) (by kernel_rfl) (fun _ _ _ h => h) (Or.inl ⟨by rfl, fun w' hSw => ?_⟩) (e3) ?_
                      · have y := HN.out.2.2.2.2.2; try clear hSw; go_simp; all_goals (with_reducible rfl)
                      try simp only [Act.put, List.setIfInBounds_toArray, List.set_cons_zero, List.set_cons_succ]
                      refine take_at 33 (some 124) (.bool be) rfl rfl (by kernel_rfl) (by kernel_rfl) (by kernel_rfl) (fun _ _ _ h => h) (Or.inl ⟨by rfl, fun w' hSw => ?_⟩) (e3) ?_
                      · have y := HBE.out; try clear hSw; go_simp; all_goals (with_reducible rfl)
                      try simp only [Act.put, List.setIfInBounds_toArray, List.set_cons_zero, List.set_cons_succ]
                      refine take_at 34 (some 125) (.bool be) rfl rfl (by kernel_rfl) (by kernel_rfl) (by kernel_rfl) (fun _ _ _ h => h) (Or.inl ⟨by rfl, fun w' hSw => ?_⟩) (e3) ?_
                      · try clear hSw; go_simp; all_goals (with_reducible rfl)
                      try simp only [Act.put, List.setIfInBounds_toArray, List.set_cons_zero, List.set_cons_succ]
                      refine wpAnyH_done (by kernel_rfl) ?_ _
                      refine NoPanic.normal ?_
                      have hin4 : Hid (Ext W1 v3) := Lib.hid (hin3.out.trans e3)
                      clear hb3 e3
                      clear c0 c1 c2 z0 hQ hR zb zq tG1 tG2 tz1 tz2
                      cases be
                      · have HN3 : Hid (sj = (sd1 && (List.range (j + 1)).all (c.sr2 t i s))) := Lib.hid (by rw [← HNX.out]; simp)
                        clear HBE
                        go_wp2
                        go_roundw
                        case rel => exact ⟨j + 1, sj, by go_num, by omega, rfl, HN3, hin4⟩
                        case measure => simp [intOf] <;> omega
                      · have HN3 : Hid (false = (sd1 && (List.range (j + 1)).all (c.sr2 t i s))) := Lib.hid (by rw [← HNX.out]; simp)
                        clear HBE
                        go_wp2
                        go_roundw
                        case rel => exact ⟨j + 1, false, by go_num, by omega, rfl, HN3, hin4⟩
                        case measure => simp [intOf] <;> omega
                  · obtain rfl : j = n := by omega
                    have hx9 : ¬ (j : Int) < (j : Int) := by omega
                    have HNX : Hid (sj = (sd && (List.range (s + 1)).all (c.sr1 t i))) := Lib.hid (by rw [hsj.out]; exact HEND.out)
                    clear c0 c1 c2 z0
                    go_wp2
                    go_roundw
                    case rel => first | exact ⟨s + 1, sj, by go_num, by omega, rfl, HNX, hin3⟩ | exact ⟨_, _, _, _, _, _, _, _, _, _, _, _, _, _, _, _, _, _, _, _, _, _, _, _, _, _, _, _, _, _, ⟨s + 1, sj, by go_num, by omega, rfl, HNX, hin3⟩, rfl⟩ | (trace_state; fail)
                    case measure => simp [intOf] <;> omega
          · obtain rfl : s = P := by omega
            have hx9 : ¬ (s : Int) < (s : Int) := by omega
            have HNX : Hid (se = (List.range (i + 1)).all fun i => (List.range (2 ^ c.n)).all (c.sr1 t i)) := Lib.hid (by
              rw [hse.out, range_all_succ, HSD.out, HCN.out, ← HP.out])
            go_wp2
            go_roundw
            case rel => exact ⟨i + 1, mv, se, by go_num, by omega, rfl, rfl, HLV.out, HNX, hin2⟩
            case measure => simp [intOf] <;> omega
      · have hEX := E1.out.trans hin4.out
        obtain ⟨sb', so', e9, sz, sc⟩ := Vl.at HV.out.vs hEX hin9
        cases e9
        try dsimp only at sc
        have hi10' : i < 10 := by omega
        obtain ⟨px, hpx⟩ : ∃ a : Nat, a = 2 ^ i := ⟨_, rfl⟩
        have hpl : px < 1024 := by rw [hpx]; exact Nat.lt_of_lt_of_le (Nat.pow_lt_pow_right (by omega) hin9) (pow_1024 hn10)
        obtain ⟨ni, hni⟩ : ∃ a : Nat, a = n * px := ⟨_, rfl⟩
        have hnil : ni ≤ 10 * 1024 := by rw [hni]; exact Nat.mul_le_mul hn10 (by omega)
        obtain ⟨num0, hnum0⟩ : ∃ a : Nat, a = ni + i := ⟨_, rfl⟩
        have hpn : px < 2 ^ c.n := by rw [hpx, HCN.out]; exact Nat.pow_lt_pow_right (by omega) hin9
        have hz0 : num0 < q := by rw [hnum0, hni, HQZ.out, ← HCN.out]; exact num_lt hpn (by rw [HCN.out]; exact hin9)
        obtain ⟨tb', tof', e9, tz, tG⟩ := Vl.at HT.out hEX hz0
        cases e9
        try dsimp only at tG
        have hbt0 := HBT.out num0 hz0
        obtain ⟨tv0, htv0⟩ : ∃ v, v = t num0 := ⟨_, rfl⟩
        rw [← htv0] at tG hbt0
        obtain ⟨stv, hstv⟩ : ∃ v, v = st i := ⟨_, rfl⟩
        rw [← hstv] at sc
        have hb2 := HK.out.st i hin9
        rw [← hstv] at hb2
        obtain ⟨sum0, hsum0⟩ : ∃ v, v = stv + tv0 := ⟨_, rfl⟩
        obtain ⟨mv, hmv⟩ : ∃ v, v = min lv sum0 := ⟨_, rfl⟩
        have y1 : (2 : Int) ^ i = (px : Int) := by rw [hpx]; simp
        have y2 : (n : Int) * (px : Int) = (ni : Int) := by rw [hni]; simp
        have y3 : IntKind.i64.wrap (ni : Int) = (ni : Int) := IntWalk.i64_in _ (by omega)
        have y4 : IntKind.i64.wrap ((ni : Int) + (i : Int)) = (num0 : Int) := by rw [show (ni : Int) + (i : Int) = (num0 : Int) by rw [hnum0]; simp]; exact IntWalk.i64_in _ (by omega)
        have y5 : IntKind.i64.wrap (stv + tv0) = sum0 := by rw [hsum0]; exact IntWalk.i64_in _ (by omega)
        have HN := Lib.hid (And.intro y1 (And.intro y2 (And.intro y3 (And.intro y4 (And.intro y5 hmv.symm)))))
        have hg : c.lsR t 0 0 lv i = mv := by
          unfold Crs.lsR
          rw [if_pos hcan, hmv, hsum0, hstv, htv0, hnum0, hni, hpx]
          unfold Crs.val Crs.stp
          rw [if_pos rfl, HCN.out, HCS.out, Nat.zero_or]
        have HLV : Hid (mv = (List.range (i + 1)).foldl (c.lsR t 0 0) 2199023255552) := Lib.hid (by rw [HSTL.out, hg])
        clear hg hcan hpx hpl hni hnil hnum0 hpn hbt0 htv0 hstv hb2 hsum0 hmv y1 y2 y3 y4 y5 hEX
        go_upto_region 15 with fail
        refine wp_region_noPanic ?_
        refine wp_region_held_drew (S := fun X => Ext w8 X) (by kernel_rfl) (Ext.drw (Ext.refl _)) (fun _ => ?_)
        refine take_at 0 (some 42) (.int .i64 lv) rfl rfl (by kernel_rfl) (by kernel_rfl) (by kernel_rfl) (fun _ _ _ h => h) (Or.inl ⟨by rfl, fun w' hSw => ?_⟩) (Ext.drw (Ext.refl _)) ?_
        · try clear hSw; go_simp; all_goals (with_reducible rfl)
        try simp only [Act.put, List.setIfInBounds_toArray, List.set_cons_zero, List.set_cons_succ]
        refine take_at 1 (some 43) (.pointer (some ⟨s1, 0, none⟩)) rfl rfl (by kernel_rfl) (by kernel_rfl) (by kernel_rfl) (fun _ _ _ h => h) (Or.inl ⟨by rfl, fun w' hSw => ?_⟩) (Ext.drw (Ext.refl _)) ?_
        · try clear hSw; go_simp; all_goals (with_reducible rfl)
        try simp only [Act.put, List.setIfInBounds_toArray, List.set_cons_zero, List.set_cons_succ]
        refine take_at 2 (some 44) (.slice (some ⟨sb, so, none⟩) n k) rfl rfl (by kernel_rfl) (by kernel_rfl) (by kernel_rfl) (fun _ _ _ h => h) (Or.inl ⟨by rfl, fun w' hSw => ?_⟩) (Ext.drw (Ext.refl _)) ?_
        · have m0 := keepAt hSw z0 c0; have m1 := keepAt hSw z0 c1; have m2 := keepAt hSw z0 c2; try clear hSw; go_simp; all_goals (with_reducible rfl)
        try simp only [Act.put, List.setIfInBounds_toArray, List.set_cons_zero, List.set_cons_succ]
        refine take_at 3 (some 45) (.int .i64 (i : Nat)) rfl rfl (by kernel_rfl) (by kernel_rfl) (by kernel_rfl) (fun _ _ _ h => h) (Or.inl ⟨by rfl, fun w' hSw => ?_⟩) (Ext.drw (Ext.refl _)) ?_
        · try clear hSw; go_simp; all_goals (with_reducible rfl)
        try simp only [Act.put, List.setIfInBounds_toArray, List.set_cons_zero, List.set_cons_succ]
        refine take_at 4 (some 46) (.pointer (some ⟨sb, so + i, none⟩)) rfl rfl (by kernel_rfl) (by kernel_rfl) (by kernel_rfl) (fun _ _ _ h => h) (Or.inl ⟨by rfl, fun w' hSw => ?_⟩) (Ext.drw (Ext.refl _)) ?_
        · try clear hSw; go_simp; all_goals (with_reducible rfl)
        try simp only [Act.put, List.setIfInBounds_toArray, List.set_cons_zero, List.set_cons_succ]
        refine take_at 5 (some 47) (.int .i64 stv) rfl rfl (by kernel_rfl) (by kernel_rfl) (by kernel_rfl) (fun _ _ _ h => h) (Or.inl ⟨by rfl, fun w' hSw => ?_⟩) (Ext.drw (Ext.refl _)) ?_
        · have m0 := keepAt hSw sz sc; try clear hSw; go_simp; all_goals (with_reducible rfl)
        try simp only [Act.put, List.setIfInBounds_toArray, List.set_cons_zero, List.set_cons_succ]
        refine take_at 6 (some 48) (.slice (some ⟨tb, tof, none⟩) q tc) rfl rfl (by kernel_rfl) (by kernel_rfl) (by kernel_rfl) (fun _ _ _ h => h) (Or.inl ⟨by rfl, fun w' hSw => ?_⟩) (Ext.drw (Ext.refl _)) ?_
        · try clear hSw; go_simp; all_goals (with_reducible rfl)
        try simp only [Act.put, List.setIfInBounds_toArray, List.set_cons_zero, List.set_cons_succ]
        refine take_at 7 (some 49) (.int .i64 (n : Nat)) rfl rfl (by kernel_rfl) (by kernel_rfl) (by kernel_rfl) (fun _ _ _ h => h) (Or.inl ⟨by rfl, fun w' hSw => ?_⟩) (Ext.drw (Ext.refl _)) ?_
        · try clear hSw; go_simp; all_goals (with_reducible rfl)
        try simp only [Act.put, List.setIfInBounds_toArray, List.set_cons_zero, List.set_cons_succ]
        refine take_at 8 (some 50) (.int .i64 (i : Nat)) rfl rfl (by kernel_rfl) (by kernel_rfl) (by kernel_rfl) (fun _ _ _ h => h) (Or.inl ⟨by rfl, fun w' hSw => ?_⟩) (Ext.drw (Ext.refl _)) ?_
        · try clear hSw; go_simp; all_goals (with_reducible rfl)
        try simp only [Act.put, List.setIfInBounds_toArray, List.set_cons_zero, List.set_cons_succ]
        refine take_at 9 (some 51) (.int .i64 (ni : Nat)) rfl rfl (by kernel_rfl) (by kernel_rfl) (by kernel_rfl) (fun _ _ _ h => h) (Or.inl ⟨by rfl, fun w' hSw => ?_⟩) (Ext.drw (Ext.refl _)) ?_
        · have y := HN.out.1; have yb := HN.out.2.1; have yc := HN.out.2.2.1; try clear hSw; go_simp; all_goals (with_reducible rfl)
        try simp only [Act.put, List.setIfInBounds_toArray, List.set_cons_zero, List.set_cons_succ]
        refine take_at 10 (some 52) (.int .i64 (i : Nat)) rfl rfl (by kernel_rfl) (by kernel_rfl) (by kernel_rfl) (fun _ _ _ h => h) (Or.inl ⟨by rfl, fun w' hSw => ?_⟩) (Ext.drw (Ext.refl _)) ?_
        · try clear hSw; go_simp; all_goals (with_reducible rfl)
        try simp only [Act.put, List.setIfInBounds_toArray, List.set_cons_zero, List.set_cons_succ]
        refine take_at 11 (some 53) (.int .i64 (num0 : Nat)) rfl rfl (by kernel_rfl) (by kernel_rfl) (by kernel_rfl) (fun _ _ _ h => h) (Or.inl ⟨by rfl, fun w' hSw => ?_⟩) (Ext.drw (Ext.refl _)) ?_
        · have y := HN.out.2.2.2.1; try clear hSw; go_simp; all_goals (with_reducible rfl)
        try simp only [Act.put, List.setIfInBounds_toArray, List.set_cons_zero, List.set_cons_succ]
        refine take_at 12 (some 54) (.pointer (some ⟨tb, tof + num0, none⟩)) rfl rfl (by kernel_rfl) (by kernel_rfl) (by kernel_rfl) (fun _ _ _ h => h) (Or.inl ⟨by rfl, fun w' hSw => ?_⟩) (Ext.drw (Ext.refl _)) ?_
        · try clear hSw; go_simp; all_goals (with_reducible rfl)
        try simp only [Act.put, List.setIfInBounds_toArray, List.set_cons_zero, List.set_cons_succ]
        refine take_at 13 (some 55) (.int .i64 tv0) rfl rfl (by kernel_rfl) (by kernel_rfl) (by kernel_rfl) (fun _ _ _ h => h) (Or.inl ⟨by rfl, fun w' hSw => ?_⟩) (Ext.drw (Ext.refl _)) ?_
        · have m0 := keepAt hSw tz tG; try clear hSw; go_simp; all_goals (with_reducible rfl)
        try simp only [Act.put, List.setIfInBounds_toArray, List.set_cons_zero, List.set_cons_succ]
        refine take_at 14 (some 56) (.int .i64 sum0) rfl rfl (by kernel_rfl) (by kernel_rfl) (by kernel_rfl) (fun _ _ _ h => h) (Or.inl ⟨by rfl, fun w' hSw => ?_⟩) (Ext.drw (Ext.refl _)) ?_
        · have y := HN.out.2.2.2.2.1; try clear hSw; go_simp; all_goals (with_reducible rfl)
        try simp only [Act.put, List.setIfInBounds_toArray, List.set_cons_zero, List.set_cons_succ]
        refine take_at 15 (some 57) (.int .i64 mv) rfl rfl (by kernel_rfl) (by kernel_rfl) (by kernel_rfl) (fun _ _ _ h => h) (Or.inl ⟨by rfl, fun w' hSw => ?_⟩) (Ext.drw (Ext.refl _)) ?_
        · have y := HN.out.2.2.2.2.2; try clear hSw; go_simp; all_goals (with_reducible rfl)
        try simp only [Act.put, List.setIfInBounds_toArray, List.set_cons_zero, List.set_cons_succ]
        refine take_at 16 (some 8) (.int .i64 mv) rfl rfl (by kernel_rfl) (by kernel_rfl) (by kernel_rfl) (fun _ _ _ h => h) (Or.inl ⟨by rfl, fun w' hSw => ?_⟩) (Ext.drw (Ext.refl _)) ?_
        · try clear hSw; go_simp; all_goals (with_reducible rfl)
        try simp only [Act.put, List.setIfInBounds_toArray, List.set_cons_zero, List.set_cons_succ]
        refine wpAnyH_done (by kernel_rfl) ?_ _
        refine NoPanic.normal ?_
        have hin5 : Hid (Ext W1 w8.drew) := Lib.hid hin4.out.drw
        generalize w8.drew = w9 at *
        clear c0 c1 c2 z0 sc sz tz tG hin hin4 hz0
        go_wp2_with fail
        go_loopw [9, 60, 88] (fun sw sv _ wz => ∃ (s : Nat) (se : Bool), sv = .int .i64 s ∧ s ≤ P ∧ sw = .bool se ∧ Hid (se = (sd && (List.range s).all (c.sr1 t i))) ∧ Hid (Ext W1 wz)) (fun _ sv _ _ => P - (intOf sv).toNat)
        case atStart => exact ⟨0, sd, rfl, Nat.zero_le _, rfl, Lib.hid (by simp), hin5⟩
        case round =>
          clear hin5
          obtain ⟨s, se, rfl, hs, rfl, hse, hin2⟩ := hrel
          by_cases hsP : s < P
          · have hs10 : s < 1024 := by omega
            have HSN : Hid (s < 2 ^ n) := Lib.hid (by rw [← HP.out]; exact hsP)
            have hi10 : i < 10 := by omega
            have y7 := and1_nat (l := i) hs10
            have hstep := range_all_succ (c.sr1 t i) s
            have HST9 := Lib.hid hstep
            clear hstep
            cases hb : s.testBit i
            · rw [hb] at y7
              simp only [Bool.false_eq_true, if_false] at y7
              have hg : c.sr1 t i s = true := by unfold Crs.sr1; rw [hb]; rfl
              have HNX : Hid (se = (sd && (List.range (s + 1)).all (c.sr1 t i))) := Lib.hid (by rw [HST9.out, hg, hse.out, Bool.and_true])
              clear hb hg
              go_wp2
              go_roundw
              case rel => exact ⟨s + 1, se, by go_num, by omega, rfl, HNX, hin2⟩
              case measure => simp [intOf] <;> omega
            · rw [hb] at y7
              simp only [if_true] at y7
              have hg : c.sr1 t i s = (decide (s ≠ c.all ∨ t (c.n * s + i) ≤ 0) && (List.range c.n).all (c.sr2 t i s)) := by unfold Crs.sr1; rw [hb]; rfl
              rw [HCN.out] at hg
              obtain ⟨ns, hns⟩ : ∃ a : Nat, a = n * s := ⟨_, rfl⟩
              have hnsl : ns ≤ 10 * 1024 := by rw [hns]; exact Nat.mul_le_mul hn10 (by omega)
              obtain ⟨num, hnum⟩ : ∃ a : Nat, a = ns + i := ⟨_, rfl⟩
              have HNUM : Hid (num = n * s + i) := Lib.hid (by rw [hnum, hns])
              have hnz : num < q := by rw [HNUM.out, HQZ.out, ← HCN.out]; exact num_lt (by rw [HCN.out]; exact HSN.out) (by rw [HCN.out]; exact hin9)
              have y5 : IntKind.i64.wrap ((n : Int) * (s : Int)) = (ns : Int) := by rw [show (n : Int) * (s : Int) = (ns : Int) by rw [hns]; simp]; exact IntWalk.i64_in _ (by omega)
              have y6 : IntKind.i64.wrap ((ns : Int) + (i : Int)) = (num : Int) := by rw [show (ns : Int) + (i : Int) = (num : Int) by rw [hnum]; simp]; exact IntWalk.i64_in _ (by omega)
              have HM := Lib.hid (And.intro y5 y6)
              obtain ⟨tv1, htv1⟩ : ∃ v, v = t num := ⟨_, rfl⟩
              have HTV := Lib.hid htv1
              rw [← HNUM.out, ← htv1] at hg
              obtain ⟨tb', tof', e9, tz9, tG9⟩ := Vl.at HT.out (E1.out.trans hin2.out) hnz
              cases e9
              try dsimp only at tG9
              rw [← htv1] at tG9
              have HG9 := Lib.hid hg
              have hall9 : c.all = P - 1 := by unfold Crs.all; rw [HCN.out, ← HP.out]
              have HAL := Lib.hid hall9
              clear hb hg hns hnum hnsl htv1 hall9
              obtain ⟨sd1, hsd1⟩ : ∃ v, v = (se && decide (s ≠ c.all ∨ tv1 ≤ 0)) := ⟨_, rfl⟩
              have HSD1 := Lib.hid hsd1
              have HEND : Hid ((sd1 && (List.range n).all (c.sr2 t i s)) = (sd && (List.range (s + 1)).all (c.sr1 t i))) := Lib.hid (by
                rw [HST9.out, ← Bool.and_assoc, ← hse.out, HG9.out, hsd1, Bool.and_assoc])
              clear hsd1
              go_upto_region 20 with fail
              go_cut [9] (fun sw wx => sw = .bool sd1 ∧ wx = wr)
              case first =>
                cases se
                · have h9 : sd1 = false := by rw [HSD1.out]; rfl
                  subst h9
                  go_wp2_with fail
                  go_meet
                  exact ⟨rfl, rfl⟩
                · by_cases hsa : s = P - 1
                  · have hsa2 : ((s : Int) != (P : Int) - 1) = false := by simp; omega
                    by_cases htn9 : tv1 ≤ 0
                    · have h9 : sd1 = true := by rw [HSD1.out, decide_eq_true (Or.inr htn9)]; rfl
                      subst h9
                      clear hsa
                      go_wp2_with fail
                      go_meet
                      exact ⟨rfl, rfl⟩
                    · have h9 : sd1 = false := by rw [HSD1.out, decide_eq_false (fun h => h.elim (fun h => h (by rw [HAL.out]; exact hsa)) htn9)]; rfl
                      subst h9
                      clear hsa
                      go_wp2_with fail
                      go_meet
                      exact ⟨rfl, rfl⟩
                  · have hsa2 : ((s : Int) != (P : Int) - 1) = true := by simp; omega
                    have h9 : sd1 = true := by rw [HSD1.out, decide_eq_true (Or.inl (by rw [HAL.out]; exact hsa))]; rfl
                    subst h9
                    clear hsa
                    go_wp2_with fail
                    go_meet
                    exact ⟨rfl, rfl⟩
              case rest =>
                obtain ⟨rfl, rfl⟩ := hcut
                clear tz9 tG9 y5 y6 y7
                go_wp2_with fail
                go_loopw [9, 88] (fun sw jv wz => ∃ (j : Nat) (sj : Bool), jv = .int .i64 j ∧ j ≤ n ∧ sw = .bool sj ∧ Hid (sj = (sd1 && (List.range j).all (c.sr2 t i s))) ∧ Hid (Ext W1 wz)) (fun _ jv _ => n - (intOf jv).toNat)
                case atStart => exact ⟨0, sd1, rfl, Nat.zero_le _, rfl, Lib.hid (by simp), hin2⟩
                case round =>
                  obtain ⟨j, sj, rfl, hj, rfl, hsj, hin3⟩ := hrel
                  obtain ⟨c0, c1, c2, z0⟩ := three_c (ext_ty' hin3.out HB.out)
                  by_cases hjn : j < n
                  · have hstep := range_all_succ (c.sr2 t i s) j
                    have HST := Lib.hid hstep
                    clear hstep
                    cases hcan : c.can s j
                    · have hg : c.sr2 t i s j = true := by unfold Crs.sr2; rw [hcan]; rfl
                      have HNX : Hid (sj = (sd1 && (List.range (j + 1)).all (c.sr2 t i s))) := Lib.hid (by rw [HST.out, hg, hsj.out]; simp)
                      have HCAN := Lib.hid hcan
                      clear hg hcan
                      go_upto_region 24 with fail
                      refine wp_region_noPanic ?_
                      refine wp_region_held_drew (S := fun X => Ext wr X) (by kernel_rfl) (Ext.drw (Ext.refl _)) (fun _ => ?_)
                      refine take_at 0 (some 91) (.agg #[.slice (some ⟨sb, so, none⟩) n k, .slice (some ⟨rb, ro, none⟩) mc k2, .slice A3 m k3]) rfl rfl (by kernel_rfl) (by kernel_rfl) (by kernel_rfl) (fun _ _ _ h => h) (Or.inl ⟨by rfl, fun w' hSw => ?_⟩) (Ext.drw (Ext.refl _)) ?_
                      · have m0 := keepAt hSw z0 c0; have m1 := keepAt hSw z0 c1; have m2 := keepAt hSw z0 c2; try clear hSw; go_simp; all_goals (with_reducible rfl)
                      try simp only [Act.put, List.setIfInBounds_toArray, List.set_cons_zero, List.set_cons_succ]
                      refine take_at 1 (some 92) (.int .i64 (s : Nat)) rfl rfl (by kernel_rfl) (by kernel_rfl) (by kernel_rfl) (fun _ _ _ h => h) (Or.inl ⟨by rfl, fun w' hSw => ?_⟩) (Ext.drw (Ext.refl _)) ?_
                      · try clear hSw; go_simp; all_goals (with_reducible rfl)
                      try simp only [Act.put, List.setIfInBounds_toArray, List.set_cons_zero, List.set_cons_succ]
                      refine take_at 2 (some 93) (.int .i64 (j : Nat)) rfl rfl (by kernel_rfl) (by kernel_rfl) (by kernel_rfl) (fun _ _ _ h => h) (Or.inl ⟨by rfl, fun w' hSw => ?_⟩) (Ext.drw (Ext.refl _)) ?_
                      · try clear hSw; go_simp; all_goals (with_reducible rfl)
                      try simp only [Act.put, List.setIfInBounds_toArray, List.set_cons_zero, List.set_cons_succ]
                      refine wpAnyH_ready (rs := [3]) (by kernel_rfl) (by simp) ?_
                      refine AllReadyH.cons rfl (fun K hK => ?_) AllReadyH.nil
                      go_simp
                      refine (HF.out s j _ (HV.out.ext (E1.out.trans (hin3.out.trans (Ext.drw (Ext.refl _))))) HSN.out hjn).mono ?_
                      rintro e v3 ⟨rfl, hb3⟩
                      have e3 : Ext wr v3 := (Ext.drw (Ext.refl _)).trans hb3
                      try go_wp2_with fail
                      refine hK.out _ _ e3 (fun _ => ?_)
                      clear hK K
                      try simp only [Act.put, List.setIfInBounds_toArray, List.set_cons_zero, List.set_cons_succ]
                      refine take_at 4 (some 95) (.bool false) rfl rfl (by kernel_rfl) (by kernel_rfl) (by kernel_rfl) (fun _ _ _ h => h) (Or.inl ⟨by rfl, fun w' hSw => ?_⟩) (e3) ?_
                      · have y := HCAN.out; try clear hSw; go_simp; all_goals (with_reducible rfl)
                      try simp only [Act.put, List.setIfInBounds_toArray, List.set_cons_zero, List.set_cons_succ]
                      refine take_at 5 (some 96) undef rfl rfl (by kernel_rfl) (by kernel_rfl) (by kernel_rfl) (fun _ _ _ h => h) (Or.inr ⟨by rfl, rfl⟩) (e3) ?_
                      try simp only [Act.put, List.setIfInBounds_toArray, List.set_cons_zero, List.set_cons_succ]
                      refine take_at 6 (some 97) undef rfl rfl (by kernel_rfl) (by kernel_rfl) (by kernel_rfl) (fun _ _ _ h => h) (Or.inr ⟨by rfl, rfl⟩) (e3) ?_
                      try simp only [Act.put, List.setIfInBounds_toArray, List.set_cons_zero, List.set_cons_succ]
                      refine take_at 7 (some 98) undef rfl rfl (by kernel_rfl) (by kernel_rfl) (by kernel_rfl) (fun _ _ _ h => h) (Or.inr ⟨by rfl, rfl⟩) (e3) ?_
                      try simp only [Act.put, List.setIfInBounds_toArray, List.set_cons_zero, List.set_cons_succ]
                      refine take_at 8 (some 99) undef rfl rfl (by kernel_rfl) (by kernel_rfl) (by kernel_rfl) (fun _ _ _ h => h) (Or.inr ⟨by rfl, rfl⟩) (e3) ?_
                      try simp only [Act.put, List.setIfInBounds_toArray, List.set_cons_zero, List.set_cons_succ]
                      refine take_at 9 (some 100) undef rfl rfl (by kernel_rfl) (by kernel_rfl) (by kernel_rfl) (fun _ _ _ h => h) (Or.inr ⟨by rfl, rfl⟩) (e3) ?_
                      try simp only [Act.put, List.setIfInBounds_toArray, List.set_cons_zero, List.set_cons_succ]
                      refine take_at 10 (some 101) undef rfl rfl (by kernel_rfl) (by kernel_rfl) (by kernel_rfl) (fun _ _ _ h => h) (Or.inr ⟨by rfl, rfl⟩) (e3) ?_
                      try simp only [Act.put, List.setIfInBounds_toArray, List.set_cons_zero, List.set_cons_succ]
                      refine take_at 11 (some 102) undef rfl rfl (by kernel_rfl) (by kernel_rfl) (by kernel_rfl) (fun _ _ _ h => h) (Or.inr ⟨by rfl, rfl⟩) (e3) ?_
                      try simp only [Act.put, List.setIfInBounds_toArray, List.set_cons_zero, List.set_cons_succ]
                      refine take_at 12 (some 103) undef rfl rfl (by kernel_rfl) (by kernel_rfl) (by kernel_rfl) (fun _ _ _ h => h) (Or.inr ⟨by rfl, rfl⟩) (e3) ?_
                      try simp only [Act.put, List.setIfInBounds_toArray, List.set_cons_zero, List.set_cons_succ]
                      refine take_at 13 (some 104) undef rfl rfl (by kernel_rfl) (by kernel_rfl) (by kernel_rfl) (fun _ _ _ h => h) (Or.inr ⟨by rfl, rfl⟩) (e3) ?_
                      try simp only [Act.put, List.setIfInBounds_toArray, List.set_cons_zero, List.set_cons_succ]
                      refine take_at 14 (some 105) undef rfl rfl (by kernel_rfl) (by kernel_rfl) (by kernel_rfl) (fun _ _ _ h => h) (Or.inr ⟨by rfl, rfl⟩) (e3) ?_
                      try simp only [Act.put, List.setIfInBounds_toArray, List.set_cons_zero, List.set_cons_succ]
                      refine take_at 15 (some 106) undef rfl rfl (by kernel_rfl) (by kernel_rfl) (by kernel_rfl) (fun _ _ _ h => h) (Or.inr ⟨by rfl, rfl⟩) (e3) ?_
                      try simp only [Act.put, List.setIfInBounds_toArray, List.set_cons_zero, List.set_cons_succ]
                      refine take_at 16 (some 107) undef rfl rfl (by kernel_rfl) (by kernel_rfl) (by kernel_rfl) (fun _ _ _ h => h) (Or.inr ⟨by rfl, rfl⟩) (e3) ?_
                      try simp only [Act.put, List.setIfInBounds_toArray, List.set_cons_zero, List.set_cons_succ]
                      refine take_at 17 (some 108) undef rfl rfl (by kernel_rfl) (by kernel_rfl) (by kernel_rfl) (fun _ _ _ h => h) (Or.inr ⟨by rfl, rfl⟩) (e3) ?_
                      try simp only [Act.put, List.setIfInBounds_toArray, List.set_cons_zero, List.set_cons_succ]
                      refine take_at 18 (some 109) undef rfl rfl (by kernel_rfl) (by kernel_rfl) (by kernel_rfl) (fun _ _ _ h => h) (Or.inr ⟨by rfl, rfl⟩) (e3) ?_
                      try simp only [Act.put, List.setIfInBounds_toArray, List.set_cons_zero, List.set_cons_succ]
                      refine take_at 19 (some 110) undef rfl rfl (by kernel_rfl) (by kernel_rfl) (by kernel_rfl) (fun _ _ _ h => h) (Or.inr ⟨by rfl, rfl⟩) (e3) ?_
                      try simp only [Act.put, List.setIfInBounds_toArray, List.set_cons_zero, List.set_cons_succ]
                      refine take_at 20 (some 111) undef rfl rfl (by kernel_rfl) (by kernel_rfl) (by kernel_rfl) (fun _ _ _ h => h) (Or.inr ⟨by rfl, rfl⟩) (e3) ?_
                      try simp only [Act.put, List.setIfInBounds_toArray, List.set_cons_zero, List.set_cons_succ]
                      refine take_at 21 (some 112) undef rfl rfl (by kernel_rfl) (by kernel_rfl) (by kernel_rfl) (fun _ _ _ h => h) (Or.inr ⟨by rfl, rfl⟩) (e3) ?_
                      try simp only [Act.put, List.setIfInBounds_toArray, List.set_cons_zero, List.set_cons_succ]
                      refine take_at 22 (some 113) undef rfl rfl (by kernel_rfl) (by kernel_rfl) (by kernel_rfl) (fun _ _ _ h => h) (Or.inr ⟨by rfl, rfl⟩) (e3) ?_
                      try simp only [Act.put, List.setIfInBounds_toArray, List.set_cons_zero, List.set_cons_succ]
                      refine take_at 23 (some 114) undef rfl rfl (by kernel_rfl) (by kernel_rfl) (by kernel_rfl) (fun _ _ _ h => h) (Or.inr ⟨by rfl, rfl⟩) (e3) ?_
                      try simp only [Act.put, List.setIfInBounds_toArray, List.set_cons_zero, List.set_cons_succ]
                      refine take_at 24 (some 115) undef rfl rfl (by kernel_rfl) (by kernel_rfl) (by kernel_rfl) (fun _ _ _ h => h) (Or.inr ⟨by rfl, rfl⟩) (e3) ?_
                      try simp only [Act.put, List.setIfInBounds_toArray, List.set_cons_zero, List.set_cons_succ]
                      refine take_at 25 (some 116) undef rfl rfl (by kernel_rfl) (by kernel_rfl) (by kernel_rfl) (fun _ _ _ h => h) (Or.inr ⟨by rfl, rfl⟩) (e3) ?_
                      try simp only [Act.put, List.setIfInBounds_toArray, List.set_cons_zero, List.set_cons_succ]
                      refine take_at 26 (some 117) undef rfl rfl (by kernel_rfl) (by kernel_rfl) (by kernel_rfl) (fun _ _ _ h => h) (Or.inr ⟨by rfl, rfl⟩) (e3) ?_
                      try simp only [Act.put, List.setIfInBounds_toArray, List.set_cons_zero, List.set_cons_succ]
                      refine take_at 27 (some 118) undef rfl rfl (by kernel_rfl) (by kernel_rfl) (by kernel_rfl) (fun _ _ _ h => h) (Or.inr ⟨by rfl, rfl⟩) (e3) ?_
                      try simp only [Act.put, List.setIfInBounds_toArray, List.set_cons_zero, List.set_cons_succ]
                      refine take_at 28 (some 119) undef rfl rfl (by kernel_rfl) (by kernel_rfl) (by kernel_rfl) (fun _ _ _ h => h) (Or.inr ⟨by rfl, rfl⟩) (e3) ?_
                      try simp only [Act.put, List.setIfInBounds_toArray, List.set_cons_zero, List.set_cons_succ]
                      refine take_at 29 (some 120) undef rfl rfl (by kernel_rfl) (by kernel_rfl) (by kernel_rfl) (fun _ _ _ h => h) (Or.inr ⟨by rfl, rfl⟩) (e3) ?_
                      try simp only [Act.put, List.setIfInBounds_toArray, List.set_cons_zero, List.set_cons_succ]
                      refine take_at 30 (some 121) undef rfl rfl (by kernel_rfl) (by kernel_rfl) (by kernel_rfl) (fun _ _ _ h => h) (Or.inr ⟨by rfl, rfl⟩) (e3) ?_
                      try simp only [Act.put, List.setIfInBounds_toArray, List.set_cons_zero, List.set_cons_succ]
                      refine take_at 31 (some 122) undef rfl rfl (by kernel_rfl) (by kernel_rfl) (by kernel_rfl) (fun _ _ _ h => h) (Or.inr ⟨by rfl, rfl⟩) (e3) ?_
                      try simp only [Act.put, List.setIfInBounds_toArray, List.set_cons_zero, List.set_cons_succ]
                      refine take_at 32 (some 123) undef rfl rfl (by kernel_rfl) (by kernel_rfl) (by kernel_rfl) (fun _ _ _ h => h) (Or.inr ⟨by rfl, rfl⟩) (e3) ?_
                      try simp only [Act.put, List.setIfInBounds_toArray, List.set_cons_zero, List.set_cons_succ]
                      refine take_at 33 (some 124) undef rfl rfl (by kernel_rfl) (by kernel_rfl) (by kernel_rfl) (fun _ _ _ h => h) (Or.inr ⟨by rfl, rfl⟩) (e3) ?_
                      try simp only [Act.put, List.setIfInBounds_toArray, List.set_cons_zero, List.set_cons_succ]
                      refine take_at 34 (some 125) (.bool false) rfl rfl (by kernel_rfl) (by kernel_rfl) (by kernel_rfl) (fun _ _ _ h => h) (Or.inl ⟨by rfl, fun w' hSw => ?_⟩) (e3) ?_
                      · try clear hSw; go_simp; all_goals (with_reducible rfl)
                      try simp only [Act.put, List.setIfInBounds_toArray, List.set_cons_zero, List.set_cons_succ]
                      refine wpAnyH_done (by kernel_rfl) ?_ _
                      refine NoPanic.normal ?_
                      have hin4 : Hid (Ext W1 v3) := Lib.hid (hin3.out.trans e3)
                      clear hb3 e3
                      clear c0 c1 c2 z0
                      go_wp2
                      go_roundw
                      case rel => exact ⟨j + 1, sj, by go_num, by omega, rfl, HNX, hin4⟩
                      case measure => simp [intOf] <;> omega
                    · have HCAN := Lib.hid hcan
                      have hEX := E1.out.trans hin3.out
                      obtain ⟨rb', ro', e9, zb, hrr⟩ := HROW.out (by have := HK.out.mn; omega)
                      cases e9
                      have himc : i < mc := by have := HK.out.mn; omega
                      obtain ⟨R, hR, hRl⟩ := hrr i himc
                      have hln := HK.out.ln i hin9
                      rw [hln] at hRl
                      obtain ⟨RA, rc, rfl, hr1, hr2, -⟩ := id hRl
                      obtain ⟨qb, qo, rfl, zq, hQ⟩ := Vl.at hRl hEX hjn
                      try dsimp only at hQ
                      replace hR := hEX.at zb hR
                      replace zb := Nat.lt_of_lt_of_le zb hEX.size
                      have hj10 : j < 10 := by omega
                      obtain ⟨px, hpx⟩ : ∃ a : Nat, a = 2 ^ j := ⟨_, rfl⟩
                      obtain ⟨sx, hsx⟩ : ∃ a : Nat, a = s ||| 2 ^ j := ⟨_, rfl⟩
                      have hpl : px < 1024 := by rw [hpx]; exact Nat.lt_of_lt_of_le (Nat.pow_lt_pow_right (by omega) hjn) (pow_1024 hn10)
                      have hsxl : sx < 2 ^ c.n := by rw [hsx]; exact or_lt (by rw [HCN.out]; exact HSN.out) (by rw [HCN.out]; exact hjn)
                      have hsx10 : sx < 1024 := Nat.lt_of_lt_of_le hsxl (by rw [HCN.out]; exact pow_1024 hn10)
                      obtain ⟨nsx, hnsx⟩ : ∃ a : Nat, a = n * sx := ⟨_, rfl⟩
                      have hnsxl : nsx ≤ 10 * 1024 := by rw [hnsx]; exact Nat.mul_le_mul hn10 (by omega)
                      obtain ⟨num2, hnum2⟩ : ∃ a : Nat, a = nsx + j := ⟨_, rfl⟩
                      have hz2 : num2 < q := by
                        rw [hnum2, hnsx, HQZ.out, ← HCN.out]; exact num_lt hsxl (by rw [HCN.out]; exact hjn)
                      obtain ⟨tb', tof', e9, tz2, tG2⟩ := Vl.at HT.out hEX hz2
                      cases e9
                      obtain ⟨tb', tof', e9, tz1, tG1⟩ := Vl.at HT.out hEX hnz
                      cases e9
                      try dsimp only at tG2
                      try dsimp only at tG1
                      have hbt2 := HBT.out num2 hz2
                      obtain ⟨chv, hchv⟩ : ∃ v, v = y i j := ⟨_, rfl⟩
                      rw [← hchv] at hQ
                      obtain ⟨tv2, htv2⟩ : ∃ v, v = t num2 := ⟨_, rfl⟩
                      rw [← htv2] at tG2 hbt2
                      rw [← HTV.out] at tG1
                      obtain ⟨sv, hsv⟩ : ∃ v, v = chv + tv2 := ⟨_, rfl⟩
                      have hb2 := HK.out.ch i j hin9 hjn
                      rw [← hchv] at hb2
                      have y1 : (2 : Int) ^ j = (px : Int) := by rw [hpx]; simp
                      have y2 : bits .or .i64 (s : Int) (px : Int) = (sx : Int) := by rw [or_nat hs10 hpl, hsx, hpx]
                      have y4 : IntKind.i64.wrap (px : Int) = (px : Int) := IntWalk.i64_in _ (by omega)
                      have y5 : IntKind.i64.wrap ((n : Int) * (sx : Int)) = (nsx : Int) := by rw [show (n : Int) * (sx : Int) = (nsx : Int) by rw [hnsx]; simp]; exact IntWalk.i64_in _ (by omega)
                      have y6 : IntKind.i64.wrap ((nsx : Int) + (j : Int)) = (num2 : Int) := by rw [show (nsx : Int) + (j : Int) = (num2 : Int) by rw [hnum2]; simp]; exact IntWalk.i64_in _ (by omega)
                      have y7 : IntKind.i64.wrap (chv + tv2) = sv := by rw [hsv]; exact IntWalk.i64_in _ (by omega)
                      have HN := Lib.hid (And.intro y1 (And.intro y4 (And.intro y2 (And.intro y5 (And.intro y6 y7)))))
                      obtain ⟨be, hbe⟩ : ∃ be, be = decide (sv < tv1) := ⟨_, rfl⟩
                      have HBE := Lib.hid hbe.symm
                      have hg : c.sr2 t i s j = !be := by
                        unfold Crs.sr2
                        rw [hcan, hbe, hsv, hchv, htv2, hnum2, hnsx, hsx, HTV.out, HNUM.out, HCN.out, HCH.out, Bool.true_and]
                      have HNX : Hid ((sj && !be) = (sd1 && (List.range (j + 1)).all (c.sr2 t i s))) := Lib.hid (by rw [HST.out, hg, hsj.out, Bool.and_assoc])
                      clear hg hcan hpx hsx hpl hsxl hsx10 hnsx hnsxl hnum2 hchv htv2 hsv hb2 hbt2 y1 y2 y4 y5 y6 y7 hrr hRl hEX hln hr1 hr2 hbe
                      go_upto_region 24 with fail
                      refine wp_region_noPanic ?_
                      refine wp_region_held_drew (S := fun X => Ext wr X) (by kernel_rfl) (Ext.drw (Ext.refl _)) (fun _ => ?_)
                      refine take_at 0 (some 91) (.agg #[.slice (some ⟨sb, so, none⟩) n k, .slice (some ⟨rb, ro, none⟩) mc k2, .slice A3 m k3]) rfl rfl (by kernel_rfl) (by kernel_rfl) (by kernel_rfl) (fun _ _ _ h => h) (Or.inl ⟨by rfl, fun w' hSw => ?_⟩) (Ext.drw (Ext.refl _)) ?_
                      · have m0 := keepAt hSw z0 c0; have m1 := keepAt hSw z0 c1; have m2 := keepAt hSw z0 c2; try clear hSw; go_simp; all_goals (with_reducible rfl)
                      try simp only [Act.put, List.setIfInBounds_toArray, List.set_cons_zero, List.set_cons_succ]
                      refine take_at 1 (some 92) (.int .i64 (s : Nat)) rfl rfl (by kernel_rfl) (by kernel_rfl) (by kernel_rfl) (fun _ _ _ h => h) (Or.inl ⟨by rfl, fun w' hSw => ?_⟩) (Ext.drw (Ext.refl _)) ?_
                      · try clear hSw; go_simp; all_goals (with_reducible rfl)
                      try simp only [Act.put, List.setIfInBounds_toArray, List.set_cons_zero, List.set_cons_succ]
                      refine take_at 2 (some 93) (.int .i64 (j : Nat)) rfl rfl (by kernel_rfl) (by kernel_rfl) (by kernel_rfl) (fun _ _ _ h => h) (Or.inl ⟨by rfl, fun w' hSw => ?_⟩) (Ext.drw (Ext.refl _)) ?_
                      · try clear hSw; go_simp; all_goals (with_reducible rfl)
                      try simp only [Act.put, List.setIfInBounds_toArray, List.set_cons_zero, List.set_cons_succ]
                      refine wpAnyH_ready (rs := [3]) (by kernel_rfl) (by simp) ?_
                      refine AllReadyH.cons rfl (fun K hK => ?_) AllReadyH.nil
                      go_simp
                      refine (HF.out s j _ (HV.out.ext (E1.out.trans (hin3.out.trans (Ext.drw (Ext.refl _))))) HSN.out hjn).mono ?_
                      rintro e v3 ⟨rfl, hb3⟩
                      have e3 : Ext wr v3 := (Ext.drw (Ext.refl _)).trans hb3
                      try go_wp2_with fail
                      refine hK.out _ _ e3 (fun _ => ?_)
                      clear hK K
                      try simp only [Act.put, List.setIfInBounds_toArray, List.set_cons_zero, List.set_cons_succ]
                      refine take_at 4 (some 95) (.bool true) rfl rfl (by kernel_rfl) (by kernel_rfl) (by kernel_rfl) (fun _ _ _ h => h) (Or.inl ⟨by rfl, fun w' hSw => ?_⟩) (e3) ?_
                      · have y := HCAN.out; try clear hSw; go_simp; all_goals (with_reducible rfl)
                      try simp only [Act.put, List.setIfInBounds_toArray, List.set_cons_zero, List.set_cons_succ]
                      refine take_at 5 (some 96) (.slice (some ⟨tb, tof, none⟩) q tc) rfl rfl (by kernel_rfl) (by kernel_rfl) (by kernel_rfl) (fun _ _ _ h => h) (Or.inl ⟨by rfl, fun w' hSw => ?_⟩) (e3) ?_
                      · try clear hSw; go_simp; all_goals (with_reducible rfl)
                      try simp only [Act.put, List.setIfInBounds_toArray, List.set_cons_zero, List.set_cons_succ]
                      refine take_at 6 (some 97) (.int .i64 (n : Nat)) rfl rfl (by kernel_rfl) (by kernel_rfl) (by kernel_rfl) (fun _ _ _ h => h) (Or.inl ⟨by rfl, fun w' hSw => ?_⟩) (e3) ?_
                      · try clear hSw; go_simp; all_goals (with_reducible rfl)
                      try simp only [Act.put, List.setIfInBounds_toArray, List.set_cons_zero, List.set_cons_succ]
                      refine take_at 7 (some 98) (.int .i64 (s : Nat)) rfl rfl (by kernel_rfl) (by kernel_rfl) (by kernel_rfl) (fun _ _ _ h => h) (Or.inl ⟨by rfl, fun w' hSw => ?_⟩) (e3) ?_
                      · try clear hSw; go_simp; all_goals (with_reducible rfl)
                      try simp only [Act.put, List.setIfInBounds_toArray, List.set_cons_zero, List.set_cons_succ]
                      refine take_at 8 (some 99) (.int .i64 (ns : Nat)) rfl rfl (by kernel_rfl) (by kernel_rfl) (by kernel_rfl) (fun _ _ _ h => h) (Or.inl ⟨by rfl, fun w' hSw => ?_⟩) (e3) ?_
                      · have y := HM.out.1; try clear hSw; go_simp; all_goals (with_reducible rfl)
                      try simp only [Act.put, List.setIfInBounds_toArray, List.set_cons_zero, List.set_cons_succ]
                      refine take_at 9 (some 100) (.int .i64 (i : Nat)) rfl rfl (by kernel_rfl) (by kernel_rfl) (by kernel_rfl) (fun _ _ _ h => h) (Or.inl ⟨by rfl, fun w' hSw => ?_⟩) (e3) ?_
                      · try clear hSw; go_simp; all_goals (with_reducible rfl)
                      try simp only [Act.put, List.setIfInBounds_toArray, List.set_cons_zero, List.set_cons_succ]
                      refine take_at 10 (some 101) (.int .i64 (num : Nat)) rfl rfl (by kernel_rfl) (by kernel_rfl) (by kernel_rfl) (fun _ _ _ h => h) (Or.inl ⟨by rfl, fun w' hSw => ?_⟩) (e3) ?_
                      · have y := HM.out.2; try clear hSw; go_simp; all_goals (with_reducible rfl)
                      try simp only [Act.put, List.setIfInBounds_toArray, List.set_cons_zero, List.set_cons_succ]
                      refine take_at 11 (some 102) (.pointer (some ⟨tb, tof + num, none⟩)) rfl rfl (by kernel_rfl) (by kernel_rfl) (by kernel_rfl) (fun _ _ _ h => h) (Or.inl ⟨by rfl, fun w' hSw => ?_⟩) (e3) ?_
                      · try clear hSw; go_simp; all_goals (with_reducible rfl)
                      try simp only [Act.put, List.setIfInBounds_toArray, List.set_cons_zero, List.set_cons_succ]
                      refine take_at 12 (some 103) (.int .i64 tv1) rfl rfl (by kernel_rfl) (by kernel_rfl) (by kernel_rfl) (fun _ _ _ h => h) (Or.inl ⟨by rfl, fun w' hSw => ?_⟩) (e3) ?_
                      · have m0 := keepAt hSw tz1 tG1; try clear hSw; go_simp; all_goals (with_reducible rfl)
                      try simp only [Act.put, List.setIfInBounds_toArray, List.set_cons_zero, List.set_cons_succ]
                      refine take_at 13 (some 104) (.pointer (some ⟨s1, 1, none⟩)) rfl rfl (by kernel_rfl) (by kernel_rfl) (by kernel_rfl) (fun _ _ _ h => h) (Or.inl ⟨by rfl, fun w' hSw => ?_⟩) (e3) ?_
                      · try clear hSw; go_simp; all_goals (with_reducible rfl)
                      try simp only [Act.put, List.setIfInBounds_toArray, List.set_cons_zero, List.set_cons_succ]
                      refine take_at 14 (some 105) (.slice (some ⟨rb, ro, none⟩) mc k2) rfl rfl (by kernel_rfl) (by kernel_rfl) (by kernel_rfl) (fun _ _ _ h => h) (Or.inl ⟨by rfl, fun w' hSw => ?_⟩) (e3) ?_
                      · have m0 := keepAt hSw z0 c0; have m1 := keepAt hSw z0 c1; have m2 := keepAt hSw z0 c2; try clear hSw; go_simp; all_goals (with_reducible rfl)
                      try simp only [Act.put, List.setIfInBounds_toArray, List.set_cons_zero, List.set_cons_succ]
                      refine take_at 15 (some 106) (.int .i64 (i : Nat)) rfl rfl (by kernel_rfl) (by kernel_rfl) (by kernel_rfl) (fun _ _ _ h => h) (Or.inl ⟨by rfl, fun w' hSw => ?_⟩) (e3) ?_
                      · try clear hSw; go_simp; all_goals (with_reducible rfl)
                      try simp only [Act.put, List.setIfInBounds_toArray, List.set_cons_zero, List.set_cons_succ]
                      refine take_at 16 (some 107) (.pointer (some ⟨rb, ro + i, none⟩)) rfl rfl (by kernel_rfl) (by kernel_rfl) (by kernel_rfl) (fun _ _ _ h => h) (Or.inl ⟨by rfl, fun w' hSw => ?_⟩) (e3) ?_
                      · try clear hSw; go_simp; all_goals (with_reducible rfl)
                      try simp only [Act.put, List.setIfInBounds_toArray, List.set_cons_zero, List.set_cons_succ]
                      refine take_at 17 (some 108) (.slice (some ⟨qb, qo, none⟩) n rc) rfl rfl (by kernel_rfl) (by kernel_rfl) (by kernel_rfl) (fun _ _ _ h => h) (Or.inl ⟨by rfl, fun w' hSw => ?_⟩) (e3) ?_
                      · have m0 := keepAt hSw zb hR; try clear hSw; go_simp; all_goals (with_reducible rfl)
                      try simp only [Act.put, List.setIfInBounds_toArray, List.set_cons_zero, List.set_cons_succ]
                      refine take_at 18 (some 109) (.int .i64 (j : Nat)) rfl rfl (by kernel_rfl) (by kernel_rfl) (by kernel_rfl) (fun _ _ _ h => h) (Or.inl ⟨by rfl, fun w' hSw => ?_⟩) (e3) ?_
                      · try clear hSw; go_simp; all_goals (with_reducible rfl)
                      try simp only [Act.put, List.setIfInBounds_toArray, List.set_cons_zero, List.set_cons_succ]
                      refine take_at 19 (some 110) (.pointer (some ⟨qb, qo + j, none⟩)) rfl rfl (by kernel_rfl) (by kernel_rfl) (by kernel_rfl) (fun _ _ _ h => h) (Or.inl ⟨by rfl, fun w' hSw => ?_⟩) (e3) ?_
                      · try clear hSw; go_simp; all_goals (with_reducible rfl)
                      try simp only [Act.put, List.setIfInBounds_toArray, List.set_cons_zero, List.set_cons_succ]
                      refine take_at 20 (some 111) (.int .i64 chv) rfl rfl (by kernel_rfl) (by kernel_rfl) (by kernel_rfl) (fun _ _ _ h => h) (Or.inl ⟨by rfl, fun w' hSw => ?_⟩) (e3) ?_
                      · have m0 := keepAt hSw zq hQ; try clear hSw; go_simp; all_goals (with_reducible rfl)
                      try simp only [Act.put, List.setIfInBounds_toArray, List.set_cons_zero, List.set_cons_succ]
                      refine take_at 21 (some 112) (.slice (some ⟨tb, tof, none⟩) q tc) rfl rfl (by kernel_rfl) (by kernel_rfl) (by kernel_rfl) (fun _ _ _ h => h) (Or.inl ⟨by rfl, fun w' hSw => ?_⟩) (e3) ?_
                      · try clear hSw; go_simp; all_goals (with_reducible rfl)
                      try simp only [Act.put, List.setIfInBounds_toArray, List.set_cons_zero, List.set_cons_succ]
                      refine take_at 22 (some 113) (.int .i64 (n : Nat)) rfl rfl (by kernel_rfl) (by kernel_rfl) (by kernel_rfl) (fun _ _ _ h => h) (Or.inl ⟨by rfl, fun w' hSw => ?_⟩) (e3) ?_
                      · try clear hSw; go_simp; all_goals (with_reducible rfl)
                      try simp only [Act.put, List.setIfInBounds_toArray, List.set_cons_zero, List.set_cons_succ]
                      refine take_at 23 (some 114) (.int .i64 (s : Nat)) rfl rfl (by kernel_rfl) (by kernel_rfl) (by kernel_rfl) (fun _ _ _ h => h) (Or.inl ⟨by rfl, fun w' hSw => ?_⟩) (e3) ?_
                      · try clear hSw; go_simp; all_goals (with_reducible rfl)
                      try simp only [Act.put, List.setIfInBounds_toArray, List.set_cons_zero, List.set_cons_succ]
                      refine take_at 24 (some 115) (.int .i64 (j : Nat)) rfl rfl (by kernel_rfl) (by kernel_rfl) (by kernel_rfl) (fun _ _ _ h => h) (Or.inl ⟨by rfl, fun w' hSw => ?_⟩) (e3) ?_
                      · try clear hSw; go_simp; all_goals (with_reducible rfl)
                      try simp only [Act.put, List.setIfInBounds_toArray, List.set_cons_zero, List.set_cons_succ]
                      refine take_at 25 (some 116) (.int .i64 (px : Nat)) rfl rfl (by kernel_rfl) (by kernel_rfl) (by kernel_rfl) (fun _ _ _ h => h) (Or.inl ⟨by rfl, fun w' hSw => ?_⟩) (e3) ?_
                      · have y := HN.out.1; have yw := HN.out.2.1; try clear hSw; go_simp; all_goals (with_reducible rfl)
                      try simp only [Act.put, List.setIfInBounds_toArray, List.set_cons_zero, List.set_cons_succ]
                      refine take_at 26 (some 117) (.int .i64 (sx : Nat)) rfl rfl (by kernel_rfl) (by kernel_rfl) (by kernel_rfl) (fun _ _ _ h => h) (Or.inl ⟨by rfl, fun w' hSw => ?_⟩) (e3) ?_
                      · have y := HN.out.2.2.1; try clear hSw; go_simp; all_goals (with_reducible rfl)
                      try simp only [Act.put, List.setIfInBounds_toArray, List.set_cons_zero, List.set_cons_succ]
                      refine take_at 27 (some 118) (.int .i64 (nsx : Nat)) rfl rfl (by kernel_rfl) (by kernel_rfl) (by kernel_rfl) (fun _ _ _ h => h) (Or.inl ⟨by rfl, fun w' hSw => ?_⟩) (e3) ?_
                      · have y := HN.out.2.2.2.1; try clear hSw; go_simp; all_goals (with_reducible rfl)
                      try simp only [Act.put, List.setIfInBounds_toArray, List.set_cons_zero, List.set_cons_succ]
                      refine take_at 28 (some 119) (.int .i64 (j : Nat)) rfl rfl (by kernel_rfl) (by kernel_rfl) (by kernel_rfl) (fun _ _ _ h => h) (Or.inl ⟨by rfl, fun w' hSw => ?_⟩) (e3) ?_
                      · try clear hSw; go_simp; all_goals (with_reducible rfl)
                      try simp only [Act.put, List.setIfInBounds_toArray, List.set_cons_zero, List.set_cons_succ]
                      refine take_at 29 (some 120) (.int .i64 (num2 : Nat)) rfl rfl (by kernel_rfl) (by kernel_rfl) (by kernel_rfl) (fun _ _ _ h => h) (Or.inl ⟨by rfl, fun w' hSw => ?_⟩) (e3) ?_
                      · have y := HN.out.2.2.2.2.1; try clear hSw; go_simp; all_goals (with_reducible rfl)
                      try simp only [Act.put, List.setIfInBounds_toArray, List.set_cons_zero, List.set_cons_succ]
                      refine take_at 30 (some 121) (.pointer (some ⟨tb, tof + num2, none⟩)) rfl rfl (by kernel_rfl) (by kernel_rfl) (by kernel_rfl) (fun _ _ _ h => h) (Or.inl ⟨by rfl, fun w' hSw => ?_⟩) (e3) ?_
                      · try clear hSw; go_simp; all_goals (with_reducible rfl)
                      try simp only [Act.put, List.setIfInBounds_toArray, List.set_cons_zero, List.set_cons_succ]
                      refine take_at 31 (some 122) (.int .i64 tv2) rfl rfl (by kernel_rfl) (by kernel_rfl) (by kernel_rfl) (fun _ _ _ h => h) (Or.inl ⟨by rfl, fun w' hSw => ?_⟩) (e3) ?_
                      · have m0 := keepAt hSw tz2 tG2; try clear hSw; go_simp; all_goals (with_reducible rfl)
                      try simp only [Act.put, List.setIfInBounds_toArray, List.set_cons_zero, List.set_cons_succ]
                      refine take_at 32 (some 123) (.int .i64 sv) rfl rfl (by kernel_rfl) (by kernel_rfl) (by kernel_rfl) (fun _ _ _ h => h) (Or.inl ⟨by rfl, fun w' hSw => ?_⟩) (e3) ?_
                      · have y := HN.out.2.2.2.2.2; try clear hSw; go_simp; all_goals (with_reducible rfl)
                      try simp only [Act.put, List.setIfInBounds_toArray, List.set_cons_zero, List.set_cons_succ]
                      refine take_at 33 (some 124) (.bool be) rfl rfl (by kernel_rfl) (by kernel_rfl) (by kernel_rfl) (fun _ _ _ h => h) (Or.inl ⟨by rfl, fun w' hSw => ?_⟩) (e3) ?_
                      · have y := HBE.out; try clear hSw; go_simp; all_goals (with_reducible rfl)
                      try simp only [Act.put, List.setIfInBounds_toArray, List.set_cons_zero, List.set_cons_succ]
                      refine take_at 34 (some 125) (.bool be) rfl rfl (by kernel_rfl) (by kernel_rfl) (by kernel_rfl) (fun _ _ _ h => h) (Or.inl ⟨by rfl, fun w' hSw => ?_⟩) (e3) ?_
                      · try clear hSw; go_simp; all_goals (with_reducible rfl)
                      try simp only [Act.put, List.setIfInBounds_toArray, List.set_cons_zero, List.set_cons_succ]
                      refine wpAnyH_done (by kernel_rfl) ?_ _
                      refine NoPanic.normal ?_
                      have hin4 : Hid (Ext W1 v3) := Lib.hid (hin3.out.trans e3)
                      clear hb3 e3
                      clear c0 c1 c2 z0 hQ hR zb zq tG1 tG2 tz1 tz2
                      cases be
                      · have HN3 : Hid (sj = (sd1 && (List.range (j + 1)).all (c.sr2 t i s))) := Lib.hid (by rw [← HNX.out]; simp)
                        clear HBE
                        go_wp2
                        go_roundw
                        case rel => exact ⟨j + 1, sj, by go_num, by omega, rfl, HN3, hin4⟩
                        case measure => simp [intOf] <;> omega
                      · have HN3 : Hid (false = (sd1 && (List.range (j + 1)).all (c.sr2 t i s))) := Lib.hid (by rw [← HNX.out]; simp)
                        clear HBE
                        go_wp2
                        go_roundw
                        case rel => exact ⟨j + 1, false, by go_num, by omega, rfl, HN3, hin4⟩
                        case measure => simp [intOf] <;> omega
                  · obtain rfl : j = n := by omega
                    have hx9 : ¬ (j : Int) < (j : Int) := by omega
                    have HNX : Hid (sj = (sd && (List.range (s + 1)).all (c.sr1 t i))) := Lib.hid (by rw [hsj.out]; exact HEND.out)
                    clear c0 c1 c2 z0
                    go_wp2
                    go_roundw
                    case rel => first | exact ⟨s + 1, sj, by go_num, by omega, rfl, HNX, hin3⟩ | exact ⟨_, _, _, _, _, _, _, _, _, _, _, _, _, _, _, _, _, _, _, _, _, _, _, _, _, _, _, _, _, _, ⟨s + 1, sj, by go_num, by omega, rfl, HNX, hin3⟩, rfl⟩ | (trace_state; fail)
                    case measure => simp [intOf] <;> omega
          · obtain rfl : s = P := by omega
            have hx9 : ¬ (s : Int) < (s : Int) := by omega
            have HNX : Hid (se = (List.range (i + 1)).all fun i => (List.range (2 ^ c.n)).all (c.sr1 t i)) := Lib.hid (by
              rw [hse.out, range_all_succ, HSD.out, HCN.out, ← HP.out])
            go_wp2
            go_roundw
            case rel => exact ⟨i + 1, mv, se, by go_num, by omega, rfl, rfl, HLV.out, HNX, hin2⟩
            case measure => simp [intOf] <;> omega
    · obtain rfl : i = n := by omega
      have hx9 : ¬ (i : Int) < (i : Int) := by omega
      have HFI : Hid (lv = (c.chp t 0 0).2 ∧ sd = c.isSnd t) := Lib.hid (by
        have hna : (0 : Nat) ≠ c.all := fun e => by
          have h9 := all_bit c 0
          rw [← e, Nat.zero_testBit, decide_eq_true (by rw [HCN.out]; omega)] at h9
          cases h9
        refine ⟨?_, ?_⟩
        · rw [HLV0.out, ← HCN.out]
          refine lsR_chp (fun x hx _ => ?_) (has_next HH.out (Nat.two_pow_pos _) hna)
          have h1 := HBT.out (c.n * (0 ||| 2 ^ x) + x) (by rw [HQZ.out]; exact num_lt (or_lt (Nat.two_pow_pos _) hx) hx)
          have h2 := stp_bd HOK.out (s := 0) (l := 0) HOK.out.n1 hx
          unfold Crs.val; omega
        · rw [HSD.out, ← HCN.out]
          exact sndR_eq HOK.out.n1 HH.out (fun i _ => HEN.out i) t)
      clear c0 c1 c2 z0
      go_wp2
      refine bodyPost_ret (v := .tuple #[.int .i64 lv, .bool sd, .int .i64 0]) (by simp [results, Tryd.results39, go_sem]) rfl ?_
      exact ⟨by rw [HR.out.1, HR.out.2.1, HR.out.2.2, HFI.out.1, HFI.out.2], E1.out.trans hin.out⟩
end Go.Proofs.YtlachbodibajlaaDoor
