/- Walks: the reference's Best. · Walks: the law BathOrders. -/
import Derived.Test.YtlachbodibajlaaDoorM27
import Derived.Test.YtlachbodibajlaaDoorM21
import Derived.Test.YtlachbodibajlaaDoorM24
import Derived.Test.YtlachbodibajlaaDoorM25
namespace Go.Proofs.YtlachbodibajlaaDoor
open Go.RowKit Go.Shelf

theorem grd_last {c : Crs} {pr : Nat → Int} {k1 s l : Nat} : (c.grd pr (k1 + 1) s l).getD k1 0 = lst l (c.grd pr (k1 + 1) s l) := by
  rw [grd_snoc, lst_snoc]
  have hl := grd_len c pr k1 s l
  simp only [List.getD_eq_getElem?_getD]
  rw [List.getElem?_append_right (by omega), hl]
  simp

theorem fin_ne' {c : Crs} {o : List Nat} (h : c.fol 0 o = true) (ho : 0 < o.length) : fin 0 o ≠ 0 := fun e => by
  have := fol_cnt o 0 h
  rw [e, cntN_zero] at this
  omega

set_option maxHeartbeats 16000000 in
set_option maxRecDepth 100000 in
theorem bestR_any (S C B : Value) (n mc m : Nat) (st : Nat → Int) (ln : Nat → Nat) (y : Nat → Nat → Int) (a b : Nat → Int) (W : World) (h : Pv W S C B n mc m st ln y a b) :
    Calls Tryd.prog 34 #[.agg #[S, C, B]] W fun e W' => ∃ U, e = .returned (.tuple #[U, .int .i64 (bestE (okPlan n mc m st ln y a b) (crs n m st y a b))]) ∧ Il W' U (bestN (okPlan n mc m st ln y a b) (crs n m st y a b)) (fun i => (((crs n m st y a b).best.getD i 0 : Nat) : Int)) ∧ Ext W W' := by
  obtain ⟨re, hre⟩ : ∃ v, v = bestE (okPlan n mc m st ln y a b) (crs n m st y a b) := ⟨_, rfl⟩
  obtain ⟨rn, hrn⟩ : ∃ v, v = bestN (okPlan n mc m st ln y a b) (crs n m st y a b) := ⟨_, rfl⟩
  rw [← hre, ← hrn]
  have HR0 := Lib.hid (And.intro hre hrn)
  clear hre hrn
  have HV := Lib.hid h
  have HVA := Lib.hid fun X hX => validR_any S C B n mc m st ln y a b X hX
  have HPO := Lib.hid fun X hX hk => possible_any S C B n mc m st ln y a b X hX hk
  have HPS := Lib.hid fun X hX hk hh => pricesR_any S C B n mc m st ln y a b X hX hk hh
  have HFO := Lib.hid fun s j X hX hk hs hj => follows_any S C B n mc m st ln y a b s j X hX hk hs hj
  obtain ⟨A, k, rfl, hk1, hk2, -⟩ := id h.vs
  obtain ⟨A2, k2, rfl, hk3, hk4, hrow⟩ := id h.vc
  obtain ⟨A3, k3, rfl, -⟩ := id h.vb
  have HROW := Lib.hid hrow
  have E1 : Hid (Ext W (W.alloc (.cells #[.slice A n k, .slice A2 mc k2, .slice A3 m k3] 48))) := Lib.hid (al1 W _)
  have hbk := heap_alloc_new W (.cells #[.slice A n k, .slice A2 mc k2, .slice A3 m k3] 48)
  clear h hrow
  go_enter Tryd.func34, Tryd.ntmps34
  go_upto_region 1 with fail
  obtain ⟨s1, hs1⟩ : ∃ s, s = W.heap.size := ⟨_, rfl⟩
  rw [← hs1] at hbk ⊢
  generalize W.alloc (.cells #[.slice A n k, .slice A2 mc k2, .slice A3 m k3] 48) = W1 at *
  obtain ⟨c0, c1, c2, z0⟩ := three_c hbk
  have HB := Lib.hid hbk
  clear hbk hs1
  go_wp2_with fail
  refine (HVA.out _ (HV.out.ext E1.out)).mono ?_
  rintro e w2 ⟨rfl, hx⟩
  have HX2 := Lib.hid hx
  clear hx c0 c1 c2 z0
  obtain ⟨c0, c1, c2, z0⟩ := three_c (ext_ty' HX2.out HB.out)
  cases hok : okPlan n mc m st ln y a b
  · have HR : Hid (re = 2 ∧ rn = 0) := Lib.hid (by rw [HR0.out.1, HR0.out.2, hok]; exact ⟨rfl, rfl⟩)
    clear hok HR0 c0 c1 c2 z0
    go_wp2
    refine bodyPost_ret (v := .tuple #[.slice none 0 0, .int .i64 2]) (by simp [results, Tryd.results34, go_sem]) rfl ?_
    exact ⟨.slice none 0 0, by rw [HR.out.1], by rw [HR.out.2]; exact il_none _ _, E1.out.trans HX2.out⟩
  have hkp := okPlan_iff.1 hok
  have HK := Lib.hid hkp
  have hn10 := hkp.n10; have hn1 := hkp.n1
  have HPO2 := Lib.hid fun X hX => HPO.out X hX hkp
  have HPS2 := Lib.hid fun X hX hh => HPS.out X hX hkp hh
  have HF := Lib.hid fun s j X hX hs hj => HFO.out s j X hX hkp hs hj
  obtain ⟨c, hc⟩ : ∃ c, c = crs n m st y a b := ⟨_, rfl⟩
  have hcn : c.n = n := by rw [hc]; rfl
  have hcok : c.ok := by rw [hc]; exact hkp.crs
  have hcch : c.ch = y := by rw [hc]; rfl
  have hcst : c.st = st := by rw [hc]; rfl
  rw [← hc] at HPO2 HPS2 HF
  have HR1 : Hid (re = (if c.has = true then 0 else 7) ∧ rn = if c.has = true then c.n else 0) := Lib.hid (by rw [HR0.out.1, HR0.out.2, hok, hc]; exact ⟨rfl, rfl⟩)
  have HCN := Lib.hid hcn; have HCH := Lib.hid hcch; have HCS := Lib.hid hcst; have HOK := Lib.hid hcok; have HC9 := Lib.hid hc
  clear hok hkp hc hcn hcch hcst hcok HR0 HPO HPS HFO
  go_wp2_with fail
  refine (HPO2.out _ (HV.out.ext (E1.out.trans HX2.out))).mono ?_
  rintro e w3 ⟨rfl, hx⟩
  have HX3 := Lib.hid (HX2.out.trans hx)
  clear hx c0 c1 c2 z0
  obtain ⟨c0, c1, c2, z0⟩ := three_c (ext_ty' HX3.out HB.out)
  cases hh : c.has
  · have HR : Hid (re = 7 ∧ rn = 0) := Lib.hid (by rw [HR1.out.1, HR1.out.2, hh]; exact ⟨rfl, rfl⟩)
    clear hh c0 c1 c2 z0
    go_wp2
    refine bodyPost_ret (v := .tuple #[.slice none 0 0, .int .i64 7]) (by simp [results, Tryd.results34, go_sem]) rfl ?_
    exact ⟨.slice none 0 0, by rw [HR.out.1], by rw [HR.out.2]; exact il_none _ _, E1.out.trans HX3.out⟩
  have HR : Hid (re = 0 ∧ rn = c.n) := Lib.hid (by rw [HR1.out.1, HR1.out.2, hh]; exact ⟨rfl, rfl⟩)
  have HH := Lib.hid hh
  clear hh
  obtain ⟨i0, hi0, hz0, hz1, hz2⟩ := info_parts info3
  have HI := Lib.hid (And.intro hi0 (And.intro hz0 (And.intro hz1 hz2)))
  clear hi0 hz0 hz1 hz2
  go_wp2_with fail
  refine (HPS2.out _ (HV.out.ext (E1.out.trans HX3.out)) HH.out).mono ?_
  rintro e w5 ⟨T, rfl, hT, hx⟩
  obtain ⟨z, hz⟩ : ∃ z, z = c.sz := ⟨_, rfl⟩
  have hzl : z ≤ 10 * 1024 := by rw [hz]; exact Nat.mul_le_mul HOK.out.n10 (pow_1024 HOK.out.n10)
  rw [← hz] at hT
  have HZ := Lib.hid hz
  have HT := Lib.hid hT
  obtain ⟨TA, tc, rfl, -⟩ := id hT
  have HX5 := Lib.hid (HX3.out.trans hx)
  obtain ⟨base, hbase⟩ : ∃ b, b = w5.heap.size := ⟨_, rfl⟩
  have HBS : Hid (base = w5.heap.size) := Lib.hid hbase
  clear hx hT hz hbase c0 c1 c2 z0
  go_wp2_with fail
  go_loopw [6, 7, 24, 27] (fun u sv iv _ wr => ∃ (kk s : Nat) (V : Value), iv = .int .i64 kk ∧ kk ≤ n ∧ V = u ∧ sv = .int .i64 s ∧ Hid (s = fin 0 (c.grd c.pz kk 0 0)) ∧ Hid (Qs wr base V kk (fun t => (((c.grd c.pz kk 0 0).getD t 0 : Nat) : Int)) ∧ Ext w5 wr)) (fun _ _ iv _ _ => n - (intOf iv).toNat)
  case atStart => exact ⟨0, 0, .slice none 0 0, rfl, Nat.zero_le _, rfl, rfl, Lib.hid rfl, Lib.hid ⟨Qs.nil _ _ _, Ext.refl _⟩⟩
  case round =>
    obtain ⟨kk, s, V, rfl, hkk, rfl, rfl, hs, hin⟩ := hrel
    by_cases hlt : kk < n
    · obtain ⟨yb, hyn, hsv, hlv, hcan, hchp, hsn⟩ := grd_at HH.out HOK.out.n1 c.pz (j := kk) (by rw [HCN.out]; exact hlt)
      rw [← hs.out] at hsv hcan hchp
      obtain ⟨lv, hl9⟩ : ∃ l, l = lst 0 (c.grd c.pz kk 0 0) := ⟨_, rfl⟩
      rw [← hl9] at hlv hchp
      rw [HCN.out] at hsv hyn hlv
      have HSN := Lib.hid hsv; have HLV := Lib.hid hlv; have HL9 := Lib.hid hl9
      have hs10 : s < 1024 := Nat.lt_of_lt_of_le hsv (pow_1024 hn10)
      have hckr := ckR_chp (c := c) (pr := c.pz) (s := s) (l := lv) (F := 1099511627776) (fun x hx _ => by
        have h1 := pz_bd HOK.out (c.n * (s ||| 2 ^ x) + x)
        have h2 := stp_bd HOK.out (s := s) (l := lv) (by rw [HCN.out]; exact hlv) hx
        unfold Crs.val; omega) ⟨yb, by rw [HCN.out]; exact hyn, hcan⟩
      have HCK : Hid (((List.range n).foldl (c.ckR c.pz s lv) (-1, 1099511627776)).1 = (yb : Int)) := Lib.hid (by rw [← HCN.out, hckr]; exact hchp)
      have HSN2 := Lib.hid hsn
      obtain ⟨VA, vc, hVs, hvc1, hvc2, -⟩ := Qs.il hin.out.1
      subst hVs
      clear hsv hlv hl9 hckr hchp hcan hsn
      obtain ⟨wo, hwo⟩ : ∃ w, w = wr := ⟨_, rfl⟩
      subst hwo
      go_wp2_with fail
      go_loopw [8, 9, 27] (fun bw dw tv wz => ∃ (t : Nat) (bb dd : Int), tv = .int .i64 t ∧ t ≤ n ∧ bw = .int .i64 bb ∧ dw = .int .i64 dd ∧ Hid ((bb, dd) = (List.range t).foldl (c.ckR c.pz s lv) (-1, 1099511627776)) ∧ Hid (Ext wo wz)) (fun _ _ tv _ => n - (intOf tv).toNat)
      case atStart => exact ⟨0, -1, 1099511627776, rfl, Nat.zero_le _, rfl, rfl, Lib.hid rfl, Lib.hid (Ext.refl _)⟩
      case round =>
        obtain ⟨t, bb, dd, rfl, ht, rfl, rfl, hbd, hin3⟩ := hrel
        obtain ⟨c0, c1, c2, z0⟩ := three_c (ext_ty' (HX5.out.trans (hin.out.2.trans hin3.out)) HB.out)
        by_cases htn : t < n
        · have hstep : (List.range (t + 1)).foldl (c.ckR c.pz s lv) (-1, 1099511627776) = c.ckR c.pz s lv (bb, dd) t := by rw [List.range_succ, List.foldl_append, ← hbd.out]; rfl
          have HST := Lib.hid hstep
          clear hstep
          go_wp2_with fail
          refine (HF.out s t _ (HV.out.ext (E1.out.trans (HX5.out.trans (hin.out.2.trans hin3.out)))) HSN.out htn).mono ?_
          rintro e w8 ⟨rfl, hx⟩
          have hin4 := Lib.hid (hin3.out.trans hx)
          replace c0 := hx.at z0 c0
          replace c1 := hx.at z0 c1
          replace c2 := hx.at z0 c2
          replace z0 := Nat.lt_of_lt_of_le z0 hx.size
          clear hx
          cases hcan : c.can s t
          · have hg : c.ckR c.pz s lv (bb, dd) t = (bb, dd) := by unfold Crs.ckR; rw [hcan]; rfl
            have HG := Lib.hid hg
            clear hg hcan c0 c1 c2 z0
            go_wp2
            go_roundw
            case rel => exact ⟨t + 1, bb, dd, by go_num, by omega, rfl, rfl, Lib.hid (by rw [HST.out, HG.out]), hin4⟩
            case measure => simp [intOf] <;> omega
          · have HCAN := Lib.hid hcan
            have hEX := E1.out.trans (HX5.out.trans (hin.out.2.trans hin4.out))
            have hET := hin.out.2.trans hin4.out
            obtain ⟨sb, so, rfl, sz, sc⟩ := Vl.at HV.out.vs hEX htn
            try dsimp only at sc
            obtain ⟨v0, hv0⟩ : ∃ v, v = st t := ⟨_, rfl⟩
            rw [← hv0] at sc
            have ht10 : t < 10 := by omega
            obtain ⟨px, hpx⟩ : ∃ a : Nat, a = 2 ^ t := ⟨_, rfl⟩
            obtain ⟨sx, hsx⟩ : ∃ a : Nat, a = s ||| 2 ^ t := ⟨_, rfl⟩
            have hpl : px < 1024 := by rw [hpx]; exact Nat.lt_of_lt_of_le (Nat.pow_lt_pow_right (by omega) htn) (pow_1024 hn10)
            have hsxl : sx < 2 ^ c.n := by rw [hsx]; exact or_lt (by rw [HCN.out]; exact HSN.out) (by rw [HCN.out]; exact htn)
            have hsx10 : sx < 1024 := Nat.lt_of_lt_of_le hsxl (by rw [HCN.out]; exact pow_1024 hn10)
            obtain ⟨nsx, hnsx⟩ : ∃ a : Nat, a = n * sx := ⟨_, rfl⟩
            have hnsxl : nsx ≤ 10 * 1024 := by rw [hnsx]; exact Nat.mul_le_mul hn10 (by omega)
            obtain ⟨num2, hnum2⟩ : ∃ a : Nat, a = nsx + t := ⟨_, rfl⟩
            have hzz2 : num2 < z := by
              rw [hnum2, hnsx, HZ.out, ← HCN.out]; exact num_lt hsxl (by rw [HCN.out]; exact htn)
            obtain ⟨tb, tof, rfl, tz, tG⟩ := Vl.at HT.out hET hzz2
            try dsimp only at tG
            obtain ⟨pv, hpv⟩ : ∃ v, v = c.pz num2 := ⟨_, rfl⟩
            rw [← hpv] at tG
            obtain ⟨stv, hstv⟩ : ∃ v, v = c.stp s lv t := ⟨_, rfl⟩
            obtain ⟨sv9, hsv9⟩ : ∃ v, v = stv + pv := ⟨_, rfl⟩
            have hb1 := pz_bd HOK.out num2
            rw [← hpv] at hb1
            have hb2 := stp_bd HOK.out (s := s) (l := lv) (x := t) (by rw [HCN.out]; exact HLV.out) (by rw [HCN.out]; exact htn)
            rw [← hstv] at hb2
            have y1 : (2 : Int) ^ t = (px : Int) := by rw [hpx]; simp
            have y2 : bits .or .i64 (s : Int) (px : Int) = (sx : Int) := by rw [or_nat hs10 hpl, hsx, hpx]
            have y4 : IntKind.i64.wrap (px : Int) = (px : Int) := IntWalk.i64_in _ (by omega)
            have y5 : IntKind.i64.wrap ((n : Int) * (sx : Int)) = (nsx : Int) := by rw [show (n : Int) * (sx : Int) = (nsx : Int) by rw [hnsx]; simp]; exact IntWalk.i64_in _ (by omega)
            have y6 : IntKind.i64.wrap ((nsx : Int) + (t : Int)) = (num2 : Int) := by rw [show (nsx : Int) + (t : Int) = (num2 : Int) by rw [hnum2]; simp]; exact IntWalk.i64_in _ (by omega)
            have y7 : IntKind.i64.wrap (stv + pv) = sv9 := by rw [hsv9]; exact IntWalk.i64_in _ (by omega)
            have HSV : Hid (c.val c.pz s lv t = sv9) := Lib.hid (by unfold Crs.val; rw [hsv9, hstv, hpv, hnum2, hnsx, hsx, HCN.out])
            have HSTV : Hid (stv = if s = 0 then v0 else y lv t) := Lib.hid (by rw [hstv, hv0]; unfold Crs.stp; rw [HCS.out, HCH.out])
            clear hcan hpx hsx hpl hsxl hsx10 hnsx hnsxl hnum2 hpv hstv hsv9 hb1 hb2 hv0
            by_cases hk0 : kk = 0
            · have hs0 : s = 0 := by rw [hs.out, hk0]; rfl
              have hst0 : stv = v0 := by rw [HSTV.out, if_pos hs0]
              have hgt : ¬ (0 : Int) < (kk : Int) := by omega
              subst hst0
              have hin5 := hin4
              clear hk0 hs0 hEX hET
              by_cases hlt9 : sv9 < dd
              · have HBB : Hid ((List.range (t + 1)).foldl (c.ckR c.pz s lv) (-1, 1099511627776) = ((t : Int), sv9)) := Lib.hid (by rw [HST.out]; unfold Crs.ckR; rw [HCAN.out, HSV.out]; rw [if_pos rfl, if_pos hlt9])
                go_wp2
                go_roundw
                case rel => exact ⟨t + 1, (t : Int), sv9, by go_num, by omega, rfl, rfl, Lib.hid HBB.out.symm, hin5⟩
                case measure => simp [intOf] <;> omega
              · have HBB : Hid ((List.range (t + 1)).foldl (c.ckR c.pz s lv) (-1, 1099511627776) = (bb, dd)) := Lib.hid (by rw [HST.out]; unfold Crs.ckR; rw [HCAN.out, HSV.out]; rw [if_pos rfl, if_neg hlt9])
                go_wp2
                go_roundw
                case rel => exact ⟨t + 1, bb, dd, by go_num, by omega, rfl, rfl, Lib.hid HBB.out.symm, hin5⟩
                case measure => simp [intOf] <;> omega
            · have hs0 : s ≠ 0 := by
                rw [hs.out]
                exact fin_ne' (grd_fol HH.out c.pz kk 0 0 (by rw [cntN_zero, HCN.out]; omega) (Nat.two_pow_pos _)) (by rw [grd_len]; omega)
              have hst0 : stv = y lv t := by rw [HSTV.out, if_neg hs0]
              have hgt : (0 : Int) < (kk : Int) := by omega
              obtain ⟨k1, hk19⟩ : ∃ k1, kk = k1 + 1 := ⟨kk - 1, by omega⟩
              have hk1l : k1 < kk := by omega
              have y8 : IntKind.i64.wrap ((kk : Int) - 1) = (k1 : Int) := by rw [show (kk : Int) - 1 = (k1 : Int) by omega]; exact IntWalk.i64_in _ (by omega)
              have HN1 := Lib.hid y8
              obtain ⟨vb, vo, rfl, vz, vcell⟩ := Vl.at (Qs.il hin.out.1) hin4.out hk1l
              try dsimp only at vcell
              have hlast : (c.grd c.pz kk 0 0).getD k1 0 = lv := by rw [hk19, grd_last, ← hk19]; exact HL9.out.symm
              rw [hlast] at vcell
              have hlvmc : lv < mc := by have := HK.out.mn; have := HLV.out; omega
              obtain ⟨rb, ro, rfl, zb, hrr⟩ := HROW.out (by omega)
              obtain ⟨R, hR, hRl⟩ := hrr lv hlvmc
              have hln := HK.out.ln lv HLV.out
              rw [hln] at hRl
              obtain ⟨RA, rc, rfl, hr1, hr2, -⟩ := id hRl
              obtain ⟨qb, qo, rfl, zq, hQ⟩ := Vl.at hRl hEX htn
              try dsimp only at hQ
              rw [← hst0] at hQ
              replace hR := hEX.at zb hR
              replace zb := Nat.lt_of_lt_of_le zb hEX.size
              clear hk0 hs0 hst0 hk19 y8 hlast hrr hRl hln hr1 hr2 hEX hET
              go_upto_region 18 with fail
              refine wp_region_noPanic ?_
              refine wp_region_held_drew (S := fun X => Ext w8 X) (by kernel_rfl) (Ext.drw (Ext.refl _)) (fun _ => ?_)
              refine take_at 0 (some 43) (.pointer (some ⟨s1, 1, none⟩)) rfl rfl (by kernel_rfl) (by kernel_rfl) (by kernel_rfl) (fun _ _ _ h => h) (Or.inl ⟨by rfl, fun w' hSw => ?_⟩) (Ext.drw (Ext.refl _)) ?_
              · skip
                try clear hSw
                go_simp
                all_goals (with_reducible rfl)
              try simp only [Act.put, List.setIfInBounds_toArray, List.set_cons_zero, List.set_cons_succ]
              refine take_at 1 (some 44) (.slice (some ⟨rb, ro, none⟩) mc k2) rfl rfl (by kernel_rfl) (by kernel_rfl) (by kernel_rfl) (fun _ _ _ h => h) (Or.inl ⟨by rfl, fun w' hSw => ?_⟩) (Ext.drw (Ext.refl _)) ?_
              · have m0 := keepAt hSw z0 c0
                have m1 := keepAt hSw z0 c1
                have m2 := keepAt hSw z0 c2
                try clear hSw
                go_simp
                all_goals (with_reducible rfl)
              try simp only [Act.put, List.setIfInBounds_toArray, List.set_cons_zero, List.set_cons_succ]
              refine take_at 2 (some 45) (.slice (some ⟨vb, vo, none⟩) kk vc) rfl rfl (by kernel_rfl) (by kernel_rfl) (by kernel_rfl) (fun _ _ _ h => h) (Or.inl ⟨by rfl, fun w' hSw => ?_⟩) (Ext.drw (Ext.refl _)) ?_
              · skip
                try clear hSw
                go_simp
                all_goals (with_reducible rfl)
              try simp only [Act.put, List.setIfInBounds_toArray, List.set_cons_zero, List.set_cons_succ]
              refine take_at 3 (some 46) (.slice (some ⟨vb, vo, none⟩) kk vc) rfl rfl (by kernel_rfl) (by kernel_rfl) (by kernel_rfl) (fun _ _ _ h => h) (Or.inl ⟨by rfl, fun w' hSw => ?_⟩) (Ext.drw (Ext.refl _)) ?_
              · skip
                try clear hSw
                go_simp
                all_goals (with_reducible rfl)
              try simp only [Act.put, List.setIfInBounds_toArray, List.set_cons_zero, List.set_cons_succ]
              refine take_at 4 (some 47) (.int .i64 (kk : Nat)) rfl rfl (by kernel_rfl) (by kernel_rfl) (by kernel_rfl) (fun _ _ _ h => h) (Or.inl ⟨by rfl, fun w' hSw => ?_⟩) (Ext.drw (Ext.refl _)) ?_
              · skip
                try clear hSw
                go_simp
                all_goals (with_reducible rfl)
              try simp only [Act.put, List.setIfInBounds_toArray, List.set_cons_zero, List.set_cons_succ]
              refine take_at 5 (some 48) (.int .i64 (k1 : Nat)) rfl rfl (by kernel_rfl) (by kernel_rfl) (by kernel_rfl) (fun _ _ _ h => h) (Or.inl ⟨by rfl, fun w' hSw => ?_⟩) (Ext.drw (Ext.refl _)) ?_
              · have y := HN1.out
                try clear hSw
                go_simp
                all_goals (with_reducible rfl)
              try simp only [Act.put, List.setIfInBounds_toArray, List.set_cons_zero, List.set_cons_succ]
              refine take_at 6 (some 49) (.pointer (some ⟨vb, vo + k1, none⟩)) rfl rfl (by kernel_rfl) (by kernel_rfl) (by kernel_rfl) (fun _ _ _ h => h) (Or.inl ⟨by rfl, fun w' hSw => ?_⟩) (Ext.drw (Ext.refl _)) ?_
              · skip
                try clear hSw
                go_simp
                all_goals (with_reducible rfl)
              try simp only [Act.put, List.setIfInBounds_toArray, List.set_cons_zero, List.set_cons_succ]
              refine take_at 7 (some 50) (.int .i64 (lv : Nat)) rfl rfl (by kernel_rfl) (by kernel_rfl) (by kernel_rfl) (fun _ _ _ h => h) (Or.inl ⟨by rfl, fun w' hSw => ?_⟩) (Ext.drw (Ext.refl _)) ?_
              · have m0 := keepAt hSw vz vcell
                try clear hSw
                go_simp
                all_goals (with_reducible rfl)
              try simp only [Act.put, List.setIfInBounds_toArray, List.set_cons_zero, List.set_cons_succ]
              refine take_at 8 (some 51) (.pointer (some ⟨rb, ro + lv, none⟩)) rfl rfl (by kernel_rfl) (by kernel_rfl) (by kernel_rfl) (fun _ _ _ h => h) (Or.inl ⟨by rfl, fun w' hSw => ?_⟩) (Ext.drw (Ext.refl _)) ?_
              · skip
                try clear hSw
                go_simp
                all_goals (with_reducible rfl)
              try simp only [Act.put, List.setIfInBounds_toArray, List.set_cons_zero, List.set_cons_succ]
              refine take_at 9 (some 52) (.slice (some ⟨qb, qo, none⟩) n rc) rfl rfl (by kernel_rfl) (by kernel_rfl) (by kernel_rfl) (fun _ _ _ h => h) (Or.inl ⟨by rfl, fun w' hSw => ?_⟩) (Ext.drw (Ext.refl _)) ?_
              · have m0 := keepAt hSw zb hR
                try clear hSw
                go_simp
                all_goals (with_reducible rfl)
              try simp only [Act.put, List.setIfInBounds_toArray, List.set_cons_zero, List.set_cons_succ]
              refine take_at 10 (some 53) (.int .i64 (t : Nat)) rfl rfl (by kernel_rfl) (by kernel_rfl) (by kernel_rfl) (fun _ _ _ h => h) (Or.inl ⟨by rfl, fun w' hSw => ?_⟩) (Ext.drw (Ext.refl _)) ?_
              · skip
                try clear hSw
                go_simp
                all_goals (with_reducible rfl)
              try simp only [Act.put, List.setIfInBounds_toArray, List.set_cons_zero, List.set_cons_succ]
              refine take_at 11 (some 54) (.pointer (some ⟨qb, qo + t, none⟩)) rfl rfl (by kernel_rfl) (by kernel_rfl) (by kernel_rfl) (fun _ _ _ h => h) (Or.inl ⟨by rfl, fun w' hSw => ?_⟩) (Ext.drw (Ext.refl _)) ?_
              · skip
                try clear hSw
                go_simp
                all_goals (with_reducible rfl)
              try simp only [Act.put, List.setIfInBounds_toArray, List.set_cons_zero, List.set_cons_succ]
              refine take_at 12 (some 55) (.int .i64 stv) rfl rfl (by kernel_rfl) (by kernel_rfl) (by kernel_rfl) (fun _ _ _ h => h) (Or.inl ⟨by rfl, fun w' hSw => ?_⟩) (Ext.drw (Ext.refl _)) ?_
              · have m0 := keepAt hSw zq hQ
                try clear hSw
                go_simp
                all_goals (with_reducible rfl)
              try simp only [Act.put, List.setIfInBounds_toArray, List.set_cons_zero, List.set_cons_succ]
              refine take_at 13 (some 11) (.int .i64 stv) rfl rfl (by kernel_rfl) (by kernel_rfl) (by kernel_rfl) (fun _ _ _ h => h) (Or.inl ⟨by rfl, fun w' hSw => ?_⟩) (Ext.drw (Ext.refl _)) ?_
              · skip
                try clear hSw
                go_simp
                all_goals (with_reducible rfl)
              try simp only [Act.put, List.setIfInBounds_toArray, List.set_cons_zero, List.set_cons_succ]
              refine wpAnyH_done (by kernel_rfl) ?_ _
              refine NoPanic.normal ?_
              have hin5 := Lib.hid (hin4.out.drw)
              replace tG := (Ext.drw (Ext.refl w8)).at tz tG
              replace tz := Nat.lt_of_lt_of_le tz (Ext.drw (Ext.refl w8)).size
              generalize w8.drew = w9 at *
              clear c0 c1 c2 z0 sc sz vcell vz hR zb hQ zq
              by_cases hlt9 : sv9 < dd
              · have HBB : Hid ((List.range (t + 1)).foldl (c.ckR c.pz s lv) (-1, 1099511627776) = ((t : Int), sv9)) := Lib.hid (by rw [HST.out]; unfold Crs.ckR; rw [HCAN.out, HSV.out]; rw [if_pos rfl, if_pos hlt9])
                go_wp2
                go_roundw
                case rel => exact ⟨t + 1, (t : Int), sv9, by go_num, by omega, rfl, rfl, Lib.hid HBB.out.symm, hin5⟩
                case measure => simp [intOf] <;> omega
              · have HBB : Hid ((List.range (t + 1)).foldl (c.ckR c.pz s lv) (-1, 1099511627776) = (bb, dd)) := Lib.hid (by rw [HST.out]; unfold Crs.ckR; rw [HCAN.out, HSV.out]; rw [if_pos rfl, if_neg hlt9])
                go_wp2
                go_roundw
                case rel => exact ⟨t + 1, bb, dd, by go_num, by omega, rfl, rfl, Lib.hid HBB.out.symm, hin5⟩
                case measure => simp [intOf] <;> omega
        · obtain rfl : t = n := by omega
          have hx9 : ¬ (t : Int) < (t : Int) := by omega
          obtain rfl : bb = (yb : Int) := by
            have h1 := HCK.out
            rw [← hbd.out] at h1; exact h1
          have hy10 : yb < 10 := by omega
          obtain ⟨px, hpx⟩ : ∃ a : Nat, a = 2 ^ yb := ⟨_, rfl⟩
          obtain ⟨sx, hsx⟩ : ∃ a : Nat, a = s ||| 2 ^ yb := ⟨_, rfl⟩
          have hpl : px < 1024 := by rw [hpx]; exact Nat.lt_of_lt_of_le (Nat.pow_lt_pow_right (by omega) hyn) (pow_1024 hn10)
          have y1 : (2 : Int) ^ yb = (px : Int) := by rw [hpx]; simp
          have y2 : bits .or .i64 (s : Int) (px : Int) = (sx : Int) := by rw [or_nat hs10 hpl, hsx, hpx]
          have y4 : IntKind.i64.wrap (px : Int) = (px : Int) := IntWalk.i64_in _ (by omega)
          have HSX : Hid (sx = fin 0 (c.grd c.pz (kk + 1) 0 0)) := Lib.hid (by rw [HSN2.out, fin_snoc, ← hs.out, hsx])
          have hq3 := hin.out.1.ext hin3.out
          have HF9 := Lib.hid (And.intro hq3 (hin.out.2.trans hin3.out))
          clear hpx hsx hpl hq3 c0 c1 c2 z0
          go_wp2_with (at_builtin; refine wpList_append_q rfl _ _ 32 rfl i0 Tryd.underlying32 HI.out.1 HI.out.2.1 HI.out.2.2.1 HI.out.2.2.2 base _ kk (fun t => (((c.grd c.pz kk 0 0).getD t 0 : Nat) : Int)) rfl ?qs ?base ⟨wr.heap.size, 0, none⟩ 1 yb rfl ?cell ?n ?_)
          case qs => exact HF9.out.1.ext (Ext.alc (Ext.refl _) _)
          case base => have := HF9.out.2.size; have := HBS.out; simp; omega
          case n => omega
          intro v' w6 hq6 hgr
          have hX6 : Ext w5 w6 := hgr.ext (HF9.out.2.alc _) (fun b hb => by have := (HF9.out.1.1 b hb).1; have := HBS.out; omega)
          have HG := Lib.hid (And.intro hq6 hX6)
          clear hq6 hgr hX6
          go_wp2
          go_roundw
          case rel =>
            refine ⟨kk + 1, sx, v', by go_num, by omega, rfl, rfl, HSX, Lib.hid ⟨HG.out.1.congr fun i hi => ?_, HG.out.2⟩⟩
            rw [HSN2.out]
            have hl := grd_len c c.pz kk 0 0
            by_cases e : i = kk
            · subst e
              rw [up_self]; simp only [List.getD_eq_getElem?_getD]; rw [List.getElem?_append_right (by omega), hl]
              simp
            · rw [up_ne _ _ e]; simp only [List.getD_eq_getElem?_getD]; rw [List.getElem?_append_left (by omega)]
          case measure => simp [intOf] <;> omega
    · obtain rfl : kk = n := by omega
      have hx9 : ¬ (kk : Int) < (kk : Int) := by omega
      obtain ⟨VA, vc, hVs, -⟩ := Qs.il hin.out.1
      subst hVs
      go_wp2
      refine bodyPost_ret (v := .tuple #[.slice VA kk vc, .int .i64 0]) (by simp [results, Tryd.results34, go_sem]) rfl ?_
      refine ⟨_, by rw [HR.out.1], ?_, E1.out.trans (HX5.out.trans hin.out.2)⟩
      rw [HR.out.2, HCN.out, ← HC9.out]
      have h9 := Qs.il hin.out.1
      have h8 : c.best = c.grd c.pz kk 0 0 := by unfold Crs.best; rw [HCN.out]
      rw [h8]
      exact h9
end Go.Proofs.YtlachbodibajlaaDoor
namespace Go.Proofs.YtlachbodibajlaaDoor
open Go.RowKit Go.Shelf

/-- the cut is the plan, or both are not valid -/
theorem cut_same {n mc m : Nat} {st : Nat → Int} {ln : Nat → Nat} {y : Nat → Nat → Int} {a b : Nat → Int} : okPlan (min n 12) (min mc 12) (min m 42) st (fun i => min (ln i) 12) y a b = okPlan n mc m st ln y a b := by
  rw [Bool.eq_iff_iff, okPlan_iff, okPlan_iff]
  exact Okp.cut
theorem cut_crs {n mc m : Nat} {st : Nat → Int} {ln : Nat → Nat} {y : Nat → Nat → Int} {a b : Nat → Int} (h : okPlan n mc m st ln y a b = true) : crs (min n 12) (min m 42) st y a b = crs n m st y a b := by
  have hk := okPlan_iff.1 h
  have h1 := hk.n10
  have h2 := hk.m40
  rw [show min n 12 = n by omega, show min m 42 = m by omega]
theorem costV_no (c : Crs) (k : Nat) (x : Nat → Int) : costV false c k x = 0 := rfl
theorem costE_no (c : Crs) (k : Nat) (x : Nat → Int) : costE false c k x = 2 := rfl

set_option maxHeartbeats 16000000 in
set_option maxRecDepth 100000 in
theorem bathOrders_walk (S C B O : Value) (n mc m : Nat) (st : Nat → Int) (ln : Nat → Nat) (y : Nat → Nat → Int) (a b : Nat → Int) (q : Nat) (x : Nat → Int) (W : World) (h : Pv W S C B n mc m st ln y a b) (hO : Il W O q x) :
    Calls Tryd.prog 9 #[.agg #[S, C, B], O] W fun e W' => e = .returned (.bool true) ∧ Ext W W' := by
  have HV := Lib.hid h
  have HOF := Lib.hid fun X hX => of_any S C B n mc m st ln y a b X hX
  have HBS := Lib.hid fun (X : World) (S C B : Value) (hX : Pv X S C B (min n 12) (min mc 12) (min m 42) st (fun i => min (ln i) 12) y a b) => Best_any S C B _ _ _ st _ y a b X hX
  have HCS := Lib.hid fun (X : World) (S C B : Value) (hX : Pv X S C B (min n 12) (min mc 12) (min m 42) st (fun i => min (ln i) 12) y a b) O q x (hO : Il X O q x) => Cost_any S C B O _ _ _ st _ y a b q x X hX hO
  have HCR := Lib.hid fun X hX (hO : Il X O q x) => costR_any S C B n mc m st ln y a b O q x X hX hO
  have HBR := Lib.hid fun X hX => bestR_any S C B n mc m st ln y a b X hX
  obtain ⟨A, k, rfl, -⟩ := id h.vs
  obtain ⟨A2, k2, rfl, -⟩ := id h.vc
  obtain ⟨A3, k3, rfl, -⟩ := id h.vb
  obtain ⟨OA, ok, rfl, -⟩ := id hO
  simp only [cut_same] at HBS HCS
  have e1 : Ext W (W.alloc (.cells #[.slice A n k, .slice A2 mc k2, .slice A3 m k3] 48)) := al1 W _
  have hbk := heap_alloc_new W (.cells #[.slice A n k, .slice A2 mc k2, .slice A3 m k3] 48)
  have HO := Lib.hid (hO.ext e1)
  have hv1 : ∃ (v e : Int) (r : Int) (l : Nat) (f : Nat → Int), costV (okPlan n mc m st ln y a b) (crs (min n 12) (min m 42) st y a b) q x = v ∧ costE (okPlan n mc m st ln y a b) (crs (min n 12) (min m 42) st y a b) q x = e ∧ costV (okPlan n mc m st ln y a b) (crs n m st y a b) q x = v ∧ costE (okPlan n mc m st ln y a b) (crs n m st y a b) q x = e ∧
      bestE (okPlan n mc m st ln y a b) (crs (min n 12) (min m 42) st y a b) = r ∧ bestE (okPlan n mc m st ln y a b) (crs n m st y a b) = r ∧ bestN (okPlan n mc m st ln y a b) (crs (min n 12) (min m 42) st y a b) = l ∧ bestN (okPlan n mc m st ln y a b) (crs n m st y a b) = l ∧ l ≤ 100000 ∧
      (∀ (X : World) (U : Value), Il X U l (fun i => (((crs (min n 12) (min m 42) st y a b).best.getD i 0 : Nat) : Int)) → Il X U l f) ∧ (∀ (X : World) (U : Value), Il X U l (fun i => (((crs n m st y a b).best.getD i 0 : Nat) : Int)) → Il X U l f) := by
    cases hk : okPlan n mc m st ln y a b
    · refine ⟨0, 2, 2, 0, fun _ => 0, rfl, rfl, rfl, rfl, rfl, rfl, rfl, rfl, by omega, fun X U h => Vl.congr h fun j hj => absurd hj (Nat.not_lt_zero _), fun X U h => Vl.congr h fun j hj => absurd hj (Nat.not_lt_zero _)⟩
    · rw [cut_crs hk]
      refine ⟨_, _, _, _, _, rfl, rfl, rfl, rfl, rfl, rfl, rfl, rfl, ?_, fun X U h => h, fun X U h => h⟩
      unfold bestN
      have h9 := (okPlan_iff.1 hk).n10
      have h8 : (crs n m st y a b).n = n := rfl
      split
      · split
        · omega
        · omega
      · omega
  obtain ⟨cv, ce, be, bl, bf, h1, h2, h3, h4, h5, h6, h7, h8, h9, h10, h11⟩ := hv1
  have HA := Lib.hid (And.intro h1 h2); have HB3 := Lib.hid (And.intro h3 h4)
  have HIA := Lib.hid h10; have HIB := Lib.hid h11
  simp only [h5, h7] at HBS
  simp only [h6, h8] at HBR
  have HCSa := Lib.hid fun (X : World) (S C B : Value) (hX : Pv X S C B (min n 12) (min mc 12) (min m 42) st (fun i => min (ln i) 12) y a b) (O : Value) (hO : Il X O q x) => HCS.out X S C B hX O q x hO
  simp only [h1, h2] at HCSa
  simp only [h3, h4] at HCR
  clear h hO h1 h2 h3 h4 h5 h6 h7 h8 h10 h11 HA HB3 HCS
  have hbl := h9
  clear h9
  go_enter Tryd.func9, Tryd.ntmps9
  go_upto_region 1 with fail
  obtain ⟨s1, hs1⟩ : ∃ s, s = W.heap.size := ⟨_, rfl⟩
  rw [← hs1] at hbk ⊢
  generalize W.alloc (.cells #[.slice A n k, .slice A2 mc k2, .slice A3 m k3] 48) = W1 at *
  have HB := Lib.hid hbk
  have HX := Lib.hid (Ext.refl W1)
  have E1 := Lib.hid e1
  clear hbk hs1 e1
  obtain ⟨c0, c1, c2, z0⟩ := three_c (ext_ty HX.out HB.out)
  go_wp2_with fail
  refine (HOF.out _ (HV.out.ext (E1.out.trans HX.out))).mono ?_
  rintro e w1 ⟨S1, C1, B1, rfl, hp, hx⟩
  replace HX := Lib.hid (HX.out.trans hx)
  replace HO := Lib.hid (HO.out.ext hx)
  have HP1 := Lib.hid hp
  clear hp hx c0 c1 c2 z0
  go_wp2_with fail
  refine (HCSa.out _ _ _ _ HP1.out _ HO.out).mono ?_
  rintro e w1x ⟨rfl, hx⟩
  replace HX := Lib.hid (HX.out.trans hx)
  replace HO := Lib.hid (HO.out.ext hx)
  clear hx
  obtain ⟨c0, c1, c2, z0⟩ := three_c (ext_ty HX.out HB.out)
  go_wp2_with fail
  refine (HCR.out _ (HV.out.ext (E1.out.trans HX.out)) HO.out).mono ?_
  rintro e w2 ⟨rfl, hx⟩
  replace HX := Lib.hid (HX.out.trans hx)
  replace HO := Lib.hid (HO.out.ext hx)
  clear hx c0 c1 c2 z0
  obtain ⟨c0, c1, c2, z0⟩ := three_c (ext_ty HX.out HB.out)
  go_wp2_with fail
  refine (HOF.out _ (HV.out.ext (E1.out.trans HX.out))).mono ?_
  rintro e w3 ⟨S3, C3, B3, rfl, hp, hx⟩
  replace HX := Lib.hid (HX.out.trans hx)
  replace HO := Lib.hid (HO.out.ext hx)
  have HP3 := Lib.hid hp
  clear hp hx c0 c1 c2 z0
  go_wp2_with fail
  refine (HBS.out _ _ _ _ HP3.out).mono ?_
  rintro e w4 ⟨U, rfl, hil, hx⟩
  replace HX := Lib.hid (HX.out.trans hx)
  replace HO := Lib.hid (HO.out.ext hx)
  have HIL := Lib.hid (HIA.out _ _ hil)
  obtain ⟨UA, uc, rfl, -⟩ := id hil
  clear hil hx
  obtain ⟨c0, c1, c2, z0⟩ := three_c (ext_ty HX.out HB.out)
  go_wp2_with fail
  refine (HBR.out _ (HV.out.ext (E1.out.trans HX.out))).mono ?_
  rintro e w5 ⟨U2, rfl, hil, hx⟩
  replace HX := Lib.hid (HX.out.trans hx)
  replace HO := Lib.hid (HO.out.ext hx)
  replace HIL := Lib.hid (HIL.out.ext hx)
  have HIL2 := Lib.hid (HIB.out _ _ hil)
  obtain ⟨UA2, uc2, rfl, -⟩ := id hil
  clear hil hx c0 c1 c2 z0
  go_wp2_with fail
  refine (equalI_any bl bf _ _ _ HIL.out HIL2.out hbl).mono ?_
  rintro e w6 ⟨rfl, hx⟩
  replace HX := Lib.hid (HX.out.trans hx)
  clear hx
  go_wp2_with fail
  refine (awake_any _).mono ?_
  rintro e w9 ⟨rfl, hx⟩
  replace HX := Lib.hid (HX.out.trans hx); clear hx
  go_wp2
  go_ret
  exact ⟨rfl, E1.out.trans HX.out⟩
end Go.Proofs.YtlachbodibajlaaDoor
