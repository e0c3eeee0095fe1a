/- Walks: the reference's prices. -/
import Derived.Test.YtlachbodibajlaaDoorM25
namespace Go.Proofs.YtlachbodibajlaaDoor
open Go.RowKit Go.Shelf

set_option maxHeartbeats 16000000 in
set_option maxRecDepth 100000 in
theorem pricesR_any (S C B : Value) (n mc m : Nat) (st : Nat → Int) (ln : Nat → Nat) (y : Nat → Nat → Int) (a b : Nat → Int) (W : World) (h : Pv W S C B n mc m st ln y a b) (hk : Okp n mc m st ln y a b) (hh : (crs n m st y a b).has = true) :
    Calls Tryd.prog 77 #[.agg #[S, C, B]] W fun e W' => ∃ U, e = .returned U ∧ Il W' U (crs n m st y a b).sz (crs n m st y a b).pz ∧ Ext W W' := by
  have HFO := Lib.hid fun s j X hX hs hj => follows_any S C B n mc m st ln y a b s j X hX hk hs hj
  have HV := Lib.hid h
  obtain ⟨c, hc⟩ : ∃ c, c = crs n m st y a b := ⟨_, rfl⟩
  have hcn : c.n = n := by rw [hc]; rfl
  have hcok : c.ok := by rw [hc]; exact hk.crs
  have hcch : c.ch = y := by rw [hc]; rfl
  have hcen : ∀ i, c.en i = 0 := by rw [hc]; exact fun _ => rfl
  rw [← hc] at hh ⊢
  have HF := Lib.hid fun s j X hX hs hj => HFO.out s j X hX hs hj
  rw [← hc] at HF
  have HCN := Lib.hid hcn; have HOK := Lib.hid hcok; have HCH := Lib.hid hcch; have HEN := Lib.hid hcen; have HHH := Lib.hid hh
  obtain ⟨P, hP⟩ : ∃ P, P = 2 ^ n := ⟨_, rfl⟩
  have hPl : P ≤ 1024 := by rw [hP]; exact pow_1024 hk.n10
  have hP1 : 1 ≤ P := by rw [hP]; exact Nat.one_le_two_pow
  obtain ⟨z, hz⟩ : ∃ z, z = c.sz := ⟨_, rfl⟩
  have hzP : z = n * P := by rw [hz, hP, ← hcn]; rfl
  have hzl : z ≤ 10 * 1024 := by rw [hzP]; exact Nat.mul_le_mul hk.n10 hPl
  rw [← hz]
  have q1 : (2 : Int) ^ n = (P : Int) := by rw [hP]; simp
  have q2 : IntKind.i64.wrap (P : Int) = (P : Int) := IntWalk.i64_in _ (by omega)
  have q3 : IntKind.i64.wrap ((P : Int) - 1) = (P : Int) - 1 := IntWalk.i64_in _ (by omega)
  have q4 : (n : Int) * (P : Int) = (z : Int) := by rw [hzP]; simp
  have q5 : IntKind.i64.wrap (z : Int) = (z : Int) := IntWalk.i64_in _ (by omega)
  have HZ := Lib.hid hz; have HP := Lib.hid hP; have HZP := Lib.hid hzP
  have hm1 : ∀ w, (Instr.makeSlice 32 (.int .i64 (z : Int)) (.int .i64 (z : Int))).run Tryd.prog w = .ok (.slice (some ⟨w.heap.size, 0, none⟩) z z) (w.alloc (.cells (Array.ofFn fun _ : Fin z => .int .i64 0) 3)) :=
    fun w => make_one 32 3 _ 8 Tryd.underlying32 info3 rfl (by omega) z (by omega) w
  obtain ⟨C1, hC1⟩ : ∃ C, C = (Array.ofFn fun _ : Fin z => Value.int .i64 0) := ⟨_, rfl⟩
  rw [← hC1] at hm1
  have HC1 := Lib.hid hC1
  clear hcn hcok hcch hcen hc HFO hh hz hP hzP hC1
  obtain ⟨A, k, rfl, hk1, hk2, -⟩ := id h.vs
  obtain ⟨A2, k2, rfl, hk3, hk4, hrow⟩ := id h.vc
  obtain ⟨A3, k3, rfl, hk5, hk6, hpr⟩ := id h.vb
  have HROW := Lib.hid hrow; have HPR := Lib.hid hpr
  have hn10 := hk.n10; have hn1 := hk.n1; have hm40 := hk.m40
  have HK := Lib.hid hk
  have E1 : Hid (Ext W (W.alloc (.cells #[.slice A n k, .slice A2 mc k2, .slice A3 m k3] 48))) := Lib.hid (al1 W _)
  have hbk := heap_alloc_new W (.cells #[.slice A n k, .slice A2 mc k2, .slice A3 m k3] 48)
  clear h hk hrow hpr
  go_enter Tryd.func77, Tryd.ntmps77
  go_upto_region 1 with fail
  obtain ⟨s1, hs1⟩ : ∃ s, s = W.heap.size := ⟨_, rfl⟩
  rw [← hs1] at hbk ⊢
  generalize W.alloc (.cells #[.slice A n k, .slice A2 mc k2, .slice A3 m k3] 48) = W1 at *
  obtain ⟨c0, c1, c2, z0⟩ := three_c hbk
  have HB := Lib.hid hbk
  clear hbk hs1
  have hn10' := hn10
  go_upto_region 3 with fail
  have hb9 := heap_alloc_new W1 (.cells C1 3)
  have hx9 : Ext W1 (W1.alloc (.cells C1 3)) := al1 W1 _
  obtain ⟨g, hg⟩ : ∃ s, s = W1.heap.size := ⟨_, rfl⟩
  have HGW : Hid (W1.heap.size ≤ g) := Lib.hid (Nat.le_of_eq hg.symm)
  rw [← hg] at hb9 ⊢
  generalize W1.alloc (.cells C1 3) = w2 at *
  rw [HC1.out] at hb9
  have hbi : BI w2 g z (fun _ => 0) := hb9
  have HBI := Lib.hid (And.intro hbi hx9)
  clear hb9 hx9 hg hbi hm1 HC1 c0 c1 c2 z0
  go_wp2_with fail
  go_loopw [5, 24, 45] (fun sv _ _ wr => ∃ (kk : Nat) (v : Int) (f : Nat → Int), sv = .int .i64 v ∧ kk ≤ P ∧ Hid (v = (kk : Int) - 1) ∧ Hid (BI wr g z f ∧ (∀ p, n * kk ≤ p → p < z → f p = c.pz p) ∧ Ext W1 wr)) (fun sv _ _ _ => (intOf sv + 1).toNat)
  case atStart => exact ⟨P, (P : Int) - 1, fun _ => 0, rfl, Nat.le_refl _, Lib.hid rfl, Lib.hid ⟨HBI.out.1, fun p hp hpz => by rw [← HZP.out] at hp; omega, HBI.out.2⟩⟩
  case round =>
    clear HBI
    obtain ⟨kk, v, f, rfl, hkk, hv, hin⟩ := hrel
    cases kk with
    | zero =>
      have hv1 : v = -1 := by have := hv.out; omega
      subst hv1
      go_wp2
      go_ret
      exact ⟨_, rfl, (BI.il hin.out.1 (by omega)).congr (fun p hp => hin.out.2.1 p (by omega) hp), E1.out.trans hin.out.2.2⟩
    | succ s =>
      obtain rfl : v = (s : Int) := by have := hv.out; omega
      have hsP : s < P := by omega
      have hs10 : s < 1024 := by omega
      have HSN : Hid (s < 2 ^ n) := Lib.hid (by rw [← HP.out]; exact hsP)
      have y0 : IntKind.i64.wrap ((s : Int) - 1) = (s : Int) - 1 := IntWalk.i64_in _ (by omega)
      clear hv
      go_wp2_with fail
      go_loopw [24, 45] (fun iv _ wr => ∃ (i : Nat) (f : Nat → Int), iv = .int .i64 i ∧ i ≤ n ∧ Hid (BI wr g z f ∧ (∀ p, n * (s + 1) ≤ p → p < z → f p = c.pz p) ∧ (∀ i', i' < i → f (n * s + i') = c.pz (n * s + i')) ∧ Ext W1 wr)) (fun iv _ _ => n - (intOf iv).toNat)
      case atStart => exact ⟨0, f, rfl, Nat.zero_le _, Lib.hid ⟨hin.out.1, hin.out.2.1, fun i hi => absurd hi (Nat.not_lt_zero _), hin.out.2.2⟩⟩
      case round =>
        clear hin
        obtain ⟨i, f, rfl, hi, hin⟩ := hrel
        by_cases hin9 : i < n
        · obtain ⟨ns, hns⟩ : ∃ a : Nat, a = n * s := ⟨_, rfl⟩
          have hnsl : ns ≤ 10 * 1024 := by rw [hns]; exact Nat.mul_le_mul hn10 (by omega)
          obtain ⟨num, hnum⟩ : ∃ a : Nat, a = ns + i := ⟨_, rfl⟩
          have HNUM : Hid (num = n * s + i) := Lib.hid (by rw [hnum, hns])
          have hnz : num < z := by rw [HNUM.out, HZ.out, ← HCN.out]; exact num_lt (by rw [HCN.out]; exact HSN.out) (by rw [HCN.out]; exact hin9)
          have y5 : IntKind.i64.wrap ((n : Int) * (s : Int)) = (ns : Int) := by rw [show (n : Int) * (s : Int) = (ns : Int) by rw [hns]; simp]; exact IntWalk.i64_in _ (by omega)
          have y6 : IntKind.i64.wrap ((ns : Int) + (i : Int)) = (num : Int) := by rw [show (ns : Int) + (i : Int) = (num : Int) by rw [hnum]; simp]; exact IntWalk.i64_in _ (by omega)
          have y7 := and1_nat (l := i) hs10
          have hi10 : i < 10 := by omega
          have u0 := Bk.cell hin.out.1 hnz
          have uf := Bk.free hin.out.1 num
          have uz := Bk.lt hin.out.1
          have HB6 : Hid (BI (wr.setCell ⟨g, num, none⟩ (.int .i64 (-1))) g z (up f num (-1))) := Lib.hid (BI.set_ hin.out.1 num (-1))
          have HX6 : Hid (Ext W1 (wr.setCell ⟨g, num, none⟩ (.int .i64 (-1)))) := Lib.hid (hin.out.2.2.2.sc HGW.out)
          obtain ⟨f1, hf1⟩ : ∃ f1, f1 = up f num (-1) := ⟨_, rfl⟩
          have HF6 : Hid ((∀ p, n * (s + 1) ≤ p → p < z → f1 p = c.pz p) ∧ (∀ i', i' < i → f1 (n * s + i') = c.pz (n * s + i')) ∧ f1 num = -1) := Lib.hid (by
            rw [hf1]
            refine ⟨fun p hp hpz => ?_, fun i' hi' => ?_, up_self _ _ _⟩
            · rw [up_ne _ _ (by have := HNUM.out; have h3 : n * s + n ≤ p := (by rw [Nat.mul_add, Nat.mul_one] at hp; exact hp); omega)]; exact hin.out.2.1 p hp hpz
            · rw [up_ne _ _ (by have := HNUM.out; omega)]; exact hin.out.2.2.1 i' hi')
          rw [← hf1] at HB6
          clear hns hnum hnsl hf1 hin
          go_upto_region 10 with fail
          generalize wr.setCell ⟨g, num, none⟩ (.int .i64 (-1)) = w6 at *
          clear u0 uf uz
          cases hb : s.testBit i
          · rw [hb] at y7
            simp only [Bool.false_eq_true, if_false] at y7
            have HPZ : Hid (c.pz (n * s + i) = -1) := Lib.hid (by
              have h9 := pz_eq (c := c) (p := c.n * s + i) (by rw [(nd_num (by rw [HCN.out]; exact hin9)).1, HCN.out]; exact HSN.out)
              rw [(nd_num (by rw [HCN.out]; exact hin9)).1, (nd_num (by rw [HCN.out]; exact hin9)).2, hb] at h9
              rw [HCN.out] at h9
              exact h9)
            clear hb y5 y6
            go_wp2
            go_roundw
            case rel =>
              refine ⟨i + 1, f1, by go_num, by omega, Lib.hid ⟨HB6.out, HF6.out.1, fun i' hi' => ?_, HX6.out⟩⟩
              by_cases e : i' = i
              · subst e; rw [HPZ.out, ← HNUM.out, HF6.out.2.2]
              · exact HF6.out.2.1 i' (by omega)
            case measure => simp [intOf] <;> omega
          · rw [hb] at y7
            simp only [if_true] at y7
            have HS0 : Hid (s ≠ 0) := Lib.hid (fun e => by rw [e, Nat.zero_testBit] at hb; cases hb)
            have hF9 : ∀ x, x < c.n → c.val c.pz s i x ≤ 1099511627776 := fun x hx => by
              have h1 := pz_bd HOK.out (c.n * (s ||| 2 ^ x) + x)
              have h2 := stp_bd HOK.out (s := s) (l := i) (by rw [HCN.out]; exact hin9) hx
              unfold Crs.val; omega
            have hpz := pz_lsR HHH.out (s := s) (l := i) (by rw [HCN.out]; exact HSN.out) (by rw [HCN.out]; exact hin9) hb (HEN.out i) hF9
            rw [HCN.out] at hpz
            have HF6' := HF6
            replace HF6 : Hid ((∀ p, n * (s + 1) ≤ p → p < z → f1 p = c.pz p) ∧ (∀ i', i' < i → f1 (n * s + i') = c.pz (n * s + i'))) := Lib.hid ⟨HF6.out.1, HF6.out.2.1⟩
            clear hb hF9 HF6'
            by_cases hsa : s = c.all
            · rw [if_pos hsa] at hpz
              have hsa2 : ((s : Int) == (P : Int) - 1) = true := by
                have h9 : c.all = P - 1 := by unfold Crs.all; rw [HCN.out, ← HP.out]
                rw [beq_iff_eq]; omega
              have HPZ := Lib.hid hpz.symm
              clear hpz hsa
              go_wp2_with fail
              go_loopw [7, 45] (fun lw v wz => ∃ (t : Nat) (lv : Int), v = .int .i64 t ∧ t ≤ n ∧ lw = .int .i64 lv ∧ Hid (lv = (List.range t).foldl (c.lsR c.pz s i) 0) ∧ Hid (Ext w6 wz)) (fun _ v _ => n - (intOf v).toNat)
              case atStart => exact ⟨0, 0, rfl, Nat.zero_le _, rfl, Lib.hid rfl, Lib.hid (Ext.refl _)⟩
              case round =>
                obtain ⟨t, lv, rfl, ht, rfl, hlv, hin3⟩ := hrel
                obtain ⟨c0, c1, c2, z0⟩ := three_c (ext_ty' (HX6.out.trans hin3.out) HB.out)
                by_cases htn : t < n
                · have hstep : (List.range (t + 1)).foldl (c.lsR c.pz s i) 0 = c.lsR c.pz s i lv t := by rw [List.range_succ, List.foldl_append, ← hlv.out]; rfl
                  have HST := Lib.hid hstep
                  clear hstep
                  go_wp2_with fail
                  refine (HF.out s t _ (HV.out.ext (E1.out.trans (HX6.out.trans hin3.out))) HSN.out htn).mono ?_
                  rintro e w8 ⟨rfl, hx⟩
                  have hin4 := Lib.hid (hin3.out.trans hx)
                  replace c0 := hx.at z0 c0
                  replace c1 := hx.at z0 c1
                  replace c2 := hx.at z0 c2
                  replace z0 := Nat.lt_of_lt_of_le z0 hx.size
                  clear hx
                  cases hcan : c.can s t
                  · have hg : c.lsR c.pz s i lv t = lv := by unfold Crs.lsR; rw [hcan]; rfl
                    have HG := Lib.hid hg
                    clear hg hcan c0 c1 c2 z0
                    go_wp2
                    go_roundw
                    case rel => exact ⟨t + 1, lv, by go_num, by omega, rfl, Lib.hid (by rw [HST.out, HG.out]), hin4⟩
                    case measure => simp [intOf] <;> omega
                  · obtain ⟨rb, ro, rfl, zb, hrr⟩ := HROW.out (by have := HK.out.mn; omega)
                    obtain ⟨R, hR, hRl⟩ := hrr i (by have := HK.out.mn; omega)
                    have hln := HK.out.ln i hin9
                    rw [hln] at hRl
                    have hEX := E1.out.trans (HX6.out.trans hin4.out)
                    obtain ⟨RA, rc, rfl, hr1, hr2, -⟩ := id hRl
                    obtain ⟨qb, qo, rfl, zq, hQ⟩ := Vl.at hRl hEX htn
                    try dsimp only at hQ
                    replace hR := hEX.at zb hR
                    replace zb := Nat.lt_of_lt_of_le zb hEX.size
                    have hbw := HB6.out.ext hin4.out
                    have ht10 : t < 10 := by omega
                    have himc : i < mc := by have := HK.out.mn; omega
                    obtain ⟨px, hpx⟩ : ∃ a : Nat, a = 2 ^ t := ⟨_, rfl⟩
                    obtain ⟨sx, hsx⟩ : ∃ a : Nat, a = s ||| 2 ^ t := ⟨_, rfl⟩
                    have hpl : px < 1024 := by rw [hpx]; exact Nat.lt_of_lt_of_le (Nat.pow_lt_pow_right (by omega) htn) (pow_1024 hn10)
                    have hsxl : sx < 2 ^ c.n := by rw [hsx]; exact or_lt (by rw [HCN.out]; exact HSN.out) (by rw [HCN.out]; exact htn)
                    have hsm : s < sx := by rw [hsx]; exact or_more (can_bit hcan)
                    have hsx10 : sx < 1024 := Nat.lt_of_lt_of_le hsxl (by rw [HCN.out]; exact pow_1024 hn10)
                    obtain ⟨nsx, hnsx⟩ : ∃ a : Nat, a = n * sx := ⟨_, rfl⟩
                    have hnsxl : nsx ≤ 10 * 1024 := by rw [hnsx]; exact Nat.mul_le_mul hn10 (by omega)
                    obtain ⟨num2, hnum2⟩ : ∃ a : Nat, a = nsx + t := ⟨_, rfl⟩
                    have hz2 : num2 < z := by
                      rw [hnum2, hnsx, HZ.out, ← HCN.out]; exact num_lt hsxl (by rw [HCN.out]; exact htn)
                    have hbig : n * (s + 1) ≤ num2 := by rw [hnum2, hnsx]; have := Nat.mul_le_mul_left n hsm; exact Nat.le_trans this (Nat.le_add_right _ _)
                    have hG2 := Bk.cell hbw hz2
                    try dsimp only at hG2
                    rw [HF6.out.1 num2 hbig hz2] at hG2
                    have zg2 := Bk.lt hbw
                    obtain ⟨chv, hchv⟩ : ∃ v, v = y i t := ⟨_, rfl⟩
                    rw [← hchv] at hQ
                    obtain ⟨pv, hpv⟩ : ∃ v, v = c.pz num2 := ⟨_, rfl⟩
                    rw [← hpv] at hG2
                    obtain ⟨sv, hsv⟩ : ∃ v, v = chv + pv := ⟨_, rfl⟩
                    obtain ⟨mv, hmv⟩ : ∃ v, v = min lv sv := ⟨_, rfl⟩
                    have hb1 := pz_bd HOK.out num2
                    have hb2 := HK.out.ch i t hin9 htn
                    have y1 : (2 : Int) ^ t = (px : Int) := by rw [hpx]; simp
                    have y2 : bits .or .i64 (s : Int) (px : Int) = (sx : Int) := by rw [or_nat hs10 hpl, hsx, hpx]
                    have y4 : IntKind.i64.wrap (px : Int) = (px : Int) := IntWalk.i64_in _ (by omega)
                    have y5 : IntKind.i64.wrap ((n : Int) * (sx : Int)) = (nsx : Int) := by rw [show (n : Int) * (sx : Int) = (nsx : Int) by rw [hnsx]; simp]; exact IntWalk.i64_in _ (by omega)
                    have y6 : IntKind.i64.wrap ((nsx : Int) + (t : Int)) = (num2 : Int) := by rw [show (nsx : Int) + (t : Int) = (num2 : Int) by rw [hnum2]; simp]; exact IntWalk.i64_in _ (by omega)
                    have y7 : IntKind.i64.wrap (chv + pv) = sv := by rw [hsv]; exact IntWalk.i64_in _ (by omega)
                    have HN := Lib.hid (And.intro y1 (And.intro y4 (And.intro y2 (And.intro y5 (And.intro y6 (And.intro y7 hmv.symm))))))
                    have hg : c.lsR c.pz s i lv t = mv := by
                      unfold Crs.lsR
                      rw [if_pos hcan, hmv, hsv, hchv, hpv, hnum2, hnsx, hsx]
                      unfold Crs.val Crs.stp
                      rw [if_neg HS0.out, HCN.out, HCH.out]
                    have HG := Lib.hid hg
                    clear hg hcan hpx hsx hpl hsxl hsm hsx10 hnsx hnsxl hnum2 hbig hbw hchv hpv hsv hmv hb1 hb2 y1 y2 y4 y5 y6 y7 hrr hRl hEX hln hr1 hr2
                    go_upto_region 18 with fail
                    refine wp_region_noPanic ?_
                    refine wp_region_held_drew (S := fun X => Ext w8 X) (by kernel_rfl) (Ext.drw (Ext.refl _)) (fun _ => ?_)
                    refine take_at 0 (some 52) (.int .i64 lv) rfl rfl (by kernel_rfl) (by kernel_rfl) (by kernel_rfl) (fun _ _ _ h => h) (Or.inl ⟨by rfl, fun w' hSw => ?_⟩) (Ext.drw (Ext.refl _)) ?_
                    · skip
                      try clear hSw
                      go_simp
                      all_goals (with_reducible rfl)
                    try simp only [Act.put, List.setIfInBounds_toArray, List.set_cons_zero, List.set_cons_succ]
                    refine take_at 1 (some 53) (.pointer (some ⟨s1, 1, none⟩)) rfl rfl (by kernel_rfl) (by kernel_rfl) (by kernel_rfl) (fun _ _ _ h => h) (Or.inl ⟨by rfl, fun w' hSw => ?_⟩) (Ext.drw (Ext.refl _)) ?_
                    · skip
                      try clear hSw
                      go_simp
                      all_goals (with_reducible rfl)
                    try simp only [Act.put, List.setIfInBounds_toArray, List.set_cons_zero, List.set_cons_succ]
                    refine take_at 2 (some 54) (.slice (some ⟨rb, ro, none⟩) mc k2) rfl rfl (by kernel_rfl) (by kernel_rfl) (by kernel_rfl) (fun _ _ _ h => h) (Or.inl ⟨by rfl, fun w' hSw => ?_⟩) (Ext.drw (Ext.refl _)) ?_
                    · have m0 := keepAt hSw z0 c0
                      have m1 := keepAt hSw z0 c1
                      have m2 := keepAt hSw z0 c2
                      try clear hSw
                      go_simp
                      all_goals (with_reducible rfl)
                    try simp only [Act.put, List.setIfInBounds_toArray, List.set_cons_zero, List.set_cons_succ]
                    refine take_at 3 (some 55) (.int .i64 (i : Nat)) rfl rfl (by kernel_rfl) (by kernel_rfl) (by kernel_rfl) (fun _ _ _ h => h) (Or.inl ⟨by rfl, fun w' hSw => ?_⟩) (Ext.drw (Ext.refl _)) ?_
                    · skip
                      try clear hSw
                      go_simp
                      all_goals (with_reducible rfl)
                    try simp only [Act.put, List.setIfInBounds_toArray, List.set_cons_zero, List.set_cons_succ]
                    refine take_at 4 (some 56) (.pointer (some ⟨rb, ro + i, none⟩)) rfl rfl (by kernel_rfl) (by kernel_rfl) (by kernel_rfl) (fun _ _ _ h => h) (Or.inl ⟨by rfl, fun w' hSw => ?_⟩) (Ext.drw (Ext.refl _)) ?_
                    · skip
                      try clear hSw
                      go_simp
                      all_goals (with_reducible rfl)
                    try simp only [Act.put, List.setIfInBounds_toArray, List.set_cons_zero, List.set_cons_succ]
                    refine take_at 5 (some 57) (.slice (some ⟨qb, qo, none⟩) n rc) rfl rfl (by kernel_rfl) (by kernel_rfl) (by kernel_rfl) (fun _ _ _ h => h) (Or.inl ⟨by rfl, fun w' hSw => ?_⟩) (Ext.drw (Ext.refl _)) ?_
                    · have m0 := keepAt hSw zb hR
                      try clear hSw
                      go_simp
                      all_goals (with_reducible rfl)
                    try simp only [Act.put, List.setIfInBounds_toArray, List.set_cons_zero, List.set_cons_succ]
                    refine take_at 6 (some 58) (.int .i64 (t : Nat)) rfl rfl (by kernel_rfl) (by kernel_rfl) (by kernel_rfl) (fun _ _ _ h => h) (Or.inl ⟨by rfl, fun w' hSw => ?_⟩) (Ext.drw (Ext.refl _)) ?_
                    · skip
                      try clear hSw
                      go_simp
                      all_goals (with_reducible rfl)
                    try simp only [Act.put, List.setIfInBounds_toArray, List.set_cons_zero, List.set_cons_succ]
                    refine take_at 7 (some 59) (.pointer (some ⟨qb, qo + t, none⟩)) rfl rfl (by kernel_rfl) (by kernel_rfl) (by kernel_rfl) (fun _ _ _ h => h) (Or.inl ⟨by rfl, fun w' hSw => ?_⟩) (Ext.drw (Ext.refl _)) ?_
                    · skip
                      try clear hSw
                      go_simp
                      all_goals (with_reducible rfl)
                    try simp only [Act.put, List.setIfInBounds_toArray, List.set_cons_zero, List.set_cons_succ]
                    refine take_at 8 (some 60) (.int .i64 chv) rfl rfl (by kernel_rfl) (by kernel_rfl) (by kernel_rfl) (fun _ _ _ h => h) (Or.inl ⟨by rfl, fun w' hSw => ?_⟩) (Ext.drw (Ext.refl _)) ?_
                    · have m0 := keepAt hSw zq hQ
                      try clear hSw
                      go_simp
                      all_goals (with_reducible rfl)
                    try simp only [Act.put, List.setIfInBounds_toArray, List.set_cons_zero, List.set_cons_succ]
                    refine take_at 9 (some 61) (.slice (some ⟨g, 0, none⟩) z z) rfl rfl (by kernel_rfl) (by kernel_rfl) (by kernel_rfl) (fun _ _ _ h => h) (Or.inl ⟨by rfl, fun w' hSw => ?_⟩) (Ext.drw (Ext.refl _)) ?_
                    · skip
                      try clear hSw
                      go_simp
                      all_goals (with_reducible rfl)
                    try simp only [Act.put, List.setIfInBounds_toArray, List.set_cons_zero, List.set_cons_succ]
                    refine take_at 10 (some 62) (.int .i64 (n : Nat)) rfl rfl (by kernel_rfl) (by kernel_rfl) (by kernel_rfl) (fun _ _ _ h => h) (Or.inl ⟨by rfl, fun w' hSw => ?_⟩) (Ext.drw (Ext.refl _)) ?_
                    · skip
                      try clear hSw
                      go_simp
                      all_goals (with_reducible rfl)
                    try simp only [Act.put, List.setIfInBounds_toArray, List.set_cons_zero, List.set_cons_succ]
                    refine take_at 11 (some 63) (.int .i64 (s : Nat)) rfl rfl (by kernel_rfl) (by kernel_rfl) (by kernel_rfl) (fun _ _ _ h => h) (Or.inl ⟨by rfl, fun w' hSw => ?_⟩) (Ext.drw (Ext.refl _)) ?_
                    · skip
                      try clear hSw
                      go_simp
                      all_goals (with_reducible rfl)
                    try simp only [Act.put, List.setIfInBounds_toArray, List.set_cons_zero, List.set_cons_succ]
                    refine take_at 12 (some 64) (.int .i64 (t : Nat)) rfl rfl (by kernel_rfl) (by kernel_rfl) (by kernel_rfl) (fun _ _ _ h => h) (Or.inl ⟨by rfl, fun w' hSw => ?_⟩) (Ext.drw (Ext.refl _)) ?_
                    · skip
                      try clear hSw
                      go_simp
                      all_goals (with_reducible rfl)
                    try simp only [Act.put, List.setIfInBounds_toArray, List.set_cons_zero, List.set_cons_succ]
                    refine take_at 13 (some 65) (.int .i64 (px : Nat)) rfl rfl (by kernel_rfl) (by kernel_rfl) (by kernel_rfl) (fun _ _ _ h => h) (Or.inl ⟨by rfl, fun w' hSw => ?_⟩) (Ext.drw (Ext.refl _)) ?_
                    · have y := HN.out.1
                      have yw := HN.out.2.1
                      try clear hSw
                      go_simp
                      all_goals (with_reducible rfl)
                    try simp only [Act.put, List.setIfInBounds_toArray, List.set_cons_zero, List.set_cons_succ]
                    refine take_at 14 (some 66) (.int .i64 (sx : Nat)) rfl rfl (by kernel_rfl) (by kernel_rfl) (by kernel_rfl) (fun _ _ _ h => h) (Or.inl ⟨by rfl, fun w' hSw => ?_⟩) (Ext.drw (Ext.refl _)) ?_
                    · have y := HN.out.2.2.1
                      try clear hSw
                      go_simp
                      all_goals (with_reducible rfl)
                    try simp only [Act.put, List.setIfInBounds_toArray, List.set_cons_zero, List.set_cons_succ]
                    refine take_at 15 (some 67) (.int .i64 (nsx : Nat)) rfl rfl (by kernel_rfl) (by kernel_rfl) (by kernel_rfl) (fun _ _ _ h => h) (Or.inl ⟨by rfl, fun w' hSw => ?_⟩) (Ext.drw (Ext.refl _)) ?_
                    · have y := HN.out.2.2.2.1
                      try clear hSw
                      go_simp
                      all_goals (with_reducible rfl)
                    try simp only [Act.put, List.setIfInBounds_toArray, List.set_cons_zero, List.set_cons_succ]
                    refine take_at 16 (some 68) (.int .i64 (t : Nat)) rfl rfl (by kernel_rfl) (by kernel_rfl) (by kernel_rfl) (fun _ _ _ h => h) (Or.inl ⟨by rfl, fun w' hSw => ?_⟩) (Ext.drw (Ext.refl _)) ?_
                    · skip
                      try clear hSw
                      go_simp
                      all_goals (with_reducible rfl)
                    try simp only [Act.put, List.setIfInBounds_toArray, List.set_cons_zero, List.set_cons_succ]
                    refine take_at 17 (some 69) (.int .i64 (num2 : Nat)) rfl rfl (by kernel_rfl) (by kernel_rfl) (by kernel_rfl) (fun _ _ _ h => h) (Or.inl ⟨by rfl, fun w' hSw => ?_⟩) (Ext.drw (Ext.refl _)) ?_
                    · have y := HN.out.2.2.2.2.1
                      try clear hSw
                      go_simp
                      all_goals (with_reducible rfl)
                    try simp only [Act.put, List.setIfInBounds_toArray, List.set_cons_zero, List.set_cons_succ]
                    refine take_at 18 (some 70) (.pointer (some ⟨g, num2, none⟩)) rfl rfl (by kernel_rfl) (by kernel_rfl) (by kernel_rfl) (fun _ _ _ h => h) (Or.inl ⟨by rfl, fun w' hSw => ?_⟩) (Ext.drw (Ext.refl _)) ?_
                    · skip
                      try clear hSw
                      go_simp
                      all_goals (with_reducible rfl)
                    try simp only [Act.put, List.setIfInBounds_toArray, List.set_cons_zero, List.set_cons_succ]
                    refine take_at 19 (some 71) (.int .i64 pv) rfl rfl (by kernel_rfl) (by kernel_rfl) (by kernel_rfl) (fun _ _ _ h => h) (Or.inl ⟨by rfl, fun w' hSw => ?_⟩) (Ext.drw (Ext.refl _)) ?_
                    · have m0 := keepAt hSw zg2 hG2
                      try clear hSw
                      go_simp
                      all_goals (with_reducible rfl)
                    try simp only [Act.put, List.setIfInBounds_toArray, List.set_cons_zero, List.set_cons_succ]
                    refine take_at 20 (some 72) (.int .i64 sv) rfl rfl (by kernel_rfl) (by kernel_rfl) (by kernel_rfl) (fun _ _ _ h => h) (Or.inl ⟨by rfl, fun w' hSw => ?_⟩) (Ext.drw (Ext.refl _)) ?_
                    · have y := HN.out.2.2.2.2.2.1
                      try clear hSw
                      go_simp
                      all_goals (with_reducible rfl)
                    try simp only [Act.put, List.setIfInBounds_toArray, List.set_cons_zero, List.set_cons_succ]
                    refine take_at 21 (some 73) (.int .i64 mv) rfl rfl (by kernel_rfl) (by kernel_rfl) (by kernel_rfl) (fun _ _ _ h => h) (Or.inl ⟨by rfl, fun w' hSw => ?_⟩) (Ext.drw (Ext.refl _)) ?_
                    · have y := HN.out.2.2.2.2.2.2
                      try clear hSw
                      go_simp
                      all_goals (with_reducible rfl)
                    try simp only [Act.put, List.setIfInBounds_toArray, List.set_cons_zero, List.set_cons_succ]
                    refine take_at 22 (some 7) (.int .i64 mv) rfl rfl (by kernel_rfl) (by kernel_rfl) (by kernel_rfl) (fun _ _ _ h => h) (Or.inl ⟨by rfl, fun w' hSw => ?_⟩) (Ext.drw (Ext.refl _)) ?_
                    · skip
                      try clear hSw
                      go_simp
                      all_goals (with_reducible rfl)
                    try simp only [Act.put, List.setIfInBounds_toArray, List.set_cons_zero, List.set_cons_succ]
                    refine wpAnyH_done (by kernel_rfl) ?_ _
                    refine NoPanic.normal ?_
                    clear c0 c1 c2 z0 hQ hR zb zq hG2 zg2 hz2
                    go_wp2
                    go_roundw
                    case rel => exact ⟨t + 1, mv, by go_num, by omega, rfl, Lib.hid (by rw [HST.out, HG.out]), Lib.hid hin4.out.drw⟩
                    case measure => simp [intOf] <;> omega
                · obtain rfl : t = n := by omega
                  have hx9 : ¬ (t : Int) < (t : Int) := by omega
                  have hpzn : lv = c.pz (t * s + i) := by
                    rw [hlv.out, HPZ.out]
                  have hb9 := HB6.out.ext hin3.out
                  have u0 := Bk.cell hb9 hnz
                  have uf := Bk.free hb9 num
                  have uz := Bk.lt hb9
                  have HBS : Hid (BI (wr.setCell ⟨g, num, none⟩ (.int .i64 lv)) g z (up f1 num lv)) := Lib.hid (BI.set_ hb9 num lv)
                  have HXS : Hid (Ext W1 (wr.setCell ⟨g, num, none⟩ (.int .i64 lv))) := Lib.hid ((HX6.out.trans hin3.out).sc HGW.out)
                  have HPN := Lib.hid hpzn
                  clear hpzn hb9 c0 c1 c2 z0
                  go_wp2
                  go_roundw
                  case rel =>
                    refine ⟨i + 1, up f1 num lv, by go_num, by omega, Lib.hid ⟨HBS.out, fun p hp hpz => ?_, fun i' hi' => ?_, HXS.out⟩⟩
                    · rw [up_ne _ _ (by have := HNUM.out; have h3 : t * s + t ≤ p := (by rw [Nat.mul_add, Nat.mul_one] at hp; exact hp); omega)]; exact HF6.out.1 p hp hpz
                    · by_cases e : i' = i
                      · subst e; rw [← HNUM.out, up_self, HPN.out, HNUM.out]
                      · rw [up_ne _ _ (by have := HNUM.out; omega)]; exact HF6.out.2 i' (by omega)
                  case measure => simp [intOf] <;> omega
            · rw [if_neg hsa] at hpz
              have hsa2 : ((s : Int) == (P : Int) - 1) = false := by
                have h9 : c.all = P - 1 := by unfold Crs.all; rw [HCN.out, ← HP.out]
                rw [beq_eq_false_iff_ne]; omega
              have HPZ := Lib.hid hpz.symm
              clear hpz hsa
              go_wp2_with fail
              go_loopw [7, 45] (fun lw v wz => ∃ (t : Nat) (lv : Int), v = .int .i64 t ∧ t ≤ n ∧ lw = .int .i64 lv ∧ Hid (lv = (List.range t).foldl (c.lsR c.pz s i) 1099511627776) ∧ Hid (Ext w6 wz)) (fun _ v _ => n - (intOf v).toNat)
              case atStart => exact ⟨0, 1099511627776, rfl, Nat.zero_le _, rfl, Lib.hid rfl, Lib.hid (Ext.refl _)⟩
              case round =>
                obtain ⟨t, lv, rfl, ht, rfl, hlv, hin3⟩ := hrel
                obtain ⟨c0, c1, c2, z0⟩ := three_c (ext_ty' (HX6.out.trans hin3.out) HB.out)
                by_cases htn : t < n
                · have hstep : (List.range (t + 1)).foldl (c.lsR c.pz s i) 1099511627776 = c.lsR c.pz s i lv t := by rw [List.range_succ, List.foldl_append, ← hlv.out]; rfl
                  have HST := Lib.hid hstep
                  clear hstep
                  go_wp2_with fail
                  refine (HF.out s t _ (HV.out.ext (E1.out.trans (HX6.out.trans hin3.out))) HSN.out htn).mono ?_
                  rintro e w8 ⟨rfl, hx⟩
                  have hin4 := Lib.hid (hin3.out.trans hx)
                  replace c0 := hx.at z0 c0
                  replace c1 := hx.at z0 c1
                  replace c2 := hx.at z0 c2
                  replace z0 := Nat.lt_of_lt_of_le z0 hx.size
                  clear hx
                  cases hcan : c.can s t
                  · have hg : c.lsR c.pz s i lv t = lv := by unfold Crs.lsR; rw [hcan]; rfl
                    have HG := Lib.hid hg
                    clear hg hcan c0 c1 c2 z0
                    go_wp2
                    go_roundw
                    case rel => exact ⟨t + 1, lv, by go_num, by omega, rfl, Lib.hid (by rw [HST.out, HG.out]), hin4⟩
                    case measure => simp [intOf] <;> omega
                  · obtain ⟨rb, ro, rfl, zb, hrr⟩ := HROW.out (by have := HK.out.mn; omega)
                    obtain ⟨R, hR, hRl⟩ := hrr i (by have := HK.out.mn; omega)
                    have hln := HK.out.ln i hin9
                    rw [hln] at hRl
                    have hEX := E1.out.trans (HX6.out.trans hin4.out)
                    obtain ⟨RA, rc, rfl, hr1, hr2, -⟩ := id hRl
                    obtain ⟨qb, qo, rfl, zq, hQ⟩ := Vl.at hRl hEX htn
                    try dsimp only at hQ
                    replace hR := hEX.at zb hR
                    replace zb := Nat.lt_of_lt_of_le zb hEX.size
                    have hbw := HB6.out.ext hin4.out
                    have ht10 : t < 10 := by omega
                    have himc : i < mc := by have := HK.out.mn; omega
                    obtain ⟨px, hpx⟩ : ∃ a : Nat, a = 2 ^ t := ⟨_, rfl⟩
                    obtain ⟨sx, hsx⟩ : ∃ a : Nat, a = s ||| 2 ^ t := ⟨_, rfl⟩
                    have hpl : px < 1024 := by rw [hpx]; exact Nat.lt_of_lt_of_le (Nat.pow_lt_pow_right (by omega) htn) (pow_1024 hn10)
                    have hsxl : sx < 2 ^ c.n := by rw [hsx]; exact or_lt (by rw [HCN.out]; exact HSN.out) (by rw [HCN.out]; exact htn)
                    have hsm : s < sx := by rw [hsx]; exact or_more (can_bit hcan)
                    have hsx10 : sx < 1024 := Nat.lt_of_lt_of_le hsxl (by rw [HCN.out]; exact pow_1024 hn10)
                    obtain ⟨nsx, hnsx⟩ : ∃ a : Nat, a = n * sx := ⟨_, rfl⟩
                    have hnsxl : nsx ≤ 10 * 1024 := by rw [hnsx]; exact Nat.mul_le_mul hn10 (by omega)
                    obtain ⟨num2, hnum2⟩ : ∃ a : Nat, a = nsx + t := ⟨_, rfl⟩
                    have hz2 : num2 < z := by
                      rw [hnum2, hnsx, HZ.out, ← HCN.out]; exact num_lt hsxl (by rw [HCN.out]; exact htn)
                    have hbig : n * (s + 1) ≤ num2 := by rw [hnum2, hnsx]; have := Nat.mul_le_mul_left n hsm; exact Nat.le_trans this (Nat.le_add_right _ _)
                    have hG2 := Bk.cell hbw hz2
                    try dsimp only at hG2
                    rw [HF6.out.1 num2 hbig hz2] at hG2
                    have zg2 := Bk.lt hbw
                    obtain ⟨chv, hchv⟩ : ∃ v, v = y i t := ⟨_, rfl⟩
                    rw [← hchv] at hQ
                    obtain ⟨pv, hpv⟩ : ∃ v, v = c.pz num2 := ⟨_, rfl⟩
                    rw [← hpv] at hG2
                    obtain ⟨sv, hsv⟩ : ∃ v, v = chv + pv := ⟨_, rfl⟩
                    obtain ⟨mv, hmv⟩ : ∃ v, v = min lv sv := ⟨_, rfl⟩
                    have hb1 := pz_bd HOK.out num2
                    have hb2 := HK.out.ch i t hin9 htn
                    have y1 : (2 : Int) ^ t = (px : Int) := by rw [hpx]; simp
                    have y2 : bits .or .i64 (s : Int) (px : Int) = (sx : Int) := by rw [or_nat hs10 hpl, hsx, hpx]
                    have y4 : IntKind.i64.wrap (px : Int) = (px : Int) := IntWalk.i64_in _ (by omega)
                    have y5 : IntKind.i64.wrap ((n : Int) * (sx : Int)) = (nsx : Int) := by rw [show (n : Int) * (sx : Int) = (nsx : Int) by rw [hnsx]; simp]; exact IntWalk.i64_in _ (by omega)
                    have y6 : IntKind.i64.wrap ((nsx : Int) + (t : Int)) = (num2 : Int) := by rw [show (nsx : Int) + (t : Int) = (num2 : Int) by rw [hnum2]; simp]; exact IntWalk.i64_in _ (by omega)
                    have y7 : IntKind.i64.wrap (chv + pv) = sv := by rw [hsv]; exact IntWalk.i64_in _ (by omega)
                    have HN := Lib.hid (And.intro y1 (And.intro y4 (And.intro y2 (And.intro y5 (And.intro y6 (And.intro y7 hmv.symm))))))
                    have hg : c.lsR c.pz s i lv t = mv := by
                      unfold Crs.lsR
                      rw [if_pos hcan, hmv, hsv, hchv, hpv, hnum2, hnsx, hsx]
                      unfold Crs.val Crs.stp
                      rw [if_neg HS0.out, HCN.out, HCH.out]
                    have HG := Lib.hid hg
                    clear hg hcan hpx hsx hpl hsxl hsm hsx10 hnsx hnsxl hnum2 hbig hbw hchv hpv hsv hmv hb1 hb2 y1 y2 y4 y5 y6 y7 hrr hRl hEX hln hr1 hr2
                    go_upto_region 18 with fail
                    refine wp_region_noPanic ?_
                    refine wp_region_held_drew (S := fun X => Ext w8 X) (by kernel_rfl) (Ext.drw (Ext.refl _)) (fun _ => ?_)
                    refine take_at 0 (some 52) (.int .i64 lv) rfl rfl (by kernel_rfl) (by kernel_rfl) (by kernel_rfl) (fun _ _ _ h => h) (Or.inl ⟨by rfl, fun w' hSw => ?_⟩) (Ext.drw (Ext.refl _)) ?_
                    · skip
                      try clear hSw
                      go_simp
                      all_goals (with_reducible rfl)
                    try simp only [Act.put, List.setIfInBounds_toArray, List.set_cons_zero, List.set_cons_succ]
                    refine take_at 1 (some 53) (.pointer (some ⟨s1, 1, none⟩)) rfl rfl (by kernel_rfl) (by kernel_rfl) (by kernel_rfl) (fun _ _ _ h => h) (Or.inl ⟨by rfl, fun w' hSw => ?_⟩) (Ext.drw (Ext.refl _)) ?_
                    · skip
                      try clear hSw
                      go_simp
                      all_goals (with_reducible rfl)
                    try simp only [Act.put, List.setIfInBounds_toArray, List.set_cons_zero, List.set_cons_succ]
                    refine take_at 2 (some 54) (.slice (some ⟨rb, ro, none⟩) mc k2) rfl rfl (by kernel_rfl) (by kernel_rfl) (by kernel_rfl) (fun _ _ _ h => h) (Or.inl ⟨by rfl, fun w' hSw => ?_⟩) (Ext.drw (Ext.refl _)) ?_
                    · have m0 := keepAt hSw z0 c0
                      have m1 := keepAt hSw z0 c1
                      have m2 := keepAt hSw z0 c2
                      try clear hSw
                      go_simp
                      all_goals (with_reducible rfl)
                    try simp only [Act.put, List.setIfInBounds_toArray, List.set_cons_zero, List.set_cons_succ]
                    refine take_at 3 (some 55) (.int .i64 (i : Nat)) rfl rfl (by kernel_rfl) (by kernel_rfl) (by kernel_rfl) (fun _ _ _ h => h) (Or.inl ⟨by rfl, fun w' hSw => ?_⟩) (Ext.drw (Ext.refl _)) ?_
                    · skip
                      try clear hSw
                      go_simp
                      all_goals (with_reducible rfl)
                    try simp only [Act.put, List.setIfInBounds_toArray, List.set_cons_zero, List.set_cons_succ]
                    refine take_at 4 (some 56) (.pointer (some ⟨rb, ro + i, none⟩)) rfl rfl (by kernel_rfl) (by kernel_rfl) (by kernel_rfl) (fun _ _ _ h => h) (Or.inl ⟨by rfl, fun w' hSw => ?_⟩) (Ext.drw (Ext.refl _)) ?_
                    · skip
                      try clear hSw
                      go_simp
                      all_goals (with_reducible rfl)
                    try simp only [Act.put, List.setIfInBounds_toArray, List.set_cons_zero, List.set_cons_succ]
                    refine take_at 5 (some 57) (.slice (some ⟨qb, qo, none⟩) n rc) rfl rfl (by kernel_rfl) (by kernel_rfl) (by kernel_rfl) (fun _ _ _ h => h) (Or.inl ⟨by rfl, fun w' hSw => ?_⟩) (Ext.drw (Ext.refl _)) ?_
                    · have m0 := keepAt hSw zb hR
                      try clear hSw
                      go_simp
                      all_goals (with_reducible rfl)
                    try simp only [Act.put, List.setIfInBounds_toArray, List.set_cons_zero, List.set_cons_succ]
                    refine take_at 6 (some 58) (.int .i64 (t : Nat)) rfl rfl (by kernel_rfl) (by kernel_rfl) (by kernel_rfl) (fun _ _ _ h => h) (Or.inl ⟨by rfl, fun w' hSw => ?_⟩) (Ext.drw (Ext.refl _)) ?_
                    · skip
                      try clear hSw
                      go_simp
                      all_goals (with_reducible rfl)
                    try simp only [Act.put, List.setIfInBounds_toArray, List.set_cons_zero, List.set_cons_succ]
                    refine take_at 7 (some 59) (.pointer (some ⟨qb, qo + t, none⟩)) rfl rfl (by kernel_rfl) (by kernel_rfl) (by kernel_rfl) (fun _ _ _ h => h) (Or.inl ⟨by rfl, fun w' hSw => ?_⟩) (Ext.drw (Ext.refl _)) ?_
                    · skip
                      try clear hSw
                      go_simp
                      all_goals (with_reducible rfl)
                    try simp only [Act.put, List.setIfInBounds_toArray, List.set_cons_zero, List.set_cons_succ]
                    refine take_at 8 (some 60) (.int .i64 chv) rfl rfl (by kernel_rfl) (by kernel_rfl) (by kernel_rfl) (fun _ _ _ h => h) (Or.inl ⟨by rfl, fun w' hSw => ?_⟩) (Ext.drw (Ext.refl _)) ?_
                    · have m0 := keepAt hSw zq hQ
                      try clear hSw
                      go_simp
                      all_goals (with_reducible rfl)
                    try simp only [Act.put, List.setIfInBounds_toArray, List.set_cons_zero, List.set_cons_succ]
                    refine take_at 9 (some 61) (.slice (some ⟨g, 0, none⟩) z z) rfl rfl (by kernel_rfl) (by kernel_rfl) (by kernel_rfl) (fun _ _ _ h => h) (Or.inl ⟨by rfl, fun w' hSw => ?_⟩) (Ext.drw (Ext.refl _)) ?_
                    · skip
                      try clear hSw
                      go_simp
                      all_goals (with_reducible rfl)
                    try simp only [Act.put, List.setIfInBounds_toArray, List.set_cons_zero, List.set_cons_succ]
                    refine take_at 10 (some 62) (.int .i64 (n : Nat)) rfl rfl (by kernel_rfl) (by kernel_rfl) (by kernel_rfl) (fun _ _ _ h => h) (Or.inl ⟨by rfl, fun w' hSw => ?_⟩) (Ext.drw (Ext.refl _)) ?_
                    · skip
                      try clear hSw
                      go_simp
                      all_goals (with_reducible rfl)
                    try simp only [Act.put, List.setIfInBounds_toArray, List.set_cons_zero, List.set_cons_succ]
                    refine take_at 11 (some 63) (.int .i64 (s : Nat)) rfl rfl (by kernel_rfl) (by kernel_rfl) (by kernel_rfl) (fun _ _ _ h => h) (Or.inl ⟨by rfl, fun w' hSw => ?_⟩) (Ext.drw (Ext.refl _)) ?_
                    · skip
                      try clear hSw
                      go_simp
                      all_goals (with_reducible rfl)
                    try simp only [Act.put, List.setIfInBounds_toArray, List.set_cons_zero, List.set_cons_succ]
                    refine take_at 12 (some 64) (.int .i64 (t : Nat)) rfl rfl (by kernel_rfl) (by kernel_rfl) (by kernel_rfl) (fun _ _ _ h => h) (Or.inl ⟨by rfl, fun w' hSw => ?_⟩) (Ext.drw (Ext.refl _)) ?_
                    · skip
                      try clear hSw
                      go_simp
                      all_goals (with_reducible rfl)
                    try simp only [Act.put, List.setIfInBounds_toArray, List.set_cons_zero, List.set_cons_succ]
                    refine take_at 13 (some 65) (.int .i64 (px : Nat)) rfl rfl (by kernel_rfl) (by kernel_rfl) (by kernel_rfl) (fun _ _ _ h => h) (Or.inl ⟨by rfl, fun w' hSw => ?_⟩) (Ext.drw (Ext.refl _)) ?_
                    · have y := HN.out.1
                      have yw := HN.out.2.1
                      try clear hSw
                      go_simp
                      all_goals (with_reducible rfl)
                    try simp only [Act.put, List.setIfInBounds_toArray, List.set_cons_zero, List.set_cons_succ]
                    refine take_at 14 (some 66) (.int .i64 (sx : Nat)) rfl rfl (by kernel_rfl) (by kernel_rfl) (by kernel_rfl) (fun _ _ _ h => h) (Or.inl ⟨by rfl, fun w' hSw => ?_⟩) (Ext.drw (Ext.refl _)) ?_
                    · have y := HN.out.2.2.1
                      try clear hSw
                      go_simp
                      all_goals (with_reducible rfl)
                    try simp only [Act.put, List.setIfInBounds_toArray, List.set_cons_zero, List.set_cons_succ]
                    refine take_at 15 (some 67) (.int .i64 (nsx : Nat)) rfl rfl (by kernel_rfl) (by kernel_rfl) (by kernel_rfl) (fun _ _ _ h => h) (Or.inl ⟨by rfl, fun w' hSw => ?_⟩) (Ext.drw (Ext.refl _)) ?_
                    · have y := HN.out.2.2.2.1
                      try clear hSw
                      go_simp
                      all_goals (with_reducible rfl)
                    try simp only [Act.put, List.setIfInBounds_toArray, List.set_cons_zero, List.set_cons_succ]
                    refine take_at 16 (some 68) (.int .i64 (t : Nat)) rfl rfl (by kernel_rfl) (by kernel_rfl) (by kernel_rfl) (fun _ _ _ h => h) (Or.inl ⟨by rfl, fun w' hSw => ?_⟩) (Ext.drw (Ext.refl _)) ?_
                    · skip
                      try clear hSw
                      go_simp
                      all_goals (with_reducible rfl)
                    try simp only [Act.put, List.setIfInBounds_toArray, List.set_cons_zero, List.set_cons_succ]
                    refine take_at 17 (some 69) (.int .i64 (num2 : Nat)) rfl rfl (by kernel_rfl) (by kernel_rfl) (by kernel_rfl) (fun _ _ _ h => h) (Or.inl ⟨by rfl, fun w' hSw => ?_⟩) (Ext.drw (Ext.refl _)) ?_
                    · have y := HN.out.2.2.2.2.1
                      try clear hSw
                      go_simp
                      all_goals (with_reducible rfl)
                    try simp only [Act.put, List.setIfInBounds_toArray, List.set_cons_zero, List.set_cons_succ]
                    refine take_at 18 (some 70) (.pointer (some ⟨g, num2, none⟩)) rfl rfl (by kernel_rfl) (by kernel_rfl) (by kernel_rfl) (fun _ _ _ h => h) (Or.inl ⟨by rfl, fun w' hSw => ?_⟩) (Ext.drw (Ext.refl _)) ?_
                    · skip
                      try clear hSw
                      go_simp
                      all_goals (with_reducible rfl)
                    try simp only [Act.put, List.setIfInBounds_toArray, List.set_cons_zero, List.set_cons_succ]
                    refine take_at 19 (some 71) (.int .i64 pv) rfl rfl (by kernel_rfl) (by kernel_rfl) (by kernel_rfl) (fun _ _ _ h => h) (Or.inl ⟨by rfl, fun w' hSw => ?_⟩) (Ext.drw (Ext.refl _)) ?_
                    · have m0 := keepAt hSw zg2 hG2
                      try clear hSw
                      go_simp
                      all_goals (with_reducible rfl)
                    try simp only [Act.put, List.setIfInBounds_toArray, List.set_cons_zero, List.set_cons_succ]
                    refine take_at 20 (some 72) (.int .i64 sv) rfl rfl (by kernel_rfl) (by kernel_rfl) (by kernel_rfl) (fun _ _ _ h => h) (Or.inl ⟨by rfl, fun w' hSw => ?_⟩) (Ext.drw (Ext.refl _)) ?_
                    · have y := HN.out.2.2.2.2.2.1
                      try clear hSw
                      go_simp
                      all_goals (with_reducible rfl)
                    try simp only [Act.put, List.setIfInBounds_toArray, List.set_cons_zero, List.set_cons_succ]
                    refine take_at 21 (some 73) (.int .i64 mv) rfl rfl (by kernel_rfl) (by kernel_rfl) (by kernel_rfl) (fun _ _ _ h => h) (Or.inl ⟨by rfl, fun w' hSw => ?_⟩) (Ext.drw (Ext.refl _)) ?_
                    · have y := HN.out.2.2.2.2.2.2
                      try clear hSw
                      go_simp
                      all_goals (with_reducible rfl)
                    try simp only [Act.put, List.setIfInBounds_toArray, List.set_cons_zero, List.set_cons_succ]
                    refine take_at 22 (some 7) (.int .i64 mv) rfl rfl (by kernel_rfl) (by kernel_rfl) (by kernel_rfl) (fun _ _ _ h => h) (Or.inl ⟨by rfl, fun w' hSw => ?_⟩) (Ext.drw (Ext.refl _)) ?_
                    · skip
                      try clear hSw
                      go_simp
                      all_goals (with_reducible rfl)
                    try simp only [Act.put, List.setIfInBounds_toArray, List.set_cons_zero, List.set_cons_succ]
                    refine wpAnyH_done (by kernel_rfl) ?_ _
                    refine NoPanic.normal ?_
                    clear c0 c1 c2 z0 hQ hR zb zq hG2 zg2 hz2
                    go_wp2
                    go_roundw
                    case rel => exact ⟨t + 1, mv, by go_num, by omega, rfl, Lib.hid (by rw [HST.out, HG.out]), Lib.hid hin4.out.drw⟩
                    case measure => simp [intOf] <;> omega
                · obtain rfl : t = n := by omega
                  have hx9 : ¬ (t : Int) < (t : Int) := by omega
                  have hpzn : lv = c.pz (t * s + i) := by
                    rw [hlv.out, HPZ.out]
                  have hb9 := HB6.out.ext hin3.out
                  have u0 := Bk.cell hb9 hnz
                  have uf := Bk.free hb9 num
                  have uz := Bk.lt hb9
                  have HBS : Hid (BI (wr.setCell ⟨g, num, none⟩ (.int .i64 lv)) g z (up f1 num lv)) := Lib.hid (BI.set_ hb9 num lv)
                  have HXS : Hid (Ext W1 (wr.setCell ⟨g, num, none⟩ (.int .i64 lv))) := Lib.hid ((HX6.out.trans hin3.out).sc HGW.out)
                  have HPN := Lib.hid hpzn
                  clear hpzn hb9 c0 c1 c2 z0
                  go_wp2
                  go_roundw
                  case rel =>
                    refine ⟨i + 1, up f1 num lv, by go_num, by omega, Lib.hid ⟨HBS.out, fun p hp hpz => ?_, fun i' hi' => ?_, HXS.out⟩⟩
                    · rw [up_ne _ _ (by have := HNUM.out; have h3 : t * s + t ≤ p := (by rw [Nat.mul_add, Nat.mul_one] at hp; exact hp); omega)]; exact HF6.out.1 p hp hpz
                    · by_cases e : i' = i
                      · subst e; rw [← HNUM.out, up_self, HPN.out, HNUM.out]
                      · rw [up_ne _ _ (by have := HNUM.out; omega)]; exact HF6.out.2 i' (by omega)
                  case measure => simp [intOf] <;> omega
        · obtain rfl : i = n := by omega
          have hx9 : ¬ (i : Int) < (i : Int) := by omega
          go_wp2
          go_roundw
          case rel =>
            refine ⟨s, (s : Int) - 1, f, rfl, by omega, Lib.hid rfl, Lib.hid ⟨hin.out.1, fun p hp hpz => ?_, hin.out.2.2.2⟩⟩
            by_cases e : i * (s + 1) ≤ p
            · exact hin.out.2.1 p e hpz
            · have h9 := hin.out.2.2.1 (p - i * s) (by rw [Nat.mul_add, Nat.mul_one] at e; omega)
              rw [show i * s + (p - i * s) = p by omega] at h9
              exact h9
          case measure => simp [intOf] <;> omega
end Go.Proofs.YtlachbodibajlaaDoor
