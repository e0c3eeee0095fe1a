/- Walks: Cost. -/
import Derived.Test.YtlachbodibajlaaDoorM20
import Derived.Test.YtlachbodibajlaaDoorM21
namespace Go.Proofs.YtlachbodibajlaaDoor
open Go.RowKit Go.Shelf

def costV (ok : Bool) (c : Crs) (k : Nat) (x : Nat → Int) : Int := if ok = true then (if c.okO k x = true then c.cst 0 0 (ordL k x) else 0) else 0
def costE (ok : Bool) (c : Crs) (k : Nat) (x : Nat → Int) : Int := if ok = true then (if c.okO k x = true then 0 else 6) else 2

set_option maxHeartbeats 4000000 in
set_option maxRecDepth 100000 in
theorem Cost_any (S C B O : Value) (n mc m : Nat) (st : Nat → Int) (ln : Nat → Nat) (y : Nat → Nat → Int) (a b : Nat → Int) (q : Nat) (x : Nat → Int) (W : World) (h : Pv W S C B n mc m st ln y a b) (hO : Il W O q x) :
    Calls Tryd.prog 30 #[.agg #[S, C, B], O] W fun e W' => e = .returned (.tuple #[.int .i64 (costV (okPlan n mc m st ln y a b) (crs n m st y a b) q x), .int .i64 (costE (okPlan n mc m st ln y a b) (crs n m st y a b) q x)]) ∧ Ext W W' := by
  obtain ⟨rv, hrv⟩ : ∃ v, v = costV (okPlan n mc m st ln y a b) (crs n m st y a b) q x := ⟨_, rfl⟩
  obtain ⟨re, hre⟩ : ∃ v, v = costE (okPlan n mc m st ln y a b) (crs n m st y a b) q x := ⟨_, rfl⟩
  rw [← hrv, ← hre]
  have HR0 := Lib.hid (And.intro hrv hre)
  clear hrv hre
  have HV := Lib.hid h; have HO := Lib.hid hO
  obtain ⟨A, k, rfl, -⟩ := id h.vs
  obtain ⟨A2, k2, rfl, -⟩ := id h.vc
  obtain ⟨A3, k3, rfl, -⟩ := id h.vb
  obtain ⟨OA, ok, rfl, -⟩ := id hO
  have e1 : Ext W (W.alloc (.cells #[.slice A n k, .slice A2 mc k2, .slice A3 m k3] 50)) := al1 W _
  have hbk := heap_alloc_new W (.cells #[.slice A n k, .slice A2 mc k2, .slice A3 m k3] 50)
  clear h hO
  go_enter Tryd.func30, Tryd.ntmps30
  go_upto_region 1 with fail
  obtain ⟨s1, hs1⟩ : ∃ s, s = W.heap.size := ⟨_, rfl⟩
  rw [← hs1] at hbk ⊢
  generalize W.alloc (.cells #[.slice A n k, .slice A2 mc k2, .slice A3 m k3] 50) = W1 at *
  obtain ⟨c0, c1, c2, z0⟩ := three_c hbk
  have E1 := Lib.hid e1
  clear hbk hs1 e1
  cases hok : okPlan n mc m st ln y a b
  · have HR : Hid (rv = 0 ∧ re = 2) := Lib.hid (by rw [HR0.out.1, HR0.out.2, hok]; exact ⟨rfl, rfl⟩)
    have HP := Lib.hid (planCourse_no _ _ _ n mc m st ln y a b W1 (HV.out.ext E1.out) hok)
    clear hok HR0
    go_wp2_with fail
    refine HP.out.mono ?_
    rintro e w2 ⟨rfl, hx⟩
    have HX := Lib.hid (E1.out.trans hx)
    clear hx c0 c1 c2 z0
    go_wp2
    refine bodyPost_ret (v := .tuple #[.int .i64 0, .int .i64 2]) (by simp [results, Tryd.results30, go_sem]) rfl ?_
    exact ⟨by rw [HR.out.1, HR.out.2], HX.out.alc _⟩
  have hkp := okPlan_iff.1 hok
  have HP := Lib.hid (planCourse_yes _ _ _ n mc m st ln y a b W1 (HV.out.ext E1.out) hkp)
  have HOK := Lib.hid hkp.crs
  have hn10 := hkp.n10
  have hn1 := hkp.n1
  obtain ⟨c, hc⟩ : ∃ c, c = crs n m st y a b := ⟨_, rfl⟩
  have hcn : c.n = n := by rw [hc]; rfl
  rw [← hc] at HP HOK
  have hko : c.okO q x = ((decide (q = n) && btw x 0 ((n : Int) - 1) q) && c.fol 0 (ordL q x)) := by unfold Crs.okO; rw [hcn]
  have HKO := Lib.hid hko
  have HCN := Lib.hid hcn
  obtain ⟨kk, hkk⟩ : ∃ v, v = c.okO q x := ⟨_, rfl⟩
  have HR : Hid (rv = (if kk = true then c.cst 0 0 (ordL q x) else 0) ∧ re = if kk = true then 0 else 6) := Lib.hid (by rw [HR0.out.1, HR0.out.2, hok, hkk, hc]; exact ⟨rfl, rfl⟩)
  rw [← hkk] at HKO
  clear hok hkp hko hc hcn hkk HR0
  go_wp2_with fail
  refine HP.out.mono ?_
  rintro e w2 ⟨E, N, rfl, hcv, hx⟩
  have HX := Lib.hid (E1.out.trans hx)
  have HCV := Lib.hid hcv
  obtain ⟨A4, k4, rfl⟩ : ∃ A k, E = .slice A n k := by
    obtain ⟨A, k, e, -⟩ := hcv.ve
    exact ⟨A, k, by rw [e, HCN.out]⟩
  obtain ⟨A5, k5, rfl⟩ : ∃ A k, N = .slice A n k := by
    obtain ⟨A, k, e, -⟩ := hcv.vn
    exact ⟨A, k, by rw [e, HCN.out]⟩
  clear hx c0 c1 c2 z0 hcv
  have e2 := al1 w2 (.cells #[.slice A n k, .slice A2 mc k2, .slice A4 n k4, .slice A5 n k5] 93)
  have hb2 := heap_alloc_new w2 (.cells #[.slice A n k, .slice A2 mc k2, .slice A4 n k4, .slice A5 n k5] 93)
  go_upto_region 2 with fail
  obtain ⟨s2, hs2⟩ : ∃ s, s = w2.heap.size := ⟨_, rfl⟩
  rw [← hs2] at hb2 ⊢
  generalize w2.alloc (.cells #[.slice A n k, .slice A2 mc k2, .slice A4 n k4, .slice A5 n k5] 93) = w3 at *
  obtain ⟨c0, c1, c2, c3, z0⟩ := four_c hb2
  have HX3 : Hid (Ext w2 w3) := Lib.hid e2
  have HCC := Lib.hid (And.intro c0 (And.intro c1 (And.intro c2 (And.intro c3 z0))))
  have HC3 := Lib.hid (HCV.out.ext HX3.out)
  have HO3 := Lib.hid (HO.out.ext (HX.out.trans HX3.out))
  have HX0 := Lib.hid (HX.out.trans HX3.out)
  clear hb2 hs2 e2 HCV HO HX HX3
  go_wp2_with fail
  refine (baths_any _ _ _ _ c _ HC3.out HOK.out).mono ?_
  rintro e w4 ⟨rfl, hx⟩
  rw [HCN.out]
  have HX4 := Lib.hid hx
  replace c0 := hx.at z0 c0
  replace c1 := hx.at z0 c1
  replace c2 := hx.at z0 c2
  replace c3 := hx.at z0 c3
  replace z0 := Nat.lt_of_lt_of_le z0 hx.size
  clear hx
  by_cases hqn : q = n
  · have hqb : ((q : Int) != (n : Int)) = false := by simp; omega
    have HQN := Lib.hid hqn
    have hq10 : q ≤ 10 := by omega
    clear hqn
    go_wp2_with fail
    refine (baths_any _ _ _ _ c _ (HC3.out.ext HX4.out) HOK.out).mono ?_
    rintro e w5 ⟨rfl, hx⟩
    rw [HCN.out]
    have HX5 := Lib.hid (HX4.out.trans hx)
    have yw : IntKind.i64.wrap ((n : Int) - 1) = (n : Int) - 1 := IntWalk.i64_in _ (by omega)
    clear hx HX4 c0 c1 c2 c3 z0
    go_wp2_with fail
    refine (areBetween_any q x 0 ((n : Int) - 1) _ _ (HO3.out.ext HX5.out)).mono ?_
    rintro e w6 ⟨rfl, rfl⟩
    cases hb : btw x 0 ((n : Int) - 1) q
    · obtain rfl : kk = false := by rw [HKO.out, hb]; simp
      clear hb
      go_wp2
      refine bodyPost_ret (v := .tuple #[.int .i64 0, .int .i64 6]) (by simp [results, Tryd.results30, go_sem]) rfl ?_
      exact ⟨by rw [HR.out.1, HR.out.2]; rfl, HX0.out.trans HX5.out⟩
    have HBT := Lib.hid (btw_iff.1 hb)
    have hkk : kk = c.fol 0 (ordL q x) := by rw [HKO.out, hb, decide_eq_true HQN.out]; rfl
    have HKK := Lib.hid hkk
    clear hb hkk HKO
    go_wp2_with fail
    go_loopw [8, 9, 10, 35] (fun cs s l i wr => ∃ (j sv lv : Nat) (cv : Int), i = .int .i64 j ∧ j ≤ q ∧ cs = .int .i64 cv ∧ s = .int .i64 sv ∧ l = .int .i64 lv ∧ Hid (sv = fin 0 (ordL j x) ∧ lv = lst 0 (ordL j x) ∧ cv = c.cst 0 0 (ordL j x) ∧ c.fol 0 (ordL j x) = true ∧ 0 ≤ cv ∧ cv ≤ 1000 * j) ∧ Hid (Ext w3 wr)) (fun _ _ _ i _ => q - (intOf i).toNat)
    case atStart => exact ⟨0, 0, 0, 0, rfl, Nat.zero_le _, rfl, rfl, rfl, Lib.hid ⟨rfl, rfl, rfl, rfl, by omega, by omega⟩, HX5⟩
    case round =>
      clear HX5
      obtain ⟨j, sv, lv, cv, rfl, hj, rfl, rfl, rfl, hst, hin⟩ := hrel
      by_cases hlt : j < q
      · obtain ⟨xj, hxj⟩ : ∃ t : Nat, x j = (t : Int) := ⟨(x j).toNat, by have := HBT.out j hlt; omega⟩
        have hxn : xj < c.n := by have := HBT.out j hlt; have := HCN.out; omega
        have hx10 : xj < 10 := by have := HBT.out j hlt; omega
        obtain ⟨ob, oo, rfl, oz, oc⟩ := Vl.at HO3.out hin.out hlt
        try dsimp only at oc
        rw [hxj] at oc
        have hsu := ordL_succ j x
        rw [hxj, Int.toNat_natCast] at hsu
        have hin9 := fol_in _ _ hst.out.2.2.2.1
        have hsv : sv < 2 ^ c.n := by rw [hst.out.1]; exact fin_lt _ 0 (Nat.two_pow_pos _) hin9
        have hlv : lv < c.n := by rw [hst.out.2.1]; exact lst_in _ _ (by have := HCN.out; omega) hin9
        have HSU := Lib.hid hsu
        have HLV := Lib.hid (And.intro hsv hlv)
        obtain ⟨c0, c1, c2, c3, z0⟩ := HCC.out
        replace c0 := hin.out.at z0 c0
        replace c1 := hin.out.at z0 c1
        replace c2 := hin.out.at z0 c2
        replace c3 := hin.out.at z0 c3
        replace z0 := Nat.lt_of_lt_of_le z0 hin.out.size
        clear hsu hin9 hsv hlv hxj
        go_wp2_with fail
        refine (canFollow_any _ _ _ _ c _ sv xj (HC3.out.ext hin.out) HOK.out HLV.out.1 hxn).mono ?_
        rintro e w7 ⟨rfl, hx⟩
        have hin2 := Lib.hid (hin.out.trans hx)
        replace c0 := hx.at z0 c0
        replace c1 := hx.at z0 c1
        replace c2 := hx.at z0 c2
        replace c3 := hx.at z0 c3
        replace z0 := Nat.lt_of_lt_of_le z0 hx.size
        clear hx oc oz
        have hfs : c.fol 0 (ordL (j + 1) x) = c.can sv xj := by rw [HSU.out, fol_snoc, hst.out.2.2.2.1, ← hst.out.1, decide_eq_true hxn]; simp
        cases hcan : c.can sv xj
        · rw [hcan] at hfs
          obtain rfl : kk = false := by rw [HKK.out]; exact fol_no hlt hfs
          clear hcan hfs c0 c1 c2 c3 z0
          go_wp2
          refine bodyPost_ret (v := .tuple #[.int .i64 0, .int .i64 6]) (by simp [results, Tryd.results30, go_sem]) rfl ?_
          exact ⟨by rw [HR.out.1, HR.out.2]; rfl, HX0.out.trans hin2.out⟩
        · rw [hcan] at hfs
          have HFS := Lib.hid hfs
          have HST9 := Lib.hid (stp_bd HOK.out (s := sv) HLV.out.2 hxn)
          obtain ⟨stv, hstv⟩ : ∃ v, v = c.stp sv lv xj := ⟨_, rfl⟩
          have HSP := Lib.hid fun X hX => step_any (.slice A n k) (.slice A2 mc k2) (.slice A4 n k4) (.slice A5 n k5) c X sv lv xj hX HLV.out.2 hxn
          rw [← hstv] at HSP HST9
          have HSTV := Lib.hid hstv
          have hs2 : sv < 1024 := Nat.lt_of_lt_of_le HLV.out.1 (pow_1024 HOK.out.n10)
          obtain ⟨px, hpx⟩ : ∃ a : Nat, a = 2 ^ xj := ⟨_, rfl⟩
          obtain ⟨sx, hsx⟩ : ∃ a : Nat, a = sv ||| 2 ^ xj := ⟨_, rfl⟩
          have hpl : px < 1024 := by rw [hpx]; exact Nat.lt_of_lt_of_le (Nat.pow_lt_pow_right (by omega) hxn) (pow_1024 HOK.out.n10)
          have y1 : (2 : Int) ^ xj = (px : Int) := by rw [hpx]; simp
          have y2 : bits .or .i64 (sv : Int) (px : Int) = (sx : Int) := by rw [or_nat hs2 hpl, hsx, hpx]
          have y4 : IntKind.i64.wrap (px : Int) = (px : Int) := IntWalk.i64_in _ (by omega)
          have HSX := Lib.hid (show sx = sv ||| 2 ^ xj from hsx)
          have hbd := hst.out.2.2.2.2
          have hqq := HQN.out
          have y5 : IntKind.i64.wrap (cv + stv) = cv + stv := IntWalk.i64_in _ (by have := HST9.out; omega)
          clear hcan hfs hstv hpx hsx hs2 hpl hbd hqq
          go_wp2_with fail
          refine (HSP.out _ (HC3.out.ext hin2.out)).mono ?_
          rintro e w8 ⟨rfl, hx⟩
          have hin3 := Lib.hid (hin2.out.trans hx)
          clear hx c0 c1 c2 c3 z0
          go_wp2
          go_roundw
          case rel =>
            refine ⟨j + 1, sx, xj, cv + stv, by go_num, by omega, rfl, rfl, rfl, Lib.hid ⟨?_, ?_, ?_, HFS.out, ?_, ?_⟩, hin3⟩
            · rw [HSU.out, fin_snoc, ← hst.out.1, HSX.out]
            · rw [HSU.out, lst_snoc]
            · rw [HSU.out, cst_snoc, ← hst.out.1, ← hst.out.2.1, ← hst.out.2.2.1, HSTV.out]
            · have := HST9.out; have := hst.out.2.2.2.2; omega
            · have := HST9.out; have := hst.out.2.2.2.2; omega
          case measure => simp [intOf] <;> omega
      · obtain rfl : j = q := by omega
        have hx9 : ¬ (j : Int) < (j : Int) := by omega
        obtain rfl : kk = true := by rw [HKK.out]; exact hst.out.2.2.2.1
        have HCS := Lib.hid hst.out.2.2.1
        go_wp2
        refine bodyPost_ret (v := .tuple #[.int .i64 cv, .int .i64 0]) (by simp [results, Tryd.results30, go_sem]) rfl ?_
        exact ⟨by rw [HR.out.1, HR.out.2, HCS.out]; rfl, HX0.out.trans hin.out⟩
  · have hqb : ((q : Int) != (n : Int)) = true := by simp; omega
    obtain rfl : kk = false := by rw [HKO.out, decide_eq_false hqn]; rfl
    clear hqn c0 c1 c2 c3 z0
    go_wp2
    refine bodyPost_ret (v := .tuple #[.int .i64 0, .int .i64 6]) (by simp [results, Tryd.results30, go_sem]) rfl ?_
    exact ⟨by rw [HR.out.1, HR.out.2]; rfl, HX0.out.trans HX4.out⟩
end Go.Proofs.YtlachbodibajlaaDoor
