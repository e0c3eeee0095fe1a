/- Walks: best. · Walks: Best, Prices. · What comes in: a plan. -/
import Derived.Test.YtlachbodibajlaaDoorM20
import Derived.Test.YtlachbodibajlaaDoorM5
import Derived.Test.YtlachbodibajlaaDoorM18
namespace Go.Proofs.YtlachbodibajlaaDoor
open Go.RowKit Go.Shelf

theorem Kp.of_num {c : Crs} {S C E N' : Value} {W0 : World} {kb g1 g2 cb : Nat} (hK : Kp c S C E N' W0 kb g1 g2 cb) {s x : Nat} (hs : s < 2 ^ c.n) (hx : x < c.n) : OfP c W0 kb g1 g2 cb (c.n * s + x) := by
  refine ofP_all hK (2 ^ c.n) _ ?_ (Nat.sub_le _ _)
  have h6 : c.n * (s + 1) ≤ c.n * 2 ^ c.n := Nat.mul_le_mul_left _ hs
  rw [Nat.mul_add, Nat.mul_one] at h6
  unfold Crs.sz; omega

set_option maxHeartbeats 4000000 in
set_option maxRecDepth 100000 in
theorem best_any (S C E N : Value) (c : Crs) (W : World) (h : Cv W S C E N c) (hc : c.ok) (hh : c.has = true) :
    Calls Tryd.prog 75 #[.agg #[S, C, E, N]] W fun e W' => ∃ U, e = .returned U ∧ Il W' U c.n (fun i => ((c.best.getD i 0 : Nat) : Int)) ∧ Ext W W' := by
  have HPR := Lib.hid fun X hX => prices_any S C E N c X hX hc
  have HBA := Lib.hid fun X hX => baths_any S C E N c X hX hc
  obtain ⟨A, k, rfl, -⟩ := id h.vs
  obtain ⟨A2, k2, rfl, -⟩ := id h.vc
  obtain ⟨A3, k3, rfl, -⟩ := id h.ve
  obtain ⟨A4, k4, rfl, -⟩ := id h.vn
  have hn := hc.n10
  have hn1 := hc.n1
  obtain ⟨i0, hi, hz0, hz1, hz2⟩ := info_parts info3
  have e1 : Ext W (W.alloc (.cells #[.slice A c.n k, .slice A2 c.n k2, .slice A3 c.n k3, .slice A4 c.n k4] 93)) := al1 W _
  have hbk := heap_alloc_new W (.cells #[.slice A c.n k, .slice A2 c.n k2, .slice A3 c.n k3, .slice A4 c.n k4] 93)
  have HC := Lib.hid h; have HOK := Lib.hid hc; have HH := Lib.hid hh
  clear h hc hh
  go_enter Tryd.func75, Tryd.ntmps75
  go_upto_region 1 with fail
  obtain ⟨s1, hs1⟩ : ∃ s, s = W.heap.size := ⟨_, rfl⟩
  rw [← hs1] at hbk ⊢
  generalize W.alloc (.cells #[.slice A c.n k, .slice A2 c.n k2, .slice A3 c.n k3, .slice A4 c.n k4] 93) = W1 at *
  obtain ⟨c0, c1, c2, c3, z0⟩ := four_c hbk
  have HCC := Lib.hid (And.intro c0 (And.intro c1 (And.intro c2 (And.intro c3 z0))))
  have E1 := Lib.hid e1
  clear hbk hs1 e1
  go_wp2_with fail
  refine (HPR.out _ (HC.out.ext E1.out)).mono ?_
  rintro e w2 ⟨W0, kb, g1, g2, cb, rfl, hK, hT, hx⟩
  have HK := Lib.hid hK; have HT0 := Lib.hid hT; have HX0 := Lib.hid hx
  replace c0 := (hx.trans hT.ext).at z0 c0
  replace c1 := (hx.trans hT.ext).at z0 c1
  replace c2 := (hx.trans hT.ext).at z0 c2
  replace c3 := (hx.trans hT.ext).at z0 c3
  replace z0 := Nat.lt_of_lt_of_le z0 (hx.trans hT.ext).size
  clear hK hT hx
  go_wp2_with fail
  refine (HBA.out _ (HC.out.ext (E1.out.trans (HX0.out.trans HT0.out.ext)))).mono ?_
  rintro e w3 ⟨rfl, hx3⟩
  have HT1 : Hid (Kt c W0 kb g1 g2 cb w3) := Lib.hid (HT0.out.ext' hx3)
  obtain ⟨base, hbase⟩ : ∃ b, b = w3.heap.size := ⟨_, rfl⟩
  have HBS : Hid (W0.heap.size ≤ base ∧ kb < base ∧ g1 < base ∧ g2 < base ∧ base ≤ w3.heap.size) := Lib.hid (by rw [hbase]; exact ⟨HT1.out.ext.size, HT1.out.lt.1, HT1.out.lt.2.1, HT1.out.lt.2.2, Nat.le_refl _⟩)
  clear hx3 c0 c1 c2 c3 z0 hbase
  go_wp2_with fail
  go_loopw [4, 5, 6, 11] (fun u s l i wr => ∃ (j sv lv : Nat) (V : Value), i = .int .i64 j ∧ j ≤ c.n ∧ V = u ∧ s = .int .i64 sv ∧ l = .int .i64 lv ∧ Hid (sv = fin 0 (c.grd c.pz j 0 0) ∧ lv = lst 0 (c.grd c.pz j 0 0)) ∧ Hid (Qs wr base V j (fun t => (((c.grd c.pz j 0 0).getD t 0 : Nat) : Int)) ∧ Kt c W0 kb g1 g2 cb wr ∧ base ≤ wr.heap.size)) (fun _ _ _ i _ => c.n - (intOf i).toNat)
  case atStart => exact ⟨0, 0, 0, .slice none 0 0, rfl, Nat.zero_le _, rfl, rfl, rfl, Lib.hid ⟨rfl, rfl⟩, Lib.hid ⟨Qs.nil _ _ _, HT1.out, HBS.out.2.2.2.2⟩⟩
  case round =>
    clear HT1
    obtain ⟨j, sv, lv, V, rfl, hj, rfl, rfl, rfl, hsl, hin⟩ := hrel
    by_cases hlt : j < c.n
    · obtain ⟨y, hy, hsv, hlv, hcan, hchp, hsn⟩ := grd_at HH.out hn1 c.pz hlt
      rw [← hsl.out.1, ← hsl.out.2] at hchp
      rw [← hsl.out.1] at hsv hcan
      rw [← hsl.out.2] at hlv
      obtain ⟨c0, c1, c2, c3, z0⟩ := HCC.out
      have hxw := HX0.out.trans hin.out.2.1.ext
      replace c0 := hxw.at z0 c0
      replace c1 := hxw.at z0 c1
      replace c2 := hxw.at z0 c2
      replace c3 := hxw.at z0 c3
      replace z0 := Nat.lt_of_lt_of_le z0 hxw.size
      have HCH := Lib.hid fun X (hX : Kt c W0 kb g1 g2 cb X) => cheapest_any _ _ _ _ c W0 X kb g1 g2 sv lv c.pz (Kt c W0 kb g1 g2 cb) HK.out.cv HOK.out hsv hlv hX (fun _ h => h.ext) (fun _ _ h e => h.ext' e) hX.lt.2.1 hX.lt.2.2 (pz_bd HOK.out) (fun x hx _ Y hY => HK.out.of_num (or_lt hsv hx) hx Y hY)
      obtain ⟨r2, hr2⟩ : ∃ r, r = (c.chp c.pz sv lv).2 := ⟨_, rfl⟩
      rw [hchp, ← hr2] at HCH
      have hs2 : sv < 1024 := Nat.lt_of_lt_of_le hsv (pow_1024 hn)
      obtain ⟨px, hpx⟩ : ∃ a : Nat, a = 2 ^ y := ⟨_, rfl⟩
      obtain ⟨sx, hsx⟩ : ∃ a : Nat, a = sv ||| 2 ^ y := ⟨_, rfl⟩
      have hpl : px < 1024 := by rw [hpx]; exact Nat.lt_of_lt_of_le (Nat.pow_lt_pow_right (by omega) hy) (pow_1024 hn)
      have y1 : (2 : Int) ^ y = (px : Int) := by rw [hpx]; simp
      have y2 : bits .or .i64 (sv : Int) (px : Int) = (sx : Int) := by rw [or_nat hs2 hpl, hsx, hpx]
      have y4 : IntKind.i64.wrap (px : Int) = (px : Int) := IntWalk.i64_in _ (by omega)
      have HSN : Hid (sx = fin 0 (c.grd c.pz (j + 1) 0 0) ∧ y = lst 0 (c.grd c.pz (j + 1) 0 0) ∧ c.grd c.pz (j + 1) 0 0 = c.grd c.pz j 0 0 ++ [y]) := Lib.hid ⟨by rw [hsn, fin_snoc, ← hsl.out.1, hsx], by rw [hsn, lst_snoc], hsn⟩
      clear hsn hchp hr2 hcan hsv hlv hpx hsx hs2 hpl hxw
      go_wp2_with fail
      refine (HCH.out _ hin.out.2.1).mono ?_
      rintro e w4 ⟨rfl, hk4, hi4⟩
      have hq4 : Qs w4 base V j (fun t => (((c.grd c.pz j 0 0).getD t 0 : Nat) : Int)) := hin.out.1.block hk4.size (fun g hg => hk4.block g (hin.out.1.1 g hg).2 (by have := (hin.out.1.1 g hg).1; have := HBS.out; omega) (by have := (hin.out.1.1 g hg).1; have := HBS.out; omega))
      have HF := Lib.hid (And.intro hq4 (And.intro hi4 (Nat.le_trans hin.out.2.2 hk4.size)))
      clear hk4 hi4 hq4 c0 c1 c2 c3 z0
      go_wp2_with (at_builtin; refine wpList_append_q rfl _ _ 32 rfl i0 Tryd.underlying32 hi hz0 hz1 hz2 base V j (fun t => (((c.grd c.pz j 0 0).getD t 0 : Nat) : Int)) rfl ?qs ?base ⟨w4.heap.size, 0, none⟩ 1 y rfl ?cell ?n ?_)
      case qs => exact HF.out.1.ext (Ext.alc (Ext.refl _) _)
      case base => have := HF.out.2.2; simp; omega
      case cell => rw [World.cell?_alloc_new]; rfl
      case n => omega
      intro v' w5 hq5 hgr
      have hob : ∀ b, V.ownBlock = some b → base ≤ b := fun b hb => (HF.out.1.1 b hb).1
      have hX5 : Ext W0 w5 := hgr.ext (HF.out.2.1.ext.alc _) (fun b hb => Nat.le_trans HBS.out.1 (hob b hb))
      have hi5 : Kt c W0 kb g1 g2 cb w5 := HF.out.2.1.move hX5 (fun b hb => by
        have hl := HF.out.2.1.lt
        have hbb : b < base := by have := HBS.out; omega
        have hbw : b < w4.heap.size := Nat.lt_of_lt_of_le hbb HF.out.2.2
        exact (hgr.by_.block b (by simp; omega) (fun e => by have := hob b e.symm; omega)).trans (Below.heap_alloc _ _ _ hbw))
      have hsz5 : base ≤ w5.heap.size := by have h1 := hgr.by_.size; have := HF.out.2.2; simp at h1; omega
      have HG := Lib.hid (And.intro hq5 (And.intro hi5 hsz5))
      clear hq5 hgr hob hX5 hi5 hsz5
      go_wp2
      go_roundw
      case rel =>
        refine ⟨j + 1, sx, y, v', by go_num, by omega, rfl, rfl, rfl, Lib.hid ⟨HSN.out.1, HSN.out.2.1⟩, Lib.hid ⟨HG.out.1.congr fun i hi => ?_, HG.out.2⟩⟩
        rw [HSN.out.2.2]
        have hl := grd_len c c.pz j 0 0
        by_cases e : i = j
        · subst e
          rw [up_self]; simp only [List.getD_eq_getElem?_getD]; rw [List.getElem?_append_right (by omega), hl]
          simp
        · rw [up_ne _ _ e]; simp only [List.getD_eq_getElem?_getD]; rw [List.getElem?_append_left (by omega)]
      case measure => simp [intOf] <;> omega
    · obtain rfl : j = c.n := by omega
      have hx9 : ¬ (c.n : Int) < (c.n : Int) := by omega
      go_wp2
      go_ret
      exact ⟨V, rfl, hin.out.1.il, E1.out.trans (HX0.out.trans hin.out.2.1.ext)⟩
end Go.Proofs.YtlachbodibajlaaDoor
namespace Go.Proofs.YtlachbodibajlaaDoor
open Go.RowKit Go.Shelf

theorem il_none (w : World) (x : Nat → Int) : Il w (.slice none 0 0) 0 x := ⟨none, 0, rfl, Nat.le_refl _, by decide, fun h => absurd h (Nat.lt_irrefl _)⟩
def bestE (ok : Bool) (c : Crs) : Int := if ok = true then (if c.has = true then 0 else 7) else 2
def bestN (ok : Bool) (c : Crs) : Nat := if ok = true then (if c.has = true then c.n else 0) else 0
def prcN (ok : Bool) (c : Crs) : Nat := if ok = true then (if c.has = true then c.sz else 0) else 0

set_option maxHeartbeats 4000000 in
set_option maxRecDepth 100000 in
theorem Best_any (S C B : Value) (n mc m : Nat) (st : Nat → Int) (ln : Nat → Nat) (y : Nat → Nat → Int) (a b : Nat → Int) (W : World) (h : Pv W S C B n mc m st ln y a b) :
    Calls Tryd.prog 33 #[.agg #[S, C, B]] W fun e W' => ∃ U, e = .returned (.tuple #[U, .int .i64 (bestE (okPlan n mc m st ln y a b) (crs n m st y a b))]) ∧ Il W' U (bestN (okPlan n mc m st ln y a b) (crs n m st y a b)) (fun i => (((crs n m st y a b).best.getD i 0 : Nat) : Int)) ∧ Ext W W' := by
  obtain ⟨re, hre⟩ : ∃ v, v = bestE (okPlan n mc m st ln y a b) (crs n m st y a b) := ⟨_, rfl⟩
  obtain ⟨rn, hrn⟩ : ∃ v, v = bestN (okPlan n mc m st ln y a b) (crs n m st y a b) := ⟨_, rfl⟩
  rw [← hre, ← hrn]
  have HR0 := Lib.hid (And.intro hre hrn)
  clear hre hrn
  have HV := Lib.hid h
  obtain ⟨A, k, rfl, -⟩ := id h.vs
  obtain ⟨A2, k2, rfl, -⟩ := id h.vc
  obtain ⟨A3, k3, rfl, -⟩ := id h.vb
  have e1 : Ext W (W.alloc (.cells #[.slice A n k, .slice A2 mc k2, .slice A3 m k3] 50)) := al1 W _
  have hbk := heap_alloc_new W (.cells #[.slice A n k, .slice A2 mc k2, .slice A3 m k3] 50)
  clear h
  go_enter Tryd.func33, Tryd.ntmps33
  go_upto_region 1 with fail
  obtain ⟨s1, hs1⟩ : ∃ s, s = W.heap.size := ⟨_, rfl⟩
  rw [← hs1] at hbk ⊢
  generalize W.alloc (.cells #[.slice A n k, .slice A2 mc k2, .slice A3 m k3] 50) = W1 at *
  obtain ⟨c0, c1, c2, z0⟩ := three_c hbk
  have E1 := Lib.hid e1
  clear hbk hs1 e1
  cases hok : okPlan n mc m st ln y a b
  · have HR : Hid (re = 2 ∧ rn = 0) := Lib.hid (by rw [HR0.out.1, HR0.out.2, hok]; exact ⟨rfl, rfl⟩)
    have HP := Lib.hid (planCourse_no _ _ _ n mc m st ln y a b W1 (HV.out.ext E1.out) hok)
    clear hok HR0
    go_wp2_with fail
    refine HP.out.mono ?_
    rintro e w2 ⟨rfl, hx⟩
    have HX := Lib.hid (E1.out.trans hx)
    clear hx c0 c1 c2 z0
    go_wp2
    refine bodyPost_ret (v := .tuple #[.slice none 0 0, .int .i64 2]) (by simp [results, Tryd.results33, go_sem]) rfl ?_
    exact ⟨.slice none 0 0, by rw [HR.out.1], by rw [HR.out.2]; exact il_none _ _, HX.out.alc _⟩
  have hkp := okPlan_iff.1 hok
  have HP := Lib.hid (planCourse_yes _ _ _ n mc m st ln y a b W1 (HV.out.ext E1.out) hkp)
  have HOK := Lib.hid hkp.crs
  have hn10 := hkp.n10
  have hn1 := hkp.n1
  obtain ⟨c, hc⟩ : ∃ c, c = crs n m st y a b := ⟨_, rfl⟩
  have hcn : c.n = n := by rw [hc]; rfl
  rw [← hc] at HP HOK
  have HCN := Lib.hid hcn
  have HR : Hid (re = (if c.has = true then 0 else 7) ∧ rn = if c.has = true then c.n else 0) := Lib.hid (by rw [HR0.out.1, HR0.out.2, hok, hc]; exact ⟨rfl, rfl⟩)
  have HC9 := Lib.hid hc
  clear hok hkp hcn hc HR0
  go_wp2_with fail
  refine HP.out.mono ?_
  rintro e w2 ⟨E, N, rfl, hcv, hx⟩
  have HX := Lib.hid (E1.out.trans hx)
  have HCV := Lib.hid hcv
  obtain ⟨A4, k4, rfl⟩ : ∃ A k, E = .slice A n k := by
    obtain ⟨A, k, e, -⟩ := hcv.ve
    exact ⟨A, k, by rw [e, HCN.out]⟩
  obtain ⟨A5, k5, rfl⟩ : ∃ A k, N = .slice A n k := by
    obtain ⟨A, k, e, -⟩ := hcv.vn
    exact ⟨A, k, by rw [e, HCN.out]⟩
  clear hx c0 c1 c2 z0 hcv
  have e2 := al1 w2 (.cells #[.slice A n k, .slice A2 mc k2, .slice A4 n k4, .slice A5 n k5] 93)
  have hb2 := heap_alloc_new w2 (.cells #[.slice A n k, .slice A2 mc k2, .slice A4 n k4, .slice A5 n k5] 93)
  go_upto_region 2 with fail
  obtain ⟨s2, hs2⟩ : ∃ s, s = w2.heap.size := ⟨_, rfl⟩
  rw [← hs2] at hb2 ⊢
  generalize w2.alloc (.cells #[.slice A n k, .slice A2 mc k2, .slice A4 n k4, .slice A5 n k5] 93) = w3 at *
  obtain ⟨c0, c1, c2, c3, z0⟩ := four_c hb2
  have HX3 : Hid (Ext w2 w3) := Lib.hid e2
  have HCC := Lib.hid (And.intro c0 (And.intro c1 (And.intro c2 (And.intro c3 z0))))
  have HC3 := Lib.hid (HCV.out.ext HX3.out)
  have HX0 := Lib.hid (HX.out.trans HX3.out)
  clear hb2 hs2 e2 HCV HX HX3
  go_wp2_with fail
  refine (hasOrder_any _ _ _ _ c _ HC3.out HOK.out).mono ?_
  rintro e w4 ⟨rfl, hx⟩
  have HX4 := Lib.hid hx
  replace c0 := hx.at z0 c0
  replace c1 := hx.at z0 c1
  replace c2 := hx.at z0 c2
  replace c3 := hx.at z0 c3
  replace z0 := Nat.lt_of_lt_of_le z0 hx.size
  clear hx
  cases hh : c.has
  · rw [hh] at HR
    clear hh c0 c1 c2 c3 z0
    go_wp2
    refine bodyPost_ret (v := .tuple #[.slice none 0 0, .int .i64 7]) (by simp [results, Tryd.results33, go_sem]) rfl ?_
    exact ⟨.slice none 0 0, by rw [HR.out.1]; rfl, by rw [HR.out.2]; exact il_none _ _, HX0.out.trans HX4.out⟩
  rw [hh] at HR
  have HH := Lib.hid hh
  clear hh
  go_wp2_with fail
  refine (best_any _ _ _ _ c _ (HC3.out.ext HX4.out) HOK.out HH.out).mono ?_
  rintro e w5 ⟨U, rfl, hil, hx⟩
  have HF := Lib.hid (And.intro hil hx)
  clear hil hx c0 c1 c2 c3 z0
  go_wp2
  refine bodyPost_ret (v := .tuple #[U, .int .i64 0]) (by simp [results, Tryd.results33, go_sem]) rfl ?_
  exact ⟨U, by rw [HR.out.1]; rfl, by rw [HR.out.2, ← HC9.out]; exact HF.out.1, HX0.out.trans (HX4.out.trans HF.out.2)⟩

set_option maxHeartbeats 4000000 in
set_option maxRecDepth 100000 in
theorem Prices_any (S C B : Value) (n mc m : Nat) (st : Nat → Int) (ln : Nat → Nat) (y : Nat → Nat → Int) (a b : Nat → Int) (W : World) (h : Pv W S C B n mc m st ln y a b) :
    Calls Tryd.prog 36 #[.agg #[S, C, B]] W fun e W' => ∃ U, e = .returned (.tuple #[U, .int .i64 (bestE (okPlan n mc m st ln y a b) (crs n m st y a b))]) ∧ Il W' U (prcN (okPlan n mc m st ln y a b) (crs n m st y a b)) (crs n m st y a b).pz ∧ Ext W W' := by
  obtain ⟨re, hre⟩ : ∃ v, v = bestE (okPlan n mc m st ln y a b) (crs n m st y a b) := ⟨_, rfl⟩
  obtain ⟨rn, hrn⟩ : ∃ v, v = prcN (okPlan n mc m st ln y a b) (crs n m st y a b) := ⟨_, rfl⟩
  rw [← hre, ← hrn]
  have HR0 := Lib.hid (And.intro hre hrn)
  clear hre hrn
  have HV := Lib.hid h
  obtain ⟨A, k, rfl, -⟩ := id h.vs
  obtain ⟨A2, k2, rfl, -⟩ := id h.vc
  obtain ⟨A3, k3, rfl, -⟩ := id h.vb
  have e1 : Ext W (W.alloc (.cells #[.slice A n k, .slice A2 mc k2, .slice A3 m k3] 50)) := al1 W _
  have hbk := heap_alloc_new W (.cells #[.slice A n k, .slice A2 mc k2, .slice A3 m k3] 50)
  clear h
  go_enter Tryd.func36, Tryd.ntmps36
  go_upto_region 1 with fail
  obtain ⟨s1, hs1⟩ : ∃ s, s = W.heap.size := ⟨_, rfl⟩
  rw [← hs1] at hbk ⊢
  generalize W.alloc (.cells #[.slice A n k, .slice A2 mc k2, .slice A3 m k3] 50) = W1 at *
  obtain ⟨c0, c1, c2, z0⟩ := three_c hbk
  have E1 := Lib.hid e1
  clear hbk hs1 e1
  cases hok : okPlan n mc m st ln y a b
  · have HR : Hid (re = 2 ∧ rn = 0) := Lib.hid (by rw [HR0.out.1, HR0.out.2, hok]; exact ⟨rfl, rfl⟩)
    have HP := Lib.hid (planCourse_no _ _ _ n mc m st ln y a b W1 (HV.out.ext E1.out) hok)
    clear hok HR0
    go_wp2_with fail
    refine HP.out.mono ?_
    rintro e w2 ⟨rfl, hx⟩
    have HX := Lib.hid (E1.out.trans hx)
    clear hx c0 c1 c2 z0
    go_wp2
    refine bodyPost_ret (v := .tuple #[.slice none 0 0, .int .i64 2]) (by simp [results, Tryd.results36, go_sem]) rfl ?_
    exact ⟨.slice none 0 0, by rw [HR.out.1], by rw [HR.out.2]; exact il_none _ _, HX.out.alc _⟩
  have hkp := okPlan_iff.1 hok
  have HP := Lib.hid (planCourse_yes _ _ _ n mc m st ln y a b W1 (HV.out.ext E1.out) hkp)
  have HOK := Lib.hid hkp.crs
  have hn10 := hkp.n10
  have hn1 := hkp.n1
  obtain ⟨c, hc⟩ : ∃ c, c = crs n m st y a b := ⟨_, rfl⟩
  have hcn : c.n = n := by rw [hc]; rfl
  rw [← hc] at HP HOK
  have HCN := Lib.hid hcn
  have HR : Hid (re = (if c.has = true then 0 else 7) ∧ rn = if c.has = true then c.sz else 0) := Lib.hid (by rw [HR0.out.1, HR0.out.2, hok, hc]; exact ⟨rfl, rfl⟩)
  have HC9 := Lib.hid hc
  clear hok hkp hcn hc HR0
  go_wp2_with fail
  refine HP.out.mono ?_
  rintro e w2 ⟨E, N, rfl, hcv, hx⟩
  have HX := Lib.hid (E1.out.trans hx)
  have HCV := Lib.hid hcv
  obtain ⟨A4, k4, rfl⟩ : ∃ A k, E = .slice A n k := by
    obtain ⟨A, k, e, -⟩ := hcv.ve
    exact ⟨A, k, by rw [e, HCN.out]⟩
  obtain ⟨A5, k5, rfl⟩ : ∃ A k, N = .slice A n k := by
    obtain ⟨A, k, e, -⟩ := hcv.vn
    exact ⟨A, k, by rw [e, HCN.out]⟩
  clear hx c0 c1 c2 z0 hcv
  have e2 := al1 w2 (.cells #[.slice A n k, .slice A2 mc k2, .slice A4 n k4, .slice A5 n k5] 93)
  have hb2 := heap_alloc_new w2 (.cells #[.slice A n k, .slice A2 mc k2, .slice A4 n k4, .slice A5 n k5] 93)
  go_upto_region 2 with fail
  obtain ⟨s2, hs2⟩ : ∃ s, s = w2.heap.size := ⟨_, rfl⟩
  rw [← hs2] at hb2 ⊢
  generalize w2.alloc (.cells #[.slice A n k, .slice A2 mc k2, .slice A4 n k4, .slice A5 n k5] 93) = w3 at *
  obtain ⟨c0, c1, c2, c3, z0⟩ := four_c hb2
  have HX3 : Hid (Ext w2 w3) := Lib.hid e2
  have HCC := Lib.hid (And.intro c0 (And.intro c1 (And.intro c2 (And.intro c3 z0))))
  have HC3 := Lib.hid (HCV.out.ext HX3.out)
  have HX0 := Lib.hid (HX.out.trans HX3.out)
  clear hb2 hs2 e2 HCV HX HX3
  go_wp2_with fail
  refine (hasOrder_any _ _ _ _ c _ HC3.out HOK.out).mono ?_
  rintro e w4 ⟨rfl, hx⟩
  have HX4 := Lib.hid hx
  replace c0 := hx.at z0 c0
  replace c1 := hx.at z0 c1
  replace c2 := hx.at z0 c2
  replace c3 := hx.at z0 c3
  replace z0 := Nat.lt_of_lt_of_le z0 hx.size
  clear hx
  cases hh : c.has
  · rw [hh] at HR
    clear hh c0 c1 c2 c3 z0
    go_wp2
    refine bodyPost_ret (v := .tuple #[.slice none 0 0, .int .i64 7]) (by simp [results, Tryd.results36, go_sem]) rfl ?_
    exact ⟨.slice none 0 0, by rw [HR.out.1]; rfl, by rw [HR.out.2]; exact il_none _ _, HX0.out.trans HX4.out⟩
  rw [hh] at HR
  have HH := Lib.hid hh
  clear hh
  go_wp2_with fail
  refine (prices_any _ _ _ _ c _ (HC3.out.ext HX4.out) HOK.out).mono ?_
  rintro e w5 ⟨W0, kb, g1, g2, cb, rfl, hK, hT, hx0⟩
  have HK := Lib.hid hK
  have hx := hx0.trans hT.ext
  replace c0 := hx.at z0 c0
  replace c1 := hx.at z0 c1
  replace c2 := hx.at z0 c2
  replace c3 := hx.at z0 c3
  replace z0 := Nat.lt_of_lt_of_le z0 hx.size
  have HT := Lib.hid hT
  have HX5 := Lib.hid (HX0.out.trans (HX4.out.trans hx0))
  have HC5 := Lib.hid (HC3.out.ext (HX4.out.trans hx))
  clear hK hT hx0 hx
  go_wp2_with fail
  refine (size_crs _ _ _ _ c _ HC5.out HOK.out).mono ?_
  rintro e w6 ⟨rfl, hx⟩
  have HT6 := Lib.hid (HT.out.ext' hx)
  obtain ⟨z, hz⟩ : ∃ z, z = c.sz := ⟨_, rfl⟩
  have hzl : z ≤ 10 * 1024 := by rw [hz]; exact Nat.mul_le_mul HOK.out.n10 (pow_1024 HOK.out.n10)
  rw [← hz] at HR ⊢
  have HZ := Lib.hid hz
  have hm1 : ∀ w, (Instr.makeSlice 32 (.int .i64 (z : Int)) (.int .i64 (z : Int))).run Tryd.prog w = .ok (.slice (some ⟨w.heap.size, 0, none⟩) z z) (w.alloc (.cells (Array.ofFn fun _ : Fin z => .int .i64 0) 3)) :=
    fun w => make_one 32 3 _ 8 Tryd.underlying32 info3 rfl (by omega) z (by omega) w
  obtain ⟨C1, hC1⟩ : ∃ C, C = (Array.ofFn fun _ : Fin z => Value.int .i64 0) := ⟨_, rfl⟩
  rw [← hC1] at hm1
  have HC1 := Lib.hid hC1
  clear hx hz hC1 c0 c1 c2 c3 z0 HT
  go_upto_region 8 with fail
  have hb9 := heap_alloc_new w6 (.cells C1 3)
  have hx9 : Ext w6 (w6.alloc (.cells C1 3)) := al1 w6 _
  obtain ⟨g, hg⟩ : ∃ s, s = w6.heap.size := ⟨_, rfl⟩
  have HGL : Hid (kb < g ∧ g1 < g ∧ g2 < g ∧ W0.heap.size ≤ g) := Lib.hid (by rw [hg]; exact ⟨HT6.out.lt.1, HT6.out.lt.2.1, HT6.out.lt.2.2, HT6.out.ext.size⟩)
  have HT7 := Lib.hid (HT6.out.ext' hx9)
  rw [← hg] at hb9 ⊢
  generalize w6.alloc (.cells C1 3) = w7 at *
  rw [HC1.out] at hb9
  have hbi : BI w7 g z (fun _ => 0) := hb9
  have HBI := Lib.hid hbi
  clear hb9 hx9 hg hbi HT6 hm1 HC1
  go_wp2_with fail
  go_loopw [26] (fun i wr => ∃ (j : Nat) (f : Nat → Int), i = .int .i64 j ∧ j ≤ z ∧ Hid (BI wr g z f ∧ (∀ p, p < j → f p = c.pz p) ∧ Kt c W0 kb g1 g2 cb wr)) (fun i _ => z - (intOf i).toNat)
  case atStart => exact ⟨0, fun _ => 0, rfl, Nat.zero_le _, Lib.hid ⟨HBI.out, fun p hp => absurd hp (Nat.not_lt_zero _), HT7.out⟩⟩
  case round =>
    clear HBI HT7
    obtain ⟨j, f, rfl, hj, hin⟩ := hrel
    by_cases hlt : j < z
    · obtain ⟨v, hv⟩ : ∃ v, v = c.pz j := ⟨_, rfl⟩
      have HOF : Hid (∀ X, Kt c W0 kb g1 g2 cb X → Calls Tryd.prog 82 #[.pointer (some ⟨kb, 0, none⟩), .int .i64 j] X fun e X' => e = .returned (.int .i64 v) ∧ Kq g1 g2 X X' ∧ Kt c W0 kb g1 g2 cb X') := Lib.hid (by rw [hv]; exact ofP_all HK.out (2 ^ c.n) j (by rw [← HZ.out]; exact hlt) (Nat.sub_le _ _))
      have HVV := Lib.hid hv
      clear hv
      go_wp2_with fail
      refine (HOF.out _ hin.out.2.2).mono ?_
      rintro e w8 ⟨rfl, hkq, hkt⟩
      have hb8 : BI w8 g z f := (hkq.block g (Bk.lt hin.out.1) (by have := HGL.out; omega) (by have := HGL.out; omega)).trans hin.out.1
      have uf := Bk.free hb8 j
      have u0 := Bk.cell hb8 hlt
      have uz := Bk.lt hb8
      have hbs := BI.set_ hb8 j v
      have hts : Kt c W0 kb g1 g2 cb (w8.setCell ⟨g, j, none⟩ (.int .i64 v)) := hkt.move (hkt.ext.sc (by have := HGL.out; omega)) (fun b hb => heap_far (by have := HGL.out; omega))
      have HN := Lib.hid (And.intro hbs hts)
      clear hkq hkt hb8 hbs hts
      go_wp2
      go_roundw
      case rel =>
        refine ⟨j + 1, up f j v, by go_num, by omega, Lib.hid ⟨HN.out.1, fun p hp => ?_, HN.out.2⟩⟩
        by_cases e : p = j
        · subst e; rw [up_self, HVV.out]
        · rw [up_ne _ _ e]; exact hin.out.2.1 p (by omega)
      case measure => simp [intOf] <;> omega
    · obtain rfl : j = z := by omega
      have hx9 : ¬ (j : Int) < (j : Int) := by omega
      go_wp2
      refine bodyPost_ret (v := .tuple #[.slice (some ⟨g, 0, none⟩) j j, .int .i64 0]) (by simp [results, Tryd.results36, go_sem]) rfl ?_
      refine ⟨_, by rw [HR.out.1]; rfl, ?_, HX5.out.trans hin.out.2.2.ext⟩
      rw [HR.out.2, ← HC9.out]
      exact (BI.il hin.out.1 (by omega)).congr (fun p hp => hin.out.2.1 p hp)
end Go.Proofs.YtlachbodibajlaaDoor
namespace Go.Proofs.YtlachbodibajlaaDoor
open Go.ChangeShapes Go.WideShapes Go.ChangeAt Go.RowKit Go.Joins Go.Deep

theorem cells32 : Tryd.prog.cellsOf 32 = 1 := by kernel_rfl
theorem cells60 : Tryd.prog.cellsOf 60 = 2 := by kernel_rfl
theorem cells48 : Tryd.prog.cellsOf 48 = 3 := by kernel_rfl

set_option maxRecDepth 1000000 in
theorem open_ints_at {H : Type} {enc : TypeId × Value → H} {W : World} {base : Nat} {spare : Nat → Bool} {held : Bool} {n : Nat} {v : Value} {x : DataW H × List MemPlace}
    (h : DataW.trod enc Tryd.prog W base spare held n 32 [v] = some x) : ∃ (n : Nat) (x : Nat → Int), Il W v n x :=
  open_list_in (fun z => .int .i64 z) Tryd.underlying32 cells3 (fun n u y hy => by obtain ⟨z, e, -⟩ := DataW.trod_int Tryd.underlying3 hy; simp at e; exact ⟨z, e⟩) h
set_option maxRecDepth 1000000 in
theorem open_rows_at {H : Type} {enc : TypeId × Value → H} {W : World} {base : Nat} {spare : Nat → Bool} {held : Bool} {n : Nat} {v : Value} {x : DataW H × List MemPlace}
    (h : DataW.trod enc Tryd.prog W base spare held n 45 [v] = some x) : ∃ (mc : Nat) (ln : Nat → Nat) (y : Nat → Nat → Int), Mx W v mc ln y ∧ mc ≤ 9223372036854775807 ∧ ∀ i, i < mc → ln i ≤ 9223372036854775807 := by
  haveI : Inhabited { u : Value // ∃ n x, Il W u n x } := ⟨⟨.slice none 0 0, 0, fun _ => 0, il_none _ _⟩⟩
  obtain ⟨k, f, hf⟩ := open_list_in (α := { u : Value // ∃ n x, Il W u n x }) (fun z => z.1) Tryd.underlying45 cells32 (fun n u y hy => by
    obtain ⟨m, z, hz⟩ := open_ints_at hy
    exact ⟨⟨u, m, z, hz⟩, rfl⟩) h
  have hc : ∀ i, ∃ q : Nat × (Nat → Int), Il W (f i).1 q.1 q.2 := fun i => by
    obtain ⟨m, z, hz⟩ := (f i).2
    exact ⟨(m, z), hz⟩
  refine ⟨k, fun i => (Classical.choose (hc i)).1, fun i => (Classical.choose (hc i)).2, ?_, ?_, ?_⟩
  · obtain ⟨A, c, rfl, h1, h2, h3⟩ := hf
    refine ⟨A, c, rfl, h1, h2, fun hp => ?_⟩
    obtain ⟨b, o, rfl, hb, hcs⟩ := h3 hp
    exact ⟨b, o, rfl, hb, fun i hi => ⟨(f i).1, hcs i hi, Classical.choose_spec (hc i)⟩⟩
  · obtain ⟨A, c, rfl, h1, h2, h3⟩ := hf
    omega
  · intro i _
    obtain ⟨A, c, e, h1, h2, h3⟩ := Classical.choose_spec (hc i)
    exact Nat.le_trans h1 h2
set_option maxRecDepth 1000000 in
theorem open_pair_at {H : Type} {enc : TypeId × Value → H} {W : World} {base : Nat} {spare : Nat → Bool} {held : Bool} {n : Nat} {u v : Value} {x : DataW H × List MemPlace}
    (h : DataW.trod enc Tryd.prog W base spare held n 60 [u, v] = some x) : ∃ p q : Int, u = .int .i64 p ∧ v = .int .i64 q := by
  obtain ⟨xs, m, -, -, -, hxl, hf⟩ := DataW.trod_array Tryd.underlying60 h
  match xs, hxl with
  | [y0, y1], _ =>
    have g0 := hf 0 (by decide)
    have g1 := hf 1 (by decide)
    simp [cells3] at g0 g1
    obtain ⟨z0, e0, -⟩ := DataW.trod_int Tryd.underlying3 (show _ = some y0 from g0)
    obtain ⟨z1, e1, -⟩ := DataW.trod_int Tryd.underlying3 (show _ = some y1 from g1)
    simp at e0 e1
    exact ⟨z0, z1, e0, e1⟩
set_option maxRecDepth 1000000 in
theorem open_pairs_at {H : Type} {enc : TypeId × Value → H} {W : World} {base : Nat} {spare : Nat → Bool} {held : Bool} {n : Nat} {v : Value} {x : DataW H × List MemPlace}
    (h : DataW.trod enc Tryd.prog W base spare held n 46 [v] = some x) : ∃ (m : Nat) (a b : Nat → Int), Px W v m a b ∧ m ≤ 9223372036854775807 := by
  rcases open_slice Tryd.underlying46 h with ⟨hcs, -⟩ | ⟨a, len, cap, m, k, D, Pl, hcs, -, hl, hm, hmm, -, hx⟩
  · simp at hcs
    subst hcs
    exact ⟨0, fun _ => 0, fun _ => 0, ⟨none, 0, rfl, Nat.le_refl _, by omega, fun hp => absurd hp (Nat.lt_irrefl _)⟩, by omega⟩
  · simp at hcs
    subst hcs
    have hlm : len ≤ m := by rw [hmm]; split <;> omega
    rw [cells60] at hx
    have each : ∀ i, i < m → ∃ q : Int × Int, W.cell? ((a.add (i * 2)).add 0) = some (.int .i64 q.1) ∧ W.cell? ((a.add (i * 2)).add 1) = some (.int .i64 q.2) := by
      intro i hi
      obtain ⟨cs, h1, h2⟩ := hx i hi
      obtain ⟨-, hlen, hc⟩ := World.cells?_some h1
      match cs, hlen with
      | [v0, v1], _ =>
        obtain ⟨p, q, rfl, rfl⟩ := open_pair_at h2
        exact ⟨(p, q), hc 0 (by omega), hc 1 (by omega)⟩
    obtain ⟨Q, hQ⟩ := choose_lt (α := Int × Int) each
    have hmx : cap ≤ 9223372036854775807 := by unfold maxLen at hm; omega
    refine ⟨len, fun i => (Q i).1, fun i => (Q i).2, ⟨some a, cap, rfl, hl, hmx, fun hp => ?_⟩, by omega⟩
    have h0 := hQ 0 (Nat.lt_of_lt_of_le hp hlm)
    obtain ⟨b, off, spot⟩ := a
    have hs := add_none h0.1
    simp [Addr.add] at hs
    obtain ⟨rfl, hb⟩ := hs
    refine ⟨b, off, rfl, hb, fun j hj => ?_⟩
    obtain ⟨k0, k1⟩ := hQ j (Nat.lt_of_lt_of_le hj hlm)
    rw [add_lit, add_lit] at k0 k1
    exact ⟨k0, k1⟩
set_option maxRecDepth 1000000 in
theorem open_plan_in {H : Type} {enc : TypeId × Value → H} {W : World} {r : Reach} {b0 base : Nat} {spare : Nat → Bool} {held : Bool} {v : Value} {d : DataW H} {p : List MemPlace} (hv : Value.okWide Tryd.prog W r b0 48 v)
    (h : DataW.Trod enc Tryd.prog W base spare held 48 v d p) : ∃ (S C B : Value) (n mc m : Nat) (st : Nat → Int) (ln : Nat → Nat) (y : Nat → Nat → Int) (a b : Nat → Int), v = .agg #[S, C, B] ∧ Pv W S C B n mc m st ln y a b := by
  obtain ⟨c0, c1, c2, y0, y1, y2, m, rfl, -, -, hy0, hy1, hy2⟩ := open_agg3 Tryd.underlying48 (by kernel_rfl) cells48 hv h
  obtain ⟨n, st, hs⟩ := open_ints_at hy0
  obtain ⟨mc, ln, y, hc, b1, b2⟩ := open_rows_at hy1
  obtain ⟨k, a, b, hb, b3⟩ := open_pairs_at hy2
  refine ⟨c0, c1, c2, n, mc, k, st, ln, y, a, b, rfl, hs, hc, hb, ?_, b1, b2, b3⟩
  obtain ⟨A, c, -, h1, h2, -⟩ := hs
  omega
end Go.Proofs.YtlachbodibajlaaDoor
