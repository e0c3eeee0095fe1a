/- Walks: the law BathPrices. -/
import Derived.Test.YtlachbodibajlaaDoorM24
import Derived.Test.YtlachbodibajlaaDoorM28
namespace Go.Proofs.YtlachbodibajlaaDoor
open Go.RowKit Go.Shelf

/-- the cut is the plan, or both are not valid -/
theorem cut_sameP {n mc m : Nat} {st : Nat → Int} {ln : Nat → Nat} {y : Nat → Nat → Int} {a b : Nat → Int} : okPlan (min n 12) (min mc 12) (min m 42) st (fun i => min (ln i) 12) y a b = okPlan n mc m st ln y a b := by
  rw [Bool.eq_iff_iff, okPlan_iff, okPlan_iff]
  exact Okp.cut
theorem cut_crsP {n mc m : Nat} {st : Nat → Int} {ln : Nat → Nat} {y : Nat → Nat → Int} {a b : Nat → Int} (h : okPlan n mc m st ln y a b = true) : crs (min n 12) (min m 42) st y a b = crs n m st y a b := by
  have hk := okPlan_iff.1 h
  have h1 := hk.n10
  have h2 := hk.m40
  rw [show min n 12 = n by omega, show min m 42 = m by omega]

set_option maxHeartbeats 16000000 in
set_option maxRecDepth 100000 in
theorem bathPrices_walk (S C B T : Value) (n mc m : Nat) (st : Nat → Int) (ln : Nat → Nat) (y : Nat → Nat → Int) (a b : Nat → Int) (q : Nat) (t : Nat → Int) (W : World) (h : Pv W S C B n mc m st ln y a b) (hT : Il W T q t) :
    Calls Tryd.prog 11 #[.agg #[S, C, B], T] W fun e W' => e = .returned (.bool true) ∧ Ext W W' := by
  have HV := Lib.hid h
  have HOF := Lib.hid fun X hX => of_any S C B n mc m st ln y a b X hX
  have HPS := Lib.hid fun (X : World) (S C B : Value) (hX : Pv X S C B (min n 12) (min mc 12) (min m 42) st (fun i => min (ln i) 12) y a b) => Prices_any S C B _ _ _ st _ y a b X hX
  have HCH := Lib.hid fun (X : World) (S C B : Value) (hX : Pv X S C B (min n 12) (min mc 12) (min m 42) st (fun i => min (ln i) 12) y a b) T q t (hT : Il X T q t) => Check_any S C B T _ _ _ st _ y a b q t X hX hT
  have HPR := Lib.hid fun X hX => PricesR_any S C B n mc m st ln y a b X hX
  have HCR := Lib.hid fun X hX (hT : Il X T q t) => CheckR_any S C B n mc m st ln y a b T q t X hX hT
  obtain ⟨A, k, rfl, -⟩ := id h.vs
  obtain ⟨A2, k2, rfl, -⟩ := id h.vc
  obtain ⟨A3, k3, rfl, -⟩ := id h.vb
  obtain ⟨TA, tk, rfl, -⟩ := id hT
  simp only [cut_sameP] at HPS HCH
  have e1 : Ext W (W.alloc (.cells #[.slice A n k, .slice A2 mc k2, .slice A3 m k3] 48)) := al1 W _
  have hbk := heap_alloc_new W (.cells #[.slice A n k, .slice A2 mc k2, .slice A3 m k3] 48)
  have HT := Lib.hid (hT.ext e1)
  have hv1 : ∃ (v e : Int) (s : Bool) (r : Int) (l : Nat) (f : Nat → Int), chkV (okPlan n mc m st ln y a b) (crs (min n 12) (min m 42) st y a b) q t = v ∧ chkE (okPlan n mc m st ln y a b) (crs (min n 12) (min m 42) st y a b) q t = e ∧ chkS (okPlan n mc m st ln y a b) (crs (min n 12) (min m 42) st y a b) q t = s ∧ chkV (okPlan n mc m st ln y a b) (crs n m st y a b) q t = v ∧ chkE (okPlan n mc m st ln y a b) (crs n m st y a b) q t = e ∧ chkS (okPlan n mc m st ln y a b) (crs n m st y a b) q t = s ∧
      bestE (okPlan n mc m st ln y a b) (crs (min n 12) (min m 42) st y a b) = r ∧ bestE (okPlan n mc m st ln y a b) (crs n m st y a b) = r ∧ prcN (okPlan n mc m st ln y a b) (crs (min n 12) (min m 42) st y a b) = l ∧ prcN (okPlan n mc m st ln y a b) (crs n m st y a b) = l ∧ l ≤ 100000 ∧
      (∀ (X : World) (U : Value), Il X U l (crs (min n 12) (min m 42) st y a b).pz → Il X U l f) ∧ (∀ (X : World) (U : Value), Il X U l (crs n m st y a b).pz → Il X U l f) := by
    cases hk : okPlan n mc m st ln y a b
    · refine ⟨0, 2, false, 2, 0, fun _ => 0, rfl, rfl, rfl, rfl, rfl, rfl, rfl, rfl, rfl, rfl, by omega, fun X U h => Vl.congr h fun j hj => absurd hj (Nat.not_lt_zero _), fun X U h => Vl.congr h fun j hj => absurd hj (Nat.not_lt_zero _)⟩
    · rw [cut_crsP hk]
      refine ⟨_, _, _, _, _, _, rfl, rfl, rfl, rfl, rfl, rfl, rfl, rfl, rfl, rfl, ?_, fun X U h => h, fun X U h => h⟩
      unfold prcN
      have h8 : (crs n m st y a b).sz ≤ 10 * 1024 := Nat.mul_le_mul (okPlan_iff.1 hk).n10 (pow_1024 (okPlan_iff.1 hk).n10)
      split
      · split
        · omega
        · omega
      · omega
  obtain ⟨cv, ce, cs, be, bl, bf, h1, h2, h3, h4, h5, h6, h7, h8, h9, h10, h11, h12, h13⟩ := hv1
  have HIA := Lib.hid h12; have HIB := Lib.hid h13
  simp only [h7, h9] at HPS
  simp only [h8, h10] at HPR
  have HCHa := Lib.hid fun (X : World) (S C B : Value) (hX : Pv X S C B (min n 12) (min mc 12) (min m 42) st (fun i => min (ln i) 12) y a b) (hT : Il X (.slice TA q tk) q t) => HCH.out X S C B hX (.slice TA q tk) q t hT
  simp only [h1, h2, h3] at HCHa
  simp only [h4, h5, h6] at HCR
  have hbl := h11
  clear h hT h1 h2 h3 h4 h5 h6 h7 h8 h9 h10 h11 h12 h13 HCH
  have hbb : (be != be) = false := by simp
  go_enter Tryd.func11, Tryd.ntmps11
  go_upto_region 1 with fail
  obtain ⟨s1, hs1⟩ : ∃ s, s = W.heap.size := ⟨_, rfl⟩
  rw [← hs1] at hbk ⊢
  generalize W.alloc (.cells #[.slice A n k, .slice A2 mc k2, .slice A3 m k3] 48) = W1 at *
  have HB := Lib.hid hbk
  have HX := Lib.hid (Ext.refl W1)
  have E1 := Lib.hid e1
  clear hbk hs1 e1
  obtain ⟨c0, c1, c2, z0⟩ := three_c (ext_ty HX.out HB.out)
  go_wp2_with fail
  refine (HOF.out _ (HV.out.ext (E1.out.trans HX.out))).mono ?_
  rintro e w1 ⟨S1, C1, B1, rfl, hp, hx⟩
  replace HX := Lib.hid (HX.out.trans hx)
  replace HT := Lib.hid (HT.out.ext hx)
  have HP1 := Lib.hid hp
  clear hp hx c0 c1 c2 z0
  go_wp2_with fail
  refine (HPS.out _ _ _ _ HP1.out).mono ?_
  rintro e w1x ⟨U, rfl, hil, hx⟩
  replace HX := Lib.hid (HX.out.trans hx)
  replace HT := Lib.hid (HT.out.ext hx)
  have HIL := Lib.hid (HIA.out _ _ hil)
  obtain ⟨UA, uc, rfl, -⟩ := id hil
  clear hil hx
  obtain ⟨c0, c1, c2, z0⟩ := three_c (ext_ty HX.out HB.out)
  go_wp2_with fail
  refine (HPR.out _ (HV.out.ext (E1.out.trans HX.out))).mono ?_
  rintro e w5 ⟨U2, rfl, hil, hx⟩
  replace HX := Lib.hid (HX.out.trans hx)
  replace HT := Lib.hid (HT.out.ext hx)
  replace HIL := Lib.hid (HIL.out.ext hx)
  have HIL2 := Lib.hid (HIB.out _ _ hil)
  obtain ⟨UA2, uc2, rfl, -⟩ := id hil
  clear hil hx c0 c1 c2 z0
  go_wp2_with fail
  refine (equalI_any bl bf _ _ _ HIL.out HIL2.out hbl).mono ?_
  rintro e w6 ⟨rfl, hx⟩
  replace HX := Lib.hid (HX.out.trans hx)
  replace HT := Lib.hid (HT.out.ext hx)
  clear hx
  go_wp2_with fail
  refine (awake_any _).mono ?_
  rintro e w7 ⟨rfl, hx⟩
  replace HX := Lib.hid (HX.out.trans hx)
  replace HT := Lib.hid (HT.out.ext hx)
  clear hx
  obtain ⟨c0, c1, c2, z0⟩ := three_c (ext_ty HX.out HB.out)
  go_wp2_with fail
  refine (HOF.out _ (HV.out.ext (E1.out.trans HX.out))).mono ?_
  rintro e w8 ⟨S8, C8, B8, rfl, hp, hx⟩
  replace HX := Lib.hid (HX.out.trans hx)
  replace HT := Lib.hid (HT.out.ext hx)
  have HP8 := Lib.hid hp
  clear hp hx c0 c1 c2 z0
  go_wp2_with fail
  refine (HCHa.out _ _ _ _ HP8.out HT.out).mono ?_
  rintro e w8x ⟨rfl, hx⟩
  replace HX := Lib.hid (HX.out.trans hx)
  replace HT := Lib.hid (HT.out.ext hx)
  clear hx
  obtain ⟨c0, c1, c2, z0⟩ := three_c (ext_ty HX.out HB.out)
  go_wp2_with fail
  refine (HCR.out _ (HV.out.ext (E1.out.trans HX.out)) HT.out).mono ?_
  rintro e w9 ⟨rfl, hx⟩
  replace HX := Lib.hid (HX.out.trans hx)
  clear hx c0 c1 c2 z0
  go_wp2
  go_ret
  exact ⟨rfl, E1.out.trans HX.out⟩
end Go.Proofs.YtlachbodibajlaaDoor
