/- Walks: the law BathProof. -/
import Derived.Test.YtlachbodibajlaaDoorM24
import Derived.Test.YtlachbodibajlaaDoorM25
namespace Go.Proofs.YtlachbodibajlaaDoor
open Go.RowKit Go.Shelf

/-- what the program's own table is -/
theorem chk_own {c : Crs} (hc : c.ok) (hh : c.has = true) (he : ∀ i, i < c.n → c.en i = 0) : chkE true c c.sz c.pz = 0 ∧ chkV true c c.sz c.pz = c.cst 0 0 c.best ∧ chkS true c c.sz c.pz = true := by
  have hb : btw c.pz (-1099511627776) 1099511627776 c.sz = true := btw_iff.2 fun i _ => by have := pz_bd hc i; omega
  have h1 : chkE true c c.sz c.pz = 0 := by unfold chkE; rw [hb, hh]; simp
  have hna : (0 : Nat) ≠ c.all := fun e => by
    have := all_bit c 0
    rw [← e, Nat.zero_testBit, decide_eq_true (by have := hc.n1; omega)] at this
    cases this
  refine ⟨h1, ?_, ?_⟩
  · unfold chkV
    rw [h1, if_pos rfl, (best_ok hh hc.n1 he).2.2]
    unfold Crs.due
    rw [if_neg hna]
  · unfold chkS
    rw [h1, (isSnd_iff hc.n1).2 (pz_snd c)]; rfl
/-- a sound table proves a bound -/
theorem chk_bound {c : Crs} (hc : c.ok) (hh : c.has = true) (he : ∀ i, i < c.n → c.en i = 0) {q : Nat} {t : Nat → Int} (h : chkE true c q t = 0) (hs : chkS true c q t = true) :
    chkV true c q t ≤ c.cst 0 0 c.best ∧ ∀ k x, c.okO k x = true → chkV true c q t ≤ c.cst 0 0 (ordL k x) := by
  have hna : (0 : Nat) ≠ c.all := fun e => by
    have := all_bit c 0
    rw [← e, Nat.zero_testBit, decide_eq_true (by have := hc.n1; omega)] at this
    cases this
  unfold chkS at hs
  rw [h] at hs
  have hsn := (isSnd_iff hc.n1).1 (show c.isSnd t = true by simpa using hs)
  have hv : chkV true c q t = c.due t 0 0 := by
    unfold chkV
    rw [h, if_pos rfl]
    unfold Crs.due
    rw [if_neg hna]
  rw [hv]
  obtain ⟨b1, b2, b3⟩ := best_ok hh hc.n1 he
  refine ⟨best_low hc.n1 he hsn b1 b2, fun k x hk => ?_⟩
  obtain ⟨h1, h2, h3⟩ := okO_iff.1 hk
  exact best_low hc.n1 he hsn (by rw [ordL_len, h1]) h3

set_option maxHeartbeats 16000000 in
set_option maxRecDepth 100000 in
theorem bathProof_walk (S C B T O : Value) (n mc m : Nat) (st : Nat → Int) (ln : Nat → Nat) (y : Nat → Nat → Int) (a b : Nat → Int) (qt : Nat) (t : Nat → Int) (q : Nat) (x : Nat → Int) (W : World) (h : Pv W S C B n mc m st ln y a b) (hT : Il W T qt t) (hO : Il W O q x) :
    Calls Tryd.prog 12 #[.agg #[S, C, B], T, O] W fun e W' => e = .returned (.bool true) ∧ Ext W W' := by
  have HV := Lib.hid h
  have HOF := Lib.hid fun X hX => of_any S C B n mc m st ln y a b X hX
  have HBS := Lib.hid fun (X : World) (S C B : Value) (hX : Pv X S C B (min n 12) (min mc 12) (min m 42) st (fun i => min (ln i) 12) y a b) => Best_any S C B _ _ _ st _ y a b X hX
  have HPS := Lib.hid fun (X : World) (S C B : Value) (hX : Pv X S C B (min n 12) (min mc 12) (min m 42) st (fun i => min (ln i) 12) y a b) => Prices_any S C B _ _ _ st _ y a b X hX
  have HCS := Lib.hid fun (X : World) (S C B : Value) (hX : Pv X S C B (min n 12) (min mc 12) (min m 42) st (fun i => min (ln i) 12) y a b) O q x (hO : Il X O q x) => Cost_any S C B O _ _ _ st _ y a b q x X hX hO
  have HCH := Lib.hid fun (X : World) (S C B : Value) (hX : Pv X S C B (min n 12) (min mc 12) (min m 42) st (fun i => min (ln i) 12) y a b) T q t (hT : Il X T q t) => Check_any S C B T _ _ _ st _ y a b q t X hX hT
  obtain ⟨A, k, rfl, -⟩ := id h.vs
  obtain ⟨A2, k2, rfl, -⟩ := id h.vc
  obtain ⟨A3, k3, rfl, -⟩ := id h.vb
  obtain ⟨TA, tk, rfl, -⟩ := id hT
  obtain ⟨OA, ok, rfl, -⟩ := id hO
  have hck := @cutC_ok n mc m st ln y a b
  unfold cutOk cutC at hck
  obtain ⟨okb, hokb⟩ : ∃ t, t = okPlan (min n 12) (min mc 12) (min m 42) st (fun i => min (ln i) 12) y a b := ⟨_, rfl⟩
  obtain ⟨c, hc⟩ : ∃ t, t = crs (min n 12) (min m 42) st y a b := ⟨_, rfl⟩
  simp only [← hokb, ← hc] at HBS HPS HCS HCH hck
  have e1 : Ext W (W.alloc (.cells #[.slice A n k, .slice A2 mc k2, .slice A3 m k3] 48)) := al1 W _
  have hbk := heap_alloc_new W (.cells #[.slice A n k, .slice A2 mc k2, .slice A3 m k3] 48)
  have HT := Lib.hid (hT.ext e1)
  have HO := Lib.hid (hO.ext e1)
  have HCK := Lib.hid hck
  clear h hT hO hokb hc hck
  go_enter Tryd.func12, Tryd.ntmps12
  go_upto_region 1 with fail
  obtain ⟨s1, hs1⟩ : ∃ s, s = W.heap.size := ⟨_, rfl⟩
  rw [← hs1] at hbk ⊢
  generalize W.alloc (.cells #[.slice A n k, .slice A2 mc k2, .slice A3 m k3] 48) = W1 at *
  have HB := Lib.hid hbk
  have HX := Lib.hid (Ext.refl W1)
  have E1 := Lib.hid e1
  clear hbk hs1 e1
  cases hk : okb
  · subst hk
    have hbE : bestE false c = 2 := rfl
    simp only [hbE] at HPS
    have h20 : ((2 : Int) != 0) = true := rfl
    clear hbE
    obtain ⟨c0, c1, c2, z0⟩ := three_c (ext_ty HX.out HB.out)
    go_wp2_with fail
    refine (HOF.out _ (HV.out.ext (E1.out.trans HX.out))).mono ?_
    rintro e w1 ⟨S1, C1, B1, rfl, hp, hx⟩
    replace HX := Lib.hid (HX.out.trans hx)
    have HP1 := Lib.hid hp
    clear hp hx c0 c1 c2 z0
    go_wp2_with fail
    refine (HPS.out _ _ _ _ HP1.out).mono ?_
    rintro e w1x ⟨U1, rfl, hil, hx⟩
    replace HX := Lib.hid (HX.out.trans hx)
    have HU := Lib.hid hil
    obtain ⟨UA1, uc1, rfl, -⟩ := id hil
    clear hil hx
    go_wp2_with fail
    refine (awake_any _).mono ?_
    rintro e w9 ⟨rfl, hx⟩
    replace HX := Lib.hid (HX.out.trans hx); clear hx
    go_wp2
    go_ret
    exact ⟨rfl, E1.out.trans HX.out⟩
  subst hk
  obtain ⟨hcok, hen⟩ := HCK.out rfl
  have hn1 := hcok.n1
  cases hh : c.has
  · have hbE : bestE true c = 7 := by unfold bestE; rw [hh]; rfl
    simp only [hbE] at HPS
    have h20 : ((7 : Int) != 0) = true := rfl
    have h27 : ((7 : Int) == 2) = false := rfl
    clear hbE hcok hen hh
    obtain ⟨c0, c1, c2, z0⟩ := three_c (ext_ty HX.out HB.out)
    go_wp2_with fail
    refine (HOF.out _ (HV.out.ext (E1.out.trans HX.out))).mono ?_
    rintro e w1 ⟨S1, C1, B1, rfl, hp, hx⟩
    replace HX := Lib.hid (HX.out.trans hx)
    have HP1 := Lib.hid hp
    clear hp hx c0 c1 c2 z0
    go_wp2_with fail
    refine (HPS.out _ _ _ _ HP1.out).mono ?_
    rintro e w1x ⟨U1, rfl, hil, hx⟩
    replace HX := Lib.hid (HX.out.trans hx)
    have HU := Lib.hid hil
    obtain ⟨UA1, uc1, rfl, -⟩ := id hil
    clear hil hx
    go_wp2_with fail
    refine (awake_any _).mono ?_
    rintro e w9 ⟨rfl, hx⟩
    replace HX := Lib.hid (HX.out.trans hx); clear hx
    go_wp2
    go_ret
    exact ⟨rfl, E1.out.trans HX.out⟩
  have hbE : bestE true c = 0 := by unfold bestE; rw [hh]; rfl
  have hbN : bestN true c = c.n := by unfold bestN; rw [hh]; rfl
  have hpN : prcN true c = c.sz := by unfold prcN; rw [hh]; rfl
  simp only [hbE, hbN] at HBS
  simp only [hbE, hpN] at HPS
  have HCB := Lib.hid (cost_best hh hn1 (fun i _ => hen i))
  have HOW := Lib.hid (chk_own hcok hh (fun i _ => hen i))
  have HBO := Lib.hid fun h1 h2 => chk_bound (q := qt) (t := t) hcok hh (fun i _ => hen i) h1 h2
  have h00 : ((0 : Int) != 0) = false := rfl
  obtain ⟨nb, hnb⟩ : ∃ v, v = c.cst 0 0 c.best := ⟨_, rfl⟩
  rw [← hnb] at HCB HOW HBO
  have hnn : (nb != nb) = false := by simp
  obtain ⟨ce, hce⟩ : ∃ v, v = chkE true c qt t := ⟨_, rfl⟩
  obtain ⟨cv, hcv⟩ : ∃ v, v = chkV true c qt t := ⟨_, rfl⟩
  obtain ⟨cs, hcs⟩ : ∃ v, v = chkS true c qt t := ⟨_, rfl⟩
  rw [← hce, ← hcv, ← hcs] at HBO
  have HCT := Lib.hid (And.intro hce.symm (And.intro hcv.symm hcs.symm))
  obtain ⟨oe, hoe⟩ : ∃ v, v = costE true c q x := ⟨_, rfl⟩
  obtain ⟨ov, hov⟩ : ∃ v, v = costV true c q x := ⟨_, rfl⟩
  have HOO := Lib.hid (And.intro hoe.symm hov.symm)
  have hok2 : oe ≠ 0 ∨ (oe = 0 ∧ c.okO q x = true ∧ ov = c.cst 0 0 (ordL q x)) := by
    cases hv : c.okO q x
    · left; rw [hoe]; unfold costE; rw [hv]; decide
    · right; rw [hoe, hov]; unfold costE costV; rw [hv]; exact ⟨rfl, rfl, rfl⟩
  clear hbE hbN hpN hcok hen hn1 hh hnb hce hcv hcs hoe hov
  by_cases h1 : ce = 0
  · subst h1
    cases cs
    · clear hok2
      obtain ⟨c0, c1, c2, z0⟩ := three_c (ext_ty HX.out HB.out)
      go_wp2_with fail
      refine (HOF.out _ (HV.out.ext (E1.out.trans HX.out))).mono ?_
      rintro e w1 ⟨S1, C1, B1, rfl, hp, hx⟩
      replace HX := Lib.hid (HX.out.trans hx)
      replace HT := Lib.hid (HT.out.ext hx)
      replace HO := Lib.hid (HO.out.ext hx)
      have HP1 := Lib.hid hp
      clear hp hx c0 c1 c2 z0
      go_wp2_with fail
      refine (HPS.out _ _ _ _ HP1.out).mono ?_
      rintro e w1x ⟨U1, rfl, hil, hx⟩
      replace HX := Lib.hid (HX.out.trans hx)
      replace HT := Lib.hid (HT.out.ext hx)
      replace HO := Lib.hid (HO.out.ext hx)
      have HU := Lib.hid hil
      obtain ⟨UA1, uc1, rfl, -⟩ := id hil
      clear hil hx
      obtain ⟨c0, c1, c2, z0⟩ := three_c (ext_ty HX.out HB.out)
      go_wp2_with fail
      refine (HOF.out _ (HV.out.ext (E1.out.trans HX.out))).mono ?_
      rintro e w2 ⟨S2, C2, B2, rfl, hp, hx⟩
      replace HX := Lib.hid (HX.out.trans hx)
      replace HT := Lib.hid (HT.out.ext hx)
      replace HO := Lib.hid (HO.out.ext hx)
      replace HU := Lib.hid (HU.out.ext hx)
      have HP2 := Lib.hid hp
      clear hp hx c0 c1 c2 z0
      go_wp2_with fail
      refine (HBS.out _ _ _ _ HP2.out).mono ?_
      rintro e w2x ⟨U2, rfl, hil, hx⟩
      replace HX := Lib.hid (HX.out.trans hx)
      replace HT := Lib.hid (HT.out.ext hx)
      replace HO := Lib.hid (HO.out.ext hx)
      replace HU := Lib.hid (HU.out.ext hx)
      have HBI := Lib.hid hil
      obtain ⟨UA2, uc2, rfl, -⟩ := id hil
      clear hil hx
      obtain ⟨c0, c1, c2, z0⟩ := three_c (ext_ty HX.out HB.out)
      go_wp2_with fail
      refine (HOF.out _ (HV.out.ext (E1.out.trans HX.out))).mono ?_
      rintro e w3 ⟨S3, C3, B3, rfl, hp, hx⟩
      replace HX := Lib.hid (HX.out.trans hx)
      replace HT := Lib.hid (HT.out.ext hx)
      replace HO := Lib.hid (HO.out.ext hx)
      replace HU := Lib.hid (HU.out.ext hx)
      replace HBI := Lib.hid (HBI.out.ext hx)
      have HP3 := Lib.hid hp
      clear hp hx c0 c1 c2 z0
      go_wp2_with fail
      refine (HCS.out _ _ _ _ HP3.out _ _ _ HBI.out).mono ?_
      rintro e w3x ⟨rfl, hx⟩
      replace HX := Lib.hid (HX.out.trans hx)
      replace HT := Lib.hid (HT.out.ext hx)
      replace HO := Lib.hid (HO.out.ext hx)
      replace HU := Lib.hid (HU.out.ext hx)
      replace HBI := Lib.hid (HBI.out.ext hx)
      clear hx
      rw [HCB.out.1, HCB.out.2]
      obtain ⟨c0, c1, c2, z0⟩ := three_c (ext_ty HX.out HB.out)
      go_wp2_with fail
      refine (HOF.out _ (HV.out.ext (E1.out.trans HX.out))).mono ?_
      rintro e w4 ⟨S4, C4, B4, rfl, hp, hx⟩
      replace HX := Lib.hid (HX.out.trans hx)
      replace HT := Lib.hid (HT.out.ext hx)
      replace HO := Lib.hid (HO.out.ext hx)
      replace HU := Lib.hid (HU.out.ext hx)
      replace HBI := Lib.hid (HBI.out.ext hx)
      have HP4 := Lib.hid hp
      clear hp hx c0 c1 c2 z0
      go_wp2_with fail
      refine (HCH.out _ _ _ _ HP4.out _ _ _ HU.out).mono ?_
      rintro e w4x ⟨rfl, hx⟩
      replace HX := Lib.hid (HX.out.trans hx)
      replace HT := Lib.hid (HT.out.ext hx)
      replace HO := Lib.hid (HO.out.ext hx)
      replace HU := Lib.hid (HU.out.ext hx)
      replace HBI := Lib.hid (HBI.out.ext hx)
      clear hx
      rw [HOW.out.1, HOW.out.2.1, HOW.out.2.2]
      obtain ⟨c0, c1, c2, z0⟩ := three_c (ext_ty HX.out HB.out)
      go_wp2_with fail
      refine (HOF.out _ (HV.out.ext (E1.out.trans HX.out))).mono ?_
      rintro e w5 ⟨S5, C5, B5, rfl, hp, hx⟩
      replace HX := Lib.hid (HX.out.trans hx)
      replace HT := Lib.hid (HT.out.ext hx)
      replace HO := Lib.hid (HO.out.ext hx)
      replace HU := Lib.hid (HU.out.ext hx)
      replace HBI := Lib.hid (HBI.out.ext hx)
      have HP5 := Lib.hid hp
      clear hp hx c0 c1 c2 z0
      go_wp2_with fail
      refine (HCH.out _ _ _ _ HP5.out _ _ _ HT.out).mono ?_
      rintro e w5x ⟨rfl, hx⟩
      replace HX := Lib.hid (HX.out.trans hx)
      replace HT := Lib.hid (HT.out.ext hx)
      replace HO := Lib.hid (HO.out.ext hx)
      replace HU := Lib.hid (HU.out.ext hx)
      replace HBI := Lib.hid (HBI.out.ext hx)
      clear hx
      rw [HCT.out.1, HCT.out.2.1, HCT.out.2.2]
      obtain ⟨c0, c1, c2, z0⟩ := three_c (ext_ty HX.out HB.out)
      go_wp2_with fail
      refine (HOF.out _ (HV.out.ext (E1.out.trans HX.out))).mono ?_
      rintro e w6 ⟨S6, C6, B6, rfl, hp, hx⟩
      replace HX := Lib.hid (HX.out.trans hx)
      replace HT := Lib.hid (HT.out.ext hx)
      replace HO := Lib.hid (HO.out.ext hx)
      replace HU := Lib.hid (HU.out.ext hx)
      replace HBI := Lib.hid (HBI.out.ext hx)
      have HP6 := Lib.hid hp
      clear hp hx c0 c1 c2 z0
      go_wp2_with fail
      refine (HCS.out _ _ _ _ HP6.out _ _ _ HO.out).mono ?_
      rintro e w6x ⟨rfl, hx⟩
      replace HX := Lib.hid (HX.out.trans hx)
      replace HT := Lib.hid (HT.out.ext hx)
      replace HO := Lib.hid (HO.out.ext hx)
      replace HU := Lib.hid (HU.out.ext hx)
      replace HBI := Lib.hid (HBI.out.ext hx)
      clear hx
      rw [HOO.out.1, HOO.out.2]
      go_wp2_with fail
      refine (awake_any _).mono ?_
      rintro e w9 ⟨rfl, hx⟩
      replace HX := Lib.hid (HX.out.trans hx); clear hx
      go_wp2
      go_ret
      exact ⟨rfl, E1.out.trans HX.out⟩
    · obtain ⟨hb1, hb2⟩ := HBO.out rfl rfl
      rcases hok2 with h2 | ⟨rfl, h2, h3⟩
      · have h2b : (oe != 0) = true := by simpa using h2
        clear hb2 h2
        obtain ⟨c0, c1, c2, z0⟩ := three_c (ext_ty HX.out HB.out)
        go_wp2_with fail
        refine (HOF.out _ (HV.out.ext (E1.out.trans HX.out))).mono ?_
        rintro e w1 ⟨S1, C1, B1, rfl, hp, hx⟩
        replace HX := Lib.hid (HX.out.trans hx)
        replace HT := Lib.hid (HT.out.ext hx)
        replace HO := Lib.hid (HO.out.ext hx)
        have HP1 := Lib.hid hp
        clear hp hx c0 c1 c2 z0
        go_wp2_with fail
        refine (HPS.out _ _ _ _ HP1.out).mono ?_
        rintro e w1x ⟨U1, rfl, hil, hx⟩
        replace HX := Lib.hid (HX.out.trans hx)
        replace HT := Lib.hid (HT.out.ext hx)
        replace HO := Lib.hid (HO.out.ext hx)
        have HU := Lib.hid hil
        obtain ⟨UA1, uc1, rfl, -⟩ := id hil
        clear hil hx
        obtain ⟨c0, c1, c2, z0⟩ := three_c (ext_ty HX.out HB.out)
        go_wp2_with fail
        refine (HOF.out _ (HV.out.ext (E1.out.trans HX.out))).mono ?_
        rintro e w2 ⟨S2, C2, B2, rfl, hp, hx⟩
        replace HX := Lib.hid (HX.out.trans hx)
        replace HT := Lib.hid (HT.out.ext hx)
        replace HO := Lib.hid (HO.out.ext hx)
        replace HU := Lib.hid (HU.out.ext hx)
        have HP2 := Lib.hid hp
        clear hp hx c0 c1 c2 z0
        go_wp2_with fail
        refine (HBS.out _ _ _ _ HP2.out).mono ?_
        rintro e w2x ⟨U2, rfl, hil, hx⟩
        replace HX := Lib.hid (HX.out.trans hx)
        replace HT := Lib.hid (HT.out.ext hx)
        replace HO := Lib.hid (HO.out.ext hx)
        replace HU := Lib.hid (HU.out.ext hx)
        have HBI := Lib.hid hil
        obtain ⟨UA2, uc2, rfl, -⟩ := id hil
        clear hil hx
        obtain ⟨c0, c1, c2, z0⟩ := three_c (ext_ty HX.out HB.out)
        go_wp2_with fail
        refine (HOF.out _ (HV.out.ext (E1.out.trans HX.out))).mono ?_
        rintro e w3 ⟨S3, C3, B3, rfl, hp, hx⟩
        replace HX := Lib.hid (HX.out.trans hx)
        replace HT := Lib.hid (HT.out.ext hx)
        replace HO := Lib.hid (HO.out.ext hx)
        replace HU := Lib.hid (HU.out.ext hx)
        replace HBI := Lib.hid (HBI.out.ext hx)
        have HP3 := Lib.hid hp
        clear hp hx c0 c1 c2 z0
        go_wp2_with fail
        refine (HCS.out _ _ _ _ HP3.out _ _ _ HBI.out).mono ?_
        rintro e w3x ⟨rfl, hx⟩
        replace HX := Lib.hid (HX.out.trans hx)
        replace HT := Lib.hid (HT.out.ext hx)
        replace HO := Lib.hid (HO.out.ext hx)
        replace HU := Lib.hid (HU.out.ext hx)
        replace HBI := Lib.hid (HBI.out.ext hx)
        clear hx
        rw [HCB.out.1, HCB.out.2]
        obtain ⟨c0, c1, c2, z0⟩ := three_c (ext_ty HX.out HB.out)
        go_wp2_with fail
        refine (HOF.out _ (HV.out.ext (E1.out.trans HX.out))).mono ?_
        rintro e w4 ⟨S4, C4, B4, rfl, hp, hx⟩
        replace HX := Lib.hid (HX.out.trans hx)
        replace HT := Lib.hid (HT.out.ext hx)
        replace HO := Lib.hid (HO.out.ext hx)
        replace HU := Lib.hid (HU.out.ext hx)
        replace HBI := Lib.hid (HBI.out.ext hx)
        have HP4 := Lib.hid hp
        clear hp hx c0 c1 c2 z0
        go_wp2_with fail
        refine (HCH.out _ _ _ _ HP4.out _ _ _ HU.out).mono ?_
        rintro e w4x ⟨rfl, hx⟩
        replace HX := Lib.hid (HX.out.trans hx)
        replace HT := Lib.hid (HT.out.ext hx)
        replace HO := Lib.hid (HO.out.ext hx)
        replace HU := Lib.hid (HU.out.ext hx)
        replace HBI := Lib.hid (HBI.out.ext hx)
        clear hx
        rw [HOW.out.1, HOW.out.2.1, HOW.out.2.2]
        obtain ⟨c0, c1, c2, z0⟩ := three_c (ext_ty HX.out HB.out)
        go_wp2_with fail
        refine (HOF.out _ (HV.out.ext (E1.out.trans HX.out))).mono ?_
        rintro e w5 ⟨S5, C5, B5, rfl, hp, hx⟩
        replace HX := Lib.hid (HX.out.trans hx)
        replace HT := Lib.hid (HT.out.ext hx)
        replace HO := Lib.hid (HO.out.ext hx)
        replace HU := Lib.hid (HU.out.ext hx)
        replace HBI := Lib.hid (HBI.out.ext hx)
        have HP5 := Lib.hid hp
        clear hp hx c0 c1 c2 z0
        go_wp2_with fail
        refine (HCH.out _ _ _ _ HP5.out _ _ _ HT.out).mono ?_
        rintro e w5x ⟨rfl, hx⟩
        replace HX := Lib.hid (HX.out.trans hx)
        replace HT := Lib.hid (HT.out.ext hx)
        replace HO := Lib.hid (HO.out.ext hx)
        replace HU := Lib.hid (HU.out.ext hx)
        replace HBI := Lib.hid (HBI.out.ext hx)
        clear hx
        rw [HCT.out.1, HCT.out.2.1, HCT.out.2.2]
        obtain ⟨c0, c1, c2, z0⟩ := three_c (ext_ty HX.out HB.out)
        go_wp2_with fail
        refine (HOF.out _ (HV.out.ext (E1.out.trans HX.out))).mono ?_
        rintro e w6 ⟨S6, C6, B6, rfl, hp, hx⟩
        replace HX := Lib.hid (HX.out.trans hx)
        replace HT := Lib.hid (HT.out.ext hx)
        replace HO := Lib.hid (HO.out.ext hx)
        replace HU := Lib.hid (HU.out.ext hx)
        replace HBI := Lib.hid (HBI.out.ext hx)
        have HP6 := Lib.hid hp
        clear hp hx c0 c1 c2 z0
        go_wp2_with fail
        refine (HCS.out _ _ _ _ HP6.out _ _ _ HO.out).mono ?_
        rintro e w6x ⟨rfl, hx⟩
        replace HX := Lib.hid (HX.out.trans hx)
        replace HT := Lib.hid (HT.out.ext hx)
        replace HO := Lib.hid (HO.out.ext hx)
        replace HU := Lib.hid (HU.out.ext hx)
        replace HBI := Lib.hid (HBI.out.ext hx)
        clear hx
        rw [HOO.out.1, HOO.out.2]
        go_wp2_with fail
        refine (awake_any _).mono ?_
        rintro e w9 ⟨rfl, hx⟩
        replace HX := Lib.hid (HX.out.trans hx); clear hx
        go_wp2
        go_ret
        exact ⟨rfl, E1.out.trans HX.out⟩
      · have hb3 := hb2 q x h2
        rw [← h3] at hb3
        clear hb2 h2 h3
        obtain ⟨c0, c1, c2, z0⟩ := three_c (ext_ty HX.out HB.out)
        go_wp2_with fail
        refine (HOF.out _ (HV.out.ext (E1.out.trans HX.out))).mono ?_
        rintro e w1 ⟨S1, C1, B1, rfl, hp, hx⟩
        replace HX := Lib.hid (HX.out.trans hx)
        replace HT := Lib.hid (HT.out.ext hx)
        replace HO := Lib.hid (HO.out.ext hx)
        have HP1 := Lib.hid hp
        clear hp hx c0 c1 c2 z0
        go_wp2_with fail
        refine (HPS.out _ _ _ _ HP1.out).mono ?_
        rintro e w1x ⟨U1, rfl, hil, hx⟩
        replace HX := Lib.hid (HX.out.trans hx)
        replace HT := Lib.hid (HT.out.ext hx)
        replace HO := Lib.hid (HO.out.ext hx)
        have HU := Lib.hid hil
        obtain ⟨UA1, uc1, rfl, -⟩ := id hil
        clear hil hx
        obtain ⟨c0, c1, c2, z0⟩ := three_c (ext_ty HX.out HB.out)
        go_wp2_with fail
        refine (HOF.out _ (HV.out.ext (E1.out.trans HX.out))).mono ?_
        rintro e w2 ⟨S2, C2, B2, rfl, hp, hx⟩
        replace HX := Lib.hid (HX.out.trans hx)
        replace HT := Lib.hid (HT.out.ext hx)
        replace HO := Lib.hid (HO.out.ext hx)
        replace HU := Lib.hid (HU.out.ext hx)
        have HP2 := Lib.hid hp
        clear hp hx c0 c1 c2 z0
        go_wp2_with fail
        refine (HBS.out _ _ _ _ HP2.out).mono ?_
        rintro e w2x ⟨U2, rfl, hil, hx⟩
        replace HX := Lib.hid (HX.out.trans hx)
        replace HT := Lib.hid (HT.out.ext hx)
        replace HO := Lib.hid (HO.out.ext hx)
        replace HU := Lib.hid (HU.out.ext hx)
        have HBI := Lib.hid hil
        obtain ⟨UA2, uc2, rfl, -⟩ := id hil
        clear hil hx
        obtain ⟨c0, c1, c2, z0⟩ := three_c (ext_ty HX.out HB.out)
        go_wp2_with fail
        refine (HOF.out _ (HV.out.ext (E1.out.trans HX.out))).mono ?_
        rintro e w3 ⟨S3, C3, B3, rfl, hp, hx⟩
        replace HX := Lib.hid (HX.out.trans hx)
        replace HT := Lib.hid (HT.out.ext hx)
        replace HO := Lib.hid (HO.out.ext hx)
        replace HU := Lib.hid (HU.out.ext hx)
        replace HBI := Lib.hid (HBI.out.ext hx)
        have HP3 := Lib.hid hp
        clear hp hx c0 c1 c2 z0
        go_wp2_with fail
        refine (HCS.out _ _ _ _ HP3.out _ _ _ HBI.out).mono ?_
        rintro e w3x ⟨rfl, hx⟩
        replace HX := Lib.hid (HX.out.trans hx)
        replace HT := Lib.hid (HT.out.ext hx)
        replace HO := Lib.hid (HO.out.ext hx)
        replace HU := Lib.hid (HU.out.ext hx)
        replace HBI := Lib.hid (HBI.out.ext hx)
        clear hx
        rw [HCB.out.1, HCB.out.2]
        obtain ⟨c0, c1, c2, z0⟩ := three_c (ext_ty HX.out HB.out)
        go_wp2_with fail
        refine (HOF.out _ (HV.out.ext (E1.out.trans HX.out))).mono ?_
        rintro e w4 ⟨S4, C4, B4, rfl, hp, hx⟩
        replace HX := Lib.hid (HX.out.trans hx)
        replace HT := Lib.hid (HT.out.ext hx)
        replace HO := Lib.hid (HO.out.ext hx)
        replace HU := Lib.hid (HU.out.ext hx)
        replace HBI := Lib.hid (HBI.out.ext hx)
        have HP4 := Lib.hid hp
        clear hp hx c0 c1 c2 z0
        go_wp2_with fail
        refine (HCH.out _ _ _ _ HP4.out _ _ _ HU.out).mono ?_
        rintro e w4x ⟨rfl, hx⟩
        replace HX := Lib.hid (HX.out.trans hx)
        replace HT := Lib.hid (HT.out.ext hx)
        replace HO := Lib.hid (HO.out.ext hx)
        replace HU := Lib.hid (HU.out.ext hx)
        replace HBI := Lib.hid (HBI.out.ext hx)
        clear hx
        rw [HOW.out.1, HOW.out.2.1, HOW.out.2.2]
        obtain ⟨c0, c1, c2, z0⟩ := three_c (ext_ty HX.out HB.out)
        go_wp2_with fail
        refine (HOF.out _ (HV.out.ext (E1.out.trans HX.out))).mono ?_
        rintro e w5 ⟨S5, C5, B5, rfl, hp, hx⟩
        replace HX := Lib.hid (HX.out.trans hx)
        replace HT := Lib.hid (HT.out.ext hx)
        replace HO := Lib.hid (HO.out.ext hx)
        replace HU := Lib.hid (HU.out.ext hx)
        replace HBI := Lib.hid (HBI.out.ext hx)
        have HP5 := Lib.hid hp
        clear hp hx c0 c1 c2 z0
        go_wp2_with fail
        refine (HCH.out _ _ _ _ HP5.out _ _ _ HT.out).mono ?_
        rintro e w5x ⟨rfl, hx⟩
        replace HX := Lib.hid (HX.out.trans hx)
        replace HT := Lib.hid (HT.out.ext hx)
        replace HO := Lib.hid (HO.out.ext hx)
        replace HU := Lib.hid (HU.out.ext hx)
        replace HBI := Lib.hid (HBI.out.ext hx)
        clear hx
        rw [HCT.out.1, HCT.out.2.1, HCT.out.2.2]
        obtain ⟨c0, c1, c2, z0⟩ := three_c (ext_ty HX.out HB.out)
        go_wp2_with fail
        refine (HOF.out _ (HV.out.ext (E1.out.trans HX.out))).mono ?_
        rintro e w6 ⟨S6, C6, B6, rfl, hp, hx⟩
        replace HX := Lib.hid (HX.out.trans hx)
        replace HT := Lib.hid (HT.out.ext hx)
        replace HO := Lib.hid (HO.out.ext hx)
        replace HU := Lib.hid (HU.out.ext hx)
        replace HBI := Lib.hid (HBI.out.ext hx)
        have HP6 := Lib.hid hp
        clear hp hx c0 c1 c2 z0
        go_wp2_with fail
        refine (HCS.out _ _ _ _ HP6.out _ _ _ HO.out).mono ?_
        rintro e w6x ⟨rfl, hx⟩
        replace HX := Lib.hid (HX.out.trans hx)
        replace HT := Lib.hid (HT.out.ext hx)
        replace HO := Lib.hid (HO.out.ext hx)
        replace HU := Lib.hid (HU.out.ext hx)
        replace HBI := Lib.hid (HBI.out.ext hx)
        clear hx
        rw [HOO.out.1, HOO.out.2]
        go_wp2_with fail
        refine (awake_any _).mono ?_
        rintro e w9 ⟨rfl, hx⟩
        replace HX := Lib.hid (HX.out.trans hx); clear hx
        go_wp2
        go_ret
        exact ⟨rfl, E1.out.trans HX.out⟩
  · have h1b : (ce != 0) = true := by simpa using h1
    clear h1 hok2
    obtain ⟨c0, c1, c2, z0⟩ := three_c (ext_ty HX.out HB.out)
    go_wp2_with fail
    refine (HOF.out _ (HV.out.ext (E1.out.trans HX.out))).mono ?_
    rintro e w1 ⟨S1, C1, B1, rfl, hp, hx⟩
    replace HX := Lib.hid (HX.out.trans hx)
    replace HT := Lib.hid (HT.out.ext hx)
    replace HO := Lib.hid (HO.out.ext hx)
    have HP1 := Lib.hid hp
    clear hp hx c0 c1 c2 z0
    go_wp2_with fail
    refine (HPS.out _ _ _ _ HP1.out).mono ?_
    rintro e w1x ⟨U1, rfl, hil, hx⟩
    replace HX := Lib.hid (HX.out.trans hx)
    replace HT := Lib.hid (HT.out.ext hx)
    replace HO := Lib.hid (HO.out.ext hx)
    have HU := Lib.hid hil
    obtain ⟨UA1, uc1, rfl, -⟩ := id hil
    clear hil hx
    obtain ⟨c0, c1, c2, z0⟩ := three_c (ext_ty HX.out HB.out)
    go_wp2_with fail
    refine (HOF.out _ (HV.out.ext (E1.out.trans HX.out))).mono ?_
    rintro e w2 ⟨S2, C2, B2, rfl, hp, hx⟩
    replace HX := Lib.hid (HX.out.trans hx)
    replace HT := Lib.hid (HT.out.ext hx)
    replace HO := Lib.hid (HO.out.ext hx)
    replace HU := Lib.hid (HU.out.ext hx)
    have HP2 := Lib.hid hp
    clear hp hx c0 c1 c2 z0
    go_wp2_with fail
    refine (HBS.out _ _ _ _ HP2.out).mono ?_
    rintro e w2x ⟨U2, rfl, hil, hx⟩
    replace HX := Lib.hid (HX.out.trans hx)
    replace HT := Lib.hid (HT.out.ext hx)
    replace HO := Lib.hid (HO.out.ext hx)
    replace HU := Lib.hid (HU.out.ext hx)
    have HBI := Lib.hid hil
    obtain ⟨UA2, uc2, rfl, -⟩ := id hil
    clear hil hx
    obtain ⟨c0, c1, c2, z0⟩ := three_c (ext_ty HX.out HB.out)
    go_wp2_with fail
    refine (HOF.out _ (HV.out.ext (E1.out.trans HX.out))).mono ?_
    rintro e w3 ⟨S3, C3, B3, rfl, hp, hx⟩
    replace HX := Lib.hid (HX.out.trans hx)
    replace HT := Lib.hid (HT.out.ext hx)
    replace HO := Lib.hid (HO.out.ext hx)
    replace HU := Lib.hid (HU.out.ext hx)
    replace HBI := Lib.hid (HBI.out.ext hx)
    have HP3 := Lib.hid hp
    clear hp hx c0 c1 c2 z0
    go_wp2_with fail
    refine (HCS.out _ _ _ _ HP3.out _ _ _ HBI.out).mono ?_
    rintro e w3x ⟨rfl, hx⟩
    replace HX := Lib.hid (HX.out.trans hx)
    replace HT := Lib.hid (HT.out.ext hx)
    replace HO := Lib.hid (HO.out.ext hx)
    replace HU := Lib.hid (HU.out.ext hx)
    replace HBI := Lib.hid (HBI.out.ext hx)
    clear hx
    rw [HCB.out.1, HCB.out.2]
    obtain ⟨c0, c1, c2, z0⟩ := three_c (ext_ty HX.out HB.out)
    go_wp2_with fail
    refine (HOF.out _ (HV.out.ext (E1.out.trans HX.out))).mono ?_
    rintro e w4 ⟨S4, C4, B4, rfl, hp, hx⟩
    replace HX := Lib.hid (HX.out.trans hx)
    replace HT := Lib.hid (HT.out.ext hx)
    replace HO := Lib.hid (HO.out.ext hx)
    replace HU := Lib.hid (HU.out.ext hx)
    replace HBI := Lib.hid (HBI.out.ext hx)
    have HP4 := Lib.hid hp
    clear hp hx c0 c1 c2 z0
    go_wp2_with fail
    refine (HCH.out _ _ _ _ HP4.out _ _ _ HU.out).mono ?_
    rintro e w4x ⟨rfl, hx⟩
    replace HX := Lib.hid (HX.out.trans hx)
    replace HT := Lib.hid (HT.out.ext hx)
    replace HO := Lib.hid (HO.out.ext hx)
    replace HU := Lib.hid (HU.out.ext hx)
    replace HBI := Lib.hid (HBI.out.ext hx)
    clear hx
    rw [HOW.out.1, HOW.out.2.1, HOW.out.2.2]
    obtain ⟨c0, c1, c2, z0⟩ := three_c (ext_ty HX.out HB.out)
    go_wp2_with fail
    refine (HOF.out _ (HV.out.ext (E1.out.trans HX.out))).mono ?_
    rintro e w5 ⟨S5, C5, B5, rfl, hp, hx⟩
    replace HX := Lib.hid (HX.out.trans hx)
    replace HT := Lib.hid (HT.out.ext hx)
    replace HO := Lib.hid (HO.out.ext hx)
    replace HU := Lib.hid (HU.out.ext hx)
    replace HBI := Lib.hid (HBI.out.ext hx)
    have HP5 := Lib.hid hp
    clear hp hx c0 c1 c2 z0
    go_wp2_with fail
    refine (HCH.out _ _ _ _ HP5.out _ _ _ HT.out).mono ?_
    rintro e w5x ⟨rfl, hx⟩
    replace HX := Lib.hid (HX.out.trans hx)
    replace HT := Lib.hid (HT.out.ext hx)
    replace HO := Lib.hid (HO.out.ext hx)
    replace HU := Lib.hid (HU.out.ext hx)
    replace HBI := Lib.hid (HBI.out.ext hx)
    clear hx
    rw [HCT.out.1, HCT.out.2.1, HCT.out.2.2]
    obtain ⟨c0, c1, c2, z0⟩ := three_c (ext_ty HX.out HB.out)
    go_wp2_with fail
    refine (HOF.out _ (HV.out.ext (E1.out.trans HX.out))).mono ?_
    rintro e w6 ⟨S6, C6, B6, rfl, hp, hx⟩
    replace HX := Lib.hid (HX.out.trans hx)
    replace HT := Lib.hid (HT.out.ext hx)
    replace HO := Lib.hid (HO.out.ext hx)
    replace HU := Lib.hid (HU.out.ext hx)
    replace HBI := Lib.hid (HBI.out.ext hx)
    have HP6 := Lib.hid hp
    clear hp hx c0 c1 c2 z0
    go_wp2_with fail
    refine (HCS.out _ _ _ _ HP6.out _ _ _ HO.out).mono ?_
    rintro e w6x ⟨rfl, hx⟩
    replace HX := Lib.hid (HX.out.trans hx)
    replace HT := Lib.hid (HT.out.ext hx)
    replace HO := Lib.hid (HO.out.ext hx)
    replace HU := Lib.hid (HU.out.ext hx)
    replace HBI := Lib.hid (HBI.out.ext hx)
    clear hx
    rw [HOO.out.1, HOO.out.2]
    go_wp2_with fail
    refine (awake_any _).mono ?_
    rintro e w9 ⟨rfl, hx⟩
    replace HX := Lib.hid (HX.out.trans hx); clear hx
    go_wp2
    go_ret
    exact ⟨rfl, E1.out.trans HX.out⟩
end Go.Proofs.YtlachbodibajlaaDoor
