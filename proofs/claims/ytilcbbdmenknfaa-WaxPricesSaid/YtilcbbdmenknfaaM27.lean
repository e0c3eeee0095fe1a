/- Walks: the reference's search. · Walks: Prices. · Walks: the reference's Prices; equal rows of numbers. -/
import Derived.Test.YtilcbbdmenknfaaM21
import Derived.Test.YtilcbbdmenknfaaM26
namespace Go.Proofs.Ytilcbbdmenknfaa
open Go.RowKit

/-- no price of the first k lies from lo on and below hi -/
def noneIn (P : Nat → Int) (lo hi : Int) (k : Nat) : Bool := (List.range k).all fun v => !(decide (lo ≤ P v) && decide (P v < hi))
theorem noneIn_succ (P : Nat → Int) (lo hi : Int) (k : Nat) : noneIn P lo hi (k + 1) = (noneIn P lo hi k && !(decide (lo ≤ P k) && decide (P k < hi))) := by
  simp [noneIn, List.range_succ]
theorem noneIn_iff {P : Nat → Int} {lo hi : Int} {k : Nat} : noneIn P lo hi k = true ↔ ∀ v, v < k → ¬ (lo ≤ P v ∧ P v < hi) := by
  unfold noneIn
  rw [List.all_eq_true]
  constructor
  · intro h v hv hc
    have := h v (List.mem_range.2 hv)
    rw [decide_eq_true hc.1, decide_eq_true hc.2] at this
    cases this
  · intro h v hv
    have := h v (List.mem_range.1 hv)
    by_cases h1 : lo ≤ P v
    · rw [decide_eq_false (fun h2 => this ⟨h1, h2⟩)]; simp
    · rw [decide_eq_false h1]; rfl

set_option maxHeartbeats 4000000 in
set_option maxRecDepth 100000 in
theorem search_any (c : Cl) (P : Nat → Int) (hvc : vCl c = true) (hP : Prc c P) : ∀ (n : Nat) (lo hi : Int) (g nb : Nat) (p : Nat → Int) (V BV AV : Value) (W0 W : World), nb = c.nb → hi - lo ≤ n → lo < hi → -10000 ≤ lo → hi ≤ 10000 →
    Kl W0 V c → Ext W0 W → W0.heap.size ≤ g → BI W g nb p → Bg g W BV nb (fun v => decide (lo ≤ P v)) → Bg g W AV nb (fun v => decide (hi ≤ P v)) →
    Calls Try.prog 77 #[V, .int .i64 lo, .int .i64 hi, BV, AV, .slice (some ⟨g, 0, none⟩) nb nb] W fun e W' => (∃ v, e = .returned v) ∧ BI W' g nb (setP P p lo hi) ∧ Kp g W W' := by
  intro n
  induction n with
  | zero => intro lo hi g nb p V BV AV W0 W _ h1 h2; omega
  | succ n ih =>
    intro lo hi g nb p V BV AV W0 W hnb hn hlt hlo hhi hV h0 hg hBI hBV hAV
    have HIH := Lib.hid ih
    have HVC := Lib.hid hvc; have HP := Lib.hid hP; have HV := Lib.hid hV; have H0 := Lib.hid h0; have HBI := Lib.hid hBI; have HBV := Lib.hid hBV; have HAV := Lib.hid hAV
    have HNB := Lib.hid hnb
    have hnb36 : nb ≤ 36 := by
      obtain ⟨⟨v1, v2⟩, ⟨v3, v4⟩, ⟨v5, -⟩, -⟩ := vCl_ok hvc
      have h1 := (side_prod (show 0 ≤ c.w by omega) v2 (show 0 ≤ c.h by omega) v4).2
      omega
    have hgW : g < W.heap.size := Bk.lt hBI
    clear ih hvc hP hBI h0 hnb
    obtain ⟨B, X, R, D, rfl, -, -, -, -⟩ := hV
    obtain ⟨AB, cB, rfl, hcB, hdB, -⟩ := hBV.1
    obtain ⟨AA, cA, rfl, hcA, hdA, -⟩ := hAV.1
    obtain ⟨w, hw⟩ : ∃ w, w = c.w := ⟨_, rfl⟩
    obtain ⟨h, hh⟩ : ∃ h, h = c.h := ⟨_, rfl⟩
    rw [← hw, ← hh] at HV ⊢
    clear hBV hAV hw hh
    go_enter Try.func77, Try.ntmps77
    go_upto_region 1 with fail
    have bb := al1 W (.cells #[.int .i64 w, .int .i64 h, B, X, R, D] 68)
    obtain ⟨m0, m1, m2, m3, m4, m5, mz, -⟩ := six (heap_alloc_new W (.cells #[.int .i64 w, .int .i64 h, B, X, R, D] 68))
    generalize W.alloc (.cells #[.int .i64 w, .int .i64 h, B, X, R, D] 68) = W1 at *
    have HB : Hid (Ext W W1) := Lib.hid bb
    have hgm : W.heap.size ≠ g := by omega
    have HM := Lib.hid (And.intro m0 (And.intro m1 (And.intro m2 (And.intro m3 (And.intro m4 m5)))))
    replace HBV := Lib.hid (HBV.out.kp (Kp.of g bb))
    replace HAV := Lib.hid (HAV.out.kp (Kp.of g bb))
    replace HBI := Lib.hid (HBI.out.ext bb)
    clear bb m0 m1 m2 m3 m4 m5
    go_wp2_with fail
    go_loopw [12, 19] (fun sb i wr => ∃ k : Nat, i = .int .i64 k ∧ k ≤ nb ∧ sb = .bool (noneIn P lo hi k) ∧ Hid (BI wr g nb (fun v => if v < k ∧ lo ≤ P v ∧ P v < hi then lo else p v) ∧ Kp g W1 wr)) (fun _ i _ => nb - (intOf i).toNat)
    case atStart => exact ⟨0, rfl, Nat.zero_le _, rfl, Lib.hid ⟨Bk.congr HBI.out (fun j _ => by simp), Kp.refl _ _⟩⟩
    case round =>
      obtain ⟨k, rfl, hk, rfl, hin⟩ := hrel
      by_cases hlt2 : k < nb
      · obtain ⟨bB, oB, rfl, hbB, cb⟩ := Vl.at (HBV.out.kp hin.out.2).1 (Ext.refl _) hlt2
        obtain ⟨bA, oA, rfl, hbA, ca⟩ := Vl.at (HAV.out.kp hin.out.2).1 (Ext.refl _) hlt2
        dsimp only at cb ca
        obtain ⟨s, hs⟩ : ∃ s, s = noneIn P lo hi k := ⟨_, rfl⟩
        have hss := noneIn_succ P lo hi k
        rw [← hs] at hss ⊢
        have HS := Lib.hid hss
        have HDR : Hid (BI wr.drew g nb (fun v => if v < k ∧ lo ≤ P v ∧ P v < hi then lo else p v) ∧ Kp g W1 wr.drew) := Lib.hid ⟨Bk.drew hin.out.1, hin.out.2.trans (Kp.of g (Ext.drw (Ext.refl _)))⟩
        clear hss hs hin
        go_upto_region 5 with fail
        by_cases q1 : lo ≤ P k
        · by_cases q2 : P k < hi
          · have hq2 : ¬ hi ≤ P k := by omega
            rw [decide_eq_true q1] at cb
            rw [decide_eq_false hq2] at ca
            have hsv : noneIn P lo hi (k + 1) = false := by rw [HS.out, decide_eq_true q1, decide_eq_true q2]; simp
            have HSV := Lib.hid hsv
            have HQ := Lib.hid (And.intro q1 q2)
            have cbd : wr.drew.cell? ⟨bB, oB + k, none⟩ = some (.bool true) := cb
            have cad : wr.drew.cell? ⟨bA, oA + k, none⟩ = some (.bool false) := ca
            clear hsv q1 q2 hq2 cb ca
            go_region
            have c6 := Bk.cell HDR.out.1 hlt2
            have f6 := Bk.free HDR.out.1 k
            clear cbd cad
            go_wp2
            go_roundw
            case rel =>
              refine ⟨k + 1, by go_num, by omega, by rw [HSV.out], Lib.hid ⟨?_, HDR.out.2.sc _⟩⟩
              refine Bk.congr (BI.set_ HDR.out.1 k lo) fun j _ => ?_
              by_cases e : j = k
              · subst e; rw [up_self]; dsimp only; rw [if_pos ⟨by omega, HQ.out.1, HQ.out.2⟩]
              · rw [up_ne _ _ e]; dsimp only
                have t : (j < k + 1 ∧ lo ≤ P j ∧ P j < hi) ↔ (j < k ∧ lo ≤ P j ∧ P j < hi) := by omega
                simp only [t]
            case measure => simp [intOf]; omega
          · have hq2 : hi ≤ P k := by omega
            rw [decide_eq_true q1] at cb
            rw [decide_eq_true hq2] at ca
            have hsv : noneIn P lo hi (k + 1) = s := by rw [HS.out, decide_eq_true q1, decide_eq_false q2]; simp
            have HSV := Lib.hid hsv
            have HQ := Lib.hid q2
            have cbd : wr.drew.cell? ⟨bB, oB + k, none⟩ = some (.bool true) := cb
            have cad : wr.drew.cell? ⟨bA, oA + k, none⟩ = some (.bool true) := ca
            clear hsv q1 q2 hq2 cb ca
            go_region
            clear cbd cad
            go_wp2
            go_roundw
            case rel =>
              refine ⟨k + 1, by go_num, by omega, by rw [HSV.out], Lib.hid ⟨?_, HDR.out.2⟩⟩
              refine Bk.congr HDR.out.1 fun j _ => ?_
              have q2 := HQ.out
              have t : (j < k + 1 ∧ lo ≤ P j ∧ P j < hi) ↔ (j < k ∧ lo ≤ P j ∧ P j < hi) := by
                by_cases e : j = k
                · subst e; omega
                · omega
              simp only [t]
            case measure => simp [intOf]; omega
        · have hq2 : ¬ hi ≤ P k := by omega
          rw [decide_eq_false q1] at cb
          rw [decide_eq_false hq2] at ca
          have hsv : noneIn P lo hi (k + 1) = s := by rw [HS.out, decide_eq_false q1]; simp
          have HSV := Lib.hid hsv
          have HQ := Lib.hid q1
          have cbd : wr.drew.cell? ⟨bB, oB + k, none⟩ = some (.bool false) := cb
          have cad : wr.drew.cell? ⟨bA, oA + k, none⟩ = some (.bool false) := ca
          clear hsv q1 hq2 cb ca
          go_region
          clear cbd cad
          go_wp2
          go_roundw
          case rel =>
            refine ⟨k + 1, by go_num, by omega, by rw [HSV.out], Lib.hid ⟨?_, HDR.out.2⟩⟩
            refine Bk.congr HDR.out.1 fun j _ => ?_
            have q1 := HQ.out
            have t : (j < k + 1 ∧ lo ≤ P j ∧ P j < hi) ↔ (j < k ∧ lo ≤ P j ∧ P j < hi) := by
              by_cases e : j = k
              · subst e; omega
              · omega
            simp only [t]
          case measure => simp [intOf]; omega
      · obtain rfl : k = nb := by omega
        have HBI2 : Hid (BI wr g k (setP P p lo hi) ∨ noneIn P lo hi k = false ∧ hi - lo ≠ 1) := Lib.hid (by
          by_cases h1 : noneIn P lo hi k = false ∧ hi - lo ≠ 1
          · exact .inr h1
          · refine .inl (Bk.congr hin.out.1 fun j hj => ?_)
            congr 1
            unfold setP
            dsimp only -- d1
            by_cases q : lo ≤ P j ∧ P j < hi
            · rw [if_pos ⟨hj, q.1, q.2⟩, if_pos q]
              cases e : noneIn P lo hi k
              · have : hi - lo = 1 := by
                  rcases Decidable.em (hi - lo = 1) with h | h
                  · exact h
                  · exact absurd ⟨e, h⟩ h1
                omega
              · exact absurd q (noneIn_iff.1 e j hj)
            · rw [if_neg (fun h => q h.2), if_neg q])
        obtain ⟨s, hs⟩ : ∃ s, s = noneIn P lo hi k := ⟨_, rfl⟩
        rw [← hs] at HBI2 ⊢
        have HS := Lib.hid hs
        clear hs
        cases s
        · by_cases h1 : hi - lo = 1
          · have h1b : (hi - lo == 1) = true := by simp; exact h1
            have HR : Hid (BI wr g k (setP P p lo hi)) := Lib.hid (by
              rcases HBI2.out with h | h
              · exact h
              · exact absurd h1 h.2)
            clear HBI2
            go_wp2
            refine bodyPost_ret (v := .tuple #[]) (results_none (by rfl) _ _ _) rfl ?_
            exact ⟨⟨_, rfl⟩, HR.out, (Kp.of g HB.out).trans hin.out.2⟩
          · have h1b : (hi - lo == 1) = false := by simp; exact h1
            clear HBI2
            obtain ⟨mid, hmid⟩ : ∃ mid, (lo + hi).tdiv 2 = mid := ⟨_, rfl⟩
            have hm1 : lo < mid ∧ mid < hi := by
              rw [← hmid]
              rcases Int.le_total 0 (lo + hi) with h | h
              · rw [Int.tdiv_eq_ediv_of_nonneg h]; omega
              · have : (lo + hi).tdiv 2 = -((-(lo + hi)) / 2) := by
                  have e := Int.neg_tdiv (lo + hi) 2
                  rw [Int.tdiv_eq_ediv_of_nonneg (by omega)] at e
                  omega
                omega
            have m0 := hin.out.2.cell mz hgm HM.out.1
            have m1 := hin.out.2.cell mz hgm HM.out.2.1
            have m2 := hin.out.2.cell mz hgm HM.out.2.2.1
            have m3 := hin.out.2.cell mz hgm HM.out.2.2.2.1
            have m4 := hin.out.2.cell mz hgm HM.out.2.2.2.2.1
            have m5 := hin.out.2.cell mz hgm HM.out.2.2.2.2.2
            have hw3 : IntKind.i64.wrap mid = mid := IntWalk.i64_in _ (by omega)
            have HX0 : Hid (Ext W0 wr) := Lib.hid (((Kp.of g HB.out).trans hin.out.2).ext H0.out hg)
            have HIN := hin
            clear hin
            go_wp2_with fail
            refine (labelsR_own c mid _ _ (HV.out.ext HX0.out) HVC.out (by omega) (by omega)).mono ?_
            clear m0 m1 m2 m3 m4 m5 hmid hw3
            rintro e w2 ⟨F, G, L, M, rfl, hF, hG, hL, hM, hx, hown⟩
            have hMb : ∀ v, v < k → M v = decide (mid ≤ P v) := fun v hv => HP.out mid (by omega) (by omega) M hM v (by rw [← HNB.out]; exact hv)
            rw [← HNB.out] at hG hF
            have hgw1 : g < wr.heap.size := Bk.lt HIN.out.1
            have hG2 : Bg g w2 G k (fun v => decide (mid ≤ P v)) := ⟨hG.congr hMb, fun A m c e b off e2 => by
              have := hown b (by rw [e, e2]; rfl)
              omega⟩
            obtain ⟨AF, cF, rfl, -, -, -⟩ := hF
            obtain ⟨AG, cG, rfl, -, -, -⟩ := hG
            have HG := Lib.hid hG2
            have HK := Lib.hid (HIN.out.2.trans (Kp.of g hx))
            replace HBI := Lib.hid (HIN.out.1.ext hx)
            clear hL hM hx hMb hG2 HX0 hown HIN
            have m0 := HK.out.cell mz hgm HM.out.1
            have m1 := HK.out.cell mz hgm HM.out.2.1
            have m2 := HK.out.cell mz hgm HM.out.2.2.1
            have m3 := HK.out.cell mz hgm HM.out.2.2.2.1
            have m4 := HK.out.cell mz hgm HM.out.2.2.2.2.1
            have m5 := HK.out.cell mz hgm HM.out.2.2.2.2.2
            have HX3 : Hid (Ext W0 w2) := Lib.hid (((Kp.of g HB.out).trans HK.out).ext H0.out hg)
            go_wp2_with fail
            refine (HIH.out lo mid g k _ (.agg #[.int .i64 w, .int .i64 h, B, X, R, D]) _ _ W0 _ HNB.out (by omega) hm1.1 hlo (by omega) HV.out HX3.out hg HBI.out (HBV.out.kp HK.out) HG.out).mono ?_
            clear m0 m1 m2 m3 m4 m5
            rintro e w4 ⟨⟨v4, rfl⟩, hbi, hk4⟩
            have HB4 := Lib.hid hbi
            have m0 := (HK.out.trans hk4).cell mz hgm HM.out.1
            have m1 := (HK.out.trans hk4).cell mz hgm HM.out.2.1
            have m2 := (HK.out.trans hk4).cell mz hgm HM.out.2.2.1
            have m3 := (HK.out.trans hk4).cell mz hgm HM.out.2.2.2.1
            have m4 := (HK.out.trans hk4).cell mz hgm HM.out.2.2.2.2.1
            have m5 := (HK.out.trans hk4).cell mz hgm HM.out.2.2.2.2.2
            replace HG := Lib.hid (HG.out.kp hk4)
            replace HK := Lib.hid (HK.out.trans hk4)
            have HX4 : Hid (Ext W0 w4) := Lib.hid (((Kp.of g HB.out).trans HK.out).ext H0.out hg)
            clear hbi hk4
            go_wp2_with fail
            refine (HIH.out mid hi g k _ (.agg #[.int .i64 w, .int .i64 h, B, X, R, D]) _ _ W0 _ HNB.out (by omega) hm1.2 (by omega) hhi HV.out HX4.out hg HB4.out HG.out (HAV.out.kp HK.out)).mono ?_
            clear m0 m1 m2 m3 m4 m5
            rintro e w5 ⟨⟨v5, rfl⟩, hbi, hk5⟩
            have HB5 : Hid (BI w5 g k (setP P p lo hi)) := Lib.hid (Bk.congr hbi fun j hj => by
              congr 1
              unfold setP
              by_cases q1 : mid ≤ P j ∧ P j < hi
              · rw [if_pos q1, if_pos (by omega)]
              · rw [if_neg q1]
                by_cases q2 : lo ≤ P j ∧ P j < mid
                · rw [if_pos q2, if_pos (by omega)]
                · rw [if_neg q2]; dsimp only; rw [if_neg (by omega), if_neg (by omega)])
            have HK5 := Lib.hid (((Kp.of g HB.out).trans HK.out).trans hk5)
            clear hbi hk5
            go_wp2
            refine bodyPost_end (v := .tuple #[]) (results_none (by rfl) _ _ _) rfl ?_
            exact ⟨⟨_, rfl⟩, HB5.out, HK5.out⟩
        · have HR : Hid (BI wr g k (setP P p lo hi)) := Lib.hid (by
            rcases HBI2.out with h | h
            · exact h
            · cases h.1)
          clear HBI2
          go_wp2
          refine bodyPost_ret (v := .tuple #[]) (results_none (by rfl) _ _ _) rfl ?_
          exact ⟨⟨_, rfl⟩, HR.out, (Kp.of g HB.out).trans hin.out.2⟩
end Go.Proofs.Ytilcbbdmenknfaa
namespace Go.Proofs.Ytilcbbdmenknfaa
open Go.RowKit

set_option maxHeartbeats 4000000 in
set_option maxRecDepth 100000 in
theorem pricesS_any (c : Cl) (V : Value) (W : World) (hV : Kl W V c) :
    Calls Try.prog 43 #[V] W fun e W' => ∃ (F : Value) (er : Int), e = .returned (.tuple #[F, .int .i64 er]) ∧ Ext W W' ∧
      ((vCl c = false ∧ F = .slice none 0 0 ∧ er = 2) ∨ (vCl c = true ∧ er = 0 ∧ ∃ P, Prc c P ∧ Il W' F c.nb P)) := by
  have HV := Lib.hid hV
  obtain ⟨B, X, R, D, rfl, -, -, -, -⟩ := hV
  obtain ⟨w, hw⟩ : ∃ w, w = c.w := ⟨_, rfl⟩
  obtain ⟨h, hh⟩ : ∃ h, h = c.h := ⟨_, rfl⟩
  rw [← hw, ← hh] at HV ⊢
  have HWH := Lib.hid (And.intro hw hh)
  clear hw hh
  go_enter Try.func43, Try.ntmps43
  go_upto_region 1 with fail
  have bb := al1 W (.cells #[.int .i64 w, .int .i64 h, B, X, R, D] 70)
  obtain ⟨m0, m1, m2, m3, m4, m5, mz, -⟩ := six (heap_alloc_new W (.cells #[.int .i64 w, .int .i64 h, B, X, R, D] 70))
  generalize W.alloc (.cells #[.int .i64 w, .int .i64 h, B, X, R, D] 70) = W1 at *
  have HB : Hid (Ext W W1) := Lib.hid bb
  have HM := Lib.hid (And.intro m0 (And.intro m1 (And.intro m2 (And.intro m3 (And.intro m4 m5)))))
  clear bb
  go_wp2_with fail
  refine (isCloth_any c _ _ (HV.out.ext HB.out)).mono ?_
  rintro e w2 ⟨rfl, hx⟩
  have HX : Hid (Ext W1 w2) := Lib.hid hx
  clear hx m0 m1 m2 m3 m4 m5
  cases hv : vCl c
  · have HV0 := Lib.hid hv
    clear hv
    go_wp2
    refine bodyPost_ret (v := .tuple #[.slice none 0 0, .int .i64 2]) (by simp [results, Try.results43, go_sem]) rfl ⟨_, 2, rfl, HB.out.trans HX.out, .inl ⟨HV0.out, rfl, rfl⟩⟩
  · obtain ⟨P, hP⟩ := prc_ex hv
    have HP := Lib.hid hP
    have HVC := Lib.hid hv
    have hfacts := vCl_ok hv
    have hnb36 : c.nb ≤ 36 := by
      obtain ⟨⟨v1, v2⟩, ⟨v3, v4⟩, ⟨v5, -⟩, -⟩ := hfacts
      have h1 := (side_prod (show 0 ≤ c.w by omega) v2 (show 0 ≤ c.h by omega) v4).2
      omega
    have hbd : ∀ v, v < c.nb → -1000 ≤ P v ∧ P v ≤ 1000 := fun v hv2 => hP.bd hv hv2
    have HBD := Lib.hid hbd
    obtain ⟨nb, hnb⟩ : ∃ n, n = c.nb := ⟨_, rfl⟩
    have hwh : w * h = (nb : Int) := by rw [HWH.out.1, HWH.out.2, hnb]; exact hfacts.2.2.1.1.symm
    rw [← hnb] at hnb36
    have HNB := Lib.hid hnb
    have hm2 : ∀ w, (Instr.makeSlice 33 (.int .i64 (nb : Int)) (.int .i64 (nb : Int))).run Try.prog w = .ok (.slice (some ⟨w.heap.size, 0, none⟩) nb nb) (w.alloc (.cells (Array.ofFn fun _ : Fin nb => .int .i64 0) 3)) := fun w => make_one 33 3 _ 8 Try.underlying33 info3 rfl (by omega) nb (by omega) w
    have m0 := keepAt HX.out mz HM.out.1
    have m1 := keepAt HX.out mz HM.out.2.1
    have mz2 : W.heap.size < w2.heap.size := Nat.lt_of_lt_of_le mz HX.out.size
    have HM2 := Lib.hid (And.intro (keepAt HX.out mz HM.out.1) (And.intro (keepAt HX.out mz HM.out.2.1) (And.intro (keepAt HX.out mz HM.out.2.2.1) (And.intro (keepAt HX.out mz HM.out.2.2.2.1) (And.intro (keepAt HX.out mz HM.out.2.2.2.2.1) (keepAt HX.out mz HM.out.2.2.2.2.2))))))
    clear hv hP hfacts hbd hnb
    go_upto_region 4 with fail
    clear m0 m1
    obtain ⟨g, hg⟩ : ∃ g, g = w2.heap.size := ⟨_, rfl⟩
    have y1 : BI (w2.alloc (.cells (Array.ofFn fun _ : Fin nb => Value.int .i64 0) 3)) g nb (fun _ => 0) := by rw [hg]; exact heap_alloc_new w2 _
    have e1 : Ext w2 (w2.alloc (.cells (Array.ofFn fun _ : Fin nb => Value.int .i64 0) 3)) := Ext.alc (Ext.refl _) _
    have z1 : g < (w2.alloc (.cells (Array.ofFn fun _ : Fin nb => Value.int .i64 0) 3)).heap.size := by rw [hg]; simp
    rw [← hg]
    have hgw : w2.heap.size ≤ g := by omega
    have HY1 := Lib.hid (And.intro y1 e1)
    clear y1 e1 hg
    generalize w2.alloc (.cells (Array.ofFn fun _ : Fin nb => Value.int .i64 0) 3) = w3 at *
    have eX := HY1.out.2
    refine wp_region_noPanic ?_
    refine wp_region_held_drew (S := fun X => Ext w2 X) (by kernel_rfl) (Ext.drw eX) (fun _ => ?_)
    refine take_at 0 (some 14) (.agg #[.int .i64 w, .int .i64 h, B, X, R, D]) rfl rfl (by kernel_rfl) (by kernel_rfl) (by kernel_rfl) (fun _ _ _ h => h) (Or.inl ⟨by rfl, fun w' hSw => ?_⟩) (Ext.drw eX) ?_
    · have z0 := keepAt hSw mz2 HM2.out.1
      have z1 := keepAt hSw mz2 HM2.out.2.1
      have z2 := keepAt hSw mz2 HM2.out.2.2.1
      have z3 := keepAt hSw mz2 HM2.out.2.2.2.1
      have z4 := keepAt hSw mz2 HM2.out.2.2.2.2.1
      have z5 := keepAt hSw mz2 HM2.out.2.2.2.2.2
      try clear hSw
      go_simp
      all_goals (with_reducible rfl)
    try simp only [Act.put, List.setIfInBounds_toArray, List.set_cons_zero, List.set_cons_succ]
    refine take_at 1 (some 15) (.slice (some ⟨g, 0, none⟩) nb nb) rfl rfl (by kernel_rfl) (by kernel_rfl) (by kernel_rfl) (fun _ _ _ h => h) (Or.inl ⟨by rfl, fun w' hSw => ?_⟩) (Ext.drw eX) ?_
    · skip
      try clear hSw
      go_simp
      all_goals (with_reducible rfl)
    try simp only [Act.put, List.setIfInBounds_toArray, List.set_cons_zero, List.set_cons_succ]
    refine take_at 2 (some 16) (.agg #[.int .i64 w, .int .i64 h, B, X, R, D]) rfl rfl (by kernel_rfl) (by kernel_rfl) (by kernel_rfl) (fun _ _ _ h => h) (Or.inl ⟨by rfl, fun w' hSw => ?_⟩) (Ext.drw eX) ?_
    · have z0 := keepAt hSw mz2 HM2.out.1
      have z1 := keepAt hSw mz2 HM2.out.2.1
      have z2 := keepAt hSw mz2 HM2.out.2.2.1
      have z3 := keepAt hSw mz2 HM2.out.2.2.2.1
      have z4 := keepAt hSw mz2 HM2.out.2.2.2.2.1
      have z5 := keepAt hSw mz2 HM2.out.2.2.2.2.2
      try clear hSw
      go_simp
      all_goals (with_reducible rfl)
    try simp only [Act.put, List.setIfInBounds_toArray, List.set_cons_zero, List.set_cons_succ]
    refine take_at 4 (some 18) (.agg #[.int .i64 w, .int .i64 h, B, X, R, D]) rfl rfl (by kernel_rfl) (by kernel_rfl) (by kernel_rfl) (fun _ _ _ h => h) (Or.inl ⟨by rfl, fun w' hSw => ?_⟩) (Ext.drw eX) ?_
    · have z0 := keepAt hSw mz2 HM2.out.1
      have z1 := keepAt hSw mz2 HM2.out.2.1
      have z2 := keepAt hSw mz2 HM2.out.2.2.1
      have z3 := keepAt hSw mz2 HM2.out.2.2.2.1
      have z4 := keepAt hSw mz2 HM2.out.2.2.2.2.1
      have z5 := keepAt hSw mz2 HM2.out.2.2.2.2.2
      try clear hSw
      go_simp
      all_goals (with_reducible rfl)
    try simp only [Act.put, List.setIfInBounds_toArray, List.set_cons_zero, List.set_cons_succ]
    refine wpAnyH_ready (rs := [3]) (by kernel_rfl) (by simp) ?_
    refine AllReadyH.cons rfl (fun K hK => ?_) AllReadyH.nil
    go_simp
    refine (stageOf_any c (-5000) (.agg #[.int .i64 w, .int .i64 h, B, X, R, D]) _ (HV.out.ext (HB.out.trans (HX.out.trans (Ext.drw eX)))) HVC.out (by omega) (by omega)).mono ?_
    rintro e v3 ⟨g3, N3, M3, rfl, hg3, hG3, hM3, hb3⟩
    have e3 : Ext w2 v3 := (Ext.drw eX).trans hb3
    rw [← HNB.out] at hG3 ⊢
    have hG3b : Bl v3 (.slice (some ⟨g3, 0, none⟩) nb N3) nb (fun v => decide (-5000 ≤ P v)) := hG3.congr fun v hv => HP.out (-5000) (by omega) (by omega) M3 hM3 v (by rw [← HNB.out]; exact hv)
    try go_wp2_with fail
    refine hK.out _ _ e3 (fun _ => ?_)
    clear hK K
    try simp only [Act.put, List.setIfInBounds_toArray, List.set_cons_zero, List.set_cons_succ]
    have hne3 : g3 ≠ g := by have : w3.heap.size ≤ g3 := hg3; omega
    have HG3 : Hid (Bg g v3 (.slice (some ⟨g3, 0, none⟩) nb N3) nb (fun v => decide (-5000 ≤ P v))) := Lib.hid ⟨hG3b, fun A m c e b off e2 => by
      injection e with e; rw [← e] at e2; injection e2 with e2; injection e2 with e2; omega⟩
    have HBI3 := Lib.hid (HY1.out.1.ext ((Ext.drw (Ext.refl w3)).trans hb3))
    have zv3 : g < v3.heap.size := Bk.lt HBI3.out
    clear hG3 hM3 hG3b hg3
    refine wpAnyH_ready (rs := [5]) (by kernel_rfl) (by simp) ?_
    refine AllReadyH.cons rfl (fun K hK => ?_) AllReadyH.nil
    go_simp
    refine (stageOf_any c (5001) (.agg #[.int .i64 w, .int .i64 h, B, X, R, D]) _ (HV.out.ext (HB.out.trans (HX.out.trans (e3)))) HVC.out (by omega) (by omega)).mono ?_
    rintro e v5 ⟨g5, N5, M5, rfl, hg5, hG5, hM5, hb5⟩
    have e5 : Ext w2 v5 := (e3).trans hb5
    rw [← HNB.out] at hG5 ⊢
    have hG5b : Bl v5 (.slice (some ⟨g5, 0, none⟩) nb N5) nb (fun v => decide (5001 ≤ P v)) := hG5.congr fun v hv => HP.out (5001) (by omega) (by omega) M5 hM5 v (by rw [← HNB.out]; exact hv)
    try go_wp2_with fail
    refine hK.out _ _ e5 (fun _ => ?_)
    clear hK K
    try simp only [Act.put, List.setIfInBounds_toArray, List.set_cons_zero, List.set_cons_succ]
    have hne5 : g5 ≠ g := by omega
    have HG5 : Hid (Bg g v5 (.slice (some ⟨g5, 0, none⟩) nb N5) nb (fun v => decide (5001 ≤ P v))) := Lib.hid ⟨hG5b, fun A m c e b off e2 => by
      injection e with e; rw [← e] at e2; injection e2 with e2; injection e2 with e2; omega⟩
    have HBI5 := Lib.hid (HBI3.out.ext hb5)
    replace HG3 := Lib.hid (HG3.out.kp (Kp.of g hb5))
    clear hG5 hM5 hG5b hg5
    refine wpAnyH_ready (rs := [6]) (by kernel_rfl) (by simp) ?_
    refine AllReadyH.cons rfl (fun K hK => ?_) AllReadyH.nil
    go_simp
    refine (settle_any c P HVC.out HP.out 10001 (-5000) 5001 g nb (fun _ => 0) (.agg #[.int .i64 w, .int .i64 h, B, X, R, D]) _ _ w2 _ HNB.out (by omega) (by omega) (by omega) (by omega) (HV.out.ext (HB.out.trans HX.out)) e5 hgw HBI5.out HG3.out HG5.out).mono ?_
    rintro e v6 ⟨⟨r6, rfl⟩, hbi6, hk6⟩
    have e6 : Ext w2 v6 := hk6.ext e5 hgw
    try go_wp2_with fail
    refine hK.out _ _ e6 (fun _ => ?_)
    clear hK K
    try simp only [Act.put, List.setIfInBounds_toArray, List.set_cons_zero, List.set_cons_succ]
    have HB6 : Hid (BI v6 g nb P) := Lib.hid (Bk.congr hbi6 fun j hj => by
      have h1 := HBD.out j (by rw [← HNB.out]; exact hj)
      unfold setP; rw [if_pos (by omega)])
    refine wpAnyH_done (by kernel_rfl) ?_ _
    refine NoPanic.normal ?_
    have EX := Lib.hid (HB.out.trans (HX.out.trans e6))
    clear eX e3 e5 e6 hb3 hb5 hk6 hbi6
    go_wp2
    refine bodyPost_ret (v := .tuple #[.slice (some ⟨g, 0, none⟩) nb nb, .int .i64 0]) (by simp [results, Try.results43, go_sem]) rfl ⟨_, 0, rfl, EX.out, .inr ⟨HVC.out, rfl, P, HP.out, by rw [← HNB.out]; exact HB6.out.il (by omega)⟩⟩
end Go.Proofs.Ytilcbbdmenknfaa
namespace Go.Proofs.Ytilcbbdmenknfaa
open Go.RowKit

set_option maxHeartbeats 4000000 in
set_option maxRecDepth 100000 in
theorem pricesR_any (c : Cl) (V : Value) (W : World) (hV : Kl W V c) (hvc : vCl c = true) :
    Calls Try.prog 45 #[V] W fun e W' => ∃ (F : Value) (er : Int), e = .returned (.tuple #[F, .int .i64 er]) ∧ Ext W W' ∧ ∃ P, Prc c P ∧ Il W' F c.nb P := by
  have HV := Lib.hid hV
  obtain ⟨P, hP⟩ := prc_ex hvc
  have HP := Lib.hid hP
  have HVC := Lib.hid hvc
  have hfacts := vCl_ok hvc
  have hnb36 : c.nb ≤ 36 := by
    obtain ⟨⟨v1, v2⟩, ⟨v3, v4⟩, ⟨v5, -⟩, -⟩ := hfacts
    have h1 := (side_prod (show 0 ≤ c.w by omega) v2 (show 0 ≤ c.h by omega) v4).2
    omega
  have hbd : ∀ v, v < c.nb → -1000 ≤ P v ∧ P v ≤ 1000 := fun v hv2 => hP.bd hvc hv2
  have HBD := Lib.hid hbd
  obtain ⟨B, X, R, D, rfl, -, -, -, -⟩ := hV
  obtain ⟨w, hw⟩ : ∃ w, w = c.w := ⟨_, rfl⟩
  obtain ⟨h, hh⟩ : ∃ h, h = c.h := ⟨_, rfl⟩
  obtain ⟨nb, hnb⟩ : ∃ n, n = c.nb := ⟨_, rfl⟩
  have hwh : w * h = (nb : Int) := by rw [hw, hh, hnb]; exact hfacts.2.2.1.1.symm
  rw [← hw, ← hh] at HV ⊢
  rw [← hnb] at hnb36
  have HNB := Lib.hid hnb
  have hm2 : ∀ w, (Instr.makeSlice 33 (.int .i64 (nb : Int)) (.int .i64 (nb : Int))).run Try.prog w = .ok (.slice (some ⟨w.heap.size, 0, none⟩) nb nb) (w.alloc (.cells (Array.ofFn fun _ : Fin nb => .int .i64 0) 3)) := fun w => make_one 33 3 _ 8 Try.underlying33 info3 rfl (by omega) nb (by omega) w
  clear hw hh hvc hP hfacts hbd hnb
  go_enter Try.func45, Try.ntmps45
  go_upto_region 1 with fail
  have bb := al1 W (.cells #[.int .i64 w, .int .i64 h, B, X, R, D] 68)
  obtain ⟨m0, m1, m2, m3, m4, m5, mz, -⟩ := six (heap_alloc_new W (.cells #[.int .i64 w, .int .i64 h, B, X, R, D] 68))
  generalize W.alloc (.cells #[.int .i64 w, .int .i64 h, B, X, R, D] 68) = W1 at *
  have HB : Hid (Ext W W1) := Lib.hid bb
  have HM := Lib.hid (And.intro m0 (And.intro m1 (And.intro m2 (And.intro m3 (And.intro m4 m5)))))
  clear bb
  go_wp2_with fail
  refine (wovenR_any c _ _ (HV.out.ext HB.out)).mono ?_
  rintro e w2 ⟨rfl, hx⟩
  rw [HVC.out]
  have HX : Hid (Ext W1 w2) := Lib.hid hx
  clear hx m0 m1 m2 m3 m4 m5
  have m0 := keepAt HX.out mz HM.out.1
  have m1 := keepAt HX.out mz HM.out.2.1
  have m2 := keepAt HX.out mz HM.out.2.2.1
  have m3 := keepAt HX.out mz HM.out.2.2.2.1
  have m4 := keepAt HX.out mz HM.out.2.2.2.2.1
  have m5 := keepAt HX.out mz HM.out.2.2.2.2.2
  go_upto_region 4 with fail
  obtain ⟨g, hg⟩ : ∃ g, g = w2.heap.size := ⟨_, rfl⟩
  have y1 : BI (w2.alloc (.cells (Array.ofFn fun _ : Fin nb => Value.int .i64 0) 3)) g nb (fun _ => 0) := by rw [hg]; exact heap_alloc_new w2 _
  have e1 : Ext w2 (w2.alloc (.cells (Array.ofFn fun _ : Fin nb => Value.int .i64 0) 3)) := Ext.alc (Ext.refl _) _
  rw [← hg]
  have hgw : w2.heap.size ≤ g := by omega
  have HBI := Lib.hid y1
  have HX3 : Hid (Ext w2 (w2.alloc (.cells (Array.ofFn fun _ : Fin nb => Value.int .i64 0) 3))) := Lib.hid e1
  clear y1 e1 hg m0 m1 m2 m3 m4 m5
  generalize w2.alloc (.cells (Array.ofFn fun _ : Fin nb => Value.int .i64 0) 3) = w3 at *
  have m0 := keepAt (HX.out.trans HX3.out) mz HM.out.1
  have m1 := keepAt (HX.out.trans HX3.out) mz HM.out.2.1
  have m2 := keepAt (HX.out.trans HX3.out) mz HM.out.2.2.1
  have m3 := keepAt (HX.out.trans HX3.out) mz HM.out.2.2.2.1
  have m4 := keepAt (HX.out.trans HX3.out) mz HM.out.2.2.2.2.1
  have m5 := keepAt (HX.out.trans HX3.out) mz HM.out.2.2.2.2.2
  go_wp2_with fail
  refine (labelsR_own c (-5001) (.agg #[.int .i64 w, .int .i64 h, B, X, R, D]) _ (HV.out.ext (HB.out.trans (HX.out.trans HX3.out))) HVC.out (by omega) (by omega)).mono ?_
  clear m0 m1 m2 m3 m4 m5
  rintro e w4 ⟨F4, G4, L4, M4, rfl, hF, hG, hL, hM, hx, hown⟩
  rw [← HNB.out] at hF hG
  have hMb : ∀ v, v < nb → M4 v = decide (-5001 ≤ P v) := fun v hv => HP.out (-5001) (by omega) (by omega) M4 hM v (by rw [← HNB.out]; exact hv)
  have zg4 : g < w3.heap.size := Bk.lt HBI.out
  have HG4 : Hid (Bg g w4 G4 nb (fun v => decide (-5001 ≤ P v))) := Lib.hid ⟨hG.congr hMb, fun A m c e b off e2 => by
    have := hown b (by rw [e, e2]; rfl)
    omega⟩
  have HX4 : Hid (Ext w2 w4) := Lib.hid (HX3.out.trans hx)
  obtain ⟨AF4, cF4, rfl, -, -, -⟩ := hF
  obtain ⟨AG4, cG4, rfl, -, -, -⟩ := hG
  replace HBI := Lib.hid (HBI.out.ext hx)
  clear hL hM hx hown hMb
  have m0 := keepAt (HX.out.trans HX4.out) mz HM.out.1
  have m1 := keepAt (HX.out.trans HX4.out) mz HM.out.2.1
  have m2 := keepAt (HX.out.trans HX4.out) mz HM.out.2.2.1
  have m3 := keepAt (HX.out.trans HX4.out) mz HM.out.2.2.2.1
  have m4 := keepAt (HX.out.trans HX4.out) mz HM.out.2.2.2.2.1
  have m5 := keepAt (HX.out.trans HX4.out) mz HM.out.2.2.2.2.2
  go_wp2_with fail
  refine (labelsR_own c (5001) (.agg #[.int .i64 w, .int .i64 h, B, X, R, D]) _ (HV.out.ext (HB.out.trans (HX.out.trans HX4.out))) HVC.out (by omega) (by omega)).mono ?_
  clear m0 m1 m2 m3 m4 m5
  rintro e w5 ⟨F5, G5, L5, M5, rfl, hF, hG, hL, hM, hx, hown⟩
  rw [← HNB.out] at hF hG
  have hMb : ∀ v, v < nb → M5 v = decide (5001 ≤ P v) := fun v hv => HP.out (5001) (by omega) (by omega) M5 hM v (by rw [← HNB.out]; exact hv)
  have zg5 : g < w4.heap.size := Bk.lt HBI.out
  have HG5 : Hid (Bg g w5 G5 nb (fun v => decide (5001 ≤ P v))) := Lib.hid ⟨hG.congr hMb, fun A m c e b off e2 => by
    have := hown b (by rw [e, e2]; rfl)
    omega⟩
  have HX5 : Hid (Ext w2 w5) := Lib.hid (HX4.out.trans hx)
  obtain ⟨AF5, cF5, rfl, -, -, -⟩ := hF
  obtain ⟨AG5, cG5, rfl, -, -, -⟩ := hG
  replace HBI := Lib.hid (HBI.out.ext hx)
  replace HG4 := Lib.hid (HG4.out.kp (Kp.of g hx))
  clear hL hM hx hown hMb
  have m0 := keepAt (HX.out.trans HX5.out) mz HM.out.1
  have m1 := keepAt (HX.out.trans HX5.out) mz HM.out.2.1
  have m2 := keepAt (HX.out.trans HX5.out) mz HM.out.2.2.1
  have m3 := keepAt (HX.out.trans HX5.out) mz HM.out.2.2.2.1
  have m4 := keepAt (HX.out.trans HX5.out) mz HM.out.2.2.2.2.1
  have m5 := keepAt (HX.out.trans HX5.out) mz HM.out.2.2.2.2.2
  go_wp2_with fail
  refine (search_any c P HVC.out HP.out 10002 (-5001) 5001 g nb (fun _ => 0) (.agg #[.int .i64 w, .int .i64 h, B, X, R, D]) _ _ w2 _ HNB.out (by omega) (by omega) (by omega) (by omega) (HV.out.ext (HB.out.trans HX.out)) HX5.out hgw HBI.out HG4.out HG5.out).mono ?_
  clear m0 m1 m2 m3 m4 m5
  rintro e w6 ⟨⟨r6, rfl⟩, hbi6, hk6⟩
  have HB6 : Hid (BI w6 g nb P) := Lib.hid (Bk.congr hbi6 fun j hj => by
    have h1 := HBD.out j (by rw [← HNB.out]; exact hj)
    unfold setP; rw [if_pos (by omega)])
  have EX := Lib.hid (HB.out.trans (HX.out.trans (hk6.ext HX5.out hgw)))
  clear hbi6 hk6
  go_wp2
  refine bodyPost_ret (v := .tuple #[.slice (some ⟨g, 0, none⟩) nb nb, .int .i64 0]) (by simp [results, Try.results45, go_sem]) rfl ⟨_, 0, rfl, EX.out, P, HP.out, by rw [← HNB.out]; exact HB6.out.il (by omega)⟩

theorem prc_one {c : Cl} (hc : vCl c = true) {P Q : Nat → Int} (hP : Prc c P) (hQ : Prc c Q) : ∀ v, v < c.nb → P v = Q v := by
  intro v hv
  have hg : ∀ r : Int, -10000 ≤ r → r ≤ 10000 → (r ≤ P v ↔ r ≤ Q v) := fun r h1 h2 => by
    obtain ⟨L, hL⟩ := gst_ex (c.nwa r).nw (nwa_c0 hc (by omega) (by omega)) (c.nb + 2) (s := c.nb) (t := c.nb + 1) (by omega)
    have a := hP r h1 h2 L hL v hv
    have b := hQ r h1 h2 L hL v hv
    rw [a] at b
    exact decide_eq_decide.1 b
  have p1 := hP.bd hc hv
  have q1 := hQ.bd hc hv
  have h1 := hg (P v) (by omega) (by omega)
  have h2 := hg (Q v) (by omega) (by omega)
  omega

set_option maxHeartbeats 4000000 in
set_option maxRecDepth 100000 in
theorem equalI_any (n : Nat) (x : Nat → Int) (U V : Value) (W : World) (hU : Il W U n x) (hV : Il W V n x) (hn : n ≤ 100000) :
    Calls Try.prog 46 #[U, V] W fun e W' => e = .returned (.bool true) ∧ Ext W W' := by
  have HU := Lib.hid hU; have HV := Lib.hid hV
  obtain ⟨A1, c1, rfl, hc1, hd1, -⟩ := hU
  obtain ⟨A2, c2, rfl, hc2, hd2, -⟩ := hV
  go_enter Try.func46, Try.ntmps46
  go_wp2_with fail
  go_loopw [13] (fun i wr => ∃ k : Nat, i = .int .i64 k ∧ k ≤ n ∧ Hid (Ext W wr)) (fun i _ => n - (intOf i).toNat)
  case atStart => exact ⟨0, rfl, Nat.zero_le _, Lib.hid (Ext.refl _)⟩
  case round =>
    obtain ⟨k, rfl, hk, hin⟩ := hrel
    by_cases hlt : k < n
    · obtain ⟨b1, o1, rfl, -, e1⟩ := Vl.at HU.out hin.out hlt
      obtain ⟨b2, o2, rfl, -, e2⟩ := Vl.at HV.out hin.out hlt
      obtain ⟨p, hp⟩ : ∃ p, p = x k := ⟨_, rfl⟩
      rw [← hp] at e1 e2
      have e1d : wr.drew.cell? ⟨b1, o1 + k, none⟩ = some (.int .i64 p) := e1
      have e2d : wr.drew.cell? ⟨b2, o2 + k, none⟩ = some (.int .i64 p) := e2
      have hpp : (p != p) = false := by simp
      clear hp e1 e2
      go_upto_region 6 with fail
      go_region
      clear e1d e2d
      go_wp2
      go_roundw
      case rel => exact ⟨k + 1, by go_num, by omega, Lib.hid (hin.out.drw)⟩
      case measure => simp [intOf]; omega
    · obtain rfl : k = n := by omega
      go_wp2
      go_ret
      exact ⟨rfl, hin.out⟩
end Go.Proofs.Ytilcbbdmenknfaa
