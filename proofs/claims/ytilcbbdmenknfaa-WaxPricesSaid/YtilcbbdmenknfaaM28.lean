/- Walks: the reference's Energy. · Walks: the reference's Value. · Walks: the reference's Least and Greatest. -/
import Derived.Test.YtilcbbdmenknfaaM26
import Derived.Test.YtilcbbdmenknfaaM13
import Derived.Test.YtilcbbdmenknfaaM24
import Derived.Test.YtilcbbdmenknfaaM19
import Derived.Test.YtilcbbdmenknfaaM14
import Derived.Test.YtilcbbdmenknfaaM25
namespace Go.Proofs.Ytilcbbdmenknfaa
open Go.RowKit

set_option maxHeartbeats 4000000 in
set_option maxRecDepth 100000 in
theorem energyR_walk (c : Cl) (ri : Int) (n : Nat) (l : Nat → Bool) (V LV : Value) (W : World) (hV : Kl W V c) (hL : Bl W LV n l) (hvc : vCl c = true) (hr1 : -10000 ≤ ri) (hr2 : ri ≤ 10000) (hnn : n = c.nb) :
    Calls Try.prog 70 #[V, .int .i64 ri, LV] W fun e W' => e = .returned (.int .i64 (c.en ri l)) ∧ Ext W W' := by
  have HL := Lib.hid hL
  obtain ⟨AL, cL, rfl, hcL, hdL, -⟩ := hL
  obtain ⟨c', hc'⟩ : ∃ c', c' = c := ⟨_, rfl⟩
  have HVC : Hid (vCl c' = true) := Lib.hid (by rw [hc']; exact hvc)
  clear hvc
  rw [← hc']
  have HV : Hid (Kl W V c') := Lib.hid (by rw [hc']; exact hV)
  obtain ⟨B, X, R, D, rfl, hB, hX, -, -⟩ := hV
  obtain ⟨w, h, nb, b, nx, x, nr, r, nd, d⟩ := c
  dsimp only at hB hX hnn ⊢
  have HBX := Lib.hid (And.intro hB hX)
  have HN : Hid (c'.w = w ∧ c'.h = h ∧ c'.nb = nb ∧ c'.nx = nx ∧ c'.b = b ∧ c'.x = x) := by rw [hc']; exact Lib.hid ⟨rfl, rfl, rfl, rfl, rfl, rfl⟩
  clear hc'
  obtain ⟨AB, cB, rfl, hcB, hdB, -⟩ := hB
  obtain ⟨AX, cX, rfl, hcX, hdX, -⟩ := hX
  go_enter Try.func70, Try.ntmps70
  go_upto_region 1 with fail
  have bb := al1 W (.cells #[.int .i64 w, .int .i64 h, .slice AB nb cB, .slice AX nx cX, R, D] 68)
  obtain ⟨m0, m1, m2, m3, m4, m5, mz, -⟩ := six (heap_alloc_new W (.cells #[.int .i64 w, .int .i64 h, .slice AB nb cB, .slice AX nx cX, R, D] 68))
  generalize W.alloc (.cells #[.int .i64 w, .int .i64 h, .slice AB nb cB, .slice AX nx cX, R, D] 68) = W1 at *
  have HB : Hid (Ext W W1) := Lib.hid bb
  have HM := Lib.hid (And.intro m0 (And.intro m1 (And.intro m2 (And.intro m3 (And.intro m4 m5)))))
  have HX : Hid (Ext W1 W1) := Lib.hid (Ext.refl _)
  clear bb m0 m1 m2 m3 m4 m5
  obtain ⟨⟨v1, v2⟩, ⟨v3, v4⟩, ⟨v5, v6⟩, ⟨v7, v8⟩, ⟨v9, -⟩, ⟨v11, -⟩⟩ := vCl_ok HVC.out
  have hnb36 : nb ≤ 36 := by
    have h1 := (side_prod (show 0 ≤ c'.w by omega) v2 (show 0 ≤ c'.h by omega) v4).2
    have h2 := HN.out.2.2.1
    omega
  have hnr30 : c'.nr ≤ 30 := by have h1 := (side_prod (show 0 ≤ c'.w - 1 by omega) (show c'.w - 1 ≤ 5 by omega) (show 0 ≤ c'.h by omega) v4).2; omega
  have hnd30 : c'.nd ≤ 30 := by have h1 := (side_prod (show 0 ≤ c'.w by omega) v2 (show 0 ≤ c'.h - 1 by omega) (show c'.h - 1 ≤ 5 by omega)).2; omega
  have hnx : nx = nb := by
    have h2 := HN.out.2.2.1; have h3 := HN.out.2.2.2.1
    omega
  have HNX := Lib.hid hnx
  have hdt : ∀ k, k < nb → -11000 ≤ c'.dt ri l k ∧ c'.dt ri l k ≤ 11000 := by
    intro k hk
    have h2 := HN.out.2.2.1; have h3 := HN.out.2.2.2.1
    have h5 := v6 k (by omega); have h6 := v8 k (by omega)
    unfold Cl.dt
    split <;> omega
  have hpt : ∀ k, k < c'.prs.n → -11000 ≤ c'.pt l k ∧ c'.pt l k ≤ 11000 := by
    intro k hk
    obtain ⟨u, v, -, -, -, -, h5, h6⟩ := prs_in HVC.out hk
    unfold Cl.pt
    split <;> omega
  have hprn : c'.prs.n ≤ 60 := by show c'.nr + c'.nd ≤ 60; omega
  have HSM : Hid (∀ k, k ≤ nb → -(11000 * (k : Int)) ≤ sm k (c'.dt ri l) ∧ sm k (c'.dt ri l) ≤ 11000 * (k : Int)) := Lib.hid fun k hk => sm_abs fun i hi => hdt i (by omega)
  have HSP : Hid (∀ k, k ≤ c'.prs.n → -(11000 * (k : Int)) ≤ sm k (c'.pt l) ∧ sm k (c'.pt l) ≤ 11000 * (k : Int)) := Lib.hid fun k hk => sm_abs fun i hi => hpt i (by omega)
  clear v1 v2 v3 v4 v5 v6 v7 v8 v9 v11 hnr30 hnd30 hdt hpt
  subst hnn
  obtain rfl : nx = n := HNX.out
  try clear hnx
  clear HNX
  go_wp2_with fail
  go_loopw [7, 14] (fun z i wr => ∃ k : Nat, i = .int .i64 k ∧ k ≤ nx ∧ z = .int .i64 (sm k (c'.dt ri l)) ∧ Hid (Ext W1 wr)) (fun _ i _ => nx - (intOf i).toNat)
  case atStart => exact ⟨0, rfl, Nat.zero_le _, rfl, HX⟩
  case round =>
    obtain ⟨k, rfl, hk, rfl, hin⟩ := hrel
    obtain ⟨y, hy⟩ : ∃ y, y = sm k (c'.dt ri l) := ⟨_, rfl⟩
    have hsm := HSM.out k hk
    rw [← hy] at hsm ⊢
    obtain ⟨hsm1, hsm2⟩ := hsm
    have hy1 : -400000 ≤ y := by omega
    have hy2 : y ≤ 400000 := by omega
    have HYY := Lib.hid hy
    clear hy hsm1 hsm2
    by_cases hlt : k < nx
    · obtain ⟨bl_, ol, rfl, -, eL⟩ := Vl.at HL.out (HB.out.trans hin.out) hlt
      have hcb := (vCl_ok HVC.out).2.2.1.2 k (by rw [HN.out.2.2.1]; exact hlt)
      have hcx := (vCl_ok HVC.out).2.2.2.1.2 k (by rw [HN.out.2.2.2.1]; exact hlt)
      rw [HN.out.2.2.2.2.1] at hcb
      rw [HN.out.2.2.2.2.2] at hcx
      obtain ⟨b1, b2⟩ := hcb
      obtain ⟨x1, x2⟩ := hcx
      have hsu : sm (k + 1) (c'.dt ri l) = y + (if l k = true then x k + ri else b k) := by
        show sm k (c'.dt ri l) + c'.dt ri l k = _
        rw [← HYY.out]; unfold Cl.dt; rw [HN.out.2.2.2.2.1, HN.out.2.2.2.2.2]
      have HSU := Lib.hid hsu
      clear hsu
      cases hl : l k
      · have HLK := Lib.hid hl
        rw [hl] at eL
        obtain ⟨bB, oB, rfl, -, eB⟩ := Vl.at HBX.out.1 (HB.out.trans hin.out) hlt
        have m2 := keepAt hin.out mz HM.out.2.2.1
        obtain ⟨p, hp⟩ : ∃ p, p = b k := ⟨_, rfl⟩
        rw [← hp] at eB b1 b2
        have HP := Lib.hid hp
        clear hp hl
        go_wp2
        go_roundw
        case rel => exact ⟨k + 1, by go_num, by omega, by rw [HSU.out, HLK.out, HP.out]; simp, Lib.hid hin.out⟩
        case measure => simp [intOf]; omega
      · have HLK := Lib.hid hl
        rw [hl] at eL
        obtain ⟨bX, oX, rfl, -, eX⟩ := Vl.at HBX.out.2 (HB.out.trans hin.out) hlt
        have m3 := keepAt hin.out mz HM.out.2.2.2.1
        obtain ⟨p, hp⟩ : ∃ p, p = x k := ⟨_, rfl⟩
        rw [← hp] at eX x1 x2
        have HP := Lib.hid hp
        clear hp hl
        go_wp2
        go_roundw
        case rel => exact ⟨k + 1, by go_num, by omega, by rw [HSU.out, HLK.out, HP.out]; simp, Lib.hid hin.out⟩
        case measure => simp [intOf]; omega
    · obtain rfl : nx = k := by omega
      have hnl : ¬ (nx : Int) < nx := by omega
      obtain ⟨wo, rfl⟩ : ∃ w, w = wr := ⟨_, rfl⟩
      have HO := hin
      clear hin
      have m0 := keepAt HO.out mz HM.out.1
      have m1 := keepAt HO.out mz HM.out.2.1
      have m2 := keepAt HO.out mz HM.out.2.2.1
      have m3 := keepAt HO.out mz HM.out.2.2.2.1
      have m4 := keepAt HO.out mz HM.out.2.2.2.2.1
      have m5 := keepAt HO.out mz HM.out.2.2.2.2.2
      go_wp2_with fail
      refine (pairsR_any c' _ _ (HV.out.ext (HB.out.trans HO.out)) HVC.out).mono ?_
      clear m0 m1 m2 m3 m4 m5
      rintro e w3 ⟨U, rfl, hal, hx⟩
      have HAL := Lib.hid hal
      obtain ⟨AU, cU, rfl, hcU, hdU, -⟩ := hal
      have H3 : Hid (Ext W1 w3) := Lib.hid (HO.out.trans hx)
      clear hx
      obtain ⟨np, hnp⟩ : ∃ np, np = c'.prs.n := ⟨_, rfl⟩
      rw [← hnp] at hcU hprn ⊢
      have HNP := Lib.hid hnp
      clear hnp
      go_wp2_with fail
      go_loopw [7, 40] (fun z i wr => ∃ k : Nat, i = .int .i64 k ∧ k ≤ np ∧ z = .int .i64 (y + sm k (c'.pt l)) ∧ Hid (Ext w3 wr)) (fun _ i _ => np - (intOf i).toNat)
      case atStart => exact ⟨0, rfl, Nat.zero_le _, by simp [sm], Lib.hid (Ext.refl _)⟩
      case round =>
        obtain ⟨k, rfl, hk2, rfl, hin⟩ := hrel
        obtain ⟨y2, hy2'⟩ : ∃ y2, y2 = y + sm k (c'.pt l) := ⟨_, rfl⟩
        have hsm := HSP.out k (by rw [← HNP.out]; exact hk2)
        have hya : -2000000 ≤ y2 := by omega
        have hyb : y2 ≤ 2000000 := by omega
        rw [← hy2']
        have HY2 := Lib.hid hy2'
        clear hsm hy2'
        by_cases hlt2 : k < np
        · obtain ⟨bU, oU, rfl, d1, d2, d3⟩ := HAL.out.arc hin.out (by rw [← HNP.out]; exact hlt2)
          obtain ⟨u, v, hu, hv, hun, hvn, p1, p2⟩ := prs_in HVC.out (k := k) (by rw [← HNP.out]; exact hlt2)
          rw [HN.out.2.2.1] at hun hvn
          obtain ⟨p, hp⟩ : ∃ p, p = c'.prs.c k := ⟨_, rfl⟩
          rw [hu] at d1
          rw [hv] at d2
          rw [← hp] at d3 p1 p2
          have hsu : sm (k + 1) (c'.pt l) = sm k (c'.pt l) + (if l u = l v then 0 else p) := by
            show sm k (c'.pt l) + c'.pt l k = _
            unfold Cl.pt; rw [hu, hv, Int.toNat_natCast, Int.toNat_natCast, ← hp]
          have HSU := Lib.hid hsu
          obtain ⟨bl_, ol, rfl, _, eu⟩ := Vl.at HL.out ((HB.out.trans (H3.out.trans hin.out)).alc (.cells #[.int .i64 u, .int .i64 v, .int .i64 p] 126)) hun
          obtain ⟨bl2, ol2, e3, _, ev⟩ := Vl.at HL.out ((HB.out.trans (H3.out.trans hin.out)).alc (.cells #[.int .i64 u, .int .i64 v, .int .i64 p] 126)) hvn
          injection e3 with e3
          injection e3 with e3 e4
          subst e3 e4
          clear hu hv hp hsu
          go_upto_region 12 with fail
          have b0 : (wr.alloc (.cells #[.int .i64 u, .int .i64 v, .int .i64 p] 126)).cell? ⟨wr.heap.size, 0, none⟩ = some (.int .i64 u) := by rw [World.cell?_alloc_new]; rfl
          have b1 : (wr.alloc (.cells #[.int .i64 u, .int .i64 v, .int .i64 p] 126)).cell? ⟨wr.heap.size, 1, none⟩ = some (.int .i64 v) := by rw [World.cell?_alloc_new]; rfl
          have b2 : (wr.alloc (.cells #[.int .i64 u, .int .i64 v, .int .i64 p] 126)).cell? ⟨wr.heap.size, 2, none⟩ = some (.int .i64 p) := by rw [World.cell?_alloc_new]; rfl
          have ee := hin.out.alc (.cells #[.int .i64 u, .int .i64 v, .int .i64 p] 126)
          generalize wr.alloc (.cells #[.int .i64 u, .int .i64 v, .int .i64 p] 126) = w4 at *
          have HE4 := Lib.hid ee
          have f0 : w4.drew.cell? ⟨wr.heap.size, 0, none⟩ = some (.int .i64 u) := b0
          have f1 : w4.drew.cell? ⟨wr.heap.size, 1, none⟩ = some (.int .i64 v) := b1
          have f2 : w4.drew.cell? ⟨wr.heap.size, 2, none⟩ = some (.int .i64 p) := b2
          obtain ⟨su, hsu⟩ : ∃ x, x = l u := ⟨_, rfl⟩
          obtain ⟨sv, hsv⟩ : ∃ x, x = l v := ⟨_, rfl⟩
          rw [← hsu] at eu
          rw [← hsv] at ev
          have HUV := Lib.hid (And.intro hsu hsv)
          have eud : w4.drew.cell? ⟨bl_, ol + u, none⟩ = some (.bool su) := eu
          have evd : w4.drew.cell? ⟨bl_, ol + v, none⟩ = some (.bool sv) := ev
          clear b0 b1 b2 ee hsu hsv eu ev d1 d2 d3
          by_cases huv : su = sv
          · subst huv
            have hne : (su != su) = false := by cases su <;> rfl
            go_region
            go_wp2
            go_roundw
            case rel => exact ⟨k + 1, by go_num, by omega, by rw [HY2.out, HSU.out, ← HUV.out.1, ← HUV.out.2, if_pos rfl, Int.add_zero], Lib.hid HE4.out.drw⟩
            case measure => simp [intOf]; omega
          · have hne : (!(su == sv)) = true := by cases su <;> cases sv <;> simp_all
            go_region
            go_wp2
            go_roundw
            case rel => exact ⟨k + 1, by go_num, by omega, by rw [HY2.out, HSU.out, ← HUV.out.1, ← HUV.out.2, if_neg huv, Int.add_assoc], Lib.hid HE4.out.drw⟩
            case measure => simp [intOf]; omega
        · obtain rfl : np = k := by omega
          go_wp2
          go_ret
          have he : y2 = c'.en ri l := by
            rw [HY2.out, HYY.out, HNP.out]
            unfold Cl.en
            rw [HN.out.2.2.1]
          rw [← he]
          exact ⟨rfl, HB.out.trans (H3.out.trans hin.out)⟩

set_option maxHeartbeats 4000000 in
set_option maxRecDepth 100000 in
theorem energyR_any (c : Cl) (ri : Int) (n : Nat) (l : Nat → Bool) (V LV : Value) (W : World) (hV : Kl W V c) (hL : Bl W LV n l) :
    Calls Try.prog 40 #[V, .int .i64 ri, LV] W fun e W' => ∃ (v er : Int), e = .returned (.tuple #[.int .i64 v, .int .i64 er]) ∧ Ext W W' ∧
      (((vCl c && bw ri (-10000) 10000) = false ∧ v = 0 ∧ er = 2) ∨ ((vCl c && bw ri (-10000) 10000) = true ∧ n ≠ c.nb ∧ v = 0 ∧ er = 3) ∨ ((vCl c && bw ri (-10000) 10000) = true ∧ n = c.nb ∧ er = 0 ∧ v = c.en ri l)) := by
  have HL := Lib.hid hL
  obtain ⟨AL, cL, rfl, hcL, hdL, -⟩ := hL
  have HV := Lib.hid hV
  obtain ⟨B, X, R, D, rfl, -, -, -, -⟩ := hV
  obtain ⟨w, hw⟩ : ∃ w, w = c.w := ⟨_, rfl⟩
  obtain ⟨h, hh⟩ : ∃ h, h = c.h := ⟨_, rfl⟩
  rw [← hw, ← hh] at HV ⊢
  have HWH := Lib.hid (And.intro hw hh)
  clear hw hh
  go_enter Try.func40, Try.ntmps40
  go_upto_region 1 with fail
  have bb := al1 W (.cells #[.int .i64 w, .int .i64 h, B, X, R, D] 68)
  obtain ⟨m0, m1, m2, m3, m4, m5, mz, -⟩ := six (heap_alloc_new W (.cells #[.int .i64 w, .int .i64 h, B, X, R, D] 68))
  generalize W.alloc (.cells #[.int .i64 w, .int .i64 h, B, X, R, D] 68) = W1 at *
  have HB : Hid (Ext W W1) := Lib.hid bb
  have HM := Lib.hid (And.intro m0 (And.intro m1 (And.intro m2 (And.intro m3 (And.intro m4 m5)))))
  clear bb
  go_wp2_with fail
  refine (wovenR_any c _ _ (HV.out.ext HB.out)).mono ?_
  rintro e w2 ⟨rfl, hx⟩
  have HX : Hid (Ext W1 w2) := Lib.hid hx
  clear hx m0 m1 m2 m3 m4 m5
  cases hv : vCl c
  · have HV0 := Lib.hid hv
    clear hv
    go_wp2
    refine bodyPost_ret (v := .tuple #[.int .i64 0, .int .i64 2]) (by simp [results, Try.results40, go_sem]) rfl ⟨0, 2, rfl, HB.out.trans HX.out, .inl ⟨by rw [HV0.out]; rfl, rfl, rfl⟩⟩
  · have HVC := Lib.hid hv
    clear hv
    go_wp2_with fail
    refine (rise_any _ _).mono ?_
    rintro e w0 ⟨rfl, rfl⟩
    cases hq : bw ri (-10000) 10000
    · have HQ0 := Lib.hid hq
      clear hq
      go_wp2
      refine bodyPost_ret (v := .tuple #[.int .i64 0, .int .i64 2]) (by simp [results, Try.results40, go_sem]) rfl ⟨0, 2, rfl, HB.out.trans HX.out, .inl ⟨by rw [HQ0.out, Bool.and_false], rfl, rfl⟩⟩
    · obtain ⟨hr1, hr2⟩ := bw_iff.1 hq
      have HOK : Hid ((vCl c && bw ri (-10000) 10000) = true) := Lib.hid (by rw [HVC.out, hq]; rfl)
      clear hq
      have hfacts := vCl_ok HVC.out
      have hnb36 : c.nb ≤ 36 := by
        obtain ⟨⟨v1, v2⟩, ⟨v3, v4⟩, ⟨v5, -⟩, -⟩ := hfacts
        have h1 := (side_prod (show 0 ≤ c.w by omega) v2 (show 0 ≤ c.h by omega) v4).2
        omega
      have hwh : w * h = (c.nb : Int) := by rw [HWH.out.1, HWH.out.2]; exact hfacts.2.2.1.1.symm
      have m0 := keepAt HX.out mz HM.out.1
      have m1 := keepAt HX.out mz HM.out.2.1
      have m2 := keepAt HX.out mz HM.out.2.2.1
      have m3 := keepAt HX.out mz HM.out.2.2.2.1
      have m4 := keepAt HX.out mz HM.out.2.2.2.2.1
      have m5 := keepAt HX.out mz HM.out.2.2.2.2.2
      obtain ⟨nb, hnb⟩ : ∃ nb, nb = c.nb := ⟨_, rfl⟩
      rw [← hnb] at hnb36 hwh
      have HNB := Lib.hid hnb
      clear hfacts hnb
      by_cases hn : n = nb
      · subst hn
        go_wp2_with fail
        refine (energyR_walk c ri n l _ _ _ (HV.out.ext (HB.out.trans HX.out)) (HL.out.ext (HB.out.trans HX.out)) HVC.out hr1 hr2 HNB.out).mono ?_
        rintro e w3 ⟨rfl, hx⟩
        have EX := Lib.hid (HB.out.trans (HX.out.trans hx))
        clear hx m0 m1 m2 m3 m4 m5 hwh
        go_wp2
        refine bodyPost_ret (v := .tuple #[.int .i64 (c.en ri l), .int .i64 0]) (by simp [results, Try.results40, go_sem]) rfl ⟨_, 0, rfl, EX.out, .inr (.inr ⟨HOK.out, HNB.out, rfl, rfl⟩)⟩
      · have hne : ((n : Int) != nb) = true := by simp; omega
        go_wp2
        refine bodyPost_ret (v := .tuple #[.int .i64 0, .int .i64 3]) (by simp [results, Try.results40, go_sem]) rfl ⟨0, 3, rfl, HB.out.trans HX.out, .inr (.inl ⟨HOK.out, fun e => hn (e.trans HNB.out.symm), rfl, rfl⟩)⟩
end Go.Proofs.Ytilcbbdmenknfaa
namespace Go.Proofs.Ytilcbbdmenknfaa
open Go.RowKit

theorem mx_bd {a : Ar} {N : Nat} (h : a.Ok N 1000000) (hn : a.n ≤ 1000) (i j : Nat) : 0 ≤ a.nw.mx i j ∧ a.nw.mx i j ≤ 1000000000 := by
  have h1 := Ar.mxk_bd h (by omega) (Nat.le_refl a.n) i j
  rw [Ar.mxk_end] at h1
  omega
/-- what is left of a matrix shows the least cost of a side -/
theorem Rm.mc {a : Ar} {N s t : Nat} {y : Nat → Nat → Int} {T : Int} {R : Nat → Bool} {la rk : Nat → Nat} (hN : a.nw.In N) (h : Rm N s t a.nw.mx y T) (hw : Wm N s y R la rk) (hR : R t = false) : Mc a.nw s t T := by
  refine ⟨⟨R, ⟨hw.root, hR⟩, ?_⟩, fun S hS => ?_⟩
  · rw [← a.nw.rc_mx hN R]
    exact (h.tight ⟨hw.root, hR⟩).2 hw.closed
  · rw [← a.nw.rc_mx hN S]
    exact h.weak hS

set_option maxHeartbeats 4000000 in
set_option maxRecDepth 100000 in
theorem valueR_any (N : Int) (a : Ar) (AV : Value) (W : World) (hA : Al W AV a) :
    Calls Try.prog 17 #[.agg #[.int .i64 N, AV]] W fun e W' => ∃ v er : Int, e = .returned (.tuple #[.int .i64 v, .int .i64 er]) ∧ Ext W W' ∧
      ((vNet N a = false ∧ v = 0 ∧ er = 2) ∨ (vNet N a = true ∧ er = 0 ∧ Mc a.nw 0 (N.toNat - 1) v)) := by
  have HA := Lib.hid hA
  obtain ⟨A, c, rfl, hac, hcm, -⟩ := hA
  go_enter Try.func17, Try.ntmps17
  go_upto_region 1 with fail
  have bb := al1 W (.cells #[.int .i64 N, .slice A a.n c] 24)
  have hh := heap_alloc_new W (.cells #[.int .i64 N, .slice A a.n c] 24)
  have zz : W.heap.size < (W.alloc (.cells #[.int .i64 N, .slice A a.n c] 24)).heap.size := by simp
  generalize W.alloc (.cells #[.int .i64 N, .slice A a.n c] 24) = W1 at *
  have HB : Hid (Ext W W1) := Lib.hid bb
  obtain ⟨m0, m1, m2, m3⟩ := two hh
  have HM := Lib.hid (And.intro m0 m1)
  clear bb hh m2 m3
  go_wp2_with fail
  refine (validR_any N a _ _ (HA.out.ext HB.out)).mono ?_
  rintro e w1 ⟨rfl, hx⟩
  have HX : Hid (Ext W w1) := Lib.hid (HB.out.trans hx)
  have HY : Hid (Ext W1 w1) := Lib.hid hx
  have mz : W.heap.size < w1.heap.size := Nat.lt_of_lt_of_le zz hx.size
  clear hx m0 m1
  cases hv : vNet N a
  · have HV := Lib.hid hv; clear hv
    go_wp2
    refine bodyPost_ret (v := .tuple #[.int .i64 0, .int .i64 2]) (by simp [results, Try.results17, go_sem]) rfl ⟨0, 2, rfl, HX.out, .inl ⟨HV.out, rfl, rfl⟩⟩
  · obtain ⟨m, rfl, hm2, hm40, hn, hok⟩ := vNet_ok hv
    have HOK := Lib.hid hok; have HV := Lib.hid hv
    obtain ⟨t, ht⟩ : ∃ t, t = m - 1 := ⟨_, rfl⟩
    have ht2 : (m : Int) - 1 = (t : Int) := by omega
    have htN : t < m := by omega
    have h0t : 0 ≠ t := by omega
    have HT := Lib.hid ht
    have HM2 := Lib.hid (And.intro (keepAt HY.out zz HM.out.1) (keepAt HY.out zz HM.out.2))
    clear hv hok ht
    go_upto_region 3 with fail
    refine wp_region_noPanic ?_
    refine wp_region_held_drew (S := fun X => Ext w1 X) (by kernel_rfl) (Ext.drw (Ext.refl _)) (fun _ => ?_)
    refine take_at 0 (some 7) (.agg #[.int .i64 m, .slice A a.n c]) rfl rfl (by kernel_rfl) (by kernel_rfl) (by kernel_rfl) (fun _ _ _ h => h) (Or.inl ⟨by rfl, fun w' hSw => ?_⟩) (Ext.drw (Ext.refl _)) ?_
    · have z0 := keepAt hSw mz HM2.out.1
      have z1 := keepAt hSw mz HM2.out.2
      try clear hSw
      go_simp
      all_goals (with_reducible rfl)
    try simp only [Act.put, List.setIfInBounds_toArray, List.set_cons_zero, List.set_cons_succ]
    refine take_at 2 (some 9) (.pointer (some ⟨W.heap.size, 0, none⟩)) rfl rfl (by kernel_rfl) (by kernel_rfl) (by kernel_rfl) (fun _ _ _ h => h) (Or.inl ⟨by rfl, fun w' hSw => ?_⟩) (Ext.drw (Ext.refl _)) ?_
    · skip
      try clear hSw
      go_simp
      all_goals (with_reducible rfl)
    try simp only [Act.put, List.setIfInBounds_toArray, List.set_cons_zero, List.set_cons_succ]
    refine take_at 3 (some 10) (.int .i64 m) rfl rfl (by kernel_rfl) (by kernel_rfl) (by kernel_rfl) (fun _ _ _ h => h) (Or.inl ⟨by rfl, fun w' hSw => ?_⟩) (Ext.drw (Ext.refl _)) ?_
    · have z0 := keepAt hSw mz HM2.out.1
      have z1 := keepAt hSw mz HM2.out.2
      try clear hSw
      go_simp
      all_goals (with_reducible rfl)
    try simp only [Act.put, List.setIfInBounds_toArray, List.set_cons_zero, List.set_cons_succ]
    refine take_at 4 (some 11) (.int .i64 t) rfl rfl (by kernel_rfl) (by kernel_rfl) (by kernel_rfl) (fun _ _ _ h => h) (Or.inl ⟨by rfl, fun w' hSw => ?_⟩) (Ext.drw (Ext.refl _)) ?_
    · skip
      try clear hSw
      go_simp
      all_goals (first | (with_reducible rfl) | exact IntWalk.i64_in _ (by omega))
    try simp only [Act.put, List.setIfInBounds_toArray, List.set_cons_zero, List.set_cons_succ]
    refine wpAnyH_ready (rs := [1]) (by kernel_rfl) (by simp) ?_
    refine AllReadyH.cons rfl (fun K hK => ?_) AllReadyH.nil
    go_simp
    refine (capacities_any a m _ _ (HA.out.ext (HX.out.trans (Ext.drw (Ext.refl _)))) HOK.out (by omega) (by omega)).mono ?_
    rintro e v1 ⟨b, rfl, hb, hgd, hb1⟩
    have e1 : Ext w1 v1 := (Ext.drw (Ext.refl _)).trans hb1
    try go_wp2_with fail
    refine hK.out _ _ e1 (fun _ => ?_)
    clear hK K
    try simp only [Act.put, List.setIfInBounds_toArray, List.set_cons_zero, List.set_cons_succ]
    have HGD := Lib.hid hgd
    clear hgd
    refine wpAnyH_ready (rs := [5]) (by kernel_rfl) (by simp) ?_
    refine AllReadyH.cons rfl (fun K hK => ?_) AllReadyH.nil
    go_simp
    refine (greatestR_any b m 0 t a.nw.mx 1000000000 w1 _ HGD.out (by omega) (by omega) htN h0t (fun i j _ _ => mx_bd HOK.out (by omega) i j) (by omega) (by omega) e1 hb).mono ?_
    rintro e v5 ⟨T, y, R, la, rk, rfl, hgd2, hrm, hwm, hR, e5⟩
    try go_wp2_with fail
    refine hK.out _ _ e5 (fun _ => ?_)
    clear hK K
    try simp only [Act.put, List.setIfInBounds_toArray, List.set_cons_zero, List.set_cons_succ]
    have HMC := Lib.hid (hrm.mc HOK.out.in_ hwm hR)
    clear hgd2 hrm hwm hR
    refine take_at 6 (some 2) (.int .i64 T) rfl rfl (by kernel_rfl) (by kernel_rfl) (by kernel_rfl) (fun _ _ _ h => h) (Or.inl ⟨by rfl, fun w' hSw => ?_⟩) (e5) ?_
    · skip
      try clear hSw
      go_simp
      all_goals (with_reducible rfl)
    try simp only [Act.put, List.setIfInBounds_toArray, List.set_cons_zero, List.set_cons_succ]
    refine take_at 7 (some 3) (.int .i64 0) rfl rfl (by kernel_rfl) (by kernel_rfl) (by kernel_rfl) (fun _ _ _ h => h) (Or.inl ⟨by rfl, fun w' hSw => ?_⟩) (e5) ?_
    · skip
      try clear hSw
      go_simp
      all_goals (with_reducible rfl)
    try simp only [Act.put, List.setIfInBounds_toArray, List.set_cons_zero, List.set_cons_succ]
    refine wpAnyH_done (by kernel_rfl) ?_ _
    refine NoPanic.normal ?_
    have EX := Lib.hid (HX.out.trans e5)
    clear e1 e5 hb1
    go_wp2
    refine bodyPost_ret (v := .tuple #[.int .i64 T, .int .i64 0]) (by simp [results, Try.results17, go_sem]) rfl ⟨T, 0, rfl, EX.out, .inr ⟨HV.out, rfl, ?_⟩⟩
    rw [Int.toNat_natCast, ← HT.out]
    exact HMC.out
end Go.Proofs.Ytilcbbdmenknfaa
namespace Go.Proofs.Ytilcbbdmenknfaa
open Go.RowKit

set_option maxHeartbeats 4000000 in
set_option maxRecDepth 100000 in
theorem leastR_any (N : Int) (a : Ar) (AV : Value) (W : World) (hA : Al W AV a) :
    Calls Try.prog 24 #[.agg #[.int .i64 N, AV]] W fun e W' => ∃ (F : Value) (er : Int), e = .returned (.tuple #[F, .int .i64 er]) ∧ Ext W W' ∧
      ((vNet N a = false ∧ F = .slice none 0 0 ∧ er = 2) ∨ (vNet N a = true ∧ er = 0 ∧ ∃ L, Bl W' F N.toNat L ∧ Lst a.nw N.toNat 0 (N.toNat - 1) L)) := by
  have HA := Lib.hid hA
  obtain ⟨A, c, rfl, hac, hcm, -⟩ := hA
  go_enter Try.func24, Try.ntmps24
  go_upto_region 1 with fail
  have bb := al1 W (.cells #[.int .i64 N, .slice A a.n c] 24)
  have hh := heap_alloc_new W (.cells #[.int .i64 N, .slice A a.n c] 24)
  have zz : W.heap.size < (W.alloc (.cells #[.int .i64 N, .slice A a.n c] 24)).heap.size := by simp
  generalize W.alloc (.cells #[.int .i64 N, .slice A a.n c] 24) = W1 at *
  have HB : Hid (Ext W W1) := Lib.hid bb
  obtain ⟨m0, m1, m2, m3⟩ := two hh
  have HM := Lib.hid (And.intro m0 m1)
  clear bb hh m2 m3
  go_wp2_with fail
  refine (validR_any N a _ _ (HA.out.ext HB.out)).mono ?_
  rintro e w1 ⟨rfl, hx⟩
  have HX : Hid (Ext W w1) := Lib.hid (HB.out.trans hx)
  have HY : Hid (Ext W1 w1) := Lib.hid hx
  have mz : W.heap.size < w1.heap.size := Nat.lt_of_lt_of_le zz hx.size
  clear hx m0 m1
  cases hv : vNet N a
  · have HV := Lib.hid hv; clear hv
    go_wp2
    refine bodyPost_ret (v := .tuple #[.slice none 0 0, .int .i64 2]) (by simp [results, Try.results24, go_sem]) rfl ⟨.slice none 0 0, 2, rfl, HX.out, .inl ⟨HV.out, rfl, rfl⟩⟩
  · obtain ⟨m, rfl, hm2, hm40, hn, hok⟩ := vNet_ok hv
    have HOK := Lib.hid hok; have HV := Lib.hid hv
    obtain ⟨t, ht⟩ : ∃ t, t = m - 1 := ⟨_, rfl⟩
    have ht2 : (m : Int) - 1 = (t : Int) := by omega
    have htN : t < m := by omega
    have h0t : 0 ≠ t := by omega
    have HT := Lib.hid ht
    have HM2 := Lib.hid (And.intro (keepAt HY.out zz HM.out.1) (keepAt HY.out zz HM.out.2))
    clear hv hok ht
    go_upto_region 3 with fail
    refine wp_region_noPanic ?_
    refine wp_region_held_drew (S := fun X => Ext w1 X) (by kernel_rfl) (Ext.drw (Ext.refl _)) (fun _ => ?_)
    refine take_at 0 (some 10) (.agg #[.int .i64 m, .slice A a.n c]) rfl rfl (by kernel_rfl) (by kernel_rfl) (by kernel_rfl) (fun _ _ _ h => h) (Or.inl ⟨by rfl, fun w' hSw => ?_⟩) (Ext.drw (Ext.refl _)) ?_
    · have z0 := keepAt hSw mz HM2.out.1
      have z1 := keepAt hSw mz HM2.out.2
      try clear hSw
      go_simp
      all_goals (with_reducible rfl)
    try simp only [Act.put, List.setIfInBounds_toArray, List.set_cons_zero, List.set_cons_succ]
    refine take_at 2 (some 12) (.pointer (some ⟨W.heap.size, 0, none⟩)) rfl rfl (by kernel_rfl) (by kernel_rfl) (by kernel_rfl) (fun _ _ _ h => h) (Or.inl ⟨by rfl, fun w' hSw => ?_⟩) (Ext.drw (Ext.refl _)) ?_
    · skip
      try clear hSw
      go_simp
      all_goals (with_reducible rfl)
    try simp only [Act.put, List.setIfInBounds_toArray, List.set_cons_zero, List.set_cons_succ]
    refine take_at 3 (some 13) (.int .i64 m) rfl rfl (by kernel_rfl) (by kernel_rfl) (by kernel_rfl) (fun _ _ _ h => h) (Or.inl ⟨by rfl, fun w' hSw => ?_⟩) (Ext.drw (Ext.refl _)) ?_
    · have z0 := keepAt hSw mz HM2.out.1
      have z1 := keepAt hSw mz HM2.out.2
      try clear hSw
      go_simp
      all_goals (with_reducible rfl)
    try simp only [Act.put, List.setIfInBounds_toArray, List.set_cons_zero, List.set_cons_succ]
    refine take_at 4 (some 14) (.int .i64 t) rfl rfl (by kernel_rfl) (by kernel_rfl) (by kernel_rfl) (fun _ _ _ h => h) (Or.inl ⟨by rfl, fun w' hSw => ?_⟩) (Ext.drw (Ext.refl _)) ?_
    · skip
      try clear hSw
      go_simp
      all_goals (first | (with_reducible rfl) | exact IntWalk.i64_in _ (by omega))
    try simp only [Act.put, List.setIfInBounds_toArray, List.set_cons_zero, List.set_cons_succ]
    refine wpAnyH_ready (rs := [1]) (by kernel_rfl) (by simp) ?_
    refine AllReadyH.cons rfl (fun K hK => ?_) AllReadyH.nil
    go_simp
    refine (capacities_any a m _ _ (HA.out.ext (HX.out.trans (Ext.drw (Ext.refl _)))) HOK.out (by omega) (by omega)).mono ?_
    rintro e v1 ⟨b, rfl, hb, hgd, hb1⟩
    have e1 : Ext w1 v1 := (Ext.drw (Ext.refl _)).trans hb1
    try go_wp2_with fail
    refine hK.out _ _ e1 (fun _ => ?_)
    clear hK K
    try simp only [Act.put, List.setIfInBounds_toArray, List.set_cons_zero, List.set_cons_succ]
    have HGD := Lib.hid hgd
    clear hgd
    refine wpAnyH_ready (rs := [5]) (by kernel_rfl) (by simp) ?_
    refine AllReadyH.cons rfl (fun K hK => ?_) AllReadyH.nil
    go_simp
    refine (ends_any b m 0 t a.nw.mx 1000000000 w1 _ HGD.out (by omega) (by omega) htN h0t (fun i j _ _ => mx_bd HOK.out (by omega) i j) (by omega) (by omega) e1 hb).mono ?_
    rintro e v5 ⟨F, G, T, y, R, Q, la, rk, la2, rk2, rfl, hrm, hwm, hR, hwm2, hF, hG, e5⟩
    try go_wp2_with fail
    refine hK.out _ _ e5 (fun _ => ?_)
    clear hK K
    try simp only [Act.put, List.setIfInBounds_toArray, List.set_cons_zero, List.set_cons_succ]
    have HMC := Lib.hid (And.intro hF (hrm.lst (G := a.nw) (fun S _ => a.nw.rc_mx HOK.out.in_ S) hwm hR))
    clear hrm hwm hR hwm2 hF hG
    refine take_at 6 (some 9) (.tuple #[F, G]) rfl rfl (by kernel_rfl) (by kernel_rfl) (by kernel_rfl) (fun _ _ _ h => h) (Or.inl ⟨by rfl, fun w' hSw => ?_⟩) (e5) ?_
    · skip
      try clear hSw
      go_simp
      all_goals (with_reducible rfl)
    try simp only [Act.put, List.setIfInBounds_toArray, List.set_cons_zero, List.set_cons_succ]
    refine take_at 7 (some 16) (F) rfl rfl (by kernel_rfl) (by kernel_rfl) (by kernel_rfl) (fun _ _ _ h => h) (Or.inl ⟨by rfl, fun w' hSw => ?_⟩) (e5) ?_
    · skip
      try clear hSw
      go_simp
      all_goals (with_reducible rfl)
    try simp only [Act.put, List.setIfInBounds_toArray, List.set_cons_zero, List.set_cons_succ]
    refine take_at 8 (some 17) (G) rfl rfl (by kernel_rfl) (by kernel_rfl) (by kernel_rfl) (fun _ _ _ h => h) (Or.inl ⟨by rfl, fun w' hSw => ?_⟩) (e5) ?_
    · skip
      try clear hSw
      go_simp
      all_goals (with_reducible rfl)
    try simp only [Act.put, List.setIfInBounds_toArray, List.set_cons_zero, List.set_cons_succ]
    refine take_at 9 (some 4) (F) rfl rfl (by kernel_rfl) (by kernel_rfl) (by kernel_rfl) (fun _ _ _ h => h) (Or.inl ⟨by rfl, fun w' hSw => ?_⟩) (e5) ?_
    · skip
      try clear hSw
      go_simp
      all_goals (with_reducible rfl)
    try simp only [Act.put, List.setIfInBounds_toArray, List.set_cons_zero, List.set_cons_succ]
    refine take_at 10 (some 5) (G) rfl rfl (by kernel_rfl) (by kernel_rfl) (by kernel_rfl) (fun _ _ _ h => h) (Or.inl ⟨by rfl, fun w' hSw => ?_⟩) (e5) ?_
    · skip
      try clear hSw
      go_simp
      all_goals (with_reducible rfl)
    try simp only [Act.put, List.setIfInBounds_toArray, List.set_cons_zero, List.set_cons_succ]
    refine wpAnyH_done (by kernel_rfl) ?_ _
    refine NoPanic.normal ?_
    have EX := Lib.hid (HX.out.trans e5)
    clear e1 e5 hb1
    go_wp2
    refine bodyPost_ret (v := .tuple #[F, .int .i64 0]) (by simp [results, Try.results24, go_sem]) rfl ⟨F, 0, rfl, EX.out, .inr ⟨HV.out, rfl, _, by rw [Int.toNat_natCast]; exact HMC.out.1, ?_⟩⟩
    rw [Int.toNat_natCast, ← HT.out]
    exact HMC.out.2

set_option maxHeartbeats 4000000 in
set_option maxRecDepth 100000 in
theorem greatestR27_any (N : Int) (a : Ar) (AV : Value) (W : World) (hA : Al W AV a) :
    Calls Try.prog 27 #[.agg #[.int .i64 N, AV]] W fun e W' => ∃ (F : Value) (er : Int), e = .returned (.tuple #[F, .int .i64 er]) ∧ Ext W W' ∧
      ((vNet N a = false ∧ F = .slice none 0 0 ∧ er = 2) ∨ (vNet N a = true ∧ er = 0 ∧ ∃ L, Bl W' F N.toNat L ∧ Gst a.nw N.toNat 0 (N.toNat - 1) L)) := by
  have HA := Lib.hid hA
  obtain ⟨A, c, rfl, hac, hcm, -⟩ := hA
  go_enter Try.func27, Try.ntmps27
  go_upto_region 1 with fail
  have bb := al1 W (.cells #[.int .i64 N, .slice A a.n c] 24)
  have hh := heap_alloc_new W (.cells #[.int .i64 N, .slice A a.n c] 24)
  have zz : W.heap.size < (W.alloc (.cells #[.int .i64 N, .slice A a.n c] 24)).heap.size := by simp
  generalize W.alloc (.cells #[.int .i64 N, .slice A a.n c] 24) = W1 at *
  have HB : Hid (Ext W W1) := Lib.hid bb
  obtain ⟨m0, m1, m2, m3⟩ := two hh
  have HM := Lib.hid (And.intro m0 m1)
  clear bb hh m2 m3
  go_wp2_with fail
  refine (validR_any N a _ _ (HA.out.ext HB.out)).mono ?_
  rintro e w1 ⟨rfl, hx⟩
  have HX : Hid (Ext W w1) := Lib.hid (HB.out.trans hx)
  have HY : Hid (Ext W1 w1) := Lib.hid hx
  have mz : W.heap.size < w1.heap.size := Nat.lt_of_lt_of_le zz hx.size
  clear hx m0 m1
  cases hv : vNet N a
  · have HV := Lib.hid hv; clear hv
    go_wp2
    refine bodyPost_ret (v := .tuple #[.slice none 0 0, .int .i64 2]) (by simp [results, Try.results27, go_sem]) rfl ⟨.slice none 0 0, 2, rfl, HX.out, .inl ⟨HV.out, rfl, rfl⟩⟩
  · obtain ⟨m, rfl, hm2, hm40, hn, hok⟩ := vNet_ok hv
    have HOK := Lib.hid hok; have HV := Lib.hid hv
    obtain ⟨t, ht⟩ : ∃ t, t = m - 1 := ⟨_, rfl⟩
    have ht2 : (m : Int) - 1 = (t : Int) := by omega
    have htN : t < m := by omega
    have h0t : 0 ≠ t := by omega
    have HT := Lib.hid ht
    have HM2 := Lib.hid (And.intro (keepAt HY.out zz HM.out.1) (keepAt HY.out zz HM.out.2))
    clear hv hok ht
    go_upto_region 3 with fail
    refine wp_region_noPanic ?_
    refine wp_region_held_drew (S := fun X => Ext w1 X) (by kernel_rfl) (Ext.drw (Ext.refl _)) (fun _ => ?_)
    refine take_at 0 (some 10) (.agg #[.int .i64 m, .slice A a.n c]) rfl rfl (by kernel_rfl) (by kernel_rfl) (by kernel_rfl) (fun _ _ _ h => h) (Or.inl ⟨by rfl, fun w' hSw => ?_⟩) (Ext.drw (Ext.refl _)) ?_
    · have z0 := keepAt hSw mz HM2.out.1
      have z1 := keepAt hSw mz HM2.out.2
      try clear hSw
      go_simp
      all_goals (with_reducible rfl)
    try simp only [Act.put, List.setIfInBounds_toArray, List.set_cons_zero, List.set_cons_succ]
    refine take_at 2 (some 12) (.pointer (some ⟨W.heap.size, 0, none⟩)) rfl rfl (by kernel_rfl) (by kernel_rfl) (by kernel_rfl) (fun _ _ _ h => h) (Or.inl ⟨by rfl, fun w' hSw => ?_⟩) (Ext.drw (Ext.refl _)) ?_
    · skip
      try clear hSw
      go_simp
      all_goals (with_reducible rfl)
    try simp only [Act.put, List.setIfInBounds_toArray, List.set_cons_zero, List.set_cons_succ]
    refine take_at 3 (some 13) (.int .i64 m) rfl rfl (by kernel_rfl) (by kernel_rfl) (by kernel_rfl) (fun _ _ _ h => h) (Or.inl ⟨by rfl, fun w' hSw => ?_⟩) (Ext.drw (Ext.refl _)) ?_
    · have z0 := keepAt hSw mz HM2.out.1
      have z1 := keepAt hSw mz HM2.out.2
      try clear hSw
      go_simp
      all_goals (with_reducible rfl)
    try simp only [Act.put, List.setIfInBounds_toArray, List.set_cons_zero, List.set_cons_succ]
    refine take_at 4 (some 14) (.int .i64 t) rfl rfl (by kernel_rfl) (by kernel_rfl) (by kernel_rfl) (fun _ _ _ h => h) (Or.inl ⟨by rfl, fun w' hSw => ?_⟩) (Ext.drw (Ext.refl _)) ?_
    · skip
      try clear hSw
      go_simp
      all_goals (first | (with_reducible rfl) | exact IntWalk.i64_in _ (by omega))
    try simp only [Act.put, List.setIfInBounds_toArray, List.set_cons_zero, List.set_cons_succ]
    refine wpAnyH_ready (rs := [1]) (by kernel_rfl) (by simp) ?_
    refine AllReadyH.cons rfl (fun K hK => ?_) AllReadyH.nil
    go_simp
    refine (capacities_any a m _ _ (HA.out.ext (HX.out.trans (Ext.drw (Ext.refl _)))) HOK.out (by omega) (by omega)).mono ?_
    rintro e v1 ⟨b, rfl, hb, hgd, hb1⟩
    have e1 : Ext w1 v1 := (Ext.drw (Ext.refl _)).trans hb1
    try go_wp2_with fail
    refine hK.out _ _ e1 (fun _ => ?_)
    clear hK K
    try simp only [Act.put, List.setIfInBounds_toArray, List.set_cons_zero, List.set_cons_succ]
    have HGD := Lib.hid hgd
    clear hgd
    refine wpAnyH_ready (rs := [5]) (by kernel_rfl) (by simp) ?_
    refine AllReadyH.cons rfl (fun K hK => ?_) AllReadyH.nil
    go_simp
    refine (ends_any b m 0 t a.nw.mx 1000000000 w1 _ HGD.out (by omega) (by omega) htN h0t (fun i j _ _ => mx_bd HOK.out (by omega) i j) (by omega) (by omega) e1 hb).mono ?_
    rintro e v5 ⟨F, G, T, y, R, Q, la, rk, la2, rk2, rfl, hrm, hwm, hR, hwm2, hF, hG, e5⟩
    try go_wp2_with fail
    refine hK.out _ _ e5 (fun _ => ?_)
    clear hK K
    try simp only [Act.put, List.setIfInBounds_toArray, List.set_cons_zero, List.set_cons_succ]
    have HMC := Lib.hid (And.intro hG (hrm.gst (G := a.nw) (by omega) (fun S _ => a.nw.rc_mx HOK.out.in_ S) hwm hR hwm2))
    clear hrm hwm hR hwm2 hF hG
    refine take_at 6 (some 9) (.tuple #[F, G]) rfl rfl (by kernel_rfl) (by kernel_rfl) (by kernel_rfl) (fun _ _ _ h => h) (Or.inl ⟨by rfl, fun w' hSw => ?_⟩) (e5) ?_
    · skip
      try clear hSw
      go_simp
      all_goals (with_reducible rfl)
    try simp only [Act.put, List.setIfInBounds_toArray, List.set_cons_zero, List.set_cons_succ]
    refine take_at 7 (some 16) (F) rfl rfl (by kernel_rfl) (by kernel_rfl) (by kernel_rfl) (fun _ _ _ h => h) (Or.inl ⟨by rfl, fun w' hSw => ?_⟩) (e5) ?_
    · skip
      try clear hSw
      go_simp
      all_goals (with_reducible rfl)
    try simp only [Act.put, List.setIfInBounds_toArray, List.set_cons_zero, List.set_cons_succ]
    refine take_at 8 (some 17) (G) rfl rfl (by kernel_rfl) (by kernel_rfl) (by kernel_rfl) (fun _ _ _ h => h) (Or.inl ⟨by rfl, fun w' hSw => ?_⟩) (e5) ?_
    · skip
      try clear hSw
      go_simp
      all_goals (with_reducible rfl)
    try simp only [Act.put, List.setIfInBounds_toArray, List.set_cons_zero, List.set_cons_succ]
    refine take_at 9 (some 4) (F) rfl rfl (by kernel_rfl) (by kernel_rfl) (by kernel_rfl) (fun _ _ _ h => h) (Or.inl ⟨by rfl, fun w' hSw => ?_⟩) (e5) ?_
    · skip
      try clear hSw
      go_simp
      all_goals (with_reducible rfl)
    try simp only [Act.put, List.setIfInBounds_toArray, List.set_cons_zero, List.set_cons_succ]
    refine take_at 10 (some 5) (G) rfl rfl (by kernel_rfl) (by kernel_rfl) (by kernel_rfl) (fun _ _ _ h => h) (Or.inl ⟨by rfl, fun w' hSw => ?_⟩) (e5) ?_
    · skip
      try clear hSw
      go_simp
      all_goals (with_reducible rfl)
    try simp only [Act.put, List.setIfInBounds_toArray, List.set_cons_zero, List.set_cons_succ]
    refine wpAnyH_done (by kernel_rfl) ?_ _
    refine NoPanic.normal ?_
    have EX := Lib.hid (HX.out.trans e5)
    clear e1 e5 hb1
    go_wp2
    refine bodyPost_ret (v := .tuple #[G, .int .i64 0]) (by simp [results, Try.results27, go_sem]) rfl ⟨G, 0, rfl, EX.out, .inr ⟨HV.out, rfl, _, by rw [Int.toNat_natCast]; exact HMC.out.1, ?_⟩⟩
    rw [Int.toNat_natCast, ← HT.out]
    exact HMC.out.2
end Go.Proofs.Ytilcbbdmenknfaa
