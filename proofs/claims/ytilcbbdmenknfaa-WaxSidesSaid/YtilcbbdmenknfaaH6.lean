/- Walks: Energy. -/
import Derived.Test.YtilcbbdmenknfaaH5
namespace Go.Proofs.Ytilcbbdmenknfaa
open Go.RowKit

set_option maxHeartbeats 4000000 in
set_option maxRecDepth 100000 in
theorem energy_any (c : Cl) (ri : Int) (n : Nat) (l : Nat → Bool) (V LV : Value) (W : World) (hV : Kl W V c) (hL : Bl W LV n l) :
    Calls Try.prog 38 #[V, .int .i64 ri, LV] W fun e W' => ∃ (v er : Int), e = .returned (.tuple #[.int .i64 v, .int .i64 er]) ∧ Ext W W' ∧
      (((vCl c && bw ri (-10000) 10000) = false ∧ er = 2) ∨ ((vCl c && bw ri (-10000) 10000) = true ∧ n ≠ c.nb ∧ er = 3) ∨ ((vCl c && bw ri (-10000) 10000) = true ∧ n = c.nb ∧ er = 0 ∧ v = c.en ri l)) := by
  have HL := Lib.hid hL
  obtain ⟨AL, cL, rfl, hcL, hdL, -⟩ := hL
  obtain ⟨c', hc'⟩ : ∃ c', c' = c := ⟨_, rfl⟩
  rw [← hc']
  have HV : Hid (Kl W V c') := Lib.hid (by rw [hc']; exact hV)
  obtain ⟨B, X, R, D, rfl, hB, hX, -, -⟩ := hV
  obtain ⟨w, h, nb, b, nx, x, nr, r, nd, d⟩ := c
  dsimp only at hB hX ⊢
  have HBX := Lib.hid (And.intro hB hX)
  have HN : Hid (c'.w = w ∧ c'.h = h ∧ c'.nb = nb ∧ c'.nx = nx ∧ c'.b = b ∧ c'.x = x) := by rw [hc']; exact Lib.hid ⟨rfl, rfl, rfl, rfl, rfl, rfl⟩
  clear hc'
  obtain ⟨AB, cB, rfl, hcB, hdB, -⟩ := hB
  obtain ⟨AX, cX, rfl, hcX, hdX, -⟩ := hX
  go_enter Try.func38, Try.ntmps38
  go_upto_region 1 with fail
  have bb := al1 W (.cells #[.int .i64 w, .int .i64 h, .slice AB nb cB, .slice AX nx cX, R, D] 70)
  obtain ⟨m0, m1, m2, m3, m4, m5, mz, -⟩ := six (heap_alloc_new W (.cells #[.int .i64 w, .int .i64 h, .slice AB nb cB, .slice AX nx cX, R, D] 70))
  generalize W.alloc (.cells #[.int .i64 w, .int .i64 h, .slice AB nb cB, .slice AX nx cX, R, D] 70) = W1 at *
  have HB : Hid (Ext W W1) := Lib.hid bb
  have HM := Lib.hid (And.intro m0 (And.intro m1 (And.intro m2 (And.intro m3 (And.intro m4 m5)))))
  clear bb
  go_wp2_with fail
  refine (isCloth_any c' _ _ (HV.out.ext HB.out)).mono ?_
  rintro e w2 ⟨rfl, hx⟩
  have HX : Hid (Ext W1 w2) := Lib.hid hx
  clear hx m2 m3 m4 m5
  replace m0 := keepAt HX.out mz m0
  replace m1 := keepAt HX.out mz m1
  cases hv : vCl c'
  · have HV0 := Lib.hid hv
    clear hv
    go_wp2
    refine bodyPost_ret (v := .tuple #[.int .i64 0, .int .i64 2]) (by simp [results, Try.results38, go_sem]) rfl ⟨0, 2, rfl, HB.out.trans HX.out, .inl ⟨by rw [HV0.out]; rfl, rfl⟩⟩
  · have HVC := Lib.hid hv
    clear hv
    go_wp2_with fail
    refine (isBetween_bw _ _ _ _).mono ?_
    rintro e w0 ⟨rfl, rfl⟩
    cases hq : bw ri (-10000) 10000
    · have HQ0 := Lib.hid hq
      clear hq
      go_wp2
      refine bodyPost_ret (v := .tuple #[.int .i64 0, .int .i64 2]) (by simp [results, Try.results38, go_sem]) rfl ⟨0, 2, rfl, HB.out.trans HX.out, .inl ⟨by rw [HQ0.out, Bool.and_false], rfl⟩⟩
    · obtain ⟨hr1, hr2⟩ := bw_iff.1 hq
      have HOK : Hid ((vCl c' && bw ri (-10000) 10000) = true) := Lib.hid (by rw [HVC.out, hq]; rfl)
      clear hq
      obtain ⟨⟨v1, v2⟩, ⟨v3, v4⟩, ⟨v5, v6⟩, ⟨v7, v8⟩, ⟨v9, -⟩, ⟨v11, -⟩⟩ := vCl_ok HVC.out
      have hnb36 : nb ≤ 36 := by
        have h1 := (side_prod (show 0 ≤ c'.w by omega) v2 (show 0 ≤ c'.h by omega) v4).2
        have h2 := HN.out.2.2.1
        omega
      have hnr30 : c'.nr ≤ 30 := by have h1 := (side_prod (show 0 ≤ c'.w - 1 by omega) (show c'.w - 1 ≤ 5 by omega) (show 0 ≤ c'.h by omega) v4).2; omega
      have hnd30 : c'.nd ≤ 30 := by have h1 := (side_prod (show 0 ≤ c'.w by omega) v2 (show 0 ≤ c'.h - 1 by omega) (show c'.h - 1 ≤ 5 by omega)).2; omega
      have hwh : w * h = (nb : Int) := by rw [← HN.out.1, ← HN.out.2.1, ← HN.out.2.2.1]; exact v5.symm
      have hnx : nx = nb := by
        have h2 := HN.out.2.2.1; have h3 := HN.out.2.2.2.1
        omega
      have HNX := Lib.hid hnx
      have hdt : ∀ k, k < nb → -11000 ≤ c'.dt ri l k ∧ c'.dt ri l k ≤ 11000 := by
        intro k hk
        have h2 := HN.out.2.2.1; have h3 := HN.out.2.2.2.1
        have h5 := v6 k (by omega); have h6 := v8 k (by omega)
        unfold Cl.dt
        split <;> omega
      have hpt : ∀ k, k < c'.prs.n → -11000 ≤ c'.pt l k ∧ c'.pt l k ≤ 11000 := by
        intro k hk
        obtain ⟨u, v, -, -, -, -, h5, h6⟩ := prs_in HVC.out hk
        unfold Cl.pt
        split <;> omega
      have hprn : c'.prs.n ≤ 60 := by show c'.nr + c'.nd ≤ 60; omega
      have HSM : Hid (∀ k, k ≤ nb → -(11000 * (k : Int)) ≤ sm k (c'.dt ri l) ∧ sm k (c'.dt ri l) ≤ 11000 * (k : Int)) := Lib.hid fun k hk => sm_abs fun i hi => hdt i (by omega)
      have HSP : Hid (∀ k, k ≤ c'.prs.n → -(11000 * (k : Int)) ≤ sm k (c'.pt l) ∧ sm k (c'.pt l) ≤ 11000 * (k : Int)) := Lib.hid fun k hk => sm_abs fun i hi => hpt i (by omega)
      clear v1 v2 v3 v4 v5 v6 v7 v8 v9 v11 hnr30 hnd30 hdt hpt
      by_cases hn : n = nb
      · subst hn
        obtain rfl : nx = n := HNX.out
        try clear hnx
        clear HNX
        go_wp2_with fail
        clear m0 m1 hwh
        go_loopw [8, 31] (fun z i wr => ∃ k : Nat, i = .int .i64 k ∧ k ≤ nx ∧ z = .int .i64 (sm k (c'.dt ri l)) ∧ Hid (Ext W1 wr)) (fun _ i _ => nx - (intOf i).toNat)
        case atStart => exact ⟨0, rfl, Nat.zero_le _, rfl, HX⟩
        case round =>
          obtain ⟨k, rfl, hk, rfl, hin⟩ := hrel
          obtain ⟨y, hy⟩ : ∃ y, y = sm k (c'.dt ri l) := ⟨_, rfl⟩
          have hsm := HSM.out k hk
          rw [← hy] at hsm ⊢
          obtain ⟨hsm1, hsm2⟩ := hsm
          have hy1 : -400000 ≤ y := by omega
          have hy2 : y ≤ 400000 := by omega
          have HYY := Lib.hid hy
          clear hy hsm1 hsm2
          by_cases hlt : k < nx
          · obtain ⟨bl_, ol, rfl, -, eL⟩ := Vl.at HL.out (HB.out.trans hin.out) hlt
            have hcb := (vCl_ok HVC.out).2.2.1.2 k (by rw [HN.out.2.2.1]; exact hlt)
            have hcx := (vCl_ok HVC.out).2.2.2.1.2 k (by rw [HN.out.2.2.2.1]; exact hlt)
            rw [HN.out.2.2.2.2.1] at hcb
            rw [HN.out.2.2.2.2.2] at hcx
            obtain ⟨b1, b2⟩ := hcb
            obtain ⟨x1, x2⟩ := hcx
            have hsu : sm (k + 1) (c'.dt ri l) = y + (if l k = true then x k + ri else b k) := by
              show sm k (c'.dt ri l) + c'.dt ri l k = _
              rw [← HYY.out]; unfold Cl.dt; rw [HN.out.2.2.2.2.1, HN.out.2.2.2.2.2]
            have HSU := Lib.hid hsu
            clear hsu
            cases hl : l k
            · have HLK := Lib.hid hl
              rw [hl] at eL
              obtain ⟨bB, oB, rfl, -, eB⟩ := Vl.at HBX.out.1 (HB.out.trans hin.out) hlt
              have m2 := keepAt hin.out mz HM.out.2.2.1
              obtain ⟨p, hp⟩ : ∃ p, p = b k := ⟨_, rfl⟩
              rw [← hp] at eB b1 b2
              have HP := Lib.hid hp
              clear hp hl
              go_wp2
              go_roundw
              case rel => exact ⟨k + 1, by go_num, by omega, by rw [HSU.out, HLK.out, HP.out]; simp, Lib.hid hin.out⟩
              case measure => simp [intOf]; omega
            · have HLK := Lib.hid hl
              rw [hl] at eL
              obtain ⟨bX, oX, rfl, -, eX⟩ := Vl.at HBX.out.2 (HB.out.trans hin.out) hlt
              have m3 := keepAt hin.out mz HM.out.2.2.2.1
              obtain ⟨p, hp⟩ : ∃ p, p = x k := ⟨_, rfl⟩
              rw [← hp] at eX x1 x2
              have HP := Lib.hid hp
              clear hp hl
              go_wp2
              go_roundw
              case rel => exact ⟨k + 1, by go_num, by omega, by rw [HSU.out, HLK.out, HP.out]; simp, Lib.hid hin.out⟩
              case measure => simp [intOf]; omega
          · obtain rfl : nx = k := by omega
            have hnl : ¬ (nx : Int) < nx := by omega
            obtain ⟨wo, rfl⟩ : ∃ w, w = wr := ⟨_, rfl⟩
            have HO := hin
            clear hin
            have m0 := keepAt HO.out mz HM.out.1
            have m1 := keepAt HO.out mz HM.out.2.1
            have m2 := keepAt HO.out mz HM.out.2.2.1
            have m3 := keepAt HO.out mz HM.out.2.2.2.1
            have m4 := keepAt HO.out mz HM.out.2.2.2.2.1
            have m5 := keepAt HO.out mz HM.out.2.2.2.2.2
            go_wp2_with fail
            refine (pairs_any c' _ _ (HV.out.ext (HB.out.trans HO.out)) HVC.out).mono ?_
            clear m0 m1 m2 m3 m4 m5
            rintro e w3 ⟨U, rfl, hal, hx⟩
            have HAL := Lib.hid hal
            obtain ⟨AU, cU, rfl, hcU, hdU, -⟩ := hal
            have H3 : Hid (Ext W1 w3) := Lib.hid (HO.out.trans hx)
            clear hx
            obtain ⟨np, hnp⟩ : ∃ np, np = c'.prs.n := ⟨_, rfl⟩
            rw [← hnp] at hcU hprn ⊢
            have HNP := Lib.hid hnp
            clear hnp
            go_wp2_with fail
            go_loopw [8, 57] (fun z i wr => ∃ k : Nat, i = .int .i64 k ∧ k ≤ np ∧ z = .int .i64 (y + sm k (c'.pt l)) ∧ Hid (Ext w3 wr)) (fun _ i _ => np - (intOf i).toNat)
            case atStart => exact ⟨0, rfl, Nat.zero_le _, by simp [sm], Lib.hid (Ext.refl _)⟩
            case round =>
              obtain ⟨k, rfl, hk2, rfl, hin⟩ := hrel
              obtain ⟨y2, hy2'⟩ : ∃ y2, y2 = y + sm k (c'.pt l) := ⟨_, rfl⟩
              have hsm := HSP.out k (by rw [← HNP.out]; exact hk2)
              have hya : -2000000 ≤ y2 := by omega
              have hyb : y2 ≤ 2000000 := by omega
              rw [← hy2']
              have HY2 := Lib.hid hy2'
              clear hsm hy2'
              by_cases hlt2 : k < np
              · obtain ⟨bU, oU, rfl, d1, d2, d3⟩ := HAL.out.arc hin.out (by rw [← HNP.out]; exact hlt2)
                obtain ⟨u, v, hu, hv, hun, hvn, p1, p2⟩ := prs_in HVC.out (k := k) (by rw [← HNP.out]; exact hlt2)
                rw [HN.out.2.2.1] at hun hvn
                obtain ⟨p, hp⟩ : ∃ p, p = c'.prs.c k := ⟨_, rfl⟩
                rw [hu] at d1
                rw [hv] at d2
                rw [← hp] at d3 p1 p2
                have hsu : sm (k + 1) (c'.pt l) = sm k (c'.pt l) + (if l u = l v then 0 else p) := by
                  show sm k (c'.pt l) + c'.pt l k = _
                  unfold Cl.pt; rw [hu, hv, Int.toNat_natCast, Int.toNat_natCast, ← hp]
                have HSU := Lib.hid hsu
                obtain ⟨bl_, ol, rfl, _, eu⟩ := Vl.at HL.out ((HB.out.trans (H3.out.trans hin.out)).alc (.cells #[.int .i64 u, .int .i64 v, .int .i64 p] 65)) hun
                obtain ⟨bl2, ol2, e3, _, ev⟩ := Vl.at HL.out ((HB.out.trans (H3.out.trans hin.out)).alc (.cells #[.int .i64 u, .int .i64 v, .int .i64 p] 65)) hvn
                injection e3 with e3
                injection e3 with e3 e4
                subst e3 e4
                clear hu hv hp hsu
                go_upto_region 16 with fail
                have b0 : (wr.alloc (.cells #[.int .i64 u, .int .i64 v, .int .i64 p] 65)).cell? ⟨wr.heap.size, 0, none⟩ = some (.int .i64 u) := by rw [World.cell?_alloc_new]; rfl
                have b1 : (wr.alloc (.cells #[.int .i64 u, .int .i64 v, .int .i64 p] 65)).cell? ⟨wr.heap.size, 1, none⟩ = some (.int .i64 v) := by rw [World.cell?_alloc_new]; rfl
                have b2 : (wr.alloc (.cells #[.int .i64 u, .int .i64 v, .int .i64 p] 65)).cell? ⟨wr.heap.size, 2, none⟩ = some (.int .i64 p) := by rw [World.cell?_alloc_new]; rfl
                have ee := hin.out.alc (.cells #[.int .i64 u, .int .i64 v, .int .i64 p] 65)
                generalize wr.alloc (.cells #[.int .i64 u, .int .i64 v, .int .i64 p] 65) = w4 at *
                have HE4 := Lib.hid ee
                have f0 : w4.drew.cell? ⟨wr.heap.size, 0, none⟩ = some (.int .i64 u) := b0
                have f1 : w4.drew.cell? ⟨wr.heap.size, 1, none⟩ = some (.int .i64 v) := b1
                have f2 : w4.drew.cell? ⟨wr.heap.size, 2, none⟩ = some (.int .i64 p) := b2
                obtain ⟨su, hsu⟩ : ∃ x, x = l u := ⟨_, rfl⟩
                obtain ⟨sv, hsv⟩ : ∃ x, x = l v := ⟨_, rfl⟩
                rw [← hsu] at eu
                rw [← hsv] at ev
                have HUV := Lib.hid (And.intro hsu hsv)
                have eud : w4.drew.cell? ⟨bl_, ol + u, none⟩ = some (.bool su) := eu
                have evd : w4.drew.cell? ⟨bl_, ol + v, none⟩ = some (.bool sv) := ev
                clear b0 b1 b2 ee hsu hsv eu ev d1 d2 d3
                by_cases huv : su = sv
                · subst huv
                  have hne : (su != su) = false := by cases su <;> rfl
                  go_region
                  go_wp2
                  go_roundw
                  case rel => exact ⟨k + 1, by go_num, by omega, by rw [HY2.out, HSU.out, ← HUV.out.1, ← HUV.out.2, if_pos rfl, Int.add_zero], Lib.hid HE4.out.drw⟩
                  case measure => simp [intOf]; omega
                · have hne : (!(su == sv)) = true := by cases su <;> cases sv <;> simp_all
                  go_region
                  go_wp2
                  go_roundw
                  case rel => exact ⟨k + 1, by go_num, by omega, by rw [HY2.out, HSU.out, ← HUV.out.1, ← HUV.out.2, if_neg huv, Int.add_assoc], Lib.hid HE4.out.drw⟩
                  case measure => simp [intOf]; omega
              · obtain rfl : np = k := by omega
                go_wp2
                refine bodyPost_ret (v := .tuple #[.int .i64 y2, .int .i64 0]) (by simp [results, Try.results38, go_sem]) rfl ⟨y2, 0, rfl, HB.out.trans (H3.out.trans hin.out), .inr (.inr ⟨HOK.out, HN.out.2.2.1.symm, rfl, ?_⟩)⟩
                rw [HY2.out, HYY.out, HNP.out]
                unfold Cl.en
                rw [HN.out.2.2.1]
      · have hne : ((n : Int) != nb) = true := by simp; omega
        go_wp2
        refine bodyPost_ret (v := .tuple #[.int .i64 0, .int .i64 3]) (by simp [results, Try.results38, go_sem]) rfl ⟨0, 3, rfl, HB.out.trans HX.out, .inr (.inl ⟨HOK.out, by rw [HN.out.2.2.1]; exact hn, rfl⟩)⟩
end Go.Proofs.Ytilcbbdmenknfaa
