/- Walks: Energy. · Webs: every arc in both directions: mathematics. · Walks: Value, Flow, awake. · Walks: isWeb, parted. -/
import Derived.Test.YtilcbbdmenknfaaM12
import Derived.Test.YtilcbbdmenknfaaM10
import Derived.Test.YtilcbbdmenknfaaM9
namespace Go.Proofs.Ytilcbbdmenknfaa
open Go.RowKit

set_option maxHeartbeats 4000000 in
set_option maxRecDepth 100000 in
theorem energy_any (c : Cl) (ri : Int) (n : Nat) (l : Nat → Bool) (V LV : Value) (W : World) (hV : Kl W V c) (hL : Bl W LV n l) :
    Calls Try.prog 38 #[V, .int .i64 ri, LV] W fun e W' => ∃ (v er : Int), e = .returned (.tuple #[.int .i64 v, .int .i64 er]) ∧ Ext W W' ∧
      (((vCl c && bw ri (-10000) 10000) = false ∧ v = 0 ∧ er = 2) ∨ ((vCl c && bw ri (-10000) 10000) = true ∧ n ≠ c.nb ∧ v = 0 ∧ er = 3) ∨ ((vCl c && bw ri (-10000) 10000) = true ∧ n = c.nb ∧ er = 0 ∧ v = c.en ri l)) := by
  have HL := Lib.hid hL
  obtain ⟨AL, cL, rfl, hcL, hdL, -⟩ := hL
  obtain ⟨c', hc'⟩ : ∃ c', c' = c := ⟨_, rfl⟩
  rw [← hc']
  have HV : Hid (Kl W V c') := Lib.hid (by rw [hc']; exact hV)
  obtain ⟨B, X, R, D, rfl, hB, hX, -, -⟩ := hV
  obtain ⟨w, h, nb, b, nx, x, nr, r, nd, d⟩ := c
  dsimp only at hB hX ⊢
  have HBX := Lib.hid (And.intro hB hX)
  have HN : Hid (c'.w = w ∧ c'.h = h ∧ c'.nb = nb ∧ c'.nx = nx ∧ c'.b = b ∧ c'.x = x) := by rw [hc']; exact Lib.hid ⟨rfl, rfl, rfl, rfl, rfl, rfl⟩
  clear hc'
  obtain ⟨AB, cB, rfl, hcB, hdB, -⟩ := hB
  obtain ⟨AX, cX, rfl, hcX, hdX, -⟩ := hX
  go_enter Try.func38, Try.ntmps38
  go_upto_region 1 with fail
  have bb := al1 W (.cells #[.int .i64 w, .int .i64 h, .slice AB nb cB, .slice AX nx cX, R, D] 70)
  obtain ⟨m0, m1, m2, m3, m4, m5, mz, -⟩ := six (heap_alloc_new W (.cells #[.int .i64 w, .int .i64 h, .slice AB nb cB, .slice AX nx cX, R, D] 70))
  generalize W.alloc (.cells #[.int .i64 w, .int .i64 h, .slice AB nb cB, .slice AX nx cX, R, D] 70) = W1 at *
  have HB : Hid (Ext W W1) := Lib.hid bb
  have HM := Lib.hid (And.intro m0 (And.intro m1 (And.intro m2 (And.intro m3 (And.intro m4 m5)))))
  clear bb
  go_wp2_with fail
  refine (isCloth_any c' _ _ (HV.out.ext HB.out)).mono ?_
  rintro e w2 ⟨rfl, hx⟩
  have HX : Hid (Ext W1 w2) := Lib.hid hx
  clear hx m2 m3 m4 m5
  replace m0 := keepAt HX.out mz m0
  replace m1 := keepAt HX.out mz m1
  cases hv : vCl c'
  · have HV0 := Lib.hid hv
    clear hv
    go_wp2
    refine bodyPost_ret (v := .tuple #[.int .i64 0, .int .i64 2]) (by simp [results, Try.results38, go_sem]) rfl ⟨0, 2, rfl, HB.out.trans HX.out, .inl ⟨by rw [HV0.out]; rfl, rfl, rfl⟩⟩
  · have HVC := Lib.hid hv
    clear hv
    go_wp2_with fail
    refine (isBetween_bw _ _ _ _).mono ?_
    rintro e w0 ⟨rfl, rfl⟩
    cases hq : bw ri (-10000) 10000
    · have HQ0 := Lib.hid hq
      clear hq
      go_wp2
      refine bodyPost_ret (v := .tuple #[.int .i64 0, .int .i64 2]) (by simp [results, Try.results38, go_sem]) rfl ⟨0, 2, rfl, HB.out.trans HX.out, .inl ⟨by rw [HQ0.out, Bool.and_false], rfl, rfl⟩⟩
    · obtain ⟨hr1, hr2⟩ := bw_iff.1 hq
      have HOK : Hid ((vCl c' && bw ri (-10000) 10000) = true) := Lib.hid (by rw [HVC.out, hq]; rfl)
      clear hq
      obtain ⟨⟨v1, v2⟩, ⟨v3, v4⟩, ⟨v5, v6⟩, ⟨v7, v8⟩, ⟨v9, -⟩, ⟨v11, -⟩⟩ := vCl_ok HVC.out
      have hnb36 : nb ≤ 36 := by
        have h1 := (side_prod (show 0 ≤ c'.w by omega) v2 (show 0 ≤ c'.h by omega) v4).2
        have h2 := HN.out.2.2.1
        omega
      have hnr30 : c'.nr ≤ 30 := by have h1 := (side_prod (show 0 ≤ c'.w - 1 by omega) (show c'.w - 1 ≤ 5 by omega) (show 0 ≤ c'.h by omega) v4).2; omega
      have hnd30 : c'.nd ≤ 30 := by have h1 := (side_prod (show 0 ≤ c'.w by omega) v2 (show 0 ≤ c'.h - 1 by omega) (show c'.h - 1 ≤ 5 by omega)).2; omega
      have hwh : w * h = (nb : Int) := by rw [← HN.out.1, ← HN.out.2.1, ← HN.out.2.2.1]; exact v5.symm
      have hnx : nx = nb := by
        have h2 := HN.out.2.2.1; have h3 := HN.out.2.2.2.1
        omega
      have HNX := Lib.hid hnx
      have hdt : ∀ k, k < nb → -11000 ≤ c'.dt ri l k ∧ c'.dt ri l k ≤ 11000 := by
        intro k hk
        have h2 := HN.out.2.2.1; have h3 := HN.out.2.2.2.1
        have h5 := v6 k (by omega); have h6 := v8 k (by omega)
        unfold Cl.dt
        split <;> omega
      have hpt : ∀ k, k < c'.prs.n → -11000 ≤ c'.pt l k ∧ c'.pt l k ≤ 11000 := by
        intro k hk
        obtain ⟨u, v, -, -, -, -, h5, h6⟩ := prs_in HVC.out hk
        unfold Cl.pt
        split <;> omega
      have hprn : c'.prs.n ≤ 60 := by show c'.nr + c'.nd ≤ 60; omega
      have HSM : Hid (∀ k, k ≤ nb → -(11000 * (k : Int)) ≤ sm k (c'.dt ri l) ∧ sm k (c'.dt ri l) ≤ 11000 * (k : Int)) := Lib.hid fun k hk => sm_abs fun i hi => hdt i (by omega)
      have HSP : Hid (∀ k, k ≤ c'.prs.n → -(11000 * (k : Int)) ≤ sm k (c'.pt l) ∧ sm k (c'.pt l) ≤ 11000 * (k : Int)) := Lib.hid fun k hk => sm_abs fun i hi => hpt i (by omega)
      clear v1 v2 v3 v4 v5 v6 v7 v8 v9 v11 hnr30 hnd30 hdt hpt
      by_cases hn : n = nb
      · subst hn
        obtain rfl : nx = n := HNX.out
        try clear hnx
        clear HNX
        go_wp2_with fail
        clear m0 m1 hwh
        go_loopw [8, 31] (fun z i wr => ∃ k : Nat, i = .int .i64 k ∧ k ≤ nx ∧ z = .int .i64 (sm k (c'.dt ri l)) ∧ Hid (Ext W1 wr)) (fun _ i _ => nx - (intOf i).toNat)
        case atStart => exact ⟨0, rfl, Nat.zero_le _, rfl, HX⟩
        case round =>
          obtain ⟨k, rfl, hk, rfl, hin⟩ := hrel
          obtain ⟨y, hy⟩ : ∃ y, y = sm k (c'.dt ri l) := ⟨_, rfl⟩
          have hsm := HSM.out k hk
          rw [← hy] at hsm ⊢
          obtain ⟨hsm1, hsm2⟩ := hsm
          have hy1 : -400000 ≤ y := by omega
          have hy2 : y ≤ 400000 := by omega
          have HYY := Lib.hid hy
          clear hy hsm1 hsm2
          by_cases hlt : k < nx
          · obtain ⟨bl_, ol, rfl, -, eL⟩ := Vl.at HL.out (HB.out.trans hin.out) hlt
            have hcb := (vCl_ok HVC.out).2.2.1.2 k (by rw [HN.out.2.2.1]; exact hlt)
            have hcx := (vCl_ok HVC.out).2.2.2.1.2 k (by rw [HN.out.2.2.2.1]; exact hlt)
            rw [HN.out.2.2.2.2.1] at hcb
            rw [HN.out.2.2.2.2.2] at hcx
            obtain ⟨b1, b2⟩ := hcb
            obtain ⟨x1, x2⟩ := hcx
            have hsu : sm (k + 1) (c'.dt ri l) = y + (if l k = true then x k + ri else b k) := by
              show sm k (c'.dt ri l) + c'.dt ri l k = _
              rw [← HYY.out]; unfold Cl.dt; rw [HN.out.2.2.2.2.1, HN.out.2.2.2.2.2]
            have HSU := Lib.hid hsu
            clear hsu
            cases hl : l k
            · have HLK := Lib.hid hl
              rw [hl] at eL
              obtain ⟨bB, oB, rfl, -, eB⟩ := Vl.at HBX.out.1 (HB.out.trans hin.out) hlt
              have m2 := keepAt hin.out mz HM.out.2.2.1
              obtain ⟨p, hp⟩ : ∃ p, p = b k := ⟨_, rfl⟩
              rw [← hp] at eB b1 b2
              have HP := Lib.hid hp
              clear hp hl
              go_wp2
              go_roundw
              case rel => exact ⟨k + 1, by go_num, by omega, by rw [HSU.out, HLK.out, HP.out]; simp, Lib.hid hin.out⟩
              case measure => simp [intOf]; omega
            · have HLK := Lib.hid hl
              rw [hl] at eL
              obtain ⟨bX, oX, rfl, -, eX⟩ := Vl.at HBX.out.2 (HB.out.trans hin.out) hlt
              have m3 := keepAt hin.out mz HM.out.2.2.2.1
              obtain ⟨p, hp⟩ : ∃ p, p = x k := ⟨_, rfl⟩
              rw [← hp] at eX x1 x2
              have HP := Lib.hid hp
              clear hp hl
              go_wp2
              go_roundw
              case rel => exact ⟨k + 1, by go_num, by omega, by rw [HSU.out, HLK.out, HP.out]; simp, Lib.hid hin.out⟩
              case measure => simp [intOf]; omega
          · obtain rfl : nx = k := by omega
            have hnl : ¬ (nx : Int) < nx := by omega
            obtain ⟨wo, rfl⟩ : ∃ w, w = wr := ⟨_, rfl⟩
            have HO := hin
            clear hin
            have m0 := keepAt HO.out mz HM.out.1
            have m1 := keepAt HO.out mz HM.out.2.1
            have m2 := keepAt HO.out mz HM.out.2.2.1
            have m3 := keepAt HO.out mz HM.out.2.2.2.1
            have m4 := keepAt HO.out mz HM.out.2.2.2.2.1
            have m5 := keepAt HO.out mz HM.out.2.2.2.2.2
            go_wp2_with fail
            refine (pairs_any c' _ _ (HV.out.ext (HB.out.trans HO.out)) HVC.out).mono ?_
            clear m0 m1 m2 m3 m4 m5
            rintro e w3 ⟨U, rfl, hal, hx⟩
            have HAL := Lib.hid hal
            obtain ⟨AU, cU, rfl, hcU, hdU, -⟩ := hal
            have H3 : Hid (Ext W1 w3) := Lib.hid (HO.out.trans hx)
            clear hx
            obtain ⟨np, hnp⟩ : ∃ np, np = c'.prs.n := ⟨_, rfl⟩
            rw [← hnp] at hcU hprn ⊢
            have HNP := Lib.hid hnp
            clear hnp
            go_wp2_with fail
            go_loopw [8, 57] (fun z i wr => ∃ k : Nat, i = .int .i64 k ∧ k ≤ np ∧ z = .int .i64 (y + sm k (c'.pt l)) ∧ Hid (Ext w3 wr)) (fun _ i _ => np - (intOf i).toNat)
            case atStart => exact ⟨0, rfl, Nat.zero_le _, by simp [sm], Lib.hid (Ext.refl _)⟩
            case round =>
              obtain ⟨k, rfl, hk2, rfl, hin⟩ := hrel
              obtain ⟨y2, hy2'⟩ : ∃ y2, y2 = y + sm k (c'.pt l) := ⟨_, rfl⟩
              have hsm := HSP.out k (by rw [← HNP.out]; exact hk2)
              have hya : -2000000 ≤ y2 := by omega
              have hyb : y2 ≤ 2000000 := by omega
              rw [← hy2']
              have HY2 := Lib.hid hy2'
              clear hsm hy2'
              by_cases hlt2 : k < np
              · obtain ⟨bU, oU, rfl, d1, d2, d3⟩ := HAL.out.arc hin.out (by rw [← HNP.out]; exact hlt2)
                obtain ⟨u, v, hu, hv, hun, hvn, p1, p2⟩ := prs_in HVC.out (k := k) (by rw [← HNP.out]; exact hlt2)
                rw [HN.out.2.2.1] at hun hvn
                obtain ⟨p, hp⟩ : ∃ p, p = c'.prs.c k := ⟨_, rfl⟩
                rw [hu] at d1
                rw [hv] at d2
                rw [← hp] at d3 p1 p2
                have hsu : sm (k + 1) (c'.pt l) = sm k (c'.pt l) + (if l u = l v then 0 else p) := by
                  show sm k (c'.pt l) + c'.pt l k = _
                  unfold Cl.pt; rw [hu, hv, Int.toNat_natCast, Int.toNat_natCast, ← hp]
                have HSU := Lib.hid hsu
                obtain ⟨bl_, ol, rfl, _, eu⟩ := Vl.at HL.out ((HB.out.trans (H3.out.trans hin.out)).alc (.cells #[.int .i64 u, .int .i64 v, .int .i64 p] 65)) hun
                obtain ⟨bl2, ol2, e3, _, ev⟩ := Vl.at HL.out ((HB.out.trans (H3.out.trans hin.out)).alc (.cells #[.int .i64 u, .int .i64 v, .int .i64 p] 65)) hvn
                injection e3 with e3
                injection e3 with e3 e4
                subst e3 e4
                clear hu hv hp hsu
                go_upto_region 16 with fail
                have b0 : (wr.alloc (.cells #[.int .i64 u, .int .i64 v, .int .i64 p] 65)).cell? ⟨wr.heap.size, 0, none⟩ = some (.int .i64 u) := by rw [World.cell?_alloc_new]; rfl
                have b1 : (wr.alloc (.cells #[.int .i64 u, .int .i64 v, .int .i64 p] 65)).cell? ⟨wr.heap.size, 1, none⟩ = some (.int .i64 v) := by rw [World.cell?_alloc_new]; rfl
                have b2 : (wr.alloc (.cells #[.int .i64 u, .int .i64 v, .int .i64 p] 65)).cell? ⟨wr.heap.size, 2, none⟩ = some (.int .i64 p) := by rw [World.cell?_alloc_new]; rfl
                have ee := hin.out.alc (.cells #[.int .i64 u, .int .i64 v, .int .i64 p] 65)
                generalize wr.alloc (.cells #[.int .i64 u, .int .i64 v, .int .i64 p] 65) = w4 at *
                have HE4 := Lib.hid ee
                have f0 : w4.drew.cell? ⟨wr.heap.size, 0, none⟩ = some (.int .i64 u) := b0
                have f1 : w4.drew.cell? ⟨wr.heap.size, 1, none⟩ = some (.int .i64 v) := b1
                have f2 : w4.drew.cell? ⟨wr.heap.size, 2, none⟩ = some (.int .i64 p) := b2
                obtain ⟨su, hsu⟩ : ∃ x, x = l u := ⟨_, rfl⟩
                obtain ⟨sv, hsv⟩ : ∃ x, x = l v := ⟨_, rfl⟩
                rw [← hsu] at eu
                rw [← hsv] at ev
                have HUV := Lib.hid (And.intro hsu hsv)
                have eud : w4.drew.cell? ⟨bl_, ol + u, none⟩ = some (.bool su) := eu
                have evd : w4.drew.cell? ⟨bl_, ol + v, none⟩ = some (.bool sv) := ev
                clear b0 b1 b2 ee hsu hsv eu ev d1 d2 d3
                by_cases huv : su = sv
                · subst huv
                  have hne : (su != su) = false := by cases su <;> rfl
                  go_region
                  go_wp2
                  go_roundw
                  case rel => exact ⟨k + 1, by go_num, by omega, by rw [HY2.out, HSU.out, ← HUV.out.1, ← HUV.out.2, if_pos rfl, Int.add_zero], Lib.hid HE4.out.drw⟩
                  case measure => simp [intOf]; omega
                · have hne : (!(su == sv)) = true := by cases su <;> cases sv <;> simp_all
                  go_region
                  go_wp2
                  go_roundw
                  case rel => exact ⟨k + 1, by go_num, by omega, by rw [HY2.out, HSU.out, ← HUV.out.1, ← HUV.out.2, if_neg huv, Int.add_assoc], Lib.hid HE4.out.drw⟩
                  case measure => simp [intOf]; omega
              · obtain rfl : np = k := by omega
                go_wp2
                refine bodyPost_ret (v := .tuple #[.int .i64 y2, .int .i64 0]) (by simp [results, Try.results38, go_sem]) rfl ⟨y2, 0, rfl, HB.out.trans (H3.out.trans hin.out), .inr (.inr ⟨HOK.out, HN.out.2.2.1.symm, rfl, ?_⟩)⟩
                rw [HY2.out, HYY.out, HNP.out]
                unfold Cl.en
                rw [HN.out.2.2.1]
      · have hne : ((n : Int) != nb) = true := by simp; omega
        go_wp2
        refine bodyPost_ret (v := .tuple #[.int .i64 0, .int .i64 3]) (by simp [results, Try.results38, go_sem]) rfl ⟨0, 3, rfl, HB.out.trans HX.out, .inr (.inl ⟨HOK.out, by rw [HN.out.2.2.1]; exact hn, rfl, rfl⟩)⟩
end Go.Proofs.Ytilcbbdmenknfaa
namespace Go.Proofs.Ytilcbbdmenknfaa

/-- every arc, and behind it the same one back -/
def dbl (a : Ar) : Ar := ⟨2 * a.n, fun k => if k % 2 = 0 then a.f (k / 2) else a.t (k / 2), fun k => if k % 2 = 0 then a.t (k / 2) else a.f (k / 2), fun k => a.c (k / 2)⟩
theorem dbl_ok {a : Ar} {N : Nat} {M : Int} (h : a.Ok N M) : (dbl a).Ok N M := by
  have hk : ∀ k, k < (dbl a).n → k / 2 < a.n := fun k hk => by have : k < 2 * a.n := hk; omega
  refine ⟨fun k h1 => ?_, fun k h1 => ?_, fun k h1 => ?_, fun k h1 => ?_, fun k h1 => ?_, fun k h1 => h.c0 _ (hk k h1), fun k h1 => h.cM _ (hk k h1)⟩
  · show 0 ≤ if k % 2 = 0 then a.f (k / 2) else a.t (k / 2); split; exact h.f0 _ (hk k h1); exact h.t0 _ (hk k h1)
  · show (if k % 2 = 0 then a.f (k / 2) else a.t (k / 2)) < (N : Int); split; exact h.fN _ (hk k h1); exact h.tN _ (hk k h1)
  · show 0 ≤ if k % 2 = 0 then a.t (k / 2) else a.f (k / 2); split; exact h.t0 _ (hk k h1); exact h.f0 _ (hk k h1)
  · show (if k % 2 = 0 then a.t (k / 2) else a.f (k / 2)) < (N : Int); split; exact h.tN _ (hk k h1); exact h.fN _ (hk k h1)
  · show (if k % 2 = 0 then a.f (k / 2) else a.t (k / 2)) ≠ if k % 2 = 0 then a.t (k / 2) else a.f (k / 2); split; exact h.ne _ (hk k h1); exact fun e => h.ne _ (hk k h1) e.symm
theorem acl_dbl (a : Ar) (k : Nat) : acl (dbl a) (2 * (k + 1)) = acl (dbl a) (2 * k) ++ [.int .i64 (a.f k), .int .i64 (a.t k), .int .i64 (a.c k), .int .i64 (a.t k), .int .i64 (a.f k), .int .i64 (a.c k)] := by
  have e0 : (2 * k) % 2 = 0 := by omega
  have e1 : ¬ (2 * k + 1) % 2 = 0 := by omega
  have e2 : 2 * k / 2 = k := by omega
  have e3 : (2 * k + 1) / 2 = k := by omega
  rw [show 2 * (k + 1) = 2 * k + 1 + 1 by omega, acl_succ, acl_succ]
  simp only [dbl, e0, e1, e2, e3, if_true, if_false, List.append_assoc]
  rfl
theorem sm_pair (n : Nat) (g : Nat → Int) : sm (2 * n) g = sm n fun k => g (2 * k) + g (2 * k + 1) := by
  induction n with
  | zero => rfl
  | succ n ih => rw [show 2 * (n + 1) = 2 * n + 1 + 1 by omega]; simp only [sm]; rw [ih]; omega
/-- what lies across S -/
def across (a : Ar) (S : Nat → Bool) : Int := sm a.n fun k => if S (a.f k).toNat = S (a.t k).toNat then 0 else a.c k
theorem ct_dbl (a : Ar) (S : Nat → Bool) : (dbl a).nw.ct S = across a S := by
  have e0 : ∀ k, (2 * k) % 2 = 0 := by omega
  have e1 : ∀ k, ¬ (2 * k + 1) % 2 = 0 := by omega
  have e2 : ∀ k, 2 * k / 2 = k := by omega
  have e3 : ∀ k, (2 * k + 1) / 2 = k := by omega
  have h : (dbl a).nw.ct S = sm (2 * a.n) fun k => if S ((dbl a).f k).toNat = true ∧ S ((dbl a).t k).toNat = false then (dbl a).c k else 0 := rfl
  rw [h, sm_pair]
  refine sm_congr fun k _ => ?_
  simp only [dbl, e0, e1, e2, e3, if_true, if_false]
  cases S (a.f k).toNat <;> cases S (a.t k).toNat <;> simp
theorem across_not (a : Ar) (S : Nat → Bool) : across a (fun i => !S i) = across a S := by
  refine sm_congr fun k _ => ?_
  show (if (!S (a.f k).toNat) = (!S (a.t k).toNat) then 0 else a.c k) = if S (a.f k).toNat = S (a.t k).toNat then 0 else a.c k
  generalize S (a.f k).toNat = p
  generalize S (a.t k).toNat = q
  cases p <;> cases q <;> rfl
theorem Mc.flip {a : Ar} {u v : Nat} {c : Int} (h : Mc (dbl a).nw u v c) : Mc (dbl a).nw v u c := by
  refine ⟨?_, fun S hS => ?_⟩
  · obtain ⟨S, h1, h2⟩ := h.is
    refine ⟨fun i => !S i, ⟨by simp [h1.2], by simp [h1.1]⟩, ?_⟩
    rw [ct_dbl] at h2 ⊢
    rw [across_not, h2]
  · have := h.le (fun i => !S i) ⟨by simp [hS.2], by simp [hS.1]⟩
    rw [ct_dbl] at this ⊢
    rwa [across_not] at this
theorem Mc.three {G : Nw} {u v w : Nat} {x y z : Int} (h1 : Mc G u v x) (h2 : Mc G v w y) (h3 : Mc G u w z) : x ≤ z ∨ y ≤ z := by
  obtain ⟨S, hS, rfl⟩ := h3.is
  cases hv : S v
  · exact .inl (h1.le S ⟨hS.1, hv⟩)
  · exact .inr (h2.le S ⟨hv, hS.2⟩)

/-- do the arguments of Cut fit? -/
def cutOk (N : Int) (a : Ar) (u v : Int) : Bool := (vNet N a && decide (N ≤ 12)) && bw u 0 (N - 1) && bw v 0 (N - 1) && !decide (u = v)
end Go.Proofs.Ytilcbbdmenknfaa
namespace Go.Proofs.Ytilcbbdmenknfaa
open Go.RowKit

set_option maxHeartbeats 4000000 in
set_option maxRecDepth 100000 in
theorem valueS_any (N : Int) (a : Ar) (AV : Value) (W : World) (hA : Al W AV a) :
    Calls Try.prog 15 #[.agg #[.int .i64 N, AV]] W fun e W' => ∃ v er : Int, e = .returned (.tuple #[.int .i64 v, .int .i64 er]) ∧ Ext W W' ∧
      ((vNet N a = false ∧ v = 0 ∧ er = 2) ∨ (vNet N a = true ∧ er = 0 ∧ Mc a.nw 0 (N.toNat - 1) v)) := by
  have HA := Lib.hid hA
  obtain ⟨A, c, rfl, hac, hcm, -⟩ := hA
  go_enter Try.func15, Try.ntmps15
  go_upto_region 1 with fail
  have bb := al1 W (.cells #[.int .i64 N, .slice A a.n c] 30)
  have m0 : (W.alloc (.cells #[.int .i64 N, .slice A a.n c] 30)).cell? ⟨W.heap.size, 0, none⟩ = some (.int .i64 N) := by rw [World.cell?_alloc_new]; rfl
  have m1 : (W.alloc (.cells #[.int .i64 N, .slice A a.n c] 30)).cell? ⟨W.heap.size, 1, none⟩ = some (.slice A a.n c) := by rw [World.cell?_alloc_new]; rfl
  have zz : W.heap.size < (W.alloc (.cells #[.int .i64 N, .slice A a.n c] 30)).heap.size := by simp
  generalize W.alloc (.cells #[.int .i64 N, .slice A a.n c] 30) = W1 at *
  have HB : Hid (Ext W W1) := Lib.hid bb
  clear bb
  go_wp2_with fail
  refine (isNet_any N a _ _ (HA.out.ext HB.out)).mono ?_
  rintro e w1 ⟨rfl, hx⟩
  replace m0 := keepAt hx zz m0
  replace m1 := keepAt hx zz m1
  have HX : Hid (Ext W w1) := Lib.hid (HB.out.trans hx)
  clear hx
  cases hv : vNet N a
  · have HV := Lib.hid hv; clear hv
    go_wp2
    refine bodyPost_ret (v := .tuple #[.int .i64 0, .int .i64 2]) (by simp [results, Try.results15, go_sem]) rfl ⟨0, 2, rfl, HX.out, .inl ⟨HV.out, rfl, rfl⟩⟩
  · obtain ⟨m, rfl, hm2, hm40, hn, hok⟩ := vNet_ok hv
    have HOK := Lib.hid hok; have HV := Lib.hid hv
    clear hv hok
    go_wp2_with fail
    refine (filled_any m a _ _ (HA.out.ext HX.out) HOK.out (by omega) hm2 (by omega)).mono ?_
    rintro e w2 ⟨x, gl, SV, rfl, -, hbi, hfull, -, hx⟩
    have HX2 := Lib.hid (HX.out.trans hx)
    have HFULL := Lib.hid hfull; have HBI := Lib.hid hbi
    clear hx m0 m1 hbi hfull
    go_wp2_with fail
    refine (value_any a m 0 ((m - 1 : Nat) : Int) (2 * a.n) 1000000 _ SV gl x _ (HA.out.ext HX2.out) HOK.out (by omega) (by omega) rfl HBI.out HFULL.out.fp.rs).mono ?_
    rintro e w3 ⟨rfl, hx⟩
    have HX3 := Lib.hid (HX2.out.trans hx)
    clear hx
    go_wp2
    refine bodyPost_ret (v := .tuple #[.int .i64 (a.nw.sp (Nw.fw x) 0), .int .i64 0]) (by simp [results, Try.results15, go_sem]) rfl ⟨_, 0, rfl, HX3.out, .inr ⟨HV.out, rfl, ?_⟩⟩
    have := HFULL.out.mc HOK.out.in_ (by omega) (by omega)
    rw [Int.toNat_natCast]
    exact this

set_option maxHeartbeats 4000000 in
set_option maxRecDepth 100000 in
theorem flowS_any (N : Int) (a : Ar) (AV : Value) (W : World) (hA : Al W AV a) :
    Calls Try.prog 18 #[.agg #[.int .i64 N, AV]] W fun e W' => ∃ (F : Value) (er : Int), e = .returned (.tuple #[F, .int .i64 er]) ∧ Ext W W' ∧
      ((vNet N a = false ∧ F = .slice none 0 0 ∧ er = 2) ∨ (vNet N a = true ∧ er = 0 ∧ ∃ g f, F = .slice (some ⟨g, 0, none⟩) a.n a.n ∧ W.heap.size ≤ g ∧ BI W' g a.n f ∧ a.nw.Fl N.toNat 0 (N.toNat - 1) f ∧ Mc a.nw 0 (N.toNat - 1) (a.nw.sp f 0))) := by
  have HA := Lib.hid hA
  obtain ⟨A, c, rfl, hac, hcm, -⟩ := hA
  go_enter Try.func18, Try.ntmps18
  go_upto_region 1 with fail
  have bb := al1 W (.cells #[.int .i64 N, .slice A a.n c] 30)
  have m0 : (W.alloc (.cells #[.int .i64 N, .slice A a.n c] 30)).cell? ⟨W.heap.size, 0, none⟩ = some (.int .i64 N) := by rw [World.cell?_alloc_new]; rfl
  have m1 : (W.alloc (.cells #[.int .i64 N, .slice A a.n c] 30)).cell? ⟨W.heap.size, 1, none⟩ = some (.slice A a.n c) := by rw [World.cell?_alloc_new]; rfl
  have zz : W.heap.size < (W.alloc (.cells #[.int .i64 N, .slice A a.n c] 30)).heap.size := by simp
  generalize W.alloc (.cells #[.int .i64 N, .slice A a.n c] 30) = W1 at *
  have HB : Hid (Ext W W1) := Lib.hid bb
  clear bb
  go_wp2_with fail
  refine (isNet_any N a _ _ (HA.out.ext HB.out)).mono ?_
  rintro e w1 ⟨rfl, hx⟩
  replace m0 := keepAt hx zz m0
  replace m1 := keepAt hx zz m1
  have HX : Hid (Ext W w1) := Lib.hid (HB.out.trans hx)
  clear hx
  cases hv : vNet N a
  · have HV := Lib.hid hv; clear hv
    go_wp2
    refine bodyPost_ret (v := .tuple #[.slice none 0 0, .int .i64 2]) (by simp [results, Try.results18, go_sem]) rfl ⟨_, 2, rfl, HX.out, .inl ⟨HV.out, rfl, rfl⟩⟩
  · obtain ⟨m, rfl, hm2, hm40, hn, hok⟩ := vNet_ok hv
    have HOK := Lib.hid hok; have HV := Lib.hid hv
    clear hv hok
    go_wp2_with fail
    refine (filled_any m a _ _ (HA.out.ext HX.out) HOK.out (by omega) hm2 (by omega)).mono ?_
    rintro e w2 ⟨x, gl, SV, rfl, -, hbi, hfull, -, hx⟩
    have HX2 := Lib.hid (HX.out.trans hx)
    have HFULL := Lib.hid hfull; have HBI := Lib.hid hbi
    clear hx m0 m1 hbi hfull
    go_wp2_with fail
    refine (flow_any a (0 : Nat) ((m - 1 : Nat) : Int) (2 * a.n) _ SV gl x _ (HA.out.ext HX2.out) (by omega) rfl HBI.out).mono ?_
    rintro e w3 ⟨g, rfl, hg, hbf, hx⟩
    have HX3 := Lib.hid (HX2.out.trans hx)
    have HBF := Lib.hid hbf
    have hsz := HX2.out.size
    clear hx hbf
    go_wp2
    refine bodyPost_ret (v := .tuple #[.slice (some ⟨g, 0, none⟩) a.n a.n, .int .i64 0]) (by simp [results, Try.results18, go_sem]) rfl ⟨_, 0, rfl, HX3.out, .inr ⟨HV.out, rfl, g, Nw.fw x, rfl, by omega, HBF.out, ?_, ?_⟩⟩
    · rw [Int.toNat_natCast]; exact HFULL.out.fp.rs.fl a.nw HFULL.out.fp.cons
    · rw [Int.toNat_natCast]; exact HFULL.out.mc HOK.out.in_ (by omega) (by omega)

set_option maxHeartbeats 4000000 in
set_option maxRecDepth 100000 in
theorem awake_any (W : World) : Calls Try.prog 19 #[] W fun e W' => e = .returned (.bool true) ∧ Ext W W' := by
  go_enter Try.func19, Try.ntmps19
  go_wp2_with fail
  refine (valueS_any 3 aw _ _ ⟨some ⟨W.heap.size, 0, none⟩, 2, rfl, Nat.le_refl _, by omega, fun _ => ⟨W.heap.size, 0, rfl, by simp, fun j hj => ?_⟩⟩).mono ?_
  · have hj' : j < 2 := hj
    rcases (by omega : j = 0 ∨ j = 1) with rfl | rfl
    · refine ⟨?_, ?_, ?_⟩ <;> (rw [World.cell?_alloc_new]; rfl)
    · refine ⟨?_, ?_, ?_⟩ <;> (rw [World.cell?_alloc_new]; rfl)
  · rintro e w1 ⟨v, er, rfl, hx, ⟨hv, -⟩ | ⟨-, rfl, hm⟩⟩
    · rw [aw_v] at hv; cases hv
    · have h2 := aw_two hm
      subst h2
      have HX : Hid (Ext W w1) := Lib.hid ((Ext.alc (Ext.refl W) _).trans hx)
      clear hx hm
      go_wp2
      go_ret
      exact ⟨rfl, HX.out⟩
end Go.Proofs.Ytilcbbdmenknfaa
namespace Go.Proofs.Ytilcbbdmenknfaa
open Go.RowKit

set_option maxHeartbeats 4000000 in
set_option maxRecDepth 100000 in
theorem isWeb_any (N : Int) (a : Ar) (AV : Value) (W : World) (hA : Al W AV a) :
    Calls Try.prog 62 #[.agg #[.int .i64 N, AV]] W fun e W' => e = .returned (.bool (vNet N a && decide (N ≤ 12))) ∧ Ext W W' := by
  have HA := Lib.hid hA
  obtain ⟨A, c, rfl, hac, hcm, -⟩ := hA
  go_enter Try.func62, Try.ntmps62
  go_upto_region 1 with fail
  have bb := al1 W (.cells #[.int .i64 N, .slice A a.n c] 30)
  have m0 : (W.alloc (.cells #[.int .i64 N, .slice A a.n c] 30)).cell? ⟨W.heap.size, 0, none⟩ = some (.int .i64 N) := by rw [World.cell?_alloc_new]; rfl
  have m1 : (W.alloc (.cells #[.int .i64 N, .slice A a.n c] 30)).cell? ⟨W.heap.size, 1, none⟩ = some (.slice A a.n c) := by rw [World.cell?_alloc_new]; rfl
  have zz : W.heap.size < (W.alloc (.cells #[.int .i64 N, .slice A a.n c] 30)).heap.size := by simp
  generalize W.alloc (.cells #[.int .i64 N, .slice A a.n c] 30) = W1 at *
  have HB : Hid (Ext W W1) := Lib.hid bb
  clear bb
  go_wp2_with fail
  refine (isNet_any N a _ _ (HA.out.ext HB.out)).mono ?_
  rintro e w1 ⟨rfl, hx⟩
  replace m0 := keepAt hx zz m0
  replace m1 := keepAt hx zz m1
  have HX : Hid (Ext W w1) := Lib.hid (HB.out.trans hx)
  clear hx
  cases hv : vNet N a
  · have HV := Lib.hid hv; clear hv
    go_wp2
    go_ret
    exact ⟨by rw [HV.out]; rfl, HX.out⟩
  · have HV := Lib.hid hv; clear hv
    go_wp2
    go_ret
    exact ⟨by rw [HV.out]; rfl, HX.out⟩

set_option maxHeartbeats 4000000 in
set_option maxRecDepth 100000 in
theorem parted_any (N : Nat) (a : Ar) (u v : Nat) (AV : Value) (W : World) (hA : Al W AV a) (hO : a.Ok N 1000000) (hn : a.n ≤ 160) (hN : N ≤ 1000) (hu : u < N) (hv : v < N) (hne : u ≠ v) :
    Calls Try.prog 64 #[.agg #[.int .i64 N, AV], .int .i64 u, .int .i64 v] W fun e W' => ∃ (x : Nat → Int) (gl : Nat) (BV SV : Value), e = .returned (.agg #[.int .i64 u, .int .i64 v, BV, SV, .slice (some ⟨gl, 0, none⟩) (2 * (dbl a).n) (2 * (dbl a).n)]) ∧
      W.heap.size ≤ gl ∧ BI W' gl (2 * (dbl a).n) x ∧ Full (dbl a).nw N u v x ∧ Al W' BV (dbl a) ∧ Sl W' (W.heap.size + 1 + 1) SV N (stf (dbl a).nw (dbl a).n) ∧ Ext W W' := by
  have HA := Lib.hid hA; have HO := Lib.hid hO
  obtain ⟨A, c, rfl, hac, hcm, -⟩ := hA
  obtain ⟨i0, hi, hz0, hz1, hz2⟩ := info_parts info65
  go_enter Try.func64, Try.ntmps64
  go_upto_region 2 with fail
  have bb := al2 W (.cells #[.int .i64 N, .slice A a.n c] 30) (.cells #[.int .i64 0, .int .i64 0, .slice none 0 0, .slice none 0 0, .slice none 0 0] 87)
  have hh0 : ((W.alloc (.cells #[.int .i64 N, .slice A a.n c] 30)).alloc (.cells #[.int .i64 0, .int .i64 0, .slice none 0 0, .slice none 0 0, .slice none 0 0] 87)).heap[W.heap.size]? = some (.cells #[.int .i64 N, .slice A a.n c] 30 (0, 0)) := (Below.heap_alloc _ _ _ (by simp)).trans (heap_alloc_new W _)
  have hh1 := heap_alloc_new (W.alloc (.cells #[.int .i64 N, .slice A a.n c] 30)) (.cells #[.int .i64 0, .int .i64 0, .slice none 0 0, .slice none 0 0, .slice none 0 0] 87)
  simp only [World.size_alloc] at hh1
  have hz : ((W.alloc (.cells #[.int .i64 N, .slice A a.n c] 30)).alloc (.cells #[.int .i64 0, .int .i64 0, .slice none 0 0, .slice none 0 0, .slice none 0 0] 87)).heap.size = W.heap.size + 1 + 1 := by simp
  generalize (W.alloc (.cells #[.int .i64 N, .slice A a.n c] 30)).alloc (.cells #[.int .i64 0, .int .i64 0, .slice none 0 0, .slice none 0 0, .slice none 0 0] 87) = W1 at *
  have HB : Hid (Ext W W1) := Lib.hid bb
  have HH := Lib.hid (And.intro hh0 (And.intro hh1 hz))
  obtain ⟨m0, m1, m2, m3⟩ := two hh0
  have zlt : W.heap.size + 1 < W1.heap.size := by omega
  have zle : W1.heap.size ≤ W.heap.size + 1 + 1 := by omega
  clear bb hh0 hh1 hz m0 m2
  go_wp2_with fail
  clear m1
  go_loopw [7, 13] (fun q i wr => ∃ (k : Nat), i = .int .i64 k ∧ k ≤ a.n ∧ Hid (wr.ownsRow W1.heap.size 65 3 q (2 * k) (acl (dbl a) (2 * k)) ∧ Ext W1 wr)) (fun _ i _ => a.n - (intOf i).toNat)
  case atStart => exact ⟨0, rfl, Nat.zero_le _, Lib.hid ⟨World.ownsRow_nil _ _ _ _, Ext.refl _⟩⟩
  case round =>
    obtain ⟨k, rfl, hk, hin⟩ := hrel
    have hvs : ∃ A n c, u7 = .slice A n c := by
      obtain ⟨-, ⟨rfl, -⟩ | ⟨g, cap, cur, rfl, -⟩⟩ := hin.out.1
      · exact ⟨_, _, _, rfl⟩
      · exact ⟨_, _, _, rfl⟩
    obtain ⟨Av, nv, cv, rfl⟩ := hvs
    have hsz := hin.out.2.size
    by_cases hlt : k < a.n
    · obtain ⟨b, off, rfl, d1, d2, d3⟩ := HA.out.arc (HB.out.trans hin.out.2) hlt
      obtain ⟨fk, hfk⟩ : ∃ x, x = a.f k := ⟨_, rfl⟩
      obtain ⟨tk, htk⟩ : ∃ x, x = a.t k := ⟨_, rfl⟩
      obtain ⟨ck, hck⟩ : ∃ x, x = a.c k := ⟨_, rfl⟩
      rw [← hfk] at d1; rw [← htk] at d2; rw [← hck] at d3
      have HFT := Lib.hid (And.intro hfk (And.intro htk hck))
      clear hfk htk hck
      have hown := World.ownsRow.ext hin.out.1 (Ext.alc (Ext.alc (Ext.refl wr) (.cells #[.int .i64 fk, .int .i64 tk, .int .i64 ck] 65)) (.cells #[.int .i64 fk, .int .i64 tk, .int .i64 ck, .int .i64 tk, .int .i64 fk, .int .i64 ck] 65))
      go_wp2_with (at_builtin; refine wpList_append_own _ rfl _ _ 28 rfl W1.heap.size 65 i0 (.agg #[.int .i64 0, .int .i64 0, .int .i64 0]) 3 24 Try.underlying28 hi hz0 hz1 hz2 rfl (by decide) _ (2 * k) _ rfl hown ⟨wr.heap.size + 1, 0, none⟩ 2 2 [.int .i64 fk, .int .i64 tk, .int .i64 ck, .int .i64 tk, .int .i64 fk, .int .i64 ck] rfl rfl ?c1 ?c2 ?c3 ?c4 ?c5 ?_)
      case c1 =>
        intro j u hj
        match j, hj with
        | 0, hj => simp at hj; subst hj; simp [Addr.add]
        | 1, hj => simp at hj; subst hj; simp [Addr.add]
        | 2, hj => simp at hj; subst hj; simp [Addr.add]
        | 3, hj => simp at hj; subst hj; simp [Addr.add]
        | 4, hj => simp at hj; subst hj; simp [Addr.add]
        | 5, hj => simp at hj; subst hj; simp [Addr.add]
        | j + 6, hj => simp at hj
      case c2 => intro u hu; simp at hu; rcases hu with rfl | rfl | rfl | rfl | rfl | rfl <;> rfl
      case c3 => unfold maxLen; omega
      case c4 => omega
      case c5 => simp; omega
      intro v' w2 hown' hgrow hnil
      clear hnil
      have hob : ∀ g, (Value.slice Av nv cv).ownBlock = some g → W1.heap.size ≤ g := fun g hg => (World.ownsRow.lt hown g hg).1
      have hex : Ext W1 w2 := ⟨hgrow.os.trans hin.out.2.os, hgrow.tape.trans hin.out.2.tape, hgrow.output.trans hin.out.2.output, by have h1 := hgrow.size; simp at h1; omega, fun g hg => (hgrow.block g (by simp; omega) (fun e => by have := hob g e.symm; omega)).trans ((Below.heap_alloc _ _ g (by simp; omega)).trans ((Below.heap_alloc _ _ g (by omega)).trans (hin.out.2.block g hg)))⟩
      have HN := Lib.hid (And.intro hown' hex)
      clear hown' hex hgrow hob hown d1 d2 d3
      go_wp2
      go_roundw
      case rel =>
        refine ⟨k + 1, by go_num, by omega, Lib.hid ⟨?_, HN.out.2⟩⟩
        rw [acl_dbl, ← HFT.out.1, ← HFT.out.2.1, ← HFT.out.2.2]
        exact HN.out.1
      case measure => simp [intOf]; omega
    · obtain rfl : k = a.n := by omega
      have HAl : Hid (Al wr (.slice Av nv cv) (dbl a)) := Lib.hid (Al.own (a := dbl a) hin.out.1)
      have HX : Hid (Ext W1 wr) := Lib.hid hin.out.2
      have HOW := Lib.hid hin.out.1
      obtain ⟨m0, m1, m2, m3⟩ := two ((Below.block hin.out.2 W.heap.size (by omega)).trans HH.out.1)
      clear hin m1 m2
      go_wp2_with fail
      refine (newNetwork_any (dbl a) N u v 1000000 _ _ HAl.out (dbl_ok HO.out) (by show 2 * a.n ≤ 1000; omega) hN).mono ?_
      rintro e w1 ⟨SV, rfl, hsl, hx⟩
      have hsl2 : Sl w1 (W.heap.size + 1 + 1) SV N (stf (dbl a).nw (dbl a).n) := by
        obtain ⟨b, c, e, hb, h0, hc⟩ := hsl
        refine ⟨b, c, e, hb, by omega, fun i hi => ?_⟩
        obtain ⟨z, h1, h2, h3⟩ := hc i hi
        exact ⟨z, h1, h2, fun b' hb' => by have := h3 b' hb'; omega⟩
      have HSL := Lib.hid hsl2
      replace HOW := Lib.hid (World.ownsRow.ext HOW.out hx)
      replace HAl := Lib.hid (HAl.out.ext hx)
      replace HX := Lib.hid (HX.out.trans hx)
      obtain ⟨gs, cs, rfl, -, -, -⟩ := hsl
      clear hsl2 m0 hx
      go_wp2_with fail
      refine (fill_any (dbl a) N u v _ 1000000 _ (.slice (some ⟨gs, 0, none⟩) N cs) (stf (dbl a).nw (dbl a).n) _ HAl.out (dbl_ok HO.out) (by show 2 * a.n ≤ 1000; omega) hN (by omega) HSL.out (stf_stp (dbl a).nw N) hu hv hne).mono ?_
      rintro e w2 ⟨x, gl, rfl, hgl, hbi, hfull, hx⟩
      have EX := Lib.hid (HX.out.trans hx)
      have HSL2 := Lib.hid (HSL.out.ext hx)
      replace HOW := Lib.hid (World.ownsRow.ext HOW.out hx)
      have HBI := Lib.hid hbi; have HFULL := Lib.hid hfull
      replace HAl := Lib.hid (HAl.out.ext hx)
      have h1sz := HX.out.size
      obtain ⟨p0, p1, p2, p3, p4, p5, p6⟩ := five ((Below.block EX.out (W.heap.size + 1) zlt).trans HH.out.2.1)
      clear hx hbi hfull HX HSL
      go_wp2
      refine bodyPost_ret (v := .agg #[.int .i64 u, .int .i64 v, .slice Av nv cv, .slice (some ⟨gs, 0, none⟩) N cs, .slice (some ⟨gl, 0, none⟩) (2 * (dbl a).n) (2 * (dbl a).n)]) (by simp [results, Try.results64, go_sem, p0, p1, p2, p3, p4]) rfl ?_
      have hne1 : gl ≠ W.heap.size + 1 := by omega
      have hk : ∀ g, g ≠ W.heap.size + 1 → (((((w2.setCell ⟨W.heap.size + 1, 0, none⟩ (.int .i64 u)).setCell ⟨W.heap.size + 1, 1, none⟩ (.int .i64 v)).setCell ⟨W.heap.size + 1, 2, none⟩ (.slice Av nv cv)).setCell ⟨W.heap.size + 1, 3, none⟩ (.slice (some ⟨gs, 0, none⟩) N cs)).setCell ⟨W.heap.size + 1, 4, none⟩ (.slice (some ⟨gl, 0, none⟩) (2 * (dbl a).n) (2 * (dbl a).n))).heap[g]? = w2.heap[g]? := fun g hg => by
        rw [Below.heap_setCell _ _ _ g hg, Below.heap_setCell _ _ _ g hg, Below.heap_setCell _ _ _ g hg, Below.heap_setCell _ _ _ g hg, Below.heap_setCell _ _ _ g hg]
      refine ⟨x, gl, _, _, rfl, by omega, Bk.far (Bk.far (Bk.far (Bk.far (Bk.far HBI.out hne1 _) hne1 _) hne1 _) hne1 _) hne1 _, HFULL.out, ?_, HSL2.out.keep (by simp [World.setCell]) fun b hb => hk b (by omega), (((((HB.out.trans EX.out).sc (by omega)).sc (by omega)).sc (by omega)).sc (by omega)).sc (by omega)⟩
      refine Al.own (a := dbl a) (base := W1.heap.size) ?_
      obtain ⟨h1, h2 | ⟨g, cap, cur, e, hg, hh, rest⟩⟩ := HOW.out
      · exact ⟨h1, .inl h2⟩
      · exact ⟨h1, .inr ⟨g, cap, cur, e, hg, (hk g (by omega)).trans hh, rest⟩⟩
end Go.Proofs.Ytilcbbdmenknfaa
