/- Walks: Energy. · Sides by their numbers: mathematics. · Walks: numbered, slices.Equal of flags. · Walks: Sides. -/
import Derived.Test.YtilcbbdmenknfaaM16
import Derived.Test.YtilcbbdmenknfaaM15
import Derived.Test.YtilcbbdmenknfaaM13
import Derived.RegionTactic
import Derived.ChangeAlike
import Derived.Test.YtilcbbdmenknfaaM10
namespace Go.Proofs.Ytilcbbdmenknfaa
open Go.RowKit

set_option maxHeartbeats 4000000 in
set_option maxRecDepth 100000 in
theorem energy_any (c : Cl) (ri : Int) (n : Nat) (l : Nat → Bool) (V LV : Value) (W : World) (hV : Kl W V c) (hL : Bl W LV n l) :
    Calls Try.prog 38 #[V, .int .i64 ri, LV] W fun e W' => ∃ (v er : Int), e = .returned (.tuple #[.int .i64 v, .int .i64 er]) ∧ Ext W W' ∧
      (((vCl c && bw ri (-10000) 10000) = false ∧ v = 0 ∧ er = 2) ∨ ((vCl c && bw ri (-10000) 10000) = true ∧ n ≠ c.nb ∧ v = 0 ∧ er = 3) ∨ ((vCl c && bw ri (-10000) 10000) = true ∧ n = c.nb ∧ er = 0 ∧ v = c.en ri l)) := by
  have HL := Lib.hid hL
  obtain ⟨AL, cL, rfl, hcL, hdL, -⟩ := hL
  obtain ⟨c', hc'⟩ : ∃ c', c' = c := ⟨_, rfl⟩
  rw [← hc']
  have HV : Hid (Kl W V c') := Lib.hid (by rw [hc']; exact hV)
  obtain ⟨B, X, R, D, rfl, hB, hX, -, -⟩ := hV
  obtain ⟨w, h, nb, b, nx, x, nr, r, nd, d⟩ := c
  dsimp only at hB hX ⊢
  have HBX := Lib.hid (And.intro hB hX)
  have HN : Hid (c'.w = w ∧ c'.h = h ∧ c'.nb = nb ∧ c'.nx = nx ∧ c'.b = b ∧ c'.x = x) := by rw [hc']; exact Lib.hid ⟨rfl, rfl, rfl, rfl, rfl, rfl⟩
  clear hc'
  obtain ⟨AB, cB, rfl, hcB, hdB, -⟩ := hB
  obtain ⟨AX, cX, rfl, hcX, hdX, -⟩ := hX
  go_enter Try.func38, Try.ntmps38
  go_upto_region 1 with fail
  have bb := al1 W (.cells #[.int .i64 w, .int .i64 h, .slice AB nb cB, .slice AX nx cX, R, D] 70)
  obtain ⟨m0, m1, m2, m3, m4, m5, mz, -⟩ := six (heap_alloc_new W (.cells #[.int .i64 w, .int .i64 h, .slice AB nb cB, .slice AX nx cX, R, D] 70))
  generalize W.alloc (.cells #[.int .i64 w, .int .i64 h, .slice AB nb cB, .slice AX nx cX, R, D] 70) = W1 at *
  have HB : Hid (Ext W W1) := Lib.hid bb
  have HM := Lib.hid (And.intro m0 (And.intro m1 (And.intro m2 (And.intro m3 (And.intro m4 m5)))))
  clear bb
  go_wp2_with fail
  refine (isCloth_any c' _ _ (HV.out.ext HB.out)).mono ?_
  rintro e w2 ⟨rfl, hx⟩
  have HX : Hid (Ext W1 w2) := Lib.hid hx
  clear hx m2 m3 m4 m5
  replace m0 := keepAt HX.out mz m0
  replace m1 := keepAt HX.out mz m1
  cases hv : vCl c'
  · have HV0 := Lib.hid hv
    clear hv
    go_wp2
    refine bodyPost_ret (v := .tuple #[.int .i64 0, .int .i64 2]) (by simp [results, Try.results38, go_sem]) rfl ⟨0, 2, rfl, HB.out.trans HX.out, .inl ⟨by rw [HV0.out]; rfl, rfl, rfl⟩⟩
  · have HVC := Lib.hid hv
    clear hv
    go_wp2_with fail
    refine (isBetween_bw _ _ _ _).mono ?_
    rintro e w0 ⟨rfl, rfl⟩
    cases hq : bw ri (-10000) 10000
    · have HQ0 := Lib.hid hq
      clear hq
      go_wp2
      refine bodyPost_ret (v := .tuple #[.int .i64 0, .int .i64 2]) (by simp [results, Try.results38, go_sem]) rfl ⟨0, 2, rfl, HB.out.trans HX.out, .inl ⟨by rw [HQ0.out, Bool.and_false], rfl, rfl⟩⟩
    · obtain ⟨hr1, hr2⟩ := bw_iff.1 hq
      have HOK : Hid ((vCl c' && bw ri (-10000) 10000) = true) := Lib.hid (by rw [HVC.out, hq]; rfl)
      clear hq
      obtain ⟨⟨v1, v2⟩, ⟨v3, v4⟩, ⟨v5, v6⟩, ⟨v7, v8⟩, ⟨v9, -⟩, ⟨v11, -⟩⟩ := vCl_ok HVC.out
      have hnb36 : nb ≤ 36 := by
        have h1 := (side_prod (show 0 ≤ c'.w by omega) v2 (show 0 ≤ c'.h by omega) v4).2
        have h2 := HN.out.2.2.1
        omega
      have hnr30 : c'.nr ≤ 30 := by have h1 := (side_prod (show 0 ≤ c'.w - 1 by omega) (show c'.w - 1 ≤ 5 by omega) (show 0 ≤ c'.h by omega) v4).2; omega
      have hnd30 : c'.nd ≤ 30 := by have h1 := (side_prod (show 0 ≤ c'.w by omega) v2 (show 0 ≤ c'.h - 1 by omega) (show c'.h - 1 ≤ 5 by omega)).2; omega
      have hwh : w * h = (nb : Int) := by rw [← HN.out.1, ← HN.out.2.1, ← HN.out.2.2.1]; exact v5.symm
      have hnx : nx = nb := by
        have h2 := HN.out.2.2.1; have h3 := HN.out.2.2.2.1
        omega
      have HNX := Lib.hid hnx
      have hdt : ∀ k, k < nb → -11000 ≤ c'.dt ri l k ∧ c'.dt ri l k ≤ 11000 := by
        intro k hk
        have h2 := HN.out.2.2.1; have h3 := HN.out.2.2.2.1
        have h5 := v6 k (by omega); have h6 := v8 k (by omega)
        unfold Cl.dt
        split <;> omega
      have hpt : ∀ k, k < c'.prs.n → -11000 ≤ c'.pt l k ∧ c'.pt l k ≤ 11000 := by
        intro k hk
        obtain ⟨u, v, -, -, -, -, h5, h6⟩ := prs_in HVC.out hk
        unfold Cl.pt
        split <;> omega
      have hprn : c'.prs.n ≤ 60 := by show c'.nr + c'.nd ≤ 60; omega
      have HSM : Hid (∀ k, k ≤ nb → -(11000 * (k : Int)) ≤ sm k (c'.dt ri l) ∧ sm k (c'.dt ri l) ≤ 11000 * (k : Int)) := Lib.hid fun k hk => sm_abs fun i hi => hdt i (by omega)
      have HSP : Hid (∀ k, k ≤ c'.prs.n → -(11000 * (k : Int)) ≤ sm k (c'.pt l) ∧ sm k (c'.pt l) ≤ 11000 * (k : Int)) := Lib.hid fun k hk => sm_abs fun i hi => hpt i (by omega)
      clear v1 v2 v3 v4 v5 v6 v7 v8 v9 v11 hnr30 hnd30 hdt hpt
      by_cases hn : n = nb
      · subst hn
        obtain rfl : nx = n := HNX.out
        try clear hnx
        clear HNX
        go_wp2_with fail
        clear m0 m1 hwh
        go_loopw [8, 31] (fun z i wr => ∃ k : Nat, i = .int .i64 k ∧ k ≤ nx ∧ z = .int .i64 (sm k (c'.dt ri l)) ∧ Hid (Ext W1 wr)) (fun _ i _ => nx - (intOf i).toNat)
        case atStart => exact ⟨0, rfl, Nat.zero_le _, rfl, HX⟩
        case round =>
          obtain ⟨k, rfl, hk, rfl, hin⟩ := hrel
          obtain ⟨y, hy⟩ : ∃ y, y = sm k (c'.dt ri l) := ⟨_, rfl⟩
          have hsm := HSM.out k hk
          rw [← hy] at hsm ⊢
          obtain ⟨hsm1, hsm2⟩ := hsm
          have hy1 : -400000 ≤ y := by omega
          have hy2 : y ≤ 400000 := by omega
          have HYY := Lib.hid hy
          clear hy hsm1 hsm2
          by_cases hlt : k < nx
          · obtain ⟨bl_, ol, rfl, -, eL⟩ := Vl.at HL.out (HB.out.trans hin.out) hlt
            have hcb := (vCl_ok HVC.out).2.2.1.2 k (by rw [HN.out.2.2.1]; exact hlt)
            have hcx := (vCl_ok HVC.out).2.2.2.1.2 k (by rw [HN.out.2.2.2.1]; exact hlt)
            rw [HN.out.2.2.2.2.1] at hcb
            rw [HN.out.2.2.2.2.2] at hcx
            obtain ⟨b1, b2⟩ := hcb
            obtain ⟨x1, x2⟩ := hcx
            have hsu : sm (k + 1) (c'.dt ri l) = y + (if l k = true then x k + ri else b k) := by
              show sm k (c'.dt ri l) + c'.dt ri l k = _
              rw [← HYY.out]; unfold Cl.dt; rw [HN.out.2.2.2.2.1, HN.out.2.2.2.2.2]
            have HSU := Lib.hid hsu
            clear hsu
            cases hl : l k
            · have HLK := Lib.hid hl
              rw [hl] at eL
              obtain ⟨bB, oB, rfl, -, eB⟩ := Vl.at HBX.out.1 (HB.out.trans hin.out) hlt
              have m2 := keepAt hin.out mz HM.out.2.2.1
              obtain ⟨p, hp⟩ : ∃ p, p = b k := ⟨_, rfl⟩
              rw [← hp] at eB b1 b2
              have HP := Lib.hid hp
              clear hp hl
              go_wp2
              go_roundw
              case rel => exact ⟨k + 1, by go_num, by omega, by rw [HSU.out, HLK.out, HP.out]; simp, Lib.hid hin.out⟩
              case measure => simp [intOf]; omega
            · have HLK := Lib.hid hl
              rw [hl] at eL
              obtain ⟨bX, oX, rfl, -, eX⟩ := Vl.at HBX.out.2 (HB.out.trans hin.out) hlt
              have m3 := keepAt hin.out mz HM.out.2.2.2.1
              obtain ⟨p, hp⟩ : ∃ p, p = x k := ⟨_, rfl⟩
              rw [← hp] at eX x1 x2
              have HP := Lib.hid hp
              clear hp hl
              go_wp2
              go_roundw
              case rel => exact ⟨k + 1, by go_num, by omega, by rw [HSU.out, HLK.out, HP.out]; simp, Lib.hid hin.out⟩
              case measure => simp [intOf]; omega
          · obtain rfl : nx = k := by omega
            have hnl : ¬ (nx : Int) < nx := by omega
            obtain ⟨wo, rfl⟩ : ∃ w, w = wr := ⟨_, rfl⟩
            have HO := hin
            clear hin
            have m0 := keepAt HO.out mz HM.out.1
            have m1 := keepAt HO.out mz HM.out.2.1
            have m2 := keepAt HO.out mz HM.out.2.2.1
            have m3 := keepAt HO.out mz HM.out.2.2.2.1
            have m4 := keepAt HO.out mz HM.out.2.2.2.2.1
            have m5 := keepAt HO.out mz HM.out.2.2.2.2.2
            go_wp2_with fail
            refine (pairs_any c' _ _ (HV.out.ext (HB.out.trans HO.out)) HVC.out).mono ?_
            clear m0 m1 m2 m3 m4 m5
            rintro e w3 ⟨U, rfl, hal, hx⟩
            have HAL := Lib.hid hal
            obtain ⟨AU, cU, rfl, hcU, hdU, -⟩ := hal
            have H3 : Hid (Ext W1 w3) := Lib.hid (HO.out.trans hx)
            clear hx
            obtain ⟨np, hnp⟩ : ∃ np, np = c'.prs.n := ⟨_, rfl⟩
            rw [← hnp] at hcU hprn ⊢
            have HNP := Lib.hid hnp
            clear hnp
            go_wp2_with fail
            go_loopw [8, 57] (fun z i wr => ∃ k : Nat, i = .int .i64 k ∧ k ≤ np ∧ z = .int .i64 (y + sm k (c'.pt l)) ∧ Hid (Ext w3 wr)) (fun _ i _ => np - (intOf i).toNat)
            case atStart => exact ⟨0, rfl, Nat.zero_le _, by simp [sm], Lib.hid (Ext.refl _)⟩
            case round =>
              obtain ⟨k, rfl, hk2, rfl, hin⟩ := hrel
              obtain ⟨y2, hy2'⟩ : ∃ y2, y2 = y + sm k (c'.pt l) := ⟨_, rfl⟩
              have hsm := HSP.out k (by rw [← HNP.out]; exact hk2)
              have hya : -2000000 ≤ y2 := by omega
              have hyb : y2 ≤ 2000000 := by omega
              rw [← hy2']
              have HY2 := Lib.hid hy2'
              clear hsm hy2'
              by_cases hlt2 : k < np
              · obtain ⟨bU, oU, rfl, d1, d2, d3⟩ := HAL.out.arc hin.out (by rw [← HNP.out]; exact hlt2)
                obtain ⟨u, v, hu, hv, hun, hvn, p1, p2⟩ := prs_in HVC.out (k := k) (by rw [← HNP.out]; exact hlt2)
                rw [HN.out.2.2.1] at hun hvn
                obtain ⟨p, hp⟩ : ∃ p, p = c'.prs.c k := ⟨_, rfl⟩
                rw [hu] at d1
                rw [hv] at d2
                rw [← hp] at d3 p1 p2
                have hsu : sm (k + 1) (c'.pt l) = sm k (c'.pt l) + (if l u = l v then 0 else p) := by
                  show sm k (c'.pt l) + c'.pt l k = _
                  unfold Cl.pt; rw [hu, hv, Int.toNat_natCast, Int.toNat_natCast, ← hp]
                have HSU := Lib.hid hsu
                obtain ⟨bl_, ol, rfl, _, eu⟩ := Vl.at HL.out ((HB.out.trans (H3.out.trans hin.out)).alc (.cells #[.int .i64 u, .int .i64 v, .int .i64 p] 65)) hun
                obtain ⟨bl2, ol2, e3, _, ev⟩ := Vl.at HL.out ((HB.out.trans (H3.out.trans hin.out)).alc (.cells #[.int .i64 u, .int .i64 v, .int .i64 p] 65)) hvn
                injection e3 with e3
                injection e3 with e3 e4
                subst e3 e4
                clear hu hv hp hsu
                go_upto_region 16 with fail
                have b0 : (wr.alloc (.cells #[.int .i64 u, .int .i64 v, .int .i64 p] 65)).cell? ⟨wr.heap.size, 0, none⟩ = some (.int .i64 u) := by rw [World.cell?_alloc_new]; rfl
                have b1 : (wr.alloc (.cells #[.int .i64 u, .int .i64 v, .int .i64 p] 65)).cell? ⟨wr.heap.size, 1, none⟩ = some (.int .i64 v) := by rw [World.cell?_alloc_new]; rfl
                have b2 : (wr.alloc (.cells #[.int .i64 u, .int .i64 v, .int .i64 p] 65)).cell? ⟨wr.heap.size, 2, none⟩ = some (.int .i64 p) := by rw [World.cell?_alloc_new]; rfl
                have ee := hin.out.alc (.cells #[.int .i64 u, .int .i64 v, .int .i64 p] 65)
                generalize wr.alloc (.cells #[.int .i64 u, .int .i64 v, .int .i64 p] 65) = w4 at *
                have HE4 := Lib.hid ee
                have f0 : w4.drew.cell? ⟨wr.heap.size, 0, none⟩ = some (.int .i64 u) := b0
                have f1 : w4.drew.cell? ⟨wr.heap.size, 1, none⟩ = some (.int .i64 v) := b1
                have f2 : w4.drew.cell? ⟨wr.heap.size, 2, none⟩ = some (.int .i64 p) := b2
                obtain ⟨su, hsu⟩ : ∃ x, x = l u := ⟨_, rfl⟩
                obtain ⟨sv, hsv⟩ : ∃ x, x = l v := ⟨_, rfl⟩
                rw [← hsu] at eu
                rw [← hsv] at ev
                have HUV := Lib.hid (And.intro hsu hsv)
                have eud : w4.drew.cell? ⟨bl_, ol + u, none⟩ = some (.bool su) := eu
                have evd : w4.drew.cell? ⟨bl_, ol + v, none⟩ = some (.bool sv) := ev
                clear b0 b1 b2 ee hsu hsv eu ev d1 d2 d3
                by_cases huv : su = sv
                · subst huv
                  have hne : (su != su) = false := by cases su <;> rfl
                  go_region
                  go_wp2
                  go_roundw
                  case rel => exact ⟨k + 1, by go_num, by omega, by rw [HY2.out, HSU.out, ← HUV.out.1, ← HUV.out.2, if_pos rfl, Int.add_zero], Lib.hid HE4.out.drw⟩
                  case measure => simp [intOf]; omega
                · have hne : (!(su == sv)) = true := by cases su <;> cases sv <;> simp_all
                  go_region
                  go_wp2
                  go_roundw
                  case rel => exact ⟨k + 1, by go_num, by omega, by rw [HY2.out, HSU.out, ← HUV.out.1, ← HUV.out.2, if_neg huv, Int.add_assoc], Lib.hid HE4.out.drw⟩
                  case measure => simp [intOf]; omega
              · obtain rfl : np = k := by omega
                go_wp2
                refine bodyPost_ret (v := .tuple #[.int .i64 y2, .int .i64 0]) (by simp [results, Try.results38, go_sem]) rfl ⟨y2, 0, rfl, HB.out.trans (H3.out.trans hin.out), .inr (.inr ⟨HOK.out, HN.out.2.2.1.symm, rfl, ?_⟩)⟩
                rw [HY2.out, HYY.out, HNP.out]
                unfold Cl.en
                rw [HN.out.2.2.1]
      · have hne : ((n : Int) != nb) = true := by simp; omega
        go_wp2
        refine bodyPost_ret (v := .tuple #[.int .i64 0, .int .i64 3]) (by simp [results, Try.results38, go_sem]) rfl ⟨0, 3, rfl, HB.out.trans HX.out, .inr (.inl ⟨HOK.out, by rw [HN.out.2.2.1]; exact hn, rfl, rfl⟩)⟩
end Go.Proofs.Ytilcbbdmenknfaa
namespace Go.Proofs.Ytilcbbdmenknfaa

/-- side number k of N nodes -/
def numb (N k : Nat) : Nat → Bool := fun v => decide (v = 0) || (decide (1 ≤ v) && decide (v < N - 1) && decide (k / 2 ^ (N - 2 - v) % 2 = 1))
theorem numb_zero (N k : Nat) : numb N k 0 = true := by unfold numb; simp
theorem numb_last {N : Nat} (k : Nat) (hN : 2 ≤ N) : numb N k (N - 1) = false := by
  have h1 : ¬ N - 1 = 0 := by omega
  have h2 : ¬ N - 1 < N - 1 := by omega
  unfold numb; simp [h1, h2]
theorem numb_mid {N v : Nat} (k : Nat) (h1 : 1 ≤ v) (h2 : v < N - 1) : numb N k v = decide (k / 2 ^ (N - 2 - v) % 2 = 1) := by
  have h3 : ¬ v = 0 := by omega
  unfold numb; simp [h3, h1, h2]
theorem numb_sd {N : Nat} (k : Nat) (hN : 2 ≤ N) : Nw.Sd 0 (N - 1) (numb N k) := ⟨numb_zero N k, numb_last k hN⟩
theorem bits_ex : ∀ (n : Nat) (f : Nat → Bool), ∃ k, k < 2 ^ n ∧ ∀ i, i < n → decide (k / 2 ^ i % 2 = 1) = f i := by
  intro n
  induction n with
  | zero => intro f; exact ⟨0, by omega, fun i hi => by omega⟩
  | succ n ih =>
    intro f
    obtain ⟨k, hk, h⟩ := ih (fun i => f (i + 1))
    have hp : 2 ^ (n + 1) = 2 * 2 ^ n := by rw [Nat.pow_succ]; omega
    refine ⟨2 * k + (if f 0 = true then 1 else 0), by split <;> omega, fun i hi => ?_⟩
    cases i with
    | zero =>
      rw [Nat.pow_zero, Nat.div_one]
      cases hf : f 0
      · rw [if_neg (by simp)]; simp
      · rw [if_pos rfl]; simp
    | succ i =>
      have e1 : (2 * k + if f 0 = true then 1 else 0) / 2 = k := by split <;> omega
      have e2 : (2 * k + if f 0 = true then 1 else 0) / 2 ^ (i + 1) = k / 2 ^ i := by
        rw [show 2 ^ (i + 1) = 2 * 2 ^ i by rw [Nat.pow_succ]; omega, ← Nat.div_div_eq_div_mul, e1]
      rw [e2]
      exact h i (by omega)
/-- every side has a number -/
theorem numb_ex {N : Nat} (hN : 2 ≤ N) {S : Nat → Bool} (h : Nw.Sd 0 (N - 1) S) : ∃ k, k < 2 ^ (N - 2) ∧ ∀ v, v < N → numb N k v = S v := by
  obtain ⟨k, hk, hb⟩ := bits_ex (N - 2) (fun i => S (N - 2 - i))
  refine ⟨k, hk, fun v hv => ?_⟩
  by_cases h0 : v = 0
  · subst h0; rw [numb_zero, h.1]
  · by_cases h1 : v = N - 1
    · subst h1; rw [numb_last k hN, h.2]
    · rw [numb_mid k (by omega) (by omega), hb _ (by omega)]
      congr 1; omega
theorem Nw.ct_congr (G : Nw) {N : Nat} (hN : G.In N) {S T : Nat → Bool} (h : ∀ v, v < N → S v = T v) : G.ct S = G.ct T := by
  refine sm_congr fun k hk => ?_
  rw [h _ (hN k hk).1, h _ (hN k hk).2]
/-- the intersection and the union of two minimum sides are minimum sides -/
theorem Ms.both {G : Nw} {N s t : Nat} {x : Nat → Int} (hN : G.In N) (hs : s < N) (ht : t < N) (h : Full G N s t x) {S T : Nat → Bool} (hS : Ms G s t S) (hT : Ms G s t T) :
    Ms G s t (fun v => S v && T v) ∧ Ms G s t (fun v => S v || T v) := by
  obtain ⟨a1, a2⟩ := (h.ms hN hs ht).1 hS
  obtain ⟨b1, b2⟩ := (h.ms hN hs ht).1 hT
  refine ⟨(h.ms hN hs ht).2 ⟨⟨by simp [a1.1, b1.1], by simp [a1.2]⟩, fun j hj hx hq => ?_⟩, (h.ms hN hs ht).2 ⟨⟨by simp [a1.1], by simp [a1.2, b1.2]⟩, fun j hj hx hq => ?_⟩⟩
  · simp only [Bool.and_eq_true] at hq ⊢
    exact ⟨a2 j hj hx hq.1, b2 j hj hx hq.2⟩
  · simp only [Bool.or_eq_true] at hq ⊢
    rcases hq with q | q
    · exact .inl (a2 j hj hx q)
    · exact .inr (b2 j hj hx q)
end Go.Proofs.Ytilcbbdmenknfaa
namespace Go.Proofs.Ytilcbbdmenknfaa
open Go.RowKit

theorem bits_and1 (x : Nat) (hx : x < 1000000) : bits .and .i64 (x : Int) 1 = ((x % 2 : Nat) : Int) := by
  have h1 : (BitVec.ofInt 64 (x : Int)).toNat = x := by
    rw [BitVec.ofInt_natCast, BitVec.toNat_ofNat]; exact Nat.mod_eq_of_lt (by omega)
  show IntKind.i64.wrap ((BitVec.ofInt 64 (x : Int) &&& BitVec.ofInt 64 (1 : Int)).toNat : Int) = _
  have h2 : (BitVec.ofInt 64 (1 : Int)).toNat = 1 := by decide
  rw [BitVec.toNat_and, h1, h2, Nat.and_one_is_mod]
  exact IntWalk.i64_in _ (by omega)
/-- the two lists are the same -/
def eqB (n m : Nat) (s t : Nat → Bool) : Bool := decide (n = m) && (List.range n).all fun i => s i == t i
theorem eqB_iff {n m : Nat} {s t : Nat → Bool} : eqB n m s t = true ↔ n = m ∧ ∀ i, i < n → s i = t i := by
  unfold eqB
  rw [Bool.and_eq_true, decide_eq_true_iff, List.all_eq_true]
  constructor
  · rintro ⟨h1, h2⟩; exact ⟨h1, fun i hi => by simpa using h2 i (List.mem_range.2 hi)⟩
  · rintro ⟨h1, h2⟩; exact ⟨h1, fun i hi => by simpa using h2 i (List.mem_range.1 hi)⟩
theorem eqB_no {n m : Nat} {s t : Nat → Bool} (h : ¬ (n = m ∧ ∀ i, i < n → s i = t i)) : eqB n m s t = false := by
  cases e : eqB n m s t
  · rfl
  · exact absurd (eqB_iff.1 e) h

set_option maxHeartbeats 4000000 in
set_option maxRecDepth 100000 in
theorem numbered_any (N k : Nat) (W : World) (hN : 2 ≤ N) (hN2 : N ≤ 12) (hk : k < 2 ^ (N - 2)) :
    Calls Try.prog 61 #[.int .i64 N, .int .i64 k] W fun e W' => ∃ g, e = .returned (.slice (some ⟨g, 0, none⟩) N N) ∧ W.heap.size ≤ g ∧ BB W' g N (numb N k) ∧ Ext W W' := by
  have hm1 : ∀ w, (Instr.makeSlice 40 (.int .i64 (N : Int)) (.int .i64 (N : Int))).run Try.prog w = .ok (.slice (some ⟨w.heap.size, 0, none⟩) N N) (w.alloc (.cells (Array.ofFn fun _ : Fin N => .bool false) 4)) := fun w => make_one 40 4 _ 1 Try.underlying40 info4 rfl (by omega) N (by omega) w
  have hk2 : k < 1024 := Nat.lt_of_lt_of_le hk (Nat.le_trans (Nat.pow_le_pow_right (by omega) (show N - 2 ≤ 10 by omega)) (by decide))
  have HK := Lib.hid hk; clear hk
  go_enter Try.func61, Try.ntmps61
  go_upto_region 2 with fail
  have bb := al1 W (.cells (Array.ofFn fun _ : Fin N => Value.bool false) 4)
  have hb : BB (W.alloc (.cells (Array.ofFn fun _ : Fin N => Value.bool false) 4)) W.heap.size N (fun _ => false) := heap_alloc_new W _
  generalize W.alloc (.cells (Array.ofFn fun _ : Fin N => Value.bool false) 4) = W1 at *
  have HX : Hid (Ext W W1) := Lib.hid bb
  have c0 := Bk.cell hb (show 0 < N by omega)
  have f0 := Bk.free hb 0
  have y := BB.set_ hb 0 true
  have HY := Lib.hid (And.intro y (Ext.sc bb (Nat.le_refl W.heap.size) (i := 0) (v := .bool true)))
  have h0N : (0 : Int) < N := by omega
  clear hb bb y
  go_wp2_with fail
  clear c0 f0
  go_loopw [6] (fun i wr => ∃ v : Nat, i = .int .i64 v ∧ 1 ≤ v ∧ v ≤ N - 1 ∧ Hid (BB wr W.heap.size N (fun u => if u < v then numb N k u else false) ∧ Ext W wr)) (fun i _ => N - (intOf i).toNat)
  case atStart =>
    refine ⟨1, rfl, Nat.le_refl _, by omega, Lib.hid ⟨Bk.congr HY.out.1 (fun j hj => ?_), HY.out.2⟩⟩
    congr 1
    by_cases e : j = 0
    · subst e; rw [up_self]; dsimp only; rw [if_pos (by omega), numb_zero]
    · rw [up_ne _ _ e]; dsimp only; rw [if_neg (by omega)]
  case round =>
    obtain ⟨v, rfl, hv1, hv2, hin⟩ := hrel
    by_cases hlt : v < N - 1
    · have hlt2 : (v : Int) < (N : Int) - 1 := by omega
      have cv := Bk.cell hin.out.1 (show v < N by omega)
      have fv := Bk.free hin.out.1 v
      obtain ⟨sh, hsh⟩ : ∃ sh : Nat, sh = N - 2 - v := ⟨_, rfl⟩
      have hsub : (N : Int) - 2 - v = sh := by omega
      have hsh2 : sh ≤ 10 := by omega
      have hvN : v < N := by omega
      have HS := Lib.hid hsh
      clear hsh
      obtain ⟨q, hq⟩ : ∃ q, q = decide (k / 2 ^ sh % 2 = 1) := ⟨_, rfl⟩
      have hbit : (bits BinOp.and IntKind.i64 ((k : Int) / 2 ^ sh) 1 == 1) = q := by
        have h1 : ((k : Int) / 2 ^ sh) = ((k / 2 ^ sh : Nat) : Int) := by rw [Int.natCast_ediv, Int.natCast_pow]; rfl
        have h2 : k / 2 ^ sh < 1000000 := Nat.lt_of_le_of_lt (Nat.div_le_self _ _) (by omega)
        rw [h1, bits_and1 _ h2, hq]
        exact Bool.eq_iff_iff.2 (by simp; omega)
      have HQ := Lib.hid hq; have HBIT := Lib.hid hbit
      have y := BB.set_ hin.out.1 v q
      have Y := Lib.hid y
      clear hq hbit y
      go_wp2
      rw [HBIT.out]
      go_roundw
      case rel =>
        refine ⟨v + 1, by go_num, by omega, by omega, Lib.hid ⟨Bk.congr Y.out (fun j hj => ?_), hin.out.2.sc (Nat.le_refl _)⟩⟩
        congr 1
        by_cases e : j = v
        · subst e; rw [up_self]; dsimp only; rw [if_pos (by omega), numb_mid k hv1 hlt, HQ.out, HS.out]
        · rw [up_ne _ _ e]; dsimp only
          by_cases e2 : j < v
          · rw [if_pos e2, if_pos (by omega)]
          · rw [if_neg e2, if_neg (by omega)]
      case measure => simp [intOf]; omega
    · obtain rfl : v = N - 1 := by omega
      have hlt2 : ¬ ((N - 1 : Nat) : Int) < (N : Int) - 1 := by omega
      go_wp2
      go_ret
      refine ⟨W.heap.size, rfl, Nat.le_refl _, Bk.congr hin.out.1 (fun j hj => ?_), hin.out.2⟩
      congr 1
      dsimp only
      by_cases e : j < N - 1
      · rw [if_pos e]
      · rw [if_neg e, show j = N - 1 by omega, numb_last k hN]

set_option maxHeartbeats 4000000 in
set_option maxRecDepth 100000 in
theorem equalB_any (n m : Nat) (s t : Nat → Bool) (U V : Value) (W : World) (hU : Bl W U n s) (hV : Bl W V m t) (hn : n ≤ 1000) :
    Calls Try.prog 25 #[U, V] W fun e W' => e = .returned (.bool (eqB n m s t)) ∧ Ext W W' := by
  obtain ⟨r, hr⟩ : ∃ r, r = eqB n m s t := ⟨_, rfl⟩
  rw [← hr]
  have HR := Lib.hid hr; clear hr
  have HU := Lib.hid hU; have HV := Lib.hid hV
  obtain ⟨A1, c1, rfl, hc1, hd1, -⟩ := hU
  obtain ⟨A2, c2, rfl, hc2, hd2, -⟩ := hV
  go_enter Try.func25, Try.ntmps25
  by_cases hnm : n = m
  · subst hnm
    go_wp2_with fail
    go_loopw [13] (fun i wr => ∃ k : Nat, i = .int .i64 k ∧ k ≤ n ∧ Hid ((∀ j, j < k → s j = t j) ∧ Ext W wr)) (fun i _ => n - (intOf i).toNat)
    case atStart => exact ⟨0, rfl, Nat.zero_le _, Lib.hid ⟨fun j hj => by omega, Ext.refl _⟩⟩
    case round =>
      obtain ⟨k, rfl, hk, hin⟩ := hrel
      by_cases hlt : k < n
      · obtain ⟨b1, o1, rfl, -, e1⟩ := Vl.at HU.out hin.out.2 hlt
        obtain ⟨b2, o2, rfl, -, e2⟩ := Vl.at HV.out hin.out.2 hlt
        go_upto_region 6 with fail
        obtain ⟨p, hp⟩ : ∃ p, p = s k := ⟨_, rfl⟩
        obtain ⟨q, hq⟩ : ∃ q, q = t k := ⟨_, rfl⟩
        rw [← hp] at e1; rw [← hq] at e2
        have HP := Lib.hid (And.intro hp hq)
        clear hp hq
        have e1d : wr.drew.cell? ⟨b1, o1 + k, none⟩ = some (.bool p) := e1
        have e2d : wr.drew.cell? ⟨b2, o2 + k, none⟩ = some (.bool q) := e2
        clear e1 e2
        by_cases hpq : p = q
        · subst hpq
          have hne : (p != p) = false := by cases p <;> rfl
          go_region
          go_wp2
          go_roundw
          case rel =>
            refine ⟨k + 1, by go_num, by omega, Lib.hid ⟨fun j hj => ?_, hin.out.2.drw⟩⟩
            by_cases e : j = k
            · subst e; rw [← HP.out.1, ← HP.out.2]
            · exact hin.out.1 j (by omega)
          case measure => simp [intOf]; omega
        · have hne : (!(p == q)) = true := by cases p <;> cases q <;> simp_all
          have hr : r = false := by rw [HR.out]; exact eqB_no (fun h => hpq (by rw [HP.out.1, HP.out.2]; exact h.2 k hlt))
          have HR2 := Lib.hid hr; clear hr
          go_region
          go_wp2
          go_ret
          exact ⟨by rw [HR2.out]; rfl, hin.out.2.drw⟩
      · obtain rfl : k = n := by omega
        have hr : r = true := by rw [HR.out]; exact eqB_iff.2 ⟨rfl, hin.out.1⟩
        have HR2 := Lib.hid hr; clear hr
        go_wp2
        go_ret
        exact ⟨by rw [HR2.out]; rfl, hin.out.2⟩
  · have hne : ((n : Int) != m) = true := by simp; omega
    have hr : r = false := by rw [HR.out]; exact eqB_no (fun h => hnm h.1)
    have HR2 := Lib.hid hr; clear hr
    go_wp2
    go_ret
    exact ⟨by rw [HR2.out]; rfl, Ext.refl _⟩
end Go.Proofs.Ytilcbbdmenknfaa
namespace Go.Proofs.Ytilcbbdmenknfaa
open Go.RowKit

theorem pow_shl (s : Nat) : (2 : Int) ^ s = ((2 ^ s : Nat) : Int) := by rw [Int.natCast_pow]; rfl
theorem shl_small (r : Nat) (h : r ≤ 10) : wrap64 ((2 : Int) ^ r) = ((2 ^ r : Nat) : Int) := by
  have h1 : 2 ^ r ≤ 1024 := Nat.le_trans (Nat.pow_le_pow_right (by omega) h) (by decide)
  rw [pow_shl]
  generalize 2 ^ r = P at *
  unfold wrap64
  omega


set_option maxRecDepth 100000 in
theorem info40 : (Try.prog.info? 40).map (fun i => (i.zero, i.size, i.bytes)) = some (some (.slice none 0 0), 1, 24) := by kernel_rfl

/-- the sides with the numbers ks lie at slice q, in blocks from base on -/
def Sdl (w : World) (base : Nat) (q : Value) (N : Nat) (ks : List Nat) : Prop :=
  ∃ gs : List Nat, gs.length = ks.length ∧ w.ownsRow base 40 1 q ks.length (gs.map fun g => .slice (some ⟨g, 0, none⟩) N N) ∧ ∀ i, i < ks.length → BB w (gs.getD i 0) N (numb N (ks.getD i 0))
theorem Sdl.ext {w w' : World} {base : Nat} {q : Value} {N : Nat} {ks : List Nat} (h : Sdl w base q N ks) (e : Ext w w') : Sdl w' base q N ks := by
  obtain ⟨gs, h1, h2, h3⟩ := h
  exact ⟨gs, h1, World.ownsRow.ext h2 e, fun i hi => (h3 i hi).ext e⟩
theorem own_ne {w : World} {base n N b : Nat} {q : Value} {xs : List Value} {s : Nat → Bool} (h : w.ownsRow base 40 1 q n xs) (hb : BB w b N s) : q.ownBlock ≠ some b := by
  intro e
  obtain ⟨-, ⟨rfl, -⟩ | ⟨g, cap, cur, rfl, -, hh, -⟩⟩ := h
  · simp [Value.ownBlock] at e
  · simp [Value.ownBlock] at e
    subst e
    unfold BB Bk at hb
    rw [hb] at hh
    simp at hh
theorem Sdl.more {w w' : World} {base N k g : Nat} {q q' : Value} {ks gs : List Nat} (h1 : gs.length = ks.length) (h2 : w.ownsRow base 40 1 q ks.length (gs.map fun g => .slice (some ⟨g, 0, none⟩) N N)) (h3 : ∀ i, i < ks.length → BB w (gs.getD i 0) N (numb N (ks.getD i 0)))
    (hg : BB w g N (numb N k)) (hq : w'.ownsRow base 40 1 q' (ks.length + 1) ((gs.map fun g => .slice (some ⟨g, 0, none⟩) N N) ++ [.slice (some ⟨g, 0, none⟩) N N])) (hgr : w.grownBy w' q.ownBlock) : Sdl w' base q' N (ks ++ [k]) := by
  have keep : ∀ b s, BB w b N s → BB w' b N s := fun b s hb => (hgr.block b (Bk.lt hb) (fun e => own_ne h2 hb e.symm)).trans hb
  refine ⟨gs ++ [g], by simp [h1], by rw [List.length_append, List.map_append]; exact hq, fun i hi => ?_⟩
  simp only [List.length_append, List.length_singleton] at hi
  simp only [List.getD_eq_getElem?_getD]
  by_cases e : i < ks.length
  · rw [List.getElem?_append_left (by omega), List.getElem?_append_left e]
    have := keep _ _ (h3 i e)
    simpa only [List.getD_eq_getElem?_getD] using this
  · have e2 : i = ks.length := by omega
    rw [List.getElem?_append_right (by omega), List.getElem?_append_right (by omega), h1, e2]
    simpa using keep _ _ hg

/-- the numbers of the minimum sides among the first k -/
def mins (G : Nw) (N : Nat) (v : Int) (k : Nat) : List Nat := (List.range k).filter fun i => decide (G.ct (numb N i) = v)
theorem mins_succ (G : Nw) (N : Nat) (v : Int) (k : Nat) : mins G N v (k + 1) = mins G N v k ++ (if G.ct (numb N k) = v then [k] else []) := by
  unfold mins
  rw [List.range_succ, List.filter_append]
  congr 1
  by_cases h : G.ct (numb N k) = v <;> simp [h]
theorem mins_len (G : Nw) (N : Nat) (v : Int) (k : Nat) : (mins G N v k).length ≤ k := Nat.le_trans (List.length_filter_le _ _) (by simp)

set_option maxHeartbeats 4000000 in
set_option maxRecDepth 100000 in
theorem sides_any (N : Int) (a : Ar) (AV : Value) (W : World) (hA : Al W AV a) :
    Calls Try.prog 28 #[.agg #[.int .i64 N, AV]] W fun e W' => ∃ (F : Value) (er : Int), e = .returned (.tuple #[F, .int .i64 er]) ∧ Ext W W' ∧
      ((vNet N a = false ∧ F = .slice none 0 0 ∧ er = 2) ∨ (vNet N a = true ∧ 12 < N ∧ F = .slice none 0 0 ∧ er = 3) ∨
        (vNet N a = true ∧ N ≤ 12 ∧ er = 0 ∧ ∃ v, Mc a.nw 0 (N.toNat - 1) v ∧ Sdl W' W.heap.size F N.toNat (mins a.nw N.toNat v (2 ^ (N.toNat - 2))))) := by
  have HA := Lib.hid hA
  obtain ⟨A, c, rfl, hac, hcm, -⟩ := hA
  go_enter Try.func28, Try.ntmps28
  go_upto_region 1 with fail
  have bb := al1 W (.cells #[.int .i64 N, .slice A a.n c] 30)
  have m0 : (W.alloc (.cells #[.int .i64 N, .slice A a.n c] 30)).cell? ⟨W.heap.size, 0, none⟩ = some (.int .i64 N) := by rw [World.cell?_alloc_new]; rfl
  have m1 : (W.alloc (.cells #[.int .i64 N, .slice A a.n c] 30)).cell? ⟨W.heap.size, 1, none⟩ = some (.slice A a.n c) := by rw [World.cell?_alloc_new]; rfl
  have zz : W.heap.size < (W.alloc (.cells #[.int .i64 N, .slice A a.n c] 30)).heap.size := by simp
  generalize W.alloc (.cells #[.int .i64 N, .slice A a.n c] 30) = W1 at *
  have HB : Hid (Ext W W1) := Lib.hid bb
  have HM := Lib.hid (And.intro m0 m1)
  clear bb
  go_wp2_with fail
  refine (isNet_any N a _ _ (HA.out.ext HB.out)).mono ?_
  rintro e w1 ⟨rfl, hx⟩
  replace m0 := keepAt hx zz m0
  replace m1 := keepAt hx zz m1
  have HX : Hid (Ext W1 w1) := Lib.hid hx
  clear hx
  cases hv : vNet N a
  · have HV := Lib.hid hv; clear hv
    go_wp2
    refine bodyPost_ret (v := .tuple #[.slice none 0 0, .int .i64 2]) (by simp [results, Try.results28, go_sem]) rfl ⟨_, 2, rfl, HB.out.trans HX.out, .inl ⟨HV.out, rfl, rfl⟩⟩
  · obtain ⟨m, rfl, hm2, hm40, hn, hok⟩ := vNet_ok hv
    have HOK := Lib.hid hok; have HV := Lib.hid hv
    clear hv hok
    by_cases h12 : m ≤ 12
    · have h12' : ¬ (12 : Int) < m := by omega
      go_wp2_with fail
      refine (filled_any m a _ _ (HA.out.ext (HB.out.trans HX.out)) HOK.out (by omega) hm2 (by omega)).mono ?_
      rintro e w2 ⟨x, gl, SV, rfl, -, hbi, hfull, -, hx⟩
      have HX2 : Hid (Ext W1 w2) := Lib.hid (HX.out.trans hx)
      have HFULL := Lib.hid hfull; have HBI := Lib.hid hbi
      clear hx m0 m1 hbi hfull
      go_wp2_with fail
      refine (value_any a m 0 ((m - 1 : Nat) : Int) (2 * a.n) 1000000 _ SV gl x _ (HA.out.ext (HB.out.trans HX2.out)) HOK.out (by omega) (by omega) rfl HBI.out HFULL.out.fp.rs).mono ?_
      rintro e w3 ⟨rfl, hx⟩
      have HX3 : Hid (Ext W1 w3) := Lib.hid (HX2.out.trans hx)
      have hmc := HFULL.out.mc HOK.out.in_ (by omega) (by omega)
      obtain ⟨v, hvv⟩ : ∃ v, v = a.nw.sp (Nw.fw x) 0 := ⟨_, rfl⟩
      rw [← hvv] at hmc ⊢
      have HMC := Lib.hid hmc
      have m0 := keepAt HX3.out zz HM.out.1
      clear hx hvv hmc
      obtain ⟨r, hr⟩ : ∃ r : Nat, r = m - 2 := ⟨_, rfl⟩
      have hr2 : (m : Int) - 2 = r := by omega
      have hr10 : r ≤ 10 := by omega
      have HRR := Lib.hid hr
      clear hr
      obtain ⟨P, hP⟩ : ∃ P, P = 2 ^ r := ⟨_, rfl⟩
      have hsh : wrap64 ((2 : Int) ^ r) = (P : Int) := by rw [shl_small r hr10, hP]
      have hP2 : P ≤ 1024 := by rw [hP]; exact Nat.le_trans (Nat.pow_le_pow_right (by omega) hr10) (by decide)
      have HPP := Lib.hid hP
      clear hP
      have zw3 := Nat.lt_of_lt_of_le zz HX3.out.size
      have hle3 := HX3.out.size
      obtain ⟨i0, hi, hz0, hz1, hz2⟩ := info_parts info40
      go_wp2_with fail
      rw [hsh]
      clear m0 hsh
      go_loopw [4, 21] (fun q i wr => ∃ k : Nat, i = .int .i64 k ∧ k ≤ P ∧ Hid (Sdl wr w3.heap.size q m (mins a.nw m v k) ∧ Ext W1 wr ∧ w3.heap.size ≤ wr.heap.size)) (fun _ i _ => P - (intOf i).toNat)
      case atStart => exact ⟨0, rfl, Nat.zero_le _, Lib.hid ⟨⟨[], rfl, World.ownsRow_nil _ _ _ _, fun i hi => by simp [mins] at hi⟩, HX3.out, Nat.le_refl _⟩⟩
      case round =>
        obtain ⟨k, rfl, hk, hin⟩ := hrel
        have m0 := keepAt hin.out.2.1 zz HM.out.1
        have m1 := keepAt hin.out.2.1 zz HM.out.2
        have zwr := Nat.lt_of_lt_of_le zz hin.out.2.1.size
        by_cases hlt : k < P
        · have hk2 : k < 2 ^ (m - 2) := by rw [← HRR.out, ← HPP.out]; exact hlt
          go_wp2_with fail
          refine (numbered_any m k _ hm2 h12 hk2).mono ?_
          rintro e w4 ⟨g, rfl, hg, hbb, hx⟩
          replace m0 := keepAt hx zwr m0
          replace m1 := keepAt hx zwr m1
          have HBB := Lib.hid hbb
          have HX4 : Hid (Ext W1 w4) := Lib.hid (hin.out.2.1.trans hx)
          have HS4 : Hid (Sdl w4 w3.heap.size u4 m (mins a.nw m v k) ∧ w3.heap.size ≤ w4.heap.size) := Lib.hid ⟨hin.out.1.ext hx, Nat.le_trans hin.out.2.2 hx.size⟩
          clear hx hbb
          go_wp2_with fail
          refine (cost_any a m (numb m k) _ _ _ (HA.out.ext (HB.out.trans HX4.out)) (BB.bl HBB.out (by omega)) HOK.out (by omega)).mono ?_
          rintro e w5 ⟨rfl, hx⟩
          have HX5 : Hid (Ext W1 w5) := Lib.hid (HX4.out.trans hx)
          have HB5 := Lib.hid (HBB.out.ext hx)
          have HS5 : Hid (Sdl w5 w3.heap.size u4 m (mins a.nw m v k) ∧ w3.heap.size ≤ w5.heap.size) := Lib.hid ⟨HS4.out.1.ext hx, Nat.le_trans HS4.out.2 hx.size⟩
          obtain ⟨y, hy⟩ : ∃ y, y = a.nw.ct (numb m k) := ⟨_, rfl⟩
          rw [← hy]
          have HY := Lib.hid hy
          clear hx m0 m1 hy HBB HS4
          by_cases hyv : y = v
          · subst hyv
            obtain ⟨gs, hgl, how, hbs⟩ := HS5.out.1
            have hown := World.ownsRow.ext how (Ext.alc (Ext.refl w5) (.cells #[.slice (some ⟨g, 0, none⟩) m m] 40))
            have HBS := Lib.hid (And.intro hgl (And.intro how hbs))
            have hvs : ∃ A n c, u4 = .slice A n c := by
              obtain ⟨-, ⟨rfl, -⟩ | ⟨g, cap, cur, rfl, -⟩⟩ := how
              · exact ⟨_, _, _, rfl⟩
              · exact ⟨_, _, _, rfl⟩
            have hml := mins_len a.nw m y k
            have hsz5 := HS5.out.2
            obtain ⟨L, hL⟩ : ∃ L, L = (mins a.nw m y k).length := ⟨_, rfl⟩
            rw [← hL] at hown hml
            have HLL := Lib.hid hL
            clear hgl how hbs hL
            obtain ⟨Av, nv, cv, rfl⟩ := hvs
            go_wp2_with (at_builtin; refine wpList_append_own _ rfl _ _ 49 rfl w3.heap.size 40 i0 (.slice none 0 0) 1 24 Try.underlying49 hi hz0 hz1 hz2 rfl (by decide) _ L _ rfl hown ⟨w5.heap.size, 0, none⟩ 1 1 [.slice (some ⟨g, 0, none⟩) m m] rfl rfl ?c1 ?c2 ?c3 ?c4 ?c5 ?_)
            case c1 =>
              intro j u hj
              match j, hj with
              | 0, hj => simp at hj; subst hj; simp [Addr.add]
              | j + 1, hj => simp at hj
            case c2 => intro u hu; simp at hu; subst hu; rfl
            case c3 => unfold maxLen; omega
            case c4 => omega
            case c5 => simp; omega
            intro v' w6 hown' hgrow hnil
            clear hnil
            have HN : Hid (Sdl w6 w3.heap.size v' m (mins a.nw m y (k + 1)) ∧ Ext W1 w6 ∧ w3.heap.size ≤ w6.heap.size) := by
              obtain ⟨hgl, how, hbs⟩ := HBS.out
              rw [HLL.out] at hown'
              have hxa : Ext w5 (w5.alloc (.cells #[.slice (some ⟨g, 0, none⟩) m m] 40)) := Ext.alc (Ext.refl w5) _
              have hsd := Sdl.more hgl (World.ownsRow.ext how hxa) (fun i hi => (hbs i hi).ext hxa) (HB5.out.ext hxa) hown' hgrow
              refine Lib.hid ⟨?_, ?_, ?_⟩
              · rw [mins_succ, ← HY.out, if_pos rfl]; exact hsd
              · have hb0 := World.ownsRow.lt how
                have e := HX5.out
                exact ⟨hgrow.os.trans e.os, hgrow.tape.trans e.tape, hgrow.output.trans e.output, by have h1 := hgrow.size; have h2 := e.size; simp at h1; omega, fun b hb => (hgrow.block b (by have h2 := e.size; simp; omega) (fun e2 => by have := (hb0 b e2.symm).1; omega)).trans ((Below.heap_alloc _ _ b (by have h2 := e.size; omega)).trans (e.block b hb))⟩
              · have h1 := hgrow.size; simp at h1; omega
            clear hown' hgrow hown
            go_wp2
            go_roundw
            case rel => exact ⟨k + 1, by go_num, by omega, HN⟩
            case measure => simp [intOf]; omega
          · have hyv' : (y == v) = false := by simp; exact hyv
            go_wp2
            go_roundw
            case rel =>
              refine ⟨k + 1, by go_num, by omega, Lib.hid ⟨?_, HX5.out, HS5.out.2⟩⟩
              rw [mins_succ, ← HY.out, if_neg hyv, List.append_nil]
              exact HS5.out.1
            case measure => simp [intOf]; omega
        · obtain rfl : k = P := by omega
          clear m0 m1
          go_wp2
          refine bodyPost_ret (v := .tuple #[u4, .int .i64 0]) (by simp [results, Try.results28, go_sem]) rfl ⟨_, 0, rfl, HB.out.trans hin.out.2.1, .inr (.inr ⟨HV.out, by omega, rfl, v, ?_, ?_⟩)⟩
          · rw [Int.toNat_natCast]; exact HMC.out
          · rw [Int.toNat_natCast, ← HRR.out, ← HPP.out]
            obtain ⟨gs, h1, h2, h3⟩ := hin.out.1
            exact ⟨gs, h1, ⟨h2.1, h2.2.imp id fun ⟨g, cap, cur, e, hg, rest⟩ => ⟨g, cap, cur, e, by omega, rest⟩⟩, h3⟩
    · have h12' : (12 : Int) < m := by omega
      clear h12
      go_wp2
      refine bodyPost_ret (v := .tuple #[.slice none 0 0, .int .i64 3]) (by simp [results, Try.results28, go_sem]) rfl ⟨_, 3, rfl, HB.out.trans HX.out, .inr (.inl ⟨HV.out, h12', rfl, rfl⟩)⟩
end Go.Proofs.Ytilcbbdmenknfaa
