/- The minimum sides of the program and of the reference are the same. · Energies and labellings of the program and of the reference are the same. · The law WaxPrices. -/
import Derived.Test.YtilcbbdmenknfaaM29
import Derived.Test.YtilcbbdmenknfaaM16
import Derived.Test.YtilcbbdmenknfaaM26
import Derived.Test.YtilcbbdmenknfaaM28
import Derived.Test.YtilcbbdmenknfaaM27
import Derived.Test.YtilcbbdmenknfaaM13
namespace Go.Proofs.Ytilcbbdmenknfaa
open Go.RowKit

theorem lst_same {G : Nw} {N s t : Nat} {L M : Nat → Bool} (h : Lst G N s t L) (k : Lst G N s t M) : ∀ v, v < N → L v = M v := by
  intro v hv
  have h1 := h.2 M k.1 v hv
  have h2 := k.2 L h.1 v hv
  cases a : L v <;> cases b : M v <;> simp_all
theorem gst_same {G : Nw} {N s t : Nat} {L M : Nat → Bool} (h : Gst G N s t L) (k : Gst G N s t M) : ∀ v, v < N → L v = M v := by
  intro v hv
  have h1 := h.2 M k.1 v hv
  have h2 := k.2 L h.1 v hv
  cases a : L v <;> cases b : M v <;> simp_all
theorem bl_nil (w : World) (s : Nat → Bool) : Bl w (.slice none 0 0) 0 s := ⟨none, 0, rfl, Nat.le_refl _, by omega, fun h => by omega⟩
theorem vNet_N {N : Int} {a : Ar} (h : vNet N a = true) : N.toNat ≤ 40 := by
  obtain ⟨m, rfl, -, h2, -⟩ := vNet_ok h
  omega

theorem least_both (N : Int) (a : Ar) : ∃ (er : Int) (n : Nat) (L : Nat → Bool), n ≤ 40 ∧
    (∀ AV W, Al W AV (a.cut 162) → Calls Try.prog 23 #[.agg #[.int .i64 N, AV]] W fun e W' => ∃ F, e = .returned (.tuple #[F, .int .i64 er]) ∧ Bl W' F n L ∧ Ext W W') ∧
    (∀ AV W, Al W AV a → Calls Try.prog 24 #[.agg #[.int .i64 N, AV]] W fun e W' => ∃ F, e = .returned (.tuple #[F, .int .i64 er]) ∧ Bl W' F n L ∧ Ext W W') := by
  cases hv : vNet N a
  · refine ⟨2, 0, fun _ => false, by omega, fun AV W hA => ?_, fun AV W hA => ?_⟩
    · refine (leastS_any N _ AV W hA).mono ?_
      rintro e w ⟨F, er, rfl, hx, ⟨-, rfl, rfl⟩ | ⟨h1, -⟩⟩
      · exact ⟨_, rfl, bl_nil _ _, hx⟩
      · rw [vNet_cut, hv] at h1; cases h1
    · refine (leastR_any N a AV W hA).mono ?_
      rintro e w ⟨F, er, rfl, hx, ⟨-, rfl, rfl⟩ | ⟨h1, -⟩⟩
      · exact ⟨_, rfl, bl_nil _ _, hx⟩
      · rw [hv] at h1; cases h1
  · have hN := vNet_N hv
    have hca := vNet_same hv
    obtain ⟨L0, hL0⟩ : ∃ L0 : Nat → Bool, ∀ L, Lst a.nw N.toNat 0 (N.toNat - 1) L → ∀ v, v < N.toNat → L v = L0 v := by
      by_cases h : ∃ L, Lst a.nw N.toNat 0 (N.toNat - 1) L
      · obtain ⟨L, hL⟩ := h
        exact ⟨L, fun M hM => lst_same hM hL⟩
      · exact ⟨fun _ => false, fun L hL => absurd ⟨L, hL⟩ h⟩
    refine ⟨0, N.toNat, L0, hN, fun AV W hA => ?_, fun AV W hA => ?_⟩
    · refine (leastS_any N _ AV W hA).mono ?_
      rintro e w ⟨F, er, rfl, hx, ⟨h1, -⟩ | ⟨h1, rfl, g, L, rfl, hg, hb, hl⟩⟩
      · rw [vNet_cut, hv] at h1; cases h1
      · rw [hca] at hl
        exact ⟨_, rfl, Bl.congr (BB.bl hb (by omega)) (hL0 L hl), hx⟩
    · refine (leastR_any N a AV W hA).mono ?_
      rintro e w ⟨F, er, rfl, hx, ⟨h1, -⟩ | ⟨h1, rfl, L, hb, hl⟩⟩
      · rw [hv] at h1; cases h1
      · exact ⟨_, rfl, Bl.congr hb (hL0 L hl), hx⟩
theorem greatest_both (N : Int) (a : Ar) : ∃ (er : Int) (n : Nat) (L : Nat → Bool), n ≤ 40 ∧
    (∀ AV W, Al W AV (a.cut 162) → Calls Try.prog 26 #[.agg #[.int .i64 N, AV]] W fun e W' => ∃ F, e = .returned (.tuple #[F, .int .i64 er]) ∧ Bl W' F n L ∧ Ext W W') ∧
    (∀ AV W, Al W AV a → Calls Try.prog 27 #[.agg #[.int .i64 N, AV]] W fun e W' => ∃ F, e = .returned (.tuple #[F, .int .i64 er]) ∧ Bl W' F n L ∧ Ext W W') := by
  cases hv : vNet N a
  · refine ⟨2, 0, fun _ => false, by omega, fun AV W hA => ?_, fun AV W hA => ?_⟩
    · refine (greatestS_any N _ AV W hA).mono ?_
      rintro e w ⟨F, er, rfl, hx, ⟨-, rfl, rfl⟩ | ⟨h1, -⟩⟩
      · exact ⟨_, rfl, bl_nil _ _, hx⟩
      · rw [vNet_cut, hv] at h1; cases h1
    · refine (greatestR27_any N a AV W hA).mono ?_
      rintro e w ⟨F, er, rfl, hx, ⟨-, rfl, rfl⟩ | ⟨h1, -⟩⟩
      · exact ⟨_, rfl, bl_nil _ _, hx⟩
      · rw [hv] at h1; cases h1
  · have hN := vNet_N hv
    have hca := vNet_same hv
    obtain ⟨L0, hL0⟩ : ∃ L0 : Nat → Bool, ∀ L, Gst a.nw N.toNat 0 (N.toNat - 1) L → ∀ v, v < N.toNat → L v = L0 v := by
      by_cases h : ∃ L, Gst a.nw N.toNat 0 (N.toNat - 1) L
      · obtain ⟨L, hL⟩ := h
        exact ⟨L, fun M hM => gst_same hM hL⟩
      · exact ⟨fun _ => false, fun L hL => absurd ⟨L, hL⟩ h⟩
    refine ⟨0, N.toNat, L0, hN, fun AV W hA => ?_, fun AV W hA => ?_⟩
    · refine (greatestS_any N _ AV W hA).mono ?_
      rintro e w ⟨F, er, rfl, hx, ⟨h1, -⟩ | ⟨h1, rfl, g, L, rfl, hg, hb, hl⟩⟩
      · rw [vNet_cut, hv] at h1; cases h1
      · rw [hca] at hl
        exact ⟨_, rfl, Bl.congr (BB.bl hb (by omega)) (hL0 L hl), hx⟩
    · refine (greatestR27_any N a AV W hA).mono ?_
      rintro e w ⟨F, er, rfl, hx, ⟨h1, -⟩ | ⟨h1, rfl, L, hb, hl⟩⟩
      · rw [hv] at h1; cases h1
      · exact ⟨_, rfl, Bl.congr hb (hL0 L hl), hx⟩
theorem Rws.nil (w : World) (N : Nat) (f : Nat → Nat → Bool) : Rws w (.slice none 0 0) N 0 f := ⟨none, 0, rfl, fun h => by omega⟩
theorem Rws.congr {w : World} {q : Value} {N n : Nat} {f g : Nat → Nat → Bool} (h : Rws w q N n f) (e : ∀ i, i < n → ∀ v, v < N → f i v = g i v) : Rws w q N n g := by
  obtain ⟨A, c, rfl, h1⟩ := h
  refine ⟨A, c, rfl, fun hp => ?_⟩
  obtain ⟨b, off, rfl, hb, hc⟩ := h1 hp
  exact ⟨b, off, rfl, hb, fun i hi => by obtain ⟨u, h2, h3⟩ := hc i hi; exact ⟨u, h2, h3.congr (e i hi)⟩⟩
theorem sides_both (N : Int) (a : Ar) : ∃ (er : Int) (n m : Nat) (f : Nat → Nat → Bool), m ≤ 40 ∧ n ≤ 4096 ∧
    (∀ AV W, Al W AV (a.cut 162) → Calls Try.prog 28 #[.agg #[.int .i64 N, AV]] W fun e W' => ∃ F, e = .returned (.tuple #[F, .int .i64 er]) ∧ Rws W' F m n f ∧ Ext W W') ∧
    (∀ AV W, Al W AV a → Calls Try.prog 29 #[.agg #[.int .i64 N, AV]] W fun e W' => ∃ F, e = .returned (.tuple #[F, .int .i64 er]) ∧ Rws W' F m n f ∧ Ext W W') := by
  cases hv : vNet N a
  · refine ⟨2, 0, 0, fun _ _ => false, by omega, by omega, fun AV W hA => ?_, fun AV W hA => ?_⟩
    · refine (sides_any N _ AV W hA).mono ?_
      rintro e w ⟨F, er, rfl, hx, ⟨-, rfl, rfl⟩ | ⟨h1, -⟩ | ⟨h1, -⟩⟩
      · exact ⟨_, rfl, Rws.nil _ _ _, hx⟩
      · rw [vNet_cut, hv] at h1; cases h1
      · rw [vNet_cut, hv] at h1; cases h1
    · refine (sidesR_any N a AV W hA).mono ?_
      rintro e w ⟨F, er, rfl, hx, ⟨-, rfl, rfl⟩ | ⟨h1, -⟩ | ⟨h1, -⟩⟩
      · exact ⟨_, rfl, Rws.nil _ _ _, hx⟩
      · rw [hv] at h1; cases h1
      · rw [hv] at h1; cases h1
  · have hN := vNet_N hv
    have hca := vNet_same hv
    by_cases h12 : N ≤ 12
    · obtain ⟨k, rfl, hk2, -, hn, hok⟩ := vNet_ok hv
      rw [Int.toNat_natCast] at hN
      obtain ⟨v0, hv0⟩ : ∃ v0 : Int, ∀ v, Mc a.nw 0 (k - 1) v → v = v0 := by
        by_cases h : ∃ v, Mc a.nw 0 (k - 1) v
        · obtain ⟨v, hv⟩ := h
          exact ⟨v, fun w hw => hw.one hv⟩
        · exact ⟨0, fun v hv => absurd ⟨v, hv⟩ h⟩
      obtain ⟨ks, hks⟩ : ∃ ks, ks = mins a.nw k v0 (2 ^ (k - 2)) := ⟨_, rfl⟩
      have hlen : ks.length ≤ 4096 := by
        rw [hks]; exact Nat.le_trans (mins_len _ _ _ _) (Nat.le_trans (Nat.pow_le_pow_right (by omega) (show k - 2 ≤ 12 by omega)) (by decide))
      refine ⟨0, ks.length, k, fun i => numb k (ks.getD i 0), hN, hlen, fun AV W hA => ?_, fun AV W hA => ?_⟩
      · refine (sides_any k _ AV W hA).mono ?_
        rintro e w ⟨F, er, rfl, hx, ⟨h1, -⟩ | ⟨h1, h2, -⟩ | ⟨h1, h2, rfl, v, h3, h4⟩⟩
        · rw [vNet_cut, hv] at h1; cases h1
        · omega
        · rw [hca, Int.toNat_natCast] at h3 h4
          rw [hv0 v h3, ← hks] at h4
          exact ⟨_, rfl, Sdb.rws (B := numb k) h4 (by omega), hx⟩
      · refine (sidesR_any k a AV W hA).mono ?_
        rintro e w ⟨F, er, rfl, hx, ⟨h1, -⟩ | ⟨h1, h2, -⟩ | ⟨h1, h2, rfl, v, h3, h4⟩⟩
        · rw [hv] at h1; cases h1
        · omega
        · rw [Int.toNat_natCast] at h3 h4
          rw [hv0 v h3, rmins_mins hk2 hok.in_, ← hks, List.length_map] at h4
          refine ⟨_, rfl, h4.congr fun i hi u hu => ?_, hx⟩
          have e1 : (ks.map fun j => 2 ^ (k - 1) + 2 * j).getD i 0 = 2 ^ (k - 1) + 2 * ks.getD i 0 := by
            simp only [List.getD_eq_getElem?_getD, List.getElem?_map, List.getElem?_eq_getElem hi]
            rfl
          rw [e1]
          have hmem : ks.getD i 0 ∈ ks := by rw [List.getD_eq_getElem?_getD, List.getElem?_eq_getElem hi]; exact List.getElem_mem hi
          have hlt : ks.getD i 0 < 2 ^ (k - 2) := by
            generalize ks.getD i 0 = z at hmem ⊢
            rw [hks] at hmem
            exact (mins_mem.1 hmem).1
          exact bnum_numb hk2 hlt hu
    · refine ⟨3, 0, 0, fun _ _ => false, by omega, by omega, fun AV W hA => ?_, fun AV W hA => ?_⟩
      · refine (sides_any N _ AV W hA).mono ?_
        rintro e w ⟨F, er, rfl, hx, ⟨h1, -⟩ | ⟨h1, h2, rfl, rfl⟩ | ⟨h1, h2, -⟩⟩
        · rw [vNet_cut, hv] at h1; cases h1
        · exact ⟨_, rfl, Rws.nil _ _ _, hx⟩
        · omega
      · refine (sidesR_any N a AV W hA).mono ?_
        rintro e w ⟨F, er, rfl, hx, ⟨h1, -⟩ | ⟨h1, h2, rfl, rfl⟩ | ⟨h1, h2, -⟩⟩
        · rw [hv] at h1; cases h1
        · exact ⟨_, rfl, Rws.nil _ _ _, hx⟩
        · omega

set_option maxHeartbeats 4000000 in
set_option maxRecDepth 100000 in
theorem equalF_any (n N : Nat) (f : Nat → Nat → Bool) (U V : Value) (W : World) (hU : Rws W U N n f) (hV : Rws W V N n f) (hn : n ≤ 1000000) (hN : N ≤ 1000) :
    Calls Try.prog 30 #[U, V, .func (.func 25) #[] #[]] W fun e W' => e = .returned (.bool true) ∧ Ext W W' := by
  have HU := Lib.hid hU; have HV := Lib.hid hV
  obtain ⟨A1, c1, rfl, h1⟩ := hU
  obtain ⟨A2, c2, rfl, h2⟩ := hV
  have H1 := Lib.hid h1; have H2 := Lib.hid h2
  clear h1 h2
  go_enter Try.func30, Try.ntmps30
  go_wp2_with fail
  go_loopw [17] (fun i wr => ∃ k : Nat, i = .int .i64 k ∧ k ≤ n ∧ Hid (Ext W wr)) (fun i _ => n - (intOf i).toNat)
  case atStart => exact ⟨0, rfl, Nat.zero_le _, Lib.hid (Ext.refl _)⟩
  case round =>
    obtain ⟨k, rfl, hk, hin⟩ := hrel
    by_cases hlt : k < n
    · obtain ⟨b1, o1, rfl, hb1, hc1⟩ := H1.out (by omega)
      obtain ⟨b2, o2, rfl, hb2, hc2⟩ := H2.out (by omega)
      obtain ⟨u1, d1, e1⟩ := hc1 k hlt
      obtain ⟨u2, d2, e2⟩ := hc2 k hlt
      have d1' := keepAt hin.out hb1 d1
      have d2' := keepAt hin.out hb2 d2
      have hE := And.intro (Bl.ext e1 hin.out) (Bl.ext e2 hin.out)
      have HE := Lib.hid hE
      obtain ⟨Au, cu, rfl, -⟩ := e1
      obtain ⟨Aw, cw, rfl, -⟩ := e2
      clear hc1 hc2 d1 d2 hE
      go_wp2_with fail
      refine (equalB_any N N (f k) (f k) _ _ _ HE.out.1 HE.out.2 hN).mono ?_
      rintro e w ⟨rfl, hx⟩
      have ht : eqB N N (f k) (f k) = true := eqB_iff.2 ⟨rfl, fun i _ => rfl⟩
      rw [ht]
      have HX := Lib.hid (hin.out.trans hx)
      clear hx ht d1' d2'
      go_wp2
      go_roundw
      case rel => exact ⟨k + 1, by go_num, by omega, HX⟩
      case measure => simp [intOf]; omega
    · obtain rfl : k = n := by omega
      go_wp2
      go_ret
      exact ⟨rfl, hin.out⟩
end Go.Proofs.Ytilcbbdmenknfaa
namespace Go.Proofs.Ytilcbbdmenknfaa
open Go.RowKit

theorem vCl_cut (c : Cl) : vCl c.cut = vCl c := by
  unfold vCl Cl.cut
  dsimp only
  cases q1 : bw c.w 1 6
  · simp
  · cases q2 : bw c.h 1 6
    · simp
    · obtain ⟨w1, w2⟩ := bw_iff.1 q1
      obtain ⟨h1, h2⟩ := bw_iff.1 q2
      have a1 := (side_prod (show 0 ≤ c.w by omega) w2 (show 0 ≤ c.h by omega) h2).2
      have a2 := (side_prod (show 0 ≤ c.w - 1 by omega) (show c.w - 1 ≤ 5 by omega) (show 0 ≤ c.h by omega) h2).2
      have a3 := (side_prod (show 0 ≤ c.w by omega) w2 (show 0 ≤ c.h - 1 by omega) (show c.h - 1 ≤ 5 by omega)).2
      rw [okL_cut (by omega), okL_cut (by omega), okL_cut (by omega), okL_cut (by omega)]
theorem cut_same {c : Cl} (h : vCl c = true) : c.cut = c := by
  obtain ⟨⟨w1, w2⟩, ⟨h1, h2⟩, ⟨v5, -⟩, ⟨v7, -⟩, ⟨v9, -⟩, ⟨v11, -⟩⟩ := vCl_ok h
  have a1 := (side_prod (show 0 ≤ c.w by omega) w2 (show 0 ≤ c.h by omega) h2).2
  have a2 := (side_prod (show 0 ≤ c.w - 1 by omega) (show c.w - 1 ≤ 5 by omega) (show 0 ≤ c.h by omega) h2).2
  have a3 := (side_prod (show 0 ≤ c.w by omega) w2 (show 0 ≤ c.h - 1 by omega) (show c.h - 1 ≤ 5 by omega)).2
  have e1 : min c.nb 50 = c.nb := by omega
  have e2 : min c.nx 50 = c.nx := by omega
  have e3 : min c.nr 50 = c.nr := by omega
  have e4 : min c.nd 50 = c.nd := by omega
  unfold Cl.cut
  rw [e1, e2, e3, e4]
theorem vCl_nb {c : Cl} (h : vCl c = true) : c.nb ≤ 36 := by
  obtain ⟨⟨w1, w2⟩, ⟨h1, h2⟩, ⟨v5, -⟩, -⟩ := vCl_ok h
  have a1 := (side_prod (show 0 ≤ c.w by omega) w2 (show 0 ≤ c.h by omega) h2).2
  omega
theorem energy_both (c : Cl) (ri : Int) (n : Nat) (l : Nat → Bool) : ∃ (v er : Int),
    (∀ V LV W, Kl W V c.cut → Bl W LV n l → Calls Try.prog 38 #[V, .int .i64 ri, LV] W fun e W' => e = .returned (.tuple #[.int .i64 v, .int .i64 er]) ∧ Ext W W') ∧
    (∀ V LV W, Kl W V c → Bl W LV n l → Calls Try.prog 40 #[V, .int .i64 ri, LV] W fun e W' => e = .returned (.tuple #[.int .i64 v, .int .i64 er]) ∧ Ext W W') := by
  cases hv : (vCl c && bw ri (-10000) 10000)
  · refine ⟨0, 2, fun V LV W hV hL => ?_, fun V LV W hV hL => ?_⟩
    · refine (energy_any _ ri n l V LV W hV hL).mono ?_
      rintro e w ⟨v, er, rfl, hx, ⟨-, rfl, rfl⟩ | ⟨h1, -⟩ | ⟨h1, -⟩⟩
      · exact ⟨rfl, hx⟩
      · rw [vCl_cut, hv] at h1; cases h1
      · rw [vCl_cut, hv] at h1; cases h1
    · refine (energyR_any _ ri n l V LV W hV hL).mono ?_
      rintro e w ⟨v, er, rfl, hx, ⟨-, rfl, rfl⟩ | ⟨h1, -⟩ | ⟨h1, -⟩⟩
      · exact ⟨rfl, hx⟩
      · rw [hv] at h1; cases h1
      · rw [hv] at h1; cases h1
  · have hc : c.cut = c := cut_same (by rw [Bool.and_eq_true] at hv; exact hv.1)
    rw [hc]
    by_cases hn : n = c.nb
    · refine ⟨c.en ri l, 0, fun V LV W hV hL => ?_, fun V LV W hV hL => ?_⟩
      · refine (energy_any _ ri n l V LV W hV hL).mono ?_
        rintro e w ⟨v, er, rfl, hx, ⟨h1, -⟩ | ⟨-, h1, -⟩ | ⟨-, -, rfl, rfl⟩⟩
        · rw [hv] at h1; cases h1
        · exact absurd hn h1
        · exact ⟨rfl, hx⟩
      · refine (energyR_any _ ri n l V LV W hV hL).mono ?_
        rintro e w ⟨v, er, rfl, hx, ⟨h1, -⟩ | ⟨-, h1, -⟩ | ⟨-, -, rfl, rfl⟩⟩
        · rw [hv] at h1; cases h1
        · exact absurd hn h1
        · exact ⟨rfl, hx⟩
    · refine ⟨0, 3, fun V LV W hV hL => ?_, fun V LV W hV hL => ?_⟩
      · refine (energy_any _ ri n l V LV W hV hL).mono ?_
        rintro e w ⟨v, er, rfl, hx, ⟨h1, -⟩ | ⟨-, -, rfl, rfl⟩ | ⟨-, h1, -⟩⟩
        · rw [hv] at h1; cases h1
        · exact ⟨rfl, hx⟩
        · exact absurd h1 hn
      · refine (energyR_any _ ri n l V LV W hV hL).mono ?_
        rintro e w ⟨v, er, rfl, hx, ⟨h1, -⟩ | ⟨-, -, rfl, rfl⟩ | ⟨-, h1, -⟩⟩
        · rw [hv] at h1; cases h1
        · exact ⟨rfl, hx⟩
        · exact absurd h1 hn

set_option maxHeartbeats 4000000 in
set_option maxRecDepth 100000 in
theorem labelsRS_any (c : Cl) (ri : Int) (V : Value) (W : World) (hV : Kl W V c) :
    Calls Try.prog 42 #[V, .int .i64 ri] W fun e W' => ∃ (F G : Value) (er : Int), e = .returned (.tuple #[F, G, .int .i64 er]) ∧ Ext W W' ∧
      (((vCl c && bw ri (-10000) 10000) = false ∧ F = .slice none 0 0 ∧ G = .slice none 0 0 ∧ er = 2) ∨
       ((vCl c && bw ri (-10000) 10000) = true ∧ er = 0 ∧ ∃ L M, Bl W' F c.nb L ∧ Bl W' G c.nb M ∧ Lst (c.nwa ri).nw (c.nb + 2) c.nb (c.nb + 1) L ∧ Gst (c.nwa ri).nw (c.nb + 2) c.nb (c.nb + 1) M)) := by
  have HV := Lib.hid hV
  obtain ⟨B, X, R, D, rfl, -, -, -, -⟩ := hV
  obtain ⟨w, hw⟩ : ∃ w, w = c.w := ⟨_, rfl⟩
  obtain ⟨h, hh⟩ : ∃ h, h = c.h := ⟨_, rfl⟩
  rw [← hw, ← hh] at HV ⊢
  clear hw hh
  go_enter Try.func42, Try.ntmps42
  go_upto_region 1 with fail
  have bb := al1 W (.cells #[.int .i64 w, .int .i64 h, B, X, R, D] 68)
  obtain ⟨m0, m1, m2, m3, m4, m5, mz, -⟩ := six (heap_alloc_new W (.cells #[.int .i64 w, .int .i64 h, B, X, R, D] 68))
  generalize W.alloc (.cells #[.int .i64 w, .int .i64 h, B, X, R, D] 68) = W1 at *
  have HB : Hid (Ext W W1) := Lib.hid bb
  have HM := Lib.hid (And.intro m0 (And.intro m1 (And.intro m2 (And.intro m3 (And.intro m4 m5)))))
  clear bb
  go_wp2_with fail
  refine (wovenR_any c _ _ (HV.out.ext HB.out)).mono ?_
  rintro e w2 ⟨rfl, hx⟩
  have HX : Hid (Ext W1 w2) := Lib.hid hx
  clear hx m0 m1 m2 m3 m4 m5
  cases hv : vCl c
  · have HV0 := Lib.hid hv
    clear hv
    go_wp2
    refine bodyPost_ret (v := .tuple #[.slice none 0 0, .slice none 0 0, .int .i64 2]) (by simp [results, Try.results42, go_sem]) rfl ⟨_, _, 2, rfl, HB.out.trans HX.out, .inl ⟨by rw [HV0.out]; rfl, rfl, rfl, rfl⟩⟩
  · have HVC := Lib.hid hv
    clear hv
    go_wp2_with fail
    refine (rise_any _ _).mono ?_
    rintro e w0 ⟨rfl, rfl⟩
    cases hq : bw ri (-10000) 10000
    · have HQ0 := Lib.hid hq
      clear hq
      go_wp2
      refine bodyPost_ret (v := .tuple #[.slice none 0 0, .slice none 0 0, .int .i64 2]) (by simp [results, Try.results42, go_sem]) rfl ⟨_, _, 2, rfl, HB.out.trans HX.out, .inl ⟨by rw [HQ0.out, Bool.and_false], rfl, rfl, rfl⟩⟩
    · obtain ⟨hr1, hr2⟩ := bw_iff.1 hq
      have HOK : Hid ((vCl c && bw ri (-10000) 10000) = true) := Lib.hid (by rw [HVC.out, hq]; rfl)
      clear hq
      have m0 := keepAt HX.out mz HM.out.1
      have m1 := keepAt HX.out mz HM.out.2.1
      have m2 := keepAt HX.out mz HM.out.2.2.1
      have m3 := keepAt HX.out mz HM.out.2.2.2.1
      have m4 := keepAt HX.out mz HM.out.2.2.2.2.1
      have m5 := keepAt HX.out mz HM.out.2.2.2.2.2
      go_wp2_with fail
      refine (labelsR_any c ri _ _ (HV.out.ext (HB.out.trans HX.out)) HVC.out (by omega) (by omega)).mono ?_
      clear m0 m1 m2 m3 m4 m5
      rintro e w3 ⟨F, G, L, M, rfl, hF, hG, hL, hM, hx⟩
      have HH := Lib.hid (And.intro hF (And.intro hG (And.intro hL hM)))
      have EX := Lib.hid (HB.out.trans (HX.out.trans hx))
      clear hF hG hL hM hx
      go_wp2
      refine bodyPost_ret (v := .tuple #[F, G, .int .i64 0]) (by simp [results, Try.results42, go_sem]) rfl ⟨_, _, 0, rfl, EX.out, .inr ⟨HOK.out, rfl, L, M, HH.out.1, HH.out.2.1, HH.out.2.2.1, HH.out.2.2.2⟩⟩

theorem labels_both (c : Cl) (ri : Int) : ∃ (n : Nat) (L M : Nat → Bool) (er : Int), n ≤ 36 ∧
    (∀ V W, Kl W V c.cut → Calls Try.prog 41 #[V, .int .i64 ri] W fun e W' => ∃ F G, e = .returned (.tuple #[F, G, .int .i64 er]) ∧ Bl W' F n L ∧ Bl W' G n M ∧ Ext W W') ∧
    (∀ V W, Kl W V c → Calls Try.prog 42 #[V, .int .i64 ri] W fun e W' => ∃ F G, e = .returned (.tuple #[F, G, .int .i64 er]) ∧ Bl W' F n L ∧ Bl W' G n M ∧ Ext W W') := by
  cases hv : (vCl c && bw ri (-10000) 10000)
  · refine ⟨0, fun _ => false, fun _ => false, 2, by omega, fun V W hV => ?_, fun V W hV => ?_⟩
    · refine (labels_any _ ri V W hV).mono ?_
      rintro e w ⟨F, G, er, rfl, hx, ⟨-, rfl, rfl, rfl⟩ | ⟨h1, -⟩⟩
      · exact ⟨_, _, rfl, bl_nil _ _, bl_nil _ _, hx⟩
      · rw [vCl_cut, hv] at h1; cases h1
    · refine (labelsRS_any _ ri V W hV).mono ?_
      rintro e w ⟨F, G, er, rfl, hx, ⟨-, rfl, rfl, rfl⟩ | ⟨h1, -⟩⟩
      · exact ⟨_, _, rfl, bl_nil _ _, bl_nil _ _, hx⟩
      · rw [hv] at h1; cases h1
  · have hvc : vCl c = true := by rw [Bool.and_eq_true] at hv; exact hv.1
    have hc : c.cut = c := cut_same hvc
    obtain ⟨L0, hL0⟩ : ∃ L0 : Nat → Bool, ∀ L, Lst (c.nwa ri).nw (c.nb + 2) c.nb (c.nb + 1) L → ∀ v, v < c.nb + 2 → L v = L0 v := by
      by_cases h : ∃ L, Lst (c.nwa ri).nw (c.nb + 2) c.nb (c.nb + 1) L
      · obtain ⟨L, hL⟩ := h
        exact ⟨L, fun M hM => lst_same hM hL⟩
      · exact ⟨fun _ => false, fun L hL => absurd ⟨L, hL⟩ h⟩
    obtain ⟨M0, hM0⟩ : ∃ L0 : Nat → Bool, ∀ L, Gst (c.nwa ri).nw (c.nb + 2) c.nb (c.nb + 1) L → ∀ v, v < c.nb + 2 → L v = L0 v := by
      by_cases h : ∃ L, Gst (c.nwa ri).nw (c.nb + 2) c.nb (c.nb + 1) L
      · obtain ⟨L, hL⟩ := h
        exact ⟨L, fun M hM => gst_same hM hL⟩
      · exact ⟨fun _ => false, fun L hL => absurd ⟨L, hL⟩ h⟩
    rw [hc]
    refine ⟨c.nb, L0, M0, 0, vCl_nb hvc, fun V W hV => ?_, fun V W hV => ?_⟩
    · refine (labels_any _ ri V W hV).mono ?_
      rintro e w ⟨F, G, er, rfl, hx, ⟨h1, -⟩ | ⟨-, rfl, L, M, hF, hG, hL, hM⟩⟩
      · rw [hv] at h1; cases h1
      · exact ⟨_, _, rfl, hF.congr fun j hj => hL0 L hL j (by omega), hG.congr fun j hj => hM0 M hM j (by omega), hx⟩
    · refine (labelsRS_any _ ri V W hV).mono ?_
      rintro e w ⟨F, G, er, rfl, hx, ⟨h1, -⟩ | ⟨-, rfl, L, M, hF, hG, hL, hM⟩⟩
      · rw [hv] at h1; cases h1
      · exact ⟨_, _, rfl, hF.congr fun j hj => hL0 L hL j (by omega), hG.congr fun j hj => hM0 M hM j (by omega), hx⟩
end Go.Proofs.Ytilcbbdmenknfaa
namespace Go.Proofs.Ytilcbbdmenknfaa
open Go.RowKit

set_option maxHeartbeats 4000000 in
set_option maxRecDepth 100000 in
theorem waxPrices_walk (c : Cl) (V : Value) (W : World) (hV : Kl W V c) :
    Calls Try.prog 14 #[V] W fun e W' => e = .returned (.bool true) ∧ Ext W W' := by
  have HV := Lib.hid hV
  obtain ⟨B, X, R, D, rfl, -, -, -, -⟩ := hV
  obtain ⟨C, hC⟩ : ∃ C, C = c.cut := ⟨_, rfl⟩
  have hvcc : vCl C = vCl c := by rw [hC]; exact vCl_cut c
  have hsame : vCl c = true → C = c := fun h => by rw [hC]; exact cut_same h
  obtain ⟨w, hw⟩ : ∃ w, w = c.w := ⟨_, rfl⟩
  obtain ⟨h, hh⟩ : ∃ h, h = c.h := ⟨_, rfl⟩
  rw [← hw, ← hh] at HV ⊢
  have hcl : ∀ X1, Ext W X1 → Calls Try.prog 39 #[.agg #[.int .i64 w, .int .i64 h, B, X, R, D]] X1 fun e W' => ∃ U, e = .returned U ∧ Kl W' U C ∧ Ext X1 W' := fun X1 hX1 => by
    rw [hC]; exact cloth_any c _ X1 (HV.out.ext hX1)
  have HCL := Lib.hid hcl; have HCC := Lib.hid hvcc; have HSA := Lib.hid hsame
  clear hcl hC hw hh hvcc hsame
  go_enter Try.func14, Try.ntmps14
  go_upto_region 1 with fail
  have bb := al1 W (.cells #[.int .i64 w, .int .i64 h, B, X, R, D] 68)
  obtain ⟨m0, m1, m2, m3, m4, m5, mz, -⟩ := six (heap_alloc_new W (.cells #[.int .i64 w, .int .i64 h, B, X, R, D] 68))
  generalize W.alloc (.cells #[.int .i64 w, .int .i64 h, B, X, R, D] 68) = W1 at *
  have HB : Hid (Ext W W1) := Lib.hid bb
  have HM := Lib.hid (And.intro m0 (And.intro m1 (And.intro m2 (And.intro m3 (And.intro m4 m5)))))
  clear bb
  go_wp2_with fail
  refine (HCL.out _ HB.out).mono ?_
  clear m0 m1 m2 m3 m4 m5
  rintro e x1 ⟨U1, rfl, hk, hx⟩
  have HK1 := Lib.hid hk
  have HX1 : Hid (Ext W1 x1) := Lib.hid hx
  clear hk hx
  go_wp2_with fail
  refine (pricesS_any C _ _ HK1.out).mono ?_
  rintro e y1 ⟨F1, er, rfl, hx, hcase⟩
  have HY1 : Hid (Ext W1 y1) := Lib.hid (HX1.out.trans hx)
  have HC1 := Lib.hid hcase
  clear hx hcase
  have m0 := keepAt HY1.out mz HM.out.1
  have m1 := keepAt HY1.out mz HM.out.2.1
  have m2 := keepAt HY1.out mz HM.out.2.2.1
  have m3 := keepAt HY1.out mz HM.out.2.2.2.1
  have m4 := keepAt HY1.out mz HM.out.2.2.2.2.1
  have m5 := keepAt HY1.out mz HM.out.2.2.2.2.2
  go_wp2_with fail
  refine (wovenR_any c _ _ (HV.out.ext (HB.out.trans HY1.out))).mono ?_
  clear m0 m1 m2 m3 m4 m5
  rintro e y2 ⟨rfl, hx⟩
  have HY2 : Hid (Ext W1 y2) := Lib.hid (HY1.out.trans hx)
  have HE2 := Lib.hid hx
  clear hx
  cases hv : vCl c
  · have hc := HC1.out
    rw [HCC.out, hv] at hc
    clear HC1 hv
    obtain ⟨-, rfl, rfl⟩ | ⟨h, -⟩ := hc
    · go_wp2_with fail
      refine (awake_any _).mono ?_
      rintro e w9 ⟨rfl, hx⟩
      have EF : Hid (Ext W w9) := Lib.hid (HB.out.trans (HY2.out.trans hx)); clear hx
      go_wp2
      go_ret
      exact ⟨rfl, EF.out⟩
    · cases h
  · have hc := HC1.out
    have hvv := hv
    rw [HCC.out, hv] at hc
    have HVC := Lib.hid hv
    clear HC1 hv
    obtain ⟨h, -⟩ | ⟨-, rfl, P, hP, hil⟩ := hc
    · cases h
    · rw [HSA.out hvv] at hP hil
      have HP := Lib.hid hP
      have HIL := Lib.hid (hil.ext HE2.out)
      have hnb := vCl_nb hvv
      obtain ⟨nb, hnb2⟩ : ∃ n, n = c.nb := ⟨_, rfl⟩
      rw [← hnb2] at HIL hil hnb
      have HNB := Lib.hid hnb2
      obtain ⟨A1, c1, rfl, hc1, hd1, -⟩ := hil
      clear hP hvv hnb2
      have m0 := keepAt HY2.out mz HM.out.1
      have m1 := keepAt HY2.out mz HM.out.2.1
      have m2 := keepAt HY2.out mz HM.out.2.2.1
      have m3 := keepAt HY2.out mz HM.out.2.2.2.1
      have m4 := keepAt HY2.out mz HM.out.2.2.2.2.1
      have m5 := keepAt HY2.out mz HM.out.2.2.2.2.2
      go_wp2_with fail
      refine (pricesR_any c _ _ (HV.out.ext (HB.out.trans HY2.out)) HVC.out).mono ?_
      clear m0 m1 m2 m3 m4 m5
      rintro e y3 ⟨F3, er3, rfl, hx, Q, hQ, hil⟩
      have HY3 : Hid (Ext W1 y3) := Lib.hid (HY2.out.trans hx)
      replace HIL := Lib.hid (HIL.out.ext hx)
      rw [← HNB.out] at hil
      have hPQ := prc_one HVC.out hQ HP.out
      rw [← HNB.out] at hPQ
      have HIQ := Lib.hid (hil.congr hPQ)
      obtain ⟨A3, c3, rfl, hc3, hd3, -⟩ := hil
      clear hx hQ hPQ
      go_wp2_with fail
      refine (equalI_any nb P _ _ _ HIL.out HIQ.out (by omega)).mono ?_
      rintro e y4 ⟨rfl, hx⟩
      have HY4 : Hid (Ext W1 y4) := Lib.hid (HY3.out.trans hx)
      clear hx
      go_wp2_with fail
      refine (awake_any _).mono ?_
      rintro e w9 ⟨rfl, hx⟩
      have EF : Hid (Ext W w9) := Lib.hid (HB.out.trans (HY4.out.trans hx)); clear hx
      go_wp2
      go_ret
      exact ⟨rfl, EF.out⟩
end Go.Proofs.Ytilcbbdmenknfaa
