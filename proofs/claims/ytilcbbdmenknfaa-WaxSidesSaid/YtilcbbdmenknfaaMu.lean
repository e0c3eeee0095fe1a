/- The minimum sides of the program and of the reference are the same. -/
import Derived.Test.YtilcbbdmenknfaaMt
import Derived.Test.YtilcbbdmenknfaaE2
namespace Go.Proofs.Ytilcbbdmenknfaa
open Go.RowKit

theorem lst_same {G : Nw} {N s t : Nat} {L M : Nat → Bool} (h : Lst G N s t L) (k : Lst G N s t M) : ∀ v, v < N → L v = M v := by
  intro v hv
  have h1 := h.2 M k.1 v hv
  have h2 := k.2 L h.1 v hv
  cases a : L v <;> cases b : M v <;> simp_all
theorem gst_same {G : Nw} {N s t : Nat} {L M : Nat → Bool} (h : Gst G N s t L) (k : Gst G N s t M) : ∀ v, v < N → L v = M v := by
  intro v hv
  have h1 := h.2 M k.1 v hv
  have h2 := k.2 L h.1 v hv
  cases a : L v <;> cases b : M v <;> simp_all
theorem bl_nil (w : World) (s : Nat → Bool) : Bl w (.slice none 0 0) 0 s := ⟨none, 0, rfl, Nat.le_refl _, by omega, fun h => by omega⟩
theorem vNet_N {N : Int} {a : Ar} (h : vNet N a = true) : N.toNat ≤ 40 := by
  obtain ⟨m, rfl, -, h2, -⟩ := vNet_ok h
  omega

theorem least_both (N : Int) (a : Ar) : ∃ (er : Int) (n : Nat) (L : Nat → Bool), n ≤ 40 ∧
    (∀ AV W, Al W AV (a.cut 162) → Calls Try.prog 23 #[.agg #[.int .i64 N, AV]] W fun e W' => ∃ F, e = .returned (.tuple #[F, .int .i64 er]) ∧ Bl W' F n L ∧ Ext W W') ∧
    (∀ AV W, Al W AV a → Calls Try.prog 24 #[.agg #[.int .i64 N, AV]] W fun e W' => ∃ F, e = .returned (.tuple #[F, .int .i64 er]) ∧ Bl W' F n L ∧ Ext W W') := by
  cases hv : vNet N a
  · refine ⟨2, 0, fun _ => false, by omega, fun AV W hA => ?_, fun AV W hA => ?_⟩
    · refine (leastS_any N _ AV W hA).mono ?_
      rintro e w ⟨F, er, rfl, hx, ⟨-, rfl, rfl⟩ | ⟨h1, -⟩⟩
      · exact ⟨_, rfl, bl_nil _ _, hx⟩
      · rw [vNet_cut, hv] at h1; cases h1
    · refine (leastR_any N a AV W hA).mono ?_
      rintro e w ⟨F, er, rfl, hx, ⟨-, rfl, rfl⟩ | ⟨h1, -⟩⟩
      · exact ⟨_, rfl, bl_nil _ _, hx⟩
      · rw [hv] at h1; cases h1
  · have hN := vNet_N hv
    have hca := vNet_same hv
    obtain ⟨L0, hL0⟩ : ∃ L0 : Nat → Bool, ∀ L, Lst a.nw N.toNat 0 (N.toNat - 1) L → ∀ v, v < N.toNat → L v = L0 v := by
      by_cases h : ∃ L, Lst a.nw N.toNat 0 (N.toNat - 1) L
      · obtain ⟨L, hL⟩ := h
        exact ⟨L, fun M hM => lst_same hM hL⟩
      · exact ⟨fun _ => false, fun L hL => absurd ⟨L, hL⟩ h⟩
    refine ⟨0, N.toNat, L0, hN, fun AV W hA => ?_, fun AV W hA => ?_⟩
    · refine (leastS_any N _ AV W hA).mono ?_
      rintro e w ⟨F, er, rfl, hx, ⟨h1, -⟩ | ⟨h1, rfl, g, L, rfl, hg, hb, hl⟩⟩
      · rw [vNet_cut, hv] at h1; cases h1
      · rw [hca] at hl
        exact ⟨_, rfl, Bl.congr (BB.bl hb (by omega)) (hL0 L hl), hx⟩
    · refine (leastR_any N a AV W hA).mono ?_
      rintro e w ⟨F, er, rfl, hx, ⟨h1, -⟩ | ⟨h1, rfl, L, hb, hl⟩⟩
      · rw [hv] at h1; cases h1
      · exact ⟨_, rfl, Bl.congr hb (hL0 L hl), hx⟩
theorem greatest_both (N : Int) (a : Ar) : ∃ (er : Int) (n : Nat) (L : Nat → Bool), n ≤ 40 ∧
    (∀ AV W, Al W AV (a.cut 162) → Calls Try.prog 26 #[.agg #[.int .i64 N, AV]] W fun e W' => ∃ F, e = .returned (.tuple #[F, .int .i64 er]) ∧ Bl W' F n L ∧ Ext W W') ∧
    (∀ AV W, Al W AV a → Calls Try.prog 27 #[.agg #[.int .i64 N, AV]] W fun e W' => ∃ F, e = .returned (.tuple #[F, .int .i64 er]) ∧ Bl W' F n L ∧ Ext W W') := by
  cases hv : vNet N a
  · refine ⟨2, 0, fun _ => false, by omega, fun AV W hA => ?_, fun AV W hA => ?_⟩
    · refine (greatestS_any N _ AV W hA).mono ?_
      rintro e w ⟨F, er, rfl, hx, ⟨-, rfl, rfl⟩ | ⟨h1, -⟩⟩
      · exact ⟨_, rfl, bl_nil _ _, hx⟩
      · rw [vNet_cut, hv] at h1; cases h1
    · refine (greatestR27_any N a AV W hA).mono ?_
      rintro e w ⟨F, er, rfl, hx, ⟨-, rfl, rfl⟩ | ⟨h1, -⟩⟩
      · exact ⟨_, rfl, bl_nil _ _, hx⟩
      · rw [hv] at h1; cases h1
  · have hN := vNet_N hv
    have hca := vNet_same hv
    obtain ⟨L0, hL0⟩ : ∃ L0 : Nat → Bool, ∀ L, Gst a.nw N.toNat 0 (N.toNat - 1) L → ∀ v, v < N.toNat → L v = L0 v := by
      by_cases h : ∃ L, Gst a.nw N.toNat 0 (N.toNat - 1) L
      · obtain ⟨L, hL⟩ := h
        exact ⟨L, fun M hM => gst_same hM hL⟩
      · exact ⟨fun _ => false, fun L hL => absurd ⟨L, hL⟩ h⟩
    refine ⟨0, N.toNat, L0, hN, fun AV W hA => ?_, fun AV W hA => ?_⟩
    · refine (greatestS_any N _ AV W hA).mono ?_
      rintro e w ⟨F, er, rfl, hx, ⟨h1, -⟩ | ⟨h1, rfl, g, L, rfl, hg, hb, hl⟩⟩
      · rw [vNet_cut, hv] at h1; cases h1
      · rw [hca] at hl
        exact ⟨_, rfl, Bl.congr (BB.bl hb (by omega)) (hL0 L hl), hx⟩
    · refine (greatestR27_any N a AV W hA).mono ?_
      rintro e w ⟨F, er, rfl, hx, ⟨h1, -⟩ | ⟨h1, rfl, L, hb, hl⟩⟩
      · rw [hv] at h1; cases h1
      · exact ⟨_, rfl, Bl.congr hb (hL0 L hl), hx⟩
theorem Rws.nil (w : World) (N : Nat) (f : Nat → Nat → Bool) : Rws w (.slice none 0 0) N 0 f := ⟨none, 0, rfl, fun h => by omega⟩
theorem Rws.congr {w : World} {q : Value} {N n : Nat} {f g : Nat → Nat → Bool} (h : Rws w q N n f) (e : ∀ i, i < n → ∀ v, v < N → f i v = g i v) : Rws w q N n g := by
  obtain ⟨A, c, rfl, h1⟩ := h
  refine ⟨A, c, rfl, fun hp => ?_⟩
  obtain ⟨b, off, rfl, hb, hc⟩ := h1 hp
  exact ⟨b, off, rfl, hb, fun i hi => by obtain ⟨u, h2, h3⟩ := hc i hi; exact ⟨u, h2, h3.congr (e i hi)⟩⟩
theorem sides_both (N : Int) (a : Ar) : ∃ (er : Int) (n m : Nat) (f : Nat → Nat → Bool), m ≤ 40 ∧ n ≤ 4096 ∧
    (∀ AV W, Al W AV (a.cut 162) → Calls Try.prog 28 #[.agg #[.int .i64 N, AV]] W fun e W' => ∃ F, e = .returned (.tuple #[F, .int .i64 er]) ∧ Rws W' F m n f ∧ Ext W W') ∧
    (∀ AV W, Al W AV a → Calls Try.prog 29 #[.agg #[.int .i64 N, AV]] W fun e W' => ∃ F, e = .returned (.tuple #[F, .int .i64 er]) ∧ Rws W' F m n f ∧ Ext W W') := by
  cases hv : vNet N a
  · refine ⟨2, 0, 0, fun _ _ => false, by omega, by omega, fun AV W hA => ?_, fun AV W hA => ?_⟩
    · refine (sides_any N _ AV W hA).mono ?_
      rintro e w ⟨F, er, rfl, hx, ⟨-, rfl, rfl⟩ | ⟨h1, -⟩ | ⟨h1, -⟩⟩
      · exact ⟨_, rfl, Rws.nil _ _ _, hx⟩
      · rw [vNet_cut, hv] at h1; cases h1
      · rw [vNet_cut, hv] at h1; cases h1
    · refine (sidesR_any N a AV W hA).mono ?_
      rintro e w ⟨F, er, rfl, hx, ⟨-, rfl, rfl⟩ | ⟨h1, -⟩ | ⟨h1, -⟩⟩
      · exact ⟨_, rfl, Rws.nil _ _ _, hx⟩
      · rw [hv] at h1; cases h1
      · rw [hv] at h1; cases h1
  · have hN := vNet_N hv
    have hca := vNet_same hv
    by_cases h12 : N ≤ 12
    · obtain ⟨k, rfl, hk2, -, hn, hok⟩ := vNet_ok hv
      rw [Int.toNat_natCast] at hN
      obtain ⟨v0, hv0⟩ : ∃ v0 : Int, ∀ v, Mc a.nw 0 (k - 1) v → v = v0 := by
        by_cases h : ∃ v, Mc a.nw 0 (k - 1) v
        · obtain ⟨v, hv⟩ := h
          exact ⟨v, fun w hw => hw.one hv⟩
        · exact ⟨0, fun v hv => absurd ⟨v, hv⟩ h⟩
      obtain ⟨ks, hks⟩ : ∃ ks, ks = mins a.nw k v0 (2 ^ (k - 2)) := ⟨_, rfl⟩
      have hlen : ks.length ≤ 4096 := by
        rw [hks]; exact Nat.le_trans (mins_len _ _ _ _) (Nat.le_trans (Nat.pow_le_pow_right (by omega) (show k - 2 ≤ 12 by omega)) (by decide))
      refine ⟨0, ks.length, k, fun i => numb k (ks.getD i 0), hN, hlen, fun AV W hA => ?_, fun AV W hA => ?_⟩
      · refine (sides_any k _ AV W hA).mono ?_
        rintro e w ⟨F, er, rfl, hx, ⟨h1, -⟩ | ⟨h1, h2, -⟩ | ⟨h1, h2, rfl, v, h3, h4⟩⟩
        · rw [vNet_cut, hv] at h1; cases h1
        · omega
        · rw [hca, Int.toNat_natCast] at h3 h4
          rw [hv0 v h3, ← hks] at h4
          exact ⟨_, rfl, Sdb.rws (B := numb k) h4 (by omega), hx⟩
      · refine (sidesR_any k a AV W hA).mono ?_
        rintro e w ⟨F, er, rfl, hx, ⟨h1, -⟩ | ⟨h1, h2, -⟩ | ⟨h1, h2, rfl, v, h3, h4⟩⟩
        · rw [hv] at h1; cases h1
        · omega
        · rw [Int.toNat_natCast] at h3 h4
          rw [hv0 v h3, rmins_mins hk2 hok.in_, ← hks, List.length_map] at h4
          refine ⟨_, rfl, h4.congr fun i hi u hu => ?_, hx⟩
          have e1 : (ks.map fun j => 2 ^ (k - 1) + 2 * j).getD i 0 = 2 ^ (k - 1) + 2 * ks.getD i 0 := by
            simp only [List.getD_eq_getElem?_getD, List.getElem?_map, List.getElem?_eq_getElem hi]
            rfl
          rw [e1]
          have hmem : ks.getD i 0 ∈ ks := by rw [List.getD_eq_getElem?_getD, List.getElem?_eq_getElem hi]; exact List.getElem_mem hi
          have hlt : ks.getD i 0 < 2 ^ (k - 2) := by
            generalize ks.getD i 0 = z at hmem ⊢
            rw [hks] at hmem
            exact (mins_mem.1 hmem).1
          exact bnum_numb hk2 hlt hu
    · refine ⟨3, 0, 0, fun _ _ => false, by omega, by omega, fun AV W hA => ?_, fun AV W hA => ?_⟩
      · refine (sides_any N _ AV W hA).mono ?_
        rintro e w ⟨F, er, rfl, hx, ⟨h1, -⟩ | ⟨h1, h2, rfl, rfl⟩ | ⟨h1, h2, -⟩⟩
        · rw [vNet_cut, hv] at h1; cases h1
        · exact ⟨_, rfl, Rws.nil _ _ _, hx⟩
        · omega
      · refine (sidesR_any N a AV W hA).mono ?_
        rintro e w ⟨F, er, rfl, hx, ⟨h1, -⟩ | ⟨h1, h2, rfl, rfl⟩ | ⟨h1, h2, -⟩⟩
        · rw [hv] at h1; cases h1
        · exact ⟨_, rfl, Rws.nil _ _ _, hx⟩
        · omega

set_option maxHeartbeats 4000000 in
set_option maxRecDepth 100000 in
theorem equalF_any (n N : Nat) (f : Nat → Nat → Bool) (U V : Value) (W : World) (hU : Rws W U N n f) (hV : Rws W V N n f) (hn : n ≤ 1000000) (hN : N ≤ 1000) :
    Calls Try.prog 30 #[U, V, .func (.func 25) #[] #[]] W fun e W' => e = .returned (.bool true) ∧ Ext W W' := by
  have HU := Lib.hid hU; have HV := Lib.hid hV
  obtain ⟨A1, c1, rfl, h1⟩ := hU
  obtain ⟨A2, c2, rfl, h2⟩ := hV
  have H1 := Lib.hid h1; have H2 := Lib.hid h2
  clear h1 h2
  go_enter Try.func30, Try.ntmps30
  go_wp2_with fail
  go_loopw [17] (fun i wr => ∃ k : Nat, i = .int .i64 k ∧ k ≤ n ∧ Hid (Ext W wr)) (fun i _ => n - (intOf i).toNat)
  case atStart => exact ⟨0, rfl, Nat.zero_le _, Lib.hid (Ext.refl _)⟩
  case round =>
    obtain ⟨k, rfl, hk, hin⟩ := hrel
    by_cases hlt : k < n
    · obtain ⟨b1, o1, rfl, hb1, hc1⟩ := H1.out (by omega)
      obtain ⟨b2, o2, rfl, hb2, hc2⟩ := H2.out (by omega)
      obtain ⟨u1, d1, e1⟩ := hc1 k hlt
      obtain ⟨u2, d2, e2⟩ := hc2 k hlt
      have d1' := keepAt hin.out hb1 d1
      have d2' := keepAt hin.out hb2 d2
      have hE := And.intro (Bl.ext e1 hin.out) (Bl.ext e2 hin.out)
      have HE := Lib.hid hE
      obtain ⟨Au, cu, rfl, -⟩ := e1
      obtain ⟨Aw, cw, rfl, -⟩ := e2
      clear hc1 hc2 d1 d2 hE
      go_wp2_with fail
      refine (equalB_any N N (f k) (f k) _ _ _ HE.out.1 HE.out.2 hN).mono ?_
      rintro e w ⟨rfl, hx⟩
      have ht : eqB N N (f k) (f k) = true := eqB_iff.2 ⟨rfl, fun i _ => rfl⟩
      rw [ht]
      have HX := Lib.hid (hin.out.trans hx)
      clear hx ht d1' d2'
      go_wp2
      go_roundw
      case rel => exact ⟨k + 1, by go_num, by omega, HX⟩
      case measure => simp [intOf]; omega
    · obtain rfl : k = n := by omega
      go_wp2
      go_ret
      exact ⟨rfl, hin.out⟩
end Go.Proofs.Ytilcbbdmenknfaa
