/- Walks: the law BathBounds. -/
import Derived.Test.YtlachbodibajlaaDoorM10
namespace Go.Proofs.YtlachbodibajlaaDoor
open Go.RowKit Go.Shelf

theorem cvB_rest {ws : List Bw.Word} (hw : okWs ws = true) : cvB (Bw.rest ws 0).1 ws = true ∧ cvE (Bw.rest ws 0).1 ws = 0 := by
  obtain ⟨-, h4, h8, hW⟩ := okWs_iff.1 hw
  have hlet := rest_letters hW _ 0 (Bw.sz_pos ws) (Nat.le_refl _)
  have hlen : (Bw.rest ws 0).1.length ≤ 32 := Nat.le_trans (Bw.rest_len hW _ 0 (Bw.sz_pos ws) (Nat.le_refl _)) (Bw.rem_zero_le ws h4 h8 0)
  have hrun := Bw.rest_covers hW _ 0 (Bw.sz_pos ws) (Nat.le_refl _)
  have hok : okT (Bw.rest ws 0).1 ws = true := by
    unfold okT; rw [hw, decide_eq_true (by omega), okL_iff.2 hlet]; rfl
  unfold cvB cvE
  rw [hok, if_pos rfl, hrun]
  simp

set_option maxHeartbeats 4000000 in
set_option maxRecDepth 100000 in
theorem bathBounds_walk (s : List UInt8) (ws : List Bw.Word) (n : Nat) (x : Nat → Int) (V T : Value) (W : World) (hV : Sl W V ws) (hs : Sm ws) (hl : s.length ≤ 9223372036854775807) (hT : Il W T n x) :
    Calls Tryd.prog 5 #[.string ⟨s.toArray⟩, V, T] W fun e W' => e = .returned (.bool true) ∧ Ext W W' := by
  have c1 := fun X h => table_ret ws V X h hs
  have c2 := fun U m f X h h' => bound_any ws m f V U X h h' hs
  have c3 := fun X h => shortest_any ws V X h hs
  have c4 := fun u hu X h => covers_any u ws V X h hs hu
  have HV := Lib.hid hV; have HT := Lib.hid hT; have C1 := Lib.hid c1; have C2 := Lib.hid c2; have C3 := Lib.hid c3; have C4 := Lib.hid c4; have HL := Lib.hid hl
  clear c1 c2 c3 c4 hs hl
  obtain ⟨A, c, rfl, hac, hcm, -⟩ := hV
  obtain ⟨TA, tc, rfl, htc, htm, -⟩ := hT
  go_enter Tryd.func5, Tryd.ntmps5
  go_wp2_with fail
  refine (C1.out _ HV.out).mono ?_
  rintro e w1 ⟨V1, er1, rfl, hx, hr1⟩
  have HX := Lib.hid hx; clear hx
  rcases hr1 with ⟨a1, rfl, rfl⟩ | ⟨a1, rfl, a3⟩
  · clear a1
    go_wp2_with fail
    refine (awake_any _).mono ?_
    rintro e w4 ⟨rfl, hx⟩
    replace HX := Lib.hid (HX.out.trans hx); clear hx
    go_wp2
    go_ret
    exact ⟨rfl, HX.out⟩
  · have HW := Lib.hid a1
    obtain ⟨-, h4, h8, hW⟩ := okWs_iff.1 a1
    have hlen : ∀ p, p < Bw.sz ws → (Bw.rest ws p).1.length ≤ 32 := fun p hp => Nat.le_trans (Bw.rest_len hW _ p hp (Nat.le_refl _)) (Bw.rem_zero_le ws h4 h8 p)
    have hsnd : Snd ws (fun j => (((Bw.rest ws j).1.length : Nat) : Int)) := ⟨fun p hp c hc hm => by
      have := Bw.rest_sound hW hp hc hm
      dsimp only; omega, by dsimp only; rw [Bw.rest_last]; simp⟩
    have hbt : btw (fun j => (((Bw.rest ws j).1.length : Nat) : Int)) (-1099511627776) 1099511627776 (Bw.sz ws) = true := btw_iff.2 fun i hi => by
      have := hlen i hi
      omega
    obtain ⟨A1, k1, rfl, hk1, hm1, -⟩ := id a3
    have HI := Lib.hid a3
    have hl0 := hlen 0 (Bw.sz_pos ws)
    have hs3 : shS ws = (Bw.rest ws 0).1 := by unfold shS; rw [if_pos a1]
    have he3 : shE ws = 0 := by unfold shE; rw [if_pos a1]
    have hcv := cvB_rest a1
    have hfin1 : cvB s ws = true → (Bw.rest ws 0).1.length ≤ s.length := fun hb => by
      unfold cvB okT at hb
      simp only [Bool.and_eq_true, decide_eq_true_eq] at hb
      obtain ⟨⟨-, -, hsl⟩, hrun⟩ := hb
      exact Bw.rest_least hW s 0 (Bw.sz_pos ws) (okL_iff.1 hsl) hrun
    have hfin2 : cvB s ws = true → Snd ws x → x 0 ≤ s.length := fun hb hsx => by
      unfold cvB okT at hb
      simp only [Bool.and_eq_true, decide_eq_true_eq] at hb
      obtain ⟨⟨-, -, hsl⟩, hrun⟩ := hb
      exact Bw.sound_bounds hsx.2 hsx.1 s 0 (Bw.sz_pos ws) (okL_iff.1 hsl) hrun
    have HF := Lib.hid (And.intro hfin1 hfin2)
    have HB2 := Lib.hid (And.intro hsnd hbt)
    obtain ⟨t, ht⟩ : ∃ t, t = (Bw.rest ws 0).1 := ⟨_, rfl⟩
    have HTT := Lib.hid ht
    rw [← ht] at hl0 hs3 hcv
    have HCV := Lib.hid (And.intro hcv (And.intro hs3 he3))
    have HL0 := Lib.hid hl0
    clear a1 a3 h4 h8 hW hlen hsnd hbt hs3 he3 hcv hfin1 hfin2 ht hl0
    go_wp2_with fail
    refine (C2.out _ _ _ _ (HV.out.ext HX.out) HI.out).mono ?_
    rintro e w2 ⟨hb, hx⟩
    replace HX := Lib.hid (HX.out.trans hx); clear hx
    obtain rfl : e = .returned (.tuple #[.int .i64 (t.length : Nat), .bool true, .int .i64 0]) := by
      rcases hb with ⟨g1, rfl⟩ | ⟨g1, g2, rfl⟩ | ⟨g1, g2, g3, rfl⟩ | ⟨g1, g2, g3, r, rfl, hr⟩
      · exact absurd (g1.symm.trans HW.out) (by decide)
      · exact absurd rfl g2
      · exact absurd (g3.symm.trans HB2.out.2) (by decide)
      · rw [hr.2 HB2.out.1, HTT.out]
    clear hb
    go_wp2_with fail
    refine (C3.out _ (HV.out.ext HX.out)).mono ?_
    rintro e w3 ⟨rfl, hx⟩
    replace HX := Lib.hid (HX.out.trans hx); clear hx
    rw [HCV.out.2.1, HCV.out.2.2]
    go_wp2_with fail
    refine (C4.out t (by have := HL0.out; omega) _ (HV.out.ext HX.out)).mono ?_
    rintro e w4 ⟨rfl, hx⟩
    replace HX := Lib.hid (HX.out.trans hx); clear hx
    rw [HCV.out.1.1, HCV.out.1.2]
    have h0 : ((t.length : Int) != (t.length : Int)) = false := by simp
    go_wp2_with fail
    refine (C4.out s HL.out _ (HV.out.ext HX.out)).mono ?_
    rintro e w5 ⟨rfl, hx⟩
    replace HX := Lib.hid (HX.out.trans hx); clear hx
    clear h0
    generalize cvE s ws = ce at *
    generalize cvB s ws = cb at *
    go_wp2_with fail
    refine (C2.out _ _ _ _ (HV.out.ext HX.out) (HT.out.ext HX.out)).mono ?_
    rintro e w6 ⟨hb, hx⟩
    replace HX := Lib.hid (HX.out.trans hx); clear hx
    obtain ⟨z, r, er, rfl, hz⟩ : ∃ (z : Int) (r : Bool) (er : Int), e = .returned (.tuple #[.int .i64 z, .bool r, .int .i64 er]) ∧ (er = 0 → r = true → z = x 0 ∧ Snd ws x) := by
      rcases hb with ⟨g1, rfl⟩ | ⟨g1, g2, rfl⟩ | ⟨g1, g2, g3, rfl⟩ | ⟨g1, g2, g3, r, rfl, hr⟩
      · exact ⟨_, _, _, rfl, fun h => by cases h⟩
      · exact ⟨_, _, _, rfl, fun h => by cases h⟩
      · exact ⟨_, _, _, rfl, fun h => by cases h⟩
      · exact ⟨_, _, _, rfl, fun _ h => ⟨rfl, hr.1 h⟩⟩
    have HZ := Lib.hid hz
    clear hb hz
    by_cases hce : ce = 0
    · have h0 : (ce != 0) = false := by rw [hce]; rfl
      clear hce
      cases hcb : cb
      · clear hcb
        go_wp2_with fail
        refine (awake_any _).mono ?_
        rintro e w7 ⟨rfl, hx⟩
        have HX7 := Lib.hid (HX.out.trans hx); clear hx
        go_wp2
        go_ret
        exact ⟨rfl, HX7.out⟩
      · have hle : t.length ≤ s.length := by rw [HTT.out]; exact HF.out.1 hcb
        have hle2 : (t.length : Int) ≤ (s.length : Int) := by omega
        have h2 := HF.out.2 hcb
        have H2 := Lib.hid h2
        clear hcb hle h2
        by_cases her : er = 0
        · have h1 : (er != 0) = false := by rw [her]; rfl
          cases hr : r
          · clear her hr
            go_wp2_with fail
            refine (awake_any _).mono ?_
            rintro e w7 ⟨rfl, hx⟩
            have HX7 := Lib.hid (HX.out.trans hx); clear hx
            go_wp2
            go_ret
            exact ⟨rfl, HX7.out⟩
          · obtain ⟨hzx, hsx⟩ := HZ.out her hr
            have hzs : z ≤ (s.length : Int) := by rw [hzx]; exact H2.out hsx
            clear her hr hzx hsx
            go_wp2_with fail
            refine (awake_any _).mono ?_
            rintro e w7 ⟨rfl, hx⟩
            have HX7 := Lib.hid (HX.out.trans hx); clear hx
            go_wp2
            go_ret
            exact ⟨rfl, HX7.out⟩
        · have h1 : (er != 0) = true := by simpa using her
          clear her
          go_wp2_with fail
          refine (awake_any _).mono ?_
          rintro e w7 ⟨rfl, hx⟩
          have HX7 := Lib.hid (HX.out.trans hx); clear hx
          go_wp2
          go_ret
          exact ⟨rfl, HX7.out⟩
    · have h0 : (ce != 0) = true := by simpa using hce
      clear hce
      go_wp2_with fail
      refine (awake_any _).mono ?_
      rintro e w7 ⟨rfl, hx⟩
      have HX7 := Lib.hid (HX.out.trans hx); clear hx
      go_wp2
      go_ret
      exact ⟨rfl, HX7.out⟩
end Go.Proofs.YtlachbodibajlaaDoor
