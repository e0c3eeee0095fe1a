/- Walks: Covers of the reference; moved. -/
import Derived.Test.YtlachbodibajlaaDoorM5
namespace Go.Proofs.YtlachbodibajlaaDoor
open Go.RowKit Go.Shelf

set_option maxHeartbeats 4000000 in
set_option maxRecDepth 100000 in
theorem movedR_any (ws : List Bw.Word) (p : Nat) (d : UInt8) (V : Value) (W : World) (hV : Sl W V ws) (h8 : ∀ w ∈ ws, w.length ≤ 8) (h4 : ws.length ≤ 4) (hp : p < Bw.sz ws) :
    Calls Tryd.prog 57 #[V, .int .i64 p, .int .u8 d.toNat] W fun e W' => e = .returned (.tuple #[.int .i64 (Bw.mv ws p d : Nat), .bool (decide (Bw.mv ws p d ≠ p))]) ∧ W' = W := by
  have HV := Lib.hid hV; have H8 := Lib.hid h8; have H4 := Lib.hid h4
  have hmv := Nat.lt_of_lt_of_le (Bw.mv_lt ws p d hp) (Bw.sz_le ws h4 h8)
  have hpl := Nat.lt_of_lt_of_le hp (Bw.sz_le ws h4 h8)
  clear h8 h4
  obtain ⟨A, c, rfl, hac, hcm, -⟩ := hV
  obtain ⟨n, hn⟩ : ∃ n, n = ws.length := ⟨_, rfl⟩
  have HN := Lib.hid hn
  rw [← hn] at hac ⊢
  obtain ⟨M, hM⟩ : ∃ M, M = Bw.mv ws p d := ⟨_, rfl⟩
  rw [← hM] at hmv ⊢
  have HM := Lib.hid hM
  have hdn : d.toNat < 256 := d.toNat_lt
  clear hn hM hp
  go_enter Tryd.func57, Tryd.ntmps57
  go_wp2_with fail
  go_loopw [10, 9, 8, 18] (fun x y l i wr => ∃ k tq unit left : Nat, i = .int .i64 k ∧ k ≤ n ∧ x = .int .i64 tq ∧ y = .int .i64 unit ∧ l = .int .i64 left ∧ left ≤ p ∧ Hid (unit = Bw.sz (ws.take k)) ∧ Hid (tq + unit * Bw.mvd (ws.drop k) left d = M) ∧ wr = W) (fun _ _ _ i _ => n - (intOf i).toNat)
  case atStart => exact ⟨0, p, 1, p, rfl, Nat.zero_le _, rfl, rfl, rfl, Nat.le_refl _, Lib.hid rfl, Lib.hid (by rw [HM.out, List.drop_zero, Nat.one_mul]; rfl), rfl⟩
  case round =>
    obtain ⟨k, tq, unit, left, rfl, hk, rfl, rfl, rfl, hleft, hu, hto, rfl⟩ := hrel
    by_cases hlt : k < n
    · have hlt' : k < ws.length := by rw [← HN.out]; exact hlt
      obtain ⟨b1, o1, rfl, -, e1⟩ := Vl.at HV.out (Ext.refl _) hlt'
      obtain ⟨s, hs⟩ : ∃ s, s = ws.getD k [] := ⟨_, rfl⟩
      rw [← hs] at e1
      have hsl : s.length ≤ 8 := by rw [hs]; exact H8.out _ (mem_getD hlt')
      have hz0 : unit ≤ 6561 := by rw [hu.out]; exact sz_take_le H8.out H4.out k
      have hst : unit * (s.length + 1) = Bw.sz (ws.take (k + 1)) := by rw [sz_take ws k hlt', ← hs, hu.out]
      have hto2 := hto.out
      rw [drop_getD (d := []) hlt', ← hs, Bw.mvd, Nat.mul_add, ← Nat.mul_assoc] at hto2
      have hto3 : tq ≤ M := by omega
      obtain ⟨at_, hat⟩ : ∃ a, a = left % (s.length + 1) := ⟨_, rfl⟩
      obtain ⟨lf, hlf⟩ : ∃ a, a = left / (s.length + 1) := ⟨_, rfl⟩
      rw [← hat, ← hlf] at hto2
      have hatl : at_ ≤ s.length := by rw [hat]; exact Bw.mod_le s left
      have hlf2 : lf ≤ p := by rw [hlf]; exact Nat.le_trans (Nat.div_le_self _ _) hleft
      have hr1 : (left : Int).tmod ((s.length : Int) + 1) = at_ := by rw [hat]; exact Int.ofNat_tmod left (s.length + 1)
      have hr2 : (left : Int).tdiv ((s.length : Int) + 1) = lf := by rw [hlf]; exact Int.ofNat_tdiv left (s.length + 1)
      obtain ⟨y, hy⟩ : ∃ y, y = unit * (s.length + 1) := ⟨_, rfl⟩
      have hz2 : y ≤ 6561 * 9 := by rw [hy]; exact Nat.mul_le_mul hz0 (by omega)
      have hy2 : (unit : Int) * ((s.length : Int) + 1) = y := by rw [hy]; simp
      have hw1 : IntKind.i64.wrap ((unit : Int) * ((s.length : Int) + 1)) = y := by rw [hy2]; exact IntWalk.i64_in _ (by omega)
      have HST := Lib.hid (show y = Bw.sz (ws.take (k + 1)) by rw [hy]; exact hst)
      rw [← hy] at hto2
      have hw0 : IntKind.i64.wrap ((s.length : Int) + 1) = (s.length : Int) + 1 := IntWalk.i64_in _ (by omega)
      have hw2 : IntKind.i64.wrap (at_ : Int) = at_ := IntWalk.i64_in _ (by omega)
      have hw3 : IntKind.i64.wrap (lf : Int) = lf := IntWalk.i64_in _ (by omega)
      clear hst hs hlt' hy hy2 hat hlf
      by_cases hal : at_ < s.length
      · clear hto3
        go_wp2
        · rename_i hb
          rw [byte_is] at hb
          rw [dl_is s at_ d _ hb, if_pos rfl, Nat.mul_one] at hto2
          go_roundw
          case rel => exact ⟨k + 1, tq + unit, y, lf, by go_num, by omega, by go_num, rfl, rfl, hlf2, HST, Lib.hid (by omega), trivial⟩
          case measure => simp [intOf]; omega
        · rename_i hb
          rw [byte_is] at hb
          rw [dl_is s at_ d _ hb, if_neg (by decide), Nat.mul_zero, Nat.zero_add] at hto2
          go_roundw
          case rel => exact ⟨k + 1, tq, y, lf, by go_num, by omega, rfl, rfl, rfl, hlf2, HST, Lib.hid hto2, trivial⟩
          case measure => simp [intOf]; omega
      · have hdl : Bw.dl s at_ d = 0 := by
          unfold Bw.dl
          rw [if_neg (by rw [List.getElem?_eq_none (by omega)]; simp)]
        rw [hdl, Nat.mul_zero, Nat.zero_add] at hto2
        clear hdl
        go_wp2
        go_roundw
        case rel => exact ⟨k + 1, tq, y, lf, by go_num, by omega, rfl, rfl, rfl, hlf2, HST, Lib.hid hto2, trivial⟩
        case measure => simp [intOf]; omega
    · obtain rfl : k = n := by omega
      have htm := hto.out
      rw [HN.out, List.drop_length, Bw.mvd, Nat.mul_zero, Nat.add_zero] at htm
      rw [htm]
      have hne : ((M : Int) != (p : Int)) = decide (M ≠ p) := by
        rw [Bool.eq_iff_iff, bne_iff_ne, decide_eq_true_eq]; omega
      clear htm
      go_wp2
      refine bodyPost_ret (v := .tuple #[.int .i64 M, .bool (decide (M ≠ p))]) (by simp [results, Tryd.results57, go_sem]) rfl ?_
      exact ⟨rfl, rfl⟩

theorem cv_all (s : List UInt8) (ws : List Bw.Word) : (ws.all fun w => decide (Bw.run1 w 0 s = w.length)) = decide (Bw.run ws 0 s = Bw.last ws) := by
  rw [Bool.eq_iff_iff, decide_eq_true_eq, Bw.run_last, List.all_eq_true]
  constructor
  · intro h w hw; exact of_decide_eq_true (h w hw)
  · intro h w hw; exact decide_eq_true (h w hw)

set_option maxHeartbeats 4000000 in
set_option maxRecDepth 100000 in
theorem coversR_any (s : List UInt8) (ws : List Bw.Word) (V : Value) (W : World) (hV : Sl W V ws) (hs : Sm ws) (hl : s.length ≤ 9223372036854775807) :
    Calls Tryd.prog 16 #[.string ⟨s.toArray⟩, V] W fun e W' => e = .returned (.tuple #[.bool (cvB s ws), .int .i64 (cvE s ws)]) ∧ Ext W W' := by
  have HV := Lib.hid hV; have HL := Lib.hid hl; have HSM := Lib.hid hs
  obtain ⟨A, c, rfl, hac, hcm, -⟩ := hV
  clear hl hs
  by_cases h40 : (40 : Int) < s.length
  · have hf : okT s ws = false := by unfold okT; rw [decide_eq_false (show ¬ s.length ≤ 40 by omega), Bool.false_and, Bool.and_false]
    have h1 : cvB s ws = false := by unfold cvB; rw [hf]; rfl
    have h2 : cvE s ws = 2 := by unfold cvE; rw [hf]; rfl
    rw [h1, h2]
    clear h1 h2 hf
    go_enter Tryd.func16, Tryd.ntmps16
    go_wp2
    refine bodyPost_ret (v := .tuple #[.bool false, .int .i64 2]) (by simp [results, Tryd.results16, go_sem]) rfl ?_
    exact ⟨rfl, Ext.refl _⟩
  go_enter Tryd.func16, Tryd.ntmps16
  go_wp2_with fail
  refine (trim_any s _ HL.out).mono ?_
  rintro e w1 ⟨rfl, hx⟩
  have HX := Lib.hid hx
  clear hx
  have hte := trim_empty s
  obtain ⟨T, hT⟩ : ∃ T, T = Lib.trimS s Bw.letters := ⟨_, rfl⟩
  rw [← hT] at hte ⊢
  cases hok : okL s
  · rw [hok] at hte
    have hf : okT s ws = false := by unfold okT; rw [hok, Bool.and_false, Bool.and_false]
    have h1 : cvB s ws = false := by unfold cvB; rw [hf]; rfl
    have h2 : cvE s ws = 2 := by unfold cvE; rw [hf]; rfl
    have H12 := Lib.hid (And.intro h1 h2)
    clear h1 h2 hf hok hT
    go_wp2
    refine bodyPost_ret (v := .tuple #[.bool false, .int .i64 2]) (by simp [results, Tryd.results16, go_sem]) rfl ?_
    exact ⟨by rw [H12.out.1, H12.out.2], HX.out⟩
  · rw [hok] at hte
    have HOK := Lib.hid hok
    clear hok hT
    go_wp2_with fail
    refine (wordsR_any ws _ _ (HV.out.ext HX.out) HSM.out).mono ?_
    rintro e w2 ⟨rfl, hx⟩
    replace HX := Lib.hid (HX.out.trans hx)
    clear hx hte
    cases hw : okWs ws
    · have hf : okT s ws = false := by unfold okT; rw [hw, Bool.false_and]
      have h1 : cvB s ws = false := by unfold cvB; rw [hf]; rfl
      have h2 : cvE s ws = 2 := by unfold cvE; rw [hf]; rfl
      have H12 := Lib.hid (And.intro h1 h2)
      clear h1 h2 hf hw
      go_wp2
      refine bodyPost_ret (v := .tuple #[.bool false, .int .i64 2]) (by simp [results, Tryd.results16, go_sem]) rfl ?_
      exact ⟨by rw [H12.out.1, H12.out.2], HX.out⟩
    · have hf : okT s ws = true := by unfold okT; rw [hw, HOK.out, decide_eq_true (show s.length ≤ 40 by omega)]; rfl
      have h1 : cvB s ws = (ws.all fun w => decide (Bw.run1 w 0 s = w.length)) := by unfold cvB; rw [hf, Bool.true_and, cv_all]
      have h2 : cvE s ws = 0 := by unfold cvE; rw [if_pos hf]
      have H12 := Lib.hid (And.intro h1 h2)
      obtain ⟨-, h4, h8, -⟩ := okWs_iff.1 hw
      have H8 := Lib.hid h8
      have hs40 : s.length ≤ 40 := by omega
      clear h1 h2 hf hw h8 h40
      obtain ⟨n, hn⟩ : ∃ n, n = ws.length := ⟨_, rfl⟩
      have HN := Lib.hid hn
      go_wp2_with fail
      go_loopw [6, 24] (fun x i wr => ∃ (k : Nat) (b : Bool), i = .int .i64 k ∧ k ≤ n ∧ x = .bool b ∧ Hid (b = ((ws.take k).all fun w => decide (Bw.run1 w 0 s = w.length))) ∧ Hid (Ext W wr)) (fun _ i _ => n - (intOf i).toNat)
      case atStart => exact ⟨0, true, rfl, Nat.zero_le _, rfl, Lib.hid rfl, HX⟩
      case round =>
        obtain ⟨k, b, rfl, hk, rfl, hb, hin⟩ := hrel
        by_cases hlt : k < ws.length
        · obtain ⟨b1, o1, rfl, -, e1⟩ := Vl.at HV.out hin.out hlt
          obtain ⟨w, hw⟩ : ∃ w, w = ws.getD k [] := ⟨_, rfl⟩
          rw [← hw] at e1
          have hw8 : w.length ≤ 8 := by rw [hw]; exact H8.out _ (mem_getD hlt)
          have hst := all_take_succ (fun w => decide (Bw.run1 w 0 s = w.length)) [] ws hlt
          rw [← hw, ← hb.out] at hst
          have HST := Lib.hid hst
          have hkn : k < n := by omega
          clear hst hw
          cases b
          · go_wp2
            go_roundw
            case rel => exact ⟨k + 1, false, by go_num, by omega, rfl, Lib.hid (by rw [HST.out]; rfl), hin⟩
            case measure => simp [intOf]; omega
          · go_wp2_with fail
            refine (coversR1_any s w _ (by omega) (by omega)).mono ?_
            rintro e w3 ⟨rfl, hx⟩
            have HX3 := Lib.hid (hin.out.trans hx)
            clear hx e1
            go_wp2
            go_roundw
            case rel => exact ⟨k + 1, _, by go_num, by omega, rfl, Lib.hid (by rw [HST.out]; rfl), HX3⟩
            case measure => simp [intOf]; omega
        · obtain rfl : k = n := by omega
          have hnl : ¬ (k : Int) < ws.length := by omega
          have ht : ws.take k = ws := by rw [hn]; exact List.take_length
          rw [ht] at hb
          clear ht
          go_wp2
          refine bodyPost_ret (v := .tuple #[.bool b, .int .i64 0]) (by simp [results, Tryd.results16, go_sem]) rfl ?_
          exact ⟨by rw [H12.out.1, H12.out.2, ← hb.out], hin.out⟩
end Go.Proofs.YtlachbodibajlaaDoor
