/- Walks: Shortest, Count of the reference. · Walks: awake; the law BathShortest. · Walks: the law BathTight. -/
import Derived.Test.YtlachbodibajlaaDoorM7
import Derived.RegionTactic
namespace Go.Proofs.YtlachbodibajlaaDoor
open Go.RowKit Go.Shelf

theorem slice_letter {k : Nat} (hk : k < 8) (W : World) : (Instr.slice 9 (.string ⟨#[97, 98, 99, 100, 101, 102, 103, 104]⟩) (some (.int .i64 (k : Int))) (some (.int .i64 ((k : Int) + 1))) none).run Tryd.prog W = .ok (.string ⟨#[lt k]⟩) W := by
  have hz : (⟨#[97, 98, 99, 100, 101, 102, 103, 104]⟩ : ByteArray).size = 8 := rfl
  rw [run_slice_string (h := Tryd.underlying9) (h0 := by omega) (h1 := by omega) (h2 := by rw [hz]; omega)]
  have e1 : ((k : Int)).toNat = k := by omega
  have e2 : ((k : Int) + 1).toNat = k + 1 := by omega
  rw [e1, e2]
  have : ∀ k : Fin 8, (⟨#[97, 98, 99, 100, 101, 102, 103, 104]⟩ : ByteArray).extract k.1 (k.1 + 1) = ⟨#[lt k.1]⟩ := by decide
  rw [this ⟨k, hk⟩]
theorem snoc_bytes (s : List UInt8) (c : UInt8) : (⟨s.toArray⟩ : ByteArray) ++ ⟨#[c]⟩ = ⟨(s ++ [c]).toArray⟩ := by
  apply ByteArray.ext
  simp [ByteArray.data_append]

set_option maxHeartbeats 4000000 in
set_option maxRecDepth 100000 in
theorem countR_any (ws : List Bw.Word) (V : Value) (W : World) (hV : Sl W V ws) (hs : Sm ws) :
    Calls Tryd.prog 21 #[V] W fun e W' => e = .returned (.tuple #[.int .i64 (shN ws : Nat), .int .i64 (shE ws)]) ∧ Ext W W' := by
  have HV := Lib.hid hV
  obtain ⟨A, c, rfl, hac, hcm, -⟩ := hV
  go_enter Tryd.func21, Tryd.ntmps21
  go_wp2_with fail
  refine (wordsR_any ws _ _ HV.out hs).mono ?_
  rintro e w1 ⟨rfl, hx⟩
  have HX := Lib.hid hx; clear hx
  cases hw : okWs ws
  · have h1 : shN ws = 0 := by unfold shN; rw [hw]; rfl
    have h2 : shE ws = 2 := by unfold shE; rw [hw]; rfl
    have H12 := Lib.hid (And.intro h1 h2)
    clear h1 h2
    go_wp2
    refine bodyPost_ret (v := .tuple #[.int .i64 0, .int .i64 2]) (by simp [results, Tryd.results21, go_sem]) rfl ?_
    exact ⟨by rw [H12.out.1, H12.out.2]; rfl, HX.out⟩
  · have h1 : shN ws = (Bw.rest ws 0).2 := by unfold shN; rw [if_pos hw]
    have h2 : shE ws = 0 := by unfold shE; rw [if_pos hw]
    have H12 := Lib.hid (And.intro h1 h2)
    have HW := Lib.hid hw
    have hz := Bw.sz_pos ws
    obtain ⟨N, hN⟩ : ∃ N, N = Bw.sz ws := ⟨_, rfl⟩
    obtain ⟨-, h4, h8, -⟩ := okWs_iff.1 hw
    have hzl := Bw.sz_le ws h4 h8
    clear h1 h2 h4 h8
    go_wp2_with fail
    refine (tableR_any ws _ _ (HV.out.ext HX.out) HW.out).mono ?_
    rintro e w2 ⟨gt, gc, rfl, l1, l2, hne, hT, hC, hx⟩
    rw [← hN] at hT hC hz hzl ⊢
    have c0 := Bk.cell hC hz
    have z0 := Bk.lt hC
    dsimp only at c0
    obtain ⟨v, hv⟩ : ∃ v, v = (Bw.rest ws 0).2 := ⟨_, rfl⟩
    rw [← hv] at c0
    have HF := Lib.hid (And.intro hv (HX.out.trans hx))
    clear hT hC hx hv hN
    go_wp2
    refine bodyPost_ret (v := .tuple #[.int .i64 v, .int .i64 0]) (by simp [results, Tryd.results21, go_sem]) rfl ?_
    exact ⟨by rw [H12.out.1, H12.out.2, ← HF.out.1], HF.out.2⟩

set_option maxHeartbeats 4000000 in
set_option maxRecDepth 100000 in
theorem shortestR_any (ws : List Bw.Word) (V : Value) (W : World) (hV : Sl W V ws) (hs : Sm ws) :
    Calls Tryd.prog 19 #[V] W fun e W' => e = .returned (.tuple #[.string ⟨(shS ws).toArray⟩, .int .i64 (shE ws)]) ∧ Ext W W' := by
  have HV := Lib.hid hV
  obtain ⟨A, c, rfl, hac, hcm, -⟩ := hV
  go_enter Tryd.func19, Tryd.ntmps19
  go_wp2_with fail
  refine (wordsR_any ws _ _ HV.out hs).mono ?_
  rintro e w1 ⟨rfl, hx⟩
  have HX := Lib.hid hx; clear hx
  cases hw : okWs ws
  · have h1 : shS ws = [] := by unfold shS; rw [hw]; rfl
    have h2 : shE ws = 2 := by unfold shE; rw [hw]; rfl
    have H12 := Lib.hid (And.intro h1 h2)
    clear h1 h2
    go_wp2
    refine bodyPost_ret (v := .tuple #[.string ⟨#[]⟩, .int .i64 2]) (by simp [results, Tryd.results19, go_sem]) rfl ?_
    exact ⟨by rw [H12.out.1, H12.out.2], HX.out⟩
  · have h1 : shS ws = (Bw.rest ws 0).1 := by unfold shS; rw [if_pos hw]
    have h2 : shE ws = 0 := by unfold shE; rw [if_pos hw]
    have H12 := Lib.hid (And.intro h1 h2)
    have HW := Lib.hid hw
    have hz := Bw.sz_pos ws
    obtain ⟨N, hN⟩ : ∃ N, N = Bw.sz ws := ⟨_, rfl⟩
    obtain ⟨-, h4, h8, hW⟩ := okWs_iff.1 hw
    have hzl := Bw.sz_le ws h4 h8
    have H8 := Lib.hid h8; have H4 := Lib.hid h4; have HOW := Lib.hid hW
    clear h1 h2 h4 h8 hW hs
    go_wp2_with fail
    refine (tableR_any ws _ _ (HV.out.ext HX.out) HW.out).mono ?_
    rintro e w2 ⟨gt, gc, rfl, l1, l2, hne, hT, hC, hx⟩
    have HN := Lib.hid hN
    rw [← hN] at hT hz hzl ⊢
    have HF : Hid (BI w2 gt N (fun j => ((Bw.rest ws j).1.length : Nat)) ∧ Ext W w2) := Lib.hid ⟨hT, HX.out.trans hx⟩
    clear hT hC hx hN
    have hr32 : ∀ p, p < N → (Bw.rest ws p).1.length ≤ 32 := fun p hp => by
      rw [HN.out] at hp
      exact Nat.le_trans (Bw.rest_len HOW.out _ p hp (Nat.le_refl _)) (Bw.rem_zero_le ws H4.out H8.out p)
    have HR := Lib.hid hr32
    clear hr32
    go_wp2_with fail
    go_loopw [6, 7] (fun s q wr => ∃ (t : List UInt8) (p : Nat), s = .string ⟨t.toArray⟩ ∧ q = .int .i64 p ∧ p < N ∧ t.length ≤ 32 ∧ Hid (t ++ (Bw.rest ws p).1 = (Bw.rest ws 0).1) ∧ Hid (Ext w2 wr)) (fun _ q _ => (Bw.rest ws (intOf q).toNat).1.length)
    case atStart => exact ⟨[], 0, rfl, rfl, hz, by simp, Lib.hid rfl, Lib.hid (Ext.refl _)⟩
    case round =>
      obtain ⟨t, p, rfl, rfl, hp, ht, htr, hin⟩ := hrel
      have c0 := Bk.cell (HF.out.1.ext hin.out) hp
      have z0 := Bk.lt (HF.out.1.ext hin.out)
      have hp2 : p < Bw.sz ws := by rw [← HN.out]; exact hp
      have hrz := Bw.rest_zero HOW.out hp2
      obtain ⟨lp, hlp⟩ : ∃ lp, lp = (Bw.rest ws p).1.length := ⟨_, rfl⟩
      dsimp only at c0
      rw [← hlp] at c0 hrz
      have hlp32 : lp ≤ 32 := by rw [hlp]; exact HR.out p hp
      have htl : t.length + lp ≤ 32 := by
        have h1 := congrArg List.length htr.out
        rw [List.length_append, ← hlp] at h1
        have := HR.out 0 hz
        omega
      have HLP := Lib.hid hlp; have HP2 := Lib.hid hp2; have HRZ := Lib.hid hrz; have HTL := Lib.hid htl; have HLP32 := Lib.hid hlp32
      clear hlp hp2 hrz htl hlp32 ht
      by_cases h0 : 0 < lp
      · have hpe : p ≠ Bw.last ws := fun h => by have := HRZ.out.2 h; omega
        have HPE := Lib.hid hpe
        clear hpe
        go_wp2_with fail
        go_loopw [6, 7, 24] (fun s q i wr' => s = .string ⟨t.toArray⟩ ∧ q = .int .i64 p ∧ ∃ k : Nat, i = .int .i64 k ∧ k ≤ 8 ∧ Hid (∀ j d, j < k → Bw.letters[j]? = some d → ¬ Bw.good ws p d) ∧ Hid (Ext w2 wr')) (fun _ _ i _ => 8 - (intOf i).toNat)
        case atStart => exact ⟨rfl, rfl, 0, rfl, by omega, Lib.hid (fun j d hj => by omega), hin⟩
        case round =>
          obtain ⟨rfl, rfl, k, rfl, hk, hno, hin2⟩ := hrel
          by_cases hlt : k < 8
          · have hidx := letters_idx hlt hlt
            have hml := Bw.mv_lt ws p (lt k) HP2.out
            have hlg := lt_get hlt
            by_cases hmv : Bw.mv ws p (lt k) = p
            · have hnx : ∀ j d, j < k + 1 → Bw.letters[j]? = some d → ¬ Bw.good ws p d := fun j d hj hd hg => by
                by_cases e : j = k
                · subst e; rw [hlg] at hd; injection hd with hd; subst hd; exact hg.1 hmv
                · exact hno.out j d (by omega) hd hg
              have HNX := Lib.hid hnx
              clear hnx hml hlg
              go_wp2_with fail
              refine (movedR_any ws p (lt k) _ _ (HV.out.ext (HF.out.2.trans hin2.out)) H8.out H4.out HP2.out).mono ?_
              rintro e w3 ⟨rfl, rfl⟩
              rw [hmv, decide_eq_false (show ¬ (p ≠ p) from fun h => h rfl)]
              clear hmv hidx
              go_wp2_with fail
              go_region
              go_wp2
              go_roundw
              case rel => exact ⟨rfl, rfl, k + 1, by go_num, by omega, HNX, Lib.hid hin2.out.drw⟩
              case measure => simp [intOf]; omega
            · obtain ⟨q, hq⟩ : ∃ q, q = Bw.mv ws p (lt k) := ⟨_, rfl⟩
              have hdq : decide (Bw.mv ws p (lt k) ≠ p) = true := decide_eq_true hmv
              rw [← hq] at hml hmv
              have hqN : q < N := by rw [HN.out]; exact hml
              obtain ⟨lq, hlq⟩ : ∃ lq, lq = (Bw.rest ws q).1.length := ⟨_, rfl⟩
              have hlq32 : lq ≤ 32 := by rw [hlq]; exact HR.out q hqN
              have hgd : Bw.good ws p (lt k) ↔ lq + 1 = lp := by
                unfold Bw.good
                rw [← hq, ← hlq, ← HLP.out]
                exact ⟨fun h => h.2, fun h => ⟨hmv, h⟩⟩
              have HGD := Lib.hid hgd; have HQ := Lib.hid hq; have HLQ := Lib.hid hlq; have HLG := Lib.hid hlg
              clear hgd hq hlq hml hmv hlg
              go_wp2_with fail
              refine (movedR_any ws p (lt k) _ _ (HV.out.ext (HF.out.2.trans hin2.out)) H8.out H4.out HP2.out).mono ?_
              rintro e w3 ⟨rfl, rfl⟩
              rw [hdq, ← HQ.out]
              clear hdq hidx c0 z0
              have c0 := Bk.cell (HF.out.1.ext hin2.out) hp
              have c1 := Bk.cell (HF.out.1.ext hin2.out) hqN
              have z0 := Bk.lt (HF.out.1.ext hin2.out)
              dsimp only at c0 c1
              rw [← HLP.out] at c0
              rw [← HLQ.out] at c1
              go_wp2_with fail
              by_cases heq : lq + 1 = lp
              · have hb : ((lq : Int) + 1 == (lp : Int)) = true := by simp; omega
                have hfirst := Bw.good_first HOW.out HP2.out HPE.out HLG.out (HGD.out.2 heq) hno.out
                have HFI := Lib.hid hfirst
                have hsl := fun W => slice_letter hlt W
                have happ : (⟨t.toArray⟩ : ByteArray) ++ ⟨#[lt k]⟩ = ⟨(t ++ [lt k]).toArray⟩ := snoc_bytes t (lt k)
                clear hfirst
                have htl := HTL.out
                have ht1 : t.length ≤ 31 := by omega
                clear htl
                go_region
                clear c0 c1 z0
                have hin3 : Hid (Ext w2 w3.drew) := Lib.hid hin2.out.drw
                generalize w3.drew = w4 at *
                go_wp2
                go_roundw
                case rel => exact ⟨t ++ [lt k], q, rfl, rfl, hqN, by simp; omega, Lib.hid (by rw [← htr.out, HFI.out, ← HQ.out, List.append_assoc]; rfl), hin3⟩
                case measure =>
                  have h1 := HLP.out
                  have h2 := HLQ.out
                  simp [intOf]; omega
              · have hb : ((lq : Int) + 1 == (lp : Int)) = false := by simp; omega
                have hnx : ∀ j d, j < k + 1 → Bw.letters[j]? = some d → ¬ Bw.good ws p d := fun j d hj hd hg => by
                  by_cases e : j = k
                  · subst e; rw [HLG.out] at hd; injection hd with hd; subst hd; exact heq (HGD.out.1 hg)
                  · exact hno.out j d (by omega) hd hg
                have HNX := Lib.hid hnx
                clear hnx
                go_region
                clear c0 c1 z0
                have hin3 : Hid (Ext w2 w3.drew) := Lib.hid hin2.out.drw
                generalize w3.drew = w4 at *
                go_wp2
                go_roundw
                case rel => exact ⟨rfl, rfl, k + 1, by go_num, by omega, HNX, hin3⟩
                case measure => simp [intOf]; omega
          · obtain rfl : k = 8 := by omega
            obtain ⟨i, d, hi, hd, hg⟩ := Bw.good_some HOW.out HP2.out HPE.out
            exact absurd hg (hno.out i d hi hd)
      · obtain rfl : lp = 0 := by omega
        go_wp2
        refine bodyPost_ret (v := .tuple #[.string ⟨t.toArray⟩, .int .i64 0]) (by simp [results, Tryd.results19, go_sem]) rfl ?_
        refine ⟨?_, HF.out.2.trans hin.out⟩
        have h1 := htr.out
        rw [List.eq_nil_of_length_eq_zero HLP.out.symm, List.append_nil] at h1
        rw [H12.out.1, H12.out.2, h1]
end Go.Proofs.YtlachbodibajlaaDoor
namespace Go.Proofs.YtlachbodibajlaaDoor
open Go.RowKit Go.Shelf

set_option maxHeartbeats 4000000 in
set_option maxRecDepth 100000 in
theorem awake_any (W : World) : Calls Tryd.prog 17 #[] W fun e W' => e = .returned (.bool true) ∧ Ext W W' := by
  go_enter Tryd.func17, Tryd.ntmps17
  have e1 : Ext W (W.alloc (.cells #[.string ⟨#[97, 98, 99]⟩, .string ⟨#[97, 99, 98]⟩] 9)) := al1 W _
  have hb := heap_alloc_new W (.cells #[.string ⟨#[97, 98, 99]⟩, .string ⟨#[97, 99, 98]⟩] 9)
  have hS : Sl (W.alloc (.cells #[.string ⟨#[97, 98, 99]⟩, .string ⟨#[97, 99, 98]⟩] 9)) (.slice (some ⟨W.heap.size, 0, none⟩) 2 2) [[97, 98, 99], [97, 99, 98]] := by
    refine ⟨_, 2, rfl, by decide, by decide, fun _ => ⟨W.heap.size, 0, rfl, (Array.getElem?_eq_some_iff.1 hb).1, fun j hj => ?_⟩⟩
    have hj2 : j < 2 := hj
    rcases (show j = 0 ∨ j = 1 by omega) with rfl | rfl
    · exact (cell_of_row _ _ _ _ 9 (0, 0) hb).trans rfl
    · exact (cell_of_row _ _ _ _ 9 (0, 0) hb).trans rfl
  have hsm : Sm [[97, 98, 99], [97, 99, 98]] := by
    intro s hs
    simp at hs
    rcases hs with rfl | rfl <;> decide
  have hcon := shortest_any _ _ _ hS hsm
  rw [rest_awake.1, rest_awake.2] at hcon
  have HC := Lib.hid hcon; have HE := Lib.hid e1
  clear hb hS hsm hcon e1
  go_wp2_with fail
  refine HC.out.mono ?_
  rintro e w2 ⟨rfl, hx⟩
  have HX := Lib.hid (HE.out.trans hx)
  clear hx HC
  go_wp2
  go_ret
  exact ⟨rfl, HX.out⟩

set_option maxHeartbeats 4000000 in
set_option maxRecDepth 100000 in
theorem bathShortest_walk (s : List UInt8) (ws : List Bw.Word) (V : Value) (W : World) (hV : Sl W V ws) (hs : Sm ws) (hl : s.length ≤ 9223372036854775807) :
    Calls Tryd.prog 3 #[.string ⟨s.toArray⟩, V] W fun e W' => e = .returned (.bool true) ∧ Ext W W' := by
  have c1 := fun X h => covers_any s ws V X h hs hl
  have c2 := fun X h => coversR_any s ws V X h hs hl
  have c3 := fun X h => shortest_any ws V X h hs
  have c4 := fun X h => shortestR_any ws V X h hs
  have c5 := fun X h => count_any ws V X h hs
  have c6 := fun X h => countR_any ws V X h hs
  generalize cvB s ws = cb at c1 c2
  generalize cvE s ws = ce at c1 c2
  generalize shS ws = t at c3 c4
  generalize shE ws = se at c3 c4 c5 c6
  generalize shN ws = sn at c5 c6
  have HV := Lib.hid hV; have C1 := Lib.hid c1; have C2 := Lib.hid c2; have C3 := Lib.hid c3; have C4 := Lib.hid c4; have C5 := Lib.hid c5; have C6 := Lib.hid c6
  clear c1 c2 c3 c4 c5 c6 hs hl
  obtain ⟨A, c, rfl, hac, hcm, -⟩ := hV
  go_enter Tryd.func3, Tryd.ntmps3
  go_wp2_with fail
  refine (C1.out _ HV.out).mono ?_
  rintro e w1 ⟨rfl, hx⟩
  have HX := Lib.hid hx; clear hx
  go_wp2_with fail
  refine (C2.out _ (HV.out.ext HX.out)).mono ?_
  rintro e w2 ⟨rfl, hx⟩
  replace HX := Lib.hid (HX.out.trans hx); clear hx
  have h0 : (cb != cb) = false := by simp
  have h1 : (ce != ce) = false := by simp
  go_wp2_with fail
  refine (awake_any _).mono ?_
  rintro e w3 ⟨rfl, hx⟩
  replace HX := Lib.hid (HX.out.trans hx); clear hx
  go_wp2_with fail
  refine (C3.out _ (HV.out.ext HX.out)).mono ?_
  rintro e w4 ⟨rfl, hx⟩
  replace HX := Lib.hid (HX.out.trans hx); clear hx
  go_wp2_with fail
  refine (C4.out _ (HV.out.ext HX.out)).mono ?_
  rintro e w5 ⟨rfl, hx⟩
  replace HX := Lib.hid (HX.out.trans hx); clear hx
  go_wp2_with fail
  refine (C5.out _ (HV.out.ext HX.out)).mono ?_
  rintro e w6 ⟨rfl, hx⟩
  replace HX := Lib.hid (HX.out.trans hx); clear hx
  go_wp2_with fail
  refine (C6.out _ (HV.out.ext HX.out)).mono ?_
  rintro e w7 ⟨rfl, hx⟩
  replace HX := Lib.hid (HX.out.trans hx); clear hx
  go_wp2
  go_ret
  exact ⟨rfl, HX.out⟩
end Go.Proofs.YtlachbodibajlaaDoor
namespace Go.Proofs.YtlachbodibajlaaDoor
open Go.RowKit Go.Shelf

theorem rest_letters {ws : List Bw.Word} (hw : Bw.okW ws) : ∀ (n p : Nat), p < Bw.sz ws → Bw.rem ws p ≤ n → ∀ c ∈ (Bw.rest ws p).1, c ∈ Bw.letters
  | n, p, hp, hn => by
    by_cases e : p = Bw.last ws
    · rw [e, Bw.rest_last]; intro c hc; cases hc
    · obtain ⟨pre, c0, post, hL, hm, h1, -, -⟩ := Bw.rest_head hw hp e
      have := Bw.rem_lt hm
      cases n with
      | zero => omega
      | succ n =>
        rw [h1]
        intro c hc
        rcases List.mem_cons.1 hc with rfl | hc
        · rw [hL]; simp
        · exact rest_letters hw n _ (Bw.mv_lt ws p c0 hp) (by omega) c hc
theorem cvB_less {ws : List Bw.Word} (hw : okWs ws = true) {s : List UInt8} (hs : s.length < (Bw.rest ws 0).1.length) (hl : ∀ c ∈ s, c ∈ Bw.letters) : cvB s ws = false := by
  obtain ⟨-, -, -, hW⟩ := okWs_iff.1 hw
  unfold cvB
  rw [Bool.and_eq_false_iff]
  right
  rw [decide_eq_false_iff_not]
  intro h
  have := Bw.rest_least hW s 0 (Bw.sz_pos ws) hl h
  omega
theorem ble_leq : ∀ {s t : List UInt8}, s.length = t.length → Bw.ble s t → (Op.bytesLess s t || s == t) = true
  | [], [], _, _ => by simp
  | a :: s, b :: t, hl, h => by
    have ih := fun h => ble_leq (s := s) (t := t) (by simpa using hl) h
    rcases h with h | ⟨rfl, h⟩
    · simp [Op.bytesLess, h]
    · have := ih h
      simp [Op.bytesLess] at this ⊢
      exact this

theorem slice_to (l : List UInt8) {k : Nat} (hk : k ≤ l.length) (W : World) : (Instr.slice 9 (.string ⟨l.toArray⟩) none (some (.int .i64 (k : Int))) none).run Tryd.prog W = .ok (.string ⟨(l.take k).toArray⟩) W := by
  have hz : (⟨l.toArray⟩ : ByteArray).size = l.length := rfl
  rw [run_slice_string_h (ht := Tryd.underlying9) (h0 := by omega) (h2 := by rw [hz]; omega), extract_bytes]
  simp
theorem slice_from (l : List UInt8) {k : Nat} (hk : k ≤ l.length) (W : World) : (Instr.slice 9 (.string ⟨l.toArray⟩) (some (.int .i64 (k : Int))) none none).run Tryd.prog W = .ok (.string ⟨(l.drop k).toArray⟩) W := by
  have hz : (⟨l.toArray⟩ : ByteArray).size = l.length := rfl
  rw [run_slice_string_l (ht := Tryd.underlying9) (h0 := by omega) (h1 := by rw [hz]; omega), extract_bytes, hz]
  have : ((k : Int)).toNat = k := by omega
  rw [this, List.take_of_length_le (by simp)]
theorem app_bytes (s t : List UInt8) : (⟨s.toArray⟩ : ByteArray) ++ ⟨t.toArray⟩ = ⟨(s ++ t).toArray⟩ := by
  apply ByteArray.ext
  simp [ByteArray.data_append]

set_option maxHeartbeats 4000000 in
set_option maxRecDepth 100000 in
theorem bathTight_walk (s : List UInt8) (ws : List Bw.Word) (V : Value) (W : World) (hV : Sl W V ws) (hs : Sm ws) (hl : s.length ≤ 9223372036854775807) :
    Calls Tryd.prog 6 #[V, .string ⟨s.toArray⟩] W fun e W' => e = .returned (.bool true) ∧ Ext W W' := by
  have c1 := fun X h => shortest_any ws V X h hs
  have c2 := fun X h => covers_any s ws V X h hs hl
  have HV := Lib.hid hV
  obtain ⟨A, c, rfl, hac, hcm, -⟩ := hV
  cases hw : okWs ws
  · have h1 : shS ws = [] := by unfold shS; rw [hw]; rfl
    have h2 : shE ws = 2 := by unfold shE; rw [hw]; rfl
    rw [h1, h2] at c1
    have C1 := Lib.hid c1
    clear c1 c2 h1 h2 hw hs hl
    go_enter Tryd.func6, Tryd.ntmps6
    go_wp2_with fail
    refine (C1.out _ HV.out).mono ?_
    rintro e w1 ⟨rfl, hx⟩
    have HX := Lib.hid hx; clear hx
    go_wp2_with fail
    refine (awake_any _).mono ?_
    rintro e w3 ⟨rfl, hx⟩
    replace HX := Lib.hid (HX.out.trans hx); clear hx
    go_wp2
    go_ret
    exact ⟨rfl, HX.out⟩
  · have h1 : shS ws = (Bw.rest ws 0).1 := by unfold shS; rw [if_pos hw]
    have h2 : shE ws = 0 := by unfold shE; rw [if_pos hw]
    obtain ⟨-, h4, h8, hW⟩ := okWs_iff.1 hw
    have hlet := rest_letters hW _ 0 (Bw.sz_pos ws) (Nat.le_refl _)
    have hlen : (Bw.rest ws 0).1.length ≤ 32 := Nat.le_trans (Bw.rest_len hW _ 0 (Bw.sz_pos ws) (Nat.le_refl _)) (Bw.rem_zero_le ws h4 h8 0)
    rw [h1, h2] at c1
    have hck : ∀ k, k < (Bw.rest ws 0).1.length → ∀ X, Sl X (.slice A ws.length c) ws → Calls Tryd.prog 15 #[.string ⟨((Bw.rest ws 0).1.take k ++ (Bw.rest ws 0).1.drop (k + 1)).toArray⟩, .slice A ws.length c] X fun e W' => e = .returned (.tuple #[.bool false, .int .i64 0]) ∧ Ext X W' := fun k hk X hX => by
      have hl2 : ((Bw.rest ws 0).1.take k ++ (Bw.rest ws 0).1.drop (k + 1)).length < (Bw.rest ws 0).1.length := by simp; omega
      have hm2 : ∀ c ∈ (Bw.rest ws 0).1.take k ++ (Bw.rest ws 0).1.drop (k + 1), c ∈ Bw.letters := fun c hc => by
        rcases List.mem_append.1 hc with h | h
        · exact hlet c (List.mem_of_mem_take h)
        · exact hlet c (List.mem_of_mem_drop h)
      have hcv := covers_any ((Bw.rest ws 0).1.take k ++ (Bw.rest ws 0).1.drop (k + 1)) ws _ X hX hs (by omega)
      have e1 := cvB_less hw hl2 hm2
      have e2 : cvE ((Bw.rest ws 0).1.take k ++ (Bw.rest ws 0).1.drop (k + 1)) ws = 0 := by
        unfold cvE okT
        rw [if_pos]
        rw [hw, decide_eq_true (by omega), okL_iff.2 hm2]; rfl
      rw [e1, e2] at hcv
      exact hcv
    have hfin : cvB s ws = true → cvE s ws = 0 → (Bw.rest ws 0).1.length ≤ s.length ∧ ((Bw.rest ws 0).1.length = s.length → (Op.bytesLess (⟨(Bw.rest ws 0).1.toArray⟩ : ByteArray).toList (⟨s.toArray⟩ : ByteArray).toList || (⟨(Bw.rest ws 0).1.toArray⟩ : ByteArray).toList == (⟨s.toArray⟩ : ByteArray).toList) = true) := fun hb _ => by
      unfold cvB okT at hb
      simp only [Bool.and_eq_true, decide_eq_true_eq] at hb
      obtain ⟨⟨-, -, hsl⟩, hrun⟩ := hb
      have hsl := okL_iff.1 hsl
      refine ⟨Bw.rest_least hW s 0 (Bw.sz_pos ws) hsl hrun, fun he => ?_⟩
      have hbl := Bw.rest_first hW s 0 (Bw.sz_pos ws) hsl hrun he.symm
      have := ble_leq he hbl
      simpa [Lib.toList_data] using this
    obtain ⟨t, ht⟩ : ∃ t, t = (Bw.rest ws 0).1 := ⟨_, rfl⟩
    rw [← ht] at c1 hck hfin hlen
    have C1 := Lib.hid c1; have CK0 := Lib.hid hck; have HF := Lib.hid hfin
    generalize cvB s ws = cb at c2 HF
    generalize cvE s ws = ce at c2 HF
    have C2 := Lib.hid c2
    clear c1 c2 h1 h2 hw hs hl ht hck hfin hlet h4 h8 hW
    go_enter Tryd.func6, Tryd.ntmps6
    go_wp2_with fail
    refine (C1.out _ HV.out).mono ?_
    rintro e w1 ⟨rfl, hx⟩
    have HX := Lib.hid hx; clear hx
    go_wp2_with fail
    go_loopw [25] (fun i wr => ∃ k : Nat, i = .int .i64 k ∧ k ≤ t.length ∧ Hid (Ext W wr)) (fun i _ => t.length - (intOf i).toNat)
    case atStart => exact ⟨0, rfl, Nat.zero_le _, HX⟩
    case round =>
      clear HX
      obtain ⟨k, rfl, hk, hin⟩ := hrel
      by_cases hlt : k < t.length
      · have CK := Lib.hid (CK0.out k hlt)
        have hkl : k < t.length := hlt
        go_upto_region 7 with fail
        refine wp_region_noPanic ?_
        refine wp_region_held_drew (S := fun X => Ext wr X) (by kernel_rfl) (Ext.drw (Ext.refl _)) (fun _ => ?_)
        refine take_at 0 (some 29) (.string ⟨(t).toArray⟩) rfl rfl (by kernel_rfl) (by kernel_rfl) (by kernel_rfl) (fun _ _ _ h => h) (Or.inl ⟨by rfl, fun w' hSw => ?_⟩) (Ext.drw (Ext.refl _)) ?_
        · skip
          try clear hSw
          go_simp
          all_goals (with_reducible rfl)
        try simp only [Act.put, List.setIfInBounds_toArray, List.set_cons_zero, List.set_cons_succ]
        refine take_at 1 (some 30) (.int .i64 k) rfl rfl (by kernel_rfl) (by kernel_rfl) (by kernel_rfl) (fun _ _ _ h => h) (Or.inl ⟨by rfl, fun w' hSw => ?_⟩) (Ext.drw (Ext.refl _)) ?_
        · skip
          try clear hSw
          go_simp
          all_goals (with_reducible rfl)
        try simp only [Act.put, List.setIfInBounds_toArray, List.set_cons_zero, List.set_cons_succ]
        refine take_at 2 (some 31) (.string ⟨(t.take k).toArray⟩) rfl rfl (by kernel_rfl) (by kernel_rfl) (by kernel_rfl) (fun _ _ _ h => h) (Or.inl ⟨by rfl, fun w' hSw => ?_⟩) (Ext.drw (Ext.refl _)) ?_
        · have hx9 := fun W => slice_to t (k := k) (by omega) W
          try clear hSw
          go_simp
          all_goals (with_reducible rfl)
        try simp only [Act.put, List.setIfInBounds_toArray, List.set_cons_zero, List.set_cons_succ]
        refine take_at 3 (some 32) (.string ⟨(t).toArray⟩) rfl rfl (by kernel_rfl) (by kernel_rfl) (by kernel_rfl) (fun _ _ _ h => h) (Or.inl ⟨by rfl, fun w' hSw => ?_⟩) (Ext.drw (Ext.refl _)) ?_
        · skip
          try clear hSw
          go_simp
          all_goals (with_reducible rfl)
        try simp only [Act.put, List.setIfInBounds_toArray, List.set_cons_zero, List.set_cons_succ]
        refine take_at 4 (some 33) (.int .i64 k) rfl rfl (by kernel_rfl) (by kernel_rfl) (by kernel_rfl) (fun _ _ _ h => h) (Or.inl ⟨by rfl, fun w' hSw => ?_⟩) (Ext.drw (Ext.refl _)) ?_
        · skip
          try clear hSw
          go_simp
          all_goals (with_reducible rfl)
        try simp only [Act.put, List.setIfInBounds_toArray, List.set_cons_zero, List.set_cons_succ]
        refine take_at 5 (some 34) (.int .i64 ((k : Int) + 1)) rfl rfl (by kernel_rfl) (by kernel_rfl) (by kernel_rfl) (fun _ _ _ h => h) (Or.inl ⟨by rfl, fun w' hSw => ?_⟩) (Ext.drw (Ext.refl _)) ?_
        · skip
          try clear hSw
          go_simp
          all_goals (first | (with_reducible rfl) | exact IntWalk.i64_in _ (by omega))
        try simp only [Act.put, List.setIfInBounds_toArray, List.set_cons_zero, List.set_cons_succ]
        refine take_at 6 (some 35) (.string ⟨(t.drop (k + 1)).toArray⟩) rfl rfl (by kernel_rfl) (by kernel_rfl) (by kernel_rfl) (fun _ _ _ h => h) (Or.inl ⟨by rfl, fun w' hSw => ?_⟩) (Ext.drw (Ext.refl _)) ?_
        · have hx9 : ∀ W, (Instr.slice 9 (.string ⟨t.toArray⟩) (some (.int .i64 ((k : Int) + 1))) none none).run Tryd.prog W = .ok (.string ⟨(t.drop (k + 1)).toArray⟩) W := fun W => slice_from t (k := k + 1) (by omega) W
          try clear hSw
          go_simp
          all_goals (first | (with_reducible rfl) | omega)
        try simp only [Act.put, List.setIfInBounds_toArray, List.set_cons_zero, List.set_cons_succ]
        refine take_at 7 (some 36) (.string ⟨(t.take k ++ t.drop (k + 1)).toArray⟩) rfl rfl (by kernel_rfl) (by kernel_rfl) (by kernel_rfl) (fun _ _ _ h => h) (Or.inl ⟨by rfl, fun w' hSw => ?_⟩) (Ext.drw (Ext.refl _)) ?_
        · have hx8 := app_bytes (t.take k) (t.drop (k + 1))
          have hz8 : (t.take k).length ≤ 40 := by simp; omega
          have hz9 : (t.drop (k + 1)).length ≤ 40 := by simp; omega
          try clear hSw
          go_simp
          all_goals (first | (with_reducible rfl) | omega)
        try simp only [Act.put, List.setIfInBounds_toArray, List.set_cons_zero, List.set_cons_succ]
        refine take_at 8 (some 37) (.slice A ws.length c) rfl rfl (by kernel_rfl) (by kernel_rfl) (by kernel_rfl) (fun _ _ _ h => h) (Or.inl ⟨by rfl, fun w' hSw => ?_⟩) (Ext.drw (Ext.refl _)) ?_
        · skip
          try clear hSw
          go_simp
          all_goals (with_reducible rfl)
        try simp only [Act.put, List.setIfInBounds_toArray, List.set_cons_zero, List.set_cons_succ]
        refine wpAnyH_ready (rs := [9]) (by kernel_rfl) (by simp) ?_
        refine AllReadyH.cons rfl (fun K hK => ?_) AllReadyH.nil
        go_simp
        refine (CK.out wr.drew (HV.out.ext (hin.out.drw))).mono ?_
        rintro e v9 ⟨rfl, hb9⟩
        have e9 : Ext wr v9 := (Ext.drw (Ext.refl _)).trans hb9
        try go_wp2_with fail
        refine hK.out _ _ e9 (fun _ => ?_)
        clear hK K
        try simp only [Act.put, List.setIfInBounds_toArray, List.set_cons_zero, List.set_cons_succ]
        refine take_at 10 (some 28) (.tuple #[.bool false, .int .i64 0]) rfl rfl (by kernel_rfl) (by kernel_rfl) (by kernel_rfl) (fun _ _ _ h => h) (Or.inl ⟨by rfl, fun w' hSw => ?_⟩) (e9) ?_
        · skip
          try clear hSw
          go_simp
          all_goals (with_reducible rfl)
        try simp only [Act.put, List.setIfInBounds_toArray, List.set_cons_zero, List.set_cons_succ]
        refine take_at 11 (some 39) (.bool false) rfl rfl (by kernel_rfl) (by kernel_rfl) (by kernel_rfl) (fun _ _ _ h => h) (Or.inl ⟨by rfl, fun w' hSw => ?_⟩) (e9) ?_
        · skip
          try clear hSw
          go_simp
          all_goals (with_reducible rfl)
        try simp only [Act.put, List.setIfInBounds_toArray, List.set_cons_zero, List.set_cons_succ]
        refine take_at 12 (some 40) (.int .i64 0) rfl rfl (by kernel_rfl) (by kernel_rfl) (by kernel_rfl) (fun _ _ _ h => h) (Or.inl ⟨by rfl, fun w' hSw => ?_⟩) (e9) ?_
        · skip
          try clear hSw
          go_simp
          all_goals (with_reducible rfl)
        try simp only [Act.put, List.setIfInBounds_toArray, List.set_cons_zero, List.set_cons_succ]
        refine take_at 13 (some 8) (.bool false) rfl rfl (by kernel_rfl) (by kernel_rfl) (by kernel_rfl) (fun _ _ _ h => h) (Or.inl ⟨by rfl, fun w' hSw => ?_⟩) (e9) ?_
        · skip
          try clear hSw
          go_simp
          all_goals (with_reducible rfl)
        try simp only [Act.put, List.setIfInBounds_toArray, List.set_cons_zero, List.set_cons_succ]
        refine take_at 14 (some 9) (.int .i64 0) rfl rfl (by kernel_rfl) (by kernel_rfl) (by kernel_rfl) (fun _ _ _ h => h) (Or.inl ⟨by rfl, fun w' hSw => ?_⟩) (e9) ?_
        · skip
          try clear hSw
          go_simp
          all_goals (with_reducible rfl)
        try simp only [Act.put, List.setIfInBounds_toArray, List.set_cons_zero, List.set_cons_succ]
        refine wpAnyH_done (by kernel_rfl) ?_ _
        refine NoPanic.normal ?_
        have hin2 := Lib.hid (hin.out.trans e9)
        clear hb9 e9
        go_wp2
        go_roundw
        case rel => exact ⟨k + 1, by go_num, by omega, hin2⟩
        case measure => simp [intOf]; omega
      · obtain rfl : k = t.length := by omega
        go_wp2_with fail
        refine (C2.out _ (HV.out.ext hin.out)).mono ?_
        rintro e w5 ⟨rfl, hx⟩
        have HX := Lib.hid (hin.out.trans hx); clear hx
        have hnl : ¬ ((t.length : Nat) : Int) < (t.length : Int) := by omega
        by_cases hce : ce = 0
        · have h0 : (ce != 0) = false := by rw [hce]; rfl
          cases hcb : cb
          · clear hce hcb
            go_wp2_with fail
            refine (awake_any _).mono ?_
            rintro e w6 ⟨rfl, hx⟩
            have HX2 := Lib.hid (HX.out.trans hx); clear hx
            go_wp2
            go_ret
            exact ⟨rfl, HX2.out⟩
          · obtain ⟨f1, f2⟩ := HF.out hcb hce
            by_cases hlt2 : t.length < s.length
            · have hg : (t.length : Int) < (s.length : Int) := by omega
              clear hce hcb f1 f2 hlt2
              go_wp2_with fail
              refine (awake_any _).mono ?_
              rintro e w6 ⟨rfl, hx⟩
              have HX2 := Lib.hid (HX.out.trans hx); clear hx
              go_wp2
              go_ret
              exact ⟨rfl, HX2.out⟩
            · have heq : t.length = s.length := by omega
              have hle := f2 heq
              have hg : ¬ (t.length : Int) < (s.length : Int) := by omega
              have he2 : ((s.length : Int) == (t.length : Int)) = true := by simp; omega
              have hle2 : Op.bytesLess t s = true ∨ t = s := by simpa [Lib.toList_data] using hle
              clear hce hcb f1 f2 hlt2 heq hle
              rcases hle2 with hle3 | hle3
              · go_wp2_with fail
                refine (awake_any _).mono ?_
                rintro e w6 ⟨rfl, hx⟩
                have HX2 := Lib.hid (HX.out.trans hx); clear hx
                go_wp2
                go_ret
                exact ⟨rfl, HX2.out⟩
              · subst hle3
                go_wp2_with fail
                refine (awake_any _).mono ?_
                rintro e w6 ⟨rfl, hx⟩
                have HX2 := Lib.hid (HX.out.trans hx); clear hx
                go_wp2
                go_ret
                exact ⟨rfl, HX2.out⟩
        · have h0 : (ce != 0) = true := by simpa using hce
          clear hce
          go_wp2_with fail
          refine (awake_any _).mono ?_
          rintro e w6 ⟨rfl, hx⟩
          have HX2 := Lib.hid (HX.out.trans hx); clear hx
          go_wp2
          go_ret
          exact ⟨rfl, HX2.out⟩
end Go.Proofs.YtlachbodibajlaaDoor
