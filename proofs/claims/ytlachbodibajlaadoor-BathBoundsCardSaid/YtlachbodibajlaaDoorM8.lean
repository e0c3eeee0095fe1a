/- Walks: Shortest, Count of the reference. · Walks: awake; the law BathShortest. · Walks: elements in their limits; slices.Equal; Table of both. -/
import Derived.Test.YtlachbodibajlaaDoorM7
import Derived.RegionTactic
import Derived.ChangeAlike
namespace Go.Proofs.YtlachbodibajlaaDoor
open Go.RowKit Go.Shelf

theorem slice_letter {k : Nat} (hk : k < 8) (W : World) : (Instr.slice 9 (.string ⟨#[97, 98, 99, 100, 101, 102, 103, 104]⟩) (some (.int .i64 (k : Int))) (some (.int .i64 ((k : Int) + 1))) none).run Tryd.prog W = .ok (.string ⟨#[lt k]⟩) W := by
  have hz : (⟨#[97, 98, 99, 100, 101, 102, 103, 104]⟩ : ByteArray).size = 8 := rfl
  rw [run_slice_string (h := Tryd.underlying9) (h0 := by omega) (h1 := by omega) (h2 := by rw [hz]; omega)]
  have e1 : ((k : Int)).toNat = k := by omega
  have e2 : ((k : Int) + 1).toNat = k + 1 := by omega
  rw [e1, e2]
  have : ∀ k : Fin 8, (⟨#[97, 98, 99, 100, 101, 102, 103, 104]⟩ : ByteArray).extract k.1 (k.1 + 1) = ⟨#[lt k.1]⟩ := by decide
  rw [this ⟨k, hk⟩]
theorem snoc_bytes (s : List UInt8) (c : UInt8) : (⟨s.toArray⟩ : ByteArray) ++ ⟨#[c]⟩ = ⟨(s ++ [c]).toArray⟩ := by
  apply ByteArray.ext
  simp [ByteArray.data_append]

set_option maxHeartbeats 4000000 in
set_option maxRecDepth 100000 in
theorem countR_any (ws : List Bw.Word) (V : Value) (W : World) (hV : Sl W V ws) (hs : Sm ws) :
    Calls Tryd.prog 21 #[V] W fun e W' => e = .returned (.tuple #[.int .i64 (shN ws : Nat), .int .i64 (shE ws)]) ∧ Ext W W' := by
  have HV := Lib.hid hV
  obtain ⟨A, c, rfl, hac, hcm, -⟩ := hV
  go_enter Tryd.func21, Tryd.ntmps21
  go_wp2_with fail
  refine (wordsR_any ws _ _ HV.out hs).mono ?_
  rintro e w1 ⟨rfl, hx⟩
  have HX := Lib.hid hx; clear hx
  cases hw : okWs ws
  · have h1 : shN ws = 0 := by unfold shN; rw [hw]; rfl
    have h2 : shE ws = 2 := by unfold shE; rw [hw]; rfl
    have H12 := Lib.hid (And.intro h1 h2)
    clear h1 h2
    go_wp2
    refine bodyPost_ret (v := .tuple #[.int .i64 0, .int .i64 2]) (by simp [results, Tryd.results21, go_sem]) rfl ?_
    exact ⟨by rw [H12.out.1, H12.out.2]; rfl, HX.out⟩
  · have h1 : shN ws = (Bw.rest ws 0).2 := by unfold shN; rw [if_pos hw]
    have h2 : shE ws = 0 := by unfold shE; rw [if_pos hw]
    have H12 := Lib.hid (And.intro h1 h2)
    have HW := Lib.hid hw
    have hz := Bw.sz_pos ws
    obtain ⟨N, hN⟩ : ∃ N, N = Bw.sz ws := ⟨_, rfl⟩
    obtain ⟨-, h4, h8, -⟩ := okWs_iff.1 hw
    have hzl := Bw.sz_le ws h4 h8
    clear h1 h2 h4 h8
    go_wp2_with fail
    refine (tableR_any ws _ _ (HV.out.ext HX.out) HW.out).mono ?_
    rintro e w2 ⟨gt, gc, rfl, l1, l2, hne, hT, hC, hx⟩
    rw [← hN] at hT hC hz hzl ⊢
    have c0 := Bk.cell hC hz
    have z0 := Bk.lt hC
    dsimp only at c0
    obtain ⟨v, hv⟩ : ∃ v, v = (Bw.rest ws 0).2 := ⟨_, rfl⟩
    rw [← hv] at c0
    have HF := Lib.hid (And.intro hv (HX.out.trans hx))
    clear hT hC hx hv hN
    go_wp2
    refine bodyPost_ret (v := .tuple #[.int .i64 v, .int .i64 0]) (by simp [results, Tryd.results21, go_sem]) rfl ?_
    exact ⟨by rw [H12.out.1, H12.out.2, ← HF.out.1], HF.out.2⟩

set_option maxHeartbeats 4000000 in
set_option maxRecDepth 100000 in
theorem shortestR_any (ws : List Bw.Word) (V : Value) (W : World) (hV : Sl W V ws) (hs : Sm ws) :
    Calls Tryd.prog 19 #[V] W fun e W' => e = .returned (.tuple #[.string ⟨(shS ws).toArray⟩, .int .i64 (shE ws)]) ∧ Ext W W' := by
  have HV := Lib.hid hV
  obtain ⟨A, c, rfl, hac, hcm, -⟩ := hV
  go_enter Tryd.func19, Tryd.ntmps19
  go_wp2_with fail
  refine (wordsR_any ws _ _ HV.out hs).mono ?_
  rintro e w1 ⟨rfl, hx⟩
  have HX := Lib.hid hx; clear hx
  cases hw : okWs ws
  · have h1 : shS ws = [] := by unfold shS; rw [hw]; rfl
    have h2 : shE ws = 2 := by unfold shE; rw [hw]; rfl
    have H12 := Lib.hid (And.intro h1 h2)
    clear h1 h2
    go_wp2
    refine bodyPost_ret (v := .tuple #[.string ⟨#[]⟩, .int .i64 2]) (by simp [results, Tryd.results19, go_sem]) rfl ?_
    exact ⟨by rw [H12.out.1, H12.out.2], HX.out⟩
  · have h1 : shS ws = (Bw.rest ws 0).1 := by unfold shS; rw [if_pos hw]
    have h2 : shE ws = 0 := by unfold shE; rw [if_pos hw]
    have H12 := Lib.hid (And.intro h1 h2)
    have HW := Lib.hid hw
    have hz := Bw.sz_pos ws
    obtain ⟨N, hN⟩ : ∃ N, N = Bw.sz ws := ⟨_, rfl⟩
    obtain ⟨-, h4, h8, hW⟩ := okWs_iff.1 hw
    have hzl := Bw.sz_le ws h4 h8
    have H8 := Lib.hid h8; have H4 := Lib.hid h4; have HOW := Lib.hid hW
    clear h1 h2 h4 h8 hW hs
    go_wp2_with fail
    refine (tableR_any ws _ _ (HV.out.ext HX.out) HW.out).mono ?_
    rintro e w2 ⟨gt, gc, rfl, l1, l2, hne, hT, hC, hx⟩
    have HN := Lib.hid hN
    rw [← hN] at hT hz hzl ⊢
    have HF : Hid (BI w2 gt N (fun j => ((Bw.rest ws j).1.length : Nat)) ∧ Ext W w2) := Lib.hid ⟨hT, HX.out.trans hx⟩
    clear hT hC hx hN
    have hr32 : ∀ p, p < N → (Bw.rest ws p).1.length ≤ 32 := fun p hp => by
      rw [HN.out] at hp
      exact Nat.le_trans (Bw.rest_len HOW.out _ p hp (Nat.le_refl _)) (Bw.rem_zero_le ws H4.out H8.out p)
    have HR := Lib.hid hr32
    clear hr32
    go_wp2_with fail
    go_loopw [6, 7] (fun s q wr => ∃ (t : List UInt8) (p : Nat), s = .string ⟨t.toArray⟩ ∧ q = .int .i64 p ∧ p < N ∧ t.length ≤ 32 ∧ Hid (t ++ (Bw.rest ws p).1 = (Bw.rest ws 0).1) ∧ Hid (Ext w2 wr)) (fun _ q _ => (Bw.rest ws (intOf q).toNat).1.length)
    case atStart => exact ⟨[], 0, rfl, rfl, hz, by simp, Lib.hid rfl, Lib.hid (Ext.refl _)⟩
    case round =>
      obtain ⟨t, p, rfl, rfl, hp, ht, htr, hin⟩ := hrel
      have c0 := Bk.cell (HF.out.1.ext hin.out) hp
      have z0 := Bk.lt (HF.out.1.ext hin.out)
      have hp2 : p < Bw.sz ws := by rw [← HN.out]; exact hp
      have hrz := Bw.rest_zero HOW.out hp2
      obtain ⟨lp, hlp⟩ : ∃ lp, lp = (Bw.rest ws p).1.length := ⟨_, rfl⟩
      dsimp only at c0
      rw [← hlp] at c0 hrz
      have hlp32 : lp ≤ 32 := by rw [hlp]; exact HR.out p hp
      have htl : t.length + lp ≤ 32 := by
        have h1 := congrArg List.length htr.out
        rw [List.length_append, ← hlp] at h1
        have := HR.out 0 hz
        omega
      have HLP := Lib.hid hlp; have HP2 := Lib.hid hp2; have HRZ := Lib.hid hrz; have HTL := Lib.hid htl; have HLP32 := Lib.hid hlp32
      clear hlp hp2 hrz htl hlp32 ht
      by_cases h0 : 0 < lp
      · have hpe : p ≠ Bw.last ws := fun h => by have := HRZ.out.2 h; omega
        have HPE := Lib.hid hpe
        clear hpe
        go_wp2_with fail
        go_loopw [6, 7, 24] (fun s q i wr' => s = .string ⟨t.toArray⟩ ∧ q = .int .i64 p ∧ ∃ k : Nat, i = .int .i64 k ∧ k ≤ 8 ∧ Hid (∀ j d, j < k → Bw.letters[j]? = some d → ¬ Bw.good ws p d) ∧ Hid (Ext w2 wr')) (fun _ _ i _ => 8 - (intOf i).toNat)
        case atStart => exact ⟨rfl, rfl, 0, rfl, by omega, Lib.hid (fun j d hj => by omega), hin⟩
        case round =>
          obtain ⟨rfl, rfl, k, rfl, hk, hno, hin2⟩ := hrel
          by_cases hlt : k < 8
          · have hidx := letters_idx hlt hlt
            have hml := Bw.mv_lt ws p (lt k) HP2.out
            have hlg := lt_get hlt
            by_cases hmv : Bw.mv ws p (lt k) = p
            · have hnx : ∀ j d, j < k + 1 → Bw.letters[j]? = some d → ¬ Bw.good ws p d := fun j d hj hd hg => by
                by_cases e : j = k
                · subst e; rw [hlg] at hd; injection hd with hd; subst hd; exact hg.1 hmv
                · exact hno.out j d (by omega) hd hg
              have HNX := Lib.hid hnx
              clear hnx hml hlg
              go_wp2_with fail
              refine (movedR_any ws p (lt k) _ _ (HV.out.ext (HF.out.2.trans hin2.out)) H8.out H4.out HP2.out).mono ?_
              rintro e w3 ⟨rfl, rfl⟩
              rw [hmv, decide_eq_false (show ¬ (p ≠ p) from fun h => h rfl)]
              clear hmv hidx
              go_wp2_with fail
              go_region
              go_wp2
              go_roundw
              case rel => exact ⟨rfl, rfl, k + 1, by go_num, by omega, HNX, Lib.hid hin2.out.drw⟩
              case measure => simp [intOf]; omega
            · obtain ⟨q, hq⟩ : ∃ q, q = Bw.mv ws p (lt k) := ⟨_, rfl⟩
              have hdq : decide (Bw.mv ws p (lt k) ≠ p) = true := decide_eq_true hmv
              rw [← hq] at hml hmv
              have hqN : q < N := by rw [HN.out]; exact hml
              obtain ⟨lq, hlq⟩ : ∃ lq, lq = (Bw.rest ws q).1.length := ⟨_, rfl⟩
              have hlq32 : lq ≤ 32 := by rw [hlq]; exact HR.out q hqN
              have hgd : Bw.good ws p (lt k) ↔ lq + 1 = lp := by
                unfold Bw.good
                rw [← hq, ← hlq, ← HLP.out]
                exact ⟨fun h => h.2, fun h => ⟨hmv, h⟩⟩
              have HGD := Lib.hid hgd; have HQ := Lib.hid hq; have HLQ := Lib.hid hlq; have HLG := Lib.hid hlg
              clear hgd hq hlq hml hmv hlg
              go_wp2_with fail
              refine (movedR_any ws p (lt k) _ _ (HV.out.ext (HF.out.2.trans hin2.out)) H8.out H4.out HP2.out).mono ?_
              rintro e w3 ⟨rfl, rfl⟩
              rw [hdq, ← HQ.out]
              clear hdq hidx c0 z0
              have c0 := Bk.cell (HF.out.1.ext hin2.out) hp
              have c1 := Bk.cell (HF.out.1.ext hin2.out) hqN
              have z0 := Bk.lt (HF.out.1.ext hin2.out)
              dsimp only at c0 c1
              rw [← HLP.out] at c0
              rw [← HLQ.out] at c1
              go_wp2_with fail
              by_cases heq : lq + 1 = lp
              · have hb : ((lq : Int) + 1 == (lp : Int)) = true := by simp; omega
                have hfirst := Bw.good_first HOW.out HP2.out HPE.out HLG.out (HGD.out.2 heq) hno.out
                have HFI := Lib.hid hfirst
                have hsl := fun W => slice_letter hlt W
                have happ : (⟨t.toArray⟩ : ByteArray) ++ ⟨#[lt k]⟩ = ⟨(t ++ [lt k]).toArray⟩ := snoc_bytes t (lt k)
                clear hfirst
                have htl := HTL.out
                have ht1 : t.length ≤ 31 := by omega
                clear htl
                go_region
                clear c0 c1 z0
                have hin3 : Hid (Ext w2 w3.drew) := Lib.hid hin2.out.drw
                generalize w3.drew = w4 at *
                go_wp2
                go_roundw
                case rel => exact ⟨t ++ [lt k], q, rfl, rfl, hqN, by simp; omega, Lib.hid (by rw [← htr.out, HFI.out, ← HQ.out, List.append_assoc]; rfl), hin3⟩
                case measure =>
                  have h1 := HLP.out
                  have h2 := HLQ.out
                  simp [intOf]; omega
              · have hb : ((lq : Int) + 1 == (lp : Int)) = false := by simp; omega
                have hnx : ∀ j d, j < k + 1 → Bw.letters[j]? = some d → ¬ Bw.good ws p d := fun j d hj hd hg => by
                  by_cases e : j = k
                  · subst e; rw [HLG.out] at hd; injection hd with hd; subst hd; exact heq (HGD.out.1 hg)
                  · exact hno.out j d (by omega) hd hg
                have HNX := Lib.hid hnx
                clear hnx
                go_region
                clear c0 c1 z0
                have hin3 : Hid (Ext w2 w3.drew) := Lib.hid hin2.out.drw
                generalize w3.drew = w4 at *
                go_wp2
                go_roundw
                case rel => exact ⟨rfl, rfl, k + 1, by go_num, by omega, HNX, hin3⟩
                case measure => simp [intOf]; omega
          · obtain rfl : k = 8 := by omega
            obtain ⟨i, d, hi, hd, hg⟩ := Bw.good_some HOW.out HP2.out HPE.out
            exact absurd hg (hno.out i d hi hd)
      · obtain rfl : lp = 0 := by omega
        go_wp2
        refine bodyPost_ret (v := .tuple #[.string ⟨t.toArray⟩, .int .i64 0]) (by simp [results, Tryd.results19, go_sem]) rfl ?_
        refine ⟨?_, HF.out.2.trans hin.out⟩
        have h1 := htr.out
        rw [List.eq_nil_of_length_eq_zero HLP.out.symm, List.append_nil] at h1
        rw [H12.out.1, H12.out.2, h1]
end Go.Proofs.YtlachbodibajlaaDoor
namespace Go.Proofs.YtlachbodibajlaaDoor
open Go.RowKit Go.Shelf

set_option maxHeartbeats 4000000 in
set_option maxRecDepth 100000 in
theorem awake_any (W : World) : Calls Tryd.prog 17 #[] W fun e W' => e = .returned (.bool true) ∧ Ext W W' := by
  go_enter Tryd.func17, Tryd.ntmps17
  have e1 : Ext W (W.alloc (.cells #[.string ⟨#[97, 98, 99]⟩, .string ⟨#[97, 99, 98]⟩] 9)) := al1 W _
  have hb := heap_alloc_new W (.cells #[.string ⟨#[97, 98, 99]⟩, .string ⟨#[97, 99, 98]⟩] 9)
  have hS : Sl (W.alloc (.cells #[.string ⟨#[97, 98, 99]⟩, .string ⟨#[97, 99, 98]⟩] 9)) (.slice (some ⟨W.heap.size, 0, none⟩) 2 2) [[97, 98, 99], [97, 99, 98]] := by
    refine ⟨_, 2, rfl, by decide, by decide, fun _ => ⟨W.heap.size, 0, rfl, (Array.getElem?_eq_some_iff.1 hb).1, fun j hj => ?_⟩⟩
    have hj2 : j < 2 := hj
    rcases (show j = 0 ∨ j = 1 by omega) with rfl | rfl
    · exact (cell_of_row _ _ _ _ 9 (0, 0) hb).trans rfl
    · exact (cell_of_row _ _ _ _ 9 (0, 0) hb).trans rfl
  have hsm : Sm [[97, 98, 99], [97, 99, 98]] := by
    intro s hs
    simp at hs
    rcases hs with rfl | rfl <;> decide
  have hcon := shortest_any _ _ _ hS hsm
  rw [rest_awake.1, rest_awake.2] at hcon
  have HC := Lib.hid hcon; have HE := Lib.hid e1
  clear hb hS hsm hcon e1
  go_wp2_with fail
  refine HC.out.mono ?_
  rintro e w2 ⟨rfl, hx⟩
  have HX := Lib.hid (HE.out.trans hx)
  clear hx HC
  go_wp2
  go_ret
  exact ⟨rfl, HX.out⟩

set_option maxHeartbeats 4000000 in
set_option maxRecDepth 100000 in
theorem bathShortest_walk (s : List UInt8) (ws : List Bw.Word) (V : Value) (W : World) (hV : Sl W V ws) (hs : Sm ws) (hl : s.length ≤ 9223372036854775807) :
    Calls Tryd.prog 3 #[.string ⟨s.toArray⟩, V] W fun e W' => e = .returned (.bool true) ∧ Ext W W' := by
  have c1 := fun X h => covers_any s ws V X h hs hl
  have c2 := fun X h => coversR_any s ws V X h hs hl
  have c3 := fun X h => shortest_any ws V X h hs
  have c4 := fun X h => shortestR_any ws V X h hs
  have c5 := fun X h => count_any ws V X h hs
  have c6 := fun X h => countR_any ws V X h hs
  generalize cvB s ws = cb at c1 c2
  generalize cvE s ws = ce at c1 c2
  generalize shS ws = t at c3 c4
  generalize shE ws = se at c3 c4 c5 c6
  generalize shN ws = sn at c5 c6
  have HV := Lib.hid hV; have C1 := Lib.hid c1; have C2 := Lib.hid c2; have C3 := Lib.hid c3; have C4 := Lib.hid c4; have C5 := Lib.hid c5; have C6 := Lib.hid c6
  clear c1 c2 c3 c4 c5 c6 hs hl
  obtain ⟨A, c, rfl, hac, hcm, -⟩ := hV
  go_enter Tryd.func3, Tryd.ntmps3
  go_wp2_with fail
  refine (C1.out _ HV.out).mono ?_
  rintro e w1 ⟨rfl, hx⟩
  have HX := Lib.hid hx; clear hx
  go_wp2_with fail
  refine (C2.out _ (HV.out.ext HX.out)).mono ?_
  rintro e w2 ⟨rfl, hx⟩
  replace HX := Lib.hid (HX.out.trans hx); clear hx
  have h0 : (cb != cb) = false := by simp
  have h1 : (ce != ce) = false := by simp
  go_wp2_with fail
  refine (awake_any _).mono ?_
  rintro e w3 ⟨rfl, hx⟩
  replace HX := Lib.hid (HX.out.trans hx); clear hx
  go_wp2_with fail
  refine (C3.out _ (HV.out.ext HX.out)).mono ?_
  rintro e w4 ⟨rfl, hx⟩
  replace HX := Lib.hid (HX.out.trans hx); clear hx
  go_wp2_with fail
  refine (C4.out _ (HV.out.ext HX.out)).mono ?_
  rintro e w5 ⟨rfl, hx⟩
  replace HX := Lib.hid (HX.out.trans hx); clear hx
  go_wp2_with fail
  refine (C5.out _ (HV.out.ext HX.out)).mono ?_
  rintro e w6 ⟨rfl, hx⟩
  replace HX := Lib.hid (HX.out.trans hx); clear hx
  go_wp2_with fail
  refine (C6.out _ (HV.out.ext HX.out)).mono ?_
  rintro e w7 ⟨rfl, hx⟩
  replace HX := Lib.hid (HX.out.trans hx); clear hx
  go_wp2
  go_ret
  exact ⟨rfl, HX.out⟩
end Go.Proofs.YtlachbodibajlaaDoor
namespace Go.Proofs.YtlachbodibajlaaDoor
open Go.RowKit Go.Shelf

/-- the first k elements lie between -/
def btw (x : Nat → Int) (lo hi : Int) (k : Nat) : Bool := (List.range k).all fun i => decide (lo ≤ x i ∧ x i ≤ hi)
theorem btw_succ (x : Nat → Int) (lo hi : Int) (k : Nat) : btw x lo hi (k + 1) = (btw x lo hi k && decide (lo ≤ x k ∧ x k ≤ hi)) := by
  unfold btw; rw [List.range_succ, List.all_append]; simp
theorem btw_no {x : Nat → Int} {lo hi : Int} {k n : Nat} (hk : k < n) (h : ¬ (lo ≤ x k ∧ x k ≤ hi)) : btw x lo hi n = false := by
  unfold btw
  rw [List.all_eq_false]
  exact ⟨k, List.mem_range.2 hk, by simpa using h⟩
theorem btw_iff {x : Nat → Int} {lo hi : Int} {n : Nat} : btw x lo hi n = true ↔ ∀ i, i < n → lo ≤ x i ∧ x i ≤ hi := by
  unfold btw
  rw [List.all_eq_true]
  exact ⟨fun h i hi => of_decide_eq_true (h i (List.mem_range.2 hi)), fun h i hi => decide_eq_true (h i (List.mem_range.1 hi))⟩

set_option maxHeartbeats 4000000 in
set_option maxRecDepth 100000 in
theorem areBetween_any (n : Nat) (x : Nat → Int) (lo hi : Int) (V : Value) (W : World) (hV : Il W V n x) :
    Calls Tryd.prog 59 #[V, .int .i64 lo, .int .i64 hi] W fun e W' => e = .returned (.bool (btw x lo hi n)) ∧ W' = W := by
  have HV := Lib.hid hV
  obtain ⟨A, c, rfl, hac, hcm, -⟩ := hV
  go_enter Tryd.func59, Tryd.ntmps59
  go_wp2_with fail
  go_loopw [11] (fun i wr => ∃ k : Nat, i = .int .i64 k ∧ k ≤ n ∧ btw x lo hi k = true ∧ wr = W) (fun i _ => n - (intOf i).toNat)
  case atStart => exact ⟨0, rfl, Nat.zero_le _, rfl, rfl⟩
  case round =>
    obtain ⟨k, rfl, hk, hall, rfl⟩ := hrel
    by_cases hlt : k < n
    · obtain ⟨b1, o1, rfl, -, e1⟩ := Vl.at HV.out (Ext.refl _) hlt
      have hsu := btw_succ x lo hi k
      have hno := fun h => btw_no (x := x) (lo := lo) (hi := hi) hlt h
      rw [hall, Bool.true_and] at hsu
      obtain ⟨z, hz⟩ : ∃ z, z = x k := ⟨_, rfl⟩
      rw [← hz] at e1 hsu hno
      have HSU := Lib.hid hsu; have HNO := Lib.hid hno
      clear hsu hno hz hall
      by_cases h1 : z < lo
      · go_wp2
        go_ret
        exact ⟨by rw [HNO.out (by omega)]; rfl, rfl⟩
      · by_cases h2 : hi < z
        · go_wp2
          go_ret
          exact ⟨by rw [HNO.out (by omega)]; rfl, rfl⟩
        · go_wp2
          go_roundw
          case rel => exact ⟨k + 1, by go_num, by omega, by rw [HSU.out]; exact decide_eq_true ⟨by omega, by omega⟩, trivial⟩
          case measure => simp [intOf]; omega
    · obtain rfl : k = n := by omega
      go_wp2
      go_ret
      exact ⟨by rw [hall]; rfl, rfl⟩

set_option maxHeartbeats 4000000 in
set_option maxRecDepth 100000 in
theorem near_any (n : Nat) (x : Nat → Int) (V : Value) (W : World) (hV : Il W V n x) :
    Calls Tryd.prog 62 #[V] W fun e W' => e = .returned (.bool (btw x (-1099511627776) 1099511627776 n)) ∧ W' = W := by
  have HV := Lib.hid hV
  obtain ⟨A, c, rfl, hac, hcm, -⟩ := hV
  go_enter Tryd.func62, Tryd.ntmps62
  go_wp2_with fail
  go_loopw [7] (fun i wr => ∃ k : Nat, i = .int .i64 k ∧ k ≤ n ∧ btw x (-1099511627776) 1099511627776 k = true ∧ wr = W) (fun i _ => n - (intOf i).toNat)
  case atStart => exact ⟨0, rfl, Nat.zero_le _, rfl, rfl⟩
  case round =>
    obtain ⟨k, rfl, hk, hall, rfl⟩ := hrel
    by_cases hlt : k < n
    · obtain ⟨b1, o1, rfl, -, e1⟩ := Vl.at HV.out (Ext.refl _) hlt
      have hsu := btw_succ x (-1099511627776) 1099511627776 k
      have hno := fun h => btw_no (x := x) (lo := (-1099511627776)) (hi := 1099511627776) hlt h
      rw [hall, Bool.true_and] at hsu
      obtain ⟨z, hz⟩ : ∃ z, z = x k := ⟨_, rfl⟩
      rw [← hz] at e1 hsu hno
      have HSU := Lib.hid hsu; have HNO := Lib.hid hno
      clear hsu hno hz hall
      by_cases h1 : z < (-1099511627776)
      · go_wp2
        go_ret
        exact ⟨by rw [HNO.out (by omega)]; rfl, rfl⟩
      · by_cases h2 : 1099511627776 < z
        · go_wp2
          go_ret
          exact ⟨by rw [HNO.out (by omega)]; rfl, rfl⟩
        · go_wp2
          go_roundw
          case rel => exact ⟨k + 1, by go_num, by omega, by rw [HSU.out]; exact decide_eq_true ⟨by omega, by omega⟩, trivial⟩
          case measure => simp [intOf]; omega
    · obtain rfl : k = n := by omega
      go_wp2
      go_ret
      exact ⟨by rw [hall]; rfl, rfl⟩

set_option maxHeartbeats 4000000 in
set_option maxRecDepth 100000 in
theorem equalI_any (n : Nat) (x : Nat → Int) (U V : Value) (W : World) (hU : Il W U n x) (hV : Il W V n x) (hn : n ≤ 100000) :
    Calls Tryd.prog 24 #[U, V] W fun e W' => e = .returned (.bool true) ∧ Ext W W' := by
  have HU := Lib.hid hU; have HV := Lib.hid hV
  obtain ⟨A1, c1, rfl, hc1, hd1, -⟩ := hU
  obtain ⟨A2, c2, rfl, hc2, hd2, -⟩ := hV
  go_enter Tryd.func24, Tryd.ntmps24
  go_wp2_with fail
  go_loopw [13] (fun i wr => ∃ k : Nat, i = .int .i64 k ∧ k ≤ n ∧ Hid (Ext W wr)) (fun i _ => n - (intOf i).toNat)
  case atStart => exact ⟨0, rfl, Nat.zero_le _, Lib.hid (Ext.refl _)⟩
  case round =>
    obtain ⟨k, rfl, hk, hin⟩ := hrel
    by_cases hlt : k < n
    · obtain ⟨b1, o1, rfl, -, e1⟩ := Vl.at HU.out hin.out hlt
      obtain ⟨b2, o2, rfl, -, e2⟩ := Vl.at HV.out hin.out hlt
      obtain ⟨p, hp⟩ : ∃ p, p = x k := ⟨_, rfl⟩
      rw [← hp] at e1 e2
      have e1d : wr.drew.cell? ⟨b1, o1 + k, none⟩ = some (.int .i64 p) := e1
      have e2d : wr.drew.cell? ⟨b2, o2 + k, none⟩ = some (.int .i64 p) := e2
      have hpp : (p != p) = false := by simp
      clear hp e1 e2
      go_upto_region 6 with fail
      go_region
      clear e1d e2d
      go_wp2
      go_roundw
      case rel => exact ⟨k + 1, by go_num, by omega, Lib.hid (hin.out.drw)⟩
      case measure => simp [intOf]; omega
    · obtain rfl : k = n := by omega
      go_wp2
      go_ret
      exact ⟨rfl, hin.out⟩

/-- what Table returns -/
def RetT (ws : List Bw.Word) (W : World) (e : Ending) (W' : World) : Prop := ∃ V er, e = .returned (.tuple #[V, .int .i64 er]) ∧ Ext W W' ∧
  ((okWs ws = false ∧ V = .slice none 0 0 ∧ er = 2) ∨ (okWs ws = true ∧ er = 0 ∧ Il W' V (Bw.sz ws) (fun j => ((Bw.rest ws j).1.length : Nat))))

set_option maxHeartbeats 4000000 in
set_option maxRecDepth 100000 in
theorem tableR_ret (ws : List Bw.Word) (V : Value) (W : World) (hV : Sl W V ws) (hs : Sm ws) : Calls Tryd.prog 23 #[V] W (RetT ws W) := by
  have HV := Lib.hid hV
  obtain ⟨A, c, rfl, hac, hcm, -⟩ := hV
  go_enter Tryd.func23, Tryd.ntmps23
  go_wp2_with fail
  refine (wordsR_any ws _ _ HV.out hs).mono ?_
  rintro e w1 ⟨rfl, hx⟩
  have HX := Lib.hid hx; clear hx
  cases hw : okWs ws
  · have HW := Lib.hid hw
    clear hw
    go_wp2
    refine bodyPost_ret (v := .tuple #[.slice none 0 0, .int .i64 2]) (by simp [results, Tryd.results23, go_sem]) rfl ?_
    exact ⟨_, _, rfl, HX.out, .inl ⟨HW.out, rfl, rfl⟩⟩
  · have HW := Lib.hid hw
    clear hw
    go_wp2_with fail
    refine (tableR_any ws _ _ (HV.out.ext HX.out) HW.out).mono ?_
    rintro e w2 ⟨gt, gc, rfl, l1, l2, hne, hT, hC, hx⟩
    obtain ⟨-, h4, h8, -⟩ := okWs_iff.1 HW.out
    have hzl := Bw.sz_le ws h4 h8
    have HF := Lib.hid (And.intro (BI.il hT (by omega)) (HX.out.trans hx))
    clear hT hC hx h4 h8
    go_wp2
    refine bodyPost_ret (v := .tuple #[.slice (some ⟨gt, 0, none⟩) (Bw.sz ws) (Bw.sz ws), .int .i64 0]) (by simp [results, Tryd.results23, go_sem]) rfl ?_
    exact ⟨_, _, rfl, HF.out.2, .inr ⟨HW.out, rfl, HF.out.1⟩⟩

set_option maxHeartbeats 4000000 in
set_option maxRecDepth 100000 in
theorem table_ret (ws : List Bw.Word) (V : Value) (W : World) (hV : Sl W V ws) (hs : Sm ws) : Calls Tryd.prog 22 #[V] W (RetT ws W) := by
  have HV := Lib.hid hV
  obtain ⟨A, c, rfl, hac, hcm, -⟩ := hV
  go_enter Tryd.func22, Tryd.ntmps22
  go_wp2_with fail
  refine (areWords_any ws _ _ HV.out hs).mono ?_
  rintro e w1 ⟨rfl, hx⟩
  have HX := Lib.hid hx; clear hx
  cases hw : okWs ws
  · have HW := Lib.hid hw
    clear hw
    go_wp2
    refine bodyPost_ret (v := .tuple #[.slice none 0 0, .int .i64 2]) (by simp [results, Tryd.results22, go_sem]) rfl ?_
    exact ⟨_, _, rfl, HX.out, .inl ⟨HW.out, rfl, rfl⟩⟩
  · have HW := Lib.hid hw
    obtain ⟨-, h4, h8, -⟩ := okWs_iff.1 hw
    have hzl := Bw.sz_le ws h4 h8
    have H8 := Lib.hid h8; have H4 := Lib.hid h4
    clear hw h4 h8 hs
    go_wp2_with fail
    refine (rests_any ws _ _ (HV.out.ext HX.out) HW.out).mono ?_
    rintro e w2 ⟨W0, kb, g1, g2, gb, rfl, hK, hI, hx0⟩
    have HK := Lib.hid (And.intro hK hx0)
    have HI := Lib.hid hI
    clear hK hI hx0
    go_wp2_with fail
    refine (size_any ws _ _ (HV.out.ext (HX.out.trans (HK.out.2.trans HI.out.ext))) H8.out H4.out).mono ?_
    rintro e w3 ⟨rfl, rfl⟩
    obtain ⟨N, hN⟩ : ∃ N, N = Bw.sz ws := ⟨_, rfl⟩
    rw [← hN] at hzl ⊢
    have HN := Lib.hid hN
    have hm1 : ∀ w, (Instr.makeSlice 32 (.int .i64 (N : Int)) (.int .i64 (N : Int))).run Tryd.prog w = .ok (.slice (some ⟨w.heap.size, 0, none⟩) N N) (w.alloc (.cells (Array.ofFn fun _ : Fin N => .int .i64 0) 3)) :=
      fun w => make_one 32 3 _ 8 Tryd.underlying32 info3 rfl (by omega) N (by omega) w
    obtain ⟨C1, hC1⟩ : ∃ C, C = (Array.ofFn fun _ : Fin N => Value.int .i64 0) := ⟨_, rfl⟩
    rw [← hC1] at hm1
    have hb := heap_alloc_new w3 (.cells C1 3)
    rw [hC1] at hb
    have e4 : Ext w3 (w3.alloc (.cells C1 3)) := Ext.alc (Ext.refl _) _
    have HB : Hid (BI (w3.alloc (.cells C1 3)) w3.heap.size N (fun j => if j < 0 then (((Bw.rest ws j).1.length : Nat) : Int) else 0)) := by
      refine Lib.hid (Bk.congr (f := fun _ => .int .i64 0) ?_ fun j _ => by simp)
      rw [hC1]; exact hb
    have HI4 := Lib.hid (HI.out.ext' e4)
    have HG : Hid (W0.heap.size ≤ w3.heap.size ∧ kb ≠ w3.heap.size ∧ g1 ≠ w3.heap.size ∧ g2 ≠ w3.heap.size) := by
      have h1 := HI.out.lt
      have h2 := HI.out.ext.size
      exact Lib.hid ⟨h2, by omega, by omega, by omega⟩
    have HW4 : Hid (W.heap.size ≤ w3.heap.size) := Lib.hid (HX.out.trans (HK.out.2.trans HI.out.ext)).size
    have HX4 : Hid (Ext W (w3.alloc (.cells C1 3))) := Lib.hid ((HX.out.trans (HK.out.2.trans HI.out.ext)).trans e4)
    have HWG : Hid (W.heap.size ≤ g1 ∧ W.heap.size ≤ g2) := by
      have h1 := HK.out.1.l1; have h2 := HK.out.1.l2; have h3 := (HX.out.trans HK.out.2).size
      exact Lib.hid ⟨by omega, by omega⟩
    clear hN hC1 hb e4 HI
    go_wp2_with fail
    obtain ⟨gt, hgt⟩ : ∃ g, g = w3.heap.size := ⟨_, rfl⟩
    rw [← hgt] at HB HG HW4 ⊢
    generalize w3.alloc (.cells C1 3) = w4 at *
    clear hgt hm1
    go_loopw [19] (fun i wr => ∃ k : Nat, i = .int .i64 k ∧ k ≤ N ∧ Hid (BI wr gt N (fun j => if j < k then (((Bw.rest ws j).1.length : Nat) : Int) else 0) ∧ Ki ws W0 kb g1 g2 gb wr ∧ Ext W wr)) (fun i _ => N - (intOf i).toNat)
    case atStart => exact ⟨0, rfl, Nat.zero_le _, Lib.hid ⟨HB.out, HI4.out, HX4.out⟩⟩
    case round =>
      obtain ⟨k, rfl, hk, hin⟩ := hrel
      by_cases hlt : k < N
      · have hks : k < Bw.sz ws := by rw [← HN.out]; exact hlt
        have hc := of_all HK.out.1 _ k hks (Nat.le_refl _) wr hin.out.2.1
        obtain ⟨u, hu⟩ : ∃ u, u = (Bw.rest ws k).1 := ⟨_, rfl⟩
        obtain ⟨v, hv⟩ : ∃ v, v = (Bw.rest ws k).2 := ⟨_, rfl⟩
        rw [← hu, ← hv] at hc
        have HC := Lib.hid hc; have HU := Lib.hid hu
        clear hc hu hv hks
        go_wp2_with fail
        refine HC.out.mono ?_
        rintro e w5 ⟨rfl, hk5, hi5⟩
        have hf0 := fun w => field0 ⟨u.toArray⟩ v w
        have hgl : gt < wr.heap.size := Bk.lt hin.out.1
        have hbt : BI w5 gt N (fun j => if j < k then (((Bw.rest ws j).1.length : Nat) : Int) else 0) := (hk5.block gt hgl (by have := HG.out; omega) (by have := HG.out; omega)).trans hin.out.1
        have c0 := Bk.cell hbt hlt
        have f0 := Bk.free hbt k
        have z0 := Bk.lt hbt
        have hnx : BI (w5.setCell ⟨gt, k, none⟩ (.int .i64 (u.length : Nat))) gt N (fun j => if j < k + 1 then (((Bw.rest ws j).1.length : Nat) : Int) else 0) := Bk.congr (BI.set_ hbt k _) fun j _ => by
          congr 1
          unfold up
          by_cases h : j = k
          · subst h; rw [if_pos rfl, HU.out]; simp
          · rw [if_neg h]
            by_cases h2 : j < k
            · simp [h2, show j < k + 1 by omega]
            · simp [h2, show ¬ j < k + 1 by omega]
        have hin5 : Ki ws W0 kb g1 g2 gb (w5.setCell ⟨gt, k, none⟩ (.int .i64 (u.length : Nat))) := by
          have hg := HG.out
          exact hi5.move (hi5.ext.sc hg.1) (fun b hb => heap_far (by omega))
        have hex : Ext W (w5.setCell ⟨gt, k, none⟩ (.int .i64 (u.length : Nat))) := (hk5.ext hin.out.2.2 HWG.out.1 HWG.out.2).sc HW4.out
        have HNX := Lib.hid (And.intro hnx (And.intro hin5 hex))
        clear hk5 hi5 hbt hnx hin5 hex hgl
        go_wp2
        go_roundw
        case rel => exact ⟨k + 1, by go_num, by omega, HNX⟩
        case measure => simp [intOf]; omega
      · obtain rfl : k = N := by omega
        have hil : Il wr (.slice (some ⟨gt, 0, none⟩) k k) k (fun j => (((Bw.rest ws j).1.length : Nat) : Int)) := (BI.il hin.out.1 (by omega)).congr fun j hj => by simp [hj]
        have HF := Lib.hid (And.intro hil hin.out.2.2)
        clear hil
        go_wp2
        refine bodyPost_ret (v := .tuple #[.slice (some ⟨gt, 0, none⟩) k k, .int .i64 0]) (by simp [results, Tryd.results22, go_sem]) rfl ?_
        exact ⟨_, _, rfl, HF.out.2, .inr ⟨HW.out, rfl, by rw [← HN.out]; exact HF.out.1⟩⟩
end Go.Proofs.YtlachbodibajlaaDoor
