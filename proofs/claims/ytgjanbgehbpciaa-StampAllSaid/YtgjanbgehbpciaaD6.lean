/- Walks: the law StampCells. -/
import Derived.Test.YtgjanbgehbpciaaD5
import Derived.Test.YtgjanbgehbpciaaV15
namespace Go.Proofs.Ytgjanbgehbpciaa
open Go.RowKit

theorem grpB_take {w h : Nat} {l : List Mv} (hs : okSize w h = true) : grpB w h (l.take 521) = grpB w h l := by
  have hs' := okSize_iff.1 hs
  have hN := pos2_bd (w := w) (h := h) (by omega) (by omega)
  by_cases hl : l.length ≤ 521
  · rw [List.take_of_length_le hl]
  · rw [grp_many (l := l) hs (by omega), grp_many (l := l.take 521) hs (by rw [List.length_take]; omega)]

set_option maxHeartbeats 1000000 in
set_option maxRecDepth 100000 in
theorem cells_law_f (w h : Int) (A : Option Addr) (n c : Nat) (l : List Mv) (W : World) (hml : Ml W (.slice A n c) l)
    (hc : ∀ v X, Ml X v (l.take 521) → Calls Try.prog 42 #[.int .i64 w, .int .i64 h, v] X fun e W' => e = .returned (.tuple #[.slice none 0 0, .int .i64 2]) ∧ Ext X W')
    (hg : ∀ X, Ml X (.slice A n c) l → Calls Try.prog 43 #[.int .i64 w, .int .i64 h, .slice A n c] X fun e W' => e = .returned (.bool false) ∧ Ext X W') :
    Calls Try.prog 9 #[.int .i64 w, .int .i64 h, .slice A n c] W fun e W' => e = .returned (.bool true) ∧ Ext W W' := by
  have hmv := moves_any A n c l W hml
  have HML := Lib.hid hml; have HC := Lib.hid hc; have HG := Lib.hid hg; have HMV := Lib.hid hmv
  clear hml hc hg hmv
  go_enter Try.func9, Try.ntmps9
  go_wp2_with fail
  refine HMV.out.mono ?_
  rintro e V ⟨v, rfl, hm, hx⟩
  have HM := Lib.hid hm; have E1 := Lib.hid hx; clear hm hx
  go_wp2_with fail
  refine (HC.out v _ HM.out).mono ?_
  rintro e V2 ⟨rfl, hx⟩
  have E2 := Lib.hid (E1.out.trans hx); clear hx HM E1
  go_wp2_with fail
  refine (HG.out _ (HML.out.ext E2.out)).mono ?_
  rintro e V3 ⟨rfl, hx⟩
  have E3 := Lib.hid (E2.out.trans hx); clear hx E2
  go_wp2_with fail
  refine (awake_any _).mono ?_
  rintro e V4 ⟨rfl, hx⟩
  have E4 := Lib.hid (E3.out.trans hx); clear hx E3
  go_wp2
  go_ret
  exact ⟨rfl, E4.out⟩

set_option maxHeartbeats 1000000 in
set_option maxRecDepth 100000 in
theorem cells_law_t (w h : Nat) (A : Option Addr) (n c : Nat) (l : List Mv) (W : World) (hml : Ml W (.slice A n c) l) (hs : okSize w h = true) (hgr : grpB w h l = true) :
    Calls Try.prog 9 #[.int .i64 w, .int .i64 h, .slice A n c] W fun e W' => e = .returned (.bool true) ∧ Ext W W' := by
  have hs' := okSize_iff.1 hs
  have hmv := moves_any A n c l W hml
  have hN := ris_len hs (grpB_iff.1 hgr).has (grpB_iff.1 hgr).ris
  have hN2 := pos2_bd (w := w) (h := h) (by omega) (by omega)
  have htk : l.take 521 = l := List.take_of_length_le (by omega)
  have hnl : n = l.length := hml.len
  rw [htk] at hmv
  have hc : ∀ v X, Ml X v l → Calls Try.prog 42 #[.int .i64 w, .int .i64 h, v] X fun e W' => ∃ g cap, e = .returned (.tuple #[.slice (some ⟨g, 0, none⟩) (w * h) cap, .int .i64 0]) ∧ w * h ≤ cap ∧ cap ≤ 9223372036854775807 ∧ Aw W' g (mgs w h l) ∧ Ext X W' := fun v X hv => by
    have h0 := hv
    obtain ⟨A, c, rfl, -⟩ := h0
    exact cellsS_c w h A _ c l X hs hv (by omega) hgr
  have hg : ∀ X, Ml X (.slice A n c) l → Calls Try.prog 43 #[.int .i64 w, .int .i64 h, .slice A n c] X fun e W' => e = .returned (.bool true) ∧ Ext X W' := fun X hv => by
    have := groupR_any w h _ l X hs hv
    rwa [hgr] at this
  have hr : ∀ X, Ml X (.slice A n c) l → Calls Try.prog 45 #[.int .i64 w, .int .i64 h, .slice A n c] X fun e W' => ∃ g, e = .returned (.slice (some ⟨g, 0, none⟩) (w * h) (w * h)) ∧ Aw W' g (mgs w h l) ∧ Ext X W' := fun X hv =>
    cellsR_c w h A n c l X hs hv (by omega) (grpB_iff.1 hgr).has
  have hlen : (mgs w h l).length = w * h := mgs_len
  obtain ⟨P, hP⟩ : ∃ P, P = w * h := ⟨_, rfl⟩
  have hP64 : P ≤ 64 := by rw [hP]; exact Nat.mul_le_mul (show w ≤ 8 by omega) (show h ≤ 8 by omega)
  rw [← hP] at hlen
  simp only [← hP] at hc hr
  have HML := Lib.hid hml; have HC := Lib.hid hc; have HG := Lib.hid hg; have HR := Lib.hid hr; have HMV := Lib.hid hmv; have HLEN := Lib.hid hlen
  clear hml hc hg hr hmv hlen hP hs hs' hgr hN hN2 htk hnl
  go_enter Try.func9, Try.ntmps9
  go_wp2_with fail
  refine HMV.out.mono ?_
  rintro e V ⟨v, rfl, hm, hx⟩
  have HM := Lib.hid hm; have E1 := Lib.hid hx; clear hm hx
  go_wp2_with fail
  refine (HC.out v _ HM.out).mono ?_
  rintro e V2 ⟨g, cap, rfl, hp1, hp2, haw, hx⟩
  have HAW := Lib.hid haw
  have E2 := Lib.hid (E1.out.trans hx); clear hx haw HM E1
  go_wp2_with fail
  refine (HG.out _ (HML.out.ext E2.out)).mono ?_
  rintro e V3 ⟨rfl, hx⟩
  have HAW3 := Lib.hid (HAW.out.ext hx)
  have E3 := Lib.hid (E2.out.trans hx); clear hx E2 HAW
  go_wp2_with fail
  refine (HR.out _ (HML.out.ext E3.out)).mono ?_
  rintro e V4 ⟨g4, rfl, haw4, hx⟩
  have HAW4 := Lib.hid haw4
  have HAW5 := Lib.hid (HAW3.out.ext hx)
  have E4 := Lib.hid (E3.out.trans hx); clear hx haw4 E3 HAW3
  have hi1 : Il V4 (.slice (some ⟨g, 0, none⟩) P cap) (mgs w h l) := by have := HAW5.out.il cap (by rw [HLEN.out]; exact hp1) hp2; rwa [HLEN.out] at this
  have hi2 : Il V4 (.slice (some ⟨g4, 0, none⟩) P P) (mgs w h l) := by have := HAW4.out.il P (by rw [HLEN.out]; exact Nat.le_refl _) (by omega); rwa [HLEN.out] at this
  have HI1 := Lib.hid hi1; have HI2 := Lib.hid hi2; clear hi1 hi2
  go_wp2_with fail
  refine (equal_any _ _ P cap P P (mgs w h l) (mgs w h l) _ HI1.out HI2.out (by omega) (by omega)).mono ?_
  rintro e V5 ⟨rfl, hx⟩
  have E5 := Lib.hid (E4.out.trans hx); clear hx E4
  have ht : decide (mgs w h l = mgs w h l) = true := decide_eq_true rfl
  rw [ht]
  clear ht
  go_wp2_with fail
  refine (awake_any _).mono ?_
  rintro e V6 ⟨rfl, hx⟩
  have E6 := Lib.hid (E5.out.trans hx); clear hx E5
  go_wp2
  go_ret
  exact ⟨rfl, E6.out⟩

/-- the law -/
theorem cells_law (w h : Int) (A : Option Addr) (n c : Nat) (l : List Mv) (W : World) (hml : Ml W (.slice A n c) l) :
    Calls Try.prog 9 #[.int .i64 w, .int .i64 h, .slice A n c] W fun e W' => e = .returned (.bool true) ∧ Ext W W' := by
  cases hs : okSize w h
  · exact cells_law_f w h A n c l W hml (fun v X _ => cellsS_f w h v X (fun Y _ => hasGroup_f w h v Y hs)) (fun X _ => groupR_f w h A n c X hs)
  · have hs' := okSize_iff.1 hs
    obtain ⟨w, rfl⟩ : ∃ n : Nat, w = n := ⟨w.toNat, by omega⟩
    obtain ⟨h, rfl⟩ : ∃ n : Nat, h = n := ⟨h.toNat, by omega⟩
    cases hg : grpB w h l
    · refine cells_law_f w h A n c l W hml (fun v X hv => cellsS_f w h v X (fun Y hY => ?_)) (fun X hv => ?_)
      · have := hasGroup_any w h v (l.take 521) Y hs (hv.ext hY) (by rw [List.length_take]; omega)
        rwa [grpB_take hs, hg] at this
      · have := groupR_any w h _ l X hs hv
        rwa [hg] at this
    · exact cells_law_t w h A n c l W hml hs hg
end Go.Proofs.Ytgjanbgehbpciaa
