/- Walks: the law StampMoves. -/
import Derived.Test.YtgjanbgehbpciaaE4
import Derived.Test.YtgjanbgehbpciaaV15
namespace Go.Proofs.Ytgjanbgehbpciaa
open Go.RowKit

set_option maxHeartbeats 1000000 in
set_option maxRecDepth 100000 in
theorem moves_law_f (w h : Int) (A : Option Addr) (n c : Nat) (l : List Mv) (W : World) (hml : Ml W (.slice A n c) l) (hs : okSize w h = false) :
    Calls Try.prog 5 #[.int .i64 w, .int .i64 h, .slice A n c] W fun e W' => e = .returned (.bool true) ∧ Ext W W' := by
  have hmv := fun X (hX : Ml X (.slice A n c) l) => moves_any A n c l X hX
  have HML := Lib.hid hml; have HMV := Lib.hid hmv; have HS := Lib.hid hs
  clear hml hmv hs
  go_enter Try.func5, Try.ntmps5
  go_wp2_with fail
  refine (movesS_f w h _ HS.out).mono ?_
  rintro e V ⟨rfl, hx⟩
  have E1 : Hid (Ext W V) := Lib.hid hx; clear hx
  go_wp2_with fail
  refine (HMV.out _ (HML.out.ext E1.out)).mono ?_
  rintro e V2 ⟨v, rfl, hm, hx⟩
  obtain ⟨A2, c2, rfl, -⟩ := hm
  have E2 := Lib.hid (E1.out.trans hx); clear hx E1
  obtain ⟨N, hN⟩ : ∃ N, N = (l.take 521).length := ⟨_, rfl⟩
  rw [← hN]
  clear hN
  go_wp2_with fail
  refine (closeS_f w h _ _ _ _ HS.out).mono ?_
  rintro e V3 ⟨rfl, hx⟩
  have E3 := Lib.hid (E2.out.trans hx); clear hx E2
  go_wp2_with fail
  refine (sizeR_is HS.out _).mono ?_
  rintro e V4 ⟨rfl, hx⟩
  have E4 := Lib.hid (E3.out.trans hx); clear hx E3
  go_wp2_with fail
  refine (awake_any _).mono ?_
  rintro e V5 ⟨rfl, hx⟩
  have E5 := Lib.hid (E4.out.trans hx); clear hx E4
  go_wp2
  go_ret
  exact ⟨rfl, E5.out⟩

set_option maxHeartbeats 4000000 in
set_option maxRecDepth 100000 in
theorem moves_law_t (w h : Nat) (A : Option Addr) (n c : Nat) (l : List Mv) (W : World) (hml : Ml W (.slice A n c) l) (hs : okSize w h = true) (F : Bool) (hF : F = (decide (n ≤ 16) && l.all (fun m => has w h m))) (lc : List Mv) (fz : Int)
    (h1 : F = false → lc = [] ∧ fz = 2) (h2 : F = true → lc = grp w h l ∧ fz = 0) (hlc : lc.length ≤ 512)
    (hc : ∀ v X, Ml X v (l.take 521) → Calls Try.prog 30 #[.int .i64 w, .int .i64 h, v] X fun e W' => ∃ v, e = .returned (.tuple #[v, .int .i64 fz]) ∧ Ml W' v lc ∧ Ext X W') :
    Calls Try.prog 5 #[.int .i64 w, .int .i64 h, .slice A n c] W fun e W' => e = .returned (.bool true) ∧ Ext W W' := by
  have hs' := okSize_iff.1 hs
  have hmv := fun X (hX : Ml X (.slice A n c) l) => moves_any A n c l X hX
  have hms := fun X => movesS_t w h X hs
  have hmr := fun X => movesR_any w h X (by omega) (by omega)
  have hcr := fun X (hall : ∀ m ∈ l, has w h m = true) (hX : Ml X (.slice A n c) l) (hN : l.length ≤ 1000) => closeR_any w h _ l X hs hall hX hN
  have hmlen := mvs_len w h (pos w h 2 0 0 0)
  have hNN := pos2_bd (w := w) (h := h) (by omega) (by omega)
  have hlen : n = l.length := hml.len
  have hnc : n ≤ c ∧ c ≤ 9223372036854775807 := by obtain ⟨A', c', e, h1, h2, -⟩ := hml; injection e with e1 e2 e3; omega
  have heq : ∀ (u v : Value) (k : List Mv) (X : World), Ml X u k → Ml X v k → k.length ≤ 1000 → Calls Try.prog 32 #[u, v] X fun e W' => e = .returned (.bool true) ∧ Ext X W' := fun u v k X hu hv hk => by
    have := equalM_any u v k k X hu hv hk hk
    rwa [decide_eq_true (rfl : k = k)] at this
  obtain ⟨mv, hmve⟩ : ∃ mv, mv = mvs w h (pos w h 2 0 0 0) := ⟨_, rfl⟩
  rw [← hmve] at hmlen
  simp only [← hmve] at hms hmr
  have hmv5 : mv.length ≤ 512 := by omega
  have HML := Lib.hid hml; have HMV := Lib.hid hmv; have HS := Lib.hid hs; have HMS := Lib.hid hms; have HMR := Lib.hid hmr; have HCR := Lib.hid hcr; have HLEN := Lib.hid hlen; have HC := Lib.hid hc; have HFE := Lib.hid hF; have H1 := Lib.hid h1; have H2 := Lib.hid h2; have HEQ := Lib.hid heq
  clear hml hmv hs hms hmr hcr hlen hc hF h1 h2 hmve hmlen hNN hs' heq
  go_enter Try.func5, Try.ntmps5
  go_wp2_with fail
  refine (HMS.out _).mono ?_
  rintro e V ⟨v, rfl, hm, hx⟩
  obtain ⟨A1, c1, rfl, g1, g2, g3⟩ := hm
  have HM : Hid (Ml V (.slice A1 mv.length c1) mv) := Lib.hid ⟨A1, c1, rfl, g1, g2, g3⟩
  obtain ⟨nM, hnM⟩ : ∃ nM, nM = mv.length := ⟨_, rfl⟩
  rw [← hnM] at HM hmv5 ⊢
  have HNM := Lib.hid hnM
  have E1 : Hid (Ext W V) := Lib.hid hx; clear hx g1 g2 g3 hnM
  go_wp2_with fail
  refine (HMV.out _ (HML.out.ext E1.out)).mono ?_
  rintro e V2 ⟨v, rfl, hm, hx⟩
  have HM2 := Lib.hid hm
  replace HM := Lib.hid (HM.out.ext hx)
  have E2 := Lib.hid (E1.out.trans hx); clear hx E1 hm
  go_wp2_with fail
  refine (HC.out v _ HM2.out).mono ?_
  rintro e V3 ⟨v3, rfl, hm, hx⟩
  obtain ⟨A3, c3, rfl, g1, g2, g3⟩ := hm
  have HM3 : Hid (Ml V3 (.slice A3 lc.length c3) lc) := Lib.hid ⟨A3, c3, rfl, g1, g2, g3⟩
  obtain ⟨nC, hnC⟩ : ∃ nC, nC = lc.length := ⟨_, rfl⟩
  rw [← hnC] at HM3 hlc ⊢
  have HNC := Lib.hid hnC
  replace HM := Lib.hid (HM.out.ext hx)
  have E3 := Lib.hid (E2.out.trans hx); clear hx E2 HM2 g1 g2 g3 hnC
  go_wp2_with fail
  refine (sizeR_is HS.out _).mono ?_
  rintro e V4 ⟨rfl, hx⟩
  replace HM := Lib.hid (HM.out.ext (Ext.of hx)); replace HM3 := Lib.hid (HM3.out.ext (Ext.of hx))
  have E4 := Lib.hid (E3.out.trans hx); clear hx E3
  go_wp2_with fail
  refine (ownMoves_any A1 nM c1 mv _ HM.out (by rw [← HNM.out]; omega)).mono ?_
  rintro e V5 ⟨v5, rfl, hm, hx⟩
  have HO := Lib.hid hm
  replace HM3 := Lib.hid (HM3.out.ext hx)
  have E5 := Lib.hid (E4.out.trans hx); clear hx E4 hm HM
  go_wp2_with fail
  refine (HMR.out _).mono ?_
  rintro e V6 ⟨v6, rfl, hm, hx⟩
  have HR := Lib.hid hm
  replace HO := Lib.hid (HO.out.ext hx); replace HM3 := Lib.hid (HM3.out.ext hx)
  have E6 := Lib.hid (E5.out.trans hx); clear hx E5 hm
  go_wp2_with fail
  refine (HEQ.out v5 v6 mv _ HO.out HR.out (by rw [← HNM.out]; omega)).mono ?_
  rintro e V7 ⟨rfl, hx⟩
  replace HM3 := Lib.hid (HM3.out.ext hx)
  have E7 := Lib.hid (E6.out.trans hx); clear hx E6 HO HR
  obtain ⟨f0, hf0⟩ : ∃ f0, f0 = decide (n ≤ 16) := ⟨_, rfl⟩
  have hf0' : decide ((n : Int) ≤ 16) = f0 := by rw [hf0]; simp; omega
  have HF0 := Lib.hid hf0; clear hf0
  go_wp2_with fail
  go_loopw [11, 65] (fun v i wr => ∃ k : Nat, i = .int .i64 k ∧ k ≤ n ∧ v = .bool (f0 && (l.take k).all (fun m => has w h m)) ∧ Ext V7 wr) (fun _ i _ => n - (intOf i).toNat)
  case atStart => exact ⟨0, rfl, by omega, by simp, Ext.refl _⟩
  case round =>
    obtain ⟨k, rfl, hk, rfl, hex⟩ := hrel
    have HEX := Lib.hid hex; clear hex hf0'
    by_cases hlt : k < n
    · obtain ⟨m, hm⟩ : ∃ m, l[k]? = some m := ⟨l[k]'(by rw [← HLEN.out]; exact hlt), List.getElem?_eq_getElem _⟩
      obtain ⟨b, off, rfl, hb, hc⟩ := HML.out.cm (by omega)
      obtain ⟨d0, d1, d2, d3⟩ := (hc.ext hb (E7.out.trans HEX.out)) k m hm
      clear hc
      have hnext : (l.take (k + 1)).all (fun m => has w h m) = ((l.take k).all (fun m => has w h m) && has w h m) := by
        rw [List.take_add_one, hm, List.all_append]; simp
      have HNX := Lib.hid hnext; clear hnext hm
      obtain ⟨f1, hf1⟩ : ∃ f1, f1 = (f0 && (l.take k).all (fun m => has w h m)) := ⟨_, rfl⟩
      rw [← hf1]
      have HF1 := Lib.hid hf1; clear hf1
      cases f1 with
      | false =>
        go_wp2_with fail
        clear d0 d1 d2 d3
        go_roundw
        case rel => exact ⟨k + 1, by go_num, by omega, by rw [HNX.out, ← Bool.and_assoc, ← HF1.out]; rfl, HEX.out.alc _⟩
        case measure => simp [intOf]; omega
      | true =>
        have hf0t : f0 = true := by have h := HF1.out.symm; rw [Bool.and_eq_true] at h; exact h.1
        have hn16 : n ≤ 16 := by have := HF0.out; rw [hf0t] at this; exact of_decide_eq_true this.symm
        have hk16 : decide (16 < k) = false := decide_eq_false (by omega)
        have hk17 : decide ((16 : Int) < (k : Int)) = false := decide_eq_false (by omega)
        clear hf0t
        cases hh : has w h m
        · have Hh := Lib.hid hh; clear hh
          go_wp2_with fail
          refine (fits_is (b := false) Hh.out _).mono ?_
          rintro e V8 ⟨rfl, hx⟩
          have e1 : Ext wr V8 := nx ((Ext.refl wr).alc _) hx
          have E8 := Lib.hid e1; clear hx e1 d0 d1 d2 d3
          go_wp2_with fail
          go_roundw
          case rel => exact ⟨k + 1, by go_num, by omega, by rw [HNX.out, ← Bool.and_assoc, ← HF1.out, Hh.out]; rfl, HEX.out.trans E8.out⟩
          case measure => simp [intOf]; omega
        · have Hh := Lib.hid hh; clear hh
          go_wp2_with fail
          refine (fits_is (b := true) Hh.out _).mono ?_
          rintro e V8 ⟨rfl, hx⟩
          have e1 : Ext wr V8 := nx ((Ext.refl wr).alc _) hx
          have E8 := Lib.hid e1; clear hx e1 d0 d1 d2 d3
          go_wp2_with fail
          go_roundw
          case rel => exact ⟨k + 1, by go_num, by omega, by rw [HNX.out, ← Bool.and_assoc, ← HF1.out, Hh.out]; rfl, HEX.out.trans E8.out⟩
          case measure => simp [intOf]; omega
    · obtain rfl : k = n := by omega
      have hfin : (f0 && (l.take k).all (fun m => has w h m)) = F := by
        rw [HFE.out, HF0.out, List.take_of_length_le (by rw [← HLEN.out]; exact Nat.le_refl _)]
      rw [hfin]
      clear hfin hlt
      have hM4 := HM3.out.ext HEX.out
      have HM4 := Lib.hid hM4
      have E8 := Lib.hid (E7.out.trans HEX.out); clear HM3 hM4
      cases F with
      | false =>
        obtain ⟨hl0, rfl⟩ := H1.out rfl
        have hn0 : nC = 0 := by rw [HNC.out, hl0]; rfl
        subst hn0
        clear hl0 HNC HM4 H1 H2
        go_wp2_with fail
        refine (awake_any _).mono ?_
        rintro e V9 ⟨rfl, hx⟩
        have E9 := Lib.hid (E8.out.trans hx); clear hx E8
        go_wp2
        go_ret
        exact ⟨rfl, E9.out⟩
      | true =>
        obtain ⟨hl0, rfl⟩ := H2.out rfl
        have hf2 := HFE.out.symm
        rw [Bool.and_eq_true] at hf2
        have hn16 : k ≤ 16 := of_decide_eq_true hf2.1
        have hall : ∀ m ∈ l, has w h m = true := fun m hm => by have := List.all_eq_true.1 hf2.2 m hm; exact this
        have HALL := Lib.hid hall; have HL0 := Lib.hid hl0
        clear hf2 hall hl0 H1 H2
        go_wp2_with fail
        refine (ownMoves_any A3 nC c3 lc _ HM4.out (by rw [← HNC.out]; omega)).mono ?_
        rintro e V9 ⟨v9, rfl, hm, hx⟩
        have HO := Lib.hid hm
        have E9 := Lib.hid (E8.out.trans hx); clear hx E8 hm HM4
        go_wp2_with fail
        refine (HCR.out _ HALL.out (HML.out.ext E9.out) (by rw [← HLEN.out]; omega)).mono ?_
        rintro e V10 ⟨v10, rfl, hm, hx⟩
        rw [← HL0.out] at hm
        have HR := Lib.hid hm
        replace HO := Lib.hid (HO.out.ext hx)
        have E10 := Lib.hid (E9.out.trans hx); clear hx E9 hm
        go_wp2_with fail
        refine (HEQ.out v9 v10 lc _ HO.out HR.out (by rw [← HNC.out]; omega)).mono ?_
        rintro e V11 ⟨rfl, hx⟩
        have E11 := Lib.hid (E10.out.trans hx); clear hx E10 HO HR
        go_wp2_with fail
        refine (awake_any _).mono ?_
        rintro e V12 ⟨rfl, hx⟩
        have E12 := Lib.hid (E11.out.trans hx); clear hx E11
        go_wp2
        go_ret
        exact ⟨rfl, E12.out⟩

/-- the law -/
theorem moves_law (w h : Int) (A : Option Addr) (n c : Nat) (l : List Mv) (W : World) (hml : Ml W (.slice A n c) l) :
    Calls Try.prog 5 #[.int .i64 w, .int .i64 h, .slice A n c] W fun e W' => e = .returned (.bool true) ∧ Ext W W' := by
  cases hs : okSize w h
  · exact moves_law_f w h A n c l W hml hs
  · have hs' := okSize_iff.1 hs
    obtain ⟨w, rfl⟩ : ∃ n : Nat, w = n := ⟨w.toNat, by omega⟩
    obtain ⟨h, rfl⟩ : ∃ n : Nat, h = n := ⟨h.toNat, by omega⟩
    have hlen : n = l.length := hml.len
    have hNN := pos2_bd (w := w) (h := h) (by omega) (by omega)
    by_cases hn : n ≤ 16
    · have ht : l.take 521 = l := List.take_of_length_le (by omega)
      cases hh : l.all (fun m => has w h m)
      · refine moves_law_t w h A n c l W hml hs false (by rw [hh, Bool.and_false]) [] 2 (fun _ => ⟨rfl, rfl⟩) (fun e => by cases e) (by simp) (fun v X hv => ?_)
        rw [ht] at hv
        have h0 := hv
        obtain ⟨A2, c2, rfl, -⟩ := h0
        refine (closeS_has w h A2 _ c2 l X hs hv (by omega) hh).mono ?_
        rintro e V ⟨rfl, hx⟩
        exact ⟨_, rfl, Ml.nil_ _, hx⟩
      · refine moves_law_t w h A n c l W hml hs true (by rw [hh, decide_eq_true hn]; rfl) (grp w h l) 0 (fun e => by cases e) (fun _ => ⟨rfl, rfl⟩) (Nat.le_trans (grp_len w h l) hNN) (fun v X hv => ?_)
        rw [ht] at hv
        have h0 := hv
        obtain ⟨A2, c2, rfl, -⟩ := h0
        exact closeS_t w h A2 _ c2 l X hs hv (by omega) hh
    · refine moves_law_t w h A n c l W hml hs false (by rw [decide_eq_false hn, Bool.false_and]) [] 2 (fun _ => ⟨rfl, rfl⟩) (fun e => by cases e) (by simp) (fun v X hv => ?_)
      have h0 := hv
      obtain ⟨A2, c2, rfl, -⟩ := h0
      refine (closeS_long w h A2 _ c2 X hs (by rw [List.length_take]; omega) (by rw [List.length_take]; omega)).mono ?_
      rintro e V ⟨rfl, hx⟩
      exact ⟨_, rfl, Ml.nil_ _, hx⟩
end Go.Proofs.Ytgjanbgehbpciaa
