/- Walks: Equal, same. -/
import Derived.Test.YtgjanbgehbpciaaV13
namespace Go.Proofs.Ytgjanbgehbpciaa
open Go.RowKit

set_option maxHeartbeats 1000000 in
set_option maxRecDepth 100000 in
theorem equal_c (b1 o1 c1 b2 o2 c2 n : Nat) (l k : List Int) (W : World) (hn : n ≤ 1000) (hl : l.length = n) (hk : k.length = n)
    (h1 : ∀ j, j < n → W.cell? ⟨b1, o1 + j, none⟩ = some (.int .i64 (l.getD j 0))) (h2 : ∀ j, j < n → W.cell? ⟨b2, o2 + j, none⟩ = some (.int .i64 (k.getD j 0))) :
    Calls Try.prog 44 #[.slice (some ⟨b1, o1, none⟩) n c1, .slice (some ⟨b2, o2, none⟩) n c2] W fun e W' => e = .returned (.bool (decide (l = k))) ∧ Ext W W' := by
  have H1 := Lib.hid h1; have H2 := Lib.hid h2; clear h1 h2
  have Hl := Lib.hid hl; have Hk := Lib.hid hk; clear hl hk
  obtain ⟨r, hr⟩ : ∃ r, r = decide (l = k) := ⟨_, rfl⟩
  rw [← hr]
  have Hr := Lib.hid hr; clear hr
  have g0 : ((n : Int) != (n : Int)) = false := by simp
  go_enter Try.func44, Try.ntmps44
  go_wp2
  go_loopw [13] (fun i wr => ∃ q j : Nat, i = .int .i64 j ∧ j ≤ n ∧ wr = W.drewN q ∧ Hid (∀ t, t < j → l.getD t 0 = k.getD t 0)) (fun i _ => n - (intOf i).toNat)
  case atStart => exact ⟨0, 0, rfl, Nat.zero_le _, rfl, Lib.hid (fun t ht => by omega)⟩
  case round =>
    obtain ⟨q, j, rfl, hj, rfl, hz⟩ := hrel
    by_cases hlt : j < n
    · have a1 := H1.out j hlt
      have a2 := H2.out j hlt
      obtain ⟨x, hx⟩ : ∃ x, x = l.getD j 0 := ⟨_, rfl⟩
      obtain ⟨y, hy⟩ : ∃ y, y = k.getD j 0 := ⟨_, rfl⟩
      rw [← hx] at a1
      rw [← hy] at a2
      have Hx := Lib.hid hx; have Hy := Lib.hid hy; clear hx hy
      by_cases hxy : x = y
      · have hd : (x != y) = false := by simp [hxy]
        have Hxy := Lib.hid hxy; clear hxy
        go_wp2_with fail
        go_quiet (fail)
        go_wp2
        go_roundw
        case rel => exact ⟨_, j + 1, by go_num, by omega, rfl, Lib.hid (fun t ht => by
          by_cases e : t = j
          · rw [e, ← Hx.out, ← Hy.out]; exact Hxy.out
          · exact hz.out t (by omega))⟩
        case measure => simp [intOf]; omega
      · have hd : (x != y) = true := by simp [hxy]
        have hrf : r = false := by
          rw [Hr.out, decide_eq_false_iff_not]
          rintro rfl
          exact hxy (by rw [Hx.out, Hy.out])
        have HRF := Lib.hid hrf
        clear hxy hrf
        go_wp2_with fail
        go_quiet (fail)
        go_wp2
        go_ret
        exact ⟨by rw [HRF.out]; rfl, Below.toDrewN (Below.toDrewN (Below.refl _ _) _) _⟩
    · obtain rfl : j = n := by omega
      have hrt : r = true := by
        rw [Hr.out, decide_eq_true_eq]
        apply List.ext_getElem (by rw [Hl.out, Hk.out])
        intro t ht ht'
        have := hz.out t (by rw [← Hl.out]; exact ht)
        rwa [List.getD_eq_getElem?_getD, List.getElem?_eq_getElem ht, List.getD_eq_getElem?_getD, List.getElem?_eq_getElem ht'] at this
      have HRT := Lib.hid hrt
      clear hrt
      go_wp2
      go_ret
      exact ⟨by rw [HRT.out]; rfl, Below.toDrewN (Below.refl _ _) _⟩

set_option maxRecDepth 100000 in
theorem equal_len (A B : Option Addr) (n c n' c' : Nat) (W : World) (hn : n ≤ 1000) (hn' : n' ≤ 1000) (hne : n ≠ n') :
    Calls Try.prog 44 #[.slice A n c, .slice B n' c'] W fun e W' => e = .returned (.bool false) ∧ Ext W W' := by
  have g0 : ((n : Int) != (n' : Int)) = true := by simp; omega
  clear hne
  go_enter Try.func44, Try.ntmps44
  go_wp2
  go_ret
  exact ⟨rfl, Ext.refl _⟩

set_option maxRecDepth 100000 in
theorem equal_zero (A B : Option Addr) (c c' : Nat) (W : World) :
    Calls Try.prog 44 #[.slice A 0 c, .slice B 0 c'] W fun e W' => e = .returned (.bool true) ∧ Ext W W' := by
  go_enter Try.func44, Try.ntmps44
  go_wp2
  go_loopw [13] (fun i wr => i = .int .i64 0 ∧ wr = W) (fun i _ => 0)
  case atStart => exact ⟨rfl, rfl⟩
  case round =>
    obtain ⟨rfl, rfl⟩ := hrel
    go_wp2
    go_ret
    exact ⟨rfl, Ext.refl _⟩

/-- slices.Equal -/
theorem equal_any (A B : Option Addr) (n c n' c' : Nat) (l k : List Int) (W : World) (hl : Il W (.slice A n c) l) (hk : Il W (.slice B n' c') k) (hn : n ≤ 1000) (hn' : n' ≤ 1000) :
    Calls Try.prog 44 #[.slice A n c, .slice B n' c'] W fun e W' => e = .returned (.bool (decide (l = k))) ∧ Ext W W' := by
  have e1 := hl.len
  have e2 := hk.len
  by_cases hne : n = n'
  · subst hne
    obtain ⟨A1, c1, he, -, -, h4⟩ := hl
    injection he with a1 a2 a3
    subst a1 a3
    obtain ⟨A2, c2, he, -, -, h5⟩ := hk
    injection he with a1 a2 a3
    subst a1 a3
    by_cases h0 : n = 0
    · subst h0
      rw [List.eq_nil_of_length_eq_zero e1.symm, List.eq_nil_of_length_eq_zero e2.symm]
      exact equal_zero A B c c' W
    · obtain ⟨b1, o1, rfl, -, hc1⟩ := h4 (by omega)
      obtain ⟨b2, o2, rfl, -, hc2⟩ := h5 (by omega)
      exact equal_c b1 o1 c b2 o2 c' n l k W hn e1.symm e2.symm (fun j hj => hc1 j (by omega)) (fun j hj => hc2 j (by omega))
  · rw [decide_eq_false (fun h => hne (by rw [e1, e2, h]))]
    exact equal_len A B n c n' c' W hn hn' hne

set_option maxRecDepth 100000 in
theorem same_eq (w h : Int) (A B : Option Addr) (n c n' c' : Nat) (l k : List Int) (W : World) (hl : Il W (.slice A n c) l) (hk : Il W (.slice B n' c') k) (hn : n ≤ 1000) (hn' : n' ≤ 1000) :
    Calls Try.prog 20 #[.agg #[.int .i64 w, .int .i64 h, .slice A n c], .agg #[.int .i64 w, .int .i64 h, .slice B n' c']] W fun e W' => e = .returned (.bool (decide (l = k))) ∧ Ext W W' := by
  have ceq := fun X (hX : Ext W X) => equal_any A B n c n' c' l k X (hl.below hX) (hk.below hX) hn hn'
  have CEQ := Lib.hid ceq; clear ceq hl hk
  obtain ⟨r, hr⟩ : ∃ r, r = decide (l = k) := ⟨_, rfl⟩
  rw [← hr] at CEQ ⊢
  clear hr
  have g1 : (w == w) = true := by simp
  have g2 : (h == h) = true := by simp
  go_enter Try.func20, Try.ntmps20
  go_wp2_with fail
  refine (CEQ.out _ (al2 W _ _)).mono ?_
  rintro e w1 ⟨rfl, hx⟩
  have HX : Hid (Ext W w1) := Lib.hid (nx (al2 W _ _) hx)
  clear hx
  go_wp2
  go_ret
  exact ⟨rfl, HX.out⟩

theorem aw_vst : vst ((2 : Nat) : Int) ((1 : Nat) : Int) [0, 1] = true := by decide
theorem aw_has : has ((2 : Nat) : Int) ((1 : Nat) : Int) ⟨1, 0, 0, false⟩ = true := by decide
theorem aw_apl : apl 2 1 ⟨1, 0, 0, false⟩ [0, 1] 2 = [1, 0] := by decide

set_option maxHeartbeats 1000000 in
set_option maxRecDepth 100000 in
theorem awake_any (W : World) : Calls Try.prog 18 #[] W fun e W' => e = .returned (.bool true) ∧ Ext W W' := by
  have a1 := Lib.hid aw_vst; have a2 := Lib.hid aw_has; have a3 := Lib.hid aw_apl
  go_enter Try.func18, Try.ntmps18
  go_wp2_with fail
  refine (apply_ok 2 1 ⟨1, 0, 0, false⟩ (some ⟨W.heap.size, 0, none⟩) 2 2 [0, 1] _ ?i1 a1.out a2.out).mono ?_
  case i1 => exact (Ar.new W [0, 1] 3).il 2 (by simp) (by omega)
  rintro e w1 ⟨A', rfl, hil, hfr, hx⟩
  rw [a3.out] at hil
  have HIL := Lib.hid hil
  have HX : Hid (Ext W w1) := Lib.hid (nx (al1 W _) hx)
  clear hil hfr hx
  go_wp2_with fail
  refine (own_any 2 1 A' 2 2 _).mono ?_
  rintro e w2 ⟨rfl, hx⟩
  have HIL2 := Lib.hid (HIL.out.below (nx (al1 w1 _) hx))
  have HX2 : Hid (Ext W w2) := Lib.hid (HX.out.trans (nx (al1 w1 _) hx))
  clear hx HIL HX
  go_wp2_with fail
  refine (same_eq 2 1 A' (some ⟨w2.heap.size, 0, none⟩) 2 2 2 2 [1, 0] [1, 0] _ (HIL2.out.below (al1 w2 _)) ((Ar.new w2 [1, 0] 3).il 2 (by simp) (by omega)) (by omega) (by omega)).mono ?_
  rintro e w3 ⟨rfl, hx⟩
  have HX3 : Hid (Ext W w3) := Lib.hid (HX2.out.trans (nx (al1 w2 _) hx))
  clear hx HX2 HIL2
  have ht : decide (([1, 0] : List Int) = [1, 0]) = true := by decide
  rw [ht]
  go_wp2
  go_ret
  exact ⟨rfl, HX3.out⟩
end Go.Proofs.Ytgjanbgehbpciaa
