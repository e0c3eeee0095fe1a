/- Walks: the reference's whole numbers. -/
import Derived.Test.YtmlopkkbgpfdnaaW10
import Derived.Test.YtmlopkkbgpfdnaaR3
import Derived.Test.YtmlopkkbgpfdnaaR4
import Derived.Test.YtmlopkkbgpfdnaaR5
namespace Go.Proofs.Ytmlopkkbgpfdnaa
open Go.RowKit

set_option maxRecDepth 100000 in
theorem of_any (p : Bool) (A : Option Addr) (n c : Nat) (w : World) :
    Calls Try.prog 36 #[.agg #[.bool p, .slice A n c]] w fun e w' => e = .returned (.agg #[.bool p, .slice A n c]) ∧ Below w.heap.size w w' := by
  go_enter Try.func36, Try.ntmps36
  go_wp2
  exact bodyPost_ret (v := .agg #[.bool p, .slice A n c]) (by simp [results, Try.results36, go_sem]) rfl ⟨rfl, below2 _ _ _⟩

set_option maxRecDepth 100000 in
theorem int_any (p : Bool) (A : Option Addr) (n c : Nat) (w : World) :
    Calls Try.prog 17 #[.agg #[.bool p, .slice A n c]] w fun e w' => e = .returned (.agg #[.bool p, .slice A n c]) ∧ Below w.heap.size w w' := by
  go_enter Try.func17, Try.ntmps17
  go_wp2
  exact bodyPost_ret (v := .agg #[.bool p, .slice A n c]) (by simp [results, Try.results17, go_sem]) rfl ⟨rfl, below2 _ _ _⟩

set_option maxRecDepth 100000 in
/-- ref Minus -/
theorem minusR_any (z : Int) (a : Value) (w : World) (ha : ZV w a z) : Calls Try.prog 41 #[a] w (RetZ w (-z)) := by
  obtain ⟨A, n, c, rfl, hv, hn, hl⟩ := ha.open_
  obtain ⟨p, hp⟩ : ∃ p, p = decide (z < 0) := ⟨_, rfl⟩
  rw [← hp]
  have Hp := Lib.hid hp; clear hp ha
  have Hn := Lib.hid hn; clear hn
  have Hv := Lib.hid hv; clear hv
  go_enter Try.func41, Try.ntmps41
  go_wp2_with fail
  refine (signedR_any (!p) A n c _ hl).mono ?_
  rintro e w1 ⟨rfl, hb1⟩
  have hR := (RB.b2 w false none 0 0 34 (Obj.cells #[.bool p, .slice A n c] 34)).below hb1 (by simp)
  obtain ⟨a0, A0, n0, c0, k10, k11, k20, k21⟩ := hR.facts
  have s0 := hR.set0 (!p && decide (0 < n)) (.slice A n c)
  have s1 := hR.set1 (!p && decide (0 < n)) (.slice A n c)
  have hb := (below2 w (Obj.cells #[.bool p, .slice A n c] 34) (Obj.cells #[.bool false, .slice none 0 0] 34)).trans (hb1.mono (by simp; omega))
  have fin := And.intro ((Hv.out.below hb).rb hR (.bool (!p && decide (0 < n))) (.slice A n c)) (below_set2 (g := w.heap.size + 1) (i := 0) (j := 1) hb (by omega) (.bool (!p && decide (0 < n))) (.slice A n c))
  have Fin := Lib.hid fin; clear fin hR hb hb1
  go_wp2
  refine bodyPost_ret (v := .agg #[.bool (!p && decide (0 < n)), .slice A n c]) (by simp [results, Try.results41, go_sem, s0, s1]) rfl ⟨_, rfl, ZV.mk ?_ ?_, Fin.out.2⟩
  · rw [Hp.out, Hn.out, Bool.eq_iff_iff]
    simp only [Bool.and_eq_true, Bool.not_eq_true', decide_eq_false_iff_not, decide_eq_true_eq, dig_len_pos]
    omega
  · rw [Int.natAbs_neg]; exact Fin.out.1

/-- ref Sign -/
theorem signR_any (z : Int) (a : Value) (w : World) (ha : ZV w a z) : Calls Try.prog 38 #[a] w fun e w' => e = .returned (.int .i64 z.sign) ∧ Below w.heap.size w w' := by
  obtain ⟨A, n, c, rfl, hv, hn, hl⟩ := ha.open_
  have hn0 := @dig_len_pos z.natAbs
  rw [← hn] at hn0
  have Hb := Lib.hid (below_alloc w (Obj.cells #[.bool (decide (z < 0)), .slice A n c] 34))
  clear ha hv hn
  rcases Int.lt_trichotomy z 0 with h | h | h
  · have e1 : decide (z < 0) = true := by simpa using h
    have h0 : 0 < n := hn0.2 (by omega)
    rw [Int.sign_eq_neg_one_of_neg h]
    rw [e1] at Hb ⊢
    clear e1 hn0
    go_enter Try.func38, Try.ntmps38
    go_wp2
    go_ret
    exact ⟨rfl, Hb.out⟩
  · have e1 : decide (z < 0) = false := by simp; omega
    have h0 : n = 0 := by
      rcases Nat.eq_zero_or_pos n with h1 | h1
      · exact h1
      · have := hn0.1 h1; omega
    subst h0 h
    rw [Int.sign_zero]
    rw [e1] at Hb ⊢
    clear hn0 e1
    go_enter Try.func38, Try.ntmps38
    go_wp2
    go_ret
    exact ⟨rfl, Hb.out⟩
  · have e1 : decide (z < 0) = false := by simp; omega
    have h0 : 0 < n := hn0.2 (by omega)
    rw [Int.sign_eq_one_of_pos h]
    rw [e1] at Hb ⊢
    clear e1 hn0
    go_enter Try.func38, Try.ntmps38
    go_wp2
    go_ret
    exact ⟨rfl, Hb.out⟩
theorem zeroR_any (z : Int) (a : Value) (w : World) (ha : ZV w a z) : Calls Try.prog 39 #[a] w fun e w' => e = .returned (.bool (decide (z = 0))) ∧ Below w.heap.size w w' := by
  obtain ⟨A, n, c, rfl, -, hn, -⟩ := ha.open_
  have he : decide (z = 0) = decide (n = 0) := by
    rw [hn, decide_eq_decide]
    have := @dig_len_pos z.natAbs
    omega
  rw [he]
  clear ha hn
  have hb := below_alloc w (Obj.cells #[.bool (decide (z < 0)), .slice A n c] 34)
  obtain ⟨p, hp⟩ : ∃ p, p = decide (z < 0) := ⟨_, rfl⟩
  rw [← hp] at hb ⊢
  have Hb := Lib.hid hb; clear hb hp he
  go_enter Try.func39, Try.ntmps39
  go_wp2
  go_ret
  refine ⟨?_, Hb.out⟩
  by_cases h : n = 0
  · subst h; rfl
  · simp [h]

theorem fitsR_any (z : Int) (a : Value) (w : World) (ha : ZV w a z) : Calls Try.prog 80 #[a] w fun e w' => e = .returned (.bool (decide ((dig z.natAbs).length ≤ 256))) ∧ Below w.heap.size w w' := by
  obtain ⟨A, n, c, rfl, -, hn, -⟩ := ha.open_
  rw [← hn]
  clear ha hn
  have hb := below_alloc w (Obj.cells #[.bool (decide (z < 0)), .slice A n c] 34)
  obtain ⟨p, hp⟩ : ∃ p, p = decide (z < 0) := ⟨_, rfl⟩
  rw [← hp] at hb ⊢
  have Hb := Lib.hid hb; clear hb hp
  go_enter Try.func80, Try.ntmps80
  go_wp2
  go_ret
  exact ⟨by simp; omega, Hb.out⟩

end Go.Proofs.Ytmlopkkbgpfdnaa
