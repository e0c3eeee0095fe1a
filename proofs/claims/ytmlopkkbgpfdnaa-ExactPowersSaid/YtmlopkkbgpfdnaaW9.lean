/- Walks: opposite, sign, minus, compare, absolute. -/
import Derived.Test.YtmlopkkbgpfdnaaW8
namespace Go.Proofs.Ytmlopkkbgpfdnaa
open Go.RowKit

/-- the contracts' end for a whole number -/
def RetZ (w : World) (z : Int) (e : Ending) (w' : World) : Prop := ∃ r, e = .returned r ∧ ZV w' r z ∧ Below w.heap.size w w'

theorem ZV.open_ {w : World} {a : Value} {z : Int} (h : ZV w a z) : ∃ A n c, a = .agg #[.bool (decide (z < 0)), .slice A n c] ∧ Wd w (.slice A n c) (dig z.natAbs) ∧ n = (dig z.natAbs).length ∧ n ≤ 9223372036854775807 := by
  obtain ⟨v, rfl, hv⟩ := h
  obtain ⟨A, n, c, rfl⟩ := hv.slice_
  exact ⟨A, n, c, rfl, hv, hv.len, hv.len_le⟩
theorem ZV.mk {w : World} {v : Value} {z : Int} {b : Bool} (hb : b = decide (z < 0)) (hv : Wd w v (dig z.natAbs)) : ZV w (.agg #[.bool b, v]) z := ⟨v, by rw [hb], hv⟩

/-- a contract's result written out as a struct -/
theorem asAgg {P : Program} {f : FuncId} {args : Array Value} {w : World} {z : Int} (h : Calls P f args w (RetZ w z)) :
    Calls P f args w fun e w' => ∃ b A n c, e = .returned (.agg #[.bool b, .slice A n c]) ∧ ZV w' (.agg #[.bool b, .slice A n c]) z ∧ Below w.heap.size w w' := by
  refine h.mono ?_
  rintro e w' ⟨r, rfl, hr, hb⟩
  obtain ⟨A, n, c, rfl, h1, _, _⟩ := hr.open_
  exact ⟨_, A, n, c, rfl, hr, hb⟩

theorem RB.b1 (w : World) (a : Bool) (A : Option Addr) (n c : Nat) (t : TypeId) (o2 : Obj) : RB ((w.alloc (.cells #[.bool a, .slice A n c] t)).alloc o2) w.heap.size :=
  ⟨a, A, n, c, t, by rw [Below.heap_alloc _ _ _ (by simp), heap_alloc_new]⟩
theorem RB.b2 (w : World) (a : Bool) (A : Option Addr) (n c : Nat) (t : TypeId) (o1 : Obj) : RB ((w.alloc o1).alloc (.cells #[.bool a, .slice A n c] t)) (w.heap.size + 1) :=
  ⟨a, A, n, c, t, by
    have := heap_alloc_new (w.alloc o1) (.cells #[.bool a, .slice A n c] t)
    simpa using this⟩
theorem RB.c1 (w : World) (a : Bool) (A : Option Addr) (n c : Nat) (t : TypeId) : RB (w.alloc (.cells #[.bool a, .slice A n c] t)) w.heap.size := ⟨a, A, n, c, t, heap_alloc_new _ _⟩

set_option maxRecDepth 100000 in
/-- whole.opposite -/
theorem oppositeZ_any (z : Int) (a : Value) (w : World) (ha : ZV w a z) : Calls Try.prog 89 #[a] w (RetZ w (-z)) := by
  obtain ⟨A, n, c, rfl, hv, hn, hl⟩ := ha.open_
  obtain ⟨p, hp⟩ : ∃ p, p = decide (z < 0) := ⟨_, rfl⟩
  rw [← hp]
  have Hp := Lib.hid hp; clear hp ha
  have Hn := Lib.hid hn; clear hn
  have Hv := Lib.hid hv; clear hv
  go_enter Try.func89, Try.ntmps89
  go_wp2_with fail
  refine (signed_any (!p) A n c _ hl).mono ?_
  rintro e w1 ⟨rfl, hb1⟩
  have hR := (RB.b2 w false none 0 0 60 (Obj.cells #[.bool p, .slice A n c] 60)).below hb1 (by simp)
  obtain ⟨a0, A0, n0, c0, k10, k11, k20, k21⟩ := hR.facts
  have s0 := hR.set0 (!p && decide (0 < n)) (.slice A n c)
  have s1 := hR.set1 (!p && decide (0 < n)) (.slice A n c)
  have hb := (below2 w (Obj.cells #[.bool p, .slice A n c] 60) (Obj.cells #[.bool false, .slice none 0 0] 60)).trans (hb1.mono (by simp; omega))
  have fin := And.intro ((Hv.out.below hb).rb hR (.bool (!p && decide (0 < n))) (.slice A n c)) (below_set2 (g := w.heap.size + 1) (i := 0) (j := 1) hb (by omega) (.bool (!p && decide (0 < n))) (.slice A n c))
  have Fin := Lib.hid fin; clear fin hR hb hb1
  go_wp2
  refine bodyPost_ret (v := .agg #[.bool (!p && decide (0 < n)), .slice A n c]) (by simp [results, Try.results89, go_sem, s0, s1]) rfl ⟨_, rfl, ZV.mk ?_ ?_, Fin.out.2⟩
  · rw [Hp.out, Hn.out, Bool.eq_iff_iff]
    simp only [Bool.and_eq_true, Bool.not_eq_true', decide_eq_false_iff_not, decide_eq_true_eq, dig_len_pos]
    omega
  · rw [Int.natAbs_neg]; exact Fin.out.1

/-- whole.sign -/
theorem signZ_any (z : Int) (a : Value) (w : World) (ha : ZV w a z) : Calls Try.prog 62 #[a] w fun e w' => e = .returned (.int .i64 z.sign) ∧ Below w.heap.size w w' := by
  obtain ⟨A, n, c, rfl, hv, hn, hl⟩ := ha.open_
  have hn0 := @dig_len_pos z.natAbs
  rw [← hn] at hn0
  have Hb := Lib.hid (below_alloc w (Obj.cells #[.bool (decide (z < 0)), .slice A n c] 60))
  clear ha hv hn
  rcases Int.lt_trichotomy z 0 with h | h | h
  · have e1 : decide (z < 0) = true := by simpa using h
    have h0 : 0 < n := hn0.2 (by omega)
    rw [Int.sign_eq_neg_one_of_neg h]
    rw [e1] at Hb ⊢
    clear e1 hn0
    go_enter Try.func62, Try.ntmps62
    go_wp2
    go_ret
    exact ⟨rfl, Hb.out⟩
  · have e1 : decide (z < 0) = false := by simp; omega
    have h0 : n = 0 := by
      rcases Nat.eq_zero_or_pos n with h1 | h1
      · exact h1
      · have := hn0.1 h1; omega
    subst h0 h
    rw [Int.sign_zero]
    rw [e1] at Hb ⊢
    clear hn0 e1
    go_enter Try.func62, Try.ntmps62
    go_wp2
    go_ret
    exact ⟨rfl, Hb.out⟩
  · have e1 : decide (z < 0) = false := by simp; omega
    have h0 : 0 < n := hn0.2 (by omega)
    rw [Int.sign_eq_one_of_pos h]
    rw [e1] at Hb ⊢
    clear e1 hn0
    go_enter Try.func62, Try.ntmps62
    go_wp2
    go_ret
    exact ⟨rfl, Hb.out⟩
end Go.Proofs.Ytmlopkkbgpfdnaa
