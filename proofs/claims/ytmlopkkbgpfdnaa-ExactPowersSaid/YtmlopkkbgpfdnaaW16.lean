/- Walks: small, low. -/
import Derived.Test.YtmlopkkbgpfdnaaW12
import Derived.Laws.BitsAllLaws
namespace Go.Proofs.Ytmlopkkbgpfdnaa
open Go.RowKit

def MinI : Int := -9223372036854775808
def MaxI : Int := 9223372036854775807

theorem neg_wrap (n : Int) (h1 : n < 0) (h2 : -9223372036854775808 ≤ n) : IntKind.u64.wrap (-(IntKind.u64.wrap n)) = (n.natAbs : Int) := by
  rw [IntKind.wrap_u64, IntKind.wrap_u64]; omega
theorem pos_wrap (n : Int) (h1 : 0 ≤ n) (h2 : n ≤ 9223372036854775807) : IntKind.u64.wrap n = (n.natAbs : Int) := by
  rw [IntKind.wrap_u64]; omega

set_option maxRecDepth 100000 in
/-- exact.small -/
theorem smallE_any (n : Int) (w : World) (h1 : -9223372036854775808 ≤ n) (h2 : n ≤ 9223372036854775807) : Calls Try.prog 51 #[.int .i64 n] w (RetZ w n) := by
  have hw : n.natAbs < 18446744073709551616 := by omega
  by_cases h : n < 0
  · have hn := neg_wrap n h h1
    have Hn := Lib.hid hn; clear hn
    go_enter Try.func51, Try.ntmps51
    go_wp2_with fail
    rw [Hn.out]
    have hb0 := below1 w (Obj.cells #[.bool false, .slice none 0 0] 60)
    refine (asSlice (naturalOf_any n.natAbs hw _)).mono ?_
    rintro e w1 ⟨A5, n5, c5, rfl, hr, hb1⟩
    have hR := (RB.c1 w false none 0 0 60).below hb1 (by simp)
    obtain ⟨a0, A0, n0, c0, k10, k11, k20, k21⟩ := hR.facts
    have s0 := hR.set0 true (.slice A5 n5 c5)
    have s1 := hR.set1 true (.slice A5 n5 c5)
    have fin := And.intro (hr.rb hR (.bool true) (.slice A5 n5 c5)) (below_set2 (g := w.heap.size) (i := 0) (j := 1) (hb0.trans (hb1.mono (by simp))) (Nat.le_refl _) (.bool true) (.slice A5 n5 c5))
    have Fin := Lib.hid fin; clear fin hb1 hb0 hR
    go_wp2
    exact bodyPost_ret (v := .agg #[.bool true, .slice A5 n5 c5]) (by simp [results, Try.results51, go_sem, s0, s1]) rfl ⟨_, rfl, ZV.mk (by simp; omega) Fin.out.1, Fin.out.2⟩
  · have h0 : 0 ≤ n := by omega
    have hn : n = (n.natAbs : Int) := by omega
    have Hn := Lib.hid hn; clear hn
    go_enter Try.func51, Try.ntmps51
    go_wp2_with fail
    have hb0 := below1 w (Obj.cells #[.bool false, .slice none 0 0] 60)
    refine (asSlice ((by have := naturalOf_any n.natAbs hw (w.alloc (Obj.cells #[.bool false, .slice none 0 0] 60)); rwa [← Hn.out] at this))).mono ?_
    rintro e w1 ⟨A5, n5, c5, rfl, hr, hb1⟩
    have hR := (RB.c1 w false none 0 0 60).below hb1 (by simp)
    obtain ⟨a0, A0, n0, c0, k10, k11, k20, k21⟩ := hR.facts
    have s0 := hR.set0 false (.slice A5 n5 c5)
    have s1 := hR.set1 false (.slice A5 n5 c5)
    have fin := And.intro (hr.rb hR (.bool false) (.slice A5 n5 c5)) (below_set2 (g := w.heap.size) (i := 0) (j := 1) (hb0.trans (hb1.mono (by simp))) (Nat.le_refl _) (.bool false) (.slice A5 n5 c5))
    have Fin := Lib.hid fin; clear fin hb1 hb0 hR
    go_wp2
    exact bodyPost_ret (v := .agg #[.bool false, .slice A5 n5 c5]) (by simp [results, Try.results51, go_sem, s0, s1]) rfl ⟨_, rfl, ZV.mk (by simp; omega) Fin.out.1, Fin.out.2⟩

theorem or_join (x : Nat) : bits BinOp.or IntKind.u64 ((dg x 1 : Nat) * 4294967296 : Int) (dg x 0 : Nat) = ((x % 18446744073709551616 : Nat) : Int) := by
  have h0 := dg_lt x 0
  have h1 := dg_lt x 1
  have e : ((dg x 1 : Nat) * 4294967296 : Int) = ((dg x 1 * 4294967296 : Nat) : Int) := by omega
  rw [e, u64_or_nat _ _ (by omega) (by omega), nat_join 32 _ _ (by omega) (by omega)]
  have := mod_succ x 1
  have := mod_succ x 0
  simp only [Nat.pow_zero, Nat.mod_one, Nat.one_mul, Nat.zero_add, Nat.pow_one] at *
  omega

set_option maxRecDepth 100000 in
/-- natural.low -/
theorem low_any (x : Nat) (v : Value) (w : World) (hv : Wd w v (dig x)) : Calls Try.prog 52 #[v] w fun e w' => e = .returned (.int .u64 (x % 18446744073709551616 : Nat)) ∧ w = w' := by
  have h0 := dg_lt x 0
  have h1 := dg_lt x 1
  have ho := or_join x
  have Ho := Lib.hid ho; clear ho
  go_enter Try.func52, Try.ntmps52
  go_wp2_with fail
  refine (word_dig v x 1 _ hv).mono ?_
  rintro e w1 ⟨rfl, rfl⟩
  go_wp2_with fail
  refine (word_dig v x 0 _ hv).mono ?_
  rintro e w1 ⟨rfl, rfl⟩
  go_wp2
  go_ret
  exact ⟨by rw [← Ho.out]; rfl, rfl⟩
end Go.Proofs.Ytmlopkkbgpfdnaa
