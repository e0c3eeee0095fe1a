/- Walks: the reference: Whole. -/
import Derived.Test.YtmlopkkbgpfdnaaW16
import Derived.Test.YtmlopkkbgpfdnaaR10
namespace Go.Proofs.Ytmlopkkbgpfdnaa
open Go.RowKit

theorem whole_neg (n : Int) (h1 : n < 0) (h2 : -9223372036854775808 ≤ n) : IntKind.u64.wrap (IntKind.u64.wrap (-(n + 1)) + 1) = (n.natAbs : Int) := by
  rw [IntKind.wrap_u64, IntKind.wrap_u64]; omega

set_option maxRecDepth 100000 in
/-- ref Whole -/
theorem wholeR_any (n : Int) (w : World) (h1 : -9223372036854775808 ≤ n) (h2 : n ≤ 9223372036854775807) : Calls Try.prog 18 #[.int .i64 n] w (RetZ w n) := by
  have hw : n.natAbs < 18446744073709551616 := by omega
  by_cases h : n < 0
  · have Hn := Lib.hid (show (n.natAbs : Int) = -(n + 1) + 1 by omega)
    go_enter Try.func18, Try.ntmps18
    go_wp2_with fail
    have hb0 := below1 w (Obj.cells #[.bool false, .slice none 0 0] 34)
    refine (asSlice (by have := naturalR_any n.natAbs hw (w.alloc (Obj.cells #[.bool false, .slice none 0 0] 34)); rwa [Hn.out] at this)).mono ?_
    rintro e w1 ⟨A5, n5, c5, rfl, hr, hb1⟩
    have hR := (RB.c1 w false none 0 0 34).below hb1 (by simp)
    obtain ⟨a0, A0, n0, c0, k10, k11, k20, k21⟩ := hR.facts
    have s0 := hR.set0 true (.slice A5 n5 c5)
    have s1 := hR.set1 true (.slice A5 n5 c5)
    have fin := And.intro (hr.rb hR (.bool true) (.slice A5 n5 c5)) (below_set2 (g := w.heap.size) (i := 0) (j := 1) (hb0.trans (hb1.mono (by simp))) (Nat.le_refl _) (.bool true) (.slice A5 n5 c5))
    have Fin := Lib.hid fin; clear fin hb1 hb0 hR
    go_wp2
    exact bodyPost_ret (v := .agg #[.bool true, .slice A5 n5 c5]) (by simp [results, Try.results18, go_sem, s0, s1]) rfl ⟨_, rfl, ZV.mk (by simp; omega) Fin.out.1, Fin.out.2⟩
  · have h0 : 0 ≤ n := by omega
    have Hn := Lib.hid (show (n.natAbs : Int) = n by omega)
    go_enter Try.func18, Try.ntmps18
    go_wp2_with fail
    have hb0 := below1 w (Obj.cells #[.bool false, .slice none 0 0] 34)
    refine (asSlice (by have := naturalR_any n.natAbs hw (w.alloc (Obj.cells #[.bool false, .slice none 0 0] 34)); rwa [Hn.out] at this)).mono ?_
    rintro e w1 ⟨A5, n5, c5, rfl, hr, hb1⟩
    have hR := (RB.c1 w false none 0 0 34).below hb1 (by simp)
    obtain ⟨a0, A0, n0, c0, k10, k11, k20, k21⟩ := hR.facts
    have s0 := hR.set0 false (.slice A5 n5 c5)
    have s1 := hR.set1 false (.slice A5 n5 c5)
    have fin := And.intro (hr.rb hR (.bool false) (.slice A5 n5 c5)) (below_set2 (g := w.heap.size) (i := 0) (j := 1) (hb0.trans (hb1.mono (by simp))) (Nat.le_refl _) (.bool false) (.slice A5 n5 c5))
    have Fin := Lib.hid fin; clear fin hb1 hb0 hR
    go_wp2
    exact bodyPost_ret (v := .agg #[.bool false, .slice A5 n5 c5]) (by simp [results, Try.results18, go_sem, s0, s1]) rfl ⟨_, rfl, ZV.mk (by simp; omega) Fin.out.1, Fin.out.2⟩
end Go.Proofs.Ytmlopkkbgpfdnaa
