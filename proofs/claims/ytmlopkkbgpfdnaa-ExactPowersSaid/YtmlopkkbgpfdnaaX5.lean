/- Walks: natural.divide. -/
import Derived.Test.YtmlopkkbgpfdnaaX4
import Derived.Test.YtmlopkkbgpfdnaaD3
import Derived.Test.YtmlopkkbgpfdnaaSh
namespace Go.Proofs.Ytmlopkkbgpfdnaa
open Go.RowKit

def DivN (x y : Nat) (w : World) (e : Ending) (w' : World) : Prop :=
  ∃ q r, e = .returned (.tuple #[q, r]) ∧ Wd w' q (dig (x / y)) ∧ Wd w' r (dig (x % y)) ∧ Below w.heap.size w w'

set_option maxRecDepth 100000 in
theorem divide_less (x y : Nat) (u v : Value) (w : World) (hx : Wd w u (dig x)) (hy : Wd w v (dig y)) (hxy : x < y) :
    Calls Try.prog 91 #[u, v] w (DivN x y w) := by
  have Hx := Lib.hid hx
  have Hy := Lib.hid hy
  obtain ⟨A, n, c, rfl⟩ := hx.slice_
  obtain ⟨A', n', c', rfl⟩ := hy.slice_
  clear hx hy
  have hc := compareE_any x y _ _ w Hx.out Hy.out
  rw [cmpN_lt hxy] at hc
  have Hc := Lib.hid hc; clear hc
  have Hxy := Lib.hid hxy; clear hxy
  go_enter Try.func91, Try.ntmps91
  go_wp2_with fail
  refine Hc.out.mono ?_
  rintro e w' ⟨rfl, nd, rfl⟩
  go_wp2
  go_ret2
  refine ⟨_, _, rfl, ?_, ?_, Below.toDrewN (Below.refl _ _) nd⟩
  · rw [Nat.div_eq_of_lt Hxy.out, dig_zero]; exact Wd.nil_ _
  · rw [Nat.mod_eq_of_lt Hxy.out]; exact Hx.out

set_option maxRecDepth 100000 in
theorem divide_one (x y : Nat) (u v : Value) (w : World) (hx : Wd w u (dig x)) (hy : Wd w v (dig y)) (lx : (dig x).length ≤ 1000000) (hxy : y ≤ x) (h1 : (dig y).length = 1) :
    Calls Try.prog 91 #[u, v] w (DivN x y w) := by
  have Hx := Lib.hid hx
  have Hy := Lib.hid hy
  have hy0 : 0 < y := dig_len_pos.1 (by omega)
  have hy1 : y < 4294967296 := by have := lt_of_dig_len (n := y) (k := 1) (by omega); simpa using this
  obtain ⟨A, n, c, rfl⟩ := hx.slice_
  obtain ⟨A', c', rfl, -, -⟩ := hy.shape
  rw [h1] at Hy ⊢
  obtain ⟨b, off, rfl, hb, hcy⟩ := Wd.cell (k := 0) Hy.out (by omega)
  have hc0 := hcy 0 (by omega)
  rw [Nat.add_zero, show dg y 0 = y from by unfold dg; simp; omega] at hc0
  clear hx hy hcy
  obtain ⟨cv, hcv⟩ : ∃ z, z = cmpN x y := ⟨_, rfl⟩
  have hcv0 : 0 ≤ cv := by rw [hcv]; unfold cmpN; rw [if_neg (by omega)]; split <;> omega
  have hc := compareE_any x y _ _ w Hx.out Hy.out
  rw [← hcv] at hc
  have Hc := Lib.hid hc; clear hc hcv h1
  have Lx := Lib.hid lx; clear lx
  have Hxy := Lib.hid hxy; clear hxy
  go_enter Try.func91, Try.ntmps91
  go_wp2_with fail
  refine Hc.out.mono ?_
  rintro e w' ⟨rfl, nd, rfl⟩
  go_wp2_with fail
  refine (divideWord_any x y _ _ (by exact Hx.out) Lx.out hy0 hy1).mono ?_
  rintro e w1 ⟨q, rfl, hq, hb1⟩
  obtain ⟨A3, n3, c3, rfl⟩ := hq.slice_
  have Hq := Lib.hid hq; clear hq
  have Hb1 := Lib.hid (undrewN hb1); clear hb1
  have hr : x % y < 18446744073709551616 := by have := Nat.mod_lt x hy0; omega
  obtain ⟨r, hr'⟩ : ∃ r, r = x % y := ⟨_, rfl⟩
  rw [← hr'] at hr ⊢
  have Hr := Lib.hid hr'; clear hr'
  go_wp2_with fail
  refine (naturalOf_any r hr _).mono ?_
  rintro e w2 ⟨t, rfl, ht, hb2⟩
  obtain ⟨A4, n4, c4, rfl⟩ := ht.slice_
  have Ht := Lib.hid ht; clear ht
  have Hb2 := Lib.hid hb2; clear hb2
  go_wp2
  go_ret2
  exact ⟨_, _, rfl, Hq.out.below Hb2.out, by rw [← Hr.out]; exact Ht.out, Hb1.out.trans (Hb2.out.mono Hb1.out.size)⟩

end Go.Proofs.Ytmlopkkbgpfdnaa
