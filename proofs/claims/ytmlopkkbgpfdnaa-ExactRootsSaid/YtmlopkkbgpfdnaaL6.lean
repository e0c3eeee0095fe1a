/- Walks: the law ExactRoots. -/
import Derived.Test.YtmlopkkbgpfdnaaX15
import Derived.Test.YtmlopkkbgpfdnaaX16
import Derived.Test.YtmlopkkbgpfdnaaE3
import Derived.Test.YtmlopkkbgpfdnaaR14
namespace Go.Proofs.Ytmlopkkbgpfdnaa
open Go.RowKit

set_option maxHeartbeats 800000 in
set_option maxRecDepth 100000 in
theorem exactRoots_no (p : Bool) (A : Option Addr) (n c : Nat) (l : List Nat) (k : Int) (w : World) (hx : Wd w (.slice A n c) l) (hno : rootOk p l k = false) (h1 : -9223372036854775808 ≤ k) (h2 : k ≤ 9223372036854775807) :
    Calls Try.prog 10 #[.agg #[.bool p, .slice A n c], .int .i64 k] w fun e w' => e = .returned (.bool true) ∧ Below w.heap.size w w' := by
  have hH := HW.new w p A n c l 24 hx
  have hb := below1 w (Obj.cells #[.bool p, .slice A n c] 24)
  have H1 := Lib.hid hH; clear hH hx
  have Hb := Lib.hid hb; clear hb
  have Hno := Lib.hid hno; clear hno
  go_enter Try.func10, Try.ntmps10
  go_wp2_with fail
  refine (exactRoot_no p A n c l k _ H1.out.w Hno.out h1 h2).mono ?_
  rintro e w1 ⟨rfl, hb1⟩
  have hx1 : Ext _ w1 := hb1
  have x2 : Ext w1 (w1.alloc (Obj.cells #[.bool false, .slice none 0 0] 24)) := (Ext.refl w1).alc _
  have m := (H1.out.ext hx1).ext x2
  have c0 := m.c0
  have c1 := m.c1
  have hb2 := (Hb.out.trans (Below.mono hx1 Hb.out.size))
  have Hb2 := Lib.hid (hb2.trans (Below.mono x2 hb2.size))
  have M := Lib.hid m
  clear m hb2 x2 hx1 hb1 H1 Hb
  go_wp2_with fail
  refine (validR_any p A n c l _ M.out.w).mono ?_
  rintro e w2 ⟨rfl, hb3⟩
  have hx3 : Ext _ w2 := hb3
  have m2 := M.out.ext hx3
  have c0 := m2.c0
  have c1 := m2.c1
  have Hb3 := Lib.hid (Hb2.out.trans (Below.mono hx3 Hb2.out.size))
  clear m2 hx3 hb3 M Hb2
  have key : vld p l = false ∨ (vld p l = true ∧ p = true) ∨ (vld p l = true ∧ p = false ∧ k < 1) ∨ (vld p l = true ∧ p = false ∧ 1 ≤ k ∧ 64 < k) := by
    have := Hno.out
    unfold rootOk at this
    cases hv : vld p l <;> cases p <;> simp [hv] at this ⊢
    omega
  clear Hno
  rcases key with hv | ⟨hv, rfl⟩ | ⟨hv, rfl, hk⟩ | ⟨hv, rfl, hk1, hk2⟩
  all_goals
    rw [hv]
    clear hv
    try have d1 : decide (k < 1) = true := by simpa using hk
    try have d2 : decide (k < 1) = false := by simpa using hk1
    try have d3 : decide (64 < k) = true := by simpa using hk2
    go_wp2_with fail
    refine (awake_any _).mono ?_
    rintro e w3 ⟨rfl, hb4⟩
    have Hb4 := Lib.hid (Hb3.out.trans (hb4.mono Hb3.out.size))
    clear hb4
    go_wp2
    go_ret
    exact ⟨rfl, Hb4.out⟩

end Go.Proofs.Ytmlopkkbgpfdnaa
