/- Walks: awake. -/
import Derived.Test.YtmlopkkbgpfdnaaE1
import Derived.Test.YtmlopkkbgpfdnaaR10
namespace Go.Proofs.Ytmlopkkbgpfdnaa
open Go.RowKit

theorem aw_ok : Ok [0, 1] := by intro x hx; simp at hx; omega
theorem aw_vld : vld false [0, 1] = true := by decide
theorem aw_ok3 : Ok [0, 0, 1] := by intro x hx; simp at hx; omega
theorem aw_vld3 : vld false [0, 0, 1] = true := by decide
theorem aw_mul : numOf false [0, 1] * numOf false [0, 1] = numOf false [0, 0, 1] := by decide
theorem aw_fit : (dig (numOf false [0, 1] * numOf false [0, 1]).natAbs).length ≤ 256 := by
  rw [aw_mul, vld_dig aw_ok3 aw_vld3]; simp

set_option maxHeartbeats 400000 in
set_option maxRecDepth 100000 in
theorem awake_any (w : World) : Calls Try.prog 19 #[] w fun e w' => e = .returned (.bool true) ∧ Below w.heap.size w w' := by
  obtain ⟨x, hx⟩ : ∃ x, x = numOf false [0, 1] := ⟨_, rfl⟩
  have hfit := aw_fit
  have hmul := aw_mul
  rw [← hx] at hfit hmul
  have Hx := Lib.hid hx; clear hx
  have Hm := Lib.hid hmul; clear hmul
  have Hfit := Lib.hid hfit; clear hfit
  go_enter Try.func19, Try.ntmps19
  go_wp2_with fail
  have hw := (Wd.new w [0, 1] aw_ok #[.int .u32 0, .int .u32 1] 66 2 2 rfl (by omega) (by omega) (by
    intro j hj
    match j, hj with
    | 0, _ => rfl
    | 1, _ => rfl)).below (below1 _ (Obj.cells #[.bool false, .slice (some ⟨w.heap.size, 0, none⟩) 2 2] 24))
  have hb2 := below2 w (Obj.cells #[.int .u32 0, .int .u32 1] 66) (Obj.cells #[.bool false, .slice (some ⟨w.heap.size, 0, none⟩) 2 2] 24)
  refine (exactMul_yes x x false false _ _ 2 2 2 2 [0, 1] [0, 1] _ hw hw aw_vld aw_vld Hx.out Hx.out Hfit.out).mono ?_
  rintro e w1 ⟨b, A, n, c, rfl, hr, hb1⟩
  have hb01 := hb2.trans (hb1.mono (by simp <;> omega))
  have Hb := Lib.hid hb01
  have Hr := Lib.hid hr
  clear hw hb2 hb1 hr hb01
  go_wp2_with fail
  have hr2 := Hr.out.below (below2 w1 (Obj.cells #[.bool b, .slice A n c] 24) (Obj.cells #[.int .u32 0, .int .u32 0, .int .u32 1] 66))
  have hw3 := (Wd.new (w1.alloc (Obj.cells #[.bool b, .slice A n c] 24)) [0, 0, 1] aw_ok3 #[.int .u32 0, .int .u32 0, .int .u32 1] 66 3 3 rfl (by omega) (by omega) (by
    intro j hj
    match j, hj with
    | 0, _ => rfl
    | 1, _ => rfl
    | 2, _ => rfl))
  rw [World.size_alloc] at hw3
  refine (sameR_any (x * x) (x * x) _ _ _ hr2 (by rw [Hm.out]; exact vld_zv hw3 aw_vld3)).mono ?_
  rintro e w2 ⟨rfl, hb2⟩
  have hb := Hb.out.trans (((below2 w1 _ _).trans (hb2.mono (by simp <;> omega))).mono Hb.out.size)
  have Hbf := Lib.hid hb
  have ht : decide (x * x = x * x) = true := by simp
  rw [ht]
  clear ht hb hb2 hr2 hw3
  go_wp2
  go_ret
  exact ⟨rfl, Hbf.out⟩
end Go.Proofs.Ytmlopkkbgpfdnaa
