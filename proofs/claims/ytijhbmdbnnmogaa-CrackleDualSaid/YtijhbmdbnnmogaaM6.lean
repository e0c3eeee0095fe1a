/- Walks: slices.Equal of numbers. -/
import Derived.Test.YtijhbmdbnnmogaaM2
import Derived.RegionTactic
import Derived.ChangeAlike
namespace Go.Proofs.Ytijhbmdbnnmogaa.G
open Go.RowKit

set_option maxHeartbeats 4000000 in
set_option maxRecDepth 100000 in
theorem equalI_any (n : Nat) (x : Nat → Int) (U V : Value) (W : World) (hU : Il W U n x) (hV : Il W V n x) (hn : n ≤ 100000) :
    Calls Try.prog 16 #[U, V] W fun e W' => e = .returned (.bool true) ∧ Ext W W' := by
  have HU := Lib.hid hU; have HV := Lib.hid hV
  obtain ⟨A1, c1, rfl, hc1, hd1, -⟩ := hU
  obtain ⟨A2, c2, rfl, hc2, hd2, -⟩ := hV
  go_enter Try.func16, Try.ntmps16
  go_wp2_with fail
  go_loopw [13] (fun i wr => ∃ k : Nat, i = .int .i64 k ∧ k ≤ n ∧ Hid (Ext W wr)) (fun i _ => n - (intOf i).toNat)
  case atStart => exact ⟨0, rfl, Nat.zero_le _, Lib.hid (Ext.refl _)⟩
  case round =>
    obtain ⟨k, rfl, hk, hin⟩ := hrel
    by_cases hlt : k < n
    · obtain ⟨b1, o1, rfl, -, e1⟩ := Vl.at HU.out hin.out hlt
      obtain ⟨b2, o2, rfl, -, e2⟩ := Vl.at HV.out hin.out hlt
      obtain ⟨p, hp⟩ : ∃ p, p = x k := ⟨_, rfl⟩
      rw [← hp] at e1 e2
      have e1d : wr.drew.cell? ⟨b1, o1 + k, none⟩ = some (.int .i64 p) := e1
      have e2d : wr.drew.cell? ⟨b2, o2 + k, none⟩ = some (.int .i64 p) := e2
      have hpp : (p != p) = false := by simp
      clear hp e1 e2
      go_upto_region 6 with fail
      go_region
      clear e1d e2d
      go_wp2
      go_roundw
      case rel => exact ⟨k + 1, by go_num, by omega, Lib.hid (hin.out.drw)⟩
      case measure => simp [intOf]; omega
    · obtain rfl : k = n := by omega
      go_wp2
      go_ret
      exact ⟨rfl, hin.out⟩
end Go.Proofs.Ytijhbmdbnnmogaa.G
