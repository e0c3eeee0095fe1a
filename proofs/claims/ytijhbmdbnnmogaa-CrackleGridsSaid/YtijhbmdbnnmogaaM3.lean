/- Walks: the closures of a grid. -/
import Derived.Test.YtijhbmdbnnmogaaM2
namespace Go.Proofs.Ytijhbmdbnnmogaa.G
open Go.RowKit

theorem mul_small {y v : Int} (h1 : -1 ≤ y) (h2 : y ≤ 5) (h3 : 0 ≤ v) (h4 : v ≤ 5) : -5 ≤ y * v ∧ y * v ≤ 25 := by
  rcases (show v = 0 ∨ v = 1 ∨ v = 2 ∨ v = 3 ∨ v = 4 ∨ v = 5 by omega) with rfl | rfl | rfl | rfl | rfl | rfl <;> omega
/-- the dart to the right, the dart down -/
def gr (w x y : Int) : Int := 2 * (y * (w - 1) + x)
def gd (w h x y : Int) : Int := 2 * ((w - 1) * h + y * w + x)

set_option maxRecDepth 100000 in
theorem right_any (w x y : Int) (b : Nat) (W : World) (hb : W.cell? ⟨b, 0, none⟩ = some (.int .i64 w)) (w1 : 1 ≤ w) (w5 : w ≤ 5) (x0 : -1 ≤ x) (x5 : x ≤ 5) (y0 : -1 ≤ y) (y5 : y ≤ 5) :
    Calls Try.prog 63 #[.int .i64 x, .int .i64 y, .pointer (some ⟨b, 0, none⟩)] W fun e W' => e = .returned (.int .i64 (gr w x y)) ∧ W = W' := by
  have hp := mul_small y0 y5 (show 0 ≤ w - 1 by omega) (by omega)
  obtain ⟨v, hv⟩ : ∃ v, w - 1 = v := ⟨_, rfl⟩
  obtain ⟨P, hP⟩ : ∃ P, y * v = P := ⟨_, rfl⟩
  unfold gr
  rw [hv, hP] at hp ⊢
  have hw : IntKind.i64.wrap (w - 1) = v := by rw [hv]; exact IntWalk.i64_in _ (by omega)
  have hwp : IntKind.i64.wrap (y * v) = P := by rw [hP]; exact IntWalk.i64_in _ (by omega)
  have hv5 : 0 ≤ v ∧ v ≤ 5 := by omega
  go_enter Try.func63, Try.ntmps63
  go_wp2
  go_ret
  exact ⟨rfl, rfl⟩

set_option maxRecDepth 100000 in
theorem down_any (w h x y : Int) (b b2 : Nat) (W : World) (hb : W.cell? ⟨b, 0, none⟩ = some (.int .i64 w)) (hb2 : W.cell? ⟨b2, 0, none⟩ = some (.int .i64 h)) (w1 : 1 ≤ w) (w5 : w ≤ 5) (h1 : 1 ≤ h) (h5 : h ≤ 5) (x0 : -1 ≤ x) (x5 : x ≤ 5) (y0 : -1 ≤ y) (y5 : y ≤ 5) :
    Calls Try.prog 64 #[.int .i64 x, .int .i64 y, .pointer (some ⟨b, 0, none⟩), .pointer (some ⟨b2, 0, none⟩)] W fun e W' => e = .returned (.int .i64 (gd w h x y)) ∧ W = W' := by
  have hp := mul_small (show -1 ≤ w - 1 by omega) (show w - 1 ≤ 5 by omega) (show 0 ≤ h by omega) h5
  have hq := mul_small y0 y5 (show 0 ≤ w by omega) w5
  obtain ⟨v, hv⟩ : ∃ v, w - 1 = v := ⟨_, rfl⟩
  obtain ⟨P, hP⟩ : ∃ P, v * h = P := ⟨_, rfl⟩
  obtain ⟨Q, hQ⟩ : ∃ Q, y * w = Q := ⟨_, rfl⟩
  unfold gd
  rw [hQ] at hq
  rw [hv, hP] at hp
  rw [hv, hP, hQ]
  have hw : IntKind.i64.wrap (w - 1) = v := by rw [hv]; exact IntWalk.i64_in _ (by omega)
  have hwp : IntKind.i64.wrap (v * h) = P := by rw [hP]; exact IntWalk.i64_in _ (by omega)
  have hwq : IntKind.i64.wrap (y * w) = Q := by rw [hQ]; exact IntWalk.i64_in _ (by omega)
  go_enter Try.func64, Try.ntmps64
  go_wp2
  go_ret
  exact ⟨rfl, rfl⟩
theorem opposite_int (z : Int) (W : World) : Calls Try.prog 33 #[.int .i64 z] W fun e W' => e = .returned (.int .i64 (bits .xor .i64 z 1)) ∧ W = W' := by
  go_enter Try.func33, Try.ntmps33
  go_wp2
  go_ret
  exact ⟨rfl, rfl⟩
end Go.Proofs.Ytijhbmdbnnmogaa.G
