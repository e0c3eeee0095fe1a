/- Walks: Root of both, one answer for all inputs. -/
import Derived.Test.YtmlopkkbgpfdnaaP3
namespace Go.Proofs.Ytmlopkkbgpfdnaa
open Go.RowKit

theorem root_below (a k : Nat) (hk : 1 ≤ k) : ∀ b : Nat, Up a k b → ∃ x, x ^ k ≤ a ∧ Up a k x
  | 0, h => ⟨0, by rw [Nat.zero_pow hk]; exact Nat.zero_le _, h⟩
  | b + 1, h => by
    rcases Nat.lt_or_ge a ((b + 1) ^ k) with h1 | h1
    · exact root_below a k hk b (up_of h1)
    · exact ⟨b + 1, h1, h⟩
theorem root_exists (a k : Nat) (hk : 1 ≤ k) : ∃ x, x ^ k ≤ a ∧ Up a k x := root_below a k hk a fun s hs => by
  rcases Nat.eq_zero_or_pos s with h | h
  · rw [h]; exact Nat.zero_le _
  · refine Nat.le_trans ?_ hs
    calc s = s ^ 1 := (Nat.pow_one s).symm
      _ ≤ s ^ k := Nat.pow_le_pow_right h hk

/-- a struct that stands for z, and an error -/
def RetE (w : World) (z er : Int) (e : Ending) (w' : World) : Prop := ∃ b A n c, e = .returned (.tuple #[.agg #[.bool b, .slice A n c], .int .i64 er]) ∧ ZV w' (.agg #[.bool b, .slice A n c]) z ∧ Below w.heap.size w w'

theorem root_ret {a k x : Nat} {w : World} (h1 : x ^ k ≤ a) (h2 : Up a k x) {e : Ending} {w' : World} (h : RootOf a k w e w') : RetE w (x : Int) 0 e w' := by
  obtain ⟨y, b, A, n, c, rfl, hz, h3, h4, hb⟩ := h
  have : y = x := Nat.le_antisymm (h2 y h3) (h4 x h1)
  subst this
  exact ⟨b, A, n, c, rfl, hz, hb⟩
theorem no_ret {w : World} {e : Ending} {w' : World} (h : e = .returned (.tuple #[.agg #[.bool false, .slice none 0 0], .int .i64 2]) ∧ Below w.heap.size w w') : RetE w 0 2 e w' := by
  obtain ⟨rfl, hb⟩ := h
  exact ⟨_, _, _, _, rfl, zv_nil w', hb⟩

/-- Root of both -/
theorem root_u (p : Bool) (l : List Nat) (k : Int) (h1 : -9223372036854775808 ≤ k) (h2 : k ≤ 9223372036854775807) :
    ∃ z er : Int, (∀ (A : Option Addr) (n c : Nat) (w : World), Wd w (.slice A n c) l → Calls Try.prog 44 #[.agg #[.bool p, .slice A n c], .int .i64 k] w (RetE w z er)) ∧
      (∀ (A : Option Addr) (n c : Nat) (w : World), Wd w (.slice A n c) l → Calls Try.prog 45 #[.agg #[.bool p, .slice A n c], .int .i64 k] w (RetE w z er)) := by
  cases h : rootOk p l k with
  | false =>
    exact ⟨0, 2, fun A n c w hx => (exactRoot_no p A n c l k w hx h h1 h2).mono fun e w' => no_ret,
      fun A n c w hx => (refRoot_no p A n c l k w hx h).mono fun e w' => no_ret⟩
  | true =>
    unfold rootOk at h
    simp only [Bool.and_eq_true, Bool.not_eq_true', decide_eq_true_eq] at h
    obtain ⟨hv, hp, hk1, hk2⟩ := h
    subst hp
    obtain ⟨m, rfl⟩ : ∃ m : Nat, k = (m : Int) := ⟨k.toNat, by omega⟩
    obtain ⟨x, hx1, hx2⟩ := root_exists (val l) m (by omega)
    exact ⟨x, 0, fun A n c w hx => (exactRoot_yes A n c l m w hx hv (by omega) (by omega)).mono fun e w' => root_ret hx1 hx2,
      fun A n c w hx => (refRoot_yes A n c l m w hx hv (by omega) (by omega)).mono fun e w' => root_ret hx1 hx2⟩
end Go.Proofs.Ytmlopkkbgpfdnaa
