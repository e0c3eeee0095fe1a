/- Walks: the reference's power. -/
import Derived.Test.YtmlopkkbgpfdnaaP1
import Derived.Test.YtmlopkkbgpfdnaaX14
import Derived.Test.YtmlopkkbgpfdnaaR5
namespace Go.Proofs.Ytmlopkkbgpfdnaa
open Go.RowKit

theorem len_of_bits {x m : Nat} (h : bitsN x ≤ m) : (dig x).length ≤ m / 32 + 1 := by
  unfold bitsN at h
  split at h <;> omega

/-- power: a^k, or a number with more bits than 'most' that is at most a^k -/
def PowerTo (a k most : Nat) (w : World) (e : Ending) (w' : World) : Prop := ∃ r y, e = .returned r ∧ Wd w' r (dig y) ∧ (dig y).length ≤ most / 32 + 1 + (dig a).length ∧ (y = a ^ k ∨ (most < bitsN y ∧ y ≤ a ^ k)) ∧ Below w.heap.size w w'

theorem pow_up {a i k : Nat} (hi : i ≤ k) (h0 : 0 < i) (h : 0 < a ^ i) : a ^ i ≤ a ^ k := by
  rcases Nat.eq_zero_or_pos a with h1 | h1
  · subst h1
    rw [Nat.zero_pow h0] at h; omega
  · exact Nat.pow_le_pow_right h1 hi

set_option maxHeartbeats 400000 in
set_option maxRecDepth 100000 in
theorem powerR_any (a k most : Nat) (u : Value) (w : World) (hx : Wd w u (dig a)) (la : (dig a).length ≤ 300) (hk : k ≤ 10000) (hm : most ≤ 1000000) :
    Calls Try.prog 83 #[u, .int .i64 (k : Int), .int .i64 (most : Int)] w (PowerTo a k most w) := by
  obtain ⟨A, c, rfl, -, -⟩ := hx.shape
  obtain ⟨n, hn⟩ : ∃ n, n = (dig a).length := ⟨_, rfl⟩
  have Hx := Lib.hid hx; clear hx
  have La := Lib.hid la; clear la
  rw [← hn] at Hx ⊢
  have Hn := Lib.hid hn; clear hn
  have hone : Wd (w.alloc (Obj.cells #[.int .u32 1] 66)) (.slice (some ⟨w.heap.size, 0, none⟩) 1 1) (dig 1) := by
    have e : dig 1 = [1] := by rw [dig_pos (by omega), dig_zero]
    rw [e]
    exact Wd.new w [1] (Ok.mk (by omega) Ok.nil) _ _ 1 1 rfl (by omega) (by omega) (fun j hj => by
      match j, hj with
      | 0, _ => simp)
  have Hone := Lib.hid hone; clear hone
  go_enter Try.func83, Try.ntmps83
  go_wp2_with fail
  go_loopw [7, 10] (fun v i wr => ∃ j : Nat, i = .int .i64 (j : Int) ∧ j ≤ k ∧ Wd wr v (dig (a ^ j)) ∧ (dig (a ^ j)).length ≤ most / 32 + 1 ∧ Below w.heap.size w wr) (fun _ i _ => k - (intOf i).toNat)
  case atStart => exact ⟨0, rfl, Nat.zero_le _, by rw [Nat.pow_zero]; exact Hone.out, by rw [Nat.pow_zero, dig_pos (by omega), dig_zero]; simp, below_alloc _ _⟩
  case round =>
    obtain ⟨j, rfl, hj, hr, hl, hbel⟩ := hrel
    have Hr := Lib.hid hr
    obtain ⟨A1, n1, c1, rfl⟩ := hr.slice_
    clear hr
    have Hbel := Lib.hid hbel; clear hbel
    have Hl := Lib.hid hl; clear hl
    by_cases hjk : j = k
    · subst hjk
      have d1 : decide ((j : Int) < j) = false := by simp
      go_wp2
      go_ret
      exact ⟨_, _, rfl, Hr.out, Nat.le_trans Hl.out (by omega), .inl rfl, Hbel.out⟩
    · have d1 : decide ((j : Int) < k) = true := by simp; omega
      go_wp2_with fail
      refine (asSlice (timesR_any (a ^ j) a _ _ _ Hr.out (Hx.out.below Hbel.out) (by have := Hl.out; omega) (by have := La.out; omega))).mono ?_
      rintro e w1 ⟨A2, n2, c2, rfl, h2, hb3⟩
      rw [← Nat.pow_succ] at h2
      have hlen : (dig (a ^ (j + 1))).length ≤ most / 32 + 1 + (dig a).length := by
        rw [Nat.pow_succ]; exact len_mulN Hl.out (Nat.le_refl _)
      have Hlen := Lib.hid hlen
      have Hb3 := Lib.hid (Hbel.out.trans (hb3.mono Hbel.out.size)); clear hb3
      have hbit := bitsR_any (a ^ (j + 1)) (.slice A2 n2 c2) w1 h2 (by have := La.out; omega)
      have Hbit := Lib.hid hbit; clear hbit
      have H2 := Lib.hid h2; clear h2 hlen
      go_wp2_with fail
      refine Hbit.out.mono ?_
      rintro e w2 ⟨rfl, rfl⟩
      obtain ⟨bt, hbt⟩ : ∃ bt, bt = bitsN (a ^ (j + 1)) := ⟨_, rfl⟩
      rw [← hbt]
      have Hbt := Lib.hid hbt; clear hbt Hbit
      by_cases hq : most < bt
      · have d2 : decide ((most : Int) < bt) = true := by simp; omega
        go_wp2
        go_ret
        refine ⟨_, _, rfl, H2.out, Hlen.out, .inr ⟨by rw [← Hbt.out]; exact hq, pow_up (by omega) (by omega) ?_⟩, Hb3.out⟩
        rcases Nat.eq_zero_or_pos (a ^ (j + 1)) with h | h
        · have h1 := Hbt.out
          rw [h] at h1
          have h2 : bitsN 0 = 0 := by unfold bitsN; rw [dig_zero]; rfl
          omega
        · exact h
      · have d2 : decide ((most : Int) < bt) = false := by simp; omega
        go_wp2
        go_roundw
        case rel => exact ⟨j + 1, by simp, by omega, H2.out, len_of_bits (by rw [← Hbt.out]; omega), Hb3.out⟩
        case measure => simp [intOf]; omega
end Go.Proofs.Ytmlopkkbgpfdnaa
