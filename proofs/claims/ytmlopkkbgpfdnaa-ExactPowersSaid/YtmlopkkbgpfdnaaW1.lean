/- First walks. -/
import Derived.Test.YtmlopkkbgpfdnaaProg
import Derived.Test.YtmlopkkbgpfdnaaMath
import Derived.WalkKit
import Derived.WalkLawsBesides
import Derived.WalkSpells
import Derived.Outline
import Derived.BigGuardPart
import Derived.Lib.Hide
import Derived.Lib.MinMax
namespace Go.Proofs.Ytmlopkkbgpfdnaa
open Go.RowKit

/-- the words l lie at the slice value v in w -/
def Wd (w : World) (v : Value) (l : List Nat) : Prop :=
  ∃ A c, v = .slice A l.length c ∧ l.length ≤ c ∧ c ≤ 9223372036854775807 ∧ Ok l ∧
    (0 < l.length → ∃ b off, A = some ⟨b, off, none⟩ ∧ b < w.heap.size ∧ ∀ j, j < l.length → w.cell? ⟨b, off + j, none⟩ = some (.int .u32 (l.getD j 0 : Nat)))

theorem Wd.ok {w : World} {v : Value} {l : List Nat} (h : Wd w v l) : Ok l := by obtain ⟨_, _, _, _, _, h, _⟩ := h; exact h
theorem Wd.below {w w' : World} {v : Value} {l : List Nat} (h : Wd w v l) (hb : Below w.heap.size w w') : Wd w' v l := by
  obtain ⟨A, c, rfl, h1, h2, h3, h4⟩ := h
  refine ⟨A, c, rfl, h1, h2, h3, fun hp => ?_⟩
  obtain ⟨b, off, rfl, hb', hc⟩ := h4 hp
  exact ⟨b, off, rfl, Nat.lt_of_lt_of_le hb' hb.size, fun j hj => (hb.cell (p := ⟨b, off + j, none⟩) hb').trans (hc j hj)⟩
theorem Wd.nil_ (w : World) : Wd w (.slice none 0 0) [] := ⟨none, 0, rfl, Nat.le_refl _, by omega, Ok.nil, fun h => absurd h (by simp)⟩

theorem word_in (n c i : Nat) (b off : Nat) (x : Int) (w : World) (hi : i < n) (hn : n ≤ 9223372036854775807)
    (hx : w.cell? ⟨b, off + i, none⟩ = some (.int .u32 x)) :
    Calls Try.prog 85 #[.slice (some ⟨b, off, none⟩) n c, .int .i64 i] w fun e w' => e = .returned (.int .u32 x) ∧ w = w' := by
  go_enter Try.func85, Try.ntmps85
  go_wp2
  go_ret
  exact ⟨rfl, rfl⟩

theorem word_out (A : Option Addr) (n c : Nat) (i : Int) (w : World) (hi : i < 0 ∨ n ≤ i) (hn : n ≤ 9223372036854775807) :
    Calls Try.prog 85 #[.slice A n c, .int .i64 i] w fun e w' => e = .returned (.int .u32 0) ∧ w = w' := by
  by_cases h : i < 0
  · go_enter Try.func85, Try.ntmps85
    go_wp2
    go_ret
    exact ⟨rfl, rfl⟩
  · have h2 : (n : Int) ≤ i := by omega
    have h3 : 0 ≤ i := by omega
    clear hi h
    go_enter Try.func85, Try.ntmps85
    go_wp2
    all_goals (go_ret; exact ⟨rfl, rfl⟩)

/-- word -/
theorem word_any (v : Value) (l : List Nat) (i : Int) (w : World) (hv : Wd w v l) :
    Calls Try.prog 85 #[v, .int .i64 i] w fun e w' => e = .returned (.int .u32 ((if i < 0 then 0 else l.getD i.toNat 0 : Nat) : Int)) ∧ w = w' := by
  obtain ⟨A, c, rfl, h1, h2, h3, h4⟩ := hv
  by_cases h : i < 0 ∨ (l.length : Int) ≤ i
  · refine (word_out A l.length c i w h (by omega)).mono ?_
    rintro e w' ⟨rfl, rfl⟩
    refine ⟨?_, rfl⟩
    by_cases h' : i < 0
    · rw [if_pos h']; rfl
    · rw [if_neg h', List.getD_eq_getElem?_getD, List.getElem?_eq_none (by omega)]; rfl
  · obtain ⟨k, rfl⟩ : ∃ k : Nat, i = (k : Int) := ⟨i.toNat, by omega⟩
    have hk : k < l.length := by omega
    obtain ⟨b, off, rfl, hb, hc⟩ := h4 (by omega)
    refine (word_in l.length c k b off _ w hk (by omega) (hc k hk)).mono ?_
    rintro e w' ⟨rfl, rfl⟩
    exact ⟨by rw [if_neg (by omega)]; rfl, rfl⟩

/-- word, of digits -/
theorem word_dig (v : Value) (x i : Nat) (w : World) (hv : Wd w v (dig x)) :
    Calls Try.prog 85 #[v, .int .i64 (i : Int)] w fun e w' => e = .returned (.int .u32 (dg x i : Nat)) ∧ w = w' := by
  refine (word_any v _ i w hv).mono ?_
  rintro e w' ⟨rfl, rfl⟩
  exact ⟨by rw [if_neg (by omega), Int.toNat_natCast, dig_dg], rfl⟩

/-- exact.trim -/
theorem trimE_any (v : Value) (l : List Nat) (w : World) (hv : Wd w v l) :
    Calls Try.prog 103 #[v] w fun e w' => ∃ u, e = .returned u ∧ Wd w u (dig (val l)) ∧ w = w' := by
  obtain ⟨A, c, rfl, h1, h2, h3, h4⟩ := hv
  obtain ⟨n, hn⟩ : ∃ n, n = l.length := ⟨_, rfl⟩
  rw [← hn] at h1 h4 ⊢
  have Hn := Lib.hid hn; clear hn
  have hm : n ≤ 9223372036854775807 := by omega
  go_enter Try.func103, Try.ntmps103
  go_wp2
  go_loop [3] (fun i => ∃ k : Nat, i = .int .i64 k ∧ k ≤ n ∧ ∀ j, k ≤ j → j < n → l.getD j 0 = 0) (fun i => (intOf i).toNat)
  case atStart => exact ⟨n, rfl, Nat.le_refl _, fun j h h' => by omega⟩
  case round =>
    obtain ⟨k, rfl, hk, hz⟩ := hrel
    by_cases k0 : k = 0
    · subst k0
      have HZ := Lib.hid hz; clear hz
      go_wp2
      go_ret
      refine ⟨_, rfl, ?_, rfl⟩
      rw [dig_take (k := 0) h3 (by omega) (fun j h h' => HZ.out j h (by rw [Hn.out]; exact h')) (.inl rfl)]
      exact Wd.nil_ _
    · obtain ⟨b, off, rfl, hb, hc⟩ := h4 (by omega)
      have hx := hc (k - 1) (by omega)
      obtain ⟨x, hxe⟩ : ∃ x, x = l.getD (k - 1) 0 := ⟨_, rfl⟩
      rw [← hxe] at hx
      have Hx := Lib.hid hxe; clear hxe
      have HC := Lib.hid hc; clear hc h4
      have HZ := Lib.hid hz; clear hz
      have hkp : 0 < k := by omega
      by_cases hx0 : x = 0
      · subst hx0
        go_wp2
        go_round
        case rel =>
          refine ⟨k - 1, by rw [show ((k : Int) - 1) = ((k - 1 : Nat) : Int) from by omega], by omega, fun j hj hj' => ?_⟩
          by_cases e : j = k - 1
          · rw [e]; exact Hx.out.symm
          · exact HZ.out j (by omega) hj'
        case measure => simp [intOf]; omega
      · go_wp2
        go_ret
        have hl : (l.take k).length = k := by rw [List.length_take, ← Hn.out]; omega
        refine ⟨.slice (some ⟨b, off, none⟩) k k, rfl, ?_, rfl⟩
        rw [dig_take (k := k) h3 (by rw [← Hn.out]; omega) (fun j h h' => HZ.out j h (by rw [Hn.out]; exact h')) (.inr (by rw [← Hx.out]; exact hx0))]
        refine ⟨some ⟨b, off, none⟩, k, by rw [hl], by omega, by omega, h3.take k, fun _ => ⟨b, off, rfl, hb, fun j hj => ?_⟩⟩
        rw [hl] at hj
        rw [HC.out j (by omega)]
        simp [List.getD_eq_getElem?_getD, List.getElem?_take, hj]

end Go.Proofs.Ytmlopkkbgpfdnaa
