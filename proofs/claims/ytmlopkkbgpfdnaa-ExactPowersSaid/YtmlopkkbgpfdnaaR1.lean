/- Walks: the reference's naturals: trim, order, natural. -/
import Derived.Test.YtmlopkkbgpfdnaaW9
namespace Go.Proofs.Ytmlopkkbgpfdnaa
open Go.RowKit

set_option maxRecDepth 100000 in
/-- ref trim -/
theorem trimR_any (v : Value) (l : List Nat) (w : World) (hv : Wd w v l) :
    Calls Try.prog 96 #[v] w fun e w' => ∃ u, e = .returned u ∧ Wd w u (dig (val l)) ∧ w = w' := by
  obtain ⟨A, c, rfl, h1, h2, h3, h4⟩ := hv
  obtain ⟨n, hn⟩ : ∃ n, n = l.length := ⟨_, rfl⟩
  rw [← hn] at h1 h4 ⊢
  have Hn := Lib.hid hn; clear hn
  have hm : n ≤ 9223372036854775807 := by omega
  go_enter Try.func96, Try.ntmps96
  go_wp2
  go_loop [0] (fun v => ∃ k : Nat, v = .slice A k c ∧ k ≤ n ∧ ∀ j, k ≤ j → j < n → l.getD j 0 = 0) (fun v => match v with | .slice _ k _ => k | _ => 0)
  case atStart => exact ⟨n, rfl, Nat.le_refl _, fun j h h' => by omega⟩
  case round =>
    obtain ⟨k, rfl, hk, hz⟩ := hrel
    by_cases k0 : k = 0
    · subst k0
      have HZ := Lib.hid hz; clear hz
      go_wp2
      go_ret
      refine ⟨.slice A 0 c, rfl, ?_, rfl⟩
      rw [dig_take (k := 0) h3 (by omega) (fun j h h' => HZ.out j h (by rw [Hn.out]; exact h')) (.inl rfl)]
      exact ⟨A, c, rfl, by simp, by omega, Ok.nil, fun h => absurd h (by simp)⟩
    · obtain ⟨b, off, rfl, hb, hc⟩ := h4 (by omega)
      have hx := hc (k - 1) (by omega)
      obtain ⟨x, hxe⟩ : ∃ x, x = l.getD (k - 1) 0 := ⟨_, rfl⟩
      rw [← hxe] at hx
      have Hx := Lib.hid hxe; clear hxe
      have HC := Lib.hid hc; clear hc h4
      have HZ := Lib.hid hz; clear hz
      have hkp : 0 < k := by omega
      have hkd : decide ((0 : Int) < (k : Int)) = true := by simp; omega
      by_cases hx0 : x = 0
      · subst hx0
        go_wp2
        go_round
        case rel =>
          refine ⟨k - 1, by simp, by omega, fun j hj hj' => ?_⟩
          by_cases e : j = k - 1
          · rw [e]; exact Hx.out.symm
          · exact HZ.out j (by omega) hj'
        case measure => simp; omega
      · go_wp2
        go_ret
        have hl : (l.take k).length = k := by rw [List.length_take, ← Hn.out]; omega
        refine ⟨.slice (some ⟨b, off, none⟩) k c, rfl, ?_, rfl⟩
        rw [dig_take (k := k) h3 (by rw [← Hn.out]; omega) (fun j h h' => HZ.out j h (by rw [Hn.out]; exact h')) (.inr (by rw [← Hx.out]; exact hx0))]
        refine ⟨some ⟨b, off, none⟩, c, by rw [hl], by omega, by omega, h3.take k, fun _ => ⟨b, off, rfl, hb, fun j hj => ?_⟩⟩
        rw [hl] at hj
        rw [HC.out j (by omega)]
        simp [List.getD_eq_getElem?_getD, List.getElem?_take, hj]

theorem orderR_ne (x y n m c c' : Nat) (A A' : Option Addr) (w : World) (hn : n = (dig x).length) (hm : m = (dig y).length) (hne : n ≠ m) (ln : n ≤ 9223372036854775807) (lm : m ≤ 9223372036854775807) :
    Calls Try.prog 54 #[.slice A n c, .slice A' m c'] w fun e w' => e = .returned (.int .i64 (cmpN x y)) ∧ ∃ n, w' = w.drewN n := by
  have hb : ((n : Int) != m) = true := by simp; omega
  rcases Nat.lt_or_ge n m with h | h
  · rw [cmpN_lt (lt_of_len_lt (by omega))]
    clear hn hm
    go_enter Try.func54, Try.ntmps54
    go_wp2
    go_ret
    exact ⟨rfl, 0, rfl⟩
  · rw [cmpN_gt (lt_of_len_lt (by omega))]
    clear hn hm
    have hmn : m < n := by omega
    go_enter Try.func54, Try.ntmps54
    go_wp2
    go_ret
    exact ⟨rfl, 0, rfl⟩

set_option maxRecDepth 100000 in
theorem orderR_eq (x y n c c' : Nat) (A A' : Option Addr) (w : World) (hx : Wd w (.slice A n c) (dig x)) (hy : Wd w (.slice A' n c') (dig y)) (ln : n ≤ 9223372036854775807) :
    Calls Try.prog 54 #[.slice A n c, .slice A' n c'] w fun e w' => e = .returned (.int .i64 (cmpN x y)) ∧ ∃ n, w' = w.drewN n := by
  have Hx := Lib.hid hx
  have Hy := Lib.hid hy
  clear hx hy
  go_enter Try.func54, Try.ntmps54
  go_wp2_with fail
  go_loopw [5] (fun i wr => ∃ (k q : Nat), i = .int .i64 ((k : Int) - 1) ∧ k ≤ n ∧ wr = w.drewN q ∧ x / 4294967296 ^ k = y / 4294967296 ^ k) (fun i _ => (intOf i + 1).toNat)
  case atStart => exact ⟨n, 0, rfl, Nat.le_refl _, rfl, by rw [div_len (by rw [← Hx.out.len]; omega), div_len (by rw [← Hy.out.len]; omega)]⟩
  case round =>
    obtain ⟨k, q, rfl, hk, rfl, hq⟩ := hrel
    have HQ := Lib.hid hq; clear hq
    by_cases hk0 : k = 0
    · subst hk0
      have hr : cmpN x y = 0 := cmpN_eq (by have := HQ.out; simpa using this)
      have Hr := Lib.hid hr; clear hr
      go_wp2
      go_ret
      exact ⟨by rw [Hr.out]; rfl, q, rfl⟩
    · obtain ⟨j, rfl⟩ : ∃ j, k = j + 1 := ⟨k - 1, by omega⟩
      obtain ⟨b, off, rfl, -, hcx⟩ := Wd.cell (k := j) Hx.out (by omega)
      obtain ⟨b', off', rfl, -, hcy⟩ := Wd.cell (k := j) Hy.out (by omega)
      have h1 := hcx j (by omega)
      have h2 := hcy j (by omega)
      clear hcx hcy
      obtain ⟨p, hp⟩ : ∃ p, p = dg x j := ⟨_, rfl⟩
      obtain ⟨r, hr⟩ : ∃ r, r = dg y j := ⟨_, rfl⟩
      rw [← hp] at h1
      rw [← hr] at h2
      have Hp := Lib.hid hp; clear hp
      have Hr := Lib.hid hr; clear hr
      rw [show (((j + 1 : Nat)) : Int) - 1 = (j : Int) from by omega]
      have hjn : (j : Int) < (n : Int) := by omega
      have hj0 : (0 : Int) ≤ (j : Int) := by omega
      rcases Nat.lt_trichotomy p r with hpr | hpr | hpr
      · have hb : ((p : Int) != r) = true := by simp; omega
        have hfin : cmpN x y = -1 := cmpN_lt (dg_cmp_lt HQ.out (by rw [← Hp.out, ← Hr.out]; exact hpr))
        have Hf := Lib.hid hfin; clear hfin
        go_wp2_with fail
        go_quiet (fail)
        go_wp2_with fail
        go_quiet (fail)
        go_wp2
        go_ret
        exact ⟨by rw [Hf.out]; rfl, _, by rw [World.drewN_drewN, World.drewN_drewN]⟩
      · subst hpr
        go_wp2_with fail
        go_quiet (fail)
        go_wp2
        go_roundw
        case rel => exact ⟨j, _, rfl, by omega, rfl, dg_cmp_eq HQ.out (by rw [← Hp.out, ← Hr.out])⟩
        case measure => simp [intOf]
      · have hb : ((p : Int) != r) = true := by simp; omega
        have hfin : cmpN x y = 1 := cmpN_gt (dg_cmp_lt HQ.out.symm (by rw [← Hp.out, ← Hr.out]; exact hpr))
        have Hf := Lib.hid hfin; clear hfin
        go_wp2_with fail
        go_quiet (fail)
        go_wp2_with fail
        go_quiet (fail)
        go_wp2
        go_ret
        exact ⟨by rw [Hf.out]; rfl, _, by rw [World.drewN_drewN, World.drewN_drewN]⟩

set_option maxRecDepth 100000 in
/-- ref order -/
theorem orderR_any (x y : Nat) (u v : Value) (w : World) (hx : Wd w u (dig x)) (hy : Wd w v (dig y)) :
    Calls Try.prog 54 #[u, v] w fun e w' => e = .returned (.int .i64 (cmpN x y)) ∧ ∃ n, w' = w.drewN n := by
  obtain ⟨A, c, rfl, h1, h2⟩ := hx.shape
  obtain ⟨A', c', rfl, h3, h4⟩ := hy.shape
  by_cases hne : (dig x).length = (dig y).length
  · rw [← hne] at hy ⊢
    exact orderR_eq x y _ c c' A A' w hx hy (by omega)
  · exact orderR_ne x y _ _ c c' A A' w rfl rfl hne (by omega) (by omega)

set_option maxRecDepth 100000 in
theorem signedR_any (p : Bool) (A : Option Addr) (n c : Nat) (w : World) (hn : n ≤ 9223372036854775807) :
    Calls Try.prog 70 #[.bool p, .slice A n c] w fun e w' => e = .returned (.agg #[.bool (p && decide (0 < n)), .slice A n c]) ∧ Below w.heap.size w w' := by
  cases p
  · go_enter Try.func70, Try.ntmps70
    go_wp2
    exact bodyPost_ret (v := .agg #[.bool false, .slice A n c]) (by simp [results, Try.results70, go_sem]) rfl ⟨rfl, below_alloc _ _⟩
  · go_enter Try.func70, Try.ntmps70
    go_wp2
    exact bodyPost_ret (v := .agg #[.bool (decide (0 < n)), .slice A n c]) (by simp [results, Try.results70, go_sem]) rfl ⟨by simp, below_alloc _ _⟩

end Go.Proofs.Ytmlopkkbgpfdnaa
