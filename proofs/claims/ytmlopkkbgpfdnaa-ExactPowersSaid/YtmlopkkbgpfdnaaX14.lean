/- Walks: root. -/
import Derived.Test.YtmlopkkbgpfdnaaX13
import Derived.Deep.LoopGhost
namespace Go.Proofs.Ytmlopkkbgpfdnaa
open Go.RowKit

/-- the root, rounded down -/
def RootIs (a k : Nat) (w : World) (e : Ending) (w' : World) : Prop := ∃ r x, e = .returned r ∧ Wd w' r (dig x) ∧ x ^ k ≤ a ∧ Up a k x ∧ Below w.heap.size w w'

theorem len_two {x m : Nat} (h : x ≤ 2 ^ (m * 32)) : (dig x).length ≤ m + 1 := by
  apply dig_len_le
  rw [pow_word]
  exact Nat.lt_of_le_of_lt h (Nat.pow_lt_pow_right (by omega) (by omega))

theorem len_mulN {x y k l : Nat} (hx : (dig x).length ≤ k) (hy : (dig y).length ≤ l) : (dig (x * y)).length ≤ k + l := by
  apply dig_len_le
  rw [Nat.pow_add]
  exact Nat.mul_lt_mul'' (lt_of_dig_len hx) (lt_of_dig_len hy)
theorem len_addN {x y k : Nat} (hx : (dig x).length ≤ k) (hy : (dig y).length ≤ k) : (dig (x + y)).length ≤ k + 1 := by
  have h1 := lt_of_dig_len hx
  have h2 := lt_of_dig_len hy
  apply dig_len_le
  rw [Nat.pow_succ]
  omega

set_option maxRecDepth 100000 in
theorem root_zero (k : Nat) (u : Value) (w : World) (hx : Wd w u (dig 0)) (hk : 1 ≤ k) :
    Calls Try.prog 81 #[u, .int .i64 (k : Int)] w (RootIs 0 k w) := by
  obtain ⟨A, c, rfl, -, -⟩ := hx.shape
  have e : (dig 0).length = 0 := by rw [dig_zero]; rfl
  rw [e]
  have hk0 : 0 ^ k ≤ 0 := by rw [Nat.zero_pow (by omega)]; exact Nat.le_refl _
  have hup : Up 0 k 0 := fun s hs => by
    rcases Nat.eq_zero_or_pos s with h | h
    · omega
    · have := Nat.pow_pos (n := k) h; omega
  have H := Lib.hid (And.intro hk0 hup)
  clear e hx hk hk0 hup
  go_enter Try.func81, Try.ntmps81
  go_wp2
  go_ret
  exact ⟨_, 0, rfl, by rw [dig_zero]; exact Wd.nil_ _, H.out.1, H.out.2, Below.refl _ _⟩

/-- a loop's head -/
def RootRel (a j e : Nat) (vl : Value) (w : World) (g : Nat) (v : Value) (wr : World) : Prop := ∃ x, g = x ∧ Wd wr vl (dig j) ∧ Wd wr v (dig x) ∧ 0 < x ∧ x ≤ 2 ^ e ∧ Up a (j + 1) x ∧ Below w.heap.size w wr

set_option maxHeartbeats 400000 in
set_option maxRecDepth 100000 in
theorem root_pos (a j : Nat) (u : Value) (w : World) (hx : Wd w u (dig a)) (la : (dig a).length ≤ 256) (ha : 0 < a) (hj : j ≤ 63) :
    Calls Try.prog 81 #[u, .int .i64 ((j : Int) + 1)] w (RootIs a (j + 1) w) := by
  have Hx := Lib.hid hx
  obtain ⟨A, n, c, rfl⟩ := hx.slice_
  have hn0 : 0 < n := by rw [hx.len]; exact dig_len_pos.2 ha
  have hnz : ((n : Int) == 0) = false := by simp; omega
  clear hx
  obtain ⟨b, hb⟩ : ∃ b, b = bitsN a := ⟨_, rfl⟩
  have hbl : b ≤ 8192 := by rw [hb]; have := bitsN_bound la; omega
  have hba : a < 2 ^ b := by rw [hb]; exact bitsN_lt a
  have hbits : ∀ W : World, Wd W (.slice A n c) (dig a) → Calls Try.prog 76 #[.slice A n c] W fun e w' => e = .returned (.int .i64 (b : Int)) ∧ w' = W := fun W h => by rw [hb]; exact bitsE_any a _ W h (by omega)
  obtain ⟨e, he⟩ : ∃ e, e = (b + j) / (j + 1) := ⟨_, rfl⟩
  have heI : ((b : Int) + ((j : Int) + 1) - 1) / ((j : Int) + 1) = (e : Int) := by
    rw [he, Int.natCast_ediv, show ((b : Int) + ((j : Int) + 1) - 1) = ((b + j : Nat) : Int) by omega, show ((j : Int) + 1) = ((j + 1 : Nat) : Int) by omega]
  have he1 : b ≤ e * (j + 1) := by
    rw [he]
    have := Nat.div_add_mod (b + j) (j + 1)
    have h2 := Nat.mod_lt (b + j) (show 0 < j + 1 by omega)
    rw [Nat.mul_comm] at this
    omega
  have he2 : e * j ≤ 8255 := by
    have h1 : e * (j + 1) ≤ b + j := by rw [he]; exact Nat.div_mul_le_self _ _
    have h2 : e * j ≤ e * (j + 1) := Nat.mul_le_mul_left _ (by omega)
    omega
  have he3 : e ≤ 8255 := by rw [he]; have := Nat.div_le_self (b + j) (j + 1); omega
  have hup0 := up_start hba (show 0 < j + 1 by omega) he1
  have HBits := Lib.hid hbits; clear hbits
  have HeI := Lib.hid heI; clear heI
  have Hup0 := Lib.hid hup0; clear hup0
  clear hb hba he he1
  have La := Lib.hid la; clear la
  go_enter Try.func81, Try.ntmps81
  go_wp2_with fail
  refine (asSlice (naturalOf_any j (by omega) _)).mono ?_
  rintro en w1 ⟨A1, n1, c1, rfl, h1, hb1⟩
  have H1 := Lib.hid h1; clear h1
  have Hb1 := Lib.hid hb1; clear hb1
  go_wp2_with fail
  refine (HBits.out _ (Hx.out.below Hb1.out)).mono ?_
  rintro en w' ⟨rfl, rfl⟩
  go_wp2_with fail
  rw [HeI.out]
  refine (asSlice (twoTo_any e _ (by omega))).mono ?_
  rintro en w2 ⟨A2, n2, c2, rfl, h2, hb2⟩
  have H2 := Lib.hid h2; clear h2
  have H12 := Lib.hid (H1.out.below hb2)
  have Hb2 := Lib.hid (Hb1.out.trans (hb2.mono Hb1.out.size)); clear hb2
  clear H1 Hb1
  have hp0 : 0 < 2 ^ e := Nat.pow_pos (by omega)
  have Hp0 := Lib.hid hp0; clear hp0
  have ht1 : ((j + 1 : Nat) : Int) = (j : Int) + 1 := by omega
  have Ht1 := Lib.hid ht1; clear ht1
  go_wp2_with fail
  go_loopg [6] (2 ^ e) (fun g v wr => RootRel a j e (.slice A1 n1 c1) w g v wr)
  case atStart => exact ⟨2 ^ e, rfl, H12.out, H2.out, Hp0.out, Nat.le_refl _, Hup0.out, Hb2.out⟩
  case round =>
    obtain ⟨x, hg, hvl, hr, hx0, hxe, hup, hbel⟩ := hrel
    have Hg := Lib.hid hg; clear hg
    have Hvl := Lib.hid hvl; clear hvl
    have Hr := Lib.hid hr
    obtain ⟨A3, n3, c3, rfl⟩ := hr.slice_
    clear hr
    have Hbel := Lib.hid hbel; clear hbel
    have Hup := Lib.hid hup; clear hup
    obtain ⟨m3, hm3⟩ : ∃ m, m = 300 := ⟨_, rfl⟩
    have hxp : x ^ j ≤ 2 ^ (m3 * 32) := by
      refine Nat.le_trans (Nat.pow_le_pow_left hxe j) ?_
      rw [← Nat.pow_mul]
      exact Nat.pow_le_pow_right (by omega) (by omega)
    have hx2 : x ≤ 2 ^ (m3 * 32) := Nat.le_trans hxe (Nat.pow_le_pow_right (by omega) (by omega))
    have l1 : (dig (x ^ j)).length ≤ 301 := by have := len_two hxp; omega
    have l2 : (dig x).length ≤ 301 := by have := len_two hx2; omega
    have l3 : (dig j).length ≤ 1 := dig_len_le (by omega)
    have l4 : (dig (a / x ^ j)).length ≤ 256 := Nat.le_trans (dig_len_mono (Nat.div_le_self _ _)) La.out
    have l5 : (dig (x * j)).length ≤ 302 := len_mulN l2 l3
    have l6 : (dig (x * j + a / x ^ j)).length ≤ 303 := len_addN l5 (by omega)
    have hpp : 0 < x ^ j := Nat.pow_pos hx0
    have HL := Lib.hid (And.intro l1 (And.intro l2 (And.intro l3 (And.intro l4 (And.intro l5 (And.intro l6 hpp))))))
    clear hm3
    clear hxp hx2 l1 l2 l3 l4 l5 l6 hpp
    have Hxe := Lib.hid hxe; clear hxe
    obtain ⟨y, hy⟩ : ∃ y, y = (x * j + a / x ^ j) / (j + 1) := ⟨_, rfl⟩
    have Hy := Lib.hid hy; clear hy
    go_wp2_with fail
    refine (asSlice (powerE_any x j _ _ Hr.out (by have := HL.out.2.1; omega) (by omega) (by have := HL.out.1; omega))).mono ?_
    rintro en w3 ⟨A4, n4, c4, rfl, h4, hb3⟩
    have H4 := Lib.hid h4; clear h4
    have hb03 := Hbel.out.trans (hb3.mono Hbel.out.size)
    have Hr3 := Lib.hid (Hr.out.below hb3)
    have Hv3 := Lib.hid (Hvl.out.below hb3)
    have Hb3 := Lib.hid hb03; clear hb03 hb3
    go_wp2_with fail
    refine (divide_any a (x ^ j) _ _ _ (Hx.out.below Hb3.out) H4.out (by have := La.out; omega) HL.out.2.2.2.2.2.2).mono ?_
    rintro en w4 ⟨q5, r5, rfl, h5, h5', hb4⟩
    obtain ⟨A5, n5, c5, rfl⟩ := h5.slice_
    obtain ⟨A6, n6, c6, rfl⟩ := h5'.slice_
    have H5 := Lib.hid h5; clear h5 h5'
    have hb04 := Hb3.out.trans (hb4.mono Hb3.out.size)
    have Hr4 := Lib.hid (Hr3.out.below hb4)
    have Hv4 := Lib.hid (Hv3.out.below hb4)
    have Hb4 := Lib.hid hb04; clear hb04 hb4
    go_wp2_with fail
    refine (asSlice (timesE_any x j _ _ _ Hr4.out Hv4.out (by have := HL.out.2.1; omega) (by have := HL.out.2.2.1; omega))).mono ?_
    rintro en w5 ⟨A7, n7, c7, rfl, h7, hb5⟩
    have H7 := Lib.hid h7; clear h7
    have H57 := Lib.hid (H5.out.below hb5)
    have hb05 := Hb4.out.trans (hb5.mono Hb4.out.size)
    have Hr5 := Lib.hid (Hr4.out.below hb5)
    have Hv5 := Lib.hid (Hv4.out.below hb5)
    have Hb5 := Lib.hid hb05; clear hb05 hb5
    go_wp2_with fail
    refine (asSlice (plusE_any (x * j) (a / x ^ j) _ _ _ H7.out H57.out (by have := HL.out.2.2.2.2.1; omega) (by have := HL.out.2.2.2.1; omega))).mono ?_
    rintro en w6 ⟨A8, n8, c8, rfl, h8, hb6⟩
    have H8 := Lib.hid h8; clear h8
    have hb06 := Hb5.out.trans (hb6.mono Hb5.out.size)
    have Hr6 := Lib.hid (Hr5.out.below hb6)
    have Hv6 := Lib.hid (Hv5.out.below hb6)
    have Hb6 := Lib.hid hb06; clear hb06 hb6
    have hdw := divideWord_any (x * j + a / x ^ j) (j + 1) _ w6 H8.out (by have := HL.out.2.2.2.2.2.1; omega) (by omega) (by omega)
    rw [← Hy.out, Ht1.out] at hdw
    have Hdw := Lib.hid hdw; clear hdw
    go_wp2_with fail
    refine Hdw.out.mono ?_
    rintro en w7 ⟨q9, rfl, h9, hb7⟩
    obtain ⟨A9, n9, c9, rfl⟩ := h9.slice_
    have H9 := Lib.hid h9; clear h9
    have hb07 := Hb6.out.trans (hb7.mono Hb6.out.size)
    have Hr7 := Lib.hid (Hr6.out.below hb7)
    have Hv7 := Lib.hid (Hv6.out.below hb7)
    have Hb7 := Lib.hid hb07; clear hb07 hb7
    have hnu := newton_up (a := a) (k := j) hx0
    rw [Nat.mul_comm j x, ← Hy.out] at hnu
    have Hnu := Lib.hid hnu; clear hnu
    go_wp2_with fail
    by_cases hcy : y < x
    · refine (compareE_any y x _ _ _ H9.out Hr7.out).mono ?_
      rintro en w8 ⟨rfl, nd, rfl⟩
      rw [cmpN_lt hcy]
      have hy0 : 0 < y := up_pos ha Hnu.out
      go_wp2
      go_roundg y
      case measure => rw [Hg.out]; exact hcy
      case rel => exact ⟨y, rfl, Hv7.out, H9.out, hy0, Nat.le_trans (Nat.le_of_lt hcy) Hxe.out, Hnu.out, Below.toDrewN Hb7.out nd⟩
    · obtain ⟨cv, hcv⟩ : ∃ c, c = cmpN y x := ⟨_, rfl⟩
      have hcv0 : 0 ≤ cv := by rw [hcv]; unfold cmpN; rw [if_neg hcy]; split <;> omega
      refine (compareE_any y x _ _ _ H9.out Hr7.out).mono ?_
      rintro en w8 ⟨rfl, nd, rfl⟩
      rw [← hcv]
      have hst : x ^ (j + 1) ≤ a := by
        apply newton_stop hx0
        rw [Nat.mul_comm j x, ← Hy.out]; omega
      have Hst := Lib.hid hst; clear hst hcv hcy
      go_wp2
      go_ret
      exact ⟨_, x, rfl, Hr7.out, Hst.out, Hup.out, Below.toDrewN Hb7.out nd⟩

/-- natural.root -/
theorem rootE_any (a k : Nat) (u : Value) (w : World) (hx : Wd w u (dig a)) (la : (dig a).length ≤ 256) (hk : 1 ≤ k) (hk2 : k ≤ 64) :
    Calls Try.prog 81 #[u, .int .i64 (k : Int)] w (RootIs a k w) := by
  rcases Nat.eq_zero_or_pos a with h | h
  · subst h; exact root_zero k u w hx hk
  · obtain ⟨j, rfl⟩ : ∃ j, k = j + 1 := ⟨k - 1, by omega⟩
    have := root_pos a j u w hx la h (by omega)
    rwa [show ((j : Int) + 1) = ((j + 1 : Nat) : Int) by omega] at this
end Go.Proofs.Ytmlopkkbgpfdnaa
