/- Walks: Pow of both. -/
import Derived.Test.YtmlopkkbgpfdnaaP4
import Derived.Test.YtmlopkkbgpfdnaaR9
import Derived.Test.YtmlopkkbgpfdnaaR8
import Derived.Test.YtmlopkkbgpfdnaaR14
namespace Go.Proofs.Ytmlopkkbgpfdnaa
open Go.RowKit

/-- Pow's arguments are right -/
def powOk (p : Bool) (l : List Nat) (k : Int) : Bool := vld p l && (decide (0 ≤ k) && decide (k ≤ 10000))

theorem pow_key {p : Bool} {l : List Nat} {k : Int} (h : powOk p l k = false) : vld p l = false ∨ (vld p l = true ∧ k < 0) ∨ (vld p l = true ∧ 0 ≤ k ∧ 10000 < k) := by
  unfold powOk at h
  cases hv : vld p l <;> simp [hv] at h ⊢
  omega

set_option maxHeartbeats 800000 in
set_option maxRecDepth 100000 in
theorem exactPow_no (p : Bool) (A : Option Addr) (n c : Nat) (l : List Nat) (k : Int) (w : World) (hx : Wd w (.slice A n c) l) (hno : powOk p l k = false) :
    Calls Try.prog 42 #[.agg #[.bool p, .slice A n c], .int .i64 k] w fun e w' => e = .returned (.tuple #[.agg #[.bool false, .slice none 0 0], .int .i64 2]) ∧ Below w.heap.size w w' := by
  obtain ⟨W0, hW0, hH1, hR, h5, hb, z0⟩ := three_hw 24 w p A n c l hx
  have HW0 := Lib.hid hW0; clear hW0
  have HF := Lib.hid (And.intro hH1 (And.intro hR (And.intro h5 (And.intro hb z0))))
  clear hH1 hR h5 hb z0 hx
  have Hno := Lib.hid hno; clear hno
  go_enter Try.func42, Try.ntmps42
  go_wp2_with fail
  rw [← HW0.out]
  obtain ⟨hH1, hR, h5, hb, z0⟩ := HF.out
  clear HF
  refine (allValid_one p A n c l _ _ h5 hH1.w).mono ?_
  rintro e W1 ⟨rfl, hb1⟩
  have hx1 : Ext W0 W1 := hb1
  have R := hR.ext hx1
  obtain ⟨_, _, _, _, g30, g31, g32, g33⟩ := R.facts
  obtain ⟨W', hW', f1, f2, -, hbf⟩ := one_res (w := w) R false none 0 0 (zv_nil W1) (hb.trans (Below.mono hx1 hb.size)) (by omega)
  have HG := Lib.hid (And.intro hbf (And.intro f1 f2))
  have HW' := Lib.hid hW'
  clear hbf f1 f2 hW' R hR hb hH1 h5 hb1 hx1 HW0 z0
  have key := pow_key Hno.out
  clear Hno
  rcases key with hv | ⟨hv, hk⟩ | ⟨hv, hk1, hk2⟩
  all_goals
    rw [hv]
    clear hv
    try have d1 : decide (k < 0) = true := by simpa using hk
    try have d2 : decide (k < 0) = false := by simpa using hk1
    try have d3 : decide (10000 < k) = true := by simpa using hk2
    go_wp2
    rw [← HW'.out]
    obtain ⟨hbf, f1, f2⟩ := HG.out
    exact bodyPost_ret (v := .tuple #[.agg #[.bool false, .slice none 0 0], .int .i64 2]) (by simp [results, Try.results42, go_sem, f1, f2]) rfl ⟨rfl, hbf⟩

set_option maxHeartbeats 800000 in
set_option maxRecDepth 100000 in
theorem refPow_no (p : Bool) (A : Option Addr) (n c : Nat) (l : List Nat) (k : Int) (w : World) (hx : Wd w (.slice A n c) l) (hno : powOk p l k = false) :
    Calls Try.prog 43 #[.agg #[.bool p, .slice A n c], .int .i64 k] w fun e w' => e = .returned (.tuple #[.agg #[.bool false, .slice none 0 0], .int .i64 2]) ∧ Below w.heap.size w w' := by
  obtain ⟨W0, hW0, hH1, hR, hb, z0⟩ := two_hw 24 w p A n c l hx
  have HW0 := Lib.hid hW0; clear hW0
  have HF := Lib.hid (And.intro hH1 (And.intro hR (And.intro hb z0)))
  clear hH1 hR hb z0 hx
  have Hno := Lib.hid hno; clear hno
  go_enter Try.func43, Try.ntmps43
  go_wp2_with fail
  rw [← HW0.out]
  obtain ⟨hH1, hR, hb, z0⟩ := HF.out
  clear HF
  refine (validR_any p A n c l _ hH1.w).mono ?_
  rintro e W1 ⟨rfl, hb1⟩
  have hx1 : Ext W0 W1 := hb1
  have R := hR.ext hx1
  obtain ⟨_, _, _, _, g30, g31, g32, g33⟩ := R.facts
  obtain ⟨W', hW', f1, f2, -, hbf⟩ := one_res (w := w) R false none 0 0 (zv_nil W1) (hb.trans (Below.mono hx1 hb.size)) (by omega)
  have HG := Lib.hid (And.intro hbf (And.intro f1 f2))
  have HW' := Lib.hid hW'
  clear hbf f1 f2 hW' R hR hb hH1 hb1 hx1 HW0 z0
  have key := pow_key Hno.out
  clear Hno
  rcases key with hv | ⟨hv, hk⟩ | ⟨hv, hk1, hk2⟩
  all_goals
    rw [hv]
    clear hv
    try have d1 : decide (k < 0) = true := by simpa using hk
    try have d2 : decide (k < 0) = false := by simpa using hk1
    try have d3 : decide (10000 < k) = true := by simpa using hk2
    go_wp2
    rw [← HW'.out]
    obtain ⟨hbf, f1, f2⟩ := HG.out
    exact bodyPost_ret (v := .tuple #[.agg #[.bool false, .slice none 0 0], .int .i64 2]) (by simp [results, Try.results43, go_sem, f1, f2]) rfl ⟨rfl, hbf⟩

theorem zv_signed {w : World} {s : Bool} {A : Option Addr} {n c y : Nat} (h : Wd w (.slice A n c) (dig y)) : ZV w (.agg #[.bool (s && decide (0 < n)), .slice A n c]) (if s = true then -(y : Int) else (y : Int)) := by
  have hn : n = (dig y).length := h.len
  have h0 : 0 < n ↔ 0 < y := by
    rw [hn]
    rcases Nat.eq_zero_or_pos y with h1 | h1
    · subst h1; rw [dig_zero]; simp
    · rw [dig_pos h1]; simp; exact h1
  cases s with
  | false => exact ZV.mk (by simp) (by simp; exact h)
  | true =>
    refine ZV.mk ?_ (by simp; exact h)
    simp only [Bool.true_and, if_true]
    rw [decide_eq_decide, h0]; omega

/-- the power's sign and number -/
def powZ (p : Bool) (m k : Nat) : Int := if (p && decide (k % 2 = 1)) = true then -((m ^ k : Nat) : Int) else ((m ^ k : Nat) : Int)
theorem powZ_abs (p : Bool) (m k : Nat) : (powZ p m k).natAbs = m ^ k := by
  unfold powZ; split <;> omega

theorem pow_big {m k : Nat} (h : 8192 ≤ ((bitsN m : Int) - 1) * (k : Int)) : 256 < (dig (m ^ k)).length := by
  obtain ⟨B, hB⟩ : ∃ B, B = 8192 := ⟨_, rfl⟩
  rcases Nat.eq_zero_or_pos (bitsN m) with h0 | h0
  · rw [h0] at h
    have : ((0 : Nat) : Int) - 1 = -1 := rfl
    rw [this, Int.neg_one_mul] at h
    omega
  · obtain ⟨b, hb⟩ : ∃ b, bitsN m = b + 1 := ⟨bitsN m - 1, by omega⟩
    rw [hb, show (((b + 1 : Nat) : Int) - 1) = (b : Int) by omega, ← Int.natCast_mul] at h
    have h1 : B ≤ b * k := by rw [hB]; omega
    have hm : 0 < m := by
      rcases Nat.eq_zero_or_pos m with h2 | h2
      · subst h2
        have : bitsN 0 = 0 := by unfold bitsN; rw [dig_zero]; rfl
        omega
      · exact h2
    have h2 := bitsN_le m hm
    rw [hb, Nat.pow_succ] at h2
    have h3 : 2 ^ (b * k) ≤ m ^ k := by rw [Nat.pow_mul]; exact Nat.pow_le_pow_left (by omega) k
    have h4 : 2 ^ B ≤ m ^ k := Nat.le_trans (Nat.pow_le_pow_right (by omega) h1) h3
    rcases Nat.lt_or_ge 256 (dig (m ^ k)).length with h5 | h5
    · exact h5
    · have h6 := lt_of_dig_len h5
      obtain ⟨q, hq⟩ : ∃ q, q = 256 := ⟨_, rfl⟩
      rw [← hq, pow_word, show q * 32 = B by omega] at h6
      omega
theorem pow_len {m k : Nat} (h : ((bitsN m : Int) - 1) * (k : Int) < 8192) (hk : k ≤ 10000) : (dig (m ^ k)).length ≤ 1000000 := by
  have h1 : bitsN m * k ≤ 18192 := by
    rw [Int.sub_mul, ← Int.natCast_mul, Int.one_mul] at h
    omega
  have h2 : m ^ k ≤ 2 ^ (bitsN m * k) := by rw [Nat.pow_mul]; exact Nat.pow_le_pow_left (Nat.le_of_lt (bitsN_lt m)) k
  obtain ⟨q, hq⟩ : ∃ q, q = 569 := ⟨_, rfl⟩
  have h3 := len_two (x := m ^ k) (m := q) (Nat.le_trans h2 (Nat.pow_le_pow_right (by omega) (by omega)))
  omega

/-- Pow's answer -/
def powA (p : Bool) (m k : Nat) : Int := if (dig (m ^ k)).length ≤ 256 then powZ p m k else 0
def powX (m k : Nat) : Int := if (dig (m ^ k)).length ≤ 256 then 0 else 5

set_option maxHeartbeats 1600000 in
set_option maxRecDepth 100000 in
theorem exactPow_yes (p : Bool) (A : Option Addr) (n c : Nat) (l : List Nat) (k : Nat) (w : World) (hx : Wd w (.slice A n c) l) (hv : vld p l = true) (hk : k ≤ 10000) :
    Calls Try.prog 42 #[.agg #[.bool p, .slice A n c], .int .i64 (k : Int)] w (RetE w (powA p (val l) k) (powX (val l) k)) := by
  have hd : dig (val l) = l := dig_val hx.ok (vld_norm hv)
  have hl := vld_len hv
  obtain ⟨m, hm⟩ : ∃ m, m = val l := ⟨_, rfl⟩
  rw [← hm] at hd ⊢
  clear hm
  obtain ⟨W0, hW0, hH1, hR, h5, hb, z0⟩ := three_hw 24 w p A n c l hx
  have HW0 := Lib.hid hW0; clear hW0
  have HF := Lib.hid (And.intro hH1 (And.intro hR (And.intro h5 (And.intro hb z0))))
  clear hH1 hR h5 hb z0 hx
  have Hv := Lib.hid hv; clear hv
  have HD := Lib.hid (And.intro hd hl); clear hd hl
  have d1 : decide ((k : Int) < 0) = false := by simp
  have d2 : decide ((10000 : Int) < k) = false := by simp; omega
  go_enter Try.func42, Try.ntmps42
  go_wp2_with fail
  rw [← HW0.out]
  obtain ⟨hH1, hR, h5, hb, z0⟩ := HF.out
  clear HF
  refine (allValid_one p A n c l _ _ h5 hH1.w).mono ?_
  rintro e W1 ⟨rfl, hb1⟩
  rw [Hv.out]
  have hx1 : Ext W0 W1 := hb1
  have H1 := Lib.hid (hH1.ext hx1)
  have k1 := H1.out.c0
  have k2 := H1.out.c1
  have R := Lib.hid (hR.ext hx1)
  have Hb := Lib.hid (hb.trans (Below.mono hx1 hb.size))
  have z1 : w.heap.size + 2 ≤ W1.heap.size := by have := hx1.size; omega
  clear hH1 hR h5 hb z0 hb1 hx1 HW0 W0
  go_wp2_with fail
  refine (wholeOf_any p A n c _).mono ?_
  rintro e W2 ⟨rfl, hb2⟩
  have hx2 : Ext W1 W2 := hb2
  have x3 : Ext W2 (W2.alloc (Obj.cells #[.bool p, .slice A n c] 60)) := (Ext.refl W2).alc _
  have hw := ((H1.out.ext hx2).w)
  have m6 := HW.new W2 p A n c l 60 hw
  have R2 := Lib.hid ((R.out.ext hx2).ext x3)
  have hb02 := Hb.out.trans (Below.mono hx2 Hb.out.size)
  have Hb2 := Lib.hid (hb02.trans (Below.mono x3 hb02.size))
  have c0 := m6.c0
  have c1 := m6.c1
  have hw3 := m6.w
  rw [← HD.out.1] at hw3
  have Hw := Lib.hid hw3
  clear hb2 hx2 hw m6 x3 hb02 hw3 k1 k2 H1 R Hb
  obtain ⟨b, hbb⟩ : ∃ b, b = bitsN m := ⟨_, rfl⟩
  have hb8 : b ≤ 8192 := by rw [hbb]; have := bitsN_bound (x := m) (k := 256) (by rw [HD.out.1]; exact HD.out.2); omega
  obtain ⟨d, hdd⟩ : ∃ d, d = ((b : Int) - 1) * (k : Int) := ⟨_, rfl⟩
  have hd1 : d < 81940000 ∧ -10001 < d := by
    rw [hdd, Int.sub_mul, ← Int.natCast_mul, Int.one_mul]
    have : b * k ≤ 8192 * 10000 := Nat.mul_le_mul hb8 hk
    omega
  have hwd : wrap64 (((b : Int) - 1) * (k : Int)) = d := by rw [← hdd]; unfold wrap64; omega
  have hbig : 8192 ≤ d → 256 < (dig (m ^ k)).length := fun h => pow_big (by rw [← hbb, ← hdd]; exact h)
  have hsml : d < 8192 → (dig (m ^ k)).length ≤ 1000000 := fun h => pow_len (by rw [← hbb, ← hdd]; exact h) hk
  have Hbig := Lib.hid hbig
  have Hsml := Lib.hid hsml
  have Hwd := Lib.hid hwd
  have Hdd := Lib.hid hdd
  have Hbb := Lib.hid hbb
  clear hbig hsml hdd hbb hwd
  go_wp2_with fail
  refine (bitsE_any m _ _ Hw.out (by rw [HD.out.1]; have := HD.out.2; omega)).mono ?_
  rintro e W4 ⟨rfl, rfl⟩
  rw [← Hbb.out]
  have hwI : ∀ t : Bool, decide (8192 ≤ d) = t → decide (8192 ≤ wrap64 (((b : Int) - 1) * (k : Int))) = t := fun t h => by rw [Hwd.out]; exact h
  by_cases hc : 8192 ≤ d
  · have e0 := hwI true (by simpa using hc)
    have hlen := Hbig.out hc
    have hA : powA p m k = 0 := by unfold powA; rw [if_neg (by omega)]
    have hX : powX m k = 5 := by unfold powX; rw [if_neg (by omega)]
    obtain ⟨_, _, _, _, g30, g31, g32, g33⟩ := R2.out.facts
    obtain ⟨W', hW', f1, f2, hzz, hbf⟩ := one_res (w := w) R2.out false none 0 0 (zv_nil _) Hb2.out (by omega)
    rw [← hA] at hzz
    have HX := Lib.hid hX
    have HG := Lib.hid (And.intro hzz (And.intro hbf (And.intro f1 f2)))
    have HW' := Lib.hid hW'
    clear hzz hbf f1 f2 hW' R2 hlen hA hX hwI hc hd1
    go_wp2
    rw [← HW'.out]
    obtain ⟨hzz, hbf, f1, f2⟩ := HG.out
    exact bodyPost_ret (v := .tuple #[.agg #[.bool false, .slice none 0 0], .int .i64 5]) (by simp [results, Try.results42, go_sem, f1, f2]) rfl ⟨_, _, _, _, by rw [HX.out], hzz, hbf⟩
  · have e0 := hwI false (by simpa using hc)
    have hlen := Hsml.out (by omega)
    have Hlen := Lib.hid hlen
    clear hlen hwI hc hd1 Hbig Hsml
    obtain ⟨s, hs⟩ : ∃ s, s = decide (k % 2 = 1) := ⟨_, rfl⟩
    have es : ((k : Int) % 2 == 1) = s := by
      rw [hs, Bool.eq_iff_iff]
      simp
      omega
    have hZ : powZ p m k = if (p && s) = true then -((m ^ k : Nat) : Int) else ((m ^ k : Nat) : Int) := by unfold powZ; rw [← hs]
    have HZ' := Lib.hid hZ
    clear hZ hs
    generalize (W2.alloc (Obj.cells #[.bool p, .slice A n c] 60)) = W5 at *
    obtain ⟨g6, hg6⟩ : ∃ g, g = W2.heap.size := ⟨_, rfl⟩
    rw [← hg6] at c0 c1 ⊢
    clear hg6
    cases p
    case false =>
      go_wp2_with fail
      refine (asSlice (powerE_any m k _ _ Hw.out (by rw [HD.out.1]; have := HD.out.2; omega) (by omega) Hlen.out)).mono ?_
      rintro e w6 ⟨A6, n6, c6, rfl, h6, hb6⟩
      have hx6 : Ext W5 w6 := hb6
      have hn6 : n6 ≤ 9223372036854775807 := by rw [h6.len]; exact Nat.le_trans Hlen.out (by decide)
      have hsg := fun q W => signed_any q A6 n6 c6 W hn6
      have Hsg := Lib.hid hsg
      have H6 := Lib.hid h6
      have R6 := Lib.hid (R2.out.ext hx6)
      have Hb6 := Lib.hid (Hb2.out.trans (Below.mono hx6 Hb2.out.size))
      clear hx6 hb6 h6 hn6 hsg
      go_wp2_with fail
      refine (Hsg.out _ _).mono ?_
      rintro e w7 ⟨rfl, hb7⟩
      have hx7 : Ext w6 w7 := hb7
      have hz := zv_signed (s := false) (H6.out.below hb7)
      have R7 := Lib.hid (R6.out.ext hx7)
      have Hb7 := Lib.hid (Hb6.out.trans (Below.mono hx7 Hb6.out.size))
      rw [show (if (false : Bool) = true then -((m ^ k : Nat) : Int) else ((m ^ k : Nat) : Int)) = powZ false m k from by rw [HZ'.out]; rfl] at hz
      have Hz := Lib.hid hz
      clear hx7 hb7 hz
      go_wp2_with fail
      by_cases hfit : (dig (m ^ k)).length ≤ 256
      · have hA : powA false m k = powZ false m k := by unfold powA; rw [if_pos hfit]
        have hX : powX m k = 0 := by unfold powX; rw [if_pos hfit]
        refine (fitInt_yes (powZ false m k) _ _ Hz.out (by rw [powZ_abs]; exact hfit)).mono ?_
        rintro e w8 ⟨b8, A8, n8, c8, rfl, hz8, hb8'⟩
        have hx8 : Ext w7 w8 := hb8'
        have R8 := R7.out.ext hx8
        obtain ⟨_, _, _, _, g30, g31, g32, g33⟩ := R8.facts
        obtain ⟨W', hW', f1, f2, hzz, hbf⟩ := one_res (w := w) R8 b8 A8 n8 c8 hz8 (Hb7.out.trans (Below.mono hx8 Hb7.out.size)) (by omega)
        rw [← hA] at hzz
        have HG := Lib.hid (And.intro hzz (And.intro hbf (And.intro f1 f2)))
        have HW' := Lib.hid hW'
        have HX := Lib.hid hX
        clear hzz hbf f1 f2 hW' R8 hx8 hb8' hz8 hA hX hfit
        go_wp2
        rw [← HW'.out]
        obtain ⟨hzz, hbf, f1, f2⟩ := HG.out
        exact bodyPost_ret (v := .tuple #[.agg #[.bool b8, .slice A8 n8 c8], .int .i64 0]) (by simp [results, Try.results42, go_sem, f1, f2]) rfl ⟨_, _, _, _, by rw [HX.out], hzz, hbf⟩
      · have hA : powA false m k = 0 := by unfold powA; rw [if_neg hfit]
        have hX : powX m k = 5 := by unfold powX; rw [if_neg hfit]
        refine (fitInt_no (powZ false m k) _ _ Hz.out (by rw [powZ_abs]; omega)).mono ?_
        rintro e w8 ⟨rfl, hb8'⟩
        have hx8 : Ext w7 w8 := hb8'
        have R8 := R7.out.ext hx8
        obtain ⟨_, _, _, _, g30, g31, g32, g33⟩ := R8.facts
        obtain ⟨W', hW', f1, f2, hzz, hbf⟩ := one_res (w := w) R8 false none 0 0 (zv_nil w8) (Hb7.out.trans (Below.mono hx8 Hb7.out.size)) (by omega)
        rw [← hA] at hzz
        have HG := Lib.hid (And.intro hzz (And.intro hbf (And.intro f1 f2)))
        have HW' := Lib.hid hW'
        have HX := Lib.hid hX
        clear hzz hbf f1 f2 hW' R8 hx8 hb8' hA hX hfit
        go_wp2
        rw [← HW'.out]
        obtain ⟨hzz, hbf, f1, f2⟩ := HG.out
        exact bodyPost_ret (v := .tuple #[.agg #[.bool false, .slice none 0 0], .int .i64 5]) (by simp [results, Try.results42, go_sem, f1, f2]) rfl ⟨_, _, _, _, by rw [HX.out], hzz, hbf⟩
    case true =>
      go_wp2_with fail
      refine (asSlice (powerE_any m k _ _ Hw.out (by rw [HD.out.1]; have := HD.out.2; omega) (by omega) Hlen.out)).mono ?_
      rintro e w6 ⟨A6, n6, c6, rfl, h6, hb6⟩
      have hx6 : Ext W5 w6 := hb6
      have hn6 : n6 ≤ 9223372036854775807 := by rw [h6.len]; exact Nat.le_trans Hlen.out (by decide)
      have hsg := fun q W => signed_any q A6 n6 c6 W hn6
      have Hsg := Lib.hid hsg
      have H6 := Lib.hid h6
      have R6 := Lib.hid (R2.out.ext hx6)
      have Hb6 := Lib.hid (Hb2.out.trans (Below.mono hx6 Hb2.out.size))
      clear hx6 hb6 h6 hn6 hsg
      go_wp2_with fail
      refine (Hsg.out _ _).mono ?_
      rintro e w7 ⟨rfl, hb7⟩
      have hx7 : Ext w6 w7 := hb7
      have hz := zv_signed (s := s) (H6.out.below hb7)
      have R7 := Lib.hid (R6.out.ext hx7)
      have Hb7 := Lib.hid (Hb6.out.trans (Below.mono hx7 Hb6.out.size))
      rw [show (if (s : Bool) = true then -((m ^ k : Nat) : Int) else ((m ^ k : Nat) : Int)) = powZ true m k from by rw [HZ'.out]; rfl] at hz
      have Hz := Lib.hid hz
      clear hx7 hb7 hz
      go_wp2_with fail
      by_cases hfit : (dig (m ^ k)).length ≤ 256
      · have hA : powA true m k = powZ true m k := by unfold powA; rw [if_pos hfit]
        have hX : powX m k = 0 := by unfold powX; rw [if_pos hfit]
        refine (fitInt_yes (powZ true m k) _ _ Hz.out (by rw [powZ_abs]; exact hfit)).mono ?_
        rintro e w8 ⟨b8, A8, n8, c8, rfl, hz8, hb8'⟩
        have hx8 : Ext w7 w8 := hb8'
        have R8 := R7.out.ext hx8
        obtain ⟨_, _, _, _, g30, g31, g32, g33⟩ := R8.facts
        obtain ⟨W', hW', f1, f2, hzz, hbf⟩ := one_res (w := w) R8 b8 A8 n8 c8 hz8 (Hb7.out.trans (Below.mono hx8 Hb7.out.size)) (by omega)
        rw [← hA] at hzz
        have HG := Lib.hid (And.intro hzz (And.intro hbf (And.intro f1 f2)))
        have HW' := Lib.hid hW'
        have HX := Lib.hid hX
        clear hzz hbf f1 f2 hW' R8 hx8 hb8' hz8 hA hX hfit
        go_wp2
        rw [← HW'.out]
        obtain ⟨hzz, hbf, f1, f2⟩ := HG.out
        exact bodyPost_ret (v := .tuple #[.agg #[.bool b8, .slice A8 n8 c8], .int .i64 0]) (by simp [results, Try.results42, go_sem, f1, f2]) rfl ⟨_, _, _, _, by rw [HX.out], hzz, hbf⟩
      · have hA : powA true m k = 0 := by unfold powA; rw [if_neg hfit]
        have hX : powX m k = 5 := by unfold powX; rw [if_neg hfit]
        refine (fitInt_no (powZ true m k) _ _ Hz.out (by rw [powZ_abs]; omega)).mono ?_
        rintro e w8 ⟨rfl, hb8'⟩
        have hx8 : Ext w7 w8 := hb8'
        have R8 := R7.out.ext hx8
        obtain ⟨_, _, _, _, g30, g31, g32, g33⟩ := R8.facts
        obtain ⟨W', hW', f1, f2, hzz, hbf⟩ := one_res (w := w) R8 false none 0 0 (zv_nil w8) (Hb7.out.trans (Below.mono hx8 Hb7.out.size)) (by omega)
        rw [← hA] at hzz
        have HG := Lib.hid (And.intro hzz (And.intro hbf (And.intro f1 f2)))
        have HW' := Lib.hid hW'
        have HX := Lib.hid hX
        clear hzz hbf f1 f2 hW' R8 hx8 hb8' hA hX hfit
        go_wp2
        rw [← HW'.out]
        obtain ⟨hzz, hbf, f1, f2⟩ := HG.out
        exact bodyPost_ret (v := .tuple #[.agg #[.bool false, .slice none 0 0], .int .i64 5]) (by simp [results, Try.results42, go_sem, f1, f2]) rfl ⟨_, _, _, _, by rw [HX.out], hzz, hbf⟩

/-- the base -/
def baseZ (p : Bool) (m : Nat) : Int := if p = true then -(m : Int) else (m : Int)
theorem powZ_zero (p : Bool) (m : Nat) : powZ p m 0 = 1 := by unfold powZ; simp
theorem powZ_succ (p : Bool) (m j : Nat) : powZ p m j * baseZ p m = powZ p m (j + 1) := by
  unfold powZ baseZ
  rw [Nat.pow_succ]
  cases p with
  | false => simp
  | true =>
    rcases (by omega : j % 2 = 0 ∨ j % 2 = 1) with h | h
    · have h2 : (j + 1) % 2 = 1 := by omega
      simp [h, h2, Int.mul_neg, Int.neg_mul]
    · have h2 : (j + 1) % 2 = 0 := by omega
      simp [h, h2, Int.mul_neg, Int.neg_mul]
/-- how often the reference multiplies -/
def timesN (m k : Nat) : Nat := if m ≤ 1 then min k (2 - k % 2) else k
theorem timesN_le (m k : Nat) : timesN m k ≤ k := by unfold timesN; split <;> omega
theorem timesN_pow (m k : Nat) : m ^ timesN m k = m ^ k := by
  unfold timesN
  split
  · rename_i h
    rcases (by omega : m = 0 ∨ m = 1) with h0 | h0
    · subst h0
      rcases Nat.eq_zero_or_pos k with h1 | h1
      · subst h1; rfl
      · rw [Nat.zero_pow h1, Nat.zero_pow (by omega)]
    · subst h0; rw [Nat.one_pow, Nat.one_pow]
  · rfl
theorem timesN_par (m k : Nat) : timesN m k % 2 = k % 2 := by unfold timesN; split <;> omega
theorem timesN_Z (p : Bool) (m k : Nat) : powZ p m (timesN m k) = powZ p m k := by
  unfold powZ; rw [timesN_pow, timesN_par]
theorem base_sq (p : Bool) (m : Nat) : (baseZ p m * baseZ p m - 1).sign ≤ 0 ↔ m ≤ 1 := by
  have h : baseZ p m * baseZ p m = ((m * m : Nat) : Int) := by unfold baseZ; cases p <;> simp [Int.mul_neg, Int.neg_mul]
  rw [h]
  constructor
  · intro h1
    rcases Nat.lt_or_ge 1 m with h2 | h2
    · have h3 : 2 * 2 ≤ m * m := Nat.mul_le_mul h2 h2
      rw [Int.sign_eq_one_of_pos (by omega)] at h1
      omega
    · exact h2
  · intro h1
    have h3 : m * m ≤ 1 * 1 := Nat.mul_le_mul h1 h1
    rcases (by omega : ((m * m : Nat) : Int) - 1 < 0 ∨ ((m * m : Nat) : Int) - 1 = 0) with h4 | h4
    · rw [Int.sign_eq_neg_one_of_neg h4]; omega
    · rw [h4]; simp
theorem base_num (p : Bool) (l : List Nat) : baseZ p (val l) = numOf p l := rfl
theorem base_abs (p : Bool) (m : Nat) : (baseZ p m).natAbs = m := by unfold baseZ; split <;> omega
theorem pow_far {m j k : Nat} (hj : j + 1 ≤ timesN m k) (h : 256 < (dig (m ^ (j + 1))).length) : 256 < (dig (m ^ k)).length := by
  refine Nat.lt_of_lt_of_le h (dig_len_mono ?_)
  rw [← timesN_pow m k]
  rcases Nat.eq_zero_or_pos m with h0 | h0
  · subst h0; rw [Nat.zero_pow (by omega)]; exact Nat.zero_le _
  · exact Nat.pow_le_pow_right h0 hj

/-- what the loop holds -/
structure PowAt (w wr : World) (g1 g6 g7 : Nat) (p : Bool) (A : Option Addr) (n c : Nat) (l : List Nat) (m t j : Nat) : Prop where
  a : HW wr g6 p A n c l
  r1 : RB wr g1
  r7 : RB wr g7
  z : HZ wr g7 (powZ p m j)
  len : (dig (m ^ j)).length ≤ 256
  b : Below w.heap.size w wr
  j : j ≤ t

set_option maxHeartbeats 1600000 in
set_option maxRecDepth 100000 in
theorem refPow_yes (p : Bool) (A : Option Addr) (n c : Nat) (l : List Nat) (k : Nat) (w : World) (hx : Wd w (.slice A n c) l) (hv : vld p l = true) (hk : k ≤ 10000) :
    Calls Try.prog 43 #[.agg #[.bool p, .slice A n c], .int .i64 (k : Int)] w (RetE w (powA p (val l) k) (powX (val l) k)) := by
  have hd : dig (val l) = l := dig_val hx.ok (vld_norm hv)
  have hl := vld_len hv
  have hzv : ∀ W, Wd W (.slice A n c) l → ZV W (.agg #[.bool p, .slice A n c]) (baseZ p (val l)) := fun W h => by rw [base_num]; exact vld_zv h hv
  obtain ⟨m, hm⟩ : ∃ m, m = val l := ⟨_, rfl⟩
  rw [← hm] at hd hzv ⊢
  clear hm
  have HZ0 := Lib.hid hzv; clear hzv
  obtain ⟨W0, hW0, hH1, hR, hb, z0⟩ := two_hw 24 w p A n c l hx
  have HW0 := Lib.hid hW0; clear hW0
  have HF := Lib.hid (And.intro hH1 (And.intro hR (And.intro hb z0)))
  clear hH1 hR hb z0 hx
  have Hv := Lib.hid hv; clear hv
  have HD := Lib.hid (And.intro hd hl); clear hd hl
  have Lm := Lib.hid (show (dig (baseZ p m).natAbs).length ≤ 256 by rw [base_abs, HD.out.1]; exact HD.out.2)
  have d1 : decide ((k : Int) < 0) = false := by simp
  have d2 : decide ((10000 : Int) < k) = false := by simp; omega
  go_enter Try.func43, Try.ntmps43
  go_wp2_with fail
  rw [← HW0.out]
  obtain ⟨hH1, hR, hb, z0⟩ := HF.out
  clear HF
  refine (validR_any p A n c l _ hH1.w).mono ?_
  rintro e W1 ⟨rfl, hb1⟩
  rw [Hv.out]
  have hx1 : Ext W0 W1 := hb1
  have H1 := Lib.hid (hH1.ext hx1)
  have k1 := H1.out.c0
  have k2 := H1.out.c1
  have R := Lib.hid (hR.ext hx1)
  have Hb := Lib.hid (hb.trans (Below.mono hx1 hb.size))
  have z1 : w.heap.size + 2 ≤ W1.heap.size := by have := hx1.size; omega
  clear hH1 hR hb z0 hb1 hx1 HW0 W0
  go_wp2_with fail
  refine (of_any p A n c _).mono ?_
  rintro e W2 ⟨rfl, hb2⟩
  have hx2 : Ext W1 W2 := hb2
  have Hw2 := Lib.hid ((H1.out.ext hx2).w)
  have R2 := Lib.hid (R.out.ext hx2)
  have Hb2 := Lib.hid (Hb.out.trans (Below.mono hx2 Hb.out.size))
  have z2 : w.heap.size + 2 ≤ W2.heap.size := by have := hx2.size; omega
  clear hb2 hx2 k1 k2 H1 R Hb z1
  go_wp2_with fail
  refine (asAgg (wholeR_any 1 _ (by omega) (by omega))).mono ?_
  rintro e W3 ⟨b7, A7, n7, c7, rfl, hz7, hb3⟩
  have hx3 : Ext W2 W3 := hb3
  have hw3 := Hw2.out.below hb3
  have m6 := (HW.new W3 p A n c l 34 hw3).alloc (Obj.cells #[.bool b7, .slice A7 n7 c7] 34)
  have r7 := (HW.new (W3.alloc (Obj.cells #[.bool p, .slice A n c] 34)) b7 A7 n7 c7 _ 34 (hz7.words.2.below (below1 _ _))).r
  have z7 := HZ.lit (W3.alloc (Obj.cells #[.bool p, .slice A n c] 34)) b7 A7 n7 c7 34 (hz7.below (below1 _ _))
  rw [World.size_alloc] at r7 z7
  have x4 : Ext W3 ((W3.alloc (Obj.cells #[.bool p, .slice A n c] 34)).alloc (Obj.cells #[.bool b7, .slice A7 n7 c7] 34)) := ((Ext.refl W3).alc _).alc _
  have R4 := Lib.hid ((R2.out.ext hx3).ext x4)
  have hb03 := Hb2.out.trans (Below.mono hx3 Hb2.out.size)
  have Hb4 := Lib.hid (hb03.trans (Below.mono x4 hb03.size))
  have z3 : w.heap.size + 2 ≤ W3.heap.size := by have := hx3.size; omega
  have M6 := Lib.hid m6
  have R7 := Lib.hid r7
  have Z7 := Lib.hid z7
  have c0 := m6.c0
  have c1 := m6.c1
  clear m6 r7 z7 x4 hb03 hx3 hw3 hz7 hb3 Hw2 R2 Hb2 z2
  go_wp2_with fail
  obtain ⟨g6, hg6⟩ : ∃ g, g = W3.heap.size := ⟨_, rfl⟩
  rw [← hg6] at M6 R7 Z7 c0 c1 z3
  try rw [← hg6]
  clear hg6
  obtain ⟨g7, hg7⟩ : ∃ g, g = g6 + 1 := ⟨_, rfl⟩
  rw [← hg7] at R7 Z7
  try rw [← hg7]
  generalize ((W3.alloc (Obj.cells #[.bool p, .slice A n c] 34)).alloc (Obj.cells #[.bool b7, .slice A7 n7 c7] 34)) = W5 at *
  obtain ⟨z, hz⟩ : ∃ z, z = baseZ p m := ⟨_, rfl⟩
  have Lz := Lm.out
  have Lzz : (dig (z * z).natAbs).length ≤ 1000000 := by
    rw [hz, Int.natAbs_mul, base_abs]
    have h1 := Lm.out
    rw [base_abs] at h1
    exact Nat.le_trans (len_mulN h1 h1) (by omega)
  have L1 : (dig ((1 : Int)).natAbs).length ≤ 1000000 := by
    rw [show ((1 : Int)).natAbs = 1 by rfl, dig_pos (by omega)]; simp [dig_zero]
  have HL := Lib.hid (And.intro Lzz L1)
  have hcmp : (z * z - 1).sign ≤ 0 ↔ m ≤ 1 := by rw [hz]; exact base_sq p m
  have Hcmp := Lib.hid hcmp
  have HZ1 := HZ0
  rw [← hz] at HZ1 Lz
  have LZ := Lib.hid Lz
  have Hz := Lib.hid hz
  have h67 : g6 < g7 := by omega
  clear Lzz L1 hcmp Lz hz hg7
  have za := HZ1.out _ M6.out.w
  refine (asAgg (timesRZ_any z z _ _ _ za za (Nat.le_trans LZ.out (by omega)) (Nat.le_trans LZ.out (by omega)))).mono ?_
  rintro e W6 ⟨b8, A8, n8, c8, rfl, hz8, hb6⟩
  have hx6 : Ext W5 W6 := hb6
  have Z8 := Lib.hid hz8
  clear hb6 hz8 za c0 c1
  go_wp2_with fail
  refine (asAgg (wholeR_any 1 _ (by omega) (by omega))).mono ?_
  rintro e W7 ⟨b9, A9, n9, c9, rfl, hz9, hb7⟩
  have z8' := Z8.out.below hb7
  have hx7 : Ext W5 W7 := hx6.trans hb7
  have Z9 := Lib.hid (And.intro z8' hz9)
  clear hb7 hz9 z8' Z8 hx6
  go_wp2_with fail
  refine (orderRZ_any (z * z) 1 _ _ _ Z9.out.1 Z9.out.2 HL.out.1 HL.out.2).mono ?_
  rintro e W8 ⟨rfl, hb8⟩
  have hx8 : Ext W5 W8 := hx7.trans hb8
  obtain ⟨sg, hsg⟩ : ∃ s, s = (z * z - 1).sign := ⟨_, rfl⟩
  rw [← hsg] at Hcmp ⊢
  have M8 := Lib.hid (M6.out.ext hx8)
  have R8 := Lib.hid (R4.out.ext hx8)
  have R78 := Lib.hid (R7.out.ext hx8)
  have Z78 := Lib.hid (Z7.out.ext R7.out.lt hx8)
  have Hb8 := Lib.hid (Hb4.out.trans (Below.mono hx8 Hb4.out.size))
  clear hb8 hx8 hx7 hsg Z9 HL M6 R4 R7 Z7 Hb4
  obtain ⟨t, ht⟩ : ∃ t, t = timesN m k := ⟨_, rfl⟩
  have htk : t ≤ 10000 := by rw [ht]; exact Nat.le_trans (timesN_le m k) hk
  by_cases hm1 : m ≤ 1
  · have d3 : decide (sg ≤ 0) = true := by have := Hcmp.out.2 hm1; simpa using this
    have hmin : min (k : Int) (2 - (k : Int) % 2) = (t : Int) := by rw [ht]; unfold timesN; rw [if_pos hm1]; omega
    have Ht := Lib.hid ht
    clear ht
    go_wp2_with fail
    clear hmin d3 hm1
    go_loopw [35] (fun i wr => ∃ j : Nat, i = .int .i64 (j : Int) ∧ PowAt w wr (w.heap.size + 1) g6 g7 p A n c l m t j) (fun i _ => t - (intOf i).toNat)
    case atStart => exact ⟨0, rfl, M8.out, R8.out, R78.out, by rw [powZ_zero]; exact Z78.out, by rw [Nat.pow_zero, dig_pos (by omega), dig_zero]; simp, Hb8.out, Nat.zero_le _⟩
    case round =>
      obtain ⟨j, rfl, hrel⟩ := hrel
      have HR := Lib.hid hrel
      have hjt := hrel.j
      clear hrel
      obtain ⟨b10, A10, n10, c10, q0, q1, hz10⟩ := HR.out.z
      have Z10 := Lib.hid hz10
      clear hz10
      by_cases hj : j = t
      · subst hj
        have e1 : decide ((j : Int) < j) = false := by simp
        have hfit : (dig (m ^ k)).length ≤ 256 := by
          have := HR.out.len
          rwa [Ht.out, timesN_pow] at this
        have hA : powA p m k = powZ p m j := by unfold powA; rw [if_pos hfit, Ht.out, timesN_Z]
        have hX : powX m k = 0 := by unfold powX; rw [if_pos hfit]
        have HX := Lib.hid (And.intro hA hX)
        clear hA hX hfit
        go_wp2_with fail
        refine (int_any b10 A10 n10 c10 _).mono ?_
        rintro e w9 ⟨rfl, hb9⟩
        have hx9 : Ext wr w9 := hb9
        have R9 := HR.out.r1.ext hx9
        obtain ⟨_, _, _, _, g30, g31, g32, g33⟩ := R9.facts
        obtain ⟨W', hW', f1, f2, hzz, hbf⟩ := one_res (w := w) R9 b10 A10 n10 c10 (Z10.out.ext hx9) (HR.out.b.trans (Below.mono hx9 HR.out.b.size)) (by omega)
        rw [← HX.out.1] at hzz
        have HG := Lib.hid (And.intro hzz (And.intro hbf (And.intro f1 f2)))
        have HW' := Lib.hid hW'
        clear hzz hbf f1 f2 hW' R9 hx9 hb9
        go_wp2
        rw [← HW'.out]
        obtain ⟨hzz, hbf, f1, f2⟩ := HG.out
        exact bodyPost_ret (v := .tuple #[.agg #[.bool b10, .slice A10 n10 c10], .int .i64 0]) (by simp [results, Try.results43, go_sem, f1, f2]) rfl ⟨_, _, _, _, by rw [HX.out.2], hzz, hbf⟩
      · have e1 : decide ((j : Int) < t) = true := by simp; omega
        have c0 := HR.out.a.c0
        have c1 := HR.out.a.c1
        have za := HZ1.out _ HR.out.a.w
        have Lp : (dig (powZ p m j).natAbs).length ≤ 256 := by rw [powZ_abs]; exact HR.out.len
        have Za := Lib.hid (And.intro za Lp)
        clear za Lp
        go_wp2_with fail
        refine (asAgg (timesRZ_any (powZ p m j) z _ _ _ Z10.out Za.out.1 (Nat.le_trans Za.out.2 (by omega)) (Nat.le_trans LZ.out (by omega)))).mono ?_
        rintro e w9 ⟨b11, A11, n11, c11, rfl, hz11, hb9⟩
        rw [Hz.out, powZ_succ] at hz11
        have hx9 : Ext wr w9 := hb9
        have r7 := HR.out.r7.ext hx9
        obtain ⟨_, _, _, _, f0, f1, f2, f3⟩ := r7.facts
        have n6 := (HR.out.a.ext hx9).far r7 (by omega) (.bool b11) (.slice A11 n11 c11)
        have n1 := (HR.out.r1.ext hx9).far r7 (by omega) (.bool b11) (.slice A11 n11 c11)
        have n7 := r7.set b11 A11 n11 c11
        have nz := HZ.put r7 hz11
        have zz := hz11.rb r7 (.bool b11) (.slice A11 n11 c11)
        have cc0 := r7.set0 b11 (.slice A11 n11 c11)
        have cc1 := r7.set1 b11 (.slice A11 n11 c11)
        have hb10 := HR.out.b.trans (Below.mono hx9 HR.out.b.size)
        have hbf := below_set2 (g := g7) (i := 0) (j := 1) hb10 (by omega) (.bool b11) (.slice A11 n11 c11)
        have HN := Lib.hid (And.intro n6 (And.intro n1 (And.intro n7 (And.intro nz (And.intro zz hbf)))))
        clear n6 n1 n7 nz zz hbf hb10 r7 hx9 hb9 hz11 q0 q1 c0 c1
        go_wp2_with fail
        generalize ((w9.setCell ⟨g7, 0, none⟩ (.bool b11)).setCell ⟨g7, 1, none⟩ (.slice A11 n11 c11)) = w10 at *
        obtain ⟨n6, n1, n7, nz, zz, hbf⟩ := HN.out
        refine (fitsR_any (powZ p m (j + 1)) _ _ zz).mono ?_
        rintro e w11 ⟨rfl, hb11⟩
        rw [powZ_abs]
        have hx11 : Ext w10 w11 := hb11
        have HN2 := Lib.hid (And.intro (n6.ext hx11) (And.intro (n1.ext hx11) (And.intro (n7.ext hx11) (And.intro (nz.ext n7.lt hx11) (hbf.trans (Below.mono hx11 hbf.size))))))
        clear n6 n1 n7 nz zz hbf hx11 hb11 HN f0 f1 f2 f3 cc0 cc1
        by_cases hfit : (dig (m ^ (j + 1))).length ≤ 256
        · have e2 : decide ((dig (m ^ (j + 1))).length ≤ 256) = true := by simpa using hfit
          rw [e2]
          have Hfit := Lib.hid hfit
          clear e2 hfit
          go_wp2
          go_roundw
          case rel => exact ⟨j + 1, by simp, HN2.out.1, HN2.out.2.1, HN2.out.2.2.1, HN2.out.2.2.2.1, Hfit.out, HN2.out.2.2.2.2, by omega⟩
          case measure => simp [intOf]; omega
        · have e2 : decide ((dig (m ^ (j + 1))).length ≤ 256) = false := by simpa using hfit
          rw [e2]
          have hfar : 256 < (dig (m ^ k)).length := pow_far (j := j) (by rw [← Ht.out]; omega) (by omega)
          have hA : powA p m k = 0 := by unfold powA; rw [if_neg (by omega)]
          have hX : powX m k = 5 := by unfold powX; rw [if_neg (by omega)]
          have HX := Lib.hid hX
          obtain ⟨_, _, _, _, g30, g31, g32, g33⟩ := HN2.out.2.1.facts
          obtain ⟨W', hW', f1, f2, hzz, hbf⟩ := one_res (w := w) HN2.out.2.1 false none 0 0 (zv_nil w11) HN2.out.2.2.2.2 (by omega)
          rw [← hA] at hzz
          have HG := Lib.hid (And.intro hzz (And.intro hbf (And.intro f1 f2)))
          have HW' := Lib.hid hW'
          clear hzz hbf f1 f2 hW' hA hX hfar e2 hfit
          go_wp2
          rw [← HW'.out]
          obtain ⟨hzz, hbf, f1, f2⟩ := HG.out
          exact bodyPost_ret (v := .tuple #[.agg #[.bool false, .slice none 0 0], .int .i64 5]) (by simp [results, Try.results43, go_sem, f1, f2]) rfl ⟨_, _, _, _, by rw [HX.out], hzz, hbf⟩
  · have d3 : decide (sg ≤ 0) = false := by have := fun h => hm1 (Hcmp.out.1 h); simpa using this
    have hkt : k = t := by rw [ht]; unfold timesN; rw [if_neg hm1]
    have Ht := Lib.hid ht
    have Hkt := Lib.hid hkt
    clear ht hkt
    go_wp2_with fail
    clear d3 hm1
    try rw [show (k : Int) = (t : Int) by rw [← Hkt.out]]
    go_loopw [35] (fun i wr => ∃ j : Nat, i = .int .i64 (j : Int) ∧ PowAt w wr (w.heap.size + 1) g6 g7 p A n c l m t j) (fun i _ => t - (intOf i).toNat)
    case atStart => exact ⟨0, rfl, M8.out, R8.out, R78.out, by rw [powZ_zero]; exact Z78.out, by rw [Nat.pow_zero, dig_pos (by omega), dig_zero]; simp, Hb8.out, Nat.zero_le _⟩
    case round =>
      obtain ⟨j, rfl, hrel⟩ := hrel
      have HR := Lib.hid hrel
      have hjt := hrel.j
      clear hrel
      obtain ⟨b10, A10, n10, c10, q0, q1, hz10⟩ := HR.out.z
      have Z10 := Lib.hid hz10
      clear hz10
      by_cases hj : j = t
      · subst hj
        have e1 : decide ((j : Int) < j) = false := by simp
        have hfit : (dig (m ^ k)).length ≤ 256 := by
          have := HR.out.len
          rwa [Ht.out, timesN_pow] at this
        have hA : powA p m k = powZ p m j := by unfold powA; rw [if_pos hfit, Ht.out, timesN_Z]
        have hX : powX m k = 0 := by unfold powX; rw [if_pos hfit]
        have HX := Lib.hid (And.intro hA hX)
        clear hA hX hfit
        go_wp2_with fail
        refine (int_any b10 A10 n10 c10 _).mono ?_
        rintro e w9 ⟨rfl, hb9⟩
        have hx9 : Ext wr w9 := hb9
        have R9 := HR.out.r1.ext hx9
        obtain ⟨_, _, _, _, g30, g31, g32, g33⟩ := R9.facts
        obtain ⟨W', hW', f1, f2, hzz, hbf⟩ := one_res (w := w) R9 b10 A10 n10 c10 (Z10.out.ext hx9) (HR.out.b.trans (Below.mono hx9 HR.out.b.size)) (by omega)
        rw [← HX.out.1] at hzz
        have HG := Lib.hid (And.intro hzz (And.intro hbf (And.intro f1 f2)))
        have HW' := Lib.hid hW'
        clear hzz hbf f1 f2 hW' R9 hx9 hb9
        go_wp2
        rw [← HW'.out]
        obtain ⟨hzz, hbf, f1, f2⟩ := HG.out
        exact bodyPost_ret (v := .tuple #[.agg #[.bool b10, .slice A10 n10 c10], .int .i64 0]) (by simp [results, Try.results43, go_sem, f1, f2]) rfl ⟨_, _, _, _, by rw [HX.out.2], hzz, hbf⟩
      · have e1 : decide ((j : Int) < t) = true := by simp; omega
        have c0 := HR.out.a.c0
        have c1 := HR.out.a.c1
        have za := HZ1.out _ HR.out.a.w
        have Lp : (dig (powZ p m j).natAbs).length ≤ 256 := by rw [powZ_abs]; exact HR.out.len
        have Za := Lib.hid (And.intro za Lp)
        clear za Lp
        go_wp2_with fail
        refine (asAgg (timesRZ_any (powZ p m j) z _ _ _ Z10.out Za.out.1 (Nat.le_trans Za.out.2 (by omega)) (Nat.le_trans LZ.out (by omega)))).mono ?_
        rintro e w9 ⟨b11, A11, n11, c11, rfl, hz11, hb9⟩
        rw [Hz.out, powZ_succ] at hz11
        have hx9 : Ext wr w9 := hb9
        have r7 := HR.out.r7.ext hx9
        obtain ⟨_, _, _, _, f0, f1, f2, f3⟩ := r7.facts
        have n6 := (HR.out.a.ext hx9).far r7 (by omega) (.bool b11) (.slice A11 n11 c11)
        have n1 := (HR.out.r1.ext hx9).far r7 (by omega) (.bool b11) (.slice A11 n11 c11)
        have n7 := r7.set b11 A11 n11 c11
        have nz := HZ.put r7 hz11
        have zz := hz11.rb r7 (.bool b11) (.slice A11 n11 c11)
        have cc0 := r7.set0 b11 (.slice A11 n11 c11)
        have cc1 := r7.set1 b11 (.slice A11 n11 c11)
        have hb10 := HR.out.b.trans (Below.mono hx9 HR.out.b.size)
        have hbf := below_set2 (g := g7) (i := 0) (j := 1) hb10 (by omega) (.bool b11) (.slice A11 n11 c11)
        have HN := Lib.hid (And.intro n6 (And.intro n1 (And.intro n7 (And.intro nz (And.intro zz hbf)))))
        clear n6 n1 n7 nz zz hbf hb10 r7 hx9 hb9 hz11 q0 q1 c0 c1
        go_wp2_with fail
        generalize ((w9.setCell ⟨g7, 0, none⟩ (.bool b11)).setCell ⟨g7, 1, none⟩ (.slice A11 n11 c11)) = w10 at *
        obtain ⟨n6, n1, n7, nz, zz, hbf⟩ := HN.out
        refine (fitsR_any (powZ p m (j + 1)) _ _ zz).mono ?_
        rintro e w11 ⟨rfl, hb11⟩
        rw [powZ_abs]
        have hx11 : Ext w10 w11 := hb11
        have HN2 := Lib.hid (And.intro (n6.ext hx11) (And.intro (n1.ext hx11) (And.intro (n7.ext hx11) (And.intro (nz.ext n7.lt hx11) (hbf.trans (Below.mono hx11 hbf.size))))))
        clear n6 n1 n7 nz zz hbf hx11 hb11 HN f0 f1 f2 f3 cc0 cc1
        by_cases hfit : (dig (m ^ (j + 1))).length ≤ 256
        · have e2 : decide ((dig (m ^ (j + 1))).length ≤ 256) = true := by simpa using hfit
          rw [e2]
          have Hfit := Lib.hid hfit
          clear e2 hfit
          go_wp2
          go_roundw
          case rel => exact ⟨j + 1, by simp, HN2.out.1, HN2.out.2.1, HN2.out.2.2.1, HN2.out.2.2.2.1, Hfit.out, HN2.out.2.2.2.2, by omega⟩
          case measure => simp [intOf]; omega
        · have e2 : decide ((dig (m ^ (j + 1))).length ≤ 256) = false := by simpa using hfit
          rw [e2]
          have hfar : 256 < (dig (m ^ k)).length := pow_far (j := j) (by rw [← Ht.out]; omega) (by omega)
          have hA : powA p m k = 0 := by unfold powA; rw [if_neg (by omega)]
          have hX : powX m k = 5 := by unfold powX; rw [if_neg (by omega)]
          have HX := Lib.hid hX
          obtain ⟨_, _, _, _, g30, g31, g32, g33⟩ := HN2.out.2.1.facts
          obtain ⟨W', hW', f1, f2, hzz, hbf⟩ := one_res (w := w) HN2.out.2.1 false none 0 0 (zv_nil w11) HN2.out.2.2.2.2 (by omega)
          rw [← hA] at hzz
          have HG := Lib.hid (And.intro hzz (And.intro hbf (And.intro f1 f2)))
          have HW' := Lib.hid hW'
          clear hzz hbf f1 f2 hW' hA hX hfar e2 hfit
          go_wp2
          rw [← HW'.out]
          obtain ⟨hzz, hbf, f1, f2⟩ := HG.out
          exact bodyPost_ret (v := .tuple #[.agg #[.bool false, .slice none 0 0], .int .i64 5]) (by simp [results, Try.results43, go_sem, f1, f2]) rfl ⟨_, _, _, _, by rw [HX.out], hzz, hbf⟩
end Go.Proofs.Ytmlopkkbgpfdnaa
