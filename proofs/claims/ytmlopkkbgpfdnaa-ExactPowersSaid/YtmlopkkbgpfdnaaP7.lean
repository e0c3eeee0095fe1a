/- Walks: exact.Pow, right arguments. -/
import Derived.Test.YtmlopkkbgpfdnaaP6
namespace Go.Proofs.Ytmlopkkbgpfdnaa
open Go.RowKit

/-- Pow's answer -/
def powA (p : Bool) (m k : Nat) : Int := if (dig (m ^ k)).length ≤ 256 then powZ p m k else 0
def powX (m k : Nat) : Int := if (dig (m ^ k)).length ≤ 256 then 0 else 5

set_option maxHeartbeats 1600000 in
set_option maxRecDepth 100000 in
theorem exactPow_yes (p : Bool) (A : Option Addr) (n c : Nat) (l : List Nat) (k : Nat) (w : World) (hx : Wd w (.slice A n c) l) (hv : vld p l = true) (hk : k ≤ 10000) :
    Calls Try.prog 42 #[.agg #[.bool p, .slice A n c], .int .i64 (k : Int)] w (RetE w (powA p (val l) k) (powX (val l) k)) := by
  have hd : dig (val l) = l := dig_val hx.ok (vld_norm hv)
  have hl := vld_len hv
  obtain ⟨m, hm⟩ : ∃ m, m = val l := ⟨_, rfl⟩
  rw [← hm] at hd ⊢
  clear hm
  obtain ⟨W0, hW0, hH1, hR, h5, hb, z0⟩ := three_hw 24 w p A n c l hx
  have HW0 := Lib.hid hW0; clear hW0
  have HF := Lib.hid (And.intro hH1 (And.intro hR (And.intro h5 (And.intro hb z0))))
  clear hH1 hR h5 hb z0 hx
  have Hv := Lib.hid hv; clear hv
  have HD := Lib.hid (And.intro hd hl); clear hd hl
  have d1 : decide ((k : Int) < 0) = false := by simp
  have d2 : decide ((10000 : Int) < k) = false := by simp; omega
  go_enter Try.func42, Try.ntmps42
  go_wp2_with fail
  rw [← HW0.out]
  obtain ⟨hH1, hR, h5, hb, z0⟩ := HF.out
  clear HF
  refine (allValid_one p A n c l _ _ h5 hH1.w).mono ?_
  rintro e W1 ⟨rfl, hb1⟩
  rw [Hv.out]
  have hx1 : Ext W0 W1 := hb1
  have H1 := Lib.hid (hH1.ext hx1)
  have k1 := H1.out.c0
  have k2 := H1.out.c1
  have R := Lib.hid (hR.ext hx1)
  have Hb := Lib.hid (hb.trans (Below.mono hx1 hb.size))
  have z1 : w.heap.size + 2 ≤ W1.heap.size := by have := hx1.size; omega
  clear hH1 hR h5 hb z0 hb1 hx1 HW0 W0
  go_wp2_with fail
  refine (wholeOf_any p A n c _).mono ?_
  rintro e W2 ⟨rfl, hb2⟩
  have hx2 : Ext W1 W2 := hb2
  have x3 : Ext W2 (W2.alloc (Obj.cells #[.bool p, .slice A n c] 60)) := (Ext.refl W2).alc _
  have hw := ((H1.out.ext hx2).w)
  have m6 := HW.new W2 p A n c l 60 hw
  have R2 := Lib.hid ((R.out.ext hx2).ext x3)
  have hb02 := Hb.out.trans (Below.mono hx2 Hb.out.size)
  have Hb2 := Lib.hid (hb02.trans (Below.mono x3 hb02.size))
  have c0 := m6.c0
  have c1 := m6.c1
  have hw3 := m6.w
  rw [← HD.out.1] at hw3
  have Hw := Lib.hid hw3
  clear hb2 hx2 hw m6 x3 hb02 hw3 k1 k2 H1 R Hb
  obtain ⟨b, hbb⟩ : ∃ b, b = bitsN m := ⟨_, rfl⟩
  have hb8 : b ≤ 8192 := by rw [hbb]; have := bitsN_bound (x := m) (k := 256) (by rw [HD.out.1]; exact HD.out.2); omega
  obtain ⟨d, hdd⟩ : ∃ d, d = ((b : Int) - 1) * (k : Int) := ⟨_, rfl⟩
  have hd1 : d < 81940000 ∧ -10001 < d := by
    rw [hdd, Int.sub_mul, ← Int.natCast_mul, Int.one_mul]
    have : b * k ≤ 8192 * 10000 := Nat.mul_le_mul hb8 hk
    omega
  have hwd : wrap64 (((b : Int) - 1) * (k : Int)) = d := by rw [← hdd]; unfold wrap64; omega
  have hbig : 8192 ≤ d → 256 < (dig (m ^ k)).length := fun h => pow_big (by rw [← hbb, ← hdd]; exact h)
  have hsml : d < 8192 → (dig (m ^ k)).length ≤ 1000000 := fun h => pow_len (by rw [← hbb, ← hdd]; exact h) hk
  have Hbig := Lib.hid hbig
  have Hsml := Lib.hid hsml
  have Hwd := Lib.hid hwd
  have Hdd := Lib.hid hdd
  have Hbb := Lib.hid hbb
  clear hbig hsml hdd hbb hwd
  go_wp2_with fail
  refine (bitsE_any m _ _ Hw.out (by rw [HD.out.1]; have := HD.out.2; omega)).mono ?_
  rintro e W4 ⟨rfl, rfl⟩
  rw [← Hbb.out]
  have hwI : ∀ t : Bool, decide (8192 ≤ d) = t → decide (8192 ≤ wrap64 (((b : Int) - 1) * (k : Int))) = t := fun t h => by rw [Hwd.out]; exact h
  by_cases hc : 8192 ≤ d
  · have e0 := hwI true (by simpa using hc)
    have hlen := Hbig.out hc
    have hA : powA p m k = 0 := by unfold powA; rw [if_neg (by omega)]
    have hX : powX m k = 5 := by unfold powX; rw [if_neg (by omega)]
    obtain ⟨_, _, _, _, g30, g31, g32, g33⟩ := R2.out.facts
    obtain ⟨W', hW', f1, f2, hzz, hbf⟩ := one_res (w := w) R2.out false none 0 0 (zv_nil _) Hb2.out (by omega)
    rw [← hA] at hzz
    have HX := Lib.hid hX
    have HG := Lib.hid (And.intro hzz (And.intro hbf (And.intro f1 f2)))
    have HW' := Lib.hid hW'
    clear hzz hbf f1 f2 hW' R2 hlen hA hX hwI hc hd1
    go_wp2
    rw [← HW'.out]
    obtain ⟨hzz, hbf, f1, f2⟩ := HG.out
    exact bodyPost_ret (v := .tuple #[.agg #[.bool false, .slice none 0 0], .int .i64 5]) (by simp [results, Try.results42, go_sem, f1, f2]) rfl ⟨_, _, _, _, by rw [HX.out], hzz, hbf⟩
  · have e0 := hwI false (by simpa using hc)
    have hlen := Hsml.out (by omega)
    have Hlen := Lib.hid hlen
    clear hlen hwI hc hd1 Hbig Hsml
    obtain ⟨s, hs⟩ : ∃ s, s = decide (k % 2 = 1) := ⟨_, rfl⟩
    have es : ((k : Int) % 2 == 1) = s := by
      rw [hs, Bool.eq_iff_iff]
      simp
      omega
    have hZ : powZ p m k = if (p && s) = true then -((m ^ k : Nat) : Int) else ((m ^ k : Nat) : Int) := by unfold powZ; rw [← hs]
    have HZ' := Lib.hid hZ
    clear hZ hs
    generalize (W2.alloc (Obj.cells #[.bool p, .slice A n c] 60)) = W5 at *
    obtain ⟨g6, hg6⟩ : ∃ g, g = W2.heap.size := ⟨_, rfl⟩
    rw [← hg6] at c0 c1 ⊢
    clear hg6
    cases p
    case false =>
      go_wp2_with fail
      refine (asSlice (powerE_any m k _ _ Hw.out (by rw [HD.out.1]; have := HD.out.2; omega) (by omega) Hlen.out)).mono ?_
      rintro e w6 ⟨A6, n6, c6, rfl, h6, hb6⟩
      have hx6 : Ext W5 w6 := hb6
      have hn6 : n6 ≤ 9223372036854775807 := by rw [h6.len]; exact Nat.le_trans Hlen.out (by decide)
      have hsg := fun q W => signed_any q A6 n6 c6 W hn6
      have Hsg := Lib.hid hsg
      have H6 := Lib.hid h6
      have R6 := Lib.hid (R2.out.ext hx6)
      have Hb6 := Lib.hid (Hb2.out.trans (Below.mono hx6 Hb2.out.size))
      clear hx6 hb6 h6 hn6 hsg
      go_wp2_with fail
      refine (Hsg.out _ _).mono ?_
      rintro e w7 ⟨rfl, hb7⟩
      have hx7 : Ext w6 w7 := hb7
      have hz := zv_signed (s := false) (H6.out.below hb7)
      have R7 := Lib.hid (R6.out.ext hx7)
      have Hb7 := Lib.hid (Hb6.out.trans (Below.mono hx7 Hb6.out.size))
      rw [show (if (false : Bool) = true then -((m ^ k : Nat) : Int) else ((m ^ k : Nat) : Int)) = powZ false m k from by rw [HZ'.out]; rfl] at hz
      have Hz := Lib.hid hz
      clear hx7 hb7 hz
      go_wp2_with fail
      by_cases hfit : (dig (m ^ k)).length ≤ 256
      · have hA : powA false m k = powZ false m k := by unfold powA; rw [if_pos hfit]
        have hX : powX m k = 0 := by unfold powX; rw [if_pos hfit]
        refine (fitInt_yes (powZ false m k) _ _ Hz.out (by rw [powZ_abs]; exact hfit)).mono ?_
        rintro e w8 ⟨b8, A8, n8, c8, rfl, hz8, hb8'⟩
        have hx8 : Ext w7 w8 := hb8'
        have R8 := R7.out.ext hx8
        obtain ⟨_, _, _, _, g30, g31, g32, g33⟩ := R8.facts
        obtain ⟨W', hW', f1, f2, hzz, hbf⟩ := one_res (w := w) R8 b8 A8 n8 c8 hz8 (Hb7.out.trans (Below.mono hx8 Hb7.out.size)) (by omega)
        rw [← hA] at hzz
        have HG := Lib.hid (And.intro hzz (And.intro hbf (And.intro f1 f2)))
        have HW' := Lib.hid hW'
        have HX := Lib.hid hX
        clear hzz hbf f1 f2 hW' R8 hx8 hb8' hz8 hA hX hfit
        go_wp2
        rw [← HW'.out]
        obtain ⟨hzz, hbf, f1, f2⟩ := HG.out
        exact bodyPost_ret (v := .tuple #[.agg #[.bool b8, .slice A8 n8 c8], .int .i64 0]) (by simp [results, Try.results42, go_sem, f1, f2]) rfl ⟨_, _, _, _, by rw [HX.out], hzz, hbf⟩
      · have hA : powA false m k = 0 := by unfold powA; rw [if_neg hfit]
        have hX : powX m k = 5 := by unfold powX; rw [if_neg hfit]
        refine (fitInt_no (powZ false m k) _ _ Hz.out (by rw [powZ_abs]; omega)).mono ?_
        rintro e w8 ⟨rfl, hb8'⟩
        have hx8 : Ext w7 w8 := hb8'
        have R8 := R7.out.ext hx8
        obtain ⟨_, _, _, _, g30, g31, g32, g33⟩ := R8.facts
        obtain ⟨W', hW', f1, f2, hzz, hbf⟩ := one_res (w := w) R8 false none 0 0 (zv_nil w8) (Hb7.out.trans (Below.mono hx8 Hb7.out.size)) (by omega)
        rw [← hA] at hzz
        have HG := Lib.hid (And.intro hzz (And.intro hbf (And.intro f1 f2)))
        have HW' := Lib.hid hW'
        have HX := Lib.hid hX
        clear hzz hbf f1 f2 hW' R8 hx8 hb8' hA hX hfit
        go_wp2
        rw [← HW'.out]
        obtain ⟨hzz, hbf, f1, f2⟩ := HG.out
        exact bodyPost_ret (v := .tuple #[.agg #[.bool false, .slice none 0 0], .int .i64 5]) (by simp [results, Try.results42, go_sem, f1, f2]) rfl ⟨_, _, _, _, by rw [HX.out], hzz, hbf⟩
    case true =>
      go_wp2_with fail
      refine (asSlice (powerE_any m k _ _ Hw.out (by rw [HD.out.1]; have := HD.out.2; omega) (by omega) Hlen.out)).mono ?_
      rintro e w6 ⟨A6, n6, c6, rfl, h6, hb6⟩
      have hx6 : Ext W5 w6 := hb6
      have hn6 : n6 ≤ 9223372036854775807 := by rw [h6.len]; exact Nat.le_trans Hlen.out (by decide)
      have hsg := fun q W => signed_any q A6 n6 c6 W hn6
      have Hsg := Lib.hid hsg
      have H6 := Lib.hid h6
      have R6 := Lib.hid (R2.out.ext hx6)
      have Hb6 := Lib.hid (Hb2.out.trans (Below.mono hx6 Hb2.out.size))
      clear hx6 hb6 h6 hn6 hsg
      go_wp2_with fail
      refine (Hsg.out _ _).mono ?_
      rintro e w7 ⟨rfl, hb7⟩
      have hx7 : Ext w6 w7 := hb7
      have hz := zv_signed (s := s) (H6.out.below hb7)
      have R7 := Lib.hid (R6.out.ext hx7)
      have Hb7 := Lib.hid (Hb6.out.trans (Below.mono hx7 Hb6.out.size))
      rw [show (if (s : Bool) = true then -((m ^ k : Nat) : Int) else ((m ^ k : Nat) : Int)) = powZ true m k from by rw [HZ'.out]; rfl] at hz
      have Hz := Lib.hid hz
      clear hx7 hb7 hz
      go_wp2_with fail
      by_cases hfit : (dig (m ^ k)).length ≤ 256
      · have hA : powA true m k = powZ true m k := by unfold powA; rw [if_pos hfit]
        have hX : powX m k = 0 := by unfold powX; rw [if_pos hfit]
        refine (fitInt_yes (powZ true m k) _ _ Hz.out (by rw [powZ_abs]; exact hfit)).mono ?_
        rintro e w8 ⟨b8, A8, n8, c8, rfl, hz8, hb8'⟩
        have hx8 : Ext w7 w8 := hb8'
        have R8 := R7.out.ext hx8
        obtain ⟨_, _, _, _, g30, g31, g32, g33⟩ := R8.facts
        obtain ⟨W', hW', f1, f2, hzz, hbf⟩ := one_res (w := w) R8 b8 A8 n8 c8 hz8 (Hb7.out.trans (Below.mono hx8 Hb7.out.size)) (by omega)
        rw [← hA] at hzz
        have HG := Lib.hid (And.intro hzz (And.intro hbf (And.intro f1 f2)))
        have HW' := Lib.hid hW'
        have HX := Lib.hid hX
        clear hzz hbf f1 f2 hW' R8 hx8 hb8' hz8 hA hX hfit
        go_wp2
        rw [← HW'.out]
        obtain ⟨hzz, hbf, f1, f2⟩ := HG.out
        exact bodyPost_ret (v := .tuple #[.agg #[.bool b8, .slice A8 n8 c8], .int .i64 0]) (by simp [results, Try.results42, go_sem, f1, f2]) rfl ⟨_, _, _, _, by rw [HX.out], hzz, hbf⟩
      · have hA : powA true m k = 0 := by unfold powA; rw [if_neg hfit]
        have hX : powX m k = 5 := by unfold powX; rw [if_neg hfit]
        refine (fitInt_no (powZ true m k) _ _ Hz.out (by rw [powZ_abs]; omega)).mono ?_
        rintro e w8 ⟨rfl, hb8'⟩
        have hx8 : Ext w7 w8 := hb8'
        have R8 := R7.out.ext hx8
        obtain ⟨_, _, _, _, g30, g31, g32, g33⟩ := R8.facts
        obtain ⟨W', hW', f1, f2, hzz, hbf⟩ := one_res (w := w) R8 false none 0 0 (zv_nil w8) (Hb7.out.trans (Below.mono hx8 Hb7.out.size)) (by omega)
        rw [← hA] at hzz
        have HG := Lib.hid (And.intro hzz (And.intro hbf (And.intro f1 f2)))
        have HW' := Lib.hid hW'
        have HX := Lib.hid hX
        clear hzz hbf f1 f2 hW' R8 hx8 hb8' hA hX hfit
        go_wp2
        rw [← HW'.out]
        obtain ⟨hzz, hbf, f1, f2⟩ := HG.out
        exact bodyPost_ret (v := .tuple #[.agg #[.bool false, .slice none 0 0], .int .i64 5]) (by simp [results, Try.results42, go_sem, f1, f2]) rfl ⟨_, _, _, _, by rw [HX.out], hzz, hbf⟩
end Go.Proofs.Ytmlopkkbgpfdnaa
