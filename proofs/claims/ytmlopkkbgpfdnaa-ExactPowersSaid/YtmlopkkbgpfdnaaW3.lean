/- Walks: minus. -/
import Derived.Test.YtmlopkkbgpfdnaaW2
import Derived.Laws.BitsAllLaws
import Derived.Deep.QuietTactic
import Derived.BigQuiet
import Derived.Deep.RegionWith
import Derived.StillTailTactics
import Derived.BigRegion
namespace Go.Proofs.Ytmlopkkbgpfdnaa
open Go.RowKit

theorem top_bit (n : Nat) (h : n < 4294967296) : n / 2147483648 = if n.testBit 31 then 1 else 0 := by
  rw [Nat.testBit_eq_decide_div_mod_eq]
  have : n / 2147483648 < 2 := by omega
  by_cases h1 : n / 2147483648 = 1
  · simp [h1]
  · rw [if_neg (by simp; omega)]; omega

theorem sub_borrow_nat (a b c d : Nat) (ha : a < 4294967296) (hb : b < 4294967296) (hc : c ≤ 1) (hd : d = (a + 4294967296 - b - c) % 4294967296) :
    (((4294967295 ^^^ a) &&& b) ||| ((4294967295 ^^^ (a ^^^ b)) &&& d)) / 2147483648 = if a < b + c then 1 else 0 := by
  have hd' : d < 4294967296 := by omega
  have m : (4294967295 : Nat) < 2 ^ 32 := by decide
  rw [top_bit _ (Nat.or_lt_two_pow (n := 32) (Nat.and_lt_two_pow (n := 32) _ hb) (Nat.and_lt_two_pow (n := 32) _ hd'))]
  simp only [Nat.testBit_or, Nat.testBit_and, Nat.testBit_xor]
  rw [show Nat.testBit 4294967295 31 = true from by decide]
  simp only [Nat.testBit_eq_decide_div_mod_eq]
  have e : (2 : Nat) ^ 31 = 2147483648 := by decide
  rw [e]
  rcases (by omega : a / 2147483648 % 2 = 0 ∨ a / 2147483648 % 2 = 1) with h1 | h1 <;>
  rcases (by omega : b / 2147483648 % 2 = 0 ∨ b / 2147483648 % 2 = 1) with h2 | h2 <;>
  rcases (by omega : d / 2147483648 % 2 = 0 ∨ d / 2147483648 % 2 = 1) with h3 | h3 <;>
  simp [h1, h2, h3] <;> omega

theorem max_u32 : IntKind.u32.max = ((4294967295 : Nat) : Int) := by decide

theorem sub_borrow (a b c : Nat) (ha : a < 4294967296) (hb : b < 4294967296) (hc : c ≤ 1) :
    bits BinOp.or IntKind.u32 (bits BinOp.and IntKind.u32 (bits BinOp.xor IntKind.u32 IntKind.u32.max ↑a) ↑b)
              (bits BinOp.and IntKind.u32
                (bits BinOp.xor IntKind.u32 IntKind.u32.max (bits BinOp.xor IntKind.u32 ↑a ↑b))
                (((a : Int) - ↑b - ↑c) % 4294967296)) /
            2147483648 = ((if a < b + c then 1 else 0 : Nat) : Int) := by
  have hd : ((a : Int) - ↑b - ↑c) % 4294967296 = (((a + 4294967296 - b - c) % 4294967296 : Nat) : Int) := by omega
  rw [hd, max_u32]
  have xl : ∀ x y : Nat, x < 4294967296 → y < 4294967296 → x ^^^ y < 4294967296 := fun x y h h' => Nat.xor_lt_two_pow (n := 32) h h'
  have al : ∀ x y : Nat, y < 4294967296 → x &&& y < 4294967296 := fun x y h' => Nat.and_lt_two_pow (n := 32) x h'
  rw [u32_xor_nat _ _ (by omega) ha, u32_xor_nat _ _ ha hb, u32_xor_nat _ _ (by omega) (xl _ _ ha hb), u32_and_nat _ _ (xl _ _ (by omega) ha) hb,
    u32_and_nat _ _ (xl _ _ (by omega) (xl _ _ ha hb)) (by omega), u32_or_nat _ _ (al _ _ hb) (al _ _ (by omega)), ← sub_borrow_nat a b c _ ha hb hc rfl]
  omega

set_option maxRecDepth 100000 in
theorem sub32_any (a b c : Nat) (ha : a < 4294967296) (hb : b < 4294967296) (hc : c ≤ 1) (w : World) :
    Calls Try.prog 107 #[.int .u32 a, .int .u32 b, .int .u32 c] w fun e w' =>
      e = .returned (.tuple #[.int .u32 ((a + 4294967296 - b - c) % 4294967296 : Nat), .int .u32 ((if a < b + c then 1 else 0 : Nat) : Int)]) ∧ w = w' := by
  have H := sub_borrow a b c ha hb hc
  obtain ⟨r, hr⟩ : ∃ r : Nat, r = if a < b + c then 1 else 0 := ⟨_, rfl⟩
  rw [← hr] at H ⊢
  clear hr
  go_enter Try.func107, Try.ntmps107
  go_wp2
  go_ret2
  exact ⟨by simp; omega, rfl⟩

set_option maxRecDepth 100000 in
/-- exact minus -/
theorem minusE_any (x y : Nat) (u v : Value) (w : World) (hx : Wd w u (dig x)) (hy : Wd w v (dig y)) (lx : (dig x).length ≤ 1000000) (hyx : y ≤ x) :
    Calls Try.prog 88 #[u, v] w fun e w' => ∃ r, e = .returned r ∧ Wd w' r (dig (x - y)) ∧ Below w.heap.size w w' := by
  have Hx := Lib.hid hx
  have Hy := Lib.hid hy
  have Hyx := Lib.hid hyx; clear hyx
  obtain ⟨A, c, rfl, -, -, -, hcx⟩ := hx
  obtain ⟨n, hn⟩ : ∃ n, n = (dig x).length := ⟨_, rfl⟩
  rw [← hn] at lx Hx hcx ⊢
  have Hn := Lib.hid hn; clear hn
  have hmk : ∀ w, (Instr.makeSlice 58 (.int .i64 (n : Int)) (.int .i64 (n : Int))).run Try.prog w = .ok (.slice (some ⟨w.heap.size, 0, none⟩) n n) (w.alloc (.cells (U32s (zeros n)) 66)) := fun w => make_u32 58 Try.underlying58 n (by omega) w
  have HC := Lib.hid hcx; clear hcx
  go_enter Try.func88, Try.ntmps88
  go_wp2_with fail
  go_loopw [6, 13] (fun cr i wr => ∃ (k cv : Nat) (L : List Nat), i = .int .i64 k ∧ k ≤ n ∧ cr = .int .u32 cv ∧ cv ≤ 1 ∧ L.length = n ∧ Ok L ∧ Blk wr w.heap.size L ∧ Below w.heap.size w wr ∧
      val (L.take k) + y % 4294967296 ^ k = x % 4294967296 ^ k + 4294967296 ^ k * cv) (fun _ i _ => n - (intOf i).toNat)
  case atStart => exact ⟨0, 0, zeros n, rfl, Nat.zero_le _, rfl, by omega, zeros_length _, zeros_ok _, heap_alloc_new w _, below_alloc _ _, by simp [val, Nat.mod_one]⟩
  case round =>
    obtain ⟨k, cv, L, rfl, hk, rfl, hcv, hL, hok, hblk, hbel, hval⟩ := hrel
    have HV := Lib.hid hval; clear hval
    have HL := Lib.hid hL; clear hL
    have HY : Wd wr v (dig y) := Hy.out.below hbel
    by_cases hlt : k < n
    · have hfr := hblk.frozen k
      have hce := hblk.cell (i := k) (by rw [HL.out]; omega)
      have hB := Lib.hid hblk; clear hblk
      obtain ⟨b, off, rfl, hb, hc⟩ := HC.out (by omega)
      have hxk : wr.cell? ⟨b, off + k, none⟩ = some (.int .u32 (dg x k : Nat)) := by
        rw [hbel.cell (p := ⟨b, off + k, none⟩) hb, hc k hlt, dig_dg]
      clear HC
      have HCC := Lib.hid hc; clear hc
      obtain ⟨lo, hlo⟩ : ∃ lo, lo = (dg x k + 4294967296 - dg y k - cv) % 4294967296 := ⟨_, rfl⟩
      obtain ⟨hi, hhi⟩ : ∃ hi, hi = (if dg x k < dg y k + cv then 1 else 0) := ⟨_, rfl⟩
      have hhi1 : hi ≤ 1 := by rw [hhi]; split <;> omega
      have hlo1 : lo < 4294967296 := by rw [hlo]; omega
      have es : ∀ w : World, Calls Try.prog 107 #[.int .u32 (dg x k : Nat), .int .u32 (dg y k : Nat), .int .u32 cv] w fun e w' => e = .returned (.tuple #[.int .u32 lo, .int .u32 hi]) ∧ w = w' := fun w => by
        have := sub32_any _ _ _ (dg_lt x k) (dg_lt y k) hcv w
        rwa [← hlo, ← hhi] at this
      have ES := Lib.hid es; clear es
      have Hlo := Lib.hid hlo; clear hlo
      have Hhi := Lib.hid hhi; clear hhi
      go_wp2_with fail
      go_region_with (first
        | (go_at_call 85; refine (word_dig v y k _ (by exact HY)).mono ?_; rintro e w' ⟨rfl, rfl⟩)
        | (go_at_call 107; refine (ES.out _).mono ?_; rintro e w' ⟨rfl, rfl⟩))
      all_goals go_wp2
      all_goals
        go_roundw
        case rel =>
          refine ⟨k + 1, hi, L.set k lo, by go_num, by omega, rfl, hhi1, by rw [List.length_set, HL.out], hok.set hlo1, (hB.out.set_ k lo).drew, (hbel.setCell (Nat.le_refl _) _).drew, ?_⟩
          rw [val_take_set (by rw [HL.out]; omega)]
          exact sub_round HV.out hcv Hlo.out Hhi.out
        case measure => simp [intOf]; omega
    · have hkn : k = n := by omega
      subst hkn
      have hB := Lib.hid hblk; clear hblk
      go_wp2_with fail
      have hv : val L = x - y := by
        have e := HV.out
        rw [List.take_of_length_le (by rw [HL.out]; omega), mod_len (x := x) (by rw [← Hn.out]; omega)] at e
        have hxl := val_lt hok
        rw [HL.out] at hxl
        have hyy : y % 4294967296 ^ k = y := mod_len (by have := dig_len_mono Hyx.out; rw [← Hn.out] at this; exact this)
        rw [hyy] at e
        have := Hyx.out
        rcases (by omega : cv = 0 ∨ cv = 1) with h | h
        · subst h; omega
        · subst h; have hlt := lt_of_dig_len (n := x) (k := k) (by rw [← Hn.out]; omega); omega
      have hw2 := hB.out.wd hok (by rw [HL.out]; omega) k (by rw [HL.out]; omega) (by omega)
      rw [HL.out] at hw2
      refine (trimE_any _ _ _ hw2).mono ?_
      rintro e w' ⟨r, rfl, hr, rfl⟩
      rw [hv] at hr
      clear hv hw2
      go_wp2
      go_ret
      exact ⟨r, rfl, hr, hbel⟩

end Go.Proofs.Ytmlopkkbgpfdnaa
