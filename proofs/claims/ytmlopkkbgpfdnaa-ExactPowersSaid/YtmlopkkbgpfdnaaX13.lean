/- Walks: bits, twoTo, power. -/
import Derived.Test.YtmlopkkbgpfdnaaX6
import Derived.Test.YtmlopkkbgpfdnaaW5
import Derived.Test.YtmlopkkbgpfdnaaD4
namespace Go.Proofs.Ytmlopkkbgpfdnaa
open Go.RowKit

set_option maxRecDepth 100000 in
/-- natural.bits -/
theorem bitsE_any (x : Nat) (u : Value) (w : World) (hx : Wd w u (dig x)) (lx : (dig x).length ≤ 1000000) :
    Calls Try.prog 76 #[u] w fun e w' => e = .returned (.int .i64 (bitsN x : Nat)) ∧ w' = w := by
  have Hx := Lib.hid hx
  obtain ⟨A, c, rfl, -, -⟩ := hx.shape
  clear hx
  by_cases h0 : (dig x).length = 0
  · have hb : bitsN x = 0 := by unfold bitsN; rw [if_pos h0]
    rw [hb]
    rw [h0]
    clear hb h0 lx
    go_enter Try.func76, Try.ntmps76
    go_wp2
    go_ret
    exact ⟨rfl, rfl⟩
  · obtain ⟨n, hn⟩ : ∃ n, n = (dig x).length := ⟨_, rfl⟩
    obtain ⟨t, ht⟩ : ∃ t, t = dg x (n - 1) := ⟨_, rfl⟩
    have hb : bitsN x = (n - 1) * 32 + Lib.bitLen t := by unfold bitsN; rw [if_neg h0, ht, hn]
    have htl : t < 4294967296 := by rw [ht]; exact dg_lt _ _
    have hL : Lib.bitLen t ≤ 32 := Lib.bitLen_le t 32 (by omega) htl
    rw [hb]
    rw [← hn] at lx h0 Hx ⊢
    obtain ⟨b, off, rfl, hbs, hc⟩ := Wd.cell (k := n - 1) Hx.out (by omega)
    have hc0 := hc (n - 1) (by omega)
    rw [← ht] at hc0
    obtain ⟨L, hLd⟩ : ∃ L, L = Lib.bitLen t := ⟨_, rfl⟩
    have hlen : ∀ W : World, Calls Try.prog 98 #[.int .u32 (t : Int)] W fun e w' => e = .returned (.int .i64 (L : Int)) ∧ w' = W := fun W => by
      have := Try.bits_Len32 (t : Int) W (by omega) (by omega)
      rwa [Int.toNat_natCast, ← hLd] at this
    rw [← hLd] at hL ⊢
    have HL := Lib.hid hlen; clear hlen hLd hc hb hn ht
    have hnz : ((n : Int) == 0) = false := by simp; omega
    go_enter Try.func76, Try.ntmps76
    go_wp2_with fail
    refine (HL.out _).mono ?_
    rintro e w' ⟨rfl, rfl⟩
    go_wp2
    go_ret
    exact ⟨by
      show Ending.returned (.int .i64 (((n : Int) - 1) * 32 + L)) = _
      rw [show (((n : Int) - 1) * 32 + L) = (((n - 1) * 32 + L : Nat) : Int) by omega], rfl⟩

set_option maxRecDepth 100000 in
/-- twoTo -/
theorem twoTo_any (e : Nat) (w : World) (he : e ≤ 10000000) :
    Calls Try.prog 101 #[.int .i64 (e : Int)] w fun en w' => ∃ r, en = .returned r ∧ Wd w' r (dig (2 ^ e)) ∧ Below w.heap.size w w' := by
  have hml : e / 32 ≤ 400000 := by omega
  have hsl : e % 32 ≤ 31 := by omega
  have hw := two_words e
  have Hw := Lib.hid hw; clear hw
  have hp : (2 : Nat) ^ (e % 32) < 4294967296 := by
    have : 2 ^ (e % 32) ≤ 2 ^ 31 := Nat.pow_le_pow_right (by omega) (by omega)
    omega
  have hvI : (2 : Int) ^ (e % 32) % 4294967296 = ((2 ^ (e % 32) : Nat) : Int) := by
    rw [show ((2 : Int) ^ (e % 32)) = ((2 ^ (e % 32) : Nat) : Int) by rw [Int.natCast_pow]; rfl]
    obtain ⟨q, hq⟩ : ∃ q, q = 2 ^ (e % 32) := ⟨_, rfl⟩
    rw [← hq] at hp ⊢
    omega
  have HvI := Lib.hid hvI; clear hvI
  have hp' := Lib.hid hp; clear hp
  have hblk : Blk (w.alloc (.cells (U32s (zeros (e / 32 + 1))) 66)) w.heap.size (zeros (e / 32 + 1)) := heap_alloc_new w _
  have hfr := hblk.frozen (e / 32)
  have hce := hblk.cell (i := e / 32) (by rw [zeros_length]; omega)
  have HB := Lib.hid hblk; clear hblk
  have hmk : ∀ w, (Instr.makeSlice 58 (.int .i64 ((e : Int) / 32 + 1)) (.int .i64 ((e : Int) / 32 + 1))).run Try.prog w = .ok (.slice (some ⟨w.heap.size, 0, none⟩) (e / 32 + 1) (e / 32 + 1)) (w.alloc (.cells (U32s (zeros (e / 32 + 1))) 66)) := fun w => by
    have := make_u32 58 Try.underlying58 (e / 32 + 1) (by omega) w
    rwa [show ((e / 32 + 1 : Nat) : Int) = (e : Int) / 32 + 1 by omega] at this
  have hb1 : (0 : Int) ≤ (e : Int) / 32 := by omega
  have hb2 : (e : Int) / 32 < ((e / 32 + 1 : Nat) : Int) := by omega
  have hb3 : (e : Int) / 32 < (e : Int) / 32 + 1 := by omega
  have hb4 : ((e : Int) / 32).toNat = e / 32 := by omega
  have hb5 : ((e : Int) % 32).toNat = e % 32 := by omega
  go_enter Try.func101, Try.ntmps101
  go_wp2_with fail
  rw [HvI.out]
  go_ret
  rw [U32s_set]
  have hz : (zeros (e / 32 + 1)).set (e / 32) (2 ^ (e % 32)) = zeros (e / 32) ++ [2 ^ (e % 32)] := by
    unfold zeros
    rw [List.replicate_succ', List.set_append_right _ _ (by simp)]
    simp
  rw [hz]
  refine ⟨_, rfl, ?_, below_alloc w _⟩
  have h2 : Blk (w.alloc (.cells (U32s (zeros (e / 32) ++ [2 ^ (e % 32)])) 66)) w.heap.size (zeros (e / 32) ++ [2 ^ (e % 32)]) := heap_alloc_new w _
  rw [Hw.out]
  have := h2.wd ((zeros_ok _).append (Ok.mk hp'.out Ok.nil)) (by simp [zeros]; omega) (e / 32 + 1) (by simp [zeros]) (by omega)
  simpa [zeros] using this

theorem i64_and_one (x : Nat) (hx : x < 9223372036854775808) : bits BinOp.and IntKind.i64 (x : Int) 1 = ((x % 2 : Nat) : Int) := by
  show IntKind.i64.wrap ((BitVec.ofInt 64 (x : Int) &&& BitVec.ofInt 64 ((1 : Nat) : Int)).toNat : Int) = _
  rw [BitVec.toNat_and, ofInt_u64 x (by omega), ofInt_u64 1 (by omega), Nat.and_one_is_mod, IntKind.wrap_i64]
  omega

/-- the lengths of lesser powers -/
theorem len_pow {a m n k : Nat} (h : m ≤ n) (hl : (dig (a ^ n)).length ≤ k) (hk : 1 ≤ k) : (dig (a ^ m)).length ≤ k := by
  rcases Nat.eq_zero_or_pos a with h0 | h0
  · subst h0
    cases m with
    | zero => rw [Nat.pow_zero, dig_pos (by omega), dig_zero]; simpa using hk
    | succ m => rw [Nat.zero_pow (by omega), dig_zero]; simp
  · exact Nat.le_trans (dig_len_mono (Nat.pow_le_pow_right h0 h)) hl

set_option maxRecDepth 100000 in
/-- natural.power -/
theorem powerE_any (a n : Nat) (u : Value) (w : World) (hx : Wd w u (dig a)) (la : (dig a).length ≤ 1000000) (hn : n ≤ 1000000) (ln : (dig (a ^ n)).length ≤ 1000000) :
    Calls Try.prog 79 #[u, .int .i64 (n : Int)] w fun e w' => ∃ r, e = .returned r ∧ Wd w' r (dig (a ^ n)) ∧ Below w.heap.size w w' := by
  have Hx := Lib.hid hx
  obtain ⟨A, c, nn, rfl⟩ := hx.slice_
  clear hx
  obtain ⟨L, hL⟩ : ∃ L, L = Lib.bitLen n := ⟨_, rfl⟩
  have hLl : L ≤ 64 := by rw [hL]; exact Lib.bitLen_le n 64 (by omega) (by omega)
  have hLb : n < 2 ^ L := by
    rcases Nat.eq_zero_or_pos n with h0 | h0
    · rw [h0]; exact Nat.pow_pos (by omega)
    · rw [hL]; exact (bitLen_bounds n h0 (by omega)).2
  have hlen : ∀ W : World, Calls Try.prog 100 #[.int .u64 (n : Int)] W fun e w' => e = .returned (.int .i64 (L : Int)) ∧ w' = W := fun W => by
    have := Try.bits_Len (n : Int) W (by omega) (by omega)
    rwa [Int.toNat_natCast, ← hL] at this
  have HL := Lib.hid hlen; clear hlen hL
  have HLb := Lib.hid hLb; clear hLb
  have La := Lib.hid la; clear la
  have Ln := Lib.hid ln; clear ln
  go_enter Try.func79, Try.ntmps79
  go_wp2_with fail
  refine (HL.out _).mono ?_
  rintro e w' ⟨rfl, rfl⟩
  have hone : Wd (w.alloc (Obj.cells #[.int .u32 1] 66)) (.slice (some ⟨w.heap.size, 0, none⟩) 1 1) (dig 1) := by
    have e : dig 1 = [1] := by rw [dig_pos (by omega), dig_zero]
    rw [e]
    exact Wd.new w [1] (Ok.mk (by omega) Ok.nil) _ _ 1 1 rfl (by omega) (by omega) (fun j hj => by
      match j, hj with
      | 0, _ => simp)
  have Hone := Lib.hid hone; clear hone
  go_wp2_with fail
  go_loopw [5, 6] (fun r i wr => ∃ k : Nat, i = .int .i64 ((k : Int) - 1) ∧ k ≤ L ∧ Wd wr r (dig (a ^ (n / 2 ^ k))) ∧ Below w.heap.size w wr) (fun _ i _ => (intOf i + 1).toNat)
  case atStart => exact ⟨L, rfl, Nat.le_refl _, by rw [Nat.div_eq_of_lt HLb.out, Nat.pow_zero]; exact Hone.out, below_alloc _ _⟩
  case round =>
    obtain ⟨k, rfl, hk, hr, hbel⟩ := hrel
    have Hr := Lib.hid hr
    obtain ⟨A1, n1, c1, rfl⟩ := hr.slice_
    clear hr
    have Hbel := Lib.hid hbel; clear hbel
    by_cases hk0 : k = 0
    · subst hk0
      have hr := Hr.out
      rw [Nat.pow_zero, Nat.div_one] at hr
      have Hr0 := Lib.hid hr; clear hr
      go_wp2
      go_ret
      exact ⟨_, rfl, Hr0.out, Hbel.out⟩
    · obtain ⟨k, rfl⟩ : ∃ j, k = j + 1 := ⟨k - 1, by omega⟩
      have i1 : ((k + 1 : Nat) : Int) - 1 = (k : Int) := by omega
      rw [i1]
      clear i1
      obtain ⟨m, hm⟩ : ∃ m, m = n / 2 ^ (k + 1) := ⟨_, rfl⟩
      obtain ⟨bit, hbit⟩ : ∃ b, b = n / 2 ^ k % 2 := ⟨_, rfl⟩
      have hhalf := half_bits n k
      rw [← hm, ← hbit] at hhalf
      have hle : n / 2 ^ k ≤ n := Nat.div_le_self _ _
      have hb2 : bit < 2 := by omega
      have l1 : (dig (a ^ m)).length ≤ 1000000 := len_pow (by omega) Ln.out (by omega)
      have l2 : (dig (a ^ (2 * m))).length ≤ 1000000 := len_pow (by omega) Ln.out (by omega)
      rw [← hm] at Hr
      have L1 := Lib.hid l1; clear l1
      have L2 := Lib.hid l2; clear l2
      have Hhalf := Lib.hid hhalf
      go_wp2_with fail
      refine (asSlice (timesE_any (a ^ m) (a ^ m) _ _ _ Hr.out Hr.out L1.out L1.out)).mono ?_
      rintro e w1 ⟨A2, n2, c2, rfl, h2, hb3⟩
      rw [square_even] at h2
      have H2 := Lib.hid h2; clear h2
      have Hb3 := Lib.hid (Hbel.out.trans (hb3.mono Hbel.out.size)); clear hb3
      have hsh : bits BinOp.and IntKind.i64 ((n : Int) / 2 ^ k) 1 = (bit : Int) := by
        rw [cast_shr, i64_and_one _ (by omega), hbit]
      have Hm := Lib.hid hm; clear hm
      have Hbit := Lib.hid hbit; clear hbit hhalf
      rcases (by omega : bit = 0 ∨ bit = 1) with hz | hz
      · have ht : (bits BinOp.and IntKind.i64 ((n : Int) / 2 ^ k) 1 == 1) = false := by rw [hsh, hz]; rfl
        have he : n / 2 ^ k = 2 * m := by have := Hhalf.out; omega
        have He := Lib.hid he; clear he hz hsh
        go_wp2
        go_roundw
        case rel => exact ⟨k, rfl, by omega, by rw [He.out]; exact H2.out, Hb3.out⟩
        case measure => simp [intOf]
      · have ht : (bits BinOp.and IntKind.i64 ((n : Int) / 2 ^ k) 1 == 1) = true := by rw [hsh, hz]; rfl
        have he : n / 2 ^ k = 2 * m + 1 := by have := Hhalf.out; omega
        have He := Lib.hid he; clear he hz hsh
        go_wp2_with fail
        refine (asSlice (timesE_any (a ^ (2 * m)) a _ _ _ H2.out (Hx.out.below Hb3.out) L2.out La.out)).mono ?_
        rintro e w2 ⟨A4, n4, c4, rfl, h4, hb4⟩
        rw [square_odd] at h4
        have H4 := Lib.hid h4; clear h4
        have Hb4 := Lib.hid (Hb3.out.trans (hb4.mono Hb3.out.size)); clear hb4
        go_wp2
        go_roundw
        case rel => exact ⟨k, rfl, by omega, by rw [He.out]; exact H4.out, Hb4.out⟩
        case measure => simp [intOf]
end Go.Proofs.Ytmlopkkbgpfdnaa
