/- Walks: shifts by less than a word. -/
import Derived.Test.YtmlopkkbgpfdnaaW3
import Derived.Test.YtmlopkkbgpfdnaaW4
import Derived.Test.YtmlopkkbgpfdnaaD2
import Derived.IntWalk
namespace Go.Proofs.Ytmlopkkbgpfdnaa
open Go.RowKit

theorem word_prev (v : Value) (x k : Nat) (w : World) (hv : Wd w v (dig x)) :
    Calls Try.prog 85 #[v, .int .i64 ((k : Int) - 1)] w fun e w' => e = .returned (.int .u32 ((if k = 0 then 0 else dg x (k - 1) : Nat) : Int)) ∧ w = w' := by
  refine (word_any v _ _ w hv).mono ?_
  rintro e w' ⟨rfl, rfl⟩
  refine ⟨?_, rfl⟩
  by_cases h : k = 0
  · subst h; rfl
  · rw [if_neg (by omega), if_neg h, show ((k : Int) - 1).toNat = k - 1 from by omega, dig_dg]

theorem two_parts {s : Nat} (hs : s ≤ 31) : 2 ^ s * 2 ^ (32 - s) = 4294967296 := by
  rw [← Nat.pow_add, show s + (32 - s) = 32 from by omega]

theorem cast_shl (p s : Nat) : (p : Int) * 2 ^ s % 4294967296 = ((p * 2 ^ s % 4294967296 : Nat) : Int) := by
  rw [Int.natCast_emod, Int.natCast_mul, Int.natCast_pow]; rfl
theorem cast_shr (p s : Nat) : (p : Int) / 2 ^ s = ((p / 2 ^ s : Nat) : Int) := by
  rw [Int.natCast_ediv, Int.natCast_pow]; rfl

theorem or_up {p q s : Nat} (hq : q < 4294967296) (hs : s ≤ 31) : bits BinOp.or IntKind.u32 ((p : Int) * 2 ^ s % 4294967296) ((q : Int) / 2 ^ (32 - s)) = ((p * 2 ^ s % 4294967296 + q / 2 ^ (32 - s) : Nat) : Int) := by
  have h := two_parts hs
  obtain ⟨h1, h2⟩ := mul_mod_lt (z := p) h
  have h3 : q / 2 ^ (32 - s) < 2 ^ s := by rw [Nat.div_lt_iff_lt_mul (shl_parts h).2, h]; exact hq
  rw [cast_shl, cast_shr, u32_or_nat _ _ (by omega) (by omega), nat_join s _ _ (by rw [h1]; exact Nat.mul_mod_left _ _) h3]

theorem or_down {p q s : Nat} (hp : p < 4294967296) (hs : s ≤ 31) : bits BinOp.or IntKind.u32 ((p : Int) / 2 ^ s) ((q : Int) * 2 ^ (32 - s) % 4294967296) = ((p / 2 ^ s + q * 2 ^ (32 - s) % 4294967296 : Nat) : Int) := by
  have h' := two_parts hs
  have h : 2 ^ (32 - s) * 2 ^ s = 4294967296 := by rw [Nat.mul_comm]; exact h'
  obtain ⟨h1, h2⟩ := mul_mod_lt (z := q) h
  have h3 : p / 2 ^ s < 2 ^ (32 - s) := by rw [Nat.div_lt_iff_lt_mul (shl_parts h).2, h]; exact hp
  rw [cast_shl, cast_shr, u32_or_nat _ _ (by omega) (by omega), Nat.or_comm, nat_join (32 - s) _ _ (by rw [h1]; exact Nat.mul_mod_left _ _) h3, Nat.add_comm]

theorem up_word {x s k p q : Nat} (hp : p = dg x k) (hq : q = (if k = 0 then 0 else dg x (k - 1))) (hs : s ≤ 31) : p * 2 ^ s % 4294967296 + q / 2 ^ (32 - s) = dg (x * 2 ^ s) k := by
  cases k with
  | zero => rw [hp, hq, dg_shl0]; simp
  | succ k => rw [hp, hq, (dg_shl (two_parts hs)).1]; simp
theorem down_word {x s k p q : Nat} (hp : p = dg x k) (hq : q = dg x (k + 1)) (hs : s ≤ 31) : p / 2 ^ s + q * 2 ^ (32 - s) % 4294967296 = dg (x / 2 ^ s) k := by
  rw [hp, hq, (dg_shr (two_parts hs)).1]

theorem shl_lt {x s n : Nat} (h : (dig x).length ≤ n) (hs : s ≤ 31) : x * 2 ^ s < 4294967296 ^ (n + 1) := by
  have h1 := lt_of_dig_len h
  have h2 : 2 ^ s ≤ 4294967296 := by
    have h3 : 2 ^ s ≤ 2 ^ 32 := Nat.pow_le_pow_right (by omega) (by omega)
    exact Nat.le_trans h3 (by decide)
  rw [Nat.pow_succ]
  exact Nat.lt_of_lt_of_le (Nat.mul_lt_mul_of_pos_right h1 (Nat.pow_pos (by omega))) (Nat.mul_le_mul_left _ h2)

theorem set_words {L : List Nat} {y k v : Nat} (hk : k < L.length) (h : ∀ j, j < k → L.getD j 0 = dg y j) (hv : v = dg y k) : ∀ j, j < k + 1 → (L.set k v).getD j 0 = dg y j := by
  intro j hj
  by_cases e : j = k
  · subst e; rw [getD_set_self hk]; exact hv
  · rw [getD_set_ne (by omega)]; exact h j (by omega)

set_option maxRecDepth 100000 in
theorem shiftedUp_any (x s : Nat) (u : Value) (w : World) (hx : Wd w u (dig x)) (lx : (dig x).length ≤ 1000000) (hs : s ≤ 31) :
    Calls Try.prog 109 #[u, .int .i64 (s : Int)] w fun e w' => ∃ g L, e = .returned (.slice (some ⟨g, 0, none⟩) ((dig x).length + 1) ((dig x).length + 1)) ∧ w.heap.size ≤ g ∧ Blk w' g L ∧ Ok L ∧ L.length = (dig x).length + 1 ∧ val L = x * 2 ^ s ∧ Below w.heap.size w w' := by
  have Hx := Lib.hid hx
  obtain ⟨A, c, rfl, -, -⟩ := hx.shape
  obtain ⟨n, hn⟩ : ∃ n, n = (dig x).length := ⟨_, rfl⟩
  rw [← hn] at lx Hx ⊢
  have Hn := Lib.hid hn; clear hn hx
  have hmk : ∀ w, (Instr.makeSlice 58 (.int .i64 ((n : Int) + 1)) (.int .i64 ((n : Int) + 1))).run Try.prog w = .ok (.slice (some ⟨w.heap.size, 0, none⟩) (n + 1) (n + 1)) (w.alloc (.cells (U32s (zeros (n + 1))) 66)) := fun w => make_u32 58 Try.underlying58 (n + 1) (by omega) w
  go_enter Try.func109, Try.ntmps109
  go_wp2_with fail
  go_loopw [13] (fun i wr => ∃ (k : Nat) (L : List Nat), i = .int .i64 k ∧ k ≤ (n + 1) ∧ L.length = (n + 1) ∧ Ok L ∧ Blk wr w.heap.size L ∧ Below w.heap.size w wr ∧
      ∀ j, j < k → L.getD j 0 = dg (x * 2 ^ s) j) (fun i _ => (n + 1) - (intOf i).toNat)
  case atStart => exact ⟨0, zeros (n + 1), rfl, Nat.zero_le _, zeros_length _, zeros_ok _, heap_alloc_new w _, below_alloc _ _, fun j h => absurd h (by omega)⟩
  case round =>
    obtain ⟨k, L, rfl, hk, hL, hok, hblk, hbel, hval⟩ := hrel
    have HV := Lib.hid hval; clear hval
    have HL := Lib.hid hL; clear hL
    have HX : Wd wr (.slice A n c) (dig x) := Hx.out.below hbel
    by_cases hlt : k < (n + 1)
    · have hfr := hblk.frozen k
      have hce := hblk.cell (i := k) (by rw [HL.out]; omega)
      have hB := Lib.hid hblk; clear hblk
      obtain ⟨p, hp⟩ : ∃ p, p = dg x k := ⟨_, rfl⟩
      obtain ⟨q, hq⟩ : ∃ q, q = (if k = 0 then 0 else dg x (k - 1)) := ⟨_, rfl⟩
      have hpl : p < 4294967296 := by rw [hp]; exact dg_lt _ _
      have hql : q < 4294967296 := by rw [hq]; split; omega; exact dg_lt _ _
      have w1 : ∀ w : World, Wd w (.slice A n c) (dig x) → Calls Try.prog 85 #[.slice A n c, .int .i64 k] w fun e w' => e = .returned (.int .u32 p) ∧ w = w' := fun w h => by rw [hp]; exact word_dig _ x k w h
      have w2 : ∀ w : World, Wd w (.slice A n c) (dig x) → Calls Try.prog 85 #[.slice A n c, .int .i64 ((k : Int) - 1)] w fun e w' => e = .returned (.int .u32 q) ∧ w = w' := fun w h => by rw [hq]; exact word_prev _ x k w h
      have HW1 := Lib.hid w1; clear w1
      have HW2 := Lib.hid w2; clear w2
      obtain ⟨v, hv⟩ : ∃ v, v = dg (x * 2 ^ s) k := ⟨_, rfl⟩
      have Hv := Lib.hid hv
      have hvl : v < 4294967296 := by rw [hv]; exact dg_lt _ _
      have hor := or_up (p := p) hql hs
      rw [up_word hp hq hs, ← hv] at hor
      have Hor := Lib.hid hor; clear hor hv
      have Hp := Lib.hid hp; clear hp
      have Hq := Lib.hid hq; clear hq
      have tk0 : True := trivial
      go_wp2_with fail
      have i1 : IntKind.i64.wrap ((k : Int) - 1) = ((k : Int) - 1) := IntWalk.i64_in _ (by omega)
      have i2 : IntKind.i64.wrap (32 - (s : Int)) = 32 - (s : Int) := IntWalk.i64_in _ (by omega)
      have i3 : (32 - (s : Int)).toNat = 32 - s := by omega
      have i4 : 0 ≤ 32 - (s : Int) := by omega
      go_region_with (first
        | (go_at_call 85; have _t := tk0; refine (HW1.out _ (by exact HX)).mono ?_; rintro e w' ⟨rfl, rfl⟩; clear tk0)
        | (go_at_call 85; refine (HW2.out _ (by exact HX)).mono ?_; rintro e w' ⟨rfl, rfl⟩))
      all_goals clear i1 i2 i3 i4
      all_goals go_wp2
      all_goals rw [Hor.out]
      all_goals
        go_roundw
        case rel => exact ⟨k + 1, L.set k v, by go_num, by omega, by rw [List.length_set, HL.out], hok.set hvl, (hB.out.set_ k v).drew, (hbel.setCell (Nat.le_refl _) _).drew, set_words (by rw [HL.out]; omega) HV.out Hv.out⟩
        case measure => simp [intOf]; omega
    · have hkn : k = (n + 1) := by omega
      subst hkn
      have hv : val L = x * 2 ^ s := val_of_dgs (fun j hj => HV.out j (by rw [← HL.out]; exact hj)) (by rw [HL.out]; exact shl_lt (by rw [← Hn.out]; omega) hs)
      have Hv := Lib.hid hv; clear hv
      go_wp2
      go_ret
      exact ⟨w.heap.size, L, rfl, Nat.le_refl _, hblk, hok, HL.out, Hv.out, hbel⟩

set_option maxRecDepth 100000 in
theorem shiftedDown_any (x s : Nat) (u : Value) (w : World) (hx : Wd w u (dig x)) (lx : (dig x).length ≤ 1000000) (hs : s ≤ 31) :
    Calls Try.prog 111 #[u, .int .i64 (s : Int)] w fun e w' => ∃ r, e = .returned r ∧ Wd w' r (dig (x / 2 ^ s)) ∧ Below w.heap.size w w' := by
  have Hx := Lib.hid hx
  obtain ⟨A, c, rfl, -, -⟩ := hx.shape
  obtain ⟨n, hn⟩ : ∃ n, n = (dig x).length := ⟨_, rfl⟩
  rw [← hn] at lx Hx ⊢
  have Hn := Lib.hid hn; clear hn hx
  have hmk : ∀ w, (Instr.makeSlice 58 (.int .i64 (n : Int)) (.int .i64 (n : Int))).run Try.prog w = .ok (.slice (some ⟨w.heap.size, 0, none⟩) n n) (w.alloc (.cells (U32s (zeros n)) 66)) := fun w => make_u32 58 Try.underlying58 n (by omega) w
  go_enter Try.func111, Try.ntmps111
  go_wp2_with fail
  go_loopw [12] (fun i wr => ∃ (k : Nat) (L : List Nat), i = .int .i64 k ∧ k ≤ n ∧ L.length = n ∧ Ok L ∧ Blk wr w.heap.size L ∧ Below w.heap.size w wr ∧
      ∀ j, j < k → L.getD j 0 = dg (x / 2 ^ s) j) (fun i _ => n - (intOf i).toNat)
  case atStart => exact ⟨0, zeros n, rfl, Nat.zero_le _, zeros_length _, zeros_ok _, heap_alloc_new w _, below_alloc _ _, fun j h => absurd h (by omega)⟩
  case round =>
    obtain ⟨k, L, rfl, hk, hL, hok, hblk, hbel, hval⟩ := hrel
    have HV := Lib.hid hval; clear hval
    have HL := Lib.hid hL; clear hL
    have HX : Wd wr (.slice A n c) (dig x) := Hx.out.below hbel
    by_cases hlt : k < n
    · have hfr := hblk.frozen k
      have hce := hblk.cell (i := k) (by rw [HL.out]; omega)
      have hB := Lib.hid hblk; clear hblk
      obtain ⟨p, hp⟩ : ∃ p, p = dg x k := ⟨_, rfl⟩
      obtain ⟨q, hq⟩ : ∃ q, q = dg x (k + 1) := ⟨_, rfl⟩
      have hpl : p < 4294967296 := by rw [hp]; exact dg_lt _ _
      have hql : q < 4294967296 := by rw [hq]; exact dg_lt _ _
      have w1 : ∀ w : World, Wd w (.slice A n c) (dig x) → Calls Try.prog 85 #[.slice A n c, .int .i64 k] w fun e w' => e = .returned (.int .u32 p) ∧ w = w' := fun w h => by rw [hp]; exact word_dig _ x k w h
      have w2 : ∀ w : World, Wd w (.slice A n c) (dig x) → Calls Try.prog 85 #[.slice A n c, .int .i64 ((k : Int) + 1)] w fun e w' => e = .returned (.int .u32 q) ∧ w = w' := fun w h => by rw [hq]; exact word_dig _ x (k + 1) w h
      have HW1 := Lib.hid w1; clear w1
      have HW2 := Lib.hid w2; clear w2
      obtain ⟨v, hv⟩ : ∃ v, v = dg (x / 2 ^ s) k := ⟨_, rfl⟩
      have Hv := Lib.hid hv
      have hvl : v < 4294967296 := by rw [hv]; exact dg_lt _ _
      have hor := or_down (q := q) hpl hs
      rw [down_word hp hq hs, ← hv] at hor
      have Hor := Lib.hid hor; clear hor hv
      have Hp := Lib.hid hp; clear hp
      have Hq := Lib.hid hq; clear hq
      have tk0 : True := trivial
      go_wp2_with fail
      have i1 : IntKind.i64.wrap ((k : Int) + 1) = ((k : Int) + 1) := IntWalk.i64_in _ (by omega)
      have i2 : IntKind.i64.wrap (32 - (s : Int)) = 32 - (s : Int) := IntWalk.i64_in _ (by omega)
      have i3 : (32 - (s : Int)).toNat = 32 - s := by omega
      have i4 : 0 ≤ 32 - (s : Int) := by omega
      go_region_with (first
        | (go_at_call 85; have _t := tk0; refine (HW1.out _ (by exact HX)).mono ?_; rintro e w' ⟨rfl, rfl⟩; clear tk0)
        | (go_at_call 85; refine (HW2.out _ (by exact HX)).mono ?_; rintro e w' ⟨rfl, rfl⟩))
      all_goals clear i1 i2 i3 i4
      all_goals go_wp2
      all_goals rw [Hor.out]
      all_goals
        go_roundw
        case rel => exact ⟨k + 1, L.set k v, by go_num, by omega, by rw [List.length_set, HL.out], hok.set hvl, (hB.out.set_ k v).drew, (hbel.setCell (Nat.le_refl _) _).drew, set_words (by rw [HL.out]; omega) HV.out Hv.out⟩
        case measure => simp [intOf]; omega
    · have hkn : k = n := by omega
      subst hkn
      have hv : val L = x / 2 ^ s := val_of_dgs (fun j hj => HV.out j (by rw [← HL.out]; exact hj)) (by rw [HL.out]; exact Nat.lt_of_le_of_lt (Nat.div_le_self _ _) (lt_of_dig_len (by rw [← Hn.out]; omega)))
      have hw2 := hblk.wd hok (by rw [HL.out]; omega) k (by rw [HL.out]; omega) (by omega)
      rw [HL.out] at hw2
      have Hv := Lib.hid hv; clear hv
      have Hw := Lib.hid hw2; clear hw2 hblk
      go_wp2_with fail
      refine (trimE_any _ _ _ Hw.out).mono ?_
      rintro e w' ⟨r, rfl, hr, rfl⟩
      rw [Hv.out] at hr
      go_wp2
      go_ret
      exact ⟨r, rfl, hr, hbel⟩

end Go.Proofs.Ytmlopkkbgpfdnaa
