/- Walks: shifts by less than a word. · Walks: division by a word. · Walks: a guessed digit of a quotient. -/
import Derived.Test.YtijhbmdbnnmogaaGreatM13
import Derived.Test.YtijhbmdbnnmogaaGreatM19
import Derived.IntWalk
import Derived.Test.YtijhbmdbnnmogaaGreatM14
namespace Go.Proofs.YtijhbmdbnnmogaaGreat
open Go.RowKit

theorem word_prev (v : Value) (x k : Nat) (w : World) (hv : Wd w v (dig x)) :
    Calls Tryz.prog 172 #[v, .int .i64 ((k : Int) - 1)] w fun e w' => e = .returned (.int .u32 ((if k = 0 then 0 else dg x (k - 1) : Nat) : Int)) ∧ w = w' := by
  refine (word_any v _ _ w hv).mono ?_
  rintro e w' ⟨rfl, rfl⟩
  refine ⟨?_, rfl⟩
  by_cases h : k = 0
  · subst h; rfl
  · rw [if_neg (by omega), if_neg h, show ((k : Int) - 1).toNat = k - 1 from by omega, dig_dg]

theorem two_parts {s : Nat} (hs : s ≤ 31) : 2 ^ s * 2 ^ (32 - s) = 4294967296 := by
  rw [← Nat.pow_add, show s + (32 - s) = 32 from by omega]

theorem cast_shl (p s : Nat) : (p : Int) * 2 ^ s % 4294967296 = ((p * 2 ^ s % 4294967296 : Nat) : Int) := by
  rw [Int.natCast_emod, Int.natCast_mul, Int.natCast_pow]; rfl
theorem cast_shr (p s : Nat) : (p : Int) / 2 ^ s = ((p / 2 ^ s : Nat) : Int) := by
  rw [Int.natCast_ediv, Int.natCast_pow]; rfl

theorem or_up {p q s : Nat} (hq : q < 4294967296) (hs : s ≤ 31) : bits BinOp.or IntKind.u32 ((p : Int) * 2 ^ s % 4294967296) ((q : Int) / 2 ^ (32 - s)) = ((p * 2 ^ s % 4294967296 + q / 2 ^ (32 - s) : Nat) : Int) := by
  have h := two_parts hs
  obtain ⟨h1, h2⟩ := mul_mod_lt (z := p) h
  have h3 : q / 2 ^ (32 - s) < 2 ^ s := by rw [Nat.div_lt_iff_lt_mul (shl_parts h).2, h]; exact hq
  rw [cast_shl, cast_shr, u32_or_nat _ _ (by omega) (by omega), nat_join s _ _ (by rw [h1]; exact Nat.mul_mod_left _ _) h3]

theorem or_down {p q s : Nat} (hp : p < 4294967296) (hs : s ≤ 31) : bits BinOp.or IntKind.u32 ((p : Int) / 2 ^ s) ((q : Int) * 2 ^ (32 - s) % 4294967296) = ((p / 2 ^ s + q * 2 ^ (32 - s) % 4294967296 : Nat) : Int) := by
  have h' := two_parts hs
  have h : 2 ^ (32 - s) * 2 ^ s = 4294967296 := by rw [Nat.mul_comm]; exact h'
  obtain ⟨h1, h2⟩ := mul_mod_lt (z := q) h
  have h3 : p / 2 ^ s < 2 ^ (32 - s) := by rw [Nat.div_lt_iff_lt_mul (shl_parts h).2, h]; exact hp
  rw [cast_shl, cast_shr, u32_or_nat _ _ (by omega) (by omega), Nat.or_comm, nat_join (32 - s) _ _ (by rw [h1]; exact Nat.mul_mod_left _ _) h3, Nat.add_comm]

theorem up_word {x s k p q : Nat} (hp : p = dg x k) (hq : q = (if k = 0 then 0 else dg x (k - 1))) (hs : s ≤ 31) : p * 2 ^ s % 4294967296 + q / 2 ^ (32 - s) = dg (x * 2 ^ s) k := by
  cases k with
  | zero => rw [hp, hq, dg_shl0]; simp
  | succ k => rw [hp, hq, (dg_shl (two_parts hs)).1]; simp
theorem down_word {x s k p q : Nat} (hp : p = dg x k) (hq : q = dg x (k + 1)) (hs : s ≤ 31) : p / 2 ^ s + q * 2 ^ (32 - s) % 4294967296 = dg (x / 2 ^ s) k := by
  rw [hp, hq, (dg_shr (two_parts hs)).1]

theorem shl_lt {x s n : Nat} (h : (dig x).length ≤ n) (hs : s ≤ 31) : x * 2 ^ s < 4294967296 ^ (n + 1) := by
  have h1 := lt_of_dig_len h
  have h2 : 2 ^ s ≤ 4294967296 := by
    have h3 : 2 ^ s ≤ 2 ^ 32 := Nat.pow_le_pow_right (by omega) (by omega)
    exact Nat.le_trans h3 (by decide)
  rw [Nat.pow_succ]
  exact Nat.lt_of_lt_of_le (Nat.mul_lt_mul_of_pos_right h1 (Nat.pow_pos (by omega))) (Nat.mul_le_mul_left _ h2)

theorem set_words {L : List Nat} {y k v : Nat} (hk : k < L.length) (h : ∀ j, j < k → L.getD j 0 = dg y j) (hv : v = dg y k) : ∀ j, j < k + 1 → (L.set k v).getD j 0 = dg y j := by
  intro j hj
  by_cases e : j = k
  · subst e; rw [getD_set_self hk]; exact hv
  · rw [getD_set_ne (by omega)]; exact h j (by omega)

set_option maxRecDepth 100000 in
theorem shiftedUp_any (x s : Nat) (u : Value) (w : World) (hx : Wd w u (dig x)) (lx : (dig x).length ≤ 1000000) (hs : s ≤ 31) :
    Calls Tryz.prog 246 #[u, .int .i64 (s : Int)] w fun e w' => ∃ g L, e = .returned (.slice (some ⟨g, 0, none⟩) ((dig x).length + 1) ((dig x).length + 1)) ∧ w.heap.size ≤ g ∧ Blk w' g L ∧ Ok L ∧ L.length = (dig x).length + 1 ∧ val L = x * 2 ^ s ∧ Below w.heap.size w w' := by
  have Hx := Lib.hid hx
  obtain ⟨A, c, rfl, -, -⟩ := hx.shape
  obtain ⟨n, hn⟩ : ∃ n, n = (dig x).length := ⟨_, rfl⟩
  rw [← hn] at lx Hx ⊢
  have Hn := Lib.hid hn; clear hn hx
  have hmk : ∀ w, (Instr.makeSlice 150 (.int .i64 ((n : Int) + 1)) (.int .i64 ((n : Int) + 1))).run Tryz.prog w = .ok (.slice (some ⟨w.heap.size, 0, none⟩) (n + 1) (n + 1)) (w.alloc (.cells (U32s (zeros (n + 1))) 172)) := fun w => make_u32 150 Tryz.underlying150 (n + 1) (by omega) w
  go_enter Tryz.func246, Tryz.ntmps246
  go_wp2_with fail
  go_loopw [13] (fun i wr => ∃ (k : Nat) (L : List Nat), i = .int .i64 k ∧ k ≤ (n + 1) ∧ L.length = (n + 1) ∧ Ok L ∧ Blk wr w.heap.size L ∧ Below w.heap.size w wr ∧
      ∀ j, j < k → L.getD j 0 = dg (x * 2 ^ s) j) (fun i _ => (n + 1) - (intOf i).toNat)
  case atStart => exact ⟨0, zeros (n + 1), rfl, Nat.zero_le _, zeros_length _, zeros_ok _, heap_alloc_new w _, below_alloc _ _, fun j h => absurd h (by omega)⟩
  case round =>
    obtain ⟨k, L, rfl, hk, hL, hok, hblk, hbel, hval⟩ := hrel
    have HV := Lib.hid hval; clear hval
    have HL := Lib.hid hL; clear hL
    have HX : Wd wr (.slice A n c) (dig x) := Hx.out.below hbel
    by_cases hlt : k < (n + 1)
    · have hfr := hblk.frozen k
      have hce := hblk.cell (i := k) (by rw [HL.out]; omega)
      have hB := Lib.hid hblk; clear hblk
      obtain ⟨p, hp⟩ : ∃ p, p = dg x k := ⟨_, rfl⟩
      obtain ⟨q, hq⟩ : ∃ q, q = (if k = 0 then 0 else dg x (k - 1)) := ⟨_, rfl⟩
      have hpl : p < 4294967296 := by rw [hp]; exact dg_lt _ _
      have hql : q < 4294967296 := by rw [hq]; split; omega; exact dg_lt _ _
      have w1 : ∀ w : World, Wd w (.slice A n c) (dig x) → Calls Tryz.prog 172 #[.slice A n c, .int .i64 k] w fun e w' => e = .returned (.int .u32 p) ∧ w = w' := fun w h => by rw [hp]; exact word_dig _ x k w h
      have w2 : ∀ w : World, Wd w (.slice A n c) (dig x) → Calls Tryz.prog 172 #[.slice A n c, .int .i64 ((k : Int) - 1)] w fun e w' => e = .returned (.int .u32 q) ∧ w = w' := fun w h => by rw [hq]; exact word_prev _ x k w h
      have HW1 := Lib.hid w1; clear w1
      have HW2 := Lib.hid w2; clear w2
      obtain ⟨v, hv⟩ : ∃ v, v = dg (x * 2 ^ s) k := ⟨_, rfl⟩
      have Hv := Lib.hid hv
      have hvl : v < 4294967296 := by rw [hv]; exact dg_lt _ _
      have hor := or_up (p := p) hql hs
      rw [up_word hp hq hs, ← hv] at hor
      have Hor := Lib.hid hor; clear hor hv
      have Hp := Lib.hid hp; clear hp
      have Hq := Lib.hid hq; clear hq
      have tk0 : True := trivial
      go_wp2_with fail
      have i1 : IntKind.i64.wrap ((k : Int) - 1) = ((k : Int) - 1) := IntWalk.i64_in _ (by omega)
      have i2 : IntKind.i64.wrap (32 - (s : Int)) = 32 - (s : Int) := IntWalk.i64_in _ (by omega)
      have i3 : (32 - (s : Int)).toNat = 32 - s := by omega
      have i4 : 0 ≤ 32 - (s : Int) := by omega
      go_region_with (first
        | (go_at_call 172; have _t := tk0; refine (HW1.out _ (by exact HX)).mono ?_; rintro e w' ⟨rfl, rfl⟩; clear tk0)
        | (go_at_call 172; refine (HW2.out _ (by exact HX)).mono ?_; rintro e w' ⟨rfl, rfl⟩))
      all_goals clear i1 i2 i3 i4
      all_goals go_wp2
      all_goals rw [Hor.out]
      all_goals
        go_roundw
        case rel => exact ⟨k + 1, L.set k v, by go_num, by omega, by rw [List.length_set, HL.out], hok.set hvl, (hB.out.set_ k v).drew, (hbel.setCell (Nat.le_refl _) _).drew, set_words (by rw [HL.out]; omega) HV.out Hv.out⟩
        case measure => simp [intOf]; omega
    · have hkn : k = (n + 1) := by omega
      subst hkn
      have hv : val L = x * 2 ^ s := val_of_dgs (fun j hj => HV.out j (by rw [← HL.out]; exact hj)) (by rw [HL.out]; exact shl_lt (by rw [← Hn.out]; omega) hs)
      have Hv := Lib.hid hv; clear hv
      go_wp2
      go_ret
      exact ⟨w.heap.size, L, rfl, Nat.le_refl _, hblk, hok, HL.out, Hv.out, hbel⟩

set_option maxRecDepth 100000 in
theorem shiftedDown_any (x s : Nat) (u : Value) (w : World) (hx : Wd w u (dig x)) (lx : (dig x).length ≤ 1000000) (hs : s ≤ 31) :
    Calls Tryz.prog 248 #[u, .int .i64 (s : Int)] w fun e w' => ∃ r, e = .returned r ∧ Wd w' r (dig (x / 2 ^ s)) ∧ Below w.heap.size w w' := by
  have Hx := Lib.hid hx
  obtain ⟨A, c, rfl, -, -⟩ := hx.shape
  obtain ⟨n, hn⟩ : ∃ n, n = (dig x).length := ⟨_, rfl⟩
  rw [← hn] at lx Hx ⊢
  have Hn := Lib.hid hn; clear hn hx
  have hmk : ∀ w, (Instr.makeSlice 150 (.int .i64 (n : Int)) (.int .i64 (n : Int))).run Tryz.prog w = .ok (.slice (some ⟨w.heap.size, 0, none⟩) n n) (w.alloc (.cells (U32s (zeros n)) 172)) := fun w => make_u32 150 Tryz.underlying150 n (by omega) w
  go_enter Tryz.func248, Tryz.ntmps248
  go_wp2_with fail
  go_loopw [12] (fun i wr => ∃ (k : Nat) (L : List Nat), i = .int .i64 k ∧ k ≤ n ∧ L.length = n ∧ Ok L ∧ Blk wr w.heap.size L ∧ Below w.heap.size w wr ∧
      ∀ j, j < k → L.getD j 0 = dg (x / 2 ^ s) j) (fun i _ => n - (intOf i).toNat)
  case atStart => exact ⟨0, zeros n, rfl, Nat.zero_le _, zeros_length _, zeros_ok _, heap_alloc_new w _, below_alloc _ _, fun j h => absurd h (by omega)⟩
  case round =>
    obtain ⟨k, L, rfl, hk, hL, hok, hblk, hbel, hval⟩ := hrel
    have HV := Lib.hid hval; clear hval
    have HL := Lib.hid hL; clear hL
    have HX : Wd wr (.slice A n c) (dig x) := Hx.out.below hbel
    by_cases hlt : k < n
    · have hfr := hblk.frozen k
      have hce := hblk.cell (i := k) (by rw [HL.out]; omega)
      have hB := Lib.hid hblk; clear hblk
      obtain ⟨p, hp⟩ : ∃ p, p = dg x k := ⟨_, rfl⟩
      obtain ⟨q, hq⟩ : ∃ q, q = dg x (k + 1) := ⟨_, rfl⟩
      have hpl : p < 4294967296 := by rw [hp]; exact dg_lt _ _
      have hql : q < 4294967296 := by rw [hq]; exact dg_lt _ _
      have w1 : ∀ w : World, Wd w (.slice A n c) (dig x) → Calls Tryz.prog 172 #[.slice A n c, .int .i64 k] w fun e w' => e = .returned (.int .u32 p) ∧ w = w' := fun w h => by rw [hp]; exact word_dig _ x k w h
      have w2 : ∀ w : World, Wd w (.slice A n c) (dig x) → Calls Tryz.prog 172 #[.slice A n c, .int .i64 ((k : Int) + 1)] w fun e w' => e = .returned (.int .u32 q) ∧ w = w' := fun w h => by rw [hq]; exact word_dig _ x (k + 1) w h
      have HW1 := Lib.hid w1; clear w1
      have HW2 := Lib.hid w2; clear w2
      obtain ⟨v, hv⟩ : ∃ v, v = dg (x / 2 ^ s) k := ⟨_, rfl⟩
      have Hv := Lib.hid hv
      have hvl : v < 4294967296 := by rw [hv]; exact dg_lt _ _
      have hor := or_down (q := q) hpl hs
      rw [down_word hp hq hs, ← hv] at hor
      have Hor := Lib.hid hor; clear hor hv
      have Hp := Lib.hid hp; clear hp
      have Hq := Lib.hid hq; clear hq
      have tk0 : True := trivial
      go_wp2_with fail
      have i1 : IntKind.i64.wrap ((k : Int) + 1) = ((k : Int) + 1) := IntWalk.i64_in _ (by omega)
      have i2 : IntKind.i64.wrap (32 - (s : Int)) = 32 - (s : Int) := IntWalk.i64_in _ (by omega)
      have i3 : (32 - (s : Int)).toNat = 32 - s := by omega
      have i4 : 0 ≤ 32 - (s : Int) := by omega
      go_region_with (first
        | (go_at_call 172; have _t := tk0; refine (HW1.out _ (by exact HX)).mono ?_; rintro e w' ⟨rfl, rfl⟩; clear tk0)
        | (go_at_call 172; refine (HW2.out _ (by exact HX)).mono ?_; rintro e w' ⟨rfl, rfl⟩))
      all_goals clear i1 i2 i3 i4
      all_goals go_wp2
      all_goals rw [Hor.out]
      all_goals
        go_roundw
        case rel => exact ⟨k + 1, L.set k v, by go_num, by omega, by rw [List.length_set, HL.out], hok.set hvl, (hB.out.set_ k v).drew, (hbel.setCell (Nat.le_refl _) _).drew, set_words (by rw [HL.out]; omega) HV.out Hv.out⟩
        case measure => simp [intOf]; omega
    · have hkn : k = n := by omega
      subst hkn
      have hv : val L = x / 2 ^ s := val_of_dgs (fun j hj => HV.out j (by rw [← HL.out]; exact hj)) (by rw [HL.out]; exact Nat.lt_of_le_of_lt (Nat.div_le_self _ _) (lt_of_dig_len (by rw [← Hn.out]; omega)))
      have hw2 := hblk.wd hok (by rw [HL.out]; omega) k (by rw [HL.out]; omega) (by omega)
      rw [HL.out] at hw2
      have Hv := Lib.hid hv; clear hv
      have Hw := Lib.hid hw2; clear hw2 hblk
      go_wp2_with fail
      refine (trimE_any _ _ _ Hw.out).mono ?_
      rintro e w' ⟨r, rfl, hr, rfl⟩
      rw [Hv.out] at hr
      go_wp2
      go_ret
      exact ⟨r, rfl, hr, hbel⟩

end Go.Proofs.YtijhbmdbnnmogaaGreat
namespace Go.Proofs.YtijhbmdbnnmogaaGreat
open Go.RowKit

theorem or_words {a b : Nat} (ha : a < 4294967296) (hb : b < 4294967296) : bits BinOp.or IntKind.u64 ((a : Int) * 4294967296) (b : Int) = ((a * 4294967296 + b : Nat) : Int) := by
  have e : ((a : Int) * 4294967296) = ((a * 4294967296 : Nat) : Int) := by omega
  rw [e, u64_or_nat _ _ (by omega) (by omega), nat_join 32 _ _ (by omega) (by omega)]

theorem quo_lt {a b y : Nat} (h : a < y) (hb : b < 4294967296) : (a * 4294967296 + b) / y < 4294967296 := by
  rw [Nat.div_lt_iff_lt_mul (by omega)]
  have : (a + 1) * 4294967296 ≤ y * 4294967296 := Nat.mul_le_mul_right _ h
  rw [Nat.mul_comm 4294967296 y]
  omega

set_option maxRecDepth 100000 in
theorem div32_any (a b y : Nat) (w : World) (ha : a < y) (hb : b < 4294967296) (hy : y < 4294967296) :
    Calls Tryz.prog 252 #[.int .u32 a, .int .u32 b, .int .u32 y] w fun e w' =>
      e = .returned (.tuple #[.int .u32 ((a * 4294967296 + b) / y : Nat), .int .u32 ((a * 4294967296 + b) % y : Nat)]) ∧ ∃ n, w' = w.drewN n := by
  have hor := or_words (a := a) (b := b) (by omega) hb
  have hq := quo_lt ha hb
  obtain ⟨z, hz⟩ : ∃ z, z = a * 4294967296 + b := ⟨_, rfl⟩
  rw [← hz] at hor hq ⊢
  have hzl : z < 18446744073709551616 := by omega
  have Hor := Lib.hid hor; clear hor hz
  have hr : z % y < 4294967296 := by have := Nat.mod_lt z (show 0 < y by omega); omega
  obtain ⟨q, hq'⟩ : ∃ q, q = z / y := ⟨_, rfl⟩
  obtain ⟨r, hr'⟩ : ∃ r, r = z % y := ⟨_, rfl⟩
  rw [← hq'] at hq ⊢
  rw [← hr'] at hr ⊢
  have e1 : (z : Int) / y = (q : Int) := by rw [hq']; omega
  have e2 : (z : Int) % y = (r : Int) := by rw [hr']; omega
  clear hq' hr'
  have e3 : IntKind.u64.wrap (q : Int) % 4294967296 = (q : Int) := by rw [IntKind.wrap_u64]; omega
  have e4 : (r : Int) % 4294967296 = (r : Int) := by omega
  have E3 := Lib.hid e3; clear e3
  have E4 := Lib.hid e4; clear e4
  have d1 : ((y : Int) != 0) = true := by simp; omega
  have d2 : ((y : Int) == 0) = false := by simp; omega
  have d3 : decide (y ≤ a) = false := by simp; omega
  have hy0 : (0 : Int) < y := by omega
  have hy1 : (1 : Int) ≤ y := by omega
  have hz0 : (0 : Int) ≤ z := by omega
  have E1 := Lib.hid e1; clear e1
  have E2 := Lib.hid e2; clear e2
  go_enter Tryz.func252, Tryz.ntmps252
  go_wp2_with fail
  rw [Hor.out]
  go_quiet (fail)
  rw [E1.out, E2.out, E3.out, E4.out]
  go_wp2
  go_ret2
  exact ⟨rfl, _, rfl⟩

set_option maxRecDepth 100000 in
/-- natural.divideWord -/
theorem divideWord_any (x y : Nat) (u : Value) (w : World) (hx : Wd w u (dig x)) (lx : (dig x).length ≤ 1000000) (hy0 : 0 < y) (hy : y < 4294967296) :
    Calls Tryz.prog 244 #[u, .int .u32 y] w fun e w' => ∃ r, e = .returned (.tuple #[r, .int .u32 (x % y : Nat)]) ∧ Wd w' r (dig (x / y)) ∧ Below w.heap.size w w' := by
  have Hx := Lib.hid hx
  obtain ⟨A, c, rfl, -, hcl⟩ := hx.shape
  obtain ⟨n, hn⟩ : ∃ n, n = (dig x).length := ⟨_, rfl⟩
  rw [← hn] at lx Hx ⊢
  have Hn := Lib.hid hn; clear hn hx
  have hmk : ∀ w, (Instr.makeSlice 150 (.int .i64 (n : Int)) (.int .i64 (n : Int))).run Tryz.prog w = .ok (.slice (some ⟨w.heap.size, 0, none⟩) n n) (w.alloc (.cells (U32s (zeros n)) 172)) := fun w => make_u32 150 Tryz.underlying150 n (by omega) w
  go_enter Tryz.func244, Tryz.ntmps244
  go_wp2_with fail
  go_loopw [7, 8] (fun rr i wr => ∃ (k q : Nat) (L : List Nat), i = .int .i64 ((k : Int) - 1) ∧ k ≤ n ∧ rr = .int .u32 q ∧ q < y ∧ L.length = n ∧ Ok L ∧ Blk wr w.heap.size L ∧ Below w.heap.size w wr ∧
      q = x / 4294967296 ^ k % y ∧ ∀ j, k ≤ j → j < n → L.getD j 0 = dg (x / y) j) (fun _ i _ => (intOf i + 1).toNat)
  case atStart => exact ⟨n, 0, zeros n, rfl, Nat.le_refl _, rfl, hy0, zeros_length _, zeros_ok _, heap_alloc_new w _, below_alloc _ _, by rw [div_len (by rw [Hn.out]; exact Nat.le_refl _)]; simp, fun j h h' => absurd h (by omega)⟩
  case round =>
    obtain ⟨k, q, L, rfl, hk, rfl, hql, hL, hok, hblk, hbel, hq, hval⟩ := hrel
    have HQ := Lib.hid hq; clear hq
    have HV := Lib.hid hval; clear hval
    have HL := Lib.hid hL; clear hL
    by_cases hk0 : k = 0
    · subst hk0
      have hv : val L = x / y := val_of_dgs (fun j hj => HV.out j (Nat.zero_le _) (by rw [← HL.out]; exact hj)) (by rw [HL.out]; exact Nat.lt_of_le_of_lt (Nat.div_le_self _ _) (lt_of_dig_len (by rw [← Hn.out]; omega)))
      have hw2 := hblk.wd hok (by rw [HL.out]; omega) n (by rw [HL.out]; omega) (by omega)
      rw [HL.out] at hw2
      have hqe : q = x % y := by have := HQ.out; rwa [Nat.pow_zero, Nat.div_one] at this
      have Hqe := Lib.hid hqe; clear hqe
      have Hv := Lib.hid hv; clear hv
      have Hw := Lib.hid hw2; clear hw2 hblk
      go_wp2_with fail
      refine (trimE_any _ _ _ Hw.out).mono ?_
      rintro e w' ⟨r, rfl, hr, rfl⟩
      rw [Hv.out] at hr
      obtain ⟨A3, n3, c3, rfl⟩ := hr.slice_
      go_wp2
      go_ret2
      exact ⟨_, by rw [Hqe.out]; rfl, hr, hbel⟩
    · obtain ⟨k, rfl⟩ : ∃ j, k = j + 1 := ⟨k - 1, by omega⟩
      obtain ⟨b, off, rfl, hb, hcx⟩ := Wd.cell (k := k) Hx.out (by omega)
      have h1 : wr.cell? ⟨b, off + k, none⟩ = some (.int .u32 (dg x k : Nat)) := (hbel.cell (p := ⟨b, off + k, none⟩) hb).trans (hcx k (by omega))
      clear hcx
      obtain ⟨p, hp⟩ : ∃ p, p = dg x k := ⟨_, rfl⟩
      have hpl : p < 4294967296 := by rw [hp]; exact dg_lt _ _
      rw [← hp] at h1
      have Hp := Lib.hid hp; clear hp
      have hfr := hblk.frozen k
      have hce := hblk.cell (i := k) (by rw [HL.out]; omega)
      have hB := Lib.hid hblk; clear hblk
      have i1 : ((k + 1 : Nat) : Int) - 1 = (k : Int) := by omega
      rw [i1]
      clear i1
      go_wp2_with fail
      obtain ⟨z, hz⟩ : ∃ z, z = q * 4294967296 + p := ⟨_, rfl⟩
      refine (div32_any q p y wr hql hpl hy).mono ?_
      rintro e w' ⟨rfl, nd, rfl⟩
      rw [← hz]
      obtain ⟨f1, f2, f3⟩ := quo_word (x := x) (z := z) hy0 HQ.out (by rw [hz, Hp.out])
      obtain ⟨t, ht⟩ : ∃ t, t = z / y := ⟨_, rfl⟩
      obtain ⟨r, hr⟩ : ∃ r, r = z % y := ⟨_, rfl⟩
      rw [← ht, ← hr]
      rw [← ht] at f1 f3
      rw [← hr] at f2
      have hrl : r < y := by rw [hr]; exact Nat.mod_lt _ hy0
      have F1 := Lib.hid f1; clear f1
      have F2 := Lib.hid f2; clear f2
      clear hz ht hr
      go_wp2
      go_roundw
      case rel =>
        refine ⟨k, r, L.set k t, rfl, by omega, rfl, hrl, by rw [List.length_set, HL.out], hok.set f3, ?_, ?_, F2.out.symm, ?_⟩
        · exact hB.out.set_ k t
        · exact Below.toDrewN (hbel.setCell (p := ⟨w.heap.size, k, none⟩) (Nat.le_refl _) _) nd
        · intro j hj hj'
          by_cases e : j = k
          · subst e; rw [getD_set_self (by rw [HL.out]; exact hj')]; exact F1.out.symm
          · rw [getD_set_ne (fun e' => e e'.symm)]; exact HV.out j (by omega) hj'
      case measure => simp [intOf]
end Go.Proofs.YtijhbmdbnnmogaaGreat
namespace Go.Proofs.YtijhbmdbnnmogaaGreat
open Go.RowKit

def GuessOk (U D : Nat) (w : World) (e : Ending) (w' : World) : Prop := ∃ g : Nat, e = .returned (.int .u32 g) ∧ g < 4294967296 ∧ U / D ≤ g ∧ g ≤ U / D + 1 ∧ ∃ k, w' = w.drewN k

def GRel (h v1 Q : Nat) (a b : Value) : Prop := ∃ g r : Nat, a = .int .u64 g ∧ b = .int .u64 r ∧ h = g * v1 + r ∧ Q ≤ g ∧ g < 8589934592 ∧ r < 8589934592

theorem g_step {h g r v1 Q : Nat} (hgr : h = g * v1 + r) (hQ : Q < g) (hg : g < 8589934592) (hr : r < 4294967296) (hv : v1 < 4294967296) : GRel h v1 Q (.int .u64 ((g : Int) - 1)) (.int .u64 ((r : Int) + v1)) := by
  obtain ⟨j, rfl⟩ : ∃ j, g = j + 1 := ⟨g - 1, by omega⟩
  refine ⟨j, r + v1, ?_, ?_, ?_, by omega, by omega, by omega⟩
  · rw [show ((j + 1 : Nat) : Int) - 1 = j by omega]
  · rw [Int.natCast_add]
  · rw [hgr, Nat.succ_mul]; omega

set_option maxRecDepth 100000 in
theorem guess_any (U D P u0 u1 u2 ul v1 v2 dl n gd od gp op cd cp : Nat) (w : World) (hn : 2 ≤ n) (hn2 : n ≤ 1000000)
    (kd : KD U D P (u0 * 4294967296 + u1) u2 ul v1 v2 dl) (hu0 : u0 < 4294967296) (hu1 : u1 < 4294967296)
    (c1 : w.cell? ⟨gd, od + (n - 1), none⟩ = some (.int .u32 v1)) (c2 : w.cell? ⟨gd, od + (n - 2), none⟩ = some (.int .u32 v2))
    (c3 : w.cell? ⟨gp, op + n, none⟩ = some (.int .u32 u0)) (c4 : w.cell? ⟨gp, op + (n - 1), none⟩ = some (.int .u32 u1)) (c5 : w.cell? ⟨gp, op + (n - 2), none⟩ = some (.int .u32 u2)) :
    Calls Tryz.prog 254 #[.slice (some ⟨gp, op, none⟩) (n + 1) cp, .slice (some ⟨gd, od, none⟩) n cd] w (GuessOk U D w) := by
  have hor := or_words hu0 hu1
  have hv1 := kd.v1_ge
  have hv1' := kd.v1_lt
  have hv2 := kd.v2_lt
  have hu2 := kd.u2_lt
  obtain ⟨h, hh⟩ : ∃ h, h = u0 * 4294967296 + u1 := ⟨_, rfl⟩
  rw [← hh] at kd hor
  have hhl : h < 18446744073709551616 := by omega
  have Hor := Lib.hid hor; clear hor hh
  have HK := Lib.hid kd; clear kd
  have g0 : h / v1 < 8589934592 := by
    rw [Nat.div_lt_iff_lt_mul (by omega)]
    have : 8589934592 * 2147483648 ≤ 8589934592 * v1 := Nat.mul_le_mul_left _ hv1
    omega
  have r0 : h % v1 < v1 := Nat.mod_lt _ (by omega)
  have gr : h = h / v1 * v1 + h % v1 := by rw [Nat.mul_comm]; exact (Nat.div_add_mod _ _).symm
  obtain ⟨gg, hgg⟩ : ∃ q, q = h / v1 := ⟨_, rfl⟩
  obtain ⟨rr, hrr⟩ : ∃ r, r = h % v1 := ⟨_, rfl⟩
  have hst := HK.out.start
  rw [← hgg] at g0 gr hst
  rw [← hrr] at r0 gr
  have e1 : (h : Int) / v1 = (gg : Int) := by rw [hgg]; omega
  have e2 : (h : Int) % v1 = (rr : Int) := by rw [hrr]; omega
  clear hgg hrr
  have e3 : IntKind.u64.wrap (gg : Int) = (gg : Int) := by rw [IntKind.wrap_u64]; omega
  have E1 := Lib.hid e1; clear e1
  have E2 := Lib.hid e2; clear e2
  have E3 := Lib.hid e3; clear e3
  have Gr := Lib.hid gr; clear gr
  have Hst := Lib.hid hst; clear hst
  have d2 : ((v1 : Int) == 0) = false := by simp; omega
  have b1 : (0 : Int) < v1 := by omega
  have b2 : (1 : Int) ≤ v1 := by omega
  have b3 : (0 : Int) ≤ h := by omega
  go_enter Tryz.func254, Tryz.ntmps254
  go_wp2_with fail
  have i1 : IntKind.i64.wrap ((n : Int) - 1) = (n : Int) - 1 := IntWalk.i64_in _ (by omega)
  have i2 : IntKind.i64.wrap ((n : Int) - 2) = (n : Int) - 2 := IntWalk.i64_in _ (by omega)
  have i3 : ((n : Int) - 1).toNat = n - 1 := by omega
  have i4 : ((n : Int) - 2).toNat = n - 2 := by omega
  have i5 : 0 ≤ (n : Int) - 1 := by omega
  have i6 : 0 ≤ (n : Int) - 2 := by omega
  go_quiet (fail)
  go_wp2_with fail
  go_quiet (fail)
  rw [Hor.out]
  clear i1 i2 i3 i4 i5 i6
  go_wp2_with fail
  go_quiet (fail)
  rw [E1.out, E2.out, E3.out]
  go_wp2_with fail
  go_loop [9, 10] (fun a b => GRel h v1 (U / D) a b) (fun _ b => (8589934592 - intOf b).toNat)
  case atStart => exact ⟨gg, rr, rfl, rfl, Gr.out, Hst.out, g0, by omega⟩
  case round =>
    obtain ⟨g, r, rfl, rfl, hgr, hqg, hg, hr⟩ := hrel
    have Hgr := Lib.hid hgr; clear hgr
    have Hqg := Lib.hid hqg; clear hqg
    by_cases hA : 4294967296 ≤ r
    · obtain ⟨hgl, hge⟩ := HK.out.rest Hgr.out hA Hqg.out
      have Hge := Lib.hid hge; clear hge
      have f1 : decide ((r : Int) ≤ 4294967295) = false := by simp; omega
      go_wp2
      go_ret
      exact ⟨g, rfl, hgl, Hqg.out, by rw [Hge.out]; omega, _, rfl⟩
    · have hr' : r < 4294967296 := by omega
      have f1 : decide ((r : Int) ≤ 4294967295) = true := by simp; omega
      by_cases hB : 4294967296 ≤ g
      · have hq := HK.out.q_lt
        have hg1 : U / D < g := by omega
        have Hg1 := Lib.hid hg1; clear hg1 hq
        have f2 : decide ((4294967295 : Int) < g) = true := by simp; omega
        go_wp2
        go_round
        case rel => exact g_step Hgr.out Hg1.out hg hr' hv1'
        case measure => simp [intOf]; omega
      · have hg' : g < 4294967296 := by omega
        have f2 : decide ((4294967295 : Int) < g) = false := by simp; omega
        have hor2 := or_words hr' hu2
        have hprod : g * v2 < 18446744073709551616 := by
          have : g * v2 ≤ 4294967295 * 4294967295 := Nat.mul_le_mul (by omega) (by omega)
          omega
        have hprod2 : (g : Int) * v2 < 18446744073709551616 := by rw [← Int.natCast_mul]; omega
        have hprod3 : (0 : Int) ≤ (g : Int) * v2 := by rw [← Int.natCast_mul]; omega
        have Hor2 := Lib.hid hor2; clear hor2
        by_cases hC : r * 4294967296 + u2 < g * v2
        · have hq := HK.out.high Hgr.out hC
          have hg0 : 1 ≤ g := Nat.lt_of_le_of_lt (Nat.zero_le _) hq
          have hd : decide (bits BinOp.or IntKind.u64 ((r : Int) * 4294967296) (u2 : Int) < (g : Int) * v2) = true := by rw [Hor2.out, ← Int.natCast_mul]; simp only [decide_eq_true_eq]; omega
          have Hq := Lib.hid hq; clear hq hC
          go_wp2
          go_round
          case rel => exact g_step Hgr.out Hq.out hg hr' hv1'
          case measure => simp [intOf]; omega
        · have hd : decide (bits BinOp.or IntKind.u64 ((r : Int) * 4294967296) (u2 : Int) < (g : Int) * v2) = false := by rw [Hor2.out, ← Int.natCast_mul]; simp only [decide_eq_false_iff_not]; omega
          have h1 := HK.out.one Hgr.out (Nat.le_of_not_lt hC) hg'
          have H1 := Lib.hid h1; clear h1 hC
          go_wp2
          go_ret
          exact ⟨g, rfl, hg', Hqg.out, H1.out, _, rfl⟩
end Go.Proofs.YtijhbmdbnnmogaaGreat
