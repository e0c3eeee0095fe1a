/- Plain mathematics: shifts by less than a word, division by a word or word by word. · Walks: shifts by less than a word. · Walks: division by a word. · Walks: a guessed digit of a quotient. · Walks: a multiple of the divisor is taken off a part. · Plain mathematics: a divisor with its top bit set; the outer loop of a long division. -/
import Derived.Test.YtmlopkkbgpfdnaaGreatDoorM3
import Derived.Test.YtmlopkkbgpfdnaaGreatDoorM0
import Derived.IntWalk
import Derived.Test.YtmlopkkbgpfdnaaGreatDoorM1
import Derived.Lib.BitFns
namespace Go.Proofs.YtmlopkkbgpfdnaaGreatDoor

theorem val_of_dgs {l : List Nat} {y : Nat} (h : ∀ j, j < l.length → l.getD j 0 = dg y j) (hy : y < 4294967296 ^ l.length) : val l = y := by
  have key : ∀ k, k ≤ l.length → val (l.take k) = y % 4294967296 ^ k := by
    intro k
    induction k with
    | zero => intro _; simp [val, Nat.mod_one]
    | succ k ih =>
      intro hk
      rw [val_take_succ (by omega), ih (by omega), mod_succ, h k (by omega)]
  have := key l.length (Nat.le_refl _)
  rw [List.take_of_length_le (Nat.le_refl _), Nat.mod_eq_of_lt hy] at this
  exact this

theorem div_mod_word (x b k : Nat) : x / b / 4294967296 ^ k % 4294967296 = x / 4294967296 ^ k / b % 4294967296 := by
  rw [Nat.div_div_eq_div_mul, Nat.mul_comm, ← Nat.div_div_eq_div_mul]

/-- a word of a quotient, from the rest of the words above it -/
theorem quo_word {x b k r z : Nat} (hb : 0 < b) (hr : r = x / 4294967296 ^ (k + 1) % b) (hz : z = r * 4294967296 + dg x k) :
    dg (x / b) k = z / b ∧ x / 4294967296 ^ k % b = z % b ∧ z / b < 4294967296 := by
  have hs := div_step x k
  obtain ⟨y, hy⟩ : ∃ y, y = x / 4294967296 ^ (k + 1) := ⟨_, rfl⟩
  rw [← hy] at hs hr
  have e : x / 4294967296 ^ k = z + b * (4294967296 * (y / b)) := by
    have h1 : y = b * (y / b) + r := by rw [hr]; exact (Nat.div_add_mod y b).symm
    have h2 : b * (4294967296 * (y / b)) = 4294967296 * (b * (y / b)) := Nat.mul_left_comm _ _ _
    omega
  have hrb : r < b := by rw [hr]; exact Nat.mod_lt _ hb
  have hd := dg_lt x k
  have hzb : z / b < 4294967296 := by
    rw [Nat.div_lt_iff_lt_mul hb]
    have : (r + 1) * 4294967296 ≤ b * 4294967296 := Nat.mul_le_mul_right _ hrb
    rw [Nat.mul_comm 4294967296 b]
    omega
  refine ⟨?_, ?_, hzb⟩
  · unfold dg
    rw [div_mod_word, e, Nat.add_mul_div_left _ _ hb, Nat.add_mul_mod_self_left, Nat.mod_eq_of_lt hzb]
  · rw [e, Nat.add_mul_mod_self_left]

theorem shl_parts {c e : Nat} (h : c * e = 4294967296) : 0 < c ∧ 0 < e := by
  constructor
  · rcases Nat.eq_zero_or_pos c with h0 | h0
    · subst h0; simp at h
    · exact h0
  · rcases Nat.eq_zero_or_pos e with h0 | h0
    · subst h0; simp at h
    · exact h0

/-- a multiple of c below B, and less than c more -/
theorem mul_mod_lt {c e z : Nat} (h : c * e = 4294967296) : z * c % 4294967296 = (z % e) * c ∧ (z % e) * c + c ≤ 4294967296 := by
  obtain ⟨hc, he⟩ := shl_parts h
  constructor
  · rw [← h, Nat.mul_comm z c, Nat.mul_mod_mul_left, Nat.mul_comm]
  · have : (z % e + 1) * c ≤ e * c := Nat.mul_le_mul_right c (Nat.mod_lt _ he)
    rw [Nat.succ_mul, Nat.mul_comm e c, h] at this
    exact this

theorem mul_mod_word {c x : Nat} : x * c % 4294967296 = (x % 4294967296) * c % 4294967296 := by
  rw [Nat.mul_mod, Nat.mul_mod (x % 4294967296) c, Nat.mod_mod x]

theorem dg_shl0 (x c : Nat) : dg (x * c) 0 = dg x 0 * c % 4294967296 := by
  simp only [dg, Nat.pow_zero, Nat.div_one]; exact mul_mod_word

theorem dg_shl {x k c e : Nat} (h : c * e = 4294967296) : dg (x * c) (k + 1) = dg x (k + 1) * c % 4294967296 + dg x k / e ∧ dg x k / e < c := by
  obtain ⟨hc, he⟩ := shl_parts h
  have hd := dg_lt x k
  have hde : dg x k / e < c := by rw [Nat.div_lt_iff_lt_mul he, h]; exact hd
  refine ⟨?_, hde⟩
  obtain ⟨P, hP⟩ : ∃ P, P = 4294967296 ^ k := ⟨_, rfl⟩
  have hP0 : 0 < P := by rw [hP]; exact pow_pos' k
  obtain ⟨t, ht⟩ : ∃ t, t = x % P * c / P := ⟨_, rfl⟩
  have htc : t < c := by
    rw [ht, Nat.div_lt_iff_lt_mul hP0, Nat.mul_comm c]
    exact Nat.mul_lt_mul_of_pos_right (Nat.mod_lt _ hP0) hc
  have h1 : x * c / P = x / P * c + t := by
    have e1 : x * c = x % P * c + P * (x / P * c) := by
      conv => lhs; rw [← Nat.mod_add_div x P]
      rw [Nat.add_mul, Nat.mul_assoc]
    rw [e1, Nat.add_mul_div_left _ _ hP0, ← ht, Nat.add_comm]
  have h2 : x / P = 4294967296 * (x / 4294967296 ^ (k + 1)) + dg x k := by rw [hP]; exact div_step x k
  obtain ⟨z, hz⟩ : ∃ z, z = x / 4294967296 ^ (k + 1) := ⟨_, rfl⟩
  rw [← hz] at h2
  have h3 : x * c / 4294967296 ^ (k + 1) = z * c + dg x k / e := by
    rw [Nat.pow_succ, ← hP, ← Nat.div_div_eq_div_mul, h1, h2, Nat.add_mul]
    have e2 : 4294967296 * z * c + dg x k * c + t = (dg x k * c + t) + 4294967296 * (z * c) := by rw [Nat.mul_assoc]; omega
    rw [e2, Nat.add_mul_div_left _ _ (by omega : 0 < 4294967296), Nat.add_comm]
    congr 1
    rw [← h, ← Nat.div_div_eq_div_mul, Nat.mul_comm (dg x k), Nat.mul_add_div hc, Nat.div_eq_of_lt htc, Nat.add_zero]
  have h4 : dg (x * c) (k + 1) = (z * c + dg x k / e) % 4294967296 := by unfold dg at h3 ⊢; rw [h3]
  have h5 : dg x (k + 1) = z % 4294967296 := by unfold dg; rw [hz]
  rw [h4, h5, ← mul_mod_word]
  obtain ⟨m1, m2⟩ := mul_mod_lt (z := z) h
  rw [Nat.add_mod, m1, Nat.mod_eq_of_lt (a := dg x k / e) (by omega), Nat.mod_eq_of_lt]
  omega

theorem dg_shr {x k c e : Nat} (h : c * e = 4294967296) : dg (x / c) k = dg x k / c + dg x (k + 1) * e % 4294967296 ∧ dg x k / c < e := by
  obtain ⟨hc, he⟩ := shl_parts h
  have hd := dg_lt x k
  have h' : e * c = 4294967296 := by rw [Nat.mul_comm]; exact h
  have hde : dg x k / c < e := by rw [Nat.div_lt_iff_lt_mul hc, h']; exact hd
  refine ⟨?_, hde⟩
  have h2 := div_step x k
  obtain ⟨z, hz⟩ : ∃ z, z = x / 4294967296 ^ (k + 1) := ⟨_, rfl⟩
  rw [← hz] at h2
  have h5 : dg x (k + 1) = z % 4294967296 := by unfold dg; rw [hz]
  have h3 : x / 4294967296 ^ k / c = z * e + dg x k / c := by
    rw [h2]
    have e2 : 4294967296 * z + dg x k = dg x k + c * (z * e) := by
      rw [← h]
      have : c * e * z = c * (z * e) := by ac_rfl
      omega
    rw [e2, Nat.add_mul_div_left _ _ hc, Nat.add_comm]
  have h4 : dg (x / c) k = (z * e + dg x k / c) % 4294967296 := by
    show x / c / 4294967296 ^ k % 4294967296 = _
    rw [div_mod_word, h3]
  rw [h4, h5, ← mul_mod_word]
  obtain ⟨m1, m2⟩ := mul_mod_lt (z := z) h'
  rw [Nat.add_mod, m1, Nat.mod_eq_of_lt (a := dg x k / c) (by omega), Nat.mod_eq_of_lt, Nat.add_comm]
  omega

/-- the whole division -/
theorem div_end {x y c V Q : Nat} (hc : 0 < c) (hy : 0 < y) (h : x * c = V + y * c * Q) (hV : V < y * c) : Q = x / y ∧ V / c = x % y := by
  have h1 : V % c = 0 := by
    have : V = x * c - y * c * Q := by omega
    rw [this]
    have : y * c * Q = y * Q * c := by ac_rfl
    rw [this, ← Nat.sub_mul]; exact Nat.mul_mod_left _ _
  have h2 : V = V / c * c := by have := Nat.div_add_mod V c; rw [h1, Nat.mul_comm] at this; omega
  have h3 : x = V / c + y * Q := by
    have : x * c = (V / c + y * Q) * c := by
      rw [Nat.add_mul, ← h2, h]
      congr 1
      ac_rfl
    exact Nat.eq_of_mul_eq_mul_right hc this
  have h4 : V / c < y := by rw [Nat.div_lt_iff_lt_mul hc]; exact hV
  constructor
  · rw [h3, Nat.add_mul_div_left _ _ hy, Nat.div_eq_of_lt h4]; omega
  · conv => rhs; rw [h3]
    rw [Nat.add_mul_mod_self_left, Nat.mod_eq_of_lt h4]

end Go.Proofs.YtmlopkkbgpfdnaaGreatDoor
namespace Go.Proofs.YtmlopkkbgpfdnaaGreatDoor
open Go.RowKit

theorem word_prev (v : Value) (x k : Nat) (w : World) (hv : Wd w v (dig x)) :
    Calls Tryz.prog 104 #[v, .int .i64 ((k : Int) - 1)] w fun e w' => e = .returned (.int .u32 ((if k = 0 then 0 else dg x (k - 1) : Nat) : Int)) ∧ w = w' := by
  refine (word_any v _ _ w hv).mono ?_
  rintro e w' ⟨rfl, rfl⟩
  refine ⟨?_, rfl⟩
  by_cases h : k = 0
  · subst h; rfl
  · rw [if_neg (by omega), if_neg h, show ((k : Int) - 1).toNat = k - 1 from by omega, dig_dg]

theorem two_parts {s : Nat} (hs : s ≤ 31) : 2 ^ s * 2 ^ (32 - s) = 4294967296 := by
  rw [← Nat.pow_add, show s + (32 - s) = 32 from by omega]

theorem cast_shl (p s : Nat) : (p : Int) * 2 ^ s % 4294967296 = ((p * 2 ^ s % 4294967296 : Nat) : Int) := by
  rw [Int.natCast_emod, Int.natCast_mul, Int.natCast_pow]; rfl
theorem cast_shr (p s : Nat) : (p : Int) / 2 ^ s = ((p / 2 ^ s : Nat) : Int) := by
  rw [Int.natCast_ediv, Int.natCast_pow]; rfl

theorem or_up {p q s : Nat} (hq : q < 4294967296) (hs : s ≤ 31) : bits BinOp.or IntKind.u32 ((p : Int) * 2 ^ s % 4294967296) ((q : Int) / 2 ^ (32 - s)) = ((p * 2 ^ s % 4294967296 + q / 2 ^ (32 - s) : Nat) : Int) := by
  have h := two_parts hs
  obtain ⟨h1, h2⟩ := mul_mod_lt (z := p) h
  have h3 : q / 2 ^ (32 - s) < 2 ^ s := by rw [Nat.div_lt_iff_lt_mul (shl_parts h).2, h]; exact hq
  rw [cast_shl, cast_shr, u32_or_nat _ _ (by omega) (by omega), nat_join s _ _ (by rw [h1]; exact Nat.mul_mod_left _ _) h3]

theorem or_down {p q s : Nat} (hp : p < 4294967296) (hs : s ≤ 31) : bits BinOp.or IntKind.u32 ((p : Int) / 2 ^ s) ((q : Int) * 2 ^ (32 - s) % 4294967296) = ((p / 2 ^ s + q * 2 ^ (32 - s) % 4294967296 : Nat) : Int) := by
  have h' := two_parts hs
  have h : 2 ^ (32 - s) * 2 ^ s = 4294967296 := by rw [Nat.mul_comm]; exact h'
  obtain ⟨h1, h2⟩ := mul_mod_lt (z := q) h
  have h3 : p / 2 ^ s < 2 ^ (32 - s) := by rw [Nat.div_lt_iff_lt_mul (shl_parts h).2, h]; exact hp
  rw [cast_shl, cast_shr, u32_or_nat _ _ (by omega) (by omega), Nat.or_comm, nat_join (32 - s) _ _ (by rw [h1]; exact Nat.mul_mod_left _ _) h3, Nat.add_comm]

theorem up_word {x s k p q : Nat} (hp : p = dg x k) (hq : q = (if k = 0 then 0 else dg x (k - 1))) (hs : s ≤ 31) : p * 2 ^ s % 4294967296 + q / 2 ^ (32 - s) = dg (x * 2 ^ s) k := by
  cases k with
  | zero => rw [hp, hq, dg_shl0]; simp
  | succ k => rw [hp, hq, (dg_shl (two_parts hs)).1]; simp
theorem down_word {x s k p q : Nat} (hp : p = dg x k) (hq : q = dg x (k + 1)) (hs : s ≤ 31) : p / 2 ^ s + q * 2 ^ (32 - s) % 4294967296 = dg (x / 2 ^ s) k := by
  rw [hp, hq, (dg_shr (two_parts hs)).1]

theorem shl_lt {x s n : Nat} (h : (dig x).length ≤ n) (hs : s ≤ 31) : x * 2 ^ s < 4294967296 ^ (n + 1) := by
  have h1 := lt_of_dig_len h
  have h2 : 2 ^ s ≤ 4294967296 := by
    have h3 : 2 ^ s ≤ 2 ^ 32 := Nat.pow_le_pow_right (by omega) (by omega)
    exact Nat.le_trans h3 (by decide)
  rw [Nat.pow_succ]
  exact Nat.lt_of_lt_of_le (Nat.mul_lt_mul_of_pos_right h1 (Nat.pow_pos (by omega))) (Nat.mul_le_mul_left _ h2)

theorem set_words {L : List Nat} {y k v : Nat} (hk : k < L.length) (h : ∀ j, j < k → L.getD j 0 = dg y j) (hv : v = dg y k) : ∀ j, j < k + 1 → (L.set k v).getD j 0 = dg y j := by
  intro j hj
  by_cases e : j = k
  · subst e; rw [getD_set_self hk]; exact hv
  · rw [getD_set_ne (by omega)]; exact h j (by omega)

set_option maxRecDepth 100000 in
theorem shiftedUp_any (x s : Nat) (u : Value) (w : World) (hx : Wd w u (dig x)) (lx : (dig x).length ≤ 1000000) (hs : s ≤ 31) :
    Calls Tryz.prog 117 #[u, .int .i64 (s : Int)] w fun e w' => ∃ g L, e = .returned (.slice (some ⟨g, 0, none⟩) ((dig x).length + 1) ((dig x).length + 1)) ∧ w.heap.size ≤ g ∧ Blk w' g L ∧ Ok L ∧ L.length = (dig x).length + 1 ∧ val L = x * 2 ^ s ∧ Below w.heap.size w w' := by
  have Hx := Lib.hid hx
  obtain ⟨A, c, rfl, -, -⟩ := hx.shape
  obtain ⟨n, hn⟩ : ∃ n, n = (dig x).length := ⟨_, rfl⟩
  rw [← hn] at lx Hx ⊢
  have Hn := Lib.hid hn; clear hn hx
  have hmk : ∀ w, (Instr.makeSlice 42 (.int .i64 ((n : Int) + 1)) (.int .i64 ((n : Int) + 1))).run Tryz.prog w = .ok (.slice (some ⟨w.heap.size, 0, none⟩) (n + 1) (n + 1)) (w.alloc (.cells (U32s (zeros (n + 1))) 66)) := fun w => make_u32 42 Tryz.underlying42 (n + 1) (by omega) w
  go_enter Tryz.func117, Tryz.ntmps117
  go_wp2_with fail
  go_loopw [13] (fun i wr => ∃ (k : Nat) (L : List Nat), i = .int .i64 k ∧ k ≤ (n + 1) ∧ L.length = (n + 1) ∧ Ok L ∧ Blk wr w.heap.size L ∧ Below w.heap.size w wr ∧
      ∀ j, j < k → L.getD j 0 = dg (x * 2 ^ s) j) (fun i _ => (n + 1) - (intOf i).toNat)
  case atStart => exact ⟨0, zeros (n + 1), rfl, Nat.zero_le _, zeros_length _, zeros_ok _, heap_alloc_new w _, below_alloc _ _, fun j h => absurd h (by omega)⟩
  case round =>
    obtain ⟨k, L, rfl, hk, hL, hok, hblk, hbel, hval⟩ := hrel
    have HV := Lib.hid hval; clear hval
    have HL := Lib.hid hL; clear hL
    have HX : Wd wr (.slice A n c) (dig x) := Hx.out.below hbel
    by_cases hlt : k < (n + 1)
    · have hfr := hblk.frozen k
      have hce := hblk.cell (i := k) (by rw [HL.out]; omega)
      have hB := Lib.hid hblk; clear hblk
      obtain ⟨p, hp⟩ : ∃ p, p = dg x k := ⟨_, rfl⟩
      obtain ⟨q, hq⟩ : ∃ q, q = (if k = 0 then 0 else dg x (k - 1)) := ⟨_, rfl⟩
      have hpl : p < 4294967296 := by rw [hp]; exact dg_lt _ _
      have hql : q < 4294967296 := by rw [hq]; split; omega; exact dg_lt _ _
      have w1 : ∀ w : World, Wd w (.slice A n c) (dig x) → Calls Tryz.prog 104 #[.slice A n c, .int .i64 k] w fun e w' => e = .returned (.int .u32 p) ∧ w = w' := fun w h => by rw [hp]; exact word_dig _ x k w h
      have w2 : ∀ w : World, Wd w (.slice A n c) (dig x) → Calls Tryz.prog 104 #[.slice A n c, .int .i64 ((k : Int) - 1)] w fun e w' => e = .returned (.int .u32 q) ∧ w = w' := fun w h => by rw [hq]; exact word_prev _ x k w h
      have HW1 := Lib.hid w1; clear w1
      have HW2 := Lib.hid w2; clear w2
      obtain ⟨v, hv⟩ : ∃ v, v = dg (x * 2 ^ s) k := ⟨_, rfl⟩
      have Hv := Lib.hid hv
      have hvl : v < 4294967296 := by rw [hv]; exact dg_lt _ _
      have hor := or_up (p := p) hql hs
      rw [up_word hp hq hs, ← hv] at hor
      have Hor := Lib.hid hor; clear hor hv
      have Hp := Lib.hid hp; clear hp
      have Hq := Lib.hid hq; clear hq
      have tk0 : True := trivial
      go_wp2_with fail
      have i1 : IntKind.i64.wrap ((k : Int) - 1) = ((k : Int) - 1) := IntWalk.i64_in _ (by omega)
      have i2 : IntKind.i64.wrap (32 - (s : Int)) = 32 - (s : Int) := IntWalk.i64_in _ (by omega)
      have i3 : (32 - (s : Int)).toNat = 32 - s := by omega
      have i4 : 0 ≤ 32 - (s : Int) := by omega
      go_region_with (first
        | (go_at_call 104; have _t := tk0; refine (HW1.out _ (by exact HX)).mono ?_; rintro e w' ⟨rfl, rfl⟩; clear tk0)
        | (go_at_call 104; refine (HW2.out _ (by exact HX)).mono ?_; rintro e w' ⟨rfl, rfl⟩))
      all_goals clear i1 i2 i3 i4
      all_goals go_wp2
      all_goals rw [Hor.out]
      all_goals
        go_roundw
        case rel => exact ⟨k + 1, L.set k v, by go_num, by omega, by rw [List.length_set, HL.out], hok.set hvl, (hB.out.set_ k v).drew, (hbel.setCell (Nat.le_refl _) _).drew, set_words (by rw [HL.out]; omega) HV.out Hv.out⟩
        case measure => simp [intOf]; omega
    · have hkn : k = (n + 1) := by omega
      subst hkn
      have hv : val L = x * 2 ^ s := val_of_dgs (fun j hj => HV.out j (by rw [← HL.out]; exact hj)) (by rw [HL.out]; exact shl_lt (by rw [← Hn.out]; omega) hs)
      have Hv := Lib.hid hv; clear hv
      go_wp2
      go_ret
      exact ⟨w.heap.size, L, rfl, Nat.le_refl _, hblk, hok, HL.out, Hv.out, hbel⟩

set_option maxRecDepth 100000 in
theorem shiftedDown_any (x s : Nat) (u : Value) (w : World) (hx : Wd w u (dig x)) (lx : (dig x).length ≤ 1000000) (hs : s ≤ 31) :
    Calls Tryz.prog 119 #[u, .int .i64 (s : Int)] w fun e w' => ∃ r, e = .returned r ∧ Wd w' r (dig (x / 2 ^ s)) ∧ Below w.heap.size w w' := by
  have Hx := Lib.hid hx
  obtain ⟨A, c, rfl, -, -⟩ := hx.shape
  obtain ⟨n, hn⟩ : ∃ n, n = (dig x).length := ⟨_, rfl⟩
  rw [← hn] at lx Hx ⊢
  have Hn := Lib.hid hn; clear hn hx
  have hmk : ∀ w, (Instr.makeSlice 42 (.int .i64 (n : Int)) (.int .i64 (n : Int))).run Tryz.prog w = .ok (.slice (some ⟨w.heap.size, 0, none⟩) n n) (w.alloc (.cells (U32s (zeros n)) 66)) := fun w => make_u32 42 Tryz.underlying42 n (by omega) w
  go_enter Tryz.func119, Tryz.ntmps119
  go_wp2_with fail
  go_loopw [12] (fun i wr => ∃ (k : Nat) (L : List Nat), i = .int .i64 k ∧ k ≤ n ∧ L.length = n ∧ Ok L ∧ Blk wr w.heap.size L ∧ Below w.heap.size w wr ∧
      ∀ j, j < k → L.getD j 0 = dg (x / 2 ^ s) j) (fun i _ => n - (intOf i).toNat)
  case atStart => exact ⟨0, zeros n, rfl, Nat.zero_le _, zeros_length _, zeros_ok _, heap_alloc_new w _, below_alloc _ _, fun j h => absurd h (by omega)⟩
  case round =>
    obtain ⟨k, L, rfl, hk, hL, hok, hblk, hbel, hval⟩ := hrel
    have HV := Lib.hid hval; clear hval
    have HL := Lib.hid hL; clear hL
    have HX : Wd wr (.slice A n c) (dig x) := Hx.out.below hbel
    by_cases hlt : k < n
    · have hfr := hblk.frozen k
      have hce := hblk.cell (i := k) (by rw [HL.out]; omega)
      have hB := Lib.hid hblk; clear hblk
      obtain ⟨p, hp⟩ : ∃ p, p = dg x k := ⟨_, rfl⟩
      obtain ⟨q, hq⟩ : ∃ q, q = dg x (k + 1) := ⟨_, rfl⟩
      have hpl : p < 4294967296 := by rw [hp]; exact dg_lt _ _
      have hql : q < 4294967296 := by rw [hq]; exact dg_lt _ _
      have w1 : ∀ w : World, Wd w (.slice A n c) (dig x) → Calls Tryz.prog 104 #[.slice A n c, .int .i64 k] w fun e w' => e = .returned (.int .u32 p) ∧ w = w' := fun w h => by rw [hp]; exact word_dig _ x k w h
      have w2 : ∀ w : World, Wd w (.slice A n c) (dig x) → Calls Tryz.prog 104 #[.slice A n c, .int .i64 ((k : Int) + 1)] w fun e w' => e = .returned (.int .u32 q) ∧ w = w' := fun w h => by rw [hq]; exact word_dig _ x (k + 1) w h
      have HW1 := Lib.hid w1; clear w1
      have HW2 := Lib.hid w2; clear w2
      obtain ⟨v, hv⟩ : ∃ v, v = dg (x / 2 ^ s) k := ⟨_, rfl⟩
      have Hv := Lib.hid hv
      have hvl : v < 4294967296 := by rw [hv]; exact dg_lt _ _
      have hor := or_down (q := q) hpl hs
      rw [down_word hp hq hs, ← hv] at hor
      have Hor := Lib.hid hor; clear hor hv
      have Hp := Lib.hid hp; clear hp
      have Hq := Lib.hid hq; clear hq
      have tk0 : True := trivial
      go_wp2_with fail
      have i1 : IntKind.i64.wrap ((k : Int) + 1) = ((k : Int) + 1) := IntWalk.i64_in _ (by omega)
      have i2 : IntKind.i64.wrap (32 - (s : Int)) = 32 - (s : Int) := IntWalk.i64_in _ (by omega)
      have i3 : (32 - (s : Int)).toNat = 32 - s := by omega
      have i4 : 0 ≤ 32 - (s : Int) := by omega
      go_region_with (first
        | (go_at_call 104; have _t := tk0; refine (HW1.out _ (by exact HX)).mono ?_; rintro e w' ⟨rfl, rfl⟩; clear tk0)
        | (go_at_call 104; refine (HW2.out _ (by exact HX)).mono ?_; rintro e w' ⟨rfl, rfl⟩))
      all_goals clear i1 i2 i3 i4
      all_goals go_wp2
      all_goals rw [Hor.out]
      all_goals
        go_roundw
        case rel => exact ⟨k + 1, L.set k v, by go_num, by omega, by rw [List.length_set, HL.out], hok.set hvl, (hB.out.set_ k v).drew, (hbel.setCell (Nat.le_refl _) _).drew, set_words (by rw [HL.out]; omega) HV.out Hv.out⟩
        case measure => simp [intOf]; omega
    · have hkn : k = n := by omega
      subst hkn
      have hv : val L = x / 2 ^ s := val_of_dgs (fun j hj => HV.out j (by rw [← HL.out]; exact hj)) (by rw [HL.out]; exact Nat.lt_of_le_of_lt (Nat.div_le_self _ _) (lt_of_dig_len (by rw [← Hn.out]; omega)))
      have hw2 := hblk.wd hok (by rw [HL.out]; omega) k (by rw [HL.out]; omega) (by omega)
      rw [HL.out] at hw2
      have Hv := Lib.hid hv; clear hv
      have Hw := Lib.hid hw2; clear hw2 hblk
      go_wp2_with fail
      refine (trimE_any _ _ _ Hw.out).mono ?_
      rintro e w' ⟨r, rfl, hr, rfl⟩
      rw [Hv.out] at hr
      go_wp2
      go_ret
      exact ⟨r, rfl, hr, hbel⟩

end Go.Proofs.YtmlopkkbgpfdnaaGreatDoor
namespace Go.Proofs.YtmlopkkbgpfdnaaGreatDoor
open Go.RowKit

theorem or_words {a b : Nat} (ha : a < 4294967296) (hb : b < 4294967296) : bits BinOp.or IntKind.u64 ((a : Int) * 4294967296) (b : Int) = ((a * 4294967296 + b : Nat) : Int) := by
  have e : ((a : Int) * 4294967296) = ((a * 4294967296 : Nat) : Int) := by omega
  rw [e, u64_or_nat _ _ (by omega) (by omega), nat_join 32 _ _ (by omega) (by omega)]

theorem quo_lt {a b y : Nat} (h : a < y) (hb : b < 4294967296) : (a * 4294967296 + b) / y < 4294967296 := by
  rw [Nat.div_lt_iff_lt_mul (by omega)]
  have : (a + 1) * 4294967296 ≤ y * 4294967296 := Nat.mul_le_mul_right _ h
  rw [Nat.mul_comm 4294967296 y]
  omega

set_option maxRecDepth 100000 in
theorem div32_any (a b y : Nat) (w : World) (ha : a < y) (hb : b < 4294967296) (hy : y < 4294967296) :
    Calls Tryz.prog 108 #[.int .u32 a, .int .u32 b, .int .u32 y] w fun e w' =>
      e = .returned (.tuple #[.int .u32 ((a * 4294967296 + b) / y : Nat), .int .u32 ((a * 4294967296 + b) % y : Nat)]) ∧ ∃ n, w' = w.drewN n := by
  have hor := or_words (a := a) (b := b) (by omega) hb
  have hq := quo_lt ha hb
  obtain ⟨z, hz⟩ : ∃ z, z = a * 4294967296 + b := ⟨_, rfl⟩
  rw [← hz] at hor hq ⊢
  have hzl : z < 18446744073709551616 := by omega
  have Hor := Lib.hid hor; clear hor hz
  have hr : z % y < 4294967296 := by have := Nat.mod_lt z (show 0 < y by omega); omega
  obtain ⟨q, hq'⟩ : ∃ q, q = z / y := ⟨_, rfl⟩
  obtain ⟨r, hr'⟩ : ∃ r, r = z % y := ⟨_, rfl⟩
  rw [← hq'] at hq ⊢
  rw [← hr'] at hr ⊢
  have e1 : (z : Int) / y = (q : Int) := by rw [hq']; omega
  have e2 : (z : Int) % y = (r : Int) := by rw [hr']; omega
  clear hq' hr'
  have e3 : IntKind.u64.wrap (q : Int) % 4294967296 = (q : Int) := by rw [IntKind.wrap_u64]; omega
  have e4 : (r : Int) % 4294967296 = (r : Int) := by omega
  have E3 := Lib.hid e3; clear e3
  have E4 := Lib.hid e4; clear e4
  have d1 : ((y : Int) != 0) = true := by simp; omega
  have d2 : ((y : Int) == 0) = false := by simp; omega
  have d3 : decide (y ≤ a) = false := by simp; omega
  have hy0 : (0 : Int) < y := by omega
  have hy1 : (1 : Int) ≤ y := by omega
  have hz0 : (0 : Int) ≤ z := by omega
  have E1 := Lib.hid e1; clear e1
  have E2 := Lib.hid e2; clear e2
  go_enter Tryz.func108, Tryz.ntmps108
  go_wp2_with fail
  rw [Hor.out]
  go_quiet (fail)
  rw [E1.out, E2.out, E3.out, E4.out]
  go_wp2
  go_ret2
  exact ⟨rfl, _, rfl⟩

set_option maxRecDepth 100000 in
/-- natural.divideWord -/
theorem divideWord_any (x y : Nat) (u : Value) (w : World) (hx : Wd w u (dig x)) (lx : (dig x).length ≤ 1000000) (hy0 : 0 < y) (hy : y < 4294967296) :
    Calls Tryz.prog 86 #[u, .int .u32 y] w fun e w' => ∃ r, e = .returned (.tuple #[r, .int .u32 (x % y : Nat)]) ∧ Wd w' r (dig (x / y)) ∧ Below w.heap.size w w' := by
  have Hx := Lib.hid hx
  obtain ⟨A, c, rfl, -, hcl⟩ := hx.shape
  obtain ⟨n, hn⟩ : ∃ n, n = (dig x).length := ⟨_, rfl⟩
  rw [← hn] at lx Hx ⊢
  have Hn := Lib.hid hn; clear hn hx
  have hmk : ∀ w, (Instr.makeSlice 42 (.int .i64 (n : Int)) (.int .i64 (n : Int))).run Tryz.prog w = .ok (.slice (some ⟨w.heap.size, 0, none⟩) n n) (w.alloc (.cells (U32s (zeros n)) 66)) := fun w => make_u32 42 Tryz.underlying42 n (by omega) w
  go_enter Tryz.func86, Tryz.ntmps86
  go_wp2_with fail
  go_loopw [7, 8] (fun rr i wr => ∃ (k q : Nat) (L : List Nat), i = .int .i64 ((k : Int) - 1) ∧ k ≤ n ∧ rr = .int .u32 q ∧ q < y ∧ L.length = n ∧ Ok L ∧ Blk wr w.heap.size L ∧ Below w.heap.size w wr ∧
      q = x / 4294967296 ^ k % y ∧ ∀ j, k ≤ j → j < n → L.getD j 0 = dg (x / y) j) (fun _ i _ => (intOf i + 1).toNat)
  case atStart => exact ⟨n, 0, zeros n, rfl, Nat.le_refl _, rfl, hy0, zeros_length _, zeros_ok _, heap_alloc_new w _, below_alloc _ _, by rw [div_len (by rw [Hn.out]; exact Nat.le_refl _)]; simp, fun j h h' => absurd h (by omega)⟩
  case round =>
    obtain ⟨k, q, L, rfl, hk, rfl, hql, hL, hok, hblk, hbel, hq, hval⟩ := hrel
    have HQ := Lib.hid hq; clear hq
    have HV := Lib.hid hval; clear hval
    have HL := Lib.hid hL; clear hL
    by_cases hk0 : k = 0
    · subst hk0
      have hv : val L = x / y := val_of_dgs (fun j hj => HV.out j (Nat.zero_le _) (by rw [← HL.out]; exact hj)) (by rw [HL.out]; exact Nat.lt_of_le_of_lt (Nat.div_le_self _ _) (lt_of_dig_len (by rw [← Hn.out]; omega)))
      have hw2 := hblk.wd hok (by rw [HL.out]; omega) n (by rw [HL.out]; omega) (by omega)
      rw [HL.out] at hw2
      have hqe : q = x % y := by have := HQ.out; rwa [Nat.pow_zero, Nat.div_one] at this
      have Hqe := Lib.hid hqe; clear hqe
      have Hv := Lib.hid hv; clear hv
      have Hw := Lib.hid hw2; clear hw2 hblk
      go_wp2_with fail
      refine (trimE_any _ _ _ Hw.out).mono ?_
      rintro e w' ⟨r, rfl, hr, rfl⟩
      rw [Hv.out] at hr
      obtain ⟨A3, n3, c3, rfl⟩ := hr.slice_
      go_wp2
      go_ret2
      exact ⟨_, by rw [Hqe.out]; rfl, hr, hbel⟩
    · obtain ⟨k, rfl⟩ : ∃ j, k = j + 1 := ⟨k - 1, by omega⟩
      obtain ⟨b, off, rfl, hb, hcx⟩ := Wd.cell (k := k) Hx.out (by omega)
      have h1 : wr.cell? ⟨b, off + k, none⟩ = some (.int .u32 (dg x k : Nat)) := (hbel.cell (p := ⟨b, off + k, none⟩) hb).trans (hcx k (by omega))
      clear hcx
      obtain ⟨p, hp⟩ : ∃ p, p = dg x k := ⟨_, rfl⟩
      have hpl : p < 4294967296 := by rw [hp]; exact dg_lt _ _
      rw [← hp] at h1
      have Hp := Lib.hid hp; clear hp
      have hfr := hblk.frozen k
      have hce := hblk.cell (i := k) (by rw [HL.out]; omega)
      have hB := Lib.hid hblk; clear hblk
      have i1 : ((k + 1 : Nat) : Int) - 1 = (k : Int) := by omega
      rw [i1]
      clear i1
      go_wp2_with fail
      obtain ⟨z, hz⟩ : ∃ z, z = q * 4294967296 + p := ⟨_, rfl⟩
      refine (div32_any q p y wr hql hpl hy).mono ?_
      rintro e w' ⟨rfl, nd, rfl⟩
      rw [← hz]
      obtain ⟨f1, f2, f3⟩ := quo_word (x := x) (z := z) hy0 HQ.out (by rw [hz, Hp.out])
      obtain ⟨t, ht⟩ : ∃ t, t = z / y := ⟨_, rfl⟩
      obtain ⟨r, hr⟩ : ∃ r, r = z % y := ⟨_, rfl⟩
      rw [← ht, ← hr]
      rw [← ht] at f1 f3
      rw [← hr] at f2
      have hrl : r < y := by rw [hr]; exact Nat.mod_lt _ hy0
      have F1 := Lib.hid f1; clear f1
      have F2 := Lib.hid f2; clear f2
      clear hz ht hr
      go_wp2
      go_roundw
      case rel =>
        refine ⟨k, r, L.set k t, rfl, by omega, rfl, hrl, by rw [List.length_set, HL.out], hok.set f3, ?_, ?_, F2.out.symm, ?_⟩
        · exact hB.out.set_ k t
        · exact Below.toDrewN (hbel.setCell (p := ⟨w.heap.size, k, none⟩) (Nat.le_refl _) _) nd
        · intro j hj hj'
          by_cases e : j = k
          · subst e; rw [getD_set_self (by rw [HL.out]; exact hj')]; exact F1.out.symm
          · rw [getD_set_ne (fun e' => e e'.symm)]; exact HV.out j (by omega) hj'
      case measure => simp [intOf]
end Go.Proofs.YtmlopkkbgpfdnaaGreatDoor
namespace Go.Proofs.YtmlopkkbgpfdnaaGreatDoor
open Go.RowKit

def GuessOk (U D : Nat) (w : World) (e : Ending) (w' : World) : Prop := ∃ g : Nat, e = .returned (.int .u32 g) ∧ g < 4294967296 ∧ U / D ≤ g ∧ g ≤ U / D + 1 ∧ ∃ k, w' = w.drewN k

def GRel (h v1 Q : Nat) (a b : Value) : Prop := ∃ g r : Nat, a = .int .u64 g ∧ b = .int .u64 r ∧ h = g * v1 + r ∧ Q ≤ g ∧ g < 8589934592 ∧ r < 8589934592

theorem g_step {h g r v1 Q : Nat} (hgr : h = g * v1 + r) (hQ : Q < g) (hg : g < 8589934592) (hr : r < 4294967296) (hv : v1 < 4294967296) : GRel h v1 Q (.int .u64 ((g : Int) - 1)) (.int .u64 ((r : Int) + v1)) := by
  obtain ⟨j, rfl⟩ : ∃ j, g = j + 1 := ⟨g - 1, by omega⟩
  refine ⟨j, r + v1, ?_, ?_, ?_, by omega, by omega, by omega⟩
  · rw [show ((j + 1 : Nat) : Int) - 1 = j by omega]
  · rw [Int.natCast_add]
  · rw [hgr, Nat.succ_mul]; omega

set_option maxRecDepth 100000 in
theorem guess_any (U D P u0 u1 u2 ul v1 v2 dl n gd od gp op cd cp : Nat) (w : World) (hn : 2 ≤ n) (hn2 : n ≤ 1000000)
    (kd : KD U D P (u0 * 4294967296 + u1) u2 ul v1 v2 dl) (hu0 : u0 < 4294967296) (hu1 : u1 < 4294967296)
    (c1 : w.cell? ⟨gd, od + (n - 1), none⟩ = some (.int .u32 v1)) (c2 : w.cell? ⟨gd, od + (n - 2), none⟩ = some (.int .u32 v2))
    (c3 : w.cell? ⟨gp, op + n, none⟩ = some (.int .u32 u0)) (c4 : w.cell? ⟨gp, op + (n - 1), none⟩ = some (.int .u32 u1)) (c5 : w.cell? ⟨gp, op + (n - 2), none⟩ = some (.int .u32 u2)) :
    Calls Tryz.prog 136 #[.slice (some ⟨gp, op, none⟩) (n + 1) cp, .slice (some ⟨gd, od, none⟩) n cd] w (GuessOk U D w) := by
  have hor := or_words hu0 hu1
  have hv1 := kd.v1_ge
  have hv1' := kd.v1_lt
  have hv2 := kd.v2_lt
  have hu2 := kd.u2_lt
  obtain ⟨h, hh⟩ : ∃ h, h = u0 * 4294967296 + u1 := ⟨_, rfl⟩
  rw [← hh] at kd hor
  have hhl : h < 18446744073709551616 := by omega
  have Hor := Lib.hid hor; clear hor hh
  have HK := Lib.hid kd; clear kd
  have g0 : h / v1 < 8589934592 := by
    rw [Nat.div_lt_iff_lt_mul (by omega)]
    have : 8589934592 * 2147483648 ≤ 8589934592 * v1 := Nat.mul_le_mul_left _ hv1
    omega
  have r0 : h % v1 < v1 := Nat.mod_lt _ (by omega)
  have gr : h = h / v1 * v1 + h % v1 := by rw [Nat.mul_comm]; exact (Nat.div_add_mod _ _).symm
  obtain ⟨gg, hgg⟩ : ∃ q, q = h / v1 := ⟨_, rfl⟩
  obtain ⟨rr, hrr⟩ : ∃ r, r = h % v1 := ⟨_, rfl⟩
  have hst := HK.out.start
  rw [← hgg] at g0 gr hst
  rw [← hrr] at r0 gr
  have e1 : (h : Int) / v1 = (gg : Int) := by rw [hgg]; omega
  have e2 : (h : Int) % v1 = (rr : Int) := by rw [hrr]; omega
  clear hgg hrr
  have e3 : IntKind.u64.wrap (gg : Int) = (gg : Int) := by rw [IntKind.wrap_u64]; omega
  have E1 := Lib.hid e1; clear e1
  have E2 := Lib.hid e2; clear e2
  have E3 := Lib.hid e3; clear e3
  have Gr := Lib.hid gr; clear gr
  have Hst := Lib.hid hst; clear hst
  have d2 : ((v1 : Int) == 0) = false := by simp; omega
  have b1 : (0 : Int) < v1 := by omega
  have b2 : (1 : Int) ≤ v1 := by omega
  have b3 : (0 : Int) ≤ h := by omega
  go_enter Tryz.func136, Tryz.ntmps136
  go_wp2_with fail
  have i1 : IntKind.i64.wrap ((n : Int) - 1) = (n : Int) - 1 := IntWalk.i64_in _ (by omega)
  have i2 : IntKind.i64.wrap ((n : Int) - 2) = (n : Int) - 2 := IntWalk.i64_in _ (by omega)
  have i3 : ((n : Int) - 1).toNat = n - 1 := by omega
  have i4 : ((n : Int) - 2).toNat = n - 2 := by omega
  have i5 : 0 ≤ (n : Int) - 1 := by omega
  have i6 : 0 ≤ (n : Int) - 2 := by omega
  go_quiet (fail)
  go_wp2_with fail
  go_quiet (fail)
  rw [Hor.out]
  clear i1 i2 i3 i4 i5 i6
  go_wp2_with fail
  go_quiet (fail)
  rw [E1.out, E2.out, E3.out]
  go_wp2_with fail
  go_loop [9, 10] (fun a b => GRel h v1 (U / D) a b) (fun _ b => (8589934592 - intOf b).toNat)
  case atStart => exact ⟨gg, rr, rfl, rfl, Gr.out, Hst.out, g0, by omega⟩
  case round =>
    obtain ⟨g, r, rfl, rfl, hgr, hqg, hg, hr⟩ := hrel
    have Hgr := Lib.hid hgr; clear hgr
    have Hqg := Lib.hid hqg; clear hqg
    by_cases hA : 4294967296 ≤ r
    · obtain ⟨hgl, hge⟩ := HK.out.rest Hgr.out hA Hqg.out
      have Hge := Lib.hid hge; clear hge
      have f1 : decide ((r : Int) ≤ 4294967295) = false := by simp; omega
      go_wp2
      go_ret
      exact ⟨g, rfl, hgl, Hqg.out, by rw [Hge.out]; omega, _, rfl⟩
    · have hr' : r < 4294967296 := by omega
      have f1 : decide ((r : Int) ≤ 4294967295) = true := by simp; omega
      by_cases hB : 4294967296 ≤ g
      · have hq := HK.out.q_lt
        have hg1 : U / D < g := by omega
        have Hg1 := Lib.hid hg1; clear hg1 hq
        have f2 : decide ((4294967295 : Int) < g) = true := by simp; omega
        go_wp2
        go_round
        case rel => exact g_step Hgr.out Hg1.out hg hr' hv1'
        case measure => simp [intOf]; omega
      · have hg' : g < 4294967296 := by omega
        have f2 : decide ((4294967295 : Int) < g) = false := by simp; omega
        have hor2 := or_words hr' hu2
        have hprod : g * v2 < 18446744073709551616 := by
          have : g * v2 ≤ 4294967295 * 4294967295 := Nat.mul_le_mul (by omega) (by omega)
          omega
        have hprod2 : (g : Int) * v2 < 18446744073709551616 := by rw [← Int.natCast_mul]; omega
        have hprod3 : (0 : Int) ≤ (g : Int) * v2 := by rw [← Int.natCast_mul]; omega
        have Hor2 := Lib.hid hor2; clear hor2
        by_cases hC : r * 4294967296 + u2 < g * v2
        · have hq := HK.out.high Hgr.out hC
          have hg0 : 1 ≤ g := Nat.lt_of_le_of_lt (Nat.zero_le _) hq
          have hd : decide (bits BinOp.or IntKind.u64 ((r : Int) * 4294967296) (u2 : Int) < (g : Int) * v2) = true := by rw [Hor2.out, ← Int.natCast_mul]; simp only [decide_eq_true_eq]; omega
          have Hq := Lib.hid hq; clear hq hC
          go_wp2
          go_round
          case rel => exact g_step Hgr.out Hq.out hg hr' hv1'
          case measure => simp [intOf]; omega
        · have hd : decide (bits BinOp.or IntKind.u64 ((r : Int) * 4294967296) (u2 : Int) < (g : Int) * v2) = false := by rw [Hor2.out, ← Int.natCast_mul]; simp only [decide_eq_false_iff_not]; omega
          have h1 := HK.out.one Hgr.out (Nat.le_of_not_lt hC) hg'
          have H1 := Lib.hid h1; clear h1 hC
          go_wp2
          go_ret
          exact ⟨g, rfl, hg', Hqg.out, H1.out, _, rfl⟩
end Go.Proofs.YtmlopkkbgpfdnaaGreatDoor
namespace Go.Proofs.YtmlopkkbgpfdnaaGreatDoor
open Go.RowKit

/-- w' is w but for block g -/
def TakeF (g : Nat) (w w' : World) : Prop := Below g w w' ∧ w'.heap.size = w.heap.size ∧ ∀ b, b ≠ g → w'.heap[b]? = w.heap[b]?
theorem TakeF.refl (g : Nat) (w : World) : TakeF g w w := ⟨Below.refl _ _, rfl, fun _ _ => rfl⟩
theorem TakeF.drewN {g : Nat} {w w' : World} (h : TakeF g w w') (k : Nat) : TakeF g w (w'.drewN k) := ⟨Below.toDrewN h.1 k, h.2.1, h.2.2⟩
theorem TakeF.drew {g : Nat} {w w' : World} (h : TakeF g w w') : TakeF g w w'.drew := ⟨h.1.drew, h.2.1, h.2.2⟩
theorem TakeF.set {g : Nat} {w w' : World} (h : TakeF g w w') (i : Nat) (v : Value) : TakeF g w (w'.setCell ⟨g, i, none⟩ v) :=
  ⟨h.1.setCell (p := ⟨g, i, none⟩) (Nat.le_refl _) v, by have := h.2.1; simpa [World.setCell] using this, fun b hb => (Below.heap_setCell _ ⟨g, i, none⟩ _ b hb).trans (h.2.2 b hb)⟩
theorem TakeF.cell {g b o : Nat} {w w' : World} {v : Value} (h : TakeF g w w') (hb : b ≠ g) (hc : w.cell? ⟨b, o, none⟩ = some v) : w'.cell? ⟨b, o, none⟩ = some v := by
  rw [← hc]
  have := h.2.2 b hb
  unfold World.cell?
  rw [this]

theorem kd_n {x D i n : Nat} (hn : 2 ≤ n) (hx : x < D * 4294967296 ^ (i + 1)) (hD : D < 4294967296 ^ n) (ht : 2147483648 ≤ dg D (n - 1)) :
    KD (x / 4294967296 ^ i) D (4294967296 ^ (n - 2)) (dg x (i + n) * 4294967296 + dg x (i + (n - 1))) (dg x (i + (n - 2))) (x / 4294967296 ^ i % 4294967296 ^ (n - 2)) (dg D (n - 1)) (dg D (n - 2)) (D % 4294967296 ^ (n - 2)) := by
  obtain ⟨m, rfl⟩ : ∃ m, n = m + 2 := ⟨n - 2, by omega⟩
  exact kd_of hx hD ht

/-- where the numbers stand -/
structure Place (w : World) (D n gd od g i : Nat) (L : List Nat) : Prop where
  n2 : 2 ≤ n
  n_le : n ≤ 1000000
  ne : gd ≠ g
  d : ∀ k, k < n → w.cell? ⟨gd, od + k, none⟩ = some (.int .u32 (dg D k : Nat))
  D_lt : D < 4294967296 ^ n
  top : 2147483648 ≤ dg D (n - 1)
  blk : Blk w g L
  ok : Ok L
  len : i + n + 1 ≤ L.length
  lt : val L < D * 4294967296 ^ (i + 1)

theorem Place.D_pos {w : World} {D n gd od g i : Nat} {L : List Nat} (h : Place w D n gd od g i L) : 0 < D := by
  rcases Nat.eq_zero_or_pos D with h0 | h0
  · have := h.top; rw [h0] at this; simp [dg] at this
  · exact h0
theorem Place.val_lt {w : World} {D n gd od g i : Nat} {L : List Nat} (h : Place w D n gd od g i L) : val L < 4294967296 ^ (i + n + 1) := by
  have h1 := h.lt
  have h2 : D * 4294967296 ^ (i + 1) ≤ 4294967296 ^ n * 4294967296 ^ (i + 1) := Nat.mul_le_mul_right _ (Nat.le_of_lt h.D_lt)
  rw [← Nat.pow_add, show n + (i + 1) = i + n + 1 by omega] at h2
  omega

def TakeOk (D g i : Nat) (L : List Nat) (w : World) (e : Ending) (w' : World) : Prop :=
  ∃ (q : Nat) (L' : List Nat), e = .returned (.int .u32 q) ∧ q = val L / 4294967296 ^ i / D ∧ q < 4294967296 ∧ L'.length = L.length ∧ Ok L' ∧ val L' + 4294967296 ^ i * (q * D) = val L ∧ Blk w' g L' ∧ TakeF g w w'

/-- the loop that subtracts -/
def Rel1 (D n gq g i : Nat) (L : List Nat) (w : World) (a b c : Value) (wr : World) : Prop :=
  ∃ (j cv bv : Nat) (L1 : List Nat), a = .int .u64 cv ∧ b = .int .u32 bv ∧ c = .int .i64 j ∧ j ≤ n ∧ cv < 4294967296 ∧ bv ≤ 1 ∧ L1.length = L.length ∧ Ok L1 ∧ Blk wr g L1 ∧ TakeF g w wr ∧
    val L1 + 4294967296 ^ i * (gq * (D % 4294967296 ^ j)) = val L + 4294967296 ^ (i + j) * (cv + bv) ∧ ∀ p, i + n + 1 ≤ p → L1.getD p 0 = 0
/-- the loop that adds back -/
def Rel2 (D n V g i : Nat) (L : List Nat) (w : World) (a c : Value) (wr : World) : Prop :=
  ∃ (j cv : Nat) (L1 : List Nat), a = .int .u32 cv ∧ c = .int .i64 j ∧ j ≤ n ∧ cv ≤ 1 ∧ L1.length = L.length ∧ Ok L1 ∧ Blk wr g L1 ∧ TakeF g w wr ∧
    val L1 + 4294967296 ^ (i + j) * cv = V + 4294967296 ^ i * (D % 4294967296 ^ j) ∧ ∀ p, i + n + 1 ≤ p → L1.getD p 0 = 0

theorem back_last {V V' X p old c nw : Nat} (hV : V + p * c = X) (hV' : V' + p * old = V + p * nw) (hnw : nw = (old + c) % 4294967296) : V' + p * 4294967296 * ((old + c) / 4294967296) = X := by
  have h1 : nw + 4294967296 * ((old + c) / 4294967296) = old + c := by omega
  have h2 : p * nw + p * 4294967296 * ((old + c) / 4294967296) = p * old + p * c := by
    rw [Nat.mul_assoc, ← Nat.mul_add, ← Nat.mul_add, h1]
  omega

set_option maxRecDepth 100000 in
theorem take_any (D n gd od cd g i cp : Nat) (L : List Nat) (w : World) (h : Place w D n gd od g i L) :
    Calls Tryz.prog 118 #[.slice (some ⟨g, i, none⟩) (n + 1) cp, .slice (some ⟨gd, od, none⟩) n cd] w (TakeOk D g i L w) := by
  have n2 := h.n2
  have nle := h.n_le
  have hne := h.ne
  have hlen := h.len
  have H := Lib.hid h; clear h
  have kd := kd_n n2 H.out.lt H.out.D_lt H.out.top
  have hg := guess_any _ D _ _ _ _ _ _ _ _ n gd od g i cd cp w n2 nle kd (dg_lt _ _) (dg_lt _ _) (H.out.d _ (by omega)) (H.out.d _ (by omega))
    (by rw [← val_dg H.out.ok]; exact H.out.blk.cell (by omega)) (by rw [← val_dg H.out.ok]; exact H.out.blk.cell (by omega)) (by rw [← val_dg H.out.ok]; exact H.out.blk.cell (by omega))
  have Hg := Lib.hid hg; clear hg kd
  go_enter Tryz.func118, Tryz.ntmps118
  go_wp2_with fail
  refine Hg.out.mono ?_
  rintro e w' ⟨gq, rfl, hgl, hq1, hq2, nd, rfl⟩
  have Hq1 := Lib.hid hq1; clear hq1
  have Hq2 := Lib.hid hq2; clear hq2
  go_wp2_with fail
  go_loopw [7, 8, 22] (fun a b c wr => Rel1 D n gq g i L w a b c wr) (fun _ _ c _ => n - (intOf c).toNat)
  case atStart => exact ⟨0, 0, 0, L, rfl, rfl, rfl, Nat.zero_le _, by omega, by omega, rfl, H.out.ok, H.out.blk, (TakeF.refl _ _).drewN _, by simp [Nat.mod_one], words_zero H.out.ok H.out.val_lt⟩
  case round =>
    obtain ⟨j, cv, bv, L1, rfl, rfl, rfl, hj, hcv, hbv, hL1, hok1, hblk1, htf, hval, hz⟩ := hrel
    have HV := Lib.hid hval; clear hval
    have HL1 := Lib.hid hL1; clear hL1
    have HZ := Lib.hid hz; clear hz
    have HT := Lib.hid htf; clear htf
    by_cases hlt : j < n
    · as_aux_lemma =>
        have h1 : wr.cell? ⟨gd, od + j, none⟩ = some (.int .u32 (dg D j : Nat)) := HT.out.cell hne (H.out.d j hlt)
        obtain ⟨d, hd⟩ : ∃ d, d = dg D j := ⟨_, rfl⟩
        have hdl : d < 4294967296 := by rw [hd]; exact dg_lt _ _
        rw [← hd] at h1
        have Hd := Lib.hid hd; clear hd
        have h3 := hblk1.cell (i := i + j) (by rw [HL1.out]; omega)
        have h4 := hblk1.frozen (i + j)
        obtain ⟨a, ha⟩ : ∃ a, a = L1.getD (i + j) 0 := ⟨_, rfl⟩
        have hal : a < 4294967296 := by rw [ha]; exact hok1.getD _
        rw [← ha] at h3
        have Ha := Lib.hid ha; clear ha
        have HB := Lib.hid hblk1; clear hblk1
        obtain ⟨s, hs⟩ : ∃ s, s = gq * d + cv := ⟨_, rfl⟩
        have hsl : s < 18446744073709551616 := by rw [hs]; have := mul_bound hgl hdl hcv (show 0 < 4294967296 by omega); omega
        have hprod : gq * d < 18446744073709551616 := by omega
        have e1 : ((gq : Int) * d + cv) % 4294967296 = ((s % 4294967296 : Nat) : Int) := by rw [hs]; omega
        have e2 : ((gq : Int) * d + cv) / 4294967296 = ((s / 4294967296 : Nat) : Int) := by rw [hs]; omega
        have hsl' : (gq : Int) * d + cv < 18446744073709551616 := by rw [hs] at hsl; omega
        obtain ⟨lo, hlo⟩ : ∃ lo, lo = s % 4294967296 := ⟨_, rfl⟩
        obtain ⟨hi, hhi⟩ : ∃ hi, hi = s / 4294967296 := ⟨_, rfl⟩
        rw [← hlo] at e1
        rw [← hhi] at e2
        have hlol : lo < 4294967296 := by rw [hlo]; omega
        have hhil : hi < 4294967296 := by rw [hhi]; omega
        have E1 := Lib.hid e1; clear e1
        have E2 := Lib.hid e2; clear e2
        have Hlo := Lib.hid hlo; clear hlo
        have Hhi := Lib.hid hhi; clear hhi
        have Hs := Lib.hid hs; clear hs
        go_wp2_with fail
        rw [E1.out]
        refine (sub32_any a lo bv hal hlol hbv wr).mono ?_
        rintro e w' ⟨rfl, rfl⟩
        obtain ⟨nw, hnw⟩ : ∃ x, x = (a + 4294967296 - lo - bv) % 4294967296 := ⟨_, rfl⟩
        obtain ⟨nb, hnb⟩ : ∃ x, x = (if a < lo + bv then 1 else 0) := ⟨_, rfl⟩
        rw [← hnw, ← hnb]
        have hnwl : nw < 4294967296 := by rw [hnw]; omega
        have hnbl : nb ≤ 1 := by rw [hnb]; split <;> omega
        have hnew : nw + lo + bv = a + 4294967296 * nb := by rw [hnw, hnb]; split <;> omega
        have Hnew := Lib.hid hnew; clear hnew hnw hnb
        go_wp2_with fail
        rw [E2.out]
        go_roundw
        case rel =>
          refine ⟨j + 1, hi, nb, L1.set (i + j) nw, rfl, rfl, by go_num, by omega, hhil, hnbl, by rw [List.length_set, HL1.out], hok1.set hnwl, HB.out.set_ _ _, HT.out.set _ _, ?_, ?_⟩
          · refine take_round HV.out (old := a) (new := nw) ?_ (by rw [Hs.out, Hd.out]) Hlo.out Hhi.out Hnew.out
            have := val_set (l := L1) (p := i + j) (v := nw) (by rw [HL1.out]; omega)
            rw [← Ha.out] at this
            exact this
          · intro t ht
            rw [getD_set_ne (by omega)]
            exact HZ.out t ht
        case measure => simp [intOf]; omega
    · have hjn : j = n := by omega
      subst hjn
      clear hj hlt
      have h3 := hblk1.cell (i := i + j) (by rw [HL1.out]; omega)
      have h4 := hblk1.frozen (i + j)
      obtain ⟨a, ha⟩ : ∃ a, a = L1.getD (i + j) 0 := ⟨_, rfl⟩
      have hal : a < 4294967296 := by rw [ha]; exact hok1.getD _
      rw [← ha] at h3
      have Ha := Lib.hid ha; clear ha
      have HB := Lib.hid hblk1; clear hblk1
      have e1 : (cv : Int) % 4294967296 = (cv : Int) := by omega
      have E1 := Lib.hid e1; clear e1
      go_wp2_with fail
      try rw [E1.out]
      refine (sub32_any a cv bv hal hcv hbv wr).mono ?_
      rintro e w' ⟨rfl, rfl⟩
      obtain ⟨nw, hnw⟩ : ∃ x, x = (a + 4294967296 - cv - bv) % 4294967296 := ⟨_, rfl⟩
      obtain ⟨nb, hnb⟩ : ∃ x, x = (if a < cv + bv then 1 else 0) := ⟨_, rfl⟩
      rw [← hnw, ← hnb]
      have hnwl : nw < 4294967296 := by rw [hnw]; omega
      have hnbl : nb ≤ 1 := by rw [hnb]; split <;> omega
      have hnew : nw + cv + bv = a + 4294967296 * nb := by rw [hnw, hnb]; split <;> omega
      have hv := HV.out
      rw [Nat.mod_eq_of_lt H.out.D_lt] at hv
      have hset := val_set (l := L1) (p := i + j) (v := nw) (by rw [HL1.out]; omega)
      rw [← Ha.out] at hset
      have hlast := take_last hv hset hnew
      rw [Nat.mul_assoc, ← Nat.mul_assoc (4294967296 ^ (i + j)), ← Nat.pow_succ] at hlast
      have htf := HT.out.set (i + j) (.int .u32 (nw : Int))
      have hblk2 := HB.out.set_ (i + j) nw
      have hok2 := hok1.set (i := i + j) hnwl
      have hlen2 : (L1.set (i + j) nw).length = L.length := by rw [List.length_set, HL1.out]
      have hz2 : ∀ p, i + j + 1 ≤ p → (L1.set (i + j) nw).getD p 0 = 0 := fun t ht => by rw [getD_set_ne (by omega)]; exact HZ.out t ht
      obtain ⟨L2, hL2⟩ : ∃ L2, L2 = L1.set (i + j) nw := ⟨_, rfl⟩
      rw [← hL2] at hlast hblk2 hok2 hlen2 hz2
      clear hset hv hnew hnw hnb hL2 E1 HV HL1 HZ HT HB Ha hok1
      have Hlast := Lib.hid hlast; clear hlast
      have Hlen2 := Lib.hid hlen2; clear hlen2
      have Hz2 := Lib.hid hz2; clear hz2
      have HT := Lib.hid htf; clear htf
      have HB := Lib.hid hblk2
      rcases (by omega : nb = 0 ∨ nb = 1) with rfl | rfl
      · as_aux_lemma =>
          have Hblk2 := Lib.hid hblk2; clear hblk2
          go_wp2
          go_ret
          have h0 : val L2 + 4294967296 ^ i * (gq * D) = val L := by have := Hlast.out; rw [Nat.mul_zero, Nat.add_zero] at this; exact this
          have hq := take_done H.out.D_pos h0 Hq1.out
          exact ⟨gq, L2, rfl, hq, hgl, Hlen2.out, hok2, h0, HB.out, HT.out⟩
      · have Hblk2 := Lib.hid hblk2; clear hblk2
        have h0 : val L2 + 4294967296 ^ i * (gq * D) = val L + 4294967296 ^ (i + j + 1) := by have := Hlast.out; rw [Nat.mul_one] at this; exact this
        have hq := take_high h0 (val_small hok2 Hz2.out) H.out.D_pos Hq2.out
        have hg0 : 1 ≤ gq := by rw [hq]; exact Nat.succ_le_succ (Nat.zero_le _)
        have H0 := Lib.hid h0; clear h0
        have Hq := Lib.hid hq; clear hq
        have HT1 := HT
        obtain ⟨wb, hwb⟩ : ∃ x, x = wr.setCell ⟨g, i + j, none⟩ (.int .u32 (nw : Int)) := ⟨_, rfl⟩
        rw [← hwb] at HT HB Hblk2
        have Hwb := Lib.hid hwb; clear hwb HT1
        go_wp2_with fail
        rw [← Hwb.out]
        clear Hwb
        go_loopw [12, 70] (fun a c wr => Rel2 D j (val L2) g i L w a c wr) (fun _ c _ => j - (intOf c).toNat)
        case atStart => exact ⟨0, 0, L2, rfl, rfl, Nat.zero_le _, by omega, Hlen2.out, hok2, HB.out, HT.out, by simp [Nat.mod_one], Hz2.out⟩
        case round =>
          obtain ⟨k, cv2, L3, rfl, rfl, hk, hcv2, hL3, hok3, hblk3, htf, hval, hz⟩ := hrel
          have HV := Lib.hid hval; clear hval
          have HL3 := Lib.hid hL3; clear hL3
          have HZ := Lib.hid hz; clear hz
          have HTT := Lib.hid htf; clear htf
          by_cases hlt : k < j
          · as_aux_lemma =>
              have h1 : wr.cell? ⟨gd, od + k, none⟩ = some (.int .u32 (dg D k : Nat)) := HTT.out.cell hne (H.out.d k hlt)
              obtain ⟨d, hd⟩ : ∃ d, d = dg D k := ⟨_, rfl⟩
              have hdl : d < 4294967296 := by rw [hd]; exact dg_lt _ _
              rw [← hd] at h1
              have Hd := Lib.hid hd; clear hd
              have h3 := hblk3.cell (i := i + k) (by rw [HL3.out]; omega)
              have h4 := hblk3.frozen (i + k)
              obtain ⟨a2, ha⟩ : ∃ a, a = L3.getD (i + k) 0 := ⟨_, rfl⟩
              have hal2 : a2 < 4294967296 := by rw [ha]; exact hok3.getD _
              rw [← ha] at h3
              have Ha := Lib.hid ha; clear ha
              have HB3 := Lib.hid hblk3; clear hblk3
              go_wp2_with fail
              refine (add32_any a2 d cv2 hal2 hdl (by omega) wr).mono ?_
              rintro e w' ⟨rfl, rfl⟩
              obtain ⟨nw2, hnw⟩ : ∃ x, x = (a2 + d + cv2) % 4294967296 := ⟨_, rfl⟩
              obtain ⟨nb2, hnb⟩ : ∃ x, x = (a2 + d + cv2) / 4294967296 := ⟨_, rfl⟩
              rw [← hnw, ← hnb]
              have hnwl2 : nw2 < 4294967296 := by rw [hnw]; omega
              have hnbl2 : nb2 ≤ 1 := by rw [hnb]; omega
              have Hnw := Lib.hid hnw; clear hnw
              have Hnb := Lib.hid hnb; clear hnb
              go_wp2_with fail
              go_roundw
              case rel =>
                refine ⟨k + 1, nb2, L3.set (i + k) nw2, rfl, by go_num, by omega, hnbl2, by rw [List.length_set, HL3.out], hok3.set hnwl2, HB3.out.set_ _ _, HTT.out.set _ _, ?_, ?_⟩
                · refine back_round HV.out (old := a2) (new := nw2) (s := a2 + d + cv2) ?_ (by rw [Hd.out]) Hnw.out Hnb.out
                  have := val_set (l := L3) (p := i + k) (v := nw2) (by rw [HL3.out]; omega)
                  rw [← Ha.out] at this
                  exact this
                · intro t ht
                  rw [getD_set_ne (by omega)]
                  exact HZ.out t ht
              case measure => simp [intOf]; omega
          · have hkj : k = j := by omega
            subst hkj
            clear hk hlt
            have h3 := hblk3.cell (i := i + k) (by rw [HL3.out]; omega)
            have h4 := hblk3.frozen (i + k)
            obtain ⟨a2, ha⟩ : ∃ a, a = L3.getD (i + k) 0 := ⟨_, rfl⟩
            have hal2 : a2 < 4294967296 := by rw [ha]; exact hok3.getD _
            rw [← ha] at h3
            have Ha := Lib.hid ha; clear ha
            have HB3 := Lib.hid hblk3; clear hblk3
            have e1 : ((a2 : Int) + cv2) % 4294967296 = (((a2 + cv2) % 4294967296 : Nat) : Int) := by omega
            obtain ⟨nw2, hnw⟩ : ∃ x, x = (a2 + cv2) % 4294967296 := ⟨_, rfl⟩
            rw [← hnw] at e1
            have hnwl2 : nw2 < 4294967296 := by rw [hnw]; omega
            have E1 := Lib.hid e1; clear e1
            have Hnw := Lib.hid hnw; clear hnw
            go_wp2
            rw [E1.out]
            go_ret
            have hv := HV.out
            rw [Nat.mod_eq_of_lt H.out.D_lt] at hv
            have hset := val_set (l := L3) (p := i + k) (v := nw2) (by rw [HL3.out]; omega)
            rw [← Ha.out] at hset
            have hl := back_last hv hset Hnw.out
            rw [← Nat.pow_succ] at hl
            have hokM := hok3.set (i := i + k) hnwl2
            have hM := val_small hokM (k := i + k + 1) (fun t ht => by rw [getD_set_ne (by omega)]; exact HZ.out t ht)
            have hq := Hq.out
            have hfin := back_done H0.out hq rfl hl (by omega) hM
            refine ⟨gq - 1, L3.set (i + k) nw2, ?_, ?_, by omega, by rw [List.length_set, HL3.out], hokM, ?_, HB3.out.set_ _ _, HTT.out.set _ _⟩
            · show Ending.returned (.int .u32 ((gq : Int) - 1)) = _
              rw [show ((gq : Int) - 1) = ((gq - 1 : Nat) : Int) by omega]
            · rw [hq, Nat.add_sub_cancel]
            · rw [hq, Nat.add_sub_cancel]; exact hfin
end Go.Proofs.YtmlopkkbgpfdnaaGreatDoor
namespace Go.Proofs.YtmlopkkbgpfdnaaGreatDoor
open Go

theorem bitLen_bounds (t : Nat) : 0 < t → t < 18446744073709551616 → 2 ^ (Lib.bitLen t) ≤ 2 * t ∧ t < 2 ^ (Lib.bitLen t) := by
  induction t using Nat.strongRecOn with
  | ind t ih =>
    intro h0 h1
    have hh := Lib.bitLen_half t (by omega) h1
    by_cases h : t = 1
    · subst h; decide
    · obtain ⟨a, b⟩ := ih (t / 2) (by omega) (by omega) (by omega)
      rw [hh, Nat.pow_add]
      omega

theorem norm_word {t : Nat} (h0 : 0 < t) (h1 : t < 4294967296) : ∃ s : Nat, s ≤ 31 ∧ (32 : Int) - (Lib.bitLen t : Int) = s ∧ 2147483648 ≤ t * 2 ^ s ∧ t * 2 ^ s + 2 ^ s ≤ 4294967296 := by
  obtain ⟨a, b⟩ := bitLen_bounds t h0 (by omega)
  have hL : Lib.bitLen t ≤ 32 := Lib.bitLen_le t 32 (by omega) h1
  have hL1 : 1 ≤ Lib.bitLen t := by
    rcases Nat.eq_zero_or_pos (Lib.bitLen t) with h | h
    · rw [h] at b; simp at b; omega
    · exact h
  have e : 2 ^ (Lib.bitLen t) * 2 ^ (32 - Lib.bitLen t) = 4294967296 := by rw [← Nat.pow_add, show Lib.bitLen t + (32 - Lib.bitLen t) = 32 by omega]
  refine ⟨32 - Lib.bitLen t, by omega, by omega, ?_, ?_⟩
  · have := Nat.mul_le_mul_right (2 ^ (32 - Lib.bitLen t)) a
    rw [e, Nat.mul_assoc] at this
    omega
  · have := Nat.mul_le_mul_right (2 ^ (32 - Lib.bitLen t)) b
    rw [e, Nat.succ_mul] at this
    exact this

theorem top_word {y n : Nat} (hn : n = (dig y).length) (h : 0 < n) : y = y % 4294967296 ^ (n - 1) + 4294967296 ^ (n - 1) * dg y (n - 1) ∧ 0 < dg y (n - 1) := by
  obtain ⟨m, rfl⟩ : ∃ m, n = m + 1 := ⟨n - 1, by omega⟩
  have h1 := mod_succ y m
  rw [mod_len (by rw [← hn]; exact Nat.le_refl _)] at h1
  refine ⟨h1, ?_⟩
  rcases Nat.eq_zero_or_pos (dg y m) with h0 | h0
  · rw [h0, Nat.mul_zero, Nat.add_zero] at h1
    have h2 : y < 4294967296 ^ m := by rw [h1]; exact Nat.mod_lt _ (pow_pos' m)
    have := dig_len_le h2
    omega
  · exact h0

/-- the divisor, shifted up -/
theorem norm_div {y n t c : Nat} (hn : n = (dig y).length) (h : 0 < n) (ht : t = dg y (n - 1)) (h1 : 2147483648 ≤ t * c) (h2 : t * c + c ≤ 4294967296) :
    y * c < 4294967296 ^ n ∧ 2147483648 ≤ dg (y * c) (n - 1) ∧ (dig (y * c)).length = n ∧ 2147483648 * 4294967296 ^ (n - 1) ≤ y * c := by
  obtain ⟨e, -⟩ := top_word hn h
  rw [← ht] at e
  obtain ⟨m, rfl⟩ : ∃ m, n = m + 1 := ⟨n - 1, by omega⟩
  rw [Nat.add_sub_cancel] at e ⊢
  have hP := pow_pos' m
  obtain ⟨lo, hlo⟩ : ∃ lo, lo = y % 4294967296 ^ m := ⟨_, rfl⟩
  have hlt : lo < 4294967296 ^ m := by rw [hlo]; exact Nat.mod_lt _ hP
  rw [← hlo] at e
  obtain ⟨P, hPd⟩ : ∃ P, P = 4294967296 ^ m := ⟨_, rfl⟩
  have hps : 4294967296 ^ (m + 1) = P * 4294967296 := by rw [Nat.pow_succ, hPd]
  rw [← hPd] at e hlt hP ⊢
  have e2 : y * c = lo * c + P * (t * c) := by rw [e, Nat.add_mul, Nat.mul_assoc]
  have a1 : lo * c ≤ P * c := Nat.mul_le_mul_right c (by omega)
  have a2 : P * (t * c + c) ≤ P * 4294967296 := Nat.mul_le_mul_left P h2
  rw [Nat.mul_add] at a2
  have hc : 0 < c := by
    rcases Nat.eq_zero_or_pos c with h0 | h0
    · rw [h0] at h1; omega
    · exact h0
  have a3 : lo * c < P * c := Nat.mul_lt_mul_of_pos_right hlt hc
  have hD : y * c < 4294967296 ^ (m + 1) := by rw [hps]; omega
  have a4 : P * 2147483648 ≤ P * (t * c) := Nat.mul_le_mul_left P h1
  have hge : 2147483648 * P ≤ y * c := by omega
  have hq : 2147483648 ≤ y * c / P := by rw [Nat.le_div_iff_mul_le hP]; exact hge
  have hq2 : y * c / P < 4294967296 := by rw [Nat.div_lt_iff_lt_mul hP]; omega
  have hdg : dg (y * c) m = y * c / P := by unfold dg; rw [← hPd, Nat.mod_eq_of_lt hq2]
  refine ⟨hD, by rw [hdg]; exact hq, ?_, hge⟩
  have l1 := dig_len_le hD
  rcases Nat.lt_or_ge (dig (y * c)).length (m + 1) with h3 | h3
  · have := dg_zero (x := y * c) (i := m) (by omega)
    omega
  · omega

theorem shl_start {x y c n nx m : Nat} (hn : 0 < n) (hx : nx = (dig x).length) (hm : m = nx + 1 - n) (hnx : n ≤ nx) (hc : c ≤ 2147483648) (hD : 2147483648 * 4294967296 ^ (n - 1) ≤ y * c) (hc0 : 0 < c) :
    x * c < y * c * 4294967296 ^ m := by
  have h1 : x < 4294967296 ^ nx := lt_of_dig_len (by omega)
  have h2 : x * c < 4294967296 ^ nx * c := Nat.mul_lt_mul_of_pos_right h1 hc0
  have h3 : 4294967296 ^ nx * c ≤ 4294967296 ^ nx * 2147483648 := Nat.mul_le_mul_left _ hc
  have h4 := Nat.mul_le_mul_right (4294967296 ^ m) hD
  rw [Nat.mul_assoc, ← Nat.pow_add, show n - 1 + m = nx by omega, Nat.mul_comm] at h4
  omega

/-- a round of the outer loop -/
theorem outer_round {X D V V' Q Q' q i : Nat} (h : X = V + D * Q) (hV : V' + 4294967296 ^ i * (q * D) = V) (hQ : Q' = Q + 4294967296 ^ i * q) : X = V' + D * Q' := by
  have e : D * (4294967296 ^ i * q) = 4294967296 ^ i * (q * D) := by ac_rfl
  rw [hQ, Nat.mul_add, e]
  omega

end Go.Proofs.YtmlopkkbgpfdnaaGreatDoor
