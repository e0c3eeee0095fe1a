/- Walks: the reference's trim and less, with the address of what they return. · Walks of the reference: half. · The reference's divisor and inverse, as mathematics. · Walks: the reference's naturals: plus. -/
import Derived.Test.YtmlopkkbgpfdnabGreatM15
import Derived.Test.YtmlopkkbgpfdnabGreatM3
import Derived.Test.YtmlopkkbgpfdnabGreatM2
import Derived.RegionTactic
import Derived.ChangeAlike
import Derived.Test.YtmlopkkbgpfdnabGreatM5
namespace Go.Proofs.YtmlopkkbgpfdnabGreat
open Go.RowKit

set_option maxRecDepth 100000 in
/-- ref trim: the same address -/
theorem trimR_at (A : Option Addr) (nn c : Nat) (l : List Nat) (w : World) (hv : Wd w (.slice A nn c) l) :
    Calls Tryz.prog 140 #[.slice A nn c] w fun e w' => ∃ k, e = .returned (.slice A k c) ∧ Wd w (.slice A k c) (dig (val l)) ∧ w = w' := by
  obtain ⟨A', c', he, h1, h2, h3, h4⟩ := hv
  injection he with e1 e2 e3
  subst e1 e2 e3
  obtain ⟨n, hn⟩ : ∃ n, n = l.length := ⟨_, rfl⟩
  rw [← hn] at h1 h4 ⊢
  have Hn := Lib.hid hn; clear hn
  have hm : n ≤ 9223372036854775807 := by omega
  go_enter Tryz.func140, Tryz.ntmps140
  go_wp2
  go_loop [0] (fun v => ∃ k : Nat, v = .slice A k c ∧ k ≤ n ∧ ∀ j, k ≤ j → j < n → l.getD j 0 = 0) (fun v => match v with | .slice _ k _ => k | _ => 0)
  case atStart => exact ⟨n, rfl, Nat.le_refl _, fun j h h' => by omega⟩
  case round =>
    obtain ⟨k, rfl, hk, hz⟩ := hrel
    by_cases k0 : k = 0
    · subst k0
      have HZ := Lib.hid hz; clear hz
      go_wp2
      go_ret
      refine ⟨0, rfl, ?_, rfl⟩
      rw [dig_take (k := 0) h3 (by omega) (fun j h h' => HZ.out j h (by rw [Hn.out]; exact h')) (.inl rfl)]
      exact ⟨A, c, rfl, by simp, by omega, Ok.nil, fun h => absurd h (by simp)⟩
    · obtain ⟨b, off, rfl, hb, hc⟩ := h4 (by omega)
      have hx := hc (k - 1) (by omega)
      obtain ⟨x, hxe⟩ : ∃ x, x = l.getD (k - 1) 0 := ⟨_, rfl⟩
      rw [← hxe] at hx
      have Hx := Lib.hid hxe; clear hxe
      have HC := Lib.hid hc; clear hc h4
      have HZ := Lib.hid hz; clear hz
      have hkp : 0 < k := by omega
      have hkd : decide ((0 : Int) < (k : Int)) = true := by simp; omega
      by_cases hx0 : x = 0
      · subst hx0
        go_wp2
        go_round
        case rel =>
          refine ⟨k - 1, by simp, by omega, fun j hj hj' => ?_⟩
          by_cases e : j = k - 1
          · rw [e]; exact Hx.out.symm
          · exact HZ.out j (by omega) hj'
        case measure => simp; omega
      · go_wp2
        go_ret
        have hl : (l.take k).length = k := by rw [List.length_take, ← Hn.out]; omega
        refine ⟨k, rfl, ?_, rfl⟩
        rw [dig_take (k := k) h3 (by rw [← Hn.out]; omega) (fun j h h' => HZ.out j h (by rw [Hn.out]; exact h')) (.inr (by rw [← Hx.out]; exact hx0))]
        refine ⟨some ⟨b, off, none⟩, c, by rw [hl], by omega, by omega, h3.take k, fun _ => ⟨b, off, rfl, hb, fun j hj => ?_⟩⟩
        rw [hl] at hj
        rw [HC.out j (by omega)]
        simp [List.getD_eq_getElem?_getD, List.getElem?_take, hj]

set_option maxHeartbeats 800000 in
set_option maxRecDepth 100000 in
/-- ref less -/
theorem lessR_at (x y : Nat) (u v : Value) (w : World) (hx : Wd w u (dig x)) (hy : Wd w v (dig y)) (lx : (dig x).length ≤ 1000000) (hyx : y ≤ x) :
    Calls Tryz.prog 131 #[u, v] w fun e w' => ∃ b o n c, e = .returned (.slice (some ⟨b, o, none⟩) n c) ∧ w.heap.size ≤ b ∧ Wd w' (.slice (some ⟨b, o, none⟩) n c) (dig (x - y)) ∧ Below w.heap.size w w' := by
  have hly := dig_len_mono hyx
  obtain ⟨A, c, rfl, -, -⟩ := hx.shape
  obtain ⟨A', c', rfl, -, -⟩ := hy.shape
  obtain ⟨nx, hnx⟩ : ∃ n, n = (dig x).length := ⟨_, rfl⟩
  obtain ⟨ny, hny⟩ : ∃ n, n = (dig y).length := ⟨_, rfl⟩
  rw [← hnx] at lx hx hly ⊢
  rw [← hny] at hy hly ⊢
  have Hx := Lib.hid hx; clear hx
  have Hy := Lib.hid hy; clear hy
  have Hnx := Lib.hid hnx; clear hnx
  have Hny := Lib.hid hny; clear hny
  have Hyx := Lib.hid hyx; clear hyx
  have hmk : ∀ w, (Instr.makeSlice 51 (.int .i64 (nx : Int)) (.int .i64 (nx : Int))).run Tryz.prog w = .ok (.slice (some ⟨w.heap.size, 0, none⟩) nx nx) (w.alloc (.cells (U32s (zeros nx)) 75)) := fun w => make_u32 51 Tryz.underlying51 nx (by omega) w
  go_enter Tryz.func131, Tryz.ntmps131
  go_wp2_with fail
  go_loopw [6, 14] (fun cr i wr => ∃ (k cv : Nat) (L : List Nat), i = .int .i64 k ∧ k ≤ nx ∧ cr = .int .u64 cv ∧ cv ≤ 1 ∧ L.length = nx ∧ Ok L ∧ Blk wr w.heap.size L ∧ Below w.heap.size w wr ∧
      val (L.take k) + y % 4294967296 ^ k = x % 4294967296 ^ k + 4294967296 ^ k * cv) (fun _ i _ => nx - (intOf i).toNat)
  case atStart => exact ⟨0, 0, zeros nx, rfl, Nat.zero_le _, rfl, by omega, zeros_length _, zeros_ok _, heap_alloc_new w _, below_alloc _ _, by simp [val, Nat.mod_one]⟩
  case round =>
    obtain ⟨k, cv, L, rfl, hk, rfl, hcv, hL, hok, hblk, hbel, hval⟩ := hrel
    have HV := Lib.hid hval; clear hval
    have HL := Lib.hid hL; clear hL
    have HX := Lib.hid (Hx.out.below hbel)
    have HY := Lib.hid (Hy.out.below hbel)
    by_cases hlt : k < nx
    · have hfr := hblk.frozen k
      have hce := hblk.cell (i := k) (by rw [HL.out]; omega)
      have hB := Lib.hid hblk; clear hblk
      obtain ⟨b, off, rfl, hb, hc⟩ := Wd.cell (k := k) HX.out hlt
      have hxk := hc k hlt
      clear hc
      obtain ⟨p, hp⟩ : ∃ p, p = dg x k := ⟨_, rfl⟩
      have hpl : p < 4294967296 := by rw [hp]; exact dg_lt _ _
      rw [← hp] at hxk
      have Hp := Lib.hid hp; clear hp
      by_cases hky : k < ny
      · obtain ⟨b', off', rfl, hb', hc'⟩ := Wd.cell (k := k) HY.out hky
        have hyk := hc' k hky
        clear hc'
        obtain ⟨q, hq⟩ : ∃ q, q = dg y k := ⟨_, rfl⟩
        have hql : q < 4294967296 := by rw [hq]; exact dg_lt _ _
        rw [← hq] at hyk
        have Hq := Lib.hid hq; clear hq
        by_cases hge : q + cv ≤ p
        · go_wp2_with fail
          have w1 : ((p : Int) - cv - q) = ((p - cv - q : Nat) : Int) := by omega
          have w2 : ((p : Int) - cv - q) / 9223372036854775808 = ((0 : Nat) : Int) := by omega
          rw [w2, w1]
          go_roundw
          case rel =>
            refine ⟨k + 1, 0, L.set k (p - cv - q), by go_num, by omega, rfl, by omega, by rw [List.length_set, HL.out], hok.set (by omega), hB.out.set_ k _, hbel.setCell (Nat.le_refl _) _, ?_⟩
            rw [val_take_set (by rw [HL.out]; omega)]
            exact sub_round HV.out hcv (by rw [← Hp.out, ← Hq.out]; omega) (by rw [← Hp.out, ← Hq.out]; rw [if_neg (by omega)])
          case measure => simp [intOf]; omega
        · have hlt2 : p < q + cv := by omega
          go_wp2_with fail
          have w1 : (IntKind.u64.wrap (IntKind.u64.wrap ((p : Int) - cv) - q)) % 4294967296 = ((p + 4294967296 - q - cv : Nat) : Int) := by rw [IntKind.wrap_u64, IntKind.wrap_u64]; omega
          have w2 : (IntKind.u64.wrap (IntKind.u64.wrap ((p : Int) - cv) - q)) / 9223372036854775808 = ((1 : Nat) : Int) := by rw [IntKind.wrap_u64, IntKind.wrap_u64]; omega
          rw [w1, w2]
          go_roundw
          case rel =>
            refine ⟨k + 1, 1, L.set k (p + 4294967296 - q - cv), by go_num, by omega, rfl, by omega, by rw [List.length_set, HL.out], hok.set (by omega), hB.out.set_ k _, hbel.setCell (Nat.le_refl _) _, ?_⟩
            rw [val_take_set (by rw [HL.out]; omega)]
            exact sub_round HV.out hcv (by rw [← Hp.out, ← Hq.out]; omega) (by rw [← Hp.out, ← Hq.out]; rw [if_pos (by omega)])
          case measure => simp [intOf]; omega
      · have hq : 0 = dg y k := by rw [dg_zero (by rw [← Hny.out]; omega)]
        have Hq := Lib.hid hq; clear hq
        by_cases hge : cv ≤ p
        · go_wp2_with fail
          have w1 : ((p : Int) - cv) = ((p - cv : Nat) : Int) := by omega
          have w2 : ((p : Int) - cv) / 9223372036854775808 = ((0 : Nat) : Int) := by omega
          rw [w2, w1]
          go_roundw
          case rel =>
            refine ⟨k + 1, 0, L.set k (p - cv), by go_num, by omega, rfl, by omega, by rw [List.length_set, HL.out], hok.set (by omega), hB.out.set_ k _, hbel.setCell (Nat.le_refl _) _, ?_⟩
            rw [val_take_set (by rw [HL.out]; omega)]
            exact sub_round HV.out hcv (by rw [← Hp.out, ← Hq.out]; omega) (by rw [← Hp.out, ← Hq.out]; rw [if_neg (by omega)])
          case measure => simp [intOf]; omega
        · have hlt2 : p < cv := by omega
          go_wp2_with fail
          have w1 : (IntKind.u64.wrap ((p : Int) - cv)) % 4294967296 = ((p + 4294967296 - cv : Nat) : Int) := by rw [IntKind.wrap_u64]; omega
          have w2 : (IntKind.u64.wrap ((p : Int) - cv)) / 9223372036854775808 = ((1 : Nat) : Int) := by rw [IntKind.wrap_u64]; omega
          rw [w1, w2]
          go_roundw
          case rel =>
            refine ⟨k + 1, 1, L.set k (p + 4294967296 - cv), by go_num, by omega, rfl, by omega, by rw [List.length_set, HL.out], hok.set (by omega), hB.out.set_ k _, hbel.setCell (Nat.le_refl _) _, ?_⟩
            rw [val_take_set (by rw [HL.out]; omega)]
            exact sub_round HV.out hcv (by rw [← Hp.out, ← Hq.out]; omega) (by rw [← Hp.out, ← Hq.out]; rw [if_pos (by omega)])
          case measure => simp [intOf]; omega
    · have hkn : k = nx := by omega
      subst hkn
      have hB := Lib.hid hblk; clear hblk
      have hv : val L = x - y := by
        have e := HV.out
        rw [List.take_of_length_le (by rw [HL.out]; omega), mod_len (x := x) (by rw [← Hnx.out]; omega)] at e
        have hxl := val_lt hok
        rw [HL.out] at hxl
        have hyy : y % 4294967296 ^ k = y := mod_len (by rw [← Hny.out]; exact hly)
        rw [hyy] at e
        have := Hyx.out
        rcases (by omega : cv = 0 ∨ cv = 1) with h | h
        · subst h; omega
        · subst h; have hlt := lt_of_dig_len (n := x) (k := k) (by rw [← Hnx.out]; omega); omega
      have hw2 := hB.out.wd hok (by rw [HL.out]; omega) k (by rw [HL.out]; omega) (by omega)
      rw [HL.out] at hw2
      have Hw := Lib.hid hw2; clear hw2
      have Hv := Lib.hid hv; clear hv
      go_wp2_with fail
      refine (trimR_at _ _ _ _ _ Hw.out).mono ?_
      rintro e w' ⟨kr, rfl, hr, rfl⟩
      rw [Hv.out] at hr
      go_wp2
      go_ret
      exact ⟨_, _, _, _, rfl, Nat.le_refl _, hr, hbel⟩
end Go.Proofs.YtmlopkkbgpfdnabGreat
namespace Go.Proofs.YtmlopkkbgpfdnabGreat
open Go.RowKit

set_option maxHeartbeats 800000 in
set_option maxRecDepth 100000 in
/-- half -/
theorem half_any (x : Nat) (u : Value) (w : World) (hx : Wd w u (dig x)) (lx : (dig x).length ≤ 1000000) :
    Calls Tryz.prog 142 #[u] w fun e w' => ∃ r, e = .returned r ∧ Wd w' r (dig (x / 2)) ∧ Below w.heap.size w w' := by
  have Hx := Lib.hid hx
  obtain ⟨A, c, rfl, -, -⟩ := hx.shape
  obtain ⟨n, hn⟩ : ∃ n, n = (dig x).length := ⟨_, rfl⟩
  rw [← hn] at lx Hx ⊢
  have Hn := Lib.hid hn; clear hn hx
  have hmk : ∀ w, (Instr.makeSlice 51 (.int .i64 (n : Int)) (.int .i64 (n : Int))).run Tryz.prog w = .ok (.slice (some ⟨w.heap.size, 0, none⟩) n n) (w.alloc (.cells (U32s (zeros n)) 75)) := fun w => make_u32 51 Tryz.underlying51 n (by omega) w
  go_enter Tryz.func142, Tryz.ntmps142
  go_wp2_with fail
  go_loopw [10] (fun i wr => ∃ (k : Nat) (L : List Nat), i = .int .i64 k ∧ k ≤ n ∧ L.length = n ∧ Ok L ∧ Blk wr w.heap.size L ∧ Below w.heap.size w wr ∧
      ∀ j, j < k → L.getD j 0 = dg (x / 2) j) (fun i _ => n - (intOf i).toNat)
  case atStart => exact ⟨0, zeros n, rfl, Nat.zero_le _, zeros_length _, zeros_ok _, heap_alloc_new w _, below_alloc _ _, fun j h => absurd h (by omega)⟩
  case round =>
    obtain ⟨k, L, rfl, hk, hL, hok, hblk, hbel, hval⟩ := hrel
    have HV := Lib.hid hval; clear hval
    have HL := Lib.hid hL; clear hL
    have HX := Lib.hid (Hx.out.below hbel)
    by_cases hlt : k < n
    · obtain ⟨v, hv⟩ : ∃ v, v = dg (x / 2) k := ⟨_, rfl⟩
      have Hv := Lib.hid hv
      have hvl : v < 4294967296 := by rw [hv]; exact dg_lt _ _
      obtain ⟨p, hp⟩ : ∃ p, p = dg x k := ⟨_, rfl⟩
      obtain ⟨q, hq⟩ : ∃ q, q = dg x (k + 1) := ⟨_, rfl⟩
      have hpl : p < 4294967296 := by rw [hp]; exact dg_lt _ _
      have hql : q < 4294967296 := by rw [hq]; exact dg_lt _ _
      have hor := or_down (s := 1) (q := q) hpl (by omega)
      rw [down_word (s := 1) hp hq (by omega), Nat.pow_one, ← hv] at hor
      have Hor := Lib.hid hor
      have hfr := hblk.frozen k
      have hce := hblk.cell (i := k) (by rw [HL.out]; omega)
      have hB := Lib.hid hblk; clear hblk
      obtain ⟨b, off, rfl, hb, hc⟩ := Wd.cell (k := k) Hx.out hlt
      have hxk := keepAt hbel hb (hc k hlt)
      rw [← hp] at hxk
      have e2 : p / 2 < 4294967296 := by omega
      have hp2 : (p : Int) / 2 = ((p / 2 : Nat) : Int) := by omega
      have hp3 : p / 2 + q * 2147483648 % 4294967296 = v := by rw [hv]; exact down_word (s := 1) hp hq (by omega)
      by_cases hlt2 : k + 1 < n
      · have hxk2 := keepAt hbel hb (hc (k + 1) hlt2)
        rw [← hq] at hxk2
        have ho : bits BinOp.or IntKind.u32 ((p : Int) / 2) ((q : Int) * 2147483648 % 4294967296) = (v : Int) := hor
        have Ho := Lib.hid ho
        have hB1 := hB.out.set_ k (p / 2)
        have hok1 := hok.set (i := k) e2
        obtain ⟨W1, hW1⟩ : ∃ W1, W1 = wr.setCell ⟨w.heap.size, k, none⟩ (.int .u32 ((p / 2 : Nat) : Int)) := ⟨_, rfl⟩
        have g2 : W1.cell? ⟨b, off + (k + 1), none⟩ = some (.int .u32 (q : Int)) := by
          rw [hW1, World.cell?_setCell_other _ _ _ _ (by intro e; injection e with e1; omega)]; exact hxk2
        have hbel1 : Below w.heap.size w W1 := by rw [hW1]; exact hbel.setCell (Nat.le_refl _) _
        rw [← hW1] at hB1
        have g1 := hB1.cell (i := k) (by rw [List.length_set, HL.out]; omega)
        rw [getD_set_self (by rw [HL.out]; exact hlt)] at g1
        have g3 := hB1.frozen k
        have HW1 := Lib.hid hW1; have HB1 := Lib.hid hB1
        have HP2 := Lib.hid hp2
        clear hc hor hp hq hv ho hW1 hB1 hp2 hp3
        go_wp2_with fail
        rw [HP2.out, ← HW1.out]
        have i1 : IntKind.i64.wrap ((k : Int) + 1) = ((k : Int) + 1) := IntWalk.i64_in _ (by omega)
        go_region
        all_goals go_wp2
        all_goals rw [Ho.out]
        all_goals
          go_roundw
          case rel => exact ⟨k + 1, (L.set k (p / 2)).set k v, by go_num, by omega, by rw [List.length_set, List.length_set, HL.out], hok1.set hvl, (HB1.out.set_ k v).drew, (hbel1.setCell (Nat.le_refl _) _).drew, by rw [List.set_set]; exact set_words (by rw [HL.out]; omega) HV.out Hv.out⟩
          case measure => simp [intOf]; omega
      · have hq0 : q = 0 := by rw [hq]; exact dg_zero (by rw [← Hn.out]; omega)
        have hpv : p / 2 = v := by rw [← hp3, hq0]; omega
        rw [hpv] at hp2
        have hbel1 : Below w.heap.size w (wr.setCell ⟨w.heap.size, k, none⟩ (.int .u32 (v : Int))) := hbel.setCell (Nat.le_refl _) _
        have HP2 := Lib.hid hp2
        clear hc hor hp hq hv hp2 hp3 hq0 hpv
        go_wp2_with fail
        all_goals rw [HP2.out]
        all_goals
          go_roundw
          case rel => exact ⟨k + 1, L.set k v, by go_num, by omega, by rw [List.length_set, HL.out], hok.set hvl, hB.out.set_ k v, hbel1, set_words (by rw [HL.out]; omega) HV.out Hv.out⟩
          case measure => simp [intOf]; omega
    · have hkn : k = n := by omega
      subst hkn
      have hv : val L = x / 2 := val_of_dgs (fun j hj => HV.out j (by rw [← HL.out]; exact hj)) (by rw [HL.out]; exact Nat.lt_of_le_of_lt (Nat.div_le_self _ _) (lt_of_dig_len (by rw [← Hn.out]; omega)))
      have hw2 := hblk.wd hok (by rw [HL.out]; omega) k (by rw [HL.out]; omega) (by omega)
      rw [HL.out] at hw2
      have Hv := Lib.hid hv; clear hv
      have Hw := Lib.hid hw2; clear hw2 hblk
      go_wp2_with fail
      refine (trimR_any _ _ _ Hw.out).mono ?_
      rintro e w' ⟨r, rfl, hr, rfl⟩
      rw [Hv.out] at hr
      go_wp2
      go_ret
      exact ⟨r, rfl, hr, hbel⟩
end Go.Proofs.YtmlopkkbgpfdnabGreat
namespace Go.Proofs.YtmlopkkbgpfdnabGreat

theorem gcd_half_left {a b : Nat} (ha : a % 2 = 0) (hb : b % 2 = 1) : Nat.gcd (a / 2) b = Nat.gcd a b := by
  have e : a = 2 * (a / 2) := by omega
  have hc : Nat.Coprime 2 b := by
    rw [Nat.coprime_iff_gcd_eq_one, Nat.gcd_rec, hb]; rfl
  conv => rhs; rw [e]
  exact (Nat.Coprime.gcd_mul_left_cancel (a / 2) hc).symm
theorem gcd_half_right {a b : Nat} (ha : a % 2 = 1) (hb : b % 2 = 0) : Nat.gcd a (b / 2) = Nat.gcd a b := by
  rw [Nat.gcd_comm, gcd_half_left hb ha, Nat.gcd_comm]
theorem gcd_less {a b : Nat} (h : b ≤ a) : Nat.gcd (a - b) b = Nat.gcd a b := Nat.gcd_sub_self_left h
end Go.Proofs.YtmlopkkbgpfdnabGreat
namespace Go.Proofs.YtmlopkkbgpfdnabGreat
open Go.RowKit

theorem make_u32_cap (t : TypeId) (ht : Tryz.prog.underlying t = some (.slice 75)) (k : Nat) (hk : k ≤ 70368744177664) (w : World) :
    (Instr.makeSlice t (.int .i64 0) (.int .i64 (k : Int))).run Tryz.prog w = .ok (.slice (some ⟨w.heap.size, 0, none⟩) 0 k) (w.alloc (.cells (U32s (zeros k)) 75)) := by
  obtain ⟨i0, hi, hz0, hz1, hz2⟩ := info_parts info75
  have hr := run_make (P := Tryz.prog) w t 75 i0 _ ht hi hz0 .i64 .i64 0 k (by omega) (by omega) (by rw [hz2]; omega) (by omega)
  rw [hr, Int.toNat_natCast, hz1, Nat.mul_one, made_zeros]
  rfl

theorem step_own {w wr w1 : World} {v v' : Value} {ds : List Nat} {x : Nat} {o : Obj} (hbel : Below w.heap.size w wr) (hown : wr.ownsRow w.heap.size 75 1 v ds.length (ds.map uw))
    (hown' : w1.ownsRow w.heap.size 75 1 v' (ds.length + 1) (ds.map uw ++ [uw x])) (hgrow : (wr.alloc o).grownBy w1 v.ownBlock) :
    Below w.heap.size w w1 ∧ w1.ownsRow w.heap.size 75 1 v' (ds ++ [x]).length ((ds ++ [x]).map uw) :=
  ⟨(hbel.alloc hbel.size _).grown hgrow (by have := hbel.size; simp; omega) (fun k hk => (hown.lt k hk).1), by
    rw [List.length_append, List.map_append]; exact hown'⟩

set_option maxHeartbeats 1600000 in
set_option maxRecDepth 100000 in
/-- ref plus -/
theorem plusR_any (x y : Nat) (u v : Value) (w : World) (hx : Wd w u (dig x)) (hy : Wd w v (dig y)) (lx : (dig x).length ≤ 1000000) (ly : (dig y).length ≤ 1000000) :
    Calls Tryz.prog 130 #[u, v] w fun e w' => ∃ r, e = .returned r ∧ Wd w' r (dig (x + y)) ∧ Below w.heap.size w w' := by
  obtain ⟨i0, hi, hz0, hz1, hz2⟩ := info_parts info75
  obtain ⟨A, c, rfl, -, -⟩ := hx.shape
  obtain ⟨A', c', rfl, -, -⟩ := hy.shape
  obtain ⟨nx, hnx⟩ : ∃ n, n = (dig x).length := ⟨_, rfl⟩
  obtain ⟨ny, hny⟩ : ∃ n, n = (dig y).length := ⟨_, rfl⟩
  rw [← hnx] at lx hx ⊢
  rw [← hny] at ly hy ⊢
  have Hx := Lib.hid hx; clear hx
  have Hy := Lib.hid hy; clear hy
  have Hnx := Lib.hid hnx; clear hnx
  have Hny := Lib.hid hny; clear hny
  obtain ⟨n, hn, h1, h2, h3⟩ : ∃ n : Nat, max (nx : Int) (ny : Int) = (n : Int) ∧ nx ≤ n ∧ ny ≤ n ∧ n ≤ 1000000 := ⟨max nx ny, by omega, by omega, by omega, by omega⟩
  have hn' : n = nx ∨ n = ny := by omega
  have Hn' := Lib.hid hn'; clear hn'
  have hmk : ∀ w, (Instr.makeSlice 51 (.int .i64 0) (.int .i64 ((n : Int) + 1))).run Tryz.prog w = .ok (.slice (some ⟨w.heap.size, 0, none⟩) 0 (n + 1)) (w.alloc (.cells (U32s (zeros (n + 1))) 75)) := fun w => make_u32_cap 51 Tryz.underlying51 (n + 1) (by omega) w
  have hsz0 : (U32s (zeros (n + 1))).size = n + 1 := by simp [U32s, zeros]
  have Hsz0 := Lib.hid hsz0; clear hsz0
  go_enter Tryz.func130, Tryz.ntmps130
  go_wp2_with fail
  go_loopw [5, 6, 7] (fun ov cr i wr => ∃ (k cv : Nat) (ds : List Nat), i = .int .i64 k ∧ k ≤ n ∧ cr = .int .u64 cv ∧ cv ≤ 1 ∧ ds.length = k ∧ Ok ds ∧ wr.ownsRow w.heap.size 75 1 ov ds.length (ds.map uw) ∧ Below w.heap.size w wr ∧
      val ds + 4294967296 ^ k * cv = x % 4294967296 ^ k + y % 4294967296 ^ k) (fun _ _ i _ => n - (intOf i).toNat)
  case atStart => exact ⟨0, 0, [], rfl, Nat.zero_le _, rfl, by omega, rfl, Ok.nil, World.ownsRow_made w _ (n + 1) (Nat.le_refl _) (by unfold maxLen; omega) (by rw [Hsz0.out]; omega), below_alloc _ _, by simp [val, Nat.mod_one]⟩
  case round =>
    obtain ⟨k, cv, ds, rfl, hk, rfl, hcv, hL, hok, hown, hbel, hval⟩ := hrel
    have HV := Lib.hid hval; clear hval
    have hL1 : ds.length ≤ 1000000 := by omega
    have HL := Lib.hid hL; clear hL
    have HX := Lib.hid (Hx.out.below hbel)
    have HY := Lib.hid (Hy.out.below hbel)
    by_cases hlx : k < nx
    · by_cases hly : k < ny
      · have hpx : (k : Int) < (nx : Int) := by omega
        have hdx : decide ((k : Int) < (nx : Int)) = true := by simp; omega
        obtain ⟨bx, ox, rfl, -, hcx⟩ := Wd.cell (k := k) HX.out (by omega)
        have c1 := hcx k (by omega)
        clear hcx
        obtain ⟨p, hp⟩ : ∃ p, p = dg x k := ⟨_, rfl⟩
        have hpl : p < 4294967296 := by rw [hp]; exact dg_lt _ _
        rw [← hp] at c1
        have Hp := Lib.hid hp; clear hp
        have hpy : (k : Int) < (ny : Int) := by omega
        have hdy : decide ((k : Int) < (ny : Int)) = true := by simp; omega
        obtain ⟨by_, oy, rfl, -, hcy⟩ := Wd.cell (k := k) HY.out (by omega)
        have c2 := hcy k (by omega)
        clear hcy
        obtain ⟨q, hq⟩ : ∃ q, q = dg y k := ⟨_, rfl⟩
        have hql : q < 4294967296 := by rw [hq]; exact dg_lt _ _
        rw [← hq] at c2
        have Hq := Lib.hid hq; clear hq
        go_wp2_with (at_builtin; refine wpList_append_own _ rfl _ _ 51 rfl w.heap.size 75 i0 (.int .u32 0) 1 4 Tryz.underlying51 hi hz0 hz1 hz2 rfl (by decide) _ _ _ rfl (hown.alloc _) ⟨wr.heap.size, 0, none⟩ 1 1 [uw ((cv + p + q) % 4294967296)] rfl rfl ?c1 ?c2 ?c3 ?c4 ?c5 ?_)
        case c1 =>
          intro j u hj
          match j, hj with
          | 0, hj => simp at hj; subst hj; simp [Addr.add, uw]
        case c2 => intro u hu; simp at hu; subst hu; rfl
        case c3 => unfold maxLen; omega
        case c4 => omega
        case c5 => have := hbel.size; simp; omega
        intro v' w1 hown' hgrow _
        obtain ⟨hb1, ho1⟩ := step_own hbel hown hown' hgrow
        have Ho := Lib.hid ho1; clear ho1 hown' hgrow hown hbel
        go_wp2
        go_roundw
        case rel =>
          refine ⟨k + 1, (cv + p + q) / 4294967296, ds ++ [(cv + p + q) % 4294967296], by simp, by omega, by simp, by omega, by rw [List.length_append, HL.out]; rfl, hok.append (Ok.mk (by omega) Ok.nil), Ho.out, hb1, ?_⟩
          rw [val_append, HL.out]
          simp only [val, Nat.mul_zero, Nat.add_zero]
          exact add_round HV.out (by rw [← Hp.out, ← Hq.out]; omega)
        case measure => simp [intOf]; omega
      · have hpx : (k : Int) < (nx : Int) := by omega
        have hdx : decide ((k : Int) < (nx : Int)) = true := by simp; omega
        obtain ⟨bx, ox, rfl, -, hcx⟩ := Wd.cell (k := k) HX.out (by omega)
        have c1 := hcx k (by omega)
        clear hcx
        obtain ⟨p, hp⟩ : ∃ p, p = dg x k := ⟨_, rfl⟩
        have hpl : p < 4294967296 := by rw [hp]; exact dg_lt _ _
        rw [← hp] at c1
        have Hp := Lib.hid hp; clear hp
        have hpy : (ny : Int) ≤ (k : Int) := by omega
        have hdy : decide ((k : Int) < (ny : Int)) = false := by simp; omega
        obtain ⟨q, hq0⟩ : ∃ q, q = 0 := ⟨_, rfl⟩
        have hq : q = dg y k := by rw [hq0, dg_zero (by rw [← Hny.out]; omega)]
        have hql : q < 4294967296 := by omega
        have Hq := Lib.hid hq; clear hq
        have Hq0 := Lib.hid hq0; clear hq0
        go_wp2_with (at_builtin; refine wpList_append_own _ rfl _ _ 51 rfl w.heap.size 75 i0 (.int .u32 0) 1 4 Tryz.underlying51 hi hz0 hz1 hz2 rfl (by decide) _ _ _ rfl (hown.alloc _) ⟨wr.heap.size, 0, none⟩ 1 1 [uw ((cv + p) % 4294967296)] rfl rfl ?c1 ?c2 ?c3 ?c4 ?c5 ?_)
        case c1 =>
          intro j u hj
          match j, hj with
          | 0, hj => simp at hj; subst hj; simp [Addr.add, uw]
        case c2 => intro u hu; simp at hu; subst hu; rfl
        case c3 => unfold maxLen; omega
        case c4 => omega
        case c5 => have := hbel.size; simp; omega
        intro v' w1 hown' hgrow _
        obtain ⟨hb1, ho1⟩ := step_own hbel hown hown' hgrow
        have Ho := Lib.hid ho1; clear ho1 hown' hgrow hown hbel
        go_wp2
        go_roundw
        case rel =>
          refine ⟨k + 1, (cv + p) / 4294967296, ds ++ [(cv + p) % 4294967296], by simp, by omega, by simp, by omega, by rw [List.length_append, HL.out]; rfl, hok.append (Ok.mk (by omega) Ok.nil), Ho.out, hb1, ?_⟩
          rw [val_append, HL.out]
          simp only [val, Nat.mul_zero, Nat.add_zero]
          exact add_round HV.out (by rw [← Hp.out, ← Hq.out, Hq0.out]; omega)
        case measure => simp [intOf]; omega
    · by_cases hly : k < ny
      · have hpx : (nx : Int) ≤ (k : Int) := by omega
        have hdx : decide ((k : Int) < (nx : Int)) = false := by simp; omega
        obtain ⟨p, hp0⟩ : ∃ p, p = 0 := ⟨_, rfl⟩
        have hp : p = dg x k := by rw [hp0, dg_zero (by rw [← Hnx.out]; omega)]
        have hpl : p < 4294967296 := by omega
        have Hp := Lib.hid hp; clear hp
        have Hp0 := Lib.hid hp0; clear hp0
        have hpy : (k : Int) < (ny : Int) := by omega
        have hdy : decide ((k : Int) < (ny : Int)) = true := by simp; omega
        obtain ⟨by_, oy, rfl, -, hcy⟩ := Wd.cell (k := k) HY.out (by omega)
        have c2 := hcy k (by omega)
        clear hcy
        obtain ⟨q, hq⟩ : ∃ q, q = dg y k := ⟨_, rfl⟩
        have hql : q < 4294967296 := by rw [hq]; exact dg_lt _ _
        rw [← hq] at c2
        have Hq := Lib.hid hq; clear hq
        go_wp2_with (at_builtin; refine wpList_append_own _ rfl _ _ 51 rfl w.heap.size 75 i0 (.int .u32 0) 1 4 Tryz.underlying51 hi hz0 hz1 hz2 rfl (by decide) _ _ _ rfl (hown.alloc _) ⟨wr.heap.size, 0, none⟩ 1 1 [uw ((cv + q) % 4294967296)] rfl rfl ?c1 ?c2 ?c3 ?c4 ?c5 ?_)
        case c1 =>
          intro j u hj
          match j, hj with
          | 0, hj => simp at hj; subst hj; simp [Addr.add, uw]
        case c2 => intro u hu; simp at hu; subst hu; rfl
        case c3 => unfold maxLen; omega
        case c4 => omega
        case c5 => have := hbel.size; simp; omega
        intro v' w1 hown' hgrow _
        obtain ⟨hb1, ho1⟩ := step_own hbel hown hown' hgrow
        have Ho := Lib.hid ho1; clear ho1 hown' hgrow hown hbel
        go_wp2
        go_roundw
        case rel =>
          refine ⟨k + 1, (cv + q) / 4294967296, ds ++ [(cv + q) % 4294967296], by simp, by omega, by simp, by omega, by rw [List.length_append, HL.out]; rfl, hok.append (Ok.mk (by omega) Ok.nil), Ho.out, hb1, ?_⟩
          rw [val_append, HL.out]
          simp only [val, Nat.mul_zero, Nat.add_zero]
          exact add_round HV.out (by rw [← Hp.out, ← Hq.out, Hp0.out]; omega)
        case measure => simp [intOf]; omega
      · have hkn : k = n := by rcases Hn'.out with h | h <;> omega
        have hdx : decide ((k : Int) < (nx : Int)) = false := by simp; omega
        have hdy : decide ((k : Int) < (ny : Int)) = false := by simp; omega
        clear Hn' hn
        subst hkn
        go_wp2_with (at_builtin; refine wpList_append_own _ rfl _ _ 51 rfl w.heap.size 75 i0 (.int .u32 0) 1 4 Tryz.underlying51 hi hz0 hz1 hz2 rfl (by decide) _ _ _ rfl (hown.alloc _) ⟨wr.heap.size, 0, none⟩ 1 1 [uw (cv)] rfl rfl ?c1 ?c2 ?c3 ?c4 ?c5 ?_)
        case c1 =>
          intro j u hj
          match j, hj with
          | 0, hj => simp at hj; subst hj; simp [Addr.add, uw]
        case c2 => intro u hu; simp at hu; subst hu; rfl
        case c3 => unfold maxLen; omega
        case c4 => omega
        case c5 => have := hbel.size; simp; omega
        intro v' w1 hown' hgrow _
        obtain ⟨hb1, ho1⟩ := step_own hbel hown hown' hgrow
        have hw := Wd.of_own ho1 (hok.append (Ok.mk (by omega) Ok.nil))
        have hv : val (ds ++ [cv]) = x + y := by
          rw [val_append, HL.out]
          simp only [val, Nat.mul_zero, Nat.add_zero]
          rw [HV.out, mod_len (x := x) (by rw [← Hnx.out]; omega), mod_len (x := y) (by rw [← Hny.out]; omega)]
        have Hw := Lib.hid hw; clear hw hown' hgrow hown hbel ho1
        have Hv := Lib.hid hv; clear hv
        go_wp2_with fail
        refine (trimR_any _ _ _ Hw.out).mono ?_
        rintro e w' ⟨r, rfl, hr, rfl⟩
        rw [Hv.out] at hr
        go_wp2
        go_ret
        exact ⟨r, rfl, hr, hb1⟩
end Go.Proofs.YtmlopkkbgpfdnabGreat
