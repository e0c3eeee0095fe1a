/- Walks: the reference's trim and less, with the address of what they return. · Walks of the reference: half. · Walks of the reference: divisor. · Walks of the reference: Common. -/
import Derived.Test.YtmlopkkbgpfdnaaM12
import Derived.Test.YtmlopkkbgpfdnaaM4
import Derived.Test.YtmlopkkbgpfdnaaM2
import Derived.RegionTactic
import Derived.ChangeAlike
import Derived.Test.YtmlopkkbgpfdnaaM14
import Derived.Test.YtmlopkkbgpfdnaaM9
namespace Go.Proofs.Ytmlopkkbgpfdnaa
open Go.RowKit

set_option maxRecDepth 100000 in
/-- ref trim: the same address -/
theorem trimR_at (A : Option Addr) (nn c : Nat) (l : List Nat) (w : World) (hv : Wd w (.slice A nn c) l) :
    Calls Try.prog 96 #[.slice A nn c] w fun e w' => ∃ k, e = .returned (.slice A k c) ∧ Wd w (.slice A k c) (dig (val l)) ∧ w = w' := by
  obtain ⟨A', c', he, h1, h2, h3, h4⟩ := hv
  injection he with e1 e2 e3
  subst e1 e2 e3
  obtain ⟨n, hn⟩ : ∃ n, n = l.length := ⟨_, rfl⟩
  rw [← hn] at h1 h4 ⊢
  have Hn := Lib.hid hn; clear hn
  have hm : n ≤ 9223372036854775807 := by omega
  go_enter Try.func96, Try.ntmps96
  go_wp2
  go_loop [0] (fun v => ∃ k : Nat, v = .slice A k c ∧ k ≤ n ∧ ∀ j, k ≤ j → j < n → l.getD j 0 = 0) (fun v => match v with | .slice _ k _ => k | _ => 0)
  case atStart => exact ⟨n, rfl, Nat.le_refl _, fun j h h' => by omega⟩
  case round =>
    obtain ⟨k, rfl, hk, hz⟩ := hrel
    by_cases k0 : k = 0
    · subst k0
      have HZ := Lib.hid hz; clear hz
      go_wp2
      go_ret
      refine ⟨0, rfl, ?_, rfl⟩
      rw [dig_take (k := 0) h3 (by omega) (fun j h h' => HZ.out j h (by rw [Hn.out]; exact h')) (.inl rfl)]
      exact ⟨A, c, rfl, by simp, by omega, Ok.nil, fun h => absurd h (by simp)⟩
    · obtain ⟨b, off, rfl, hb, hc⟩ := h4 (by omega)
      have hx := hc (k - 1) (by omega)
      obtain ⟨x, hxe⟩ : ∃ x, x = l.getD (k - 1) 0 := ⟨_, rfl⟩
      rw [← hxe] at hx
      have Hx := Lib.hid hxe; clear hxe
      have HC := Lib.hid hc; clear hc h4
      have HZ := Lib.hid hz; clear hz
      have hkp : 0 < k := by omega
      have hkd : decide ((0 : Int) < (k : Int)) = true := by simp; omega
      by_cases hx0 : x = 0
      · subst hx0
        go_wp2
        go_round
        case rel =>
          refine ⟨k - 1, by simp, by omega, fun j hj hj' => ?_⟩
          by_cases e : j = k - 1
          · rw [e]; exact Hx.out.symm
          · exact HZ.out j (by omega) hj'
        case measure => simp; omega
      · go_wp2
        go_ret
        have hl : (l.take k).length = k := by rw [List.length_take, ← Hn.out]; omega
        refine ⟨k, rfl, ?_, rfl⟩
        rw [dig_take (k := k) h3 (by rw [← Hn.out]; omega) (fun j h h' => HZ.out j h (by rw [Hn.out]; exact h')) (.inr (by rw [← Hx.out]; exact hx0))]
        refine ⟨some ⟨b, off, none⟩, c, by rw [hl], by omega, by omega, h3.take k, fun _ => ⟨b, off, rfl, hb, fun j hj => ?_⟩⟩
        rw [hl] at hj
        rw [HC.out j (by omega)]
        simp [List.getD_eq_getElem?_getD, List.getElem?_take, hj]

set_option maxHeartbeats 800000 in
set_option maxRecDepth 100000 in
/-- ref less -/
theorem lessR_at (x y : Nat) (u v : Value) (w : World) (hx : Wd w u (dig x)) (hy : Wd w v (dig y)) (lx : (dig x).length ≤ 1000000) (hyx : y ≤ x) :
    Calls Try.prog 73 #[u, v] w fun e w' => ∃ b o n c, e = .returned (.slice (some ⟨b, o, none⟩) n c) ∧ w.heap.size ≤ b ∧ Wd w' (.slice (some ⟨b, o, none⟩) n c) (dig (x - y)) ∧ Below w.heap.size w w' := by
  have hly := dig_len_mono hyx
  obtain ⟨A, c, rfl, -, -⟩ := hx.shape
  obtain ⟨A', c', rfl, -, -⟩ := hy.shape
  obtain ⟨nx, hnx⟩ : ∃ n, n = (dig x).length := ⟨_, rfl⟩
  obtain ⟨ny, hny⟩ : ∃ n, n = (dig y).length := ⟨_, rfl⟩
  rw [← hnx] at lx hx hly ⊢
  rw [← hny] at hy hly ⊢
  have Hx := Lib.hid hx; clear hx
  have Hy := Lib.hid hy; clear hy
  have Hnx := Lib.hid hnx; clear hnx
  have Hny := Lib.hid hny; clear hny
  have Hyx := Lib.hid hyx; clear hyx
  have hmk : ∀ w, (Instr.makeSlice 32 (.int .i64 (nx : Int)) (.int .i64 (nx : Int))).run Try.prog w = .ok (.slice (some ⟨w.heap.size, 0, none⟩) nx nx) (w.alloc (.cells (U32s (zeros nx)) 66)) := fun w => make_u32 32 Try.underlying32 nx (by omega) w
  go_enter Try.func73, Try.ntmps73
  go_wp2_with fail
  go_loopw [6, 14] (fun cr i wr => ∃ (k cv : Nat) (L : List Nat), i = .int .i64 k ∧ k ≤ nx ∧ cr = .int .u64 cv ∧ cv ≤ 1 ∧ L.length = nx ∧ Ok L ∧ Blk wr w.heap.size L ∧ Below w.heap.size w wr ∧
      val (L.take k) + y % 4294967296 ^ k = x % 4294967296 ^ k + 4294967296 ^ k * cv) (fun _ i _ => nx - (intOf i).toNat)
  case atStart => exact ⟨0, 0, zeros nx, rfl, Nat.zero_le _, rfl, by omega, zeros_length _, zeros_ok _, heap_alloc_new w _, below_alloc _ _, by simp [val, Nat.mod_one]⟩
  case round =>
    obtain ⟨k, cv, L, rfl, hk, rfl, hcv, hL, hok, hblk, hbel, hval⟩ := hrel
    have HV := Lib.hid hval; clear hval
    have HL := Lib.hid hL; clear hL
    have HX := Lib.hid (Hx.out.below hbel)
    have HY := Lib.hid (Hy.out.below hbel)
    by_cases hlt : k < nx
    · have hfr := hblk.frozen k
      have hce := hblk.cell (i := k) (by rw [HL.out]; omega)
      have hB := Lib.hid hblk; clear hblk
      obtain ⟨b, off, rfl, hb, hc⟩ := Wd.cell (k := k) HX.out hlt
      have hxk := hc k hlt
      clear hc
      obtain ⟨p, hp⟩ : ∃ p, p = dg x k := ⟨_, rfl⟩
      have hpl : p < 4294967296 := by rw [hp]; exact dg_lt _ _
      rw [← hp] at hxk
      have Hp := Lib.hid hp; clear hp
      by_cases hky : k < ny
      · obtain ⟨b', off', rfl, hb', hc'⟩ := Wd.cell (k := k) HY.out hky
        have hyk := hc' k hky
        clear hc'
        obtain ⟨q, hq⟩ : ∃ q, q = dg y k := ⟨_, rfl⟩
        have hql : q < 4294967296 := by rw [hq]; exact dg_lt _ _
        rw [← hq] at hyk
        have Hq := Lib.hid hq; clear hq
        by_cases hge : q + cv ≤ p
        · go_wp2_with fail
          have w1 : ((p : Int) - cv - q) = ((p - cv - q : Nat) : Int) := by omega
          have w2 : ((p : Int) - cv - q) / 9223372036854775808 = ((0 : Nat) : Int) := by omega
          rw [w2, w1]
          go_roundw
          case rel =>
            refine ⟨k + 1, 0, L.set k (p - cv - q), by go_num, by omega, rfl, by omega, by rw [List.length_set, HL.out], hok.set (by omega), hB.out.set_ k _, hbel.setCell (Nat.le_refl _) _, ?_⟩
            rw [val_take_set (by rw [HL.out]; omega)]
            exact sub_round HV.out hcv (by rw [← Hp.out, ← Hq.out]; omega) (by rw [← Hp.out, ← Hq.out]; rw [if_neg (by omega)])
          case measure => simp [intOf]; omega
        · have hlt2 : p < q + cv := by omega
          go_wp2_with fail
          have w1 : (IntKind.u64.wrap (IntKind.u64.wrap ((p : Int) - cv) - q)) % 4294967296 = ((p + 4294967296 - q - cv : Nat) : Int) := by rw [IntKind.wrap_u64, IntKind.wrap_u64]; omega
          have w2 : (IntKind.u64.wrap (IntKind.u64.wrap ((p : Int) - cv) - q)) / 9223372036854775808 = ((1 : Nat) : Int) := by rw [IntKind.wrap_u64, IntKind.wrap_u64]; omega
          rw [w1, w2]
          go_roundw
          case rel =>
            refine ⟨k + 1, 1, L.set k (p + 4294967296 - q - cv), by go_num, by omega, rfl, by omega, by rw [List.length_set, HL.out], hok.set (by omega), hB.out.set_ k _, hbel.setCell (Nat.le_refl _) _, ?_⟩
            rw [val_take_set (by rw [HL.out]; omega)]
            exact sub_round HV.out hcv (by rw [← Hp.out, ← Hq.out]; omega) (by rw [← Hp.out, ← Hq.out]; rw [if_pos (by omega)])
          case measure => simp [intOf]; omega
      · have hq : 0 = dg y k := by rw [dg_zero (by rw [← Hny.out]; omega)]
        have Hq := Lib.hid hq; clear hq
        by_cases hge : cv ≤ p
        · go_wp2_with fail
          have w1 : ((p : Int) - cv) = ((p - cv : Nat) : Int) := by omega
          have w2 : ((p : Int) - cv) / 9223372036854775808 = ((0 : Nat) : Int) := by omega
          rw [w2, w1]
          go_roundw
          case rel =>
            refine ⟨k + 1, 0, L.set k (p - cv), by go_num, by omega, rfl, by omega, by rw [List.length_set, HL.out], hok.set (by omega), hB.out.set_ k _, hbel.setCell (Nat.le_refl _) _, ?_⟩
            rw [val_take_set (by rw [HL.out]; omega)]
            exact sub_round HV.out hcv (by rw [← Hp.out, ← Hq.out]; omega) (by rw [← Hp.out, ← Hq.out]; rw [if_neg (by omega)])
          case measure => simp [intOf]; omega
        · have hlt2 : p < cv := by omega
          go_wp2_with fail
          have w1 : (IntKind.u64.wrap ((p : Int) - cv)) % 4294967296 = ((p + 4294967296 - cv : Nat) : Int) := by rw [IntKind.wrap_u64]; omega
          have w2 : (IntKind.u64.wrap ((p : Int) - cv)) / 9223372036854775808 = ((1 : Nat) : Int) := by rw [IntKind.wrap_u64]; omega
          rw [w1, w2]
          go_roundw
          case rel =>
            refine ⟨k + 1, 1, L.set k (p + 4294967296 - cv), by go_num, by omega, rfl, by omega, by rw [List.length_set, HL.out], hok.set (by omega), hB.out.set_ k _, hbel.setCell (Nat.le_refl _) _, ?_⟩
            rw [val_take_set (by rw [HL.out]; omega)]
            exact sub_round HV.out hcv (by rw [← Hp.out, ← Hq.out]; omega) (by rw [← Hp.out, ← Hq.out]; rw [if_pos (by omega)])
          case measure => simp [intOf]; omega
    · have hkn : k = nx := by omega
      subst hkn
      have hB := Lib.hid hblk; clear hblk
      have hv : val L = x - y := by
        have e := HV.out
        rw [List.take_of_length_le (by rw [HL.out]; omega), mod_len (x := x) (by rw [← Hnx.out]; omega)] at e
        have hxl := val_lt hok
        rw [HL.out] at hxl
        have hyy : y % 4294967296 ^ k = y := mod_len (by rw [← Hny.out]; exact hly)
        rw [hyy] at e
        have := Hyx.out
        rcases (by omega : cv = 0 ∨ cv = 1) with h | h
        · subst h; omega
        · subst h; have hlt := lt_of_dig_len (n := x) (k := k) (by rw [← Hnx.out]; omega); omega
      have hw2 := hB.out.wd hok (by rw [HL.out]; omega) k (by rw [HL.out]; omega) (by omega)
      rw [HL.out] at hw2
      have Hw := Lib.hid hw2; clear hw2
      have Hv := Lib.hid hv; clear hv
      go_wp2_with fail
      refine (trimR_at _ _ _ _ _ Hw.out).mono ?_
      rintro e w' ⟨kr, rfl, hr, rfl⟩
      rw [Hv.out] at hr
      go_wp2
      go_ret
      exact ⟨_, _, _, _, rfl, Nat.le_refl _, hr, hbel⟩
end Go.Proofs.Ytmlopkkbgpfdnaa
namespace Go.Proofs.Ytmlopkkbgpfdnaa
open Go.RowKit

set_option maxHeartbeats 800000 in
set_option maxRecDepth 100000 in
/-- half -/
theorem half_any (x : Nat) (u : Value) (w : World) (hx : Wd w u (dig x)) (lx : (dig x).length ≤ 1000000) :
    Calls Try.prog 113 #[u] w fun e w' => ∃ r, e = .returned r ∧ Wd w' r (dig (x / 2)) ∧ Below w.heap.size w w' := by
  have Hx := Lib.hid hx
  obtain ⟨A, c, rfl, -, -⟩ := hx.shape
  obtain ⟨n, hn⟩ : ∃ n, n = (dig x).length := ⟨_, rfl⟩
  rw [← hn] at lx Hx ⊢
  have Hn := Lib.hid hn; clear hn hx
  have hmk : ∀ w, (Instr.makeSlice 32 (.int .i64 (n : Int)) (.int .i64 (n : Int))).run Try.prog w = .ok (.slice (some ⟨w.heap.size, 0, none⟩) n n) (w.alloc (.cells (U32s (zeros n)) 66)) := fun w => make_u32 32 Try.underlying32 n (by omega) w
  go_enter Try.func113, Try.ntmps113
  go_wp2_with fail
  go_loopw [10] (fun i wr => ∃ (k : Nat) (L : List Nat), i = .int .i64 k ∧ k ≤ n ∧ L.length = n ∧ Ok L ∧ Blk wr w.heap.size L ∧ Below w.heap.size w wr ∧
      ∀ j, j < k → L.getD j 0 = dg (x / 2) j) (fun i _ => n - (intOf i).toNat)
  case atStart => exact ⟨0, zeros n, rfl, Nat.zero_le _, zeros_length _, zeros_ok _, heap_alloc_new w _, below_alloc _ _, fun j h => absurd h (by omega)⟩
  case round =>
    obtain ⟨k, L, rfl, hk, hL, hok, hblk, hbel, hval⟩ := hrel
    have HV := Lib.hid hval; clear hval
    have HL := Lib.hid hL; clear hL
    have HX := Lib.hid (Hx.out.below hbel)
    by_cases hlt : k < n
    · obtain ⟨v, hv⟩ : ∃ v, v = dg (x / 2) k := ⟨_, rfl⟩
      have Hv := Lib.hid hv
      have hvl : v < 4294967296 := by rw [hv]; exact dg_lt _ _
      obtain ⟨p, hp⟩ : ∃ p, p = dg x k := ⟨_, rfl⟩
      obtain ⟨q, hq⟩ : ∃ q, q = dg x (k + 1) := ⟨_, rfl⟩
      have hpl : p < 4294967296 := by rw [hp]; exact dg_lt _ _
      have hql : q < 4294967296 := by rw [hq]; exact dg_lt _ _
      have hor := or_down (s := 1) (q := q) hpl (by omega)
      rw [down_word (s := 1) hp hq (by omega), Nat.pow_one, ← hv] at hor
      have Hor := Lib.hid hor
      have hfr := hblk.frozen k
      have hce := hblk.cell (i := k) (by rw [HL.out]; omega)
      have hB := Lib.hid hblk; clear hblk
      obtain ⟨b, off, rfl, hb, hc⟩ := Wd.cell (k := k) Hx.out hlt
      have hxk := keepAt hbel hb (hc k hlt)
      rw [← hp] at hxk
      have e2 : p / 2 < 4294967296 := by omega
      have hp2 : (p : Int) / 2 = ((p / 2 : Nat) : Int) := by omega
      have hp3 : p / 2 + q * 2147483648 % 4294967296 = v := by rw [hv]; exact down_word (s := 1) hp hq (by omega)
      by_cases hlt2 : k + 1 < n
      · have hxk2 := keepAt hbel hb (hc (k + 1) hlt2)
        rw [← hq] at hxk2
        have ho : bits BinOp.or IntKind.u32 ((p : Int) / 2) ((q : Int) * 2147483648 % 4294967296) = (v : Int) := hor
        have Ho := Lib.hid ho
        have hB1 := hB.out.set_ k (p / 2)
        have hok1 := hok.set (i := k) e2
        obtain ⟨W1, hW1⟩ : ∃ W1, W1 = wr.setCell ⟨w.heap.size, k, none⟩ (.int .u32 ((p / 2 : Nat) : Int)) := ⟨_, rfl⟩
        have g2 : W1.cell? ⟨b, off + (k + 1), none⟩ = some (.int .u32 (q : Int)) := by
          rw [hW1, World.cell?_setCell_other _ _ _ _ (by intro e; injection e with e1; omega)]; exact hxk2
        have hbel1 : Below w.heap.size w W1 := by rw [hW1]; exact hbel.setCell (Nat.le_refl _) _
        rw [← hW1] at hB1
        have g1 := hB1.cell (i := k) (by rw [List.length_set, HL.out]; omega)
        rw [getD_set_self (by rw [HL.out]; exact hlt)] at g1
        have g3 := hB1.frozen k
        have HW1 := Lib.hid hW1; have HB1 := Lib.hid hB1
        have HP2 := Lib.hid hp2
        clear hc hor hp hq hv ho hW1 hB1 hp2 hp3
        go_wp2_with fail
        rw [HP2.out, ← HW1.out]
        have i1 : IntKind.i64.wrap ((k : Int) + 1) = ((k : Int) + 1) := IntWalk.i64_in _ (by omega)
        go_region
        all_goals go_wp2
        all_goals rw [Ho.out]
        all_goals
          go_roundw
          case rel => exact ⟨k + 1, (L.set k (p / 2)).set k v, by go_num, by omega, by rw [List.length_set, List.length_set, HL.out], hok1.set hvl, (HB1.out.set_ k v).drew, (hbel1.setCell (Nat.le_refl _) _).drew, by rw [List.set_set]; exact set_words (by rw [HL.out]; omega) HV.out Hv.out⟩
          case measure => simp [intOf]; omega
      · have hq0 : q = 0 := by rw [hq]; exact dg_zero (by rw [← Hn.out]; omega)
        have hpv : p / 2 = v := by rw [← hp3, hq0]; omega
        rw [hpv] at hp2
        have hbel1 : Below w.heap.size w (wr.setCell ⟨w.heap.size, k, none⟩ (.int .u32 (v : Int))) := hbel.setCell (Nat.le_refl _) _
        have HP2 := Lib.hid hp2
        clear hc hor hp hq hv hp2 hp3 hq0 hpv
        go_wp2_with fail
        all_goals rw [HP2.out]
        all_goals
          go_roundw
          case rel => exact ⟨k + 1, L.set k v, by go_num, by omega, by rw [List.length_set, HL.out], hok.set hvl, hB.out.set_ k v, hbel1, set_words (by rw [HL.out]; omega) HV.out Hv.out⟩
          case measure => simp [intOf]; omega
    · have hkn : k = n := by omega
      subst hkn
      have hv : val L = x / 2 := val_of_dgs (fun j hj => HV.out j (by rw [← HL.out]; exact hj)) (by rw [HL.out]; exact Nat.lt_of_le_of_lt (Nat.div_le_self _ _) (lt_of_dig_len (by rw [← Hn.out]; omega)))
      have hw2 := hblk.wd hok (by rw [HL.out]; omega) k (by rw [HL.out]; omega) (by omega)
      rw [HL.out] at hw2
      have Hv := Lib.hid hv; clear hv
      have Hw := Lib.hid hw2; clear hw2 hblk
      go_wp2_with fail
      refine (trimR_any _ _ _ Hw.out).mono ?_
      rintro e w' ⟨r, rfl, hr, rfl⟩
      rw [Hv.out] at hr
      go_wp2
      go_ret
      exact ⟨r, rfl, hr, hbel⟩
end Go.Proofs.Ytmlopkkbgpfdnaa
namespace Go.Proofs.Ytmlopkkbgpfdnaa
open Go.RowKit

theorem u32_and_one (x : Nat) (hx : x < 4294967296) : bits BinOp.and IntKind.u32 (x : Int) 1 = ((x % 2 : Nat) : Int) := by
  show IntKind.u32.wrap ((BitVec.ofInt 32 (x : Int) &&& BitVec.ofInt 32 ((1 : Nat) : Int)).toNat : Int) = _
  rw [BitVec.toNat_and, ofInt_u32 x (by omega), ofInt_u32 1 (by omega), Nat.and_one_is_mod]
  exact IntWalk.u32_in _ (by omega)
theorem dg_mod2 (x : Nat) : dg x 0 % 2 = x % 2 := by
  unfold dg
  rw [Nat.pow_zero, Nat.div_one]
  omega
/-- the parity that the loop looks at -/
theorem par_at {w : World} {v : Value} {x : Nat} (h : Wd w v (dig x)) (hx : 0 < x) : ∃ b off n c, v = .slice (some ⟨b, off, none⟩) n c ∧ 0 < n ∧ ∃ p : Nat, w.cell? ⟨b, off, none⟩ = some (.int .u32 (p : Int)) ∧ bits BinOp.and IntKind.u32 (p : Int) 1 = ((x % 2 : Nat) : Int) := by
  obtain ⟨A, n, c, rfl⟩ := h.slice_
  have hl := h.len
  have hn : 0 < n := by rw [hl]; exact dig_len_pos.2 hx
  obtain ⟨b, off, rfl, hb, hc⟩ := Wd.cell (k := 0) h (by omega)
  have h0 := hc 0 hn
  rw [Nat.add_zero] at h0
  exact ⟨b, off, n, c, rfl, hn, dg x 0, h0, by rw [u32_and_one _ (dg_lt _ _), dg_mod2]⟩
open Classical in
noncomputable def wdNum (W : World) (v : Value) : Nat := if h : ∃ n, Wd W v (dig n) then h.choose else 0
theorem wdNum_eq {W : World} {A : Option Addr} {n c x : Nat} (h : Wd W (.slice A n c) (dig x)) : wdNum W (.slice A n c) = x := by
  unfold wdNum
  rw [dif_pos ⟨x, h⟩]
  exact dig_inj ((Classical.choose_spec (p := fun n' => Wd W (.slice A n c) (dig n')) ⟨x, h⟩).uniq h)
/-- between the rounds -/
structure DI (w wr : World) (L G : Nat) (va vb : Value) (a b : Nat) : Prop where
  wa : Wd wr va (dig a)
  wb : Wd wr vb (dig b)
  b0 : 0 < b
  ax : (dig a).length ≤ L
  bY : (dig b).length ≤ L
  gcd : Nat.gcd a b = G
  odd : a % 2 = 1 ∨ b % 2 = 1
  ex : Ext w wr
set_option maxHeartbeats 800000 in
set_option maxRecDepth 100000 in
/-- divisor -/
theorem divisor_any (x y L : Nat) (u v : Value) (w : World) (hx : Wd w u (dig x)) (hy : Wd w v (dig y)) (lx : (dig x).length ≤ L) (ly : (dig y).length ≤ L) (hL : L ≤ 400000) :
    Calls Try.prog 95 #[u, v] w fun e w' => ∃ r, e = .returned r ∧ Wd w' r (dig (Nat.gcd x y)) ∧ Below w.heap.size w w' := by
  obtain ⟨A, n, c, rfl⟩ := hx.slice_
  obtain ⟨A', n', c', rfl⟩ := hy.slice_
  have en := hx.len; have en' := hy.len
  have pn : 0 < n ↔ 0 < x := by rw [en]; exact dig_len_pos
  have pn' : 0 < n' ↔ 0 < y := by rw [en']; exact dig_len_pos
  have Hx := Lib.hid hx; have Hy := Lib.hid hy; have HL := Lib.hid (And.intro lx ly)
  clear hx hy en en' lx ly
  by_cases hz : n = 0 ∨ n' = 0
  · have hg : Nat.gcd x y = x + y := by
      rcases hz with h | h
      · have : x = 0 := by omega
        subst this; simp
      · have : y = 0 := by omega
        subst this; simp
    have pl := plusR_any x y _ _ w Hx.out Hy.out (Nat.le_trans HL.out.1 (by omega)) (Nat.le_trans HL.out.2 (by omega))
    rw [← hg] at pl
    have PL := Lib.hid pl
    clear pl hg
    go_enter Try.func95, Try.ntmps95
    rcases Nat.eq_zero_or_pos n with hn0 | hn0
    · subst hn0
      go_wp2_with fail
      refine PL.out.mono ?_
      rintro e w1 ⟨r, rfl, hr, hb⟩
      go_wp2
      go_ret
      exact ⟨r, rfl, hr, hb⟩
    · have hn1 : n' = 0 := by omega
      subst hn1
      have hni : ¬ n = 0 := by omega
      go_wp2_with fail
      refine PL.out.mono ?_
      rintro e w1 ⟨r, rfl, hr, hb⟩
      go_wp2
      go_ret
      exact ⟨r, rfl, hr, hb⟩
  · have h1 : ¬ n = 0 := by omega
    have h2 : ¬ n' = 0 := by omega
    have hx0 : 0 < x := by omega
    have hy0 : 0 < y := by omega
    clear hz pn pn'
    have h1b : ((n : Int) == 0) = false := by simp; omega
    have h2b : ((n' : Int) == 0) = false := by simp; omega
    go_enter Try.func95, Try.ntmps95
    go_wp2_with fail
    go_loopw [0, 1, 5] (fun va vb sv wr => ∃ (A1 : Option Addr) (n1 c1 : Nat) (A2 : Option Addr) (n2 c2 a b s : Nat), va = .slice A1 n1 c1 ∧ vb = .slice A2 n2 c2 ∧ sv = .int .i64 s ∧ Hid (0 < a ∧ 0 < b ∧ x = 2 ^ s * a ∧ y = 2 ^ s * b ∧ Wd wr (.slice A1 n1 c1) (dig a) ∧ Wd wr (.slice A2 n2 c2) (dig b) ∧ Ext w wr)) (fun _ _ sv _ => x - (intOf sv).toNat)
    case atStart => exact ⟨_, _, _, _, _, _, x, y, 0, rfl, rfl, rfl, Lib.hid ⟨hx0, hy0, by rw [Nat.pow_zero, Nat.one_mul], by rw [Nat.pow_zero, Nat.one_mul], Hx.out, Hy.out, Ext.refl _⟩⟩
    case round =>
      obtain ⟨A1, n1, c1, A2, n2, c2, a, b, s, rfl, rfl, rfl, hI⟩ := hrel
      obtain ⟨ha, hb, hxa, hyb, hwa, hwb, he⟩ := hI.out
      obtain ⟨ba, oa, na, ca, he1, hna, pa, hca, hpa⟩ := par_at hwa ha
      obtain ⟨bb, ob, nb, cb, he2, hnb, pb, hcb, hpb⟩ := par_at hwb hb
      injection he1 with he11 he12 he13
      injection he2 with he21 he22 he23
      subst he11 he12 he13 he21 he22 he23
      have HPA := Lib.hid hpa; have HPB := Lib.hid hpb
      obtain ⟨ea, hea⟩ : ∃ k, k = a % 2 := ⟨_, rfl⟩
      obtain ⟨eb, heb⟩ : ∃ k, k = b % 2 := ⟨_, rfl⟩
      rw [← hea] at HPA hpa
      rw [← heb] at HPB hpb
      have hs0 : s < x := by
        have h1 : s < 2 ^ s := Nat.lt_two_pow_self
        have h2 : 2 ^ s * 1 ≤ 2 ^ s * a := Nat.mul_le_mul_left _ ha
        omega
      have hsL : s < 9223372036854775807 := by
        have h1 : 2 ^ s ≤ x := by rw [hxa]; exact Nat.le_mul_of_pos_right _ ha
        have h2 := lt_of_dig_len HL.out.1
        have h3 : (4294967296 : Nat) ^ L = 2 ^ (32 * L) := by rw [Nat.pow_mul]
        have h4 : 2 ^ s < 2 ^ (32 * L) := by omega
        have := (Nat.pow_lt_pow_iff_right (a := 2) (by omega)).1 h4
        omega
      by_cases e1 : ea = 0
      · by_cases e2 : eb = 0
        · have r1 : ((ea : Nat) : Int) = 0 := by omega
          have r2 : ((eb : Nat) : Int) = 0 := by omega
          rw [r1] at hpa
          rw [r2] at hpb
          have hax : a ≤ x := by rw [hxa]; exact Nat.le_mul_of_pos_left _ (Nat.pow_pos (by omega))
          have hby : b ≤ y := by rw [hyb]; exact Nat.le_mul_of_pos_left _ (Nat.pow_pos (by omega))
          have h1 := half_any a _ wr hwa (Nat.le_trans (len_mono hax) (Nat.le_trans HL.out.1 (by omega)))
          have h2 := fun W (e : Ext wr W) => half_any b _ W (hwb.below e) (Nat.le_trans (len_mono hby) (Nat.le_trans HL.out.2 (by omega)))
          have H1 := Lib.hid h1; have H2 := Lib.hid h2; have HE := Lib.hid he
          have HN : Hid (0 < a / 2 ∧ 0 < b / 2 ∧ x = 2 ^ (s + 1) * (a / 2) ∧ y = 2 ^ (s + 1) * (b / 2)) := Lib.hid ⟨by omega, by omega,
            by rw [Nat.pow_succ, Nat.mul_assoc, show 2 * (a / 2) = a by omega]; exact hxa, by rw [Nat.pow_succ, Nat.mul_assoc, show 2 * (b / 2) = b by omega]; exact hyb⟩
          clear h1 h2 hxa hyb hax hby hwa hwb he hI ha hb hea heb e1 e2 hx0 hy0
          go_wp2_with fail
          refine H1.out.mono ?_
          rintro e w1 ⟨r3, rfl, y1, x1⟩
          obtain ⟨A3, n3, c3, rfl⟩ := y1.slice_
          have Y1 := Lib.hid y1; have X1 := Lib.hid x1; clear y1 x1
          go_wp2_with fail
          refine (H2.out _ X1.out).mono ?_
          rintro e w2 ⟨r4, rfl, y2, x2⟩
          obtain ⟨A4, n4, c4, rfl⟩ := y2.slice_
          have Y2 := Lib.hid y2; have X2 := Lib.hid x2; clear y2 x2
          have hsn : IntKind.i64.wrap ((s : Int) + 1) = (s : Int) + 1 := IntWalk.i64_in _ (by omega)
          go_wp2
          go_roundw
          case rel => exact ⟨_, _, _, _, _, _, a / 2, b / 2, s + 1, rfl, rfl, (show Value.int .i64 ((s : Int) + 1) = .int .i64 ((s + 1 : Nat) : Int) by go_num), Lib.hid ⟨HN.out.1, HN.out.2.1, HN.out.2.2.1, HN.out.2.2.2, Wd.below Y1.out X2.out, Y2.out, (Ext.trans HE.out X1.out).trans X2.out⟩⟩
          case measure => simp [intOf]; omega
        · have r1 : ((ea : Nat) : Int) = 0 := by omega
          have r2 : ((eb : Nat) : Int) = 1 := by omega
          have hodd : a % 2 = 1 ∨ b % 2 = 1 := by omega
          rw [r1] at hpa
          rw [r2] at hpb
          go_wp2_with fail
          have hG : 2 ^ s * Nat.gcd a b = Nat.gcd x y := by rw [hxa, hyb, Nat.gcd_mul_left]
          obtain ⟨G, hGe⟩ : ∃ G, G = Nat.gcd a b := ⟨_, rfl⟩
          rw [← hGe] at hG
          have hax : a ≤ x := by rw [hxa]; exact Nat.le_mul_of_pos_left _ (Nat.pow_pos (by omega))
          have hby : b ≤ y := by rw [hyb]; exact Nat.le_mul_of_pos_left _ (Nat.pow_pos (by omega))
          have HI2 : Hid (DI w wr L G (.slice (some ⟨ba, oa, none⟩) n1 c1) (.slice (some ⟨bb, ob, none⟩) n2 c2) a b) := Lib.hid ⟨hwa, hwb, hb, Nat.le_trans (len_mono hax) HL.out.1, Nat.le_trans (len_mono hby) HL.out.2, hGe.symm, hodd, he⟩
          have HS := Lib.hid (And.intro hG (And.intro hs0 hx0))
          clear hxa hyb hax hby hGe hG hI hodd hwa hwb he hca hcb HPA HPB hs0 hx0 hy0 ha hb hea heb Hx Hy
          go_loopw [0, 1] (fun va vb wr => ∃ (A1 : Option Addr) (n1 c1 : Nat) (A2 : Option Addr) (n2 c2 a b : Nat), va = .slice A1 n1 c1 ∧ vb = .slice A2 n2 c2 ∧ Hid (DI w wr L G (.slice A1 n1 c1) (.slice A2 n2 c2) a b)) (fun va vb wr => wdNum wr va + wdNum wr vb)
          case atStart => exact ⟨_, _, _, _, _, _, _, _, rfl, rfl, HI2⟩
          case round =>
            clear HI2
            obtain ⟨A1, n1, c1, A2, n2, c2, a, b, rfl, rfl, hD⟩ := hrel
            obtain ⟨hwa, hwb, hb, hax, hby, hgc, hodd, he⟩ := hD.out
            have pn : 0 < n1 ↔ 0 < a := by rw [hwa.len]; exact dig_len_pos
            have HM := Lib.hid (And.intro (wdNum_eq hwa) (wdNum_eq hwb))
            by_cases hn1 : n1 = 0
            · have ha0 : a = 0 := by omega
              subst ha0 hn1
              rw [Nat.gcd_zero_left] at hgc
              rw [hgc] at hwb hby
              have HB := Lib.hid hwb; have HE := Lib.hid he
              have HLG : Hid (∀ i, i ≤ s → (dig (2 ^ i * G)).length ≤ 400000) := Lib.hid (fun i hi => by
                refine Nat.le_trans (len_mono (b := x) ?_) (Nat.le_trans HL.out.1 hL)
                refine Nat.le_trans (Nat.mul_le_mul_right _ (Nat.pow_le_pow_right (by omega) hi)) ?_
                rw [HS.out.1]; exact Nat.gcd_le_left _ HS.out.2.2)
              clear hwa hwb he hD hax hby hodd hb pn HM
              go_wp2_with fail
              go_loopw [1, 62] (fun vb iv w5 => ∃ (A2 : Option Addr) (n2 c2 i : Nat), vb = .slice A2 n2 c2 ∧ iv = .int .i64 i ∧ i ≤ s ∧ Hid (Wd w5 (.slice A2 n2 c2) (dig (2 ^ i * G)) ∧ Ext w w5)) (fun _ iv _ => s - (intOf iv).toNat)
              case atStart => exact ⟨_, _, _, 0, rfl, rfl, Nat.zero_le _, Lib.hid ⟨by rw [Nat.pow_zero, Nat.one_mul]; exact HB.out, HE.out⟩⟩
              case round =>
                obtain ⟨A2, n2, c2, i, rfl, rfl, hi, hI⟩ := hrel
                by_cases his : i < s
                · have hii : (i : Int) < (s : Int) := by omega
                  have pl := plusR_any (2 ^ i * G) (2 ^ i * G) _ _ _ hI.out.1 hI.out.1 (Nat.le_trans (HLG.out i hi) (by omega)) (Nat.le_trans (HLG.out i hi) (by omega))
                  rw [show 2 ^ i * G + 2 ^ i * G = 2 ^ (i + 1) * G by rw [Nat.pow_succ]; grind] at pl
                  have PL := Lib.hid pl
                  clear pl
                  have hsn : IntKind.i64.wrap ((i : Int) + 1) = (i : Int) + 1 := IntWalk.i64_in _ (by omega)
                  go_wp2_with fail
                  refine PL.out.mono ?_
                  rintro e w6 ⟨r6, rfl, y6, x6⟩
                  obtain ⟨A6, n6, c6, rfl⟩ := y6.slice_
                  have Y6 := Lib.hid y6; have X6 := Lib.hid x6; clear y6 x6
                  go_wp2
                  go_roundw
                  case rel => exact ⟨_, _, _, i + 1, rfl, by go_num, by omega, Lib.hid ⟨Y6.out, Ext.trans hI.out.2 X6.out⟩⟩
                  case measure => simp [intOf]; omega
                · have his2 : i = s := by omega
                  subst his2
                  have hii : ¬ (i : Int) < (i : Int) := by omega
                  have HF := Lib.hid (show Wd _ (.slice A2 n2 c2) (dig (Nat.gcd x y)) by rw [← HS.out.1]; exact hI.out.1)
                  go_wp2
                  go_ret
                  exact ⟨_, rfl, HF.out, hI.out.2⟩
            · have ha0 : 0 < a := by omega
              have h0n : 0 < n1 := by omega
              have HI3 : Hid (DI w wr L G (.slice A1 n1 c1) (.slice A2 n2 c2) a b ∧ 0 < a) := Lib.hid ⟨hD.out, ha0⟩
              clear hwa hwb hb hax hby hgc hodd he pn
              go_wp2_with fail
              go_loopw [0] (fun va w3 => ∃ (A1 : Option Addr) (n1 c1 a' : Nat), va = .slice A1 n1 c1 ∧ Hid (DI w w3 L G (.slice A1 n1 c1) (.slice A2 n2 c2) a' b ∧ 0 < a' ∧ a' ≤ a)) (fun va w3 => wdNum w3 va)
              case atStart => exact ⟨_, _, _, _, rfl, Lib.hid ⟨HI3.out.1, HI3.out.2, Nat.le_refl _⟩⟩
              case round =>
                obtain ⟨A3, n3, c3, a3, rfl, hD3⟩ := hrel
                obtain ⟨hI, ha3, hle⟩ := hD3.out
                obtain ⟨ba, oa, na, ca, he1, hna, pa, hca, hpa⟩ := par_at hI.wa ha3
                injection he1 with he11 he12 he13
                subst he11 he12 he13
                obtain ⟨ea, hea⟩ : ∃ k, k = a3 % 2 := ⟨_, rfl⟩
                rw [← hea] at hpa
                have HM3 := Lib.hid (wdNum_eq hI.wa)
                have HI0 := Lib.hid hI
                by_cases e1 : ea = 0
                · have r1 : ((ea : Nat) : Int) = 0 := by omega
                  rw [r1] at hpa
                  have hl := Lib.hid (half_any a3 _ _ hI.wa (Nat.le_trans hI.ax (by omega)))
                  have hg := Lib.hid ((gcd_half_left (show a3 % 2 = 0 by omega) (show b % 2 = 1 by rcases hI.odd with h | h <;> omega)).trans hI.gcd)
                  have hob := Lib.hid (show b % 2 = 1 by rcases hI.odd with h | h <;> omega)
                  have hpos3 : 0 < a3 / 2 := by omega
                  clear hI hea e1
                  go_wp2_with fail
                  refine hl.out.mono ?_
                  rintro e w4 ⟨r4, rfl, y4, x4⟩
                  obtain ⟨A4, n4, c4, rfl⟩ := y4.slice_
                  have Y4 := Lib.hid y4; have X4 := Lib.hid x4; clear y4 x4
                  go_wp2
                  go_roundw
                  case rel =>
                    have hI := HI0.out
                    exact ⟨_, _, _, a3 / 2, rfl, Lib.hid ⟨⟨Y4.out, Wd.below hI.wb X4.out, hI.b0, Nat.le_trans (len_mono (Nat.div_le_self _ _)) hI.ax, hI.bY, hg.out, .inr hob.out, Ext.trans hI.ex X4.out⟩, hpos3, by omega⟩⟩
                  case measure =>
                    rw [HM3.out, wdNum_eq Y4.out]; omega
                · have r1 : ((ea : Nat) : Int) = 1 := by omega
                  rw [r1] at hpa
                  have hoa : a3 % 2 = 1 := by omega
                  clear hI hea
                  go_wp2_with fail
                  go_loopw [1] (fun vb w4 => ∃ (A4 : Option Addr) (n4 c4 b' : Nat), vb = .slice A4 n4 c4 ∧ Hid (DI w w4 L G (.slice (some ⟨ba, oa, none⟩) n3 c3) (.slice A4 n4 c4) a3 b' ∧ b' ≤ b)) (fun vb w4 => wdNum w4 vb)
                  case atStart => exact ⟨_, _, _, _, rfl, Lib.hid ⟨HI0.out, Nat.le_refl _⟩⟩
                  case round =>
                    obtain ⟨A4, n4, c4, b4, rfl, hD4⟩ := hrel
                    obtain ⟨hI, hle4⟩ := hD4.out
                    obtain ⟨bb, ob, nb, cb, he2, hnb, pb, hcb, hpb⟩ := par_at hI.wb hI.b0
                    injection he2 with he21 he22 he23
                    subst he21 he22 he23
                    obtain ⟨eb, heb⟩ : ∃ k, k = b4 % 2 := ⟨_, rfl⟩
                    rw [← heb] at hpb
                    have HM4 := Lib.hid (wdNum_eq hI.wb)
                    have HI4 := Lib.hid hI
                    have b40 := hI.b0
                    by_cases e2 : eb = 0
                    · have r2 : ((eb : Nat) : Int) = 0 := by omega
                      rw [r2] at hpb
                      have hl := Lib.hid (half_any b4 _ _ hI.wb (Nat.le_trans hI.bY (by omega)))
                      have hg := Lib.hid ((gcd_half_right hoa (show b4 % 2 = 0 by omega)).trans hI.gcd)
                      have hpos : 0 < b4 / 2 := by omega
                      clear hI heb e2
                      go_wp2_with fail
                      refine hl.out.mono ?_
                      rintro e w5 ⟨r5, rfl, y5, x5⟩
                      obtain ⟨A5, n5, c5, rfl⟩ := y5.slice_
                      have Y5 := Lib.hid y5; have X5 := Lib.hid x5; clear y5 x5
                      go_wp2
                      go_roundw
                      case rel =>
                        have hI := HI4.out
                        exact ⟨_, _, _, b4 / 2, rfl, Lib.hid ⟨⟨Wd.below hI.wa X5.out, Y5.out, hpos, hI.ax, Nat.le_trans (len_mono (Nat.div_le_self _ _)) hI.bY, hg.out, .inl hoa, Ext.trans hI.ex X5.out⟩, by omega⟩⟩
                      case measure =>
                        rw [HM4.out, wdNum_eq Y5.out]; omega
                    · have r2 : ((eb : Nat) : Int) = 1 := by omega
                      rw [r2] at hpb
                      have hob : b4 % 2 = 1 := by omega
                      have OR := Lib.hid (orderR_any a3 b4 _ _ _ hI.wa hI.wb)
                      have hb0 : 0 < b := by omega
                      clear hI heb
                      go_wp2_with fail
                      refine OR.out.mono ?_
                      rintro e w5 ⟨rfl, q, rfl⟩
                      obtain ⟨cv, hcv⟩ : ∃ cv, cv = cmpN a3 b4 := ⟨_, rfl⟩
                      rw [← hcv]
                      by_cases hlt : a3 < b4
                      · rw [cmpN_lt hlt] at hcv
                        have hcn : cv < 0 := by omega
                        have LE := Lib.hid (fun W (h1 : Wd W (.slice (some ⟨bb, ob, none⟩) n4 c4) (dig b4)) (h2 : Wd W (.slice (some ⟨ba, oa, none⟩) n3 c3) (dig a3)) => lessR_any b4 a3 _ _ W h1 h2 (Nat.le_trans HI4.out.bY (by omega)) (by omega))
                        clear hcv OR
                        go_wp2_with fail
                        refine (LE.out _ (Wd.drewN HI4.out.wb q) (Wd.drewN HI4.out.wa q)).mono ?_
                        rintro e w6 ⟨r6, rfl, y6, x6⟩
                        obtain ⟨A6, n6, c6, rfl⟩ := y6.slice_
                        have X6 : Hid (Ext wr w6) := Lib.hid (undrewN (W := wr) (k := q) x6)
                        have Y6 := Lib.hid y6; clear y6 x6
                        go_wp2
                        go_roundw
                        case rel =>
                          have hI := HI4.out
                          exact ⟨_, _, _, _, _, _, b4 - a3, a3, rfl, rfl, Lib.hid ⟨Y6.out, Wd.below hI.wa X6.out, by omega, Nat.le_trans (len_mono (Nat.sub_le _ _)) hI.bY, hI.ax, (gcd_less (by omega)).trans ((Nat.gcd_comm _ _).trans hI.gcd), .inr hoa, Ext.trans hI.ex X6.out⟩⟩
                        case measure =>
                          have e1 := wdNum_eq Y6.out
                          have e2 := wdNum_eq (Wd.below HI4.out.wa X6.out)
                          rw [HM.out.1, HM.out.2, e1, e2]; omega
                      · have hcn : ¬ cv < 0 := by rw [hcv]; unfold cmpN; split <;> omega
                        have LE := Lib.hid (fun W (h1 : Wd W (.slice (some ⟨ba, oa, none⟩) n3 c3) (dig a3)) (h2 : Wd W (.slice (some ⟨bb, ob, none⟩) n4 c4) (dig b4)) => lessR_any a3 b4 _ _ W h1 h2 (Nat.le_trans HI4.out.ax (by omega)) (by omega))
                        clear hcv OR
                        go_wp2_with fail
                        refine (LE.out _ (Wd.drewN HI4.out.wa q) (Wd.drewN HI4.out.wb q)).mono ?_
                        rintro e w6 ⟨r6, rfl, y6, x6⟩
                        obtain ⟨A6, n6, c6, rfl⟩ := y6.slice_
                        have X6 : Hid (Ext wr w6) := Lib.hid (undrewN (W := wr) (k := q) x6)
                        have Y6 := Lib.hid y6; clear y6 x6
                        go_wp2
                        go_roundw
                        case rel =>
                          have hI := HI4.out
                          exact ⟨_, _, _, _, _, _, a3 - b4, b4, rfl, rfl, Lib.hid ⟨Y6.out, Wd.below hI.wb X6.out, by omega, Nat.le_trans (len_mono (Nat.sub_le _ _)) hI.ax, hI.bY, (gcd_less (by omega)).trans hI.gcd, .inr hob, Ext.trans hI.ex X6.out⟩⟩
                        case measure =>
                          have e1 := wdNum_eq Y6.out
                          have e2 := wdNum_eq (Wd.below HI4.out.wb X6.out)
                          rw [HM.out.1, HM.out.2, e1, e2]; omega
      · have r1 : ((ea : Nat) : Int) = 1 := by omega
        have hodd : a % 2 = 1 ∨ b % 2 = 1 := by omega
        rw [r1] at hpa
        go_wp2_with fail
        have hG : 2 ^ s * Nat.gcd a b = Nat.gcd x y := by rw [hxa, hyb, Nat.gcd_mul_left]
        obtain ⟨G, hGe⟩ : ∃ G, G = Nat.gcd a b := ⟨_, rfl⟩
        rw [← hGe] at hG
        have hax : a ≤ x := by rw [hxa]; exact Nat.le_mul_of_pos_left _ (Nat.pow_pos (by omega))
        have hby : b ≤ y := by rw [hyb]; exact Nat.le_mul_of_pos_left _ (Nat.pow_pos (by omega))
        have HI2 : Hid (DI w wr L G (.slice (some ⟨ba, oa, none⟩) n1 c1) (.slice (some ⟨bb, ob, none⟩) n2 c2) a b) := Lib.hid ⟨hwa, hwb, hb, Nat.le_trans (len_mono hax) HL.out.1, Nat.le_trans (len_mono hby) HL.out.2, hGe.symm, hodd, he⟩
        have HS := Lib.hid (And.intro hG (And.intro hs0 hx0))
        clear hxa hyb hax hby hGe hG hI hodd hwa hwb he hca hcb HPA HPB hs0 hx0 hy0 ha hb hea heb Hx Hy
        go_loopw [0, 1] (fun va vb wr => ∃ (A1 : Option Addr) (n1 c1 : Nat) (A2 : Option Addr) (n2 c2 a b : Nat), va = .slice A1 n1 c1 ∧ vb = .slice A2 n2 c2 ∧ Hid (DI w wr L G (.slice A1 n1 c1) (.slice A2 n2 c2) a b)) (fun va vb wr => wdNum wr va + wdNum wr vb)
        case atStart => exact ⟨_, _, _, _, _, _, _, _, rfl, rfl, HI2⟩
        case round =>
          clear HI2
          obtain ⟨A1, n1, c1, A2, n2, c2, a, b, rfl, rfl, hD⟩ := hrel
          obtain ⟨hwa, hwb, hb, hax, hby, hgc, hodd, he⟩ := hD.out
          have pn : 0 < n1 ↔ 0 < a := by rw [hwa.len]; exact dig_len_pos
          have HM := Lib.hid (And.intro (wdNum_eq hwa) (wdNum_eq hwb))
          by_cases hn1 : n1 = 0
          · have ha0 : a = 0 := by omega
            subst ha0 hn1
            rw [Nat.gcd_zero_left] at hgc
            rw [hgc] at hwb hby
            have HB := Lib.hid hwb; have HE := Lib.hid he
            have HLG : Hid (∀ i, i ≤ s → (dig (2 ^ i * G)).length ≤ 400000) := Lib.hid (fun i hi => by
              refine Nat.le_trans (len_mono (b := x) ?_) (Nat.le_trans HL.out.1 hL)
              refine Nat.le_trans (Nat.mul_le_mul_right _ (Nat.pow_le_pow_right (by omega) hi)) ?_
              rw [HS.out.1]; exact Nat.gcd_le_left _ HS.out.2.2)
            clear hwa hwb he hD hax hby hodd hb pn HM
            go_wp2_with fail
            go_loopw [1, 62] (fun vb iv w5 => ∃ (A2 : Option Addr) (n2 c2 i : Nat), vb = .slice A2 n2 c2 ∧ iv = .int .i64 i ∧ i ≤ s ∧ Hid (Wd w5 (.slice A2 n2 c2) (dig (2 ^ i * G)) ∧ Ext w w5)) (fun _ iv _ => s - (intOf iv).toNat)
            case atStart => exact ⟨_, _, _, 0, rfl, rfl, Nat.zero_le _, Lib.hid ⟨by rw [Nat.pow_zero, Nat.one_mul]; exact HB.out, HE.out⟩⟩
            case round =>
              obtain ⟨A2, n2, c2, i, rfl, rfl, hi, hI⟩ := hrel
              by_cases his : i < s
              · have hii : (i : Int) < (s : Int) := by omega
                have pl := plusR_any (2 ^ i * G) (2 ^ i * G) _ _ _ hI.out.1 hI.out.1 (Nat.le_trans (HLG.out i hi) (by omega)) (Nat.le_trans (HLG.out i hi) (by omega))
                rw [show 2 ^ i * G + 2 ^ i * G = 2 ^ (i + 1) * G by rw [Nat.pow_succ]; grind] at pl
                have PL := Lib.hid pl
                clear pl
                have hsn : IntKind.i64.wrap ((i : Int) + 1) = (i : Int) + 1 := IntWalk.i64_in _ (by omega)
                go_wp2_with fail
                refine PL.out.mono ?_
                rintro e w6 ⟨r6, rfl, y6, x6⟩
                obtain ⟨A6, n6, c6, rfl⟩ := y6.slice_
                have Y6 := Lib.hid y6; have X6 := Lib.hid x6; clear y6 x6
                go_wp2
                go_roundw
                case rel => exact ⟨_, _, _, i + 1, rfl, by go_num, by omega, Lib.hid ⟨Y6.out, Ext.trans hI.out.2 X6.out⟩⟩
                case measure => simp [intOf]; omega
              · have his2 : i = s := by omega
                subst his2
                have hii : ¬ (i : Int) < (i : Int) := by omega
                have HF := Lib.hid (show Wd _ (.slice A2 n2 c2) (dig (Nat.gcd x y)) by rw [← HS.out.1]; exact hI.out.1)
                go_wp2
                go_ret
                exact ⟨_, rfl, HF.out, hI.out.2⟩
          · have ha0 : 0 < a := by omega
            have h0n : 0 < n1 := by omega
            have HI3 : Hid (DI w wr L G (.slice A1 n1 c1) (.slice A2 n2 c2) a b ∧ 0 < a) := Lib.hid ⟨hD.out, ha0⟩
            clear hwa hwb hb hax hby hgc hodd he pn
            go_wp2_with fail
            go_loopw [0] (fun va w3 => ∃ (A1 : Option Addr) (n1 c1 a' : Nat), va = .slice A1 n1 c1 ∧ Hid (DI w w3 L G (.slice A1 n1 c1) (.slice A2 n2 c2) a' b ∧ 0 < a' ∧ a' ≤ a)) (fun va w3 => wdNum w3 va)
            case atStart => exact ⟨_, _, _, _, rfl, Lib.hid ⟨HI3.out.1, HI3.out.2, Nat.le_refl _⟩⟩
            case round =>
              obtain ⟨A3, n3, c3, a3, rfl, hD3⟩ := hrel
              obtain ⟨hI, ha3, hle⟩ := hD3.out
              obtain ⟨ba, oa, na, ca, he1, hna, pa, hca, hpa⟩ := par_at hI.wa ha3
              injection he1 with he11 he12 he13
              subst he11 he12 he13
              obtain ⟨ea, hea⟩ : ∃ k, k = a3 % 2 := ⟨_, rfl⟩
              rw [← hea] at hpa
              have HM3 := Lib.hid (wdNum_eq hI.wa)
              have HI0 := Lib.hid hI
              by_cases e1 : ea = 0
              · have r1 : ((ea : Nat) : Int) = 0 := by omega
                rw [r1] at hpa
                have hl := Lib.hid (half_any a3 _ _ hI.wa (Nat.le_trans hI.ax (by omega)))
                have hg := Lib.hid ((gcd_half_left (show a3 % 2 = 0 by omega) (show b % 2 = 1 by rcases hI.odd with h | h <;> omega)).trans hI.gcd)
                have hob := Lib.hid (show b % 2 = 1 by rcases hI.odd with h | h <;> omega)
                have hpos3 : 0 < a3 / 2 := by omega
                clear hI hea e1
                go_wp2_with fail
                refine hl.out.mono ?_
                rintro e w4 ⟨r4, rfl, y4, x4⟩
                obtain ⟨A4, n4, c4, rfl⟩ := y4.slice_
                have Y4 := Lib.hid y4; have X4 := Lib.hid x4; clear y4 x4
                go_wp2
                go_roundw
                case rel =>
                  have hI := HI0.out
                  exact ⟨_, _, _, a3 / 2, rfl, Lib.hid ⟨⟨Y4.out, Wd.below hI.wb X4.out, hI.b0, Nat.le_trans (len_mono (Nat.div_le_self _ _)) hI.ax, hI.bY, hg.out, .inr hob.out, Ext.trans hI.ex X4.out⟩, hpos3, by omega⟩⟩
                case measure =>
                  rw [HM3.out, wdNum_eq Y4.out]; omega
              · have r1 : ((ea : Nat) : Int) = 1 := by omega
                rw [r1] at hpa
                have hoa : a3 % 2 = 1 := by omega
                clear hI hea
                go_wp2_with fail
                go_loopw [1] (fun vb w4 => ∃ (A4 : Option Addr) (n4 c4 b' : Nat), vb = .slice A4 n4 c4 ∧ Hid (DI w w4 L G (.slice (some ⟨ba, oa, none⟩) n3 c3) (.slice A4 n4 c4) a3 b' ∧ b' ≤ b)) (fun vb w4 => wdNum w4 vb)
                case atStart => exact ⟨_, _, _, _, rfl, Lib.hid ⟨HI0.out, Nat.le_refl _⟩⟩
                case round =>
                  obtain ⟨A4, n4, c4, b4, rfl, hD4⟩ := hrel
                  obtain ⟨hI, hle4⟩ := hD4.out
                  obtain ⟨bb, ob, nb, cb, he2, hnb, pb, hcb, hpb⟩ := par_at hI.wb hI.b0
                  injection he2 with he21 he22 he23
                  subst he21 he22 he23
                  obtain ⟨eb, heb⟩ : ∃ k, k = b4 % 2 := ⟨_, rfl⟩
                  rw [← heb] at hpb
                  have HM4 := Lib.hid (wdNum_eq hI.wb)
                  have HI4 := Lib.hid hI
                  have b40 := hI.b0
                  by_cases e2 : eb = 0
                  · have r2 : ((eb : Nat) : Int) = 0 := by omega
                    rw [r2] at hpb
                    have hl := Lib.hid (half_any b4 _ _ hI.wb (Nat.le_trans hI.bY (by omega)))
                    have hg := Lib.hid ((gcd_half_right hoa (show b4 % 2 = 0 by omega)).trans hI.gcd)
                    have hpos : 0 < b4 / 2 := by omega
                    clear hI heb e2
                    go_wp2_with fail
                    refine hl.out.mono ?_
                    rintro e w5 ⟨r5, rfl, y5, x5⟩
                    obtain ⟨A5, n5, c5, rfl⟩ := y5.slice_
                    have Y5 := Lib.hid y5; have X5 := Lib.hid x5; clear y5 x5
                    go_wp2
                    go_roundw
                    case rel =>
                      have hI := HI4.out
                      exact ⟨_, _, _, b4 / 2, rfl, Lib.hid ⟨⟨Wd.below hI.wa X5.out, Y5.out, hpos, hI.ax, Nat.le_trans (len_mono (Nat.div_le_self _ _)) hI.bY, hg.out, .inl hoa, Ext.trans hI.ex X5.out⟩, by omega⟩⟩
                    case measure =>
                      rw [HM4.out, wdNum_eq Y5.out]; omega
                  · have r2 : ((eb : Nat) : Int) = 1 := by omega
                    rw [r2] at hpb
                    have hob : b4 % 2 = 1 := by omega
                    have OR := Lib.hid (orderR_any a3 b4 _ _ _ hI.wa hI.wb)
                    have hb0 : 0 < b := by omega
                    clear hI heb
                    go_wp2_with fail
                    refine OR.out.mono ?_
                    rintro e w5 ⟨rfl, q, rfl⟩
                    obtain ⟨cv, hcv⟩ : ∃ cv, cv = cmpN a3 b4 := ⟨_, rfl⟩
                    rw [← hcv]
                    by_cases hlt : a3 < b4
                    · rw [cmpN_lt hlt] at hcv
                      have hcn : cv < 0 := by omega
                      have LE := Lib.hid (fun W (h1 : Wd W (.slice (some ⟨bb, ob, none⟩) n4 c4) (dig b4)) (h2 : Wd W (.slice (some ⟨ba, oa, none⟩) n3 c3) (dig a3)) => lessR_any b4 a3 _ _ W h1 h2 (Nat.le_trans HI4.out.bY (by omega)) (by omega))
                      clear hcv OR
                      go_wp2_with fail
                      refine (LE.out _ (Wd.drewN HI4.out.wb q) (Wd.drewN HI4.out.wa q)).mono ?_
                      rintro e w6 ⟨r6, rfl, y6, x6⟩
                      obtain ⟨A6, n6, c6, rfl⟩ := y6.slice_
                      have X6 : Hid (Ext wr w6) := Lib.hid (undrewN (W := wr) (k := q) x6)
                      have Y6 := Lib.hid y6; clear y6 x6
                      go_wp2
                      go_roundw
                      case rel =>
                        have hI := HI4.out
                        exact ⟨_, _, _, _, _, _, b4 - a3, a3, rfl, rfl, Lib.hid ⟨Y6.out, Wd.below hI.wa X6.out, by omega, Nat.le_trans (len_mono (Nat.sub_le _ _)) hI.bY, hI.ax, (gcd_less (by omega)).trans ((Nat.gcd_comm _ _).trans hI.gcd), .inr hoa, Ext.trans hI.ex X6.out⟩⟩
                      case measure =>
                        have e1 := wdNum_eq Y6.out
                        have e2 := wdNum_eq (Wd.below HI4.out.wa X6.out)
                        rw [HM.out.1, HM.out.2, e1, e2]; omega
                    · have hcn : ¬ cv < 0 := by rw [hcv]; unfold cmpN; split <;> omega
                      have LE := Lib.hid (fun W (h1 : Wd W (.slice (some ⟨ba, oa, none⟩) n3 c3) (dig a3)) (h2 : Wd W (.slice (some ⟨bb, ob, none⟩) n4 c4) (dig b4)) => lessR_any a3 b4 _ _ W h1 h2 (Nat.le_trans HI4.out.ax (by omega)) (by omega))
                      clear hcv OR
                      go_wp2_with fail
                      refine (LE.out _ (Wd.drewN HI4.out.wa q) (Wd.drewN HI4.out.wb q)).mono ?_
                      rintro e w6 ⟨r6, rfl, y6, x6⟩
                      obtain ⟨A6, n6, c6, rfl⟩ := y6.slice_
                      have X6 : Hid (Ext wr w6) := Lib.hid (undrewN (W := wr) (k := q) x6)
                      have Y6 := Lib.hid y6; clear y6 x6
                      go_wp2
                      go_roundw
                      case rel =>
                        have hI := HI4.out
                        exact ⟨_, _, _, _, _, _, a3 - b4, b4, rfl, rfl, Lib.hid ⟨Y6.out, Wd.below hI.wb X6.out, by omega, Nat.le_trans (len_mono (Nat.sub_le _ _)) hI.ax, hI.bY, (gcd_less (by omega)).trans hI.gcd, .inr hob, Ext.trans hI.ex X6.out⟩⟩
                      case measure =>
                        have e1 := wdNum_eq Y6.out
                        have e2 := wdNum_eq (Wd.below HI4.out.wb X6.out)
                        rw [HM.out.1, HM.out.2, e1, e2]; omega
end Go.Proofs.Ytmlopkkbgpfdnaa
namespace Go.Proofs.Ytmlopkkbgpfdnaa
open Go.RowKit

set_option maxHeartbeats 800000 in
set_option maxRecDepth 100000 in
/-- Common -/
theorem commonR_any (x y : Int) (u v : Value) (w : World) (hx : ZV w u x) (hy : ZV w v y) (lx : (dig x.natAbs).length ≤ 400000) (ly : (dig y.natAbs).length ≤ 400000) :
    Calls Try.prog 65 #[u, v] w (RetZ w (Int.gcd x y : Nat)) := by
  obtain ⟨A, n, c, rfl, hx0, -, -⟩ := hx.open_
  obtain ⟨A', n', c', rfl, hy0, -, -⟩ := hy.open_
  obtain ⟨p, hp⟩ : ∃ p, p = decide (x < 0) := ⟨_, rfl⟩
  obtain ⟨q, hq⟩ : ∃ q, q = decide (y < 0) := ⟨_, rfl⟩
  rw [← hp, ← hq]
  clear hp hq hx hy
  obtain ⟨W1, hW1⟩ : ∃ W1, W1 = ((w.alloc (Obj.cells #[.bool p, .slice A n c] 34)).alloc (Obj.cells #[.bool q, .slice A' n' c'] 34)).alloc (Obj.cells #[.bool false, .slice none 0 0] 34) := ⟨_, rfl⟩
  have e1 : Ext w W1 := by rw [hW1]; exact (((Ext.refl w).alc _).alc _).alc _
  have R1 : RB W1 (w.heap.size + 1 + 1) := by rw [hW1]; exact RB.a3 w false none 0 0 34 _ _
  have DV := Lib.hid (divisor_any x.natAbs y.natAbs 400000 _ _ W1 (Wd.below hx0 e1) (Wd.below hy0 e1) lx ly (by omega))
  have HR := Lib.hid R1; have HE := Lib.hid e1; have HW1 := Lib.hid hW1
  clear hW1 e1 R1 hx0 hy0 lx ly
  go_enter Try.func65, Try.ntmps65
  go_wp2_with fail
  rw [← HW1.out]
  refine DV.out.mono ?_
  rintro e w2 ⟨r, rfl, h2, x2⟩
  obtain ⟨A2, n2, c2, rfl⟩ := h2.slice_
  have l2 := h2.n_le
  have H2 := Lib.hid h2; have X2 := Lib.hid x2; clear h2 x2
  go_wp2_with fail
  refine (signedR_any _ _ _ _ _ l2).mono ?_
  rintro e w3 ⟨rfl, x3⟩
  rw [Bool.false_and]
  have X3 := Lib.hid x3; clear x3
  have R3 := HR.out.ext (Ext.trans X2.out X3.out)
  obtain ⟨_, _, _, _, g0, g1, g2, g3⟩ := R3.facts
  have s0 := R3.set0 false (.slice A2 n2 c2); have s1 := R3.set1 false (.slice A2 n2 c2)
  have hz : ZV w3 (.agg #[.bool false, .slice A2 n2 c2]) ((Int.gcd x y : Nat) : Int) := ZV.mk (by simp) (by rw [Int.natAbs_natCast]; exact Wd.below H2.out X3.out)
  have hz2 := hz.rb R3 (.bool false) (.slice A2 n2 c2)
  have hbf := below_set2 ((HE.out.trans X2.out).trans X3.out) (i := 0) (j := 1) (show w.heap.size ≤ w.heap.size + 1 + 1 by omega) (.bool false) (.slice A2 n2 c2)
  have F := Lib.hid (And.intro s0 (And.intro s1 (And.intro hz2 hbf)))
  clear s0 s1 hz hz2 hbf R3
  go_wp2
  obtain ⟨s0, s1, hz, hbf⟩ := F.out
  exact bodyPost_ret (v := .agg #[.bool false, .slice A2 n2 c2]) (by simp [results, Try.results65, go_sem, s0, s1]) rfl ⟨_, rfl, hz, hbf⟩
end Go.Proofs.Ytmlopkkbgpfdnaa
