/- Walks: the reference's trim and less, with the address of what they return. · Walks: the reference's naturals: times. · Walks: a guessed digit of a quotient. · Walks: a multiple of the divisor is taken off a part. · Plain mathematics: a divisor with its top bit set; the outer loop of a long division. · Walks: natural.divide. · Walks: the reference's division of naturals. -/
import Derived.Test.YtmlopkkbgpfdnaaDoorM4
import Derived.Test.YtmlopkkbgpfdnaaDoorM3
import Derived.Test.YtmlopkkbgpfdnaaDoorM2
import Derived.Lib.BitFns
import Derived.Test.YtmlopkkbgpfdnaaDoorM1
import Derived.Laws.AppendOwnNone
import Derived.Laws.OwnMore
namespace Go.Proofs.YtmlopkkbgpfdnaaDoor
open Go.RowKit

set_option maxRecDepth 100000 in
/-- ref trim: the same address -/
theorem trimR_at (A : Option Addr) (nn c : Nat) (l : List Nat) (w : World) (hv : Wd w (.slice A nn c) l) :
    Calls Tryd.prog 41 #[.slice A nn c] w fun e w' => ∃ k, e = .returned (.slice A k c) ∧ Wd w (.slice A k c) (dig (val l)) ∧ w = w' := by
  obtain ⟨A', c', he, h1, h2, h3, h4⟩ := hv
  injection he with e1 e2 e3
  subst e1 e2 e3
  obtain ⟨n, hn⟩ : ∃ n, n = l.length := ⟨_, rfl⟩
  rw [← hn] at h1 h4 ⊢
  have Hn := Lib.hid hn; clear hn
  have hm : n ≤ 9223372036854775807 := by omega
  go_enter Tryd.func41, Tryd.ntmps41
  go_wp2
  go_loop [0] (fun v => ∃ k : Nat, v = .slice A k c ∧ k ≤ n ∧ ∀ j, k ≤ j → j < n → l.getD j 0 = 0) (fun v => match v with | .slice _ k _ => k | _ => 0)
  case atStart => exact ⟨n, rfl, Nat.le_refl _, fun j h h' => by omega⟩
  case round =>
    obtain ⟨k, rfl, hk, hz⟩ := hrel
    by_cases k0 : k = 0
    · subst k0
      have HZ := Lib.hid hz; clear hz
      go_wp2
      go_ret
      refine ⟨0, rfl, ?_, rfl⟩
      rw [dig_take (k := 0) h3 (by omega) (fun j h h' => HZ.out j h (by rw [Hn.out]; exact h')) (.inl rfl)]
      exact ⟨A, c, rfl, by simp, by omega, Ok.nil, fun h => absurd h (by simp)⟩
    · obtain ⟨b, off, rfl, hb, hc⟩ := h4 (by omega)
      have hx := hc (k - 1) (by omega)
      obtain ⟨x, hxe⟩ : ∃ x, x = l.getD (k - 1) 0 := ⟨_, rfl⟩
      rw [← hxe] at hx
      have Hx := Lib.hid hxe; clear hxe
      have HC := Lib.hid hc; clear hc h4
      have HZ := Lib.hid hz; clear hz
      have hkp : 0 < k := by omega
      have hkd : decide ((0 : Int) < (k : Int)) = true := by simp; omega
      by_cases hx0 : x = 0
      · subst hx0
        go_wp2
        go_round
        case rel =>
          refine ⟨k - 1, by simp, by omega, fun j hj hj' => ?_⟩
          by_cases e : j = k - 1
          · rw [e]; exact Hx.out.symm
          · exact HZ.out j (by omega) hj'
        case measure => simp; omega
      · go_wp2
        go_ret
        have hl : (l.take k).length = k := by rw [List.length_take, ← Hn.out]; omega
        refine ⟨k, rfl, ?_, rfl⟩
        rw [dig_take (k := k) h3 (by rw [← Hn.out]; omega) (fun j h h' => HZ.out j h (by rw [Hn.out]; exact h')) (.inr (by rw [← Hx.out]; exact hx0))]
        refine ⟨some ⟨b, off, none⟩, c, by rw [hl], by omega, by omega, h3.take k, fun _ => ⟨b, off, rfl, hb, fun j hj => ?_⟩⟩
        rw [hl] at hj
        rw [HC.out j (by omega)]
        simp [List.getD_eq_getElem?_getD, List.getElem?_take, hj]

set_option maxHeartbeats 800000 in
set_option maxRecDepth 100000 in
/-- ref less -/
theorem lessR_at (x y : Nat) (u v : Value) (w : World) (hx : Wd w u (dig x)) (hy : Wd w v (dig y)) (lx : (dig x).length ≤ 1000000) (hyx : y ≤ x) :
    Calls Tryd.prog 48 #[u, v] w fun e w' => ∃ b o n c, e = .returned (.slice (some ⟨b, o, none⟩) n c) ∧ w.heap.size ≤ b ∧ Wd w' (.slice (some ⟨b, o, none⟩) n c) (dig (x - y)) ∧ Below w.heap.size w w' := by
  have hly := dig_len_mono hyx
  obtain ⟨A, c, rfl, -, -⟩ := hx.shape
  obtain ⟨A', c', rfl, -, -⟩ := hy.shape
  obtain ⟨nx, hnx⟩ : ∃ n, n = (dig x).length := ⟨_, rfl⟩
  obtain ⟨ny, hny⟩ : ∃ n, n = (dig y).length := ⟨_, rfl⟩
  rw [← hnx] at lx hx hly ⊢
  rw [← hny] at hy hly ⊢
  have Hx := Lib.hid hx; clear hx
  have Hy := Lib.hid hy; clear hy
  have Hnx := Lib.hid hnx; clear hnx
  have Hny := Lib.hid hny; clear hny
  have Hyx := Lib.hid hyx; clear hyx
  have hmk : ∀ w, (Instr.makeSlice 41 (.int .i64 (nx : Int)) (.int .i64 (nx : Int))).run Tryd.prog w = .ok (.slice (some ⟨w.heap.size, 0, none⟩) nx nx) (w.alloc (.cells (U32s (zeros nx)) 45)) := fun w => make_u32 41 Tryd.underlying41 nx (by omega) w
  go_enter Tryd.func48, Tryd.ntmps48
  go_wp2_with fail
  go_loopw [6, 14] (fun cr i wr => ∃ (k cv : Nat) (L : List Nat), i = .int .i64 k ∧ k ≤ nx ∧ cr = .int .u64 cv ∧ cv ≤ 1 ∧ L.length = nx ∧ Ok L ∧ Blk wr w.heap.size L ∧ Below w.heap.size w wr ∧
      val (L.take k) + y % 4294967296 ^ k = x % 4294967296 ^ k + 4294967296 ^ k * cv) (fun _ i _ => nx - (intOf i).toNat)
  case atStart => exact ⟨0, 0, zeros nx, rfl, Nat.zero_le _, rfl, by omega, zeros_length _, zeros_ok _, heap_alloc_new w _, below_alloc _ _, by simp [val, Nat.mod_one]⟩
  case round =>
    obtain ⟨k, cv, L, rfl, hk, rfl, hcv, hL, hok, hblk, hbel, hval⟩ := hrel
    have HV := Lib.hid hval; clear hval
    have HL := Lib.hid hL; clear hL
    have HX := Lib.hid (Hx.out.below hbel)
    have HY := Lib.hid (Hy.out.below hbel)
    by_cases hlt : k < nx
    · have hfr := hblk.frozen k
      have hce := hblk.cell (i := k) (by rw [HL.out]; omega)
      have hB := Lib.hid hblk; clear hblk
      obtain ⟨b, off, rfl, hb, hc⟩ := Wd.cell (k := k) HX.out hlt
      have hxk := hc k hlt
      clear hc
      obtain ⟨p, hp⟩ : ∃ p, p = dg x k := ⟨_, rfl⟩
      have hpl : p < 4294967296 := by rw [hp]; exact dg_lt _ _
      rw [← hp] at hxk
      have Hp := Lib.hid hp; clear hp
      by_cases hky : k < ny
      · obtain ⟨b', off', rfl, hb', hc'⟩ := Wd.cell (k := k) HY.out hky
        have hyk := hc' k hky
        clear hc'
        obtain ⟨q, hq⟩ : ∃ q, q = dg y k := ⟨_, rfl⟩
        have hql : q < 4294967296 := by rw [hq]; exact dg_lt _ _
        rw [← hq] at hyk
        have Hq := Lib.hid hq; clear hq
        by_cases hge : q + cv ≤ p
        · go_wp2_with fail
          have w1 : ((p : Int) - cv - q) = ((p - cv - q : Nat) : Int) := by omega
          have w2 : ((p : Int) - cv - q) / 9223372036854775808 = ((0 : Nat) : Int) := by omega
          rw [w2, w1]
          go_roundw
          case rel =>
            refine ⟨k + 1, 0, L.set k (p - cv - q), by go_num, by omega, rfl, by omega, by rw [List.length_set, HL.out], hok.set (by omega), hB.out.set_ k _, hbel.setCell (Nat.le_refl _) _, ?_⟩
            rw [val_take_set (by rw [HL.out]; omega)]
            exact sub_round HV.out hcv (by rw [← Hp.out, ← Hq.out]; omega) (by rw [← Hp.out, ← Hq.out]; rw [if_neg (by omega)])
          case measure => simp [intOf]; omega
        · have hlt2 : p < q + cv := by omega
          go_wp2_with fail
          have w1 : (IntKind.u64.wrap (IntKind.u64.wrap ((p : Int) - cv) - q)) % 4294967296 = ((p + 4294967296 - q - cv : Nat) : Int) := by rw [IntKind.wrap_u64, IntKind.wrap_u64]; omega
          have w2 : (IntKind.u64.wrap (IntKind.u64.wrap ((p : Int) - cv) - q)) / 9223372036854775808 = ((1 : Nat) : Int) := by rw [IntKind.wrap_u64, IntKind.wrap_u64]; omega
          rw [w1, w2]
          go_roundw
          case rel =>
            refine ⟨k + 1, 1, L.set k (p + 4294967296 - q - cv), by go_num, by omega, rfl, by omega, by rw [List.length_set, HL.out], hok.set (by omega), hB.out.set_ k _, hbel.setCell (Nat.le_refl _) _, ?_⟩
            rw [val_take_set (by rw [HL.out]; omega)]
            exact sub_round HV.out hcv (by rw [← Hp.out, ← Hq.out]; omega) (by rw [← Hp.out, ← Hq.out]; rw [if_pos (by omega)])
          case measure => simp [intOf]; omega
      · have hq : 0 = dg y k := by rw [dg_zero (by rw [← Hny.out]; omega)]
        have Hq := Lib.hid hq; clear hq
        by_cases hge : cv ≤ p
        · go_wp2_with fail
          have w1 : ((p : Int) - cv) = ((p - cv : Nat) : Int) := by omega
          have w2 : ((p : Int) - cv) / 9223372036854775808 = ((0 : Nat) : Int) := by omega
          rw [w2, w1]
          go_roundw
          case rel =>
            refine ⟨k + 1, 0, L.set k (p - cv), by go_num, by omega, rfl, by omega, by rw [List.length_set, HL.out], hok.set (by omega), hB.out.set_ k _, hbel.setCell (Nat.le_refl _) _, ?_⟩
            rw [val_take_set (by rw [HL.out]; omega)]
            exact sub_round HV.out hcv (by rw [← Hp.out, ← Hq.out]; omega) (by rw [← Hp.out, ← Hq.out]; rw [if_neg (by omega)])
          case measure => simp [intOf]; omega
        · have hlt2 : p < cv := by omega
          go_wp2_with fail
          have w1 : (IntKind.u64.wrap ((p : Int) - cv)) % 4294967296 = ((p + 4294967296 - cv : Nat) : Int) := by rw [IntKind.wrap_u64]; omega
          have w2 : (IntKind.u64.wrap ((p : Int) - cv)) / 9223372036854775808 = ((1 : Nat) : Int) := by rw [IntKind.wrap_u64]; omega
          rw [w1, w2]
          go_roundw
          case rel =>
            refine ⟨k + 1, 1, L.set k (p + 4294967296 - cv), by go_num, by omega, rfl, by omega, by rw [List.length_set, HL.out], hok.set (by omega), hB.out.set_ k _, hbel.setCell (Nat.le_refl _) _, ?_⟩
            rw [val_take_set (by rw [HL.out]; omega)]
            exact sub_round HV.out hcv (by rw [← Hp.out, ← Hq.out]; omega) (by rw [← Hp.out, ← Hq.out]; rw [if_pos (by omega)])
          case measure => simp [intOf]; omega
    · have hkn : k = nx := by omega
      subst hkn
      have hB := Lib.hid hblk; clear hblk
      have hv : val L = x - y := by
        have e := HV.out
        rw [List.take_of_length_le (by rw [HL.out]; omega), mod_len (x := x) (by rw [← Hnx.out]; omega)] at e
        have hxl := val_lt hok
        rw [HL.out] at hxl
        have hyy : y % 4294967296 ^ k = y := mod_len (by rw [← Hny.out]; exact hly)
        rw [hyy] at e
        have := Hyx.out
        rcases (by omega : cv = 0 ∨ cv = 1) with h | h
        · subst h; omega
        · subst h; have hlt := lt_of_dig_len (n := x) (k := k) (by rw [← Hnx.out]; omega); omega
      have hw2 := hB.out.wd hok (by rw [HL.out]; omega) k (by rw [HL.out]; omega) (by omega)
      rw [HL.out] at hw2
      have Hw := Lib.hid hw2; clear hw2
      have Hv := Lib.hid hv; clear hv
      go_wp2_with fail
      refine (trimR_at _ _ _ _ _ Hw.out).mono ?_
      rintro e w' ⟨kr, rfl, hr, rfl⟩
      rw [Hv.out] at hr
      go_wp2
      go_ret
      exact ⟨_, _, _, _, rfl, Nat.le_refl _, hr, hbel⟩
end Go.Proofs.YtmlopkkbgpfdnaaDoor
namespace Go.Proofs.YtmlopkkbgpfdnaaDoor
open Go.RowKit

set_option maxRecDepth 100000 in
/-- ref times -/
theorem timesR_any (x y : Nat) (u v : Value) (w : World) (hx : Wd w u (dig x)) (hy : Wd w v (dig y)) (lx : (dig x).length ≤ 1000000) (ly : (dig y).length ≤ 1000000) :
    Calls Tryd.prog 42 #[u, v] w fun e w' => ∃ r, e = .returned r ∧ Wd w' r (dig (x * y)) ∧ Below w.heap.size w w' := by
  obtain ⟨A, c, rfl, -, -⟩ := hx.shape
  obtain ⟨A', c', rfl, -, -⟩ := hy.shape
  obtain ⟨n, hn⟩ : ∃ n, n = (dig x).length := ⟨_, rfl⟩
  obtain ⟨m, hm⟩ : ∃ m, m = (dig y).length := ⟨_, rfl⟩
  rw [← hn] at lx hx ⊢
  rw [← hm] at ly hy ⊢
  have Hn := Lib.hid hn; clear hn
  have Hm := Lib.hid hm; clear hm
  have Hx := Lib.hid hx; clear hx
  have Hy := Lib.hid hy; clear hy
  have hmk : ∀ w, (Instr.makeSlice 41 (.int .i64 ((n : Int) + m)) (.int .i64 ((n : Int) + m))).run Tryd.prog w = .ok (.slice (some ⟨w.heap.size, 0, none⟩) (n + m) (n + m)) (w.alloc (.cells (U32s (zeros (n + m))) 45)) := fun w => make_u32 41 Tryd.underlying41 (n + m) (by omega) w
  go_enter Tryd.func42, Tryd.ntmps42
  go_wp2_with fail
  go_loopw [19] (fun i wr => ∃ (k : Nat) (L : List Nat), i = .int .i64 k ∧ k ≤ n ∧ L.length = n + m ∧ Ok L ∧ Blk wr w.heap.size L ∧ Below w.heap.size w wr ∧
      val L = x % 4294967296 ^ k * y ∧ ∀ p, k + m ≤ p → L.getD p 0 = 0) (fun i _ => n - (intOf i).toNat)
  case atStart => exact ⟨0, zeros (n + m), rfl, Nat.zero_le _, zeros_length _, zeros_ok _, heap_alloc_new w _, below_alloc _ _, by simp [val_zeros, Nat.mod_one], fun p _ => zeros_getD _ p⟩
  case round =>
    obtain ⟨k, L, rfl, hk, hL, hok, hblk, hbel, hval, hz⟩ := hrel
    have HV := Lib.hid hval; clear hval
    have HL := Lib.hid hL; clear hL
    have HZ := Lib.hid hz; clear hz
    have HB := Lib.hid hblk; clear hblk
    by_cases hlt : k < n
    · obtain ⟨b, off, rfl, hb, hcx⟩ := Wd.cell (k := k) Hx.out hlt
      have h1 : wr.cell? ⟨b, off + k, none⟩ = some (.int .u32 (dg x k : Nat)) := (hbel.cell (p := ⟨b, off + k, none⟩) hb).trans (hcx k hlt)
      clear hcx
      obtain ⟨p, hp⟩ : ∃ p, p = dg x k := ⟨_, rfl⟩
      have hpl : p < 4294967296 := by rw [hp]; exact dg_lt _ _
      rw [← hp] at h1
      have Hp := Lib.hid hp; clear hp
      go_wp2_with fail
      obtain ⟨w1, rfl⟩ : ∃ w1 : World, w1 = wr := ⟨_, rfl⟩
      go_loopw [8, 26] (fun cr j w2 => ∃ (q cv : Nat) (L2 : List Nat), j = .int .i64 q ∧ q ≤ m ∧ cr = .int .u64 cv ∧ cv < 4294967296 ∧ L2.length = n + m ∧ Ok L2 ∧ Blk w2 w.heap.size L2 ∧ Below w.heap.size w w2 ∧
          val L2 + 4294967296 ^ (k + q) * cv = x % 4294967296 ^ k * y + 4294967296 ^ k * (p * (y % 4294967296 ^ q)) ∧ ∀ r, k + m ≤ r → L2.getD r 0 = 0) (fun _ j _ => m - (intOf j).toNat)
      case atStart => exact ⟨0, 0, L, rfl, Nat.zero_le _, rfl, by omega, HL.out, hok, HB.out, hbel, by rw [HV.out]; simp [Nat.mod_one], HZ.out⟩
      case round =>
        obtain ⟨q, cv, L2, rfl, hq, rfl, hcv, hL2, hok2, hblk2, hbel2, hval2, hz2⟩ := hrel
        have HV2 := Lib.hid hval2; clear hval2
        have HL2 := Lib.hid hL2; clear hL2
        have HZ2 := Lib.hid hz2; clear hz2
        by_cases hlt2 : q < m
        · obtain ⟨b', off', rfl, hb', hcy⟩ := Wd.cell (k := q) Hy.out hlt2
          have h2 : wr.cell? ⟨b', off' + q, none⟩ = some (.int .u32 (dg y q : Nat)) := (hbel2.cell (p := ⟨b', off' + q, none⟩) hb').trans (hcy q hlt2)
          clear hcy
          obtain ⟨r, hr⟩ : ∃ r, r = dg y q := ⟨_, rfl⟩
          have hrl : r < 4294967296 := by rw [hr]; exact dg_lt _ _
          rw [← hr] at h2
          have Hr := Lib.hid hr; clear hr
          have h3 := hblk2.cell (i := k + q) (by rw [HL2.out]; omega)
          have h4 := hblk2.frozen (k + q)
          obtain ⟨a, ha⟩ : ∃ a, a = L2.getD (k + q) 0 := ⟨_, rfl⟩
          have hal : a < 4294967296 := by rw [ha]; exact hok2.getD _
          rw [← ha] at h3
          have Ha := Lib.hid ha; clear ha
          have HB2 := Lib.hid hblk2; clear hblk2
          obtain ⟨s, hs⟩ : ∃ s, s = p * r + a + cv := ⟨_, rfl⟩
          have hsl : s < 18446744073709551616 := by rw [hs]; exact mul_bound hpl hrl hal hcv
          have hprod : p * r < 18446744073709551616 := by omega
          have e1 : ((cv : Int) + (a + p * r)) % 4294967296 = ((s % 4294967296 : Nat) : Int) := by rw [hs]; omega
          have e2 : ((cv : Int) + (a + p * r)) / 4294967296 = ((s / 4294967296 : Nat) : Int) := by rw [hs]; omega
          have E1 := Lib.hid e1; clear e1
          have E2 := Lib.hid e2; clear e2
          have Hs := Lib.hid hs; clear hs
          have hsl' : (cv : Int) + (a + p * r) < 18446744073709551616 := by rw [Hs.out] at hsl; omega
          go_wp2_with fail
          rw [E1.out, E2.out]
          go_roundw
          case rel =>
            refine ⟨q + 1, s / 4294967296, L2.set (k + q) (s % 4294967296), by go_num, by omega, rfl, by omega, by rw [List.length_set, HL2.out], hok2.set (by omega), HB2.out.set_ _ _, hbel2.setCell (Nat.le_refl _) _, ?_, ?_⟩
            · refine mul_round HV2.out (old := a) (lo := s % 4294967296) ?_ (by rw [Hs.out, Hr.out]) rfl rfl
              have := val_set (l := L2) (p := k + q) (v := s % 4294967296) (by rw [HL2.out]; omega)
              rw [← Ha.out] at this
              exact this
            · intro t ht
              rw [getD_set_ne (by omega)]
              exact HZ2.out t ht
          case measure => simp [intOf]; omega
        · have hqm : q = m := by omega
          subst hqm
          have h3 := hblk2.cell (i := k + q) (by rw [HL2.out]; omega)
          have h4 := hblk2.frozen (k + q)
          rw [HZ2.out (k + q) (Nat.le_refl _)] at h3
          have HB2 := Lib.hid hblk2; clear hblk2
          go_wp2_with fail
          go_roundw
          case rel =>
            refine ⟨k + 1, L2.set (k + q) cv, by go_num, by omega, by rw [List.length_set, HL2.out], hok2.set hcv, HB2.out.set_ _ _, hbel2.setCell (Nat.le_refl _) _, ?_, ?_⟩
            · have h5 := val_set (l := L2) (p := k + q) (v := cv) (by rw [HL2.out]; omega)
              rw [HZ2.out (k + q) (Nat.le_refl _), HV2.out, mod_len (x := y) (by rw [← Hm.out]; omega), Hp.out, mul_done] at h5
              simpa using h5
            · intro t ht
              rw [getD_set_ne (by omega)]
              exact HZ2.out t (by omega)
          case measure => simp [intOf]; omega
    · have hkn : k = n := by omega
      subst hkn
      have hv : val L = x * y := by rw [HV.out, mod_len (x := x) (by rw [← Hn.out]; omega)]
      have hw2 := HB.out.wd hok (by rw [HL.out]; omega) (k + m) (by rw [HL.out]; omega) (by omega)
      rw [HL.out] at hw2
      have Hv := Lib.hid hv; clear hv
      have Hw := Lib.hid hw2; clear hw2
      go_wp2_with fail
      refine (trimR_any _ _ _ Hw.out).mono ?_
      rintro e w' ⟨r, rfl, hr, rfl⟩
      rw [Hv.out] at hr
      go_wp2
      go_ret
      exact ⟨r, rfl, hr, hbel⟩
end Go.Proofs.YtmlopkkbgpfdnaaDoor
namespace Go.Proofs.YtmlopkkbgpfdnaaDoor
open Go.RowKit

def GuessOk (U D : Nat) (w : World) (e : Ending) (w' : World) : Prop := ∃ g : Nat, e = .returned (.int .u32 g) ∧ g < 4294967296 ∧ U / D ≤ g ∧ g ≤ U / D + 1 ∧ ∃ k, w' = w.drewN k

def GRel (h v1 Q : Nat) (a b : Value) : Prop := ∃ g r : Nat, a = .int .u64 g ∧ b = .int .u64 r ∧ h = g * v1 + r ∧ Q ≤ g ∧ g < 8589934592 ∧ r < 8589934592

theorem g_step {h g r v1 Q : Nat} (hgr : h = g * v1 + r) (hQ : Q < g) (hg : g < 8589934592) (hr : r < 4294967296) (hv : v1 < 4294967296) : GRel h v1 Q (.int .u64 ((g : Int) - 1)) (.int .u64 ((r : Int) + v1)) := by
  obtain ⟨j, rfl⟩ : ∃ j, g = j + 1 := ⟨g - 1, by omega⟩
  refine ⟨j, r + v1, ?_, ?_, ?_, by omega, by omega, by omega⟩
  · rw [show ((j + 1 : Nat) : Int) - 1 = j by omega]
  · rw [Int.natCast_add]
  · rw [hgr, Nat.succ_mul]; omega

end Go.Proofs.YtmlopkkbgpfdnaaDoor
namespace Go.Proofs.YtmlopkkbgpfdnaaDoor
open Go.RowKit

/-- w' is w but for block g -/
def TakeF (g : Nat) (w w' : World) : Prop := Below g w w' ∧ w'.heap.size = w.heap.size ∧ ∀ b, b ≠ g → w'.heap[b]? = w.heap[b]?
theorem TakeF.refl (g : Nat) (w : World) : TakeF g w w := ⟨Below.refl _ _, rfl, fun _ _ => rfl⟩
theorem TakeF.drewN {g : Nat} {w w' : World} (h : TakeF g w w') (k : Nat) : TakeF g w (w'.drewN k) := ⟨Below.toDrewN h.1 k, h.2.1, h.2.2⟩
theorem TakeF.drew {g : Nat} {w w' : World} (h : TakeF g w w') : TakeF g w w'.drew := ⟨h.1.drew, h.2.1, h.2.2⟩
theorem TakeF.set {g : Nat} {w w' : World} (h : TakeF g w w') (i : Nat) (v : Value) : TakeF g w (w'.setCell ⟨g, i, none⟩ v) :=
  ⟨h.1.setCell (p := ⟨g, i, none⟩) (Nat.le_refl _) v, by have := h.2.1; simpa [World.setCell] using this, fun b hb => (Below.heap_setCell _ ⟨g, i, none⟩ _ b hb).trans (h.2.2 b hb)⟩
theorem TakeF.cell {g b o : Nat} {w w' : World} {v : Value} (h : TakeF g w w') (hb : b ≠ g) (hc : w.cell? ⟨b, o, none⟩ = some v) : w'.cell? ⟨b, o, none⟩ = some v := by
  rw [← hc]
  have := h.2.2 b hb
  unfold World.cell?
  rw [this]

theorem kd_n {x D i n : Nat} (hn : 2 ≤ n) (hx : x < D * 4294967296 ^ (i + 1)) (hD : D < 4294967296 ^ n) (ht : 2147483648 ≤ dg D (n - 1)) :
    KD (x / 4294967296 ^ i) D (4294967296 ^ (n - 2)) (dg x (i + n) * 4294967296 + dg x (i + (n - 1))) (dg x (i + (n - 2))) (x / 4294967296 ^ i % 4294967296 ^ (n - 2)) (dg D (n - 1)) (dg D (n - 2)) (D % 4294967296 ^ (n - 2)) := by
  obtain ⟨m, rfl⟩ : ∃ m, n = m + 2 := ⟨n - 2, by omega⟩
  exact kd_of hx hD ht

/-- where the numbers stand -/
structure Place (w : World) (D n gd od g i : Nat) (L : List Nat) : Prop where
  n2 : 2 ≤ n
  n_le : n ≤ 1000000
  ne : gd ≠ g
  d : ∀ k, k < n → w.cell? ⟨gd, od + k, none⟩ = some (.int .u32 (dg D k : Nat))
  D_lt : D < 4294967296 ^ n
  top : 2147483648 ≤ dg D (n - 1)
  blk : Blk w g L
  ok : Ok L
  len : i + n + 1 ≤ L.length
  lt : val L < D * 4294967296 ^ (i + 1)

theorem Place.D_pos {w : World} {D n gd od g i : Nat} {L : List Nat} (h : Place w D n gd od g i L) : 0 < D := by
  rcases Nat.eq_zero_or_pos D with h0 | h0
  · have := h.top; rw [h0] at this; simp [dg] at this
  · exact h0
theorem Place.val_lt {w : World} {D n gd od g i : Nat} {L : List Nat} (h : Place w D n gd od g i L) : val L < 4294967296 ^ (i + n + 1) := by
  have h1 := h.lt
  have h2 : D * 4294967296 ^ (i + 1) ≤ 4294967296 ^ n * 4294967296 ^ (i + 1) := Nat.mul_le_mul_right _ (Nat.le_of_lt h.D_lt)
  rw [← Nat.pow_add, show n + (i + 1) = i + n + 1 by omega] at h2
  omega

def TakeOk (D g i : Nat) (L : List Nat) (w : World) (e : Ending) (w' : World) : Prop :=
  ∃ (q : Nat) (L' : List Nat), e = .returned (.int .u32 q) ∧ q = val L / 4294967296 ^ i / D ∧ q < 4294967296 ∧ L'.length = L.length ∧ Ok L' ∧ val L' + 4294967296 ^ i * (q * D) = val L ∧ Blk w' g L' ∧ TakeF g w w'

/-- the loop that subtracts -/
def Rel1 (D n gq g i : Nat) (L : List Nat) (w : World) (a b c : Value) (wr : World) : Prop :=
  ∃ (j cv bv : Nat) (L1 : List Nat), a = .int .u64 cv ∧ b = .int .u32 bv ∧ c = .int .i64 j ∧ j ≤ n ∧ cv < 4294967296 ∧ bv ≤ 1 ∧ L1.length = L.length ∧ Ok L1 ∧ Blk wr g L1 ∧ TakeF g w wr ∧
    val L1 + 4294967296 ^ i * (gq * (D % 4294967296 ^ j)) = val L + 4294967296 ^ (i + j) * (cv + bv) ∧ ∀ p, i + n + 1 ≤ p → L1.getD p 0 = 0
/-- the loop that adds back -/
def Rel2 (D n V g i : Nat) (L : List Nat) (w : World) (a c : Value) (wr : World) : Prop :=
  ∃ (j cv : Nat) (L1 : List Nat), a = .int .u32 cv ∧ c = .int .i64 j ∧ j ≤ n ∧ cv ≤ 1 ∧ L1.length = L.length ∧ Ok L1 ∧ Blk wr g L1 ∧ TakeF g w wr ∧
    val L1 + 4294967296 ^ (i + j) * cv = V + 4294967296 ^ i * (D % 4294967296 ^ j) ∧ ∀ p, i + n + 1 ≤ p → L1.getD p 0 = 0

theorem back_last {V V' X p old c nw : Nat} (hV : V + p * c = X) (hV' : V' + p * old = V + p * nw) (hnw : nw = (old + c) % 4294967296) : V' + p * 4294967296 * ((old + c) / 4294967296) = X := by
  have h1 : nw + 4294967296 * ((old + c) / 4294967296) = old + c := by omega
  have h2 : p * nw + p * 4294967296 * ((old + c) / 4294967296) = p * old + p * c := by
    rw [Nat.mul_assoc, ← Nat.mul_add, ← Nat.mul_add, h1]
  omega

end Go.Proofs.YtmlopkkbgpfdnaaDoor
namespace Go.Proofs.YtmlopkkbgpfdnaaDoor
open Go

theorem bitLen_bounds (t : Nat) : 0 < t → t < 18446744073709551616 → 2 ^ (Lib.bitLen t) ≤ 2 * t ∧ t < 2 ^ (Lib.bitLen t) := by
  induction t using Nat.strongRecOn with
  | ind t ih =>
    intro h0 h1
    have hh := Lib.bitLen_half t (by omega) h1
    by_cases h : t = 1
    · subst h; decide
    · obtain ⟨a, b⟩ := ih (t / 2) (by omega) (by omega) (by omega)
      rw [hh, Nat.pow_add]
      omega

theorem norm_word {t : Nat} (h0 : 0 < t) (h1 : t < 4294967296) : ∃ s : Nat, s ≤ 31 ∧ (32 : Int) - (Lib.bitLen t : Int) = s ∧ 2147483648 ≤ t * 2 ^ s ∧ t * 2 ^ s + 2 ^ s ≤ 4294967296 := by
  obtain ⟨a, b⟩ := bitLen_bounds t h0 (by omega)
  have hL : Lib.bitLen t ≤ 32 := Lib.bitLen_le t 32 (by omega) h1
  have hL1 : 1 ≤ Lib.bitLen t := by
    rcases Nat.eq_zero_or_pos (Lib.bitLen t) with h | h
    · rw [h] at b; simp at b; omega
    · exact h
  have e : 2 ^ (Lib.bitLen t) * 2 ^ (32 - Lib.bitLen t) = 4294967296 := by rw [← Nat.pow_add, show Lib.bitLen t + (32 - Lib.bitLen t) = 32 by omega]
  refine ⟨32 - Lib.bitLen t, by omega, by omega, ?_, ?_⟩
  · have := Nat.mul_le_mul_right (2 ^ (32 - Lib.bitLen t)) a
    rw [e, Nat.mul_assoc] at this
    omega
  · have := Nat.mul_le_mul_right (2 ^ (32 - Lib.bitLen t)) b
    rw [e, Nat.succ_mul] at this
    exact this

theorem top_word {y n : Nat} (hn : n = (dig y).length) (h : 0 < n) : y = y % 4294967296 ^ (n - 1) + 4294967296 ^ (n - 1) * dg y (n - 1) ∧ 0 < dg y (n - 1) := by
  obtain ⟨m, rfl⟩ : ∃ m, n = m + 1 := ⟨n - 1, by omega⟩
  have h1 := mod_succ y m
  rw [mod_len (by rw [← hn]; exact Nat.le_refl _)] at h1
  refine ⟨h1, ?_⟩
  rcases Nat.eq_zero_or_pos (dg y m) with h0 | h0
  · rw [h0, Nat.mul_zero, Nat.add_zero] at h1
    have h2 : y < 4294967296 ^ m := by rw [h1]; exact Nat.mod_lt _ (pow_pos' m)
    have := dig_len_le h2
    omega
  · exact h0

/-- the divisor, shifted up -/
theorem norm_div {y n t c : Nat} (hn : n = (dig y).length) (h : 0 < n) (ht : t = dg y (n - 1)) (h1 : 2147483648 ≤ t * c) (h2 : t * c + c ≤ 4294967296) :
    y * c < 4294967296 ^ n ∧ 2147483648 ≤ dg (y * c) (n - 1) ∧ (dig (y * c)).length = n ∧ 2147483648 * 4294967296 ^ (n - 1) ≤ y * c := by
  obtain ⟨e, -⟩ := top_word hn h
  rw [← ht] at e
  obtain ⟨m, rfl⟩ : ∃ m, n = m + 1 := ⟨n - 1, by omega⟩
  rw [Nat.add_sub_cancel] at e ⊢
  have hP := pow_pos' m
  obtain ⟨lo, hlo⟩ : ∃ lo, lo = y % 4294967296 ^ m := ⟨_, rfl⟩
  have hlt : lo < 4294967296 ^ m := by rw [hlo]; exact Nat.mod_lt _ hP
  rw [← hlo] at e
  obtain ⟨P, hPd⟩ : ∃ P, P = 4294967296 ^ m := ⟨_, rfl⟩
  have hps : 4294967296 ^ (m + 1) = P * 4294967296 := by rw [Nat.pow_succ, hPd]
  rw [← hPd] at e hlt hP ⊢
  have e2 : y * c = lo * c + P * (t * c) := by rw [e, Nat.add_mul, Nat.mul_assoc]
  have a1 : lo * c ≤ P * c := Nat.mul_le_mul_right c (by omega)
  have a2 : P * (t * c + c) ≤ P * 4294967296 := Nat.mul_le_mul_left P h2
  rw [Nat.mul_add] at a2
  have hc : 0 < c := by
    rcases Nat.eq_zero_or_pos c with h0 | h0
    · rw [h0] at h1; omega
    · exact h0
  have a3 : lo * c < P * c := Nat.mul_lt_mul_of_pos_right hlt hc
  have hD : y * c < 4294967296 ^ (m + 1) := by rw [hps]; omega
  have a4 : P * 2147483648 ≤ P * (t * c) := Nat.mul_le_mul_left P h1
  have hge : 2147483648 * P ≤ y * c := by omega
  have hq : 2147483648 ≤ y * c / P := by rw [Nat.le_div_iff_mul_le hP]; exact hge
  have hq2 : y * c / P < 4294967296 := by rw [Nat.div_lt_iff_lt_mul hP]; omega
  have hdg : dg (y * c) m = y * c / P := by unfold dg; rw [← hPd, Nat.mod_eq_of_lt hq2]
  refine ⟨hD, by rw [hdg]; exact hq, ?_, hge⟩
  have l1 := dig_len_le hD
  rcases Nat.lt_or_ge (dig (y * c)).length (m + 1) with h3 | h3
  · have := dg_zero (x := y * c) (i := m) (by omega)
    omega
  · omega

theorem shl_start {x y c n nx m : Nat} (hn : 0 < n) (hx : nx = (dig x).length) (hm : m = nx + 1 - n) (hnx : n ≤ nx) (hc : c ≤ 2147483648) (hD : 2147483648 * 4294967296 ^ (n - 1) ≤ y * c) (hc0 : 0 < c) :
    x * c < y * c * 4294967296 ^ m := by
  have h1 : x < 4294967296 ^ nx := lt_of_dig_len (by omega)
  have h2 : x * c < 4294967296 ^ nx * c := Nat.mul_lt_mul_of_pos_right h1 hc0
  have h3 : 4294967296 ^ nx * c ≤ 4294967296 ^ nx * 2147483648 := Nat.mul_le_mul_left _ hc
  have h4 := Nat.mul_le_mul_right (4294967296 ^ m) hD
  rw [Nat.mul_assoc, ← Nat.pow_add, show n - 1 + m = nx by omega, Nat.mul_comm] at h4
  omega

/-- a round of the outer loop -/
theorem outer_round {X D V V' Q Q' q i : Nat} (h : X = V + D * Q) (hV : V' + 4294967296 ^ i * (q * D) = V) (hQ : Q' = Q + 4294967296 ^ i * q) : X = V' + D * Q' := by
  have e : D * (4294967296 ^ i * q) = 4294967296 ^ i * (q * D) := by ac_rfl
  rw [hQ, Nat.mul_add, e]
  omega

end Go.Proofs.YtmlopkkbgpfdnaaDoor
namespace Go.Proofs.YtmlopkkbgpfdnaaDoor
open Go.RowKit

def DivN (x y : Nat) (w : World) (e : Ending) (w' : World) : Prop :=
  ∃ q r, e = .returned (.tuple #[q, r]) ∧ Wd w' q (dig (x / y)) ∧ Wd w' r (dig (x % y)) ∧ Below w.heap.size w w'

end Go.Proofs.YtmlopkkbgpfdnaaDoor
namespace Go.Proofs.YtmlopkkbgpfdnaaDoor
open Go.RowKit

set_option maxRecDepth 100000 in
/-- ref small -/
theorem smallR_any (x d : Nat) (u : Value) (w : World) (hx : Wd w u (dig x)) (lx : (dig x).length ≤ 1000000) (hd : d < 4294967296) :
    Calls Tryd.prog 23 #[u, .int .u32 d] w fun e w' => ∃ r, e = .returned r ∧ Wd w' r (dig (x * d)) ∧ Below w.heap.size w w' := by
  have Hx := Lib.hid hx
  obtain ⟨A, n, c, rfl⟩ := hx.slice_
  clear hx
  have ld : (dig d).length ≤ 1000000 := by have := dig_len_le (n := d) (k := 1) (by simpa using hd); omega
  have Ld := Lib.hid ld; clear ld
  go_enter Tryd.func23, Tryd.ntmps23
  go_wp2_with fail
  refine (asSlice (naturalR_any d (by omega) _)).mono ?_
  rintro e w1 ⟨A1, n1, c1, rfl, h1, hb1⟩
  have H1 := Lib.hid h1; clear h1
  have Hb1 := Lib.hid hb1; clear hb1
  go_wp2_with fail
  refine (asSlice (timesR_any x d _ _ _ (Hx.out.below Hb1.out) H1.out lx Ld.out)).mono ?_
  rintro e w2 ⟨A2, n2, c2, rfl, h2, hb2⟩
  have H2 := Lib.hid h2; clear h2
  have Hb2 := Lib.hid hb2; clear hb2
  go_wp2
  go_ret
  exact ⟨_, rfl, H2.out, Hb1.out.trans (Hb2.out.mono Hb1.out.size)⟩

/-- nil, or with an address -/
def Held (v : Value) : Prop := v = .slice none 0 0 ∨ ∃ b o n c, v = .slice (some ⟨b, o, none⟩) n c

theorem Wd.news {w : World} {b o n c : Nat} {l : List Nat} (h : Wd w (.slice (some ⟨b, o, none⟩) n c) l) : ∀ j u, (l.map uw)[j]? = some u → w.cell? ((⟨b, o, none⟩ : Addr).add j) = some u := by
  intro j u hj
  obtain ⟨A', c', he, h1, h2, h3, h4⟩ := h
  injection he with e1 e2 e3
  rw [List.getElem?_map] at hj
  rcases Nat.lt_or_ge j l.length with hl | hl
  · obtain ⟨b', o', e, hb, hc⟩ := h4 (by omega)
    rw [← e1] at e
    injection e with e
    injection e with e5 e6
    subst e5 e6
    have e7 : (⟨b, o, none⟩ : Addr).add j = ⟨b, o + j, none⟩ := by unfold Addr.add; split <;> simp_all
    rw [List.getElem?_eq_getElem hl] at hj
    simp only [Option.map_some, Option.some.injEq] at hj
    rw [e7, hc j hl, ← hj, List.getD_eq_getElem?_getD, List.getElem?_eq_getElem hl]
    rfl
  · rw [List.getElem?_eq_none hl] at hj; simp at hj

/-- the loop over the words -/
def Rel4 (x y n gq : Nat) (w : World) (a b : Value) (wr : World) : Prop :=
  ∃ (k : Nat) (Q : List Nat), b = .int .i64 ((k : Int) - 1) ∧ k ≤ n ∧ Held a ∧ Wd wr a (dig (x / 4294967296 ^ k % y)) ∧ Q.length = n ∧ Ok Q ∧ Blk wr gq Q ∧ Below w.heap.size w wr ∧
    (∀ j, k ≤ j → j < n → Q.getD j 0 = dg (x / y) j) ∧ ∀ j, j < k → Q.getD j 0 = 0
/-- the loop that halves -/
def Rel5 (y z : Nat) (wo : World) (a b : Value) (wr : World) : Prop :=
  ∃ lo hi : Nat, a = .int .u64 lo ∧ b = .int .u64 hi ∧ lo < hi ∧ hi ≤ 4294967296 ∧ y * lo ≤ z ∧ z < y * hi ∧ Below wo.heap.size wo wr

theorem own_shape {w : World} {base m : Nat} {v : Value} {xs : List Value} (h : w.ownsRow base 45 1 v (1 + m) xs) : ∃ g cap, v = .slice (some ⟨g, 0, none⟩) (1 + m) cap := by
  rcases h.2 with ⟨_, h0⟩ | ⟨g, cap, cur, rfl, _⟩
  · omega
  · exact ⟨g, cap, rfl⟩

theorem halve_done {y z lo hi : Nat} (h1 : y * lo ≤ z) (h2 : z < y * hi) (hlt : lo < hi) (h : hi - lo ≤ 1) (hy : 0 < y) : lo = z / y ∧ z - y * lo = z % y := by
  obtain rfl : hi = lo + 1 := by omega
  rw [Nat.mul_add, Nat.mul_one] at h2
  have e : lo = z / y := by
    have a : lo ≤ z / y := (Nat.le_div_iff_mul_le hy).2 (by rw [Nat.mul_comm]; exact h1)
    have b : z / y < lo + 1 := by rw [Nat.div_lt_iff_lt_mul hy, Nat.add_mul, Nat.mul_comm lo]; omega
    omega
  refine ⟨e, ?_⟩
  rw [e]
  have := Nat.div_add_mod z y
  omega

theorem len_word {y z k : Nat} (h : (dig y).length ≤ k) (hz : z < y * 4294967296) : (dig z).length ≤ k + 1 := by
  apply dig_len_le
  rw [Nat.pow_succ]
  exact Nat.lt_of_lt_of_le hz (Nat.mul_le_mul_right _ (Nat.le_of_lt (lt_of_dig_len h)))

theorem Wd.set_far {w : World} {b o n c g i : Nat} {l : List Nat} {v : Value} (h : Wd w (.slice (some ⟨b, o, none⟩) n c) l) (hne : b ≠ g) : Wd (w.setCell ⟨g, i, none⟩ v) (.slice (some ⟨b, o, none⟩) n c) l := by
  obtain ⟨A', c', he, h1, h2, h3, h4⟩ := h
  refine ⟨A', c', he, h1, h2, h3, fun hp => ?_⟩
  obtain ⟨b', o', e, hb, hc⟩ := h4 hp
  injection he with e1 e2 e3
  rw [← e1] at e
  injection e with e
  injection e with e5 e6
  subst e5 e6
  refine ⟨b, o, e1.symm, by simpa [World.setCell] using hb, fun j hj => ?_⟩
  rw [World.cell?_setCell_other _ _ _ _ (by intro e; injection e with e1; exact hne e1.symm)]
  exact hc j hj

set_option maxHeartbeats 400000 in
set_option maxRecDepth 100000 in
/-- ref divided -/
theorem dividedR_any (x y : Nat) (u v : Value) (w : World) (hx : Wd w u (dig x)) (hy : Wd w v (dig y)) (lx : (dig x).length ≤ 999999) (ly : (dig y).length ≤ 999990) (hy0 : 0 < y) :
    Calls Tryd.prog 30 #[u, v] w (DivN x y w) := by
  obtain ⟨i0, hi, hz0, hz1, hz2⟩ := info_parts info45
  have Hx := Lib.hid hx
  have Hy := Lib.hid hy
  obtain ⟨A, c, rfl, -, hcl⟩ := hx.shape
  obtain ⟨A', n', c', rfl⟩ := hy.slice_
  obtain ⟨n, hn⟩ : ∃ n, n = (dig x).length := ⟨_, rfl⟩
  rw [← hn] at lx Hx ⊢
  have Hn := Lib.hid hn; clear hn hx hy
  have Ly := Lib.hid ly; clear ly
  have hmk : ∀ w, (Instr.makeSlice 41 (.int .i64 (n : Int)) (.int .i64 (n : Int))).run Tryd.prog w = .ok (.slice (some ⟨w.heap.size, 0, none⟩) n n) (w.alloc (.cells (U32s (zeros n)) 45)) := fun w => make_u32 41 Tryd.underlying41 n (by omega) w
  go_enter Tryd.func30, Tryd.ntmps30
  go_wp2_with fail
  go_loopw [7, 8] (fun a b wr => Rel4 x y n w.heap.size w a b wr) (fun _ b _ => (intOf b + 1).toNat)
  case atStart => exact ⟨n, zeros n, rfl, Nat.le_refl _, .inl rfl, by rw [div_len (by rw [Hn.out]; exact Nat.le_refl _), Nat.zero_mod, dig_zero]; exact Wd.nil_ _, zeros_length _, zeros_ok _, heap_alloc_new w _, below_alloc _ _, fun j h h' => absurd h (by omega), fun j _ => zeros_getD _ _⟩
  case round =>
    obtain ⟨k, Q, rfl, hk, hheld, hwd, hQ, hokq, hblk, hbel, hval, hz⟩ := hrel
    have HQ := Lib.hid hQ; clear hQ
    have HV := Lib.hid hval; clear hval
    have HZ := Lib.hid hz; clear hz
    by_cases hk0 : k = 0
    · subst hk0
      have hv : val Q = x / y := val_of_dgs (fun j hj => HV.out j (Nat.zero_le _) (by rw [← HQ.out]; exact hj)) (by rw [HQ.out]; exact Nat.lt_of_le_of_lt (Nat.div_le_self _ _) (lt_of_dig_len (by rw [← Hn.out]; omega)))
      have hw2 := hblk.wd hokq (by rw [HQ.out]; omega) n (by rw [HQ.out]; omega) (by omega)
      rw [HQ.out] at hw2
      rw [Nat.pow_zero, Nat.div_one] at hwd
      have Hwd := Lib.hid hwd
      obtain ⟨A5, n5, c5, rfl⟩ := hwd.slice_
      have Hv := Lib.hid hv; clear hv
      have Hw := Lib.hid hw2; clear hw2 hblk hwd hheld
      go_wp2_with fail
      refine (trimR_any _ _ _ Hw.out).mono ?_
      rintro e w' ⟨r, rfl, hr, rfl⟩
      rw [Hv.out] at hr
      have Hr := Lib.hid hr
      obtain ⟨A3, n3, c3, rfl⟩ := hr.slice_
      clear hr
      go_wp2
      go_ret2
      exact ⟨_, _, rfl, Hr.out, Hwd.out, hbel⟩
    · obtain ⟨k, rfl⟩ : ∃ j, k = j + 1 := ⟨k - 1, by omega⟩
      obtain ⟨b, off, rfl, hb, hcx⟩ := Wd.cell (k := k) Hx.out (by omega)
      have h1 : wr.cell? ⟨b, off + k, none⟩ = some (.int .u32 (dg x k : Nat)) := (hbel.cell (p := ⟨b, off + k, none⟩) hb).trans (hcx k (by omega))
      clear hcx
      obtain ⟨p, hp⟩ : ∃ p, p = dg x k := ⟨_, rfl⟩
      have hpl : p < 4294967296 := by rw [hp]; exact dg_lt _ _
      rw [← hp] at h1
      obtain ⟨q, hq⟩ : ∃ q, q = x / 4294967296 ^ (k + 1) % y := ⟨_, rfl⟩
      have hql : q < y := by rw [hq]; exact Nat.mod_lt _ hy0
      obtain ⟨z, hz⟩ : ∃ z, z = q * 4294967296 + p := ⟨_, rfl⟩
      obtain ⟨f1, f2, f3⟩ := quo_word (x := x) (z := z) hy0 hq (by rw [hz, hp])
      rw [← hq] at hwd
      have lq : (dig q).length ≤ 999990 := Nat.le_trans (dig_len_mono (Nat.le_of_lt hql)) Ly.out
      have F1 := Lib.hid f1; clear f1
      have F2 := Lib.hid f2; clear f2
      have F3 := Lib.hid f3; clear f3
      have HB := Lib.hid hblk; clear hblk
      clear hp hq
      have hzv : val (p :: dig q) = z := by simp only [val, val_dig]; omega
      have hzo : Ok (p :: dig q) := Ok.mk hpl (ok_dig q)
      have Hz := Lib.hid hz; clear hz
      have Hzv := Lib.hid hzv; clear hzv
      have i1 : ((k + 1 : Nat) : Int) - 1 = (k : Int) := by omega
      rw [i1]
      clear i1
      rcases hheld with rfl | ⟨bq, oq, nq, cq, rfl⟩
      all_goals first
        | go_wp2_with fail
          have hq0 : q = 0 := by
            have := hwd.len
            exact dig_eq_nil.1 (List.eq_nil_of_length_eq_zero this.symm)
          have hw1 : Wd (wr.alloc (Obj.cells #[.int .u32 p] 45)) (.slice (some ⟨wr.heap.size, 0, none⟩) 1 1) (p :: dig q) := by
            rw [hq0, dig_zero]
            exact Wd.new wr [p] (Ok.mk hpl Ok.nil) _ _ 1 1 rfl (by omega) (by omega) (fun j hj => by
              match j, hj with
              | 0, _ => simp)
          have hb1 := below_alloc wr (Obj.cells #[.int .u32 p] 45)
          obtain ⟨gg, hgg⟩ : ∃ g, g = wr.heap.size := ⟨_, rfl⟩
          obtain ⟨w1, hw1'⟩ : ∃ w1, w1 = wr.alloc (Obj.cells #[.int .u32 p] 45) := ⟨_, rfl⟩
          rw [← hw1', ← hgg] at hw1 ⊢
          rw [← hw1'] at hb1
          refine (trimR_at _ _ _ _ _ hw1).mono ?_
          rintro e w1 ⟨kr, rfl, hr, rfl⟩
          rw [Hzv.out] at hr
          have Hb1 := Lib.hid hb1; clear hb1
          clear hw1 hw1' hq0 hgg
        | go_wp2_with (at_builtin; refine wpList_append_own _ rfl _ _ 41 rfl wr.heap.size 45 i0 (.int .u32 0) 1 4 Tryd.underlying41 hi hz0 hz1 hz2 rfl (by decide) _ 1 [uw p] rfl (World.ownsRow_lit wr #[uw p] 1 (Nat.le_refl _) (by unfold maxLen; omega) rfl) ⟨bq, oq, none⟩ nq cq ((dig q).map uw) rfl ?c1 ?c2 ?c3 ?c4 ?c5 ?c6 ?_)
          case c1 => rw [List.length_map, Nat.mul_one, hwd.len]
          case c2 => exact (hwd.below (below_alloc wr _)).news
          case c3 =>
            intro u hu
            obtain ⟨t, -, rfl⟩ := List.mem_map.1 hu
            rfl
          case c4 => rw [hwd.len]; unfold maxLen; omega
          case c5 => rw [hwd.len]; omega
          case c6 => simp
          intro v' w1 hown hgrow _
          have hlen : nq = (dig q).length := hwd.len
          have hown2 : w1.ownsRow wr.heap.size 45 1 v' (p :: dig q).length ((p :: dig q).map uw) := by
            rw [List.length_cons, List.map_cons, ← hlen, Nat.add_comm]; exact hown
          have hw1 := Wd.of_own hown2 hzo
          obtain ⟨gg, cap, rfl⟩ := own_shape hown
          have hb1 : Below wr.heap.size wr w1 := (below_alloc wr _).grown hgrow (by simp) (fun k hk => (World.ownsRow_lit wr #[uw p] 1 (base := wr.heap.size) (size := 1) (e := 66) (Nat.le_refl _) (by unfold maxLen; omega) rfl).lt k hk |>.1)
          clear hown2 hown hgrow hlen
          have Hb1 := Lib.hid hb1; clear hb1
          go_wp2_with fail
          refine (trimR_at _ _ _ _ _ hw1).mono ?_
          rintro e w1 ⟨kr, rfl, hr, rfl⟩
          rw [Hzv.out] at hr
          clear hw1
      all_goals
        have hbel1 := hbel.trans (Hb1.out.mono hbel.size)
        have HY1 := Lib.hid (Hy.out.below hbel1)
        have HB1 := Lib.hid (HB.out.below Hb1.out (by have := hbel.size; exact HB.out.lt))
        have Hbel1 := Lib.hid hbel1
        have Hr := Lib.hid hr; clear hr hbel1 hwd hbel HB Hb1 h1
        go_wp2_with fail
        by_cases hzy : z < y
        · refine (orderR_any z y _ _ _ Hr.out HY1.out).mono ?_
          rintro e w2 ⟨rfl, nd, rfl⟩
          rw [cmpN_lt hzy]
          have Hzy := Lib.hid hzy; clear hzy
          go_wp2
          go_roundw
          case rel =>
            refine ⟨k, Q, rfl, by omega, .inr ⟨gg, 0, kr, _, rfl⟩, ?_, HQ.out, hokq, HB1.out, Below.toDrewN Hbel1.out nd, ?_, fun j hj => HZ.out j (by omega)⟩
            · rw [F2.out, Nat.mod_eq_of_lt Hzy.out]; exact Hr.out
            · intro j hj hj'
              by_cases e : j = k
              · subst e; rw [HZ.out j (by omega), F1.out, Nat.div_eq_of_lt Hzy.out]
              · exact HV.out j (by omega) hj'
          case measure => simp [intOf]
        · obtain ⟨cv, hcv⟩ : ∃ c, c = cmpN z y := ⟨_, rfl⟩
          have hcv0 : 0 ≤ cv := by rw [hcv]; unfold cmpN; rw [if_neg hzy]; split <;> omega
          refine (orderR_any z y _ _ _ Hr.out HY1.out).mono ?_
          rintro e w2 ⟨rfl, nd, rfl⟩
          rw [← hcv]
          clear hcv
          have Hzy := Lib.hid hzy; clear hzy
          obtain ⟨wo, hwo⟩ : ∃ wo, wo = w1.drewN nd := ⟨_, rfl⟩
          have HYo : Hid (Wd wo (.slice A' n' c') (dig y)) := by rw [hwo]; exact HY1
          have HBo : Hid (Blk wo w.heap.size Q) := by rw [hwo]; exact HB1
          have Hro := Lib.hid (show Wd wo _ (dig z) by rw [hwo]; exact Hr.out)
          have Hbelo : Hid (Below w.heap.size w wo) := by rw [hwo]; exact Lib.hid (Below.toDrewN Hbel1.out nd)
          rw [← hwo]
          clear hwo Hr HY1 HB1 Hbel1
          go_wp2_with fail
          have hz1 : y * 1 ≤ z := by have := Hzy.out; omega
          have hz2 : z < y * 4294967296 := by
            have := F3.out
            rw [Nat.div_lt_iff_lt_mul hy0] at this
            rw [Nat.mul_comm]; exact this
          have Hz1 := Lib.hid hz1; clear hz1
          have Hz2 := Lib.hid hz2; clear hz2
          go_loopw [9, 10] (fun a b wr => Rel5 y z wo a b wr) (fun a b _ => (intOf b - intOf a).toNat)
          case atStart => exact ⟨1, 4294967296, rfl, rfl, by omega, by omega, Hz1.out, Hz2.out, Below.refl _ _⟩
          case round =>
            obtain ⟨lo, hi', rfl, rfl, hlt, hle, hlo, hhi, hbl⟩ := hrel
            have Hlo := Lib.hid hlo; clear hlo
            have Hhi := Lib.hid hhi; clear hhi
            have HY3 := Lib.hid (HYo.out.below hbl)
            have Hr3 := Lib.hid (Hro.out.below hbl)
            have Hbl := Lib.hid hbl; clear hbl
            have Lyy := Ly.out
            have hly : (dig y).length ≤ 1000000 := by omega
            have Hly := Lib.hid hly; clear hly Lyy
            by_cases hend : hi' - lo ≤ 1
            · obtain ⟨hq1, hq2⟩ := halve_done Hlo.out Hhi.out hlt hend hy0
              have HB3 := Lib.hid (HBo.out.below Hbl.out HBo.out.lt)
              have Hq1 := Lib.hid hq1; clear hq1
              have Hq2 := Lib.hid hq2; clear hq2
              have hlol : lo < 4294967296 := by omega
              have hd1 : ¬ (1 : Int) < (hi' : Int) - lo := by omega
              go_wp2_with fail
              refine (asSlice (smallR_any y lo _ wr HY3.out Hly.out hlol)).mono ?_
              rintro e w3 ⟨A7, n7, c7, rfl, h7, hb7⟩
              have H7 := Lib.hid h7; clear h7
              have HB4 := Lib.hid (HB3.out.below hb7 HB3.out.lt)
              have Hr4 := Lib.hid (Hr3.out.below hb7)
              have hb37 := (Hbelo.out.trans (Hbl.out.mono Hbelo.out.size))
              have Hb7 := Lib.hid (hb37.trans (hb7.mono hb37.size))
              have hlz : (dig z).length ≤ 1000000 := Nat.le_trans (len_word Ly.out Hz2.out) (by omega)
              have Hlz := Lib.hid hlz; clear hlz hb7 hb37 HB3 Hr3
              go_wp2_with fail
              refine (lessR_at z (y * lo) _ _ w3 Hr4.out H7.out Hlz.out Hlo.out).mono ?_
              rintro e w4 ⟨b8, o8, n8, c8, rfl, hge8, h8, hb8⟩
              have hblk4 := HB4.out.below hb8 HB4.out.lt
              have hfr := hblk4.frozen k
              have hce := hblk4.cell (i := k) (by rw [HQ.out]; omega)
              have HB5 := Lib.hid hblk4
              have Hb8 := Lib.hid (Hb7.out.trans (hb8.mono Hb7.out.size))
              have hne8 : b8 ≠ w.heap.size := by have := HB4.out.lt; omega
              have H8 := Lib.hid h8; clear h8 hblk4 hb8 HB4 Hr4 H7 Hb7
              go_wp2
              go_roundw
              case rel =>
                refine ⟨k, Q.set k lo, rfl, by omega, .inr ⟨b8, o8, n8, c8, rfl⟩, ?_, by rw [List.length_set, HQ.out], hokq.set hlol, HB5.out.set_ _ _, Hb8.out.setCell (p := ⟨w.heap.size, k, none⟩) (Nat.le_refl _) _, ?_, ?_⟩
                · rw [F2.out, ← Hq2.out]
                  exact H8.out.set_far hne8
                · intro j hj hj'
                  by_cases e : j = k
                  · subst e; rw [getD_set_self (by rw [HQ.out]; exact hj'), F1.out, Hq1.out]
                  · rw [getD_set_ne (fun e' => e e'.symm)]; exact HV.out j (by omega) hj'
                · intro j hj
                  rw [getD_set_ne (by omega)]; exact HZ.out j (by omega)
              case measure => simp [intOf]
            · obtain ⟨m, hm⟩ : ∃ m, m = (lo + hi') / 2 := ⟨_, rfl⟩
              have hm1 : lo < m := by omega
              have hm2 : m < hi' := by omega
              have hml : m < 4294967296 := by omega
              have hmI : ((lo : Int) + hi') / 2 = (m : Int) := by omega
              have HmI := Lib.hid hmI; clear hmI hm
              have hd1 : (1 : Int) < (hi' : Int) - lo := by omega
              go_wp2_with fail
              try rw [HmI.out]
              refine (asSlice (smallR_any y m _ wr HY3.out Hly.out hml)).mono ?_
              rintro e w3 ⟨A7, n7, c7, rfl, h7, hb7⟩
              have H7 := Lib.hid h7; clear h7
              have Hr4 := Lib.hid (Hr3.out.below hb7)
              have Hb7 := Lib.hid (Hbl.out.trans (hb7.mono Hbl.out.size)); clear hb7
              go_wp2_with fail
              by_cases hmz : y * m ≤ z
              · obtain ⟨c2, hc2⟩ : ∃ c, c = cmpN (y * m) z := ⟨_, rfl⟩
                have hc20 : c2 ≤ 0 := by rw [hc2]; unfold cmpN; split; omega; rw [if_neg (by omega)]; omega
                refine (orderR_any (y * m) z _ _ _ H7.out Hr4.out).mono ?_
                rintro e w4 ⟨rfl, nd2, rfl⟩
                rw [← hc2]
                clear hc2
                have Hmz := Lib.hid hmz; clear hmz
                go_wp2
                go_roundw
                case rel => exact ⟨m, hi', rfl, rfl, hm2, hle, Hmz.out, Hhi.out, Below.toDrewN Hb7.out nd2⟩
                case measure => simp [intOf]; omega
              · obtain ⟨c2, hc2⟩ : ∃ c, c = cmpN (y * m) z := ⟨_, rfl⟩
                have hc20 : 0 < c2 := by rw [hc2, cmpN_gt (by omega)]; omega
                refine (orderR_any (y * m) z _ _ _ H7.out Hr4.out).mono ?_
                rintro e w4 ⟨rfl, nd2, rfl⟩
                rw [← hc2]
                clear hc2
                have hmz' : z < y * m := by omega
                have Hmz := Lib.hid hmz'; clear hmz hmz'
                go_wp2
                go_roundw
                case rel => exact ⟨lo, m, rfl, rfl, hm1, by omega, Hlo.out, Hmz.out, Below.toDrewN Hb7.out nd2⟩
                case measure => simp [intOf]; omega
end Go.Proofs.YtmlopkkbgpfdnaaDoor
