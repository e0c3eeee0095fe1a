/- Walks: the reference's naturals: less. -/
import Derived.Test.YtmlopkkbgpfdnaaR2
namespace Go.Proofs.Ytmlopkkbgpfdnaa
open Go.RowKit

set_option maxHeartbeats 800000 in
set_option maxRecDepth 100000 in
/-- ref less -/
theorem lessR_any (x y : Nat) (u v : Value) (w : World) (hx : Wd w u (dig x)) (hy : Wd w v (dig y)) (lx : (dig x).length ≤ 1000000) (hyx : y ≤ x) :
    Calls Try.prog 73 #[u, v] w fun e w' => ∃ r, e = .returned r ∧ Wd w' r (dig (x - y)) ∧ Below w.heap.size w w' := by
  have hly := dig_len_mono hyx
  obtain ⟨A, c, rfl, -, -⟩ := hx.shape
  obtain ⟨A', c', rfl, -, -⟩ := hy.shape
  obtain ⟨nx, hnx⟩ : ∃ n, n = (dig x).length := ⟨_, rfl⟩
  obtain ⟨ny, hny⟩ : ∃ n, n = (dig y).length := ⟨_, rfl⟩
  rw [← hnx] at lx hx hly ⊢
  rw [← hny] at hy hly ⊢
  have Hx := Lib.hid hx; clear hx
  have Hy := Lib.hid hy; clear hy
  have Hnx := Lib.hid hnx; clear hnx
  have Hny := Lib.hid hny; clear hny
  have Hyx := Lib.hid hyx; clear hyx
  have hmk : ∀ w, (Instr.makeSlice 32 (.int .i64 (nx : Int)) (.int .i64 (nx : Int))).run Try.prog w = .ok (.slice (some ⟨w.heap.size, 0, none⟩) nx nx) (w.alloc (.cells (U32s (zeros nx)) 66)) := fun w => make_u32 32 Try.underlying32 nx (by omega) w
  go_enter Try.func73, Try.ntmps73
  go_wp2_with fail
  go_loopw [6, 14] (fun cr i wr => ∃ (k cv : Nat) (L : List Nat), i = .int .i64 k ∧ k ≤ nx ∧ cr = .int .u64 cv ∧ cv ≤ 1 ∧ L.length = nx ∧ Ok L ∧ Blk wr w.heap.size L ∧ Below w.heap.size w wr ∧
      val (L.take k) + y % 4294967296 ^ k = x % 4294967296 ^ k + 4294967296 ^ k * cv) (fun _ i _ => nx - (intOf i).toNat)
  case atStart => exact ⟨0, 0, zeros nx, rfl, Nat.zero_le _, rfl, by omega, zeros_length _, zeros_ok _, heap_alloc_new w _, below_alloc _ _, by simp [val, Nat.mod_one]⟩
  case round =>
    obtain ⟨k, cv, L, rfl, hk, rfl, hcv, hL, hok, hblk, hbel, hval⟩ := hrel
    have HV := Lib.hid hval; clear hval
    have HL := Lib.hid hL; clear hL
    have HX := Lib.hid (Hx.out.below hbel)
    have HY := Lib.hid (Hy.out.below hbel)
    by_cases hlt : k < nx
    · have hfr := hblk.frozen k
      have hce := hblk.cell (i := k) (by rw [HL.out]; omega)
      have hB := Lib.hid hblk; clear hblk
      obtain ⟨b, off, rfl, hb, hc⟩ := Wd.cell (k := k) HX.out hlt
      have hxk := hc k hlt
      clear hc
      obtain ⟨p, hp⟩ : ∃ p, p = dg x k := ⟨_, rfl⟩
      have hpl : p < 4294967296 := by rw [hp]; exact dg_lt _ _
      rw [← hp] at hxk
      have Hp := Lib.hid hp; clear hp
      by_cases hky : k < ny
      · obtain ⟨b', off', rfl, hb', hc'⟩ := Wd.cell (k := k) HY.out hky
        have hyk := hc' k hky
        clear hc'
        obtain ⟨q, hq⟩ : ∃ q, q = dg y k := ⟨_, rfl⟩
        have hql : q < 4294967296 := by rw [hq]; exact dg_lt _ _
        rw [← hq] at hyk
        have Hq := Lib.hid hq; clear hq
        by_cases hge : q + cv ≤ p
        · go_wp2_with fail
          have w1 : ((p : Int) - cv - q) = ((p - cv - q : Nat) : Int) := by omega
          have w2 : ((p : Int) - cv - q) / 9223372036854775808 = ((0 : Nat) : Int) := by omega
          rw [w2, w1]
          go_roundw
          case rel =>
            refine ⟨k + 1, 0, L.set k (p - cv - q), by go_num, by omega, rfl, by omega, by rw [List.length_set, HL.out], hok.set (by omega), hB.out.set_ k _, hbel.setCell (Nat.le_refl _) _, ?_⟩
            rw [val_take_set (by rw [HL.out]; omega)]
            exact sub_round HV.out hcv (by rw [← Hp.out, ← Hq.out]; omega) (by rw [← Hp.out, ← Hq.out]; rw [if_neg (by omega)])
          case measure => simp [intOf]; omega
        · have hlt2 : p < q + cv := by omega
          go_wp2_with fail
          have w1 : (IntKind.u64.wrap (IntKind.u64.wrap ((p : Int) - cv) - q)) % 4294967296 = ((p + 4294967296 - q - cv : Nat) : Int) := by rw [IntKind.wrap_u64, IntKind.wrap_u64]; omega
          have w2 : (IntKind.u64.wrap (IntKind.u64.wrap ((p : Int) - cv) - q)) / 9223372036854775808 = ((1 : Nat) : Int) := by rw [IntKind.wrap_u64, IntKind.wrap_u64]; omega
          rw [w1, w2]
          go_roundw
          case rel =>
            refine ⟨k + 1, 1, L.set k (p + 4294967296 - q - cv), by go_num, by omega, rfl, by omega, by rw [List.length_set, HL.out], hok.set (by omega), hB.out.set_ k _, hbel.setCell (Nat.le_refl _) _, ?_⟩
            rw [val_take_set (by rw [HL.out]; omega)]
            exact sub_round HV.out hcv (by rw [← Hp.out, ← Hq.out]; omega) (by rw [← Hp.out, ← Hq.out]; rw [if_pos (by omega)])
          case measure => simp [intOf]; omega
      · have hq : 0 = dg y k := by rw [dg_zero (by rw [← Hny.out]; omega)]
        have Hq := Lib.hid hq; clear hq
        by_cases hge : cv ≤ p
        · go_wp2_with fail
          have w1 : ((p : Int) - cv) = ((p - cv : Nat) : Int) := by omega
          have w2 : ((p : Int) - cv) / 9223372036854775808 = ((0 : Nat) : Int) := by omega
          rw [w2, w1]
          go_roundw
          case rel =>
            refine ⟨k + 1, 0, L.set k (p - cv), by go_num, by omega, rfl, by omega, by rw [List.length_set, HL.out], hok.set (by omega), hB.out.set_ k _, hbel.setCell (Nat.le_refl _) _, ?_⟩
            rw [val_take_set (by rw [HL.out]; omega)]
            exact sub_round HV.out hcv (by rw [← Hp.out, ← Hq.out]; omega) (by rw [← Hp.out, ← Hq.out]; rw [if_neg (by omega)])
          case measure => simp [intOf]; omega
        · have hlt2 : p < cv := by omega
          go_wp2_with fail
          have w1 : (IntKind.u64.wrap ((p : Int) - cv)) % 4294967296 = ((p + 4294967296 - cv : Nat) : Int) := by rw [IntKind.wrap_u64]; omega
          have w2 : (IntKind.u64.wrap ((p : Int) - cv)) / 9223372036854775808 = ((1 : Nat) : Int) := by rw [IntKind.wrap_u64]; omega
          rw [w1, w2]
          go_roundw
          case rel =>
            refine ⟨k + 1, 1, L.set k (p + 4294967296 - cv), by go_num, by omega, rfl, by omega, by rw [List.length_set, HL.out], hok.set (by omega), hB.out.set_ k _, hbel.setCell (Nat.le_refl _) _, ?_⟩
            rw [val_take_set (by rw [HL.out]; omega)]
            exact sub_round HV.out hcv (by rw [← Hp.out, ← Hq.out]; omega) (by rw [← Hp.out, ← Hq.out]; rw [if_pos (by omega)])
          case measure => simp [intOf]; omega
    · have hkn : k = nx := by omega
      subst hkn
      have hB := Lib.hid hblk; clear hblk
      have hv : val L = x - y := by
        have e := HV.out
        rw [List.take_of_length_le (by rw [HL.out]; omega), mod_len (x := x) (by rw [← Hnx.out]; omega)] at e
        have hxl := val_lt hok
        rw [HL.out] at hxl
        have hyy : y % 4294967296 ^ k = y := mod_len (by rw [← Hny.out]; exact hly)
        rw [hyy] at e
        have := Hyx.out
        rcases (by omega : cv = 0 ∨ cv = 1) with h | h
        · subst h; omega
        · subst h; have hlt := lt_of_dig_len (n := x) (k := k) (by rw [← Hnx.out]; omega); omega
      have hw2 := hB.out.wd hok (by rw [HL.out]; omega) k (by rw [HL.out]; omega) (by omega)
      rw [HL.out] at hw2
      have Hw := Lib.hid hw2; clear hw2
      have Hv := Lib.hid hv; clear hv
      go_wp2_with fail
      refine (trimR_any _ _ _ Hw.out).mono ?_
      rintro e w' ⟨r, rfl, hr, rfl⟩
      rw [Hv.out] at hr
      go_wp2
      go_ret
      exact ⟨r, rfl, hr, hbel⟩
end Go.Proofs.Ytmlopkkbgpfdnaa
