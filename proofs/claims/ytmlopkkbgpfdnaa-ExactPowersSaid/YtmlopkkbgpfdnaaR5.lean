/- Walks: the reference's naturals: times. -/
import Derived.Test.YtmlopkkbgpfdnaaR2
namespace Go.Proofs.Ytmlopkkbgpfdnaa
open Go.RowKit

set_option maxRecDepth 100000 in
/-- ref times -/
theorem timesR_any (x y : Nat) (u v : Value) (w : World) (hx : Wd w u (dig x)) (hy : Wd w v (dig y)) (lx : (dig x).length ≤ 1000000) (ly : (dig y).length ≤ 1000000) :
    Calls Try.prog 74 #[u, v] w fun e w' => ∃ r, e = .returned r ∧ Wd w' r (dig (x * y)) ∧ Below w.heap.size w w' := by
  obtain ⟨A, c, rfl, -, -⟩ := hx.shape
  obtain ⟨A', c', rfl, -, -⟩ := hy.shape
  obtain ⟨n, hn⟩ : ∃ n, n = (dig x).length := ⟨_, rfl⟩
  obtain ⟨m, hm⟩ : ∃ m, m = (dig y).length := ⟨_, rfl⟩
  rw [← hn] at lx hx ⊢
  rw [← hm] at ly hy ⊢
  have Hn := Lib.hid hn; clear hn
  have Hm := Lib.hid hm; clear hm
  have Hx := Lib.hid hx; clear hx
  have Hy := Lib.hid hy; clear hy
  have hmk : ∀ w, (Instr.makeSlice 32 (.int .i64 ((n : Int) + m)) (.int .i64 ((n : Int) + m))).run Try.prog w = .ok (.slice (some ⟨w.heap.size, 0, none⟩) (n + m) (n + m)) (w.alloc (.cells (U32s (zeros (n + m))) 66)) := fun w => make_u32 32 Try.underlying32 (n + m) (by omega) w
  go_enter Try.func74, Try.ntmps74
  go_wp2_with fail
  go_loopw [19] (fun i wr => ∃ (k : Nat) (L : List Nat), i = .int .i64 k ∧ k ≤ n ∧ L.length = n + m ∧ Ok L ∧ Blk wr w.heap.size L ∧ Below w.heap.size w wr ∧
      val L = x % 4294967296 ^ k * y ∧ ∀ p, k + m ≤ p → L.getD p 0 = 0) (fun i _ => n - (intOf i).toNat)
  case atStart => exact ⟨0, zeros (n + m), rfl, Nat.zero_le _, zeros_length _, zeros_ok _, heap_alloc_new w _, below_alloc _ _, by simp [val_zeros, Nat.mod_one], fun p _ => zeros_getD _ p⟩
  case round =>
    obtain ⟨k, L, rfl, hk, hL, hok, hblk, hbel, hval, hz⟩ := hrel
    have HV := Lib.hid hval; clear hval
    have HL := Lib.hid hL; clear hL
    have HZ := Lib.hid hz; clear hz
    have HB := Lib.hid hblk; clear hblk
    by_cases hlt : k < n
    · obtain ⟨b, off, rfl, hb, hcx⟩ := Wd.cell (k := k) Hx.out hlt
      have h1 : wr.cell? ⟨b, off + k, none⟩ = some (.int .u32 (dg x k : Nat)) := (hbel.cell (p := ⟨b, off + k, none⟩) hb).trans (hcx k hlt)
      clear hcx
      obtain ⟨p, hp⟩ : ∃ p, p = dg x k := ⟨_, rfl⟩
      have hpl : p < 4294967296 := by rw [hp]; exact dg_lt _ _
      rw [← hp] at h1
      have Hp := Lib.hid hp; clear hp
      go_wp2_with fail
      obtain ⟨w1, rfl⟩ : ∃ w1 : World, w1 = wr := ⟨_, rfl⟩
      go_loopw [8, 26] (fun cr j w2 => ∃ (q cv : Nat) (L2 : List Nat), j = .int .i64 q ∧ q ≤ m ∧ cr = .int .u64 cv ∧ cv < 4294967296 ∧ L2.length = n + m ∧ Ok L2 ∧ Blk w2 w.heap.size L2 ∧ Below w.heap.size w w2 ∧
          val L2 + 4294967296 ^ (k + q) * cv = x % 4294967296 ^ k * y + 4294967296 ^ k * (p * (y % 4294967296 ^ q)) ∧ ∀ r, k + m ≤ r → L2.getD r 0 = 0) (fun _ j _ => m - (intOf j).toNat)
      case atStart => exact ⟨0, 0, L, rfl, Nat.zero_le _, rfl, by omega, HL.out, hok, HB.out, hbel, by rw [HV.out]; simp [Nat.mod_one], HZ.out⟩
      case round =>
        obtain ⟨q, cv, L2, rfl, hq, rfl, hcv, hL2, hok2, hblk2, hbel2, hval2, hz2⟩ := hrel
        have HV2 := Lib.hid hval2; clear hval2
        have HL2 := Lib.hid hL2; clear hL2
        have HZ2 := Lib.hid hz2; clear hz2
        by_cases hlt2 : q < m
        · obtain ⟨b', off', rfl, hb', hcy⟩ := Wd.cell (k := q) Hy.out hlt2
          have h2 : wr.cell? ⟨b', off' + q, none⟩ = some (.int .u32 (dg y q : Nat)) := (hbel2.cell (p := ⟨b', off' + q, none⟩) hb').trans (hcy q hlt2)
          clear hcy
          obtain ⟨r, hr⟩ : ∃ r, r = dg y q := ⟨_, rfl⟩
          have hrl : r < 4294967296 := by rw [hr]; exact dg_lt _ _
          rw [← hr] at h2
          have Hr := Lib.hid hr; clear hr
          have h3 := hblk2.cell (i := k + q) (by rw [HL2.out]; omega)
          have h4 := hblk2.frozen (k + q)
          obtain ⟨a, ha⟩ : ∃ a, a = L2.getD (k + q) 0 := ⟨_, rfl⟩
          have hal : a < 4294967296 := by rw [ha]; exact hok2.getD _
          rw [← ha] at h3
          have Ha := Lib.hid ha; clear ha
          have HB2 := Lib.hid hblk2; clear hblk2
          obtain ⟨s, hs⟩ : ∃ s, s = p * r + a + cv := ⟨_, rfl⟩
          have hsl : s < 18446744073709551616 := by rw [hs]; exact mul_bound hpl hrl hal hcv
          have hprod : p * r < 18446744073709551616 := by omega
          have e1 : ((cv : Int) + (a + p * r)) % 4294967296 = ((s % 4294967296 : Nat) : Int) := by rw [hs]; omega
          have e2 : ((cv : Int) + (a + p * r)) / 4294967296 = ((s / 4294967296 : Nat) : Int) := by rw [hs]; omega
          have E1 := Lib.hid e1; clear e1
          have E2 := Lib.hid e2; clear e2
          have Hs := Lib.hid hs; clear hs
          have hsl' : (cv : Int) + (a + p * r) < 18446744073709551616 := by rw [Hs.out] at hsl; omega
          go_wp2_with fail
          rw [E1.out, E2.out]
          go_roundw
          case rel =>
            refine ⟨q + 1, s / 4294967296, L2.set (k + q) (s % 4294967296), by go_num, by omega, rfl, by omega, by rw [List.length_set, HL2.out], hok2.set (by omega), HB2.out.set_ _ _, hbel2.setCell (Nat.le_refl _) _, ?_, ?_⟩
            · refine mul_round HV2.out (old := a) (lo := s % 4294967296) ?_ (by rw [Hs.out, Hr.out]) rfl rfl
              have := val_set (l := L2) (p := k + q) (v := s % 4294967296) (by rw [HL2.out]; omega)
              rw [← Ha.out] at this
              exact this
            · intro t ht
              rw [getD_set_ne (by omega)]
              exact HZ2.out t ht
          case measure => simp [intOf]; omega
        · have hqm : q = m := by omega
          subst hqm
          have h3 := hblk2.cell (i := k + q) (by rw [HL2.out]; omega)
          have h4 := hblk2.frozen (k + q)
          rw [HZ2.out (k + q) (Nat.le_refl _)] at h3
          have HB2 := Lib.hid hblk2; clear hblk2
          go_wp2_with fail
          go_roundw
          case rel =>
            refine ⟨k + 1, L2.set (k + q) cv, by go_num, by omega, by rw [List.length_set, HL2.out], hok2.set hcv, HB2.out.set_ _ _, hbel2.setCell (Nat.le_refl _) _, ?_, ?_⟩
            · have h5 := val_set (l := L2) (p := k + q) (v := cv) (by rw [HL2.out]; omega)
              rw [HZ2.out (k + q) (Nat.le_refl _), HV2.out, mod_len (x := y) (by rw [← Hm.out]; omega), Hp.out, mul_done] at h5
              simpa using h5
            · intro t ht
              rw [getD_set_ne (by omega)]
              exact HZ2.out t (by omega)
          case measure => simp [intOf]; omega
    · have hkn : k = n := by omega
      subst hkn
      have hv : val L = x * y := by rw [HV.out, mod_len (x := x) (by rw [← Hn.out]; omega)]
      have hw2 := HB.out.wd hok (by rw [HL.out]; omega) (k + m) (by rw [HL.out]; omega) (by omega)
      rw [HL.out] at hw2
      have Hv := Lib.hid hv; clear hv
      have Hw := Lib.hid hw2; clear hw2
      go_wp2_with fail
      refine (trimR_any _ _ _ Hw.out).mono ?_
      rintro e w' ⟨r, rfl, hr, rfl⟩
      rw [Hv.out] at hr
      go_wp2
      go_ret
      exact ⟨r, rfl, hr, hbel⟩
end Go.Proofs.Ytmlopkkbgpfdnaa
