/- Walks: the reference's naturals: times. · Walks: the reference's whole numbers. · Walks: the reference's whole numbers. · Walks: the reference's whole numbers. · Walks: the reference: Valid, Same, answer. · Walks: the reference: Whole. -/
import Derived.Test.YtmlopkkbgpfdnaaGreatDoorM13
import Derived.Test.YtmlopkkbgpfdnaaGreatDoorM1
import Derived.Test.YtmlopkkbgpfdnaaGreatDoorM14
import Derived.Test.YtmlopkkbgpfdnaaGreatDoorM6
namespace Go.Proofs.YtmlopkkbgpfdnaaGreatDoor
open Go.RowKit

set_option maxRecDepth 100000 in
/-- ref times -/
theorem timesR_any (x y : Nat) (u v : Value) (w : World) (hx : Wd w u (dig x)) (hy : Wd w v (dig y)) (lx : (dig x).length ≤ 1000000) (ly : (dig y).length ≤ 1000000) :
    Calls Tryz.prog 103 #[u, v] w fun e w' => ∃ r, e = .returned r ∧ Wd w' r (dig (x * y)) ∧ Below w.heap.size w w' := by
  obtain ⟨A, c, rfl, -, -⟩ := hx.shape
  obtain ⟨A', c', rfl, -, -⟩ := hy.shape
  obtain ⟨n, hn⟩ : ∃ n, n = (dig x).length := ⟨_, rfl⟩
  obtain ⟨m, hm⟩ : ∃ m, m = (dig y).length := ⟨_, rfl⟩
  rw [← hn] at lx hx ⊢
  rw [← hm] at ly hy ⊢
  have Hn := Lib.hid hn; clear hn
  have Hm := Lib.hid hm; clear hm
  have Hx := Lib.hid hx; clear hx
  have Hy := Lib.hid hy; clear hy
  have hmk : ∀ w, (Instr.makeSlice 53 (.int .i64 ((n : Int) + m)) (.int .i64 ((n : Int) + m))).run Tryz.prog w = .ok (.slice (some ⟨w.heap.size, 0, none⟩) (n + m) (n + m)) (w.alloc (.cells (U32s (zeros (n + m))) 66)) := fun w => make_u32 53 Tryz.underlying53 (n + m) (by omega) w
  go_enter Tryz.func103, Tryz.ntmps103
  go_wp2_with fail
  go_loopw [19] (fun i wr => ∃ (k : Nat) (L : List Nat), i = .int .i64 k ∧ k ≤ n ∧ L.length = n + m ∧ Ok L ∧ Blk wr w.heap.size L ∧ Below w.heap.size w wr ∧
      val L = x % 4294967296 ^ k * y ∧ ∀ p, k + m ≤ p → L.getD p 0 = 0) (fun i _ => n - (intOf i).toNat)
  case atStart => exact ⟨0, zeros (n + m), rfl, Nat.zero_le _, zeros_length _, zeros_ok _, heap_alloc_new w _, below_alloc _ _, by simp [val_zeros, Nat.mod_one], fun p _ => zeros_getD _ p⟩
  case round =>
    obtain ⟨k, L, rfl, hk, hL, hok, hblk, hbel, hval, hz⟩ := hrel
    have HV := Lib.hid hval; clear hval
    have HL := Lib.hid hL; clear hL
    have HZ := Lib.hid hz; clear hz
    have HB := Lib.hid hblk; clear hblk
    by_cases hlt : k < n
    · obtain ⟨b, off, rfl, hb, hcx⟩ := Wd.cell (k := k) Hx.out hlt
      have h1 : wr.cell? ⟨b, off + k, none⟩ = some (.int .u32 (dg x k : Nat)) := (hbel.cell (p := ⟨b, off + k, none⟩) hb).trans (hcx k hlt)
      clear hcx
      obtain ⟨p, hp⟩ : ∃ p, p = dg x k := ⟨_, rfl⟩
      have hpl : p < 4294967296 := by rw [hp]; exact dg_lt _ _
      rw [← hp] at h1
      have Hp := Lib.hid hp; clear hp
      go_wp2_with fail
      obtain ⟨w1, rfl⟩ : ∃ w1 : World, w1 = wr := ⟨_, rfl⟩
      go_loopw [8, 26] (fun cr j w2 => ∃ (q cv : Nat) (L2 : List Nat), j = .int .i64 q ∧ q ≤ m ∧ cr = .int .u64 cv ∧ cv < 4294967296 ∧ L2.length = n + m ∧ Ok L2 ∧ Blk w2 w.heap.size L2 ∧ Below w.heap.size w w2 ∧
          val L2 + 4294967296 ^ (k + q) * cv = x % 4294967296 ^ k * y + 4294967296 ^ k * (p * (y % 4294967296 ^ q)) ∧ ∀ r, k + m ≤ r → L2.getD r 0 = 0) (fun _ j _ => m - (intOf j).toNat)
      case atStart => exact ⟨0, 0, L, rfl, Nat.zero_le _, rfl, by omega, HL.out, hok, HB.out, hbel, by rw [HV.out]; simp [Nat.mod_one], HZ.out⟩
      case round =>
        obtain ⟨q, cv, L2, rfl, hq, rfl, hcv, hL2, hok2, hblk2, hbel2, hval2, hz2⟩ := hrel
        have HV2 := Lib.hid hval2; clear hval2
        have HL2 := Lib.hid hL2; clear hL2
        have HZ2 := Lib.hid hz2; clear hz2
        by_cases hlt2 : q < m
        · obtain ⟨b', off', rfl, hb', hcy⟩ := Wd.cell (k := q) Hy.out hlt2
          have h2 : wr.cell? ⟨b', off' + q, none⟩ = some (.int .u32 (dg y q : Nat)) := (hbel2.cell (p := ⟨b', off' + q, none⟩) hb').trans (hcy q hlt2)
          clear hcy
          obtain ⟨r, hr⟩ : ∃ r, r = dg y q := ⟨_, rfl⟩
          have hrl : r < 4294967296 := by rw [hr]; exact dg_lt _ _
          rw [← hr] at h2
          have Hr := Lib.hid hr; clear hr
          have h3 := hblk2.cell (i := k + q) (by rw [HL2.out]; omega)
          have h4 := hblk2.frozen (k + q)
          obtain ⟨a, ha⟩ : ∃ a, a = L2.getD (k + q) 0 := ⟨_, rfl⟩
          have hal : a < 4294967296 := by rw [ha]; exact hok2.getD _
          rw [← ha] at h3
          have Ha := Lib.hid ha; clear ha
          have HB2 := Lib.hid hblk2; clear hblk2
          obtain ⟨s, hs⟩ : ∃ s, s = p * r + a + cv := ⟨_, rfl⟩
          have hsl : s < 18446744073709551616 := by rw [hs]; exact mul_bound hpl hrl hal hcv
          have hprod : p * r < 18446744073709551616 := by omega
          have e1 : ((cv : Int) + (a + p * r)) % 4294967296 = ((s % 4294967296 : Nat) : Int) := by rw [hs]; omega
          have e2 : ((cv : Int) + (a + p * r)) / 4294967296 = ((s / 4294967296 : Nat) : Int) := by rw [hs]; omega
          have E1 := Lib.hid e1; clear e1
          have E2 := Lib.hid e2; clear e2
          have Hs := Lib.hid hs; clear hs
          have hsl' : (cv : Int) + (a + p * r) < 18446744073709551616 := by rw [Hs.out] at hsl; omega
          go_wp2_with fail
          rw [E1.out, E2.out]
          go_roundw
          case rel =>
            refine ⟨q + 1, s / 4294967296, L2.set (k + q) (s % 4294967296), by go_num, by omega, rfl, by omega, by rw [List.length_set, HL2.out], hok2.set (by omega), HB2.out.set_ _ _, hbel2.setCell (Nat.le_refl _) _, ?_, ?_⟩
            · refine mul_round HV2.out (old := a) (lo := s % 4294967296) ?_ (by rw [Hs.out, Hr.out]) rfl rfl
              have := val_set (l := L2) (p := k + q) (v := s % 4294967296) (by rw [HL2.out]; omega)
              rw [← Ha.out] at this
              exact this
            · intro t ht
              rw [getD_set_ne (by omega)]
              exact HZ2.out t ht
          case measure => simp [intOf]; omega
        · have hqm : q = m := by omega
          subst hqm
          have h3 := hblk2.cell (i := k + q) (by rw [HL2.out]; omega)
          have h4 := hblk2.frozen (k + q)
          rw [HZ2.out (k + q) (Nat.le_refl _)] at h3
          have HB2 := Lib.hid hblk2; clear hblk2
          go_wp2_with fail
          go_roundw
          case rel =>
            refine ⟨k + 1, L2.set (k + q) cv, by go_num, by omega, by rw [List.length_set, HL2.out], hok2.set hcv, HB2.out.set_ _ _, hbel2.setCell (Nat.le_refl _) _, ?_, ?_⟩
            · have h5 := val_set (l := L2) (p := k + q) (v := cv) (by rw [HL2.out]; omega)
              rw [HZ2.out (k + q) (Nat.le_refl _), HV2.out, mod_len (x := y) (by rw [← Hm.out]; omega), Hp.out, mul_done] at h5
              simpa using h5
            · intro t ht
              rw [getD_set_ne (by omega)]
              exact HZ2.out t (by omega)
          case measure => simp [intOf]; omega
    · have hkn : k = n := by omega
      subst hkn
      have hv : val L = x * y := by rw [HV.out, mod_len (x := x) (by rw [← Hn.out]; omega)]
      have hw2 := HB.out.wd hok (by rw [HL.out]; omega) (k + m) (by rw [HL.out]; omega) (by omega)
      rw [HL.out] at hw2
      have Hv := Lib.hid hv; clear hv
      have Hw := Lib.hid hw2; clear hw2
      go_wp2_with fail
      refine (trimR_any _ _ _ Hw.out).mono ?_
      rintro e w' ⟨r, rfl, hr, rfl⟩
      rw [Hv.out] at hr
      go_wp2
      go_ret
      exact ⟨r, rfl, hr, hbel⟩
end Go.Proofs.YtmlopkkbgpfdnaaGreatDoor
namespace Go.Proofs.YtmlopkkbgpfdnaaGreatDoor
open Go.RowKit

set_option maxRecDepth 100000 in
theorem of_any (p : Bool) (A : Option Addr) (n c : Nat) (w : World) :
    Calls Tryz.prog 25 #[.agg #[.bool p, .slice A n c]] w fun e w' => e = .returned (.agg #[.bool p, .slice A n c]) ∧ Below w.heap.size w w' := by
  go_enter Tryz.func25, Tryz.ntmps25
  go_wp2
  exact bodyPost_ret (v := .agg #[.bool p, .slice A n c]) (by simp [results, Tryz.results25, go_sem]) rfl ⟨rfl, below2 _ _ _⟩

set_option maxRecDepth 100000 in
theorem int_any (p : Bool) (A : Option Addr) (n c : Nat) (w : World) :
    Calls Tryz.prog 42 #[.agg #[.bool p, .slice A n c]] w fun e w' => e = .returned (.agg #[.bool p, .slice A n c]) ∧ Below w.heap.size w w' := by
  go_enter Tryz.func42, Tryz.ntmps42
  go_wp2
  exact bodyPost_ret (v := .agg #[.bool p, .slice A n c]) (by simp [results, Tryz.results42, go_sem]) rfl ⟨rfl, below2 _ _ _⟩

set_option maxRecDepth 100000 in
/-- ref Minus -/
theorem minusR_any (z : Int) (a : Value) (w : World) (ha : ZV w a z) : Calls Tryz.prog 52 #[a] w (RetZ w (-z)) := by
  obtain ⟨A, n, c, rfl, hv, hn, hl⟩ := ha.open_
  obtain ⟨p, hp⟩ : ∃ p, p = decide (z < 0) := ⟨_, rfl⟩
  rw [← hp]
  have Hp := Lib.hid hp; clear hp ha
  have Hn := Lib.hid hn; clear hn
  have Hv := Lib.hid hv; clear hv
  go_enter Tryz.func52, Tryz.ntmps52
  go_wp2_with fail
  refine (signedR_any (!p) A n c _ hl).mono ?_
  rintro e w1 ⟨rfl, hb1⟩
  have hR := (RB.b2 w false none 0 0 55 (Obj.cells #[.bool p, .slice A n c] 55)).below hb1 (by simp)
  obtain ⟨a0, A0, n0, c0, k10, k11, k20, k21⟩ := hR.facts
  have s0 := hR.set0 (!p && decide (0 < n)) (.slice A n c)
  have s1 := hR.set1 (!p && decide (0 < n)) (.slice A n c)
  have hb := (below2 w (Obj.cells #[.bool p, .slice A n c] 55) (Obj.cells #[.bool false, .slice none 0 0] 55)).trans (hb1.mono (by simp; omega))
  have fin := And.intro ((Hv.out.below hb).rb hR (.bool (!p && decide (0 < n))) (.slice A n c)) (below_set2 (g := w.heap.size + 1) (i := 0) (j := 1) hb (by omega) (.bool (!p && decide (0 < n))) (.slice A n c))
  have Fin := Lib.hid fin; clear fin hR hb hb1
  go_wp2
  refine bodyPost_ret (v := .agg #[.bool (!p && decide (0 < n)), .slice A n c]) (by simp [results, Tryz.results52, go_sem, s0, s1]) rfl ⟨_, rfl, ZV.mk ?_ ?_, Fin.out.2⟩
  · rw [Hp.out, Hn.out, Bool.eq_iff_iff]
    simp only [Bool.and_eq_true, Bool.not_eq_true', decide_eq_false_iff_not, decide_eq_true_eq, dig_len_pos]
    omega
  · rw [Int.natAbs_neg]; exact Fin.out.1

/-- ref Sign -/
theorem signR_any (z : Int) (a : Value) (w : World) (ha : ZV w a z) : Calls Tryz.prog 30 #[a] w fun e w' => e = .returned (.int .i64 z.sign) ∧ Below w.heap.size w w' := by
  obtain ⟨A, n, c, rfl, hv, hn, hl⟩ := ha.open_
  have hn0 := @dig_len_pos z.natAbs
  rw [← hn] at hn0
  have Hb := Lib.hid (below_alloc w (Obj.cells #[.bool (decide (z < 0)), .slice A n c] 55))
  clear ha hv hn
  rcases Int.lt_trichotomy z 0 with h | h | h
  · have e1 : decide (z < 0) = true := by simpa using h
    have h0 : 0 < n := hn0.2 (by omega)
    rw [Int.sign_eq_neg_one_of_neg h]
    rw [e1] at Hb ⊢
    clear e1 hn0
    go_enter Tryz.func30, Tryz.ntmps30
    go_wp2
    go_ret
    exact ⟨rfl, Hb.out⟩
  · have e1 : decide (z < 0) = false := by simp; omega
    have h0 : n = 0 := by
      rcases Nat.eq_zero_or_pos n with h1 | h1
      · exact h1
      · have := hn0.1 h1; omega
    subst h0 h
    rw [Int.sign_zero]
    rw [e1] at Hb ⊢
    clear hn0 e1
    go_enter Tryz.func30, Tryz.ntmps30
    go_wp2
    go_ret
    exact ⟨rfl, Hb.out⟩
  · have e1 : decide (z < 0) = false := by simp; omega
    have h0 : 0 < n := hn0.2 (by omega)
    rw [Int.sign_eq_one_of_pos h]
    rw [e1] at Hb ⊢
    clear e1 hn0
    go_enter Tryz.func30, Tryz.ntmps30
    go_wp2
    go_ret
    exact ⟨rfl, Hb.out⟩
theorem zeroR_any (z : Int) (a : Value) (w : World) (ha : ZV w a z) : Calls Tryz.prog 24 #[a] w fun e w' => e = .returned (.bool (decide (z = 0))) ∧ Below w.heap.size w w' := by
  obtain ⟨A, n, c, rfl, -, hn, -⟩ := ha.open_
  have he : decide (z = 0) = decide (n = 0) := by
    rw [hn, decide_eq_decide]
    have := @dig_len_pos z.natAbs
    omega
  rw [he]
  clear ha hn
  have hb := below_alloc w (Obj.cells #[.bool (decide (z < 0)), .slice A n c] 55)
  obtain ⟨p, hp⟩ : ∃ p, p = decide (z < 0) := ⟨_, rfl⟩
  rw [← hp] at hb ⊢
  have Hb := Lib.hid hb; clear hb hp he
  go_enter Tryz.func24, Tryz.ntmps24
  go_wp2
  go_ret
  refine ⟨?_, Hb.out⟩
  by_cases h : n = 0
  · subst h; rfl
  · simp [h]

theorem fitsR_any (z : Int) (a : Value) (w : World) (ha : ZV w a z) : Calls Tryz.prog 75 #[a] w fun e w' => e = .returned (.bool (decide ((dig z.natAbs).length ≤ 256))) ∧ Below w.heap.size w w' := by
  obtain ⟨A, n, c, rfl, -, hn, -⟩ := ha.open_
  rw [← hn]
  clear ha hn
  have hb := below_alloc w (Obj.cells #[.bool (decide (z < 0)), .slice A n c] 55)
  obtain ⟨p, hp⟩ : ∃ p, p = decide (z < 0) := ⟨_, rfl⟩
  rw [← hp] at hb ⊢
  have Hb := Lib.hid hb; clear hb hp
  go_enter Tryz.func75, Tryz.ntmps75
  go_wp2
  go_ret
  exact ⟨by simp; omega, Hb.out⟩

end Go.Proofs.YtmlopkkbgpfdnaaGreatDoor
namespace Go.Proofs.YtmlopkkbgpfdnaaGreatDoor
open Go.RowKit

set_option maxHeartbeats 400000 in
set_option maxRecDepth 100000 in
theorem plusRZ_same (x y : Nat) (p q : Bool) (u v : Value) (w : World) (hpq : (p == q) = true) (hx : Wd w u (dig x)) (hy : Wd w v (dig y)) (lx : (dig x).length ≤ 1000000) (ly : (dig y).length ≤ 1000000) :
    Calls Tryz.prog 82 #[.agg #[.bool p, u], .agg #[.bool q, v]] w fun e w' => ∃ r, e = .returned (.agg #[.bool (p && decide (0 < (dig (x + y)).length)), r]) ∧ Wd w' r (dig (x + y)) ∧ Below w.heap.size w w' := by
  have Hx := Lib.hid hx
  have Hy := Lib.hid hy
  obtain ⟨A, n, c, rfl⟩ := hx.slice_
  obtain ⟨A', n', c', rfl⟩ := hy.slice_
  clear hx hy
  go_enter Tryz.func82, Tryz.ntmps82
  go_wp2_with fail
  have hb3 := below3 w (Obj.cells #[.bool p, .slice A n c] 55) (Obj.cells #[.bool q, .slice A' n' c'] 55) (Obj.cells #[.bool false, .slice none 0 0] 55)
  have Hx3 := Lib.hid (Hx.out.below hb3)
  have Hy3 := Lib.hid (Hy.out.below hb3)
  have nq0 : True := trivial
  have f1 : (((w.alloc (Obj.cells #[.bool p, .slice A n c] 55)).alloc (Obj.cells #[.bool q, .slice A' n' c'] 55)).alloc (Obj.cells #[.bool false, .slice none 0 0] 55)).cell? ⟨w.heap.size, 0, none⟩ = some (.bool p) := old1 0
  have f2 : (((w.alloc (Obj.cells #[.bool p, .slice A n c] 55)).alloc (Obj.cells #[.bool q, .slice A' n' c'] 55)).alloc (Obj.cells #[.bool false, .slice none 0 0] 55)).cell? ⟨w.heap.size, 1, none⟩ = some (.slice A n c) := old1 1
  have f3 : (((w.alloc (Obj.cells #[.bool p, .slice A n c] 55)).alloc (Obj.cells #[.bool q, .slice A' n' c'] 55)).alloc (Obj.cells #[.bool false, .slice none 0 0] 55)).cell? ⟨w.heap.size + 1, 1, none⟩ = some (.slice A' n' c') := old2 1
  have HRx : RB (((w.alloc (Obj.cells #[.bool p, .slice A n c] 55)).alloc (Obj.cells #[.bool q, .slice A' n' c'] 55)).alloc (Obj.cells #[.bool false, .slice none 0 0] 55)) (w.heap.size + 1 + 1) := RB.a3 w false none 0 0 55 _ _
  have hx4 : Wd (((w.alloc (Obj.cells #[.bool p, .slice A n c] 55)).alloc (Obj.cells #[.bool q, .slice A' n' c'] 55)).alloc (Obj.cells #[.bool false, .slice none 0 0] 55)) (.slice A n c) (dig x) := Hx3.out
  have hy4 : Wd (((w.alloc (Obj.cells #[.bool p, .slice A n c] 55)).alloc (Obj.cells #[.bool q, .slice A' n' c'] 55)).alloc (Obj.cells #[.bool false, .slice none 0 0] 55)) (.slice A' n' c') (dig y) := Hy3.out
  have hb4 : Below w.heap.size w (((w.alloc (Obj.cells #[.bool p, .slice A n c] 55)).alloc (Obj.cells #[.bool q, .slice A' n' c'] 55)).alloc (Obj.cells #[.bool false, .slice none 0 0] 55)) := hb3
  have z0 : w.heap.size + 1 + 1 + 1 ≤ (((w.alloc (Obj.cells #[.bool p, .slice A n c] 55)).alloc (Obj.cells #[.bool q, .slice A' n' c'] 55)).alloc (Obj.cells #[.bool false, .slice none 0 0] 55)).heap.size := by simp
  clear Hx3 Hy3 hb3 Hx Hy
  generalize (((w.alloc (Obj.cells #[.bool p, .slice A n c] 55)).alloc (Obj.cells #[.bool q, .slice A' n' c'] 55)).alloc (Obj.cells #[.bool false, .slice none 0 0] 55)) = W3 at *
  have Hx3 := Lib.hid hx4; clear hx4
  have Hy3 := Lib.hid hy4; clear hy4
  have Hb3 := Lib.hid hb4; clear hb4
  have HR := Lib.hid HRx; clear HRx
  go_region_held3 (fun w' => w'.cell? ⟨w.heap.size, 0, none⟩ = some (.bool p) ∧ w'.cell? ⟨w.heap.size, 1, none⟩ = some (.slice A n c) ∧ w'.cell? ⟨w.heap.size + 1, 1, none⟩ = some (.slice A' n' c'))
    (first | exact ⟨f1, f2, f3⟩ | (go_split_ands; exact ⟨(far2 (by omega)).trans (by assumption), (far2 (by omega)).trans (by assumption), (far2 (by omega)).trans (by assumption)⟩) | (go_split_ands; exact ⟨keepAt hb1 (by simp <;> omega) (by assumption), keepAt hb1 (by simp <;> omega) (by assumption), keepAt hb1 (by simp <;> omega) (by assumption)⟩) | (go_split_ands; exact ⟨keepAt hb2 (by omega) (by assumption), keepAt hb2 (by omega) (by assumption), keepAt hb2 (by omega) (by assumption)⟩))
    (first | (go_at_call 66; refine (asSlice (plusR_any x y _ _ _ (by exact Hx3.out) (by exact Hy3.out) lx ly)).mono ?_; rintro e w1 ⟨A5, n5, c5, rfl, hr, hb1⟩; have z1 : w.heap.size + 1 + 1 + 1 ≤ w1.heap.size := (by have h := (hb1).size; have h0 := z0; simp at h h0; omega); have hl5 := hr.len_le; have hR1 := HR.out.below (undrew hb1) (by simp <;> omega)) | (go_at_call 55; refine (signedR_any p A5 n5 c5 _ hl5).mono ?_; rintro e w2 ⟨rfl, hb2⟩; have z2 := hb2.size; have hR := hR1.below hb2 (by omega); obtain ⟨a0, A0, n0, c0, k10, k11, k20, k21⟩ := hR.facts))
  have s0 := hR.set0 (p && decide (0 < n5)) (.slice A5 n5 c5)
  have s1 := hR.set1 (p && decide (0 < n5)) (.slice A5 n5 c5)
  have fin : Wd ((w2.setCell ⟨w.heap.size + 1 + 1, 0, none⟩ (.bool (p && decide (0 < n5)))).setCell ⟨w.heap.size + 1 + 1, 1, none⟩ (.slice A5 n5 c5)) (.slice A5 n5 c5) (dig (x + y)) ∧ Below w.heap.size w ((w2.setCell ⟨w.heap.size + 1 + 1, 0, none⟩ (.bool (p && decide (0 < n5)))).setCell ⟨w.heap.size + 1 + 1, 1, none⟩ (.slice A5 n5 c5)) :=
    ⟨(hr.below hb2).rb hR _ _, below_set2 ((Hb3.out.trans ((undrew hb1).mono (by simp <;> omega))).trans (hb2.mono (by omega))) (by omega) _ _⟩
  have Fin := Lib.hid fin; clear fin
  have hn5 := hr.len
  have Hn5 := Lib.hid hn5; clear hn5
  go_wp2
  exact bodyPost_ret (v := .agg #[.bool (p && decide (0 < n5)), .slice A5 n5 c5]) (by simp [results, Tryz.results82, go_sem, s0, s1]) rfl ⟨.slice A5 n5 c5, by rw [← Hn5.out], Fin.out.1, Fin.out.2⟩

set_option maxHeartbeats 400000 in
set_option maxRecDepth 100000 in
theorem plusRZ_big (x y : Nat) (p q : Bool) (u v : Value) (w : World) (hpq : (p == q) = false) (hx : Wd w u (dig x)) (hy : Wd w v (dig y)) (lx : (dig x).length ≤ 1000000) (hyx : y ≤ x) :
    Calls Tryz.prog 82 #[.agg #[.bool p, u], .agg #[.bool q, v]] w fun e w' => ∃ r, e = .returned (.agg #[.bool (p && decide (0 < (dig (x - y)).length)), r]) ∧ Wd w' r (dig (x - y)) ∧ Below w.heap.size w w' := by
  have Hx := Lib.hid hx
  have Hy := Lib.hid hy
  obtain ⟨A, n, c, rfl⟩ := hx.slice_
  obtain ⟨A', n', c', rfl⟩ := hy.slice_
  clear hx hy
  go_enter Tryz.func82, Tryz.ntmps82
  go_wp2_with fail
  have hb3 := below3 w (Obj.cells #[.bool p, .slice A n c] 55) (Obj.cells #[.bool q, .slice A' n' c'] 55) (Obj.cells #[.bool false, .slice none 0 0] 55)
  have Hx3 := Lib.hid (Hx.out.below hb3)
  have Hy3 := Lib.hid (Hy.out.below hb3)
  have hcm : cmpN x y = 0 ∨ cmpN x y = 1 := by
    rcases Nat.lt_or_ge y x with h | h
    · right; exact cmpN_gt h
    · left; exact cmpN_eq (by omega)
  refine (orderR_any x y _ _ _ Hx3.out Hy3.out).mono ?_
  rintro e w2 ⟨rfl, nq, rfl⟩
  obtain ⟨cm, hcme, hcm0⟩ : ∃ cm : Int, cm = cmpN x y ∧ 0 ≤ cm := ⟨_, rfl, by omega⟩
  rw [← hcme]
  clear hcme hcm
  go_wp2_with fail
  have f1 : ((((w.alloc (Obj.cells #[.bool p, .slice A n c] 55)).alloc (Obj.cells #[.bool q, .slice A' n' c'] 55)).alloc (Obj.cells #[.bool false, .slice none 0 0] 55)).drewN nq).cell? ⟨w.heap.size, 0, none⟩ = some (.bool p) := old1 0
  have f2 : ((((w.alloc (Obj.cells #[.bool p, .slice A n c] 55)).alloc (Obj.cells #[.bool q, .slice A' n' c'] 55)).alloc (Obj.cells #[.bool false, .slice none 0 0] 55)).drewN nq).cell? ⟨w.heap.size, 1, none⟩ = some (.slice A n c) := old1 1
  have f3 : ((((w.alloc (Obj.cells #[.bool p, .slice A n c] 55)).alloc (Obj.cells #[.bool q, .slice A' n' c'] 55)).alloc (Obj.cells #[.bool false, .slice none 0 0] 55)).drewN nq).cell? ⟨w.heap.size + 1, 1, none⟩ = some (.slice A' n' c') := old2 1
  have HRx : RB ((((w.alloc (Obj.cells #[.bool p, .slice A n c] 55)).alloc (Obj.cells #[.bool q, .slice A' n' c'] 55)).alloc (Obj.cells #[.bool false, .slice none 0 0] 55)).drewN nq) (w.heap.size + 1 + 1) := RB.a3 w false none 0 0 55 _ _
  have hx4 : Wd ((((w.alloc (Obj.cells #[.bool p, .slice A n c] 55)).alloc (Obj.cells #[.bool q, .slice A' n' c'] 55)).alloc (Obj.cells #[.bool false, .slice none 0 0] 55)).drewN nq) (.slice A n c) (dig x) := Hx3.out
  have hy4 : Wd ((((w.alloc (Obj.cells #[.bool p, .slice A n c] 55)).alloc (Obj.cells #[.bool q, .slice A' n' c'] 55)).alloc (Obj.cells #[.bool false, .slice none 0 0] 55)).drewN nq) (.slice A' n' c') (dig y) := Hy3.out
  have hb4 : Below w.heap.size w ((((w.alloc (Obj.cells #[.bool p, .slice A n c] 55)).alloc (Obj.cells #[.bool q, .slice A' n' c'] 55)).alloc (Obj.cells #[.bool false, .slice none 0 0] 55)).drewN nq) := Below.toDrewN hb3 nq
  have z0 : w.heap.size + 1 + 1 + 1 ≤ ((((w.alloc (Obj.cells #[.bool p, .slice A n c] 55)).alloc (Obj.cells #[.bool q, .slice A' n' c'] 55)).alloc (Obj.cells #[.bool false, .slice none 0 0] 55)).drewN nq).heap.size := by simp [World.drewN]
  clear Hx3 Hy3 hb3 Hx Hy
  generalize ((((w.alloc (Obj.cells #[.bool p, .slice A n c] 55)).alloc (Obj.cells #[.bool q, .slice A' n' c'] 55)).alloc (Obj.cells #[.bool false, .slice none 0 0] 55)).drewN nq) = W3 at *
  have Hx3 := Lib.hid hx4; clear hx4
  have Hy3 := Lib.hid hy4; clear hy4
  have Hb3 := Lib.hid hb4; clear hb4
  have HR := Lib.hid HRx; clear HRx
  go_region_held3 (fun w' => w'.cell? ⟨w.heap.size, 0, none⟩ = some (.bool p) ∧ w'.cell? ⟨w.heap.size, 1, none⟩ = some (.slice A n c) ∧ w'.cell? ⟨w.heap.size + 1, 1, none⟩ = some (.slice A' n' c'))
    (first | exact ⟨f1, f2, f3⟩ | (go_split_ands; exact ⟨(far2 (by omega)).trans (by assumption), (far2 (by omega)).trans (by assumption), (far2 (by omega)).trans (by assumption)⟩) | (go_split_ands; exact ⟨keepAt hb1 (by simp <;> omega) (by assumption), keepAt hb1 (by simp <;> omega) (by assumption), keepAt hb1 (by simp <;> omega) (by assumption)⟩) | (go_split_ands; exact ⟨keepAt hb2 (by omega) (by assumption), keepAt hb2 (by omega) (by assumption), keepAt hb2 (by omega) (by assumption)⟩))
    (first | (go_at_call 67; refine (asSlice (lessR_any x y _ _ _ (by exact Hx3.out) (by exact Hy3.out) lx hyx)).mono ?_; rintro e w1 ⟨A5, n5, c5, rfl, hr, hb1⟩; have z1 : w.heap.size + 1 + 1 + 1 ≤ w1.heap.size := (by have h := (hb1).size; have h0 := z0; simp at h h0; omega); have hl5 := hr.len_le; have hR1 := HR.out.below (undrew hb1) (by simp <;> omega)) | (go_at_call 55; refine (signedR_any p A5 n5 c5 _ hl5).mono ?_; rintro e w2 ⟨rfl, hb2⟩; have z2 := hb2.size; have hR := hR1.below hb2 (by omega); obtain ⟨a0, A0, n0, c0, k10, k11, k20, k21⟩ := hR.facts))
  have s0 := hR.set0 (p && decide (0 < n5)) (.slice A5 n5 c5)
  have s1 := hR.set1 (p && decide (0 < n5)) (.slice A5 n5 c5)
  have fin : Wd ((w2.setCell ⟨w.heap.size + 1 + 1, 0, none⟩ (.bool (p && decide (0 < n5)))).setCell ⟨w.heap.size + 1 + 1, 1, none⟩ (.slice A5 n5 c5)) (.slice A5 n5 c5) (dig (x - y)) ∧ Below w.heap.size w ((w2.setCell ⟨w.heap.size + 1 + 1, 0, none⟩ (.bool (p && decide (0 < n5)))).setCell ⟨w.heap.size + 1 + 1, 1, none⟩ (.slice A5 n5 c5)) :=
    ⟨(hr.below hb2).rb hR _ _, below_set2 ((Hb3.out.trans ((undrew hb1).mono (by simp <;> omega))).trans (hb2.mono (by omega))) (by omega) _ _⟩
  have Fin := Lib.hid fin; clear fin
  have hn5 := hr.len
  have Hn5 := Lib.hid hn5; clear hn5
  go_wp2
  exact bodyPost_ret (v := .agg #[.bool (p && decide (0 < n5)), .slice A5 n5 c5]) (by simp [results, Tryz.results82, go_sem, s0, s1]) rfl ⟨.slice A5 n5 c5, by rw [← Hn5.out], Fin.out.1, Fin.out.2⟩

set_option maxHeartbeats 400000 in
set_option maxRecDepth 100000 in
theorem plusRZ_small (x y : Nat) (p q : Bool) (u v : Value) (w : World) (hpq : (p == q) = false) (hx : Wd w u (dig x)) (hy : Wd w v (dig y)) (lx : (dig y).length ≤ 1000000) (hxy : x < y) :
    Calls Tryz.prog 82 #[.agg #[.bool p, u], .agg #[.bool q, v]] w fun e w' => ∃ r, e = .returned (.agg #[.bool (q && decide (0 < (dig (y - x)).length)), r]) ∧ Wd w' r (dig (y - x)) ∧ Below w.heap.size w w' := by
  have Hx := Lib.hid hx
  have Hy := Lib.hid hy
  obtain ⟨A, n, c, rfl⟩ := hx.slice_
  obtain ⟨A', n', c', rfl⟩ := hy.slice_
  clear hx hy
  go_enter Tryz.func82, Tryz.ntmps82
  go_wp2_with fail
  have hb3 := below3 w (Obj.cells #[.bool p, .slice A n c] 55) (Obj.cells #[.bool q, .slice A' n' c'] 55) (Obj.cells #[.bool false, .slice none 0 0] 55)
  have Hx3 := Lib.hid (Hx.out.below hb3)
  have Hy3 := Lib.hid (Hy.out.below hb3)
  have hcm : cmpN x y = -1 := cmpN_lt hxy
  refine (orderR_any x y _ _ _ Hx3.out Hy3.out).mono ?_
  rintro e w2 ⟨rfl, nq, rfl⟩
  rw [hcm]
  clear hcm
  go_wp2_with fail
  have f1 : ((((w.alloc (Obj.cells #[.bool p, .slice A n c] 55)).alloc (Obj.cells #[.bool q, .slice A' n' c'] 55)).alloc (Obj.cells #[.bool false, .slice none 0 0] 55)).drewN nq).cell? ⟨w.heap.size + 1, 0, none⟩ = some (.bool q) := old2 0
  have f2 : ((((w.alloc (Obj.cells #[.bool p, .slice A n c] 55)).alloc (Obj.cells #[.bool q, .slice A' n' c'] 55)).alloc (Obj.cells #[.bool false, .slice none 0 0] 55)).drewN nq).cell? ⟨w.heap.size + 1, 1, none⟩ = some (.slice A' n' c') := old2 1
  have f3 : ((((w.alloc (Obj.cells #[.bool p, .slice A n c] 55)).alloc (Obj.cells #[.bool q, .slice A' n' c'] 55)).alloc (Obj.cells #[.bool false, .slice none 0 0] 55)).drewN nq).cell? ⟨w.heap.size, 1, none⟩ = some (.slice A n c) := old1 1
  have HRx : RB ((((w.alloc (Obj.cells #[.bool p, .slice A n c] 55)).alloc (Obj.cells #[.bool q, .slice A' n' c'] 55)).alloc (Obj.cells #[.bool false, .slice none 0 0] 55)).drewN nq) (w.heap.size + 1 + 1) := RB.a3 w false none 0 0 55 _ _
  have hx4 : Wd ((((w.alloc (Obj.cells #[.bool p, .slice A n c] 55)).alloc (Obj.cells #[.bool q, .slice A' n' c'] 55)).alloc (Obj.cells #[.bool false, .slice none 0 0] 55)).drewN nq) (.slice A n c) (dig x) := Hx3.out
  have hy4 : Wd ((((w.alloc (Obj.cells #[.bool p, .slice A n c] 55)).alloc (Obj.cells #[.bool q, .slice A' n' c'] 55)).alloc (Obj.cells #[.bool false, .slice none 0 0] 55)).drewN nq) (.slice A' n' c') (dig y) := Hy3.out
  have hb4 : Below w.heap.size w ((((w.alloc (Obj.cells #[.bool p, .slice A n c] 55)).alloc (Obj.cells #[.bool q, .slice A' n' c'] 55)).alloc (Obj.cells #[.bool false, .slice none 0 0] 55)).drewN nq) := Below.toDrewN hb3 nq
  have z0 : w.heap.size + 1 + 1 + 1 ≤ ((((w.alloc (Obj.cells #[.bool p, .slice A n c] 55)).alloc (Obj.cells #[.bool q, .slice A' n' c'] 55)).alloc (Obj.cells #[.bool false, .slice none 0 0] 55)).drewN nq).heap.size := by simp [World.drewN]
  clear Hx3 Hy3 hb3 Hx Hy
  generalize ((((w.alloc (Obj.cells #[.bool p, .slice A n c] 55)).alloc (Obj.cells #[.bool q, .slice A' n' c'] 55)).alloc (Obj.cells #[.bool false, .slice none 0 0] 55)).drewN nq) = W3 at *
  have Hx3 := Lib.hid hx4; clear hx4
  have Hy3 := Lib.hid hy4; clear hy4
  have Hb3 := Lib.hid hb4; clear hb4
  have HR := Lib.hid HRx; clear HRx
  go_region_held3 (fun w' => w'.cell? ⟨w.heap.size + 1, 0, none⟩ = some (.bool q) ∧ w'.cell? ⟨w.heap.size + 1, 1, none⟩ = some (.slice A' n' c') ∧ w'.cell? ⟨w.heap.size, 1, none⟩ = some (.slice A n c))
    (first | exact ⟨f1, f2, f3⟩ | (go_split_ands; exact ⟨(far2 (by omega)).trans (by assumption), (far2 (by omega)).trans (by assumption), (far2 (by omega)).trans (by assumption)⟩) | (go_split_ands; exact ⟨keepAt hb1 (by simp <;> omega) (by assumption), keepAt hb1 (by simp <;> omega) (by assumption), keepAt hb1 (by simp <;> omega) (by assumption)⟩) | (go_split_ands; exact ⟨keepAt hb2 (by omega) (by assumption), keepAt hb2 (by omega) (by assumption), keepAt hb2 (by omega) (by assumption)⟩))
    (first | (go_at_call 67; refine (asSlice (lessR_any y x _ _ _ (by exact Hy3.out) (by exact Hx3.out) lx (Nat.le_of_lt hxy))).mono ?_; rintro e w1 ⟨A5, n5, c5, rfl, hr, hb1⟩; have z1 : w.heap.size + 1 + 1 + 1 ≤ w1.heap.size := (by have h := (hb1).size; have h0 := z0; simp at h h0; omega); have hl5 := hr.len_le; have hR1 := HR.out.below (undrew hb1) (by simp <;> omega)) | (go_at_call 55; refine (signedR_any q A5 n5 c5 _ hl5).mono ?_; rintro e w2 ⟨rfl, hb2⟩; have z2 := hb2.size; have hR := hR1.below hb2 (by omega); obtain ⟨a0, A0, n0, c0, k10, k11, k20, k21⟩ := hR.facts))
  have s0 := hR.set0 (q && decide (0 < n5)) (.slice A5 n5 c5)
  have s1 := hR.set1 (q && decide (0 < n5)) (.slice A5 n5 c5)
  have fin : Wd ((w2.setCell ⟨w.heap.size + 1 + 1, 0, none⟩ (.bool (q && decide (0 < n5)))).setCell ⟨w.heap.size + 1 + 1, 1, none⟩ (.slice A5 n5 c5)) (.slice A5 n5 c5) (dig (y - x)) ∧ Below w.heap.size w ((w2.setCell ⟨w.heap.size + 1 + 1, 0, none⟩ (.bool (q && decide (0 < n5)))).setCell ⟨w.heap.size + 1 + 1, 1, none⟩ (.slice A5 n5 c5)) :=
    ⟨(hr.below hb2).rb hR _ _, below_set2 ((Hb3.out.trans ((undrew hb1).mono (by simp <;> omega))).trans (hb2.mono (by omega))) (by omega) _ _⟩
  have Fin := Lib.hid fin; clear fin
  have hn5 := hr.len
  have Hn5 := Lib.hid hn5; clear hn5
  go_wp2
  exact bodyPost_ret (v := .agg #[.bool (q && decide (0 < n5)), .slice A5 n5 c5]) (by simp [results, Tryz.results82, go_sem, s0, s1]) rfl ⟨.slice A5 n5 c5, by rw [← Hn5.out], Fin.out.1, Fin.out.2⟩

/-- the sum of two whole numbers, in the reference -/
theorem plusRZ_any (x y : Int) (u v : Value) (w : World) (hx : ZV w u x) (hy : ZV w v y) (lx : (dig x.natAbs).length ≤ 1000000) (ly : (dig y.natAbs).length ≤ 1000000) :
    Calls Tryz.prog 82 #[u, v] w (RetZ w (x + y)) := by
  obtain ⟨u, rfl, hu⟩ := hx
  obtain ⟨v, rfl, hv⟩ := hy
  by_cases h : decide (x < 0) = decide (y < 0)
  · have hpq : (decide (x < 0) == decide (y < 0)) = true := by simpa using h
    refine (plusRZ_same _ _ _ _ u v w hpq hu hv lx ly).mono ?_
    rintro e w' ⟨r, rfl, hr, hb⟩
    have e2 : (x + y).natAbs = x.natAbs + y.natAbs := by simp at h; omega
    refine ⟨_, rfl, ⟨r, ?_, by rw [e2]; exact hr⟩, hb⟩
    congr 4
    rw [Bool.eq_iff_iff]
    simp only [Bool.and_eq_true, decide_eq_true_eq, dig_len_pos]
    simp at h; omega
  · have hpq : (decide (x < 0) == decide (y < 0)) = false := by simpa using h
    rcases Nat.lt_or_ge x.natAbs y.natAbs with hl | hl
    · refine (plusRZ_small _ _ _ _ u v w hpq hu hv ly hl).mono ?_
      rintro e w' ⟨r, rfl, hr, hb⟩
      have e2 : (x + y).natAbs = y.natAbs - x.natAbs := by simp at h; omega
      refine ⟨_, rfl, ⟨r, ?_, by rw [e2]; exact hr⟩, hb⟩
      congr 4
      rw [Bool.eq_iff_iff]
      simp only [Bool.and_eq_true, decide_eq_true_eq, dig_len_pos]
      simp at h; omega
    · refine (plusRZ_big _ _ _ _ u v w hpq hu hv lx hl).mono ?_
      rintro e w' ⟨r, rfl, hr, hb⟩
      have e2 : (x + y).natAbs = x.natAbs - y.natAbs := by simp at h; omega
      refine ⟨_, rfl, ⟨r, ?_, by rw [e2]; exact hr⟩, hb⟩
      congr 4
      rw [Bool.eq_iff_iff]
      simp only [Bool.and_eq_true, decide_eq_true_eq, dig_len_pos]
      simp at h; omega

end Go.Proofs.YtmlopkkbgpfdnaaGreatDoor
namespace Go.Proofs.YtmlopkkbgpfdnaaGreatDoor
open Go.RowKit

set_option maxHeartbeats 400000 in
set_option maxRecDepth 100000 in
/-- ref Less -/
theorem lessRZ_any (x y : Int) (u v : Value) (w : World) (hx : ZV w u x) (hy : ZV w v y) (lx : (dig x.natAbs).length ≤ 1000000) (ly : (dig y.natAbs).length ≤ 1000000) :
    Calls Tryz.prog 54 #[u, v] w (RetZ w (x - y)) := by
  obtain ⟨A, n, c, rfl, -, -, -⟩ := hx.open_
  obtain ⟨A', n', c', rfl, -, -, -⟩ := hy.open_
  obtain ⟨p, hp⟩ : ∃ p, p = decide (x < 0) := ⟨_, rfl⟩
  obtain ⟨q, hq⟩ : ∃ q, q = decide (y < 0) := ⟨_, rfl⟩
  rw [← hp] at hx ⊢
  rw [← hq] at hy ⊢
  clear hp hq
  have Hx := Lib.hid hx; clear hx
  have Hy := Lib.hid hy; clear hy
  go_enter Tryz.func54, Tryz.ntmps54
  go_wp2_with fail
  have hb3 := below3 w (Obj.cells #[.bool p, .slice A n c] 55) (Obj.cells #[.bool q, .slice A' n' c'] 55) (Obj.cells #[.bool false, .slice none 0 0] 55)
  have Hx3 := Lib.hid (Hx.out.below hb3)
  have Hy3 := Lib.hid (Hy.out.below hb3)
  have Hb3 := Lib.hid hb3; clear hb3
  have HR := Lib.hid (RB.a3 w false none 0 0 55 (Obj.cells #[.bool p, .slice A n c] 55) (Obj.cells #[.bool q, .slice A' n' c'] 55))
  go_region_held3 (fun w' => w'.cell? ⟨w.heap.size, 0, none⟩ = some (.bool p) ∧ w'.cell? ⟨w.heap.size, 1, none⟩ = some (.slice A n c) ∧ w'.cell? ⟨w.heap.size + 1, 0, none⟩ = some (.bool q) ∧ w'.cell? ⟨w.heap.size + 1, 1, none⟩ = some (.slice A' n' c'))
    (first | exact ⟨old1 0, old1 1, old2 0, old2 1⟩ | (go_split_ands; exact ⟨(far2 (by omega)).trans (by assumption), (far2 (by omega)).trans (by assumption), (far2 (by omega)).trans (by assumption), (far2 (by omega)).trans (by assumption)⟩) | (go_split_ands; exact ⟨keepAt hb1 (by simp <;> omega) (by assumption), keepAt hb1 (by simp <;> omega) (by assumption), keepAt hb1 (by simp <;> omega) (by assumption), keepAt hb1 (by simp <;> omega) (by assumption)⟩) | (go_split_ands; exact ⟨keepAt hb2 (by omega) (by assumption), keepAt hb2 (by omega) (by assumption), keepAt hb2 (by omega) (by assumption), keepAt hb2 (by omega) (by assumption)⟩))
    (first | (go_at_call 52; refine (asAgg (minusR_any y _ _ (by exact Hy3.out))).mono ?_; rintro e w1 ⟨b4, A4, n4, c4, rfl, hr, hb1⟩; have z1 : w.heap.size + 1 + 1 + 1 ≤ w1.heap.size := (by have h := (undrew hb1).size; simp at h; omega); have hR1 := HR.out.below (undrew hb1) (by simp <;> omega); have hx1 := Hx3.out.below (undrew hb1)) | (go_at_call 82; refine (asAgg (plusRZ_any x (-y) _ _ _ hx1 hr lx (by rw [Int.natAbs_neg]; exact ly))).mono ?_; rintro e w2 ⟨b5, A5, n5, c5, rfl, hr5, hb2⟩; have z2 := hb2.size; have hR := hR1.below hb2 (by omega); obtain ⟨a0, A0, n0, c0, k10, k11, k20, k21⟩ := hR.facts))
  have s0 := hR.set0 b5 (.slice A5 n5 c5)
  have s1 := hR.set1 b5 (.slice A5 n5 c5)
  have fin := And.intro (hr5.rb hR (.bool b5) (.slice A5 n5 c5)) (below_set2 (g := w.heap.size + 1 + 1) (i := 0) (j := 1) ((Hb3.out.trans ((undrew hb1).mono (by simp <;> omega))).trans (hb2.mono (by omega))) (by omega) (.bool b5) (.slice A5 n5 c5))
  have Fin := Lib.hid fin; clear fin
  go_wp2
  exact bodyPost_ret (v := .agg #[.bool b5, .slice A5 n5 c5]) (by simp [results, Tryz.results54, go_sem, s0, s1]) rfl ⟨_, rfl, by rw [Int.sub_eq_add_neg]; exact Fin.out.1, Fin.out.2⟩

set_option maxRecDepth 100000 in
/-- ref Order -/
theorem orderRZ_any (x y : Int) (u v : Value) (w : World) (hx : ZV w u x) (hy : ZV w v y) (lx : (dig x.natAbs).length ≤ 1000000) (ly : (dig y.natAbs).length ≤ 1000000) :
    Calls Tryz.prog 31 #[u, v] w fun e w' => e = .returned (.int .i64 (x - y).sign) ∧ Below w.heap.size w w' := by
  obtain ⟨A, n, c, rfl, -, -, -⟩ := hx.open_
  obtain ⟨A', n', c', rfl, -, -, -⟩ := hy.open_
  obtain ⟨p, hp⟩ : ∃ p, p = decide (x < 0) := ⟨_, rfl⟩
  obtain ⟨q, hq⟩ : ∃ q, q = decide (y < 0) := ⟨_, rfl⟩
  rw [← hp] at hx ⊢
  rw [← hq] at hy ⊢
  clear hp hq
  have Hx := Lib.hid hx; clear hx
  have Hy := Lib.hid hy; clear hy
  go_enter Tryz.func31, Tryz.ntmps31
  go_wp2_with fail
  have hb2 := below2 w (Obj.cells #[.bool p, .slice A n c] 55) (Obj.cells #[.bool q, .slice A' n' c'] 55)
  refine (asAgg (lessRZ_any x y _ _ _ (Hx.out.below hb2) (Hy.out.below hb2) lx ly)).mono ?_
  rintro e w1 ⟨b4, A4, n4, c4, rfl, hr, hb1⟩
  have hb := hb2.trans (hb1.mono (by simp; omega))
  clear hb1 hb2
  have Hr := Lib.hid hr; clear hr
  have Hb := Lib.hid hb; clear hb
  go_wp2_with fail
  refine (signR_any (x - y) _ _ Hr.out).mono ?_
  rintro e w2 ⟨rfl, hb2⟩
  have hb := Hb.out.trans (hb2.mono Hb.out.size)
  obtain ⟨sg, hsg⟩ : ∃ sg, sg = (x - y).sign := ⟨_, rfl⟩
  rw [← hsg]
  have Hsg := Lib.hid hsg; clear hsg
  go_wp2
  go_ret
  exact ⟨by rw [← Hsg.out]; rfl, hb⟩

end Go.Proofs.YtmlopkkbgpfdnaaGreatDoor
namespace Go.Proofs.YtmlopkkbgpfdnaaGreatDoor
open Go.RowKit

set_option maxHeartbeats 400000 in
set_option maxRecDepth 100000 in
/-- ref Valid -/
theorem validR_any (neg : Bool) (A : Option Addr) (n c : Nat) (l : List Nat) (w : World) (hv : Wd w (.slice A n c) l) :
    Calls Tryz.prog 23 #[.agg #[.bool neg, .slice A n c]] w fun e w' => e = .returned (.bool (vld neg l)) ∧ Below w.heap.size w w' := by
  have hb := below1 w (Obj.cells #[.bool neg, .slice A n c] 24)
  have Hb := Lib.hid hb; clear hb
  have hn := hv.len
  have hl := hv.len_le
  obtain ⟨A', c', he, -, -, hok, hcells⟩ := hv
  injection he with e1 e2 e3
  subst e1 e3
  rw [← e2] at hcells
  clear e2
  by_cases h0 : n = 0
  · subst h0
    have hr : vld neg l = !neg := by unfold vld; rw [if_pos hn.symm]
    have Hr := Lib.hid hr; clear hr hcells hn
    cases neg
    · go_enter Tryz.func23, Tryz.ntmps23
      go_wp2
      go_ret
      exact ⟨by rw [Hr.out]; rfl, Hb.out⟩
    · go_enter Tryz.func23, Tryz.ntmps23
      go_wp2
      go_ret
      exact ⟨by rw [Hr.out]; rfl, Hb.out⟩
  · obtain ⟨b, off, rfl, hbl, hc⟩ := hcells (by omega)
    have h1 := hc (n - 1) (by omega)
    obtain ⟨x, hx⟩ : ∃ x, x = l.getD (n - 1) 0 := ⟨_, rfl⟩
    rw [← hx] at h1
    have h1' : (w.alloc (Obj.cells #[.bool neg, .slice (some ⟨b, off, none⟩) n c] 24)).cell? ⟨b, off + (n - 1), none⟩ = some (.int .u32 x) := by rw [World.cell?_alloc_past _ _ _ hbl]; exact h1
    have hr : vld neg l = (decide (n ≤ 256) && !decide (x = 0)) := by unfold vld; rw [if_neg (by omega), ← hn, ← hx]
    have Hr := Lib.hid hr; clear hr hcells hc hx hn
    have hp : decide ((0 : Int) < (n : Int)) = true := by simp; omega
    have hpn : decide (0 < n) = true := by simp; omega
    have he0 : ((n : Int) == 0) = false := by simp; omega
    by_cases h2 : n ≤ 256
    · have h2b : decide ((n : Int) ≤ 256) = true := by simp; omega
      by_cases h3 : x = 0
      · subst h3
        go_enter Tryz.func23, Tryz.ntmps23
        go_wp2
        go_ret
        exact ⟨by rw [Hr.out]; simp [h2], Hb.out⟩
      · have h4 : ((x : Int) != 0) = true := by simp; omega
        go_enter Tryz.func23, Tryz.ntmps23
        go_wp2
        go_ret
        exact ⟨by rw [Hr.out]; simp [h2, h3], Hb.out⟩
    · have h4 : decide ((n : Int) ≤ 256) = false := by simp; omega
      go_enter Tryz.func23, Tryz.ntmps23
      go_wp2
      go_ret
      exact ⟨by rw [Hr.out]; simp [h2], Hb.out⟩

theorem same_iff {x y : Int} {p q : Bool} (hp : p = decide (x < 0)) (hq : q = decide (y < 0)) : x = y ↔ p = q ∧ x.natAbs = y.natAbs := by
  subst hp hq
  rw [decide_eq_decide]
  omega

set_option maxHeartbeats 400000 in
set_option maxRecDepth 100000 in
/-- ref Same, of numbers in their only form -/
theorem sameR_any (x y : Int) (a b : Value) (w : World) (ha : ZV w a x) (hb : ZV w b y) :
    Calls Tryz.prog 16 #[a, b] w fun e w' => e = .returned (.bool (decide (x = y))) ∧ Below w.heap.size w w' := by
  obtain ⟨A, n, c, rfl, hv, hn, hl⟩ := ha.open_
  obtain ⟨A', n', c', rfl, hv', hn', hl'⟩ := hb.open_
  obtain ⟨p, hp⟩ : ∃ p, p = decide (x < 0) := ⟨_, rfl⟩
  obtain ⟨q, hq⟩ : ∃ q, q = decide (y < 0) := ⟨_, rfl⟩
  rw [← hp, ← hq]
  have hs := same_iff hp hq
  have hb2 := below2 w (Obj.cells #[.bool p, .slice A n c] 24) (Obj.cells #[.bool q, .slice A' n' c'] 24)
  have Hv := Lib.hid (hv.below hb2)
  have Hv' := Lib.hid (hv'.below hb2)
  have Hb := Lib.hid hb2; clear hb2 ha hb hv hv' hp hq
  by_cases h1 : p = q
  · subst h1
    have hpp : (p == p) = true := by simp
    by_cases h2 : n = n'
    · subst h2
      have hnn : ((n : Int) == (n : Int)) = true := by simp
      have hr : decide (x = y) = (cmpN x.natAbs y.natAbs == 0) := by
        rw [Bool.eq_iff_iff]
        simp only [decide_eq_true_eq, beq_iff_eq, hs, true_and]
        constructor
        · intro h; exact cmpN_eq h
        · intro h
          rcases Nat.lt_trichotomy x.natAbs y.natAbs with h3 | h3 | h3
          · rw [cmpN_lt h3] at h; omega
          · exact h3
          · rw [cmpN_gt h3] at h; omega
      rw [hr]
      clear hr hs hn hn'
      obtain ⟨cm, hcm⟩ : ∃ cm, cm = cmpN x.natAbs y.natAbs := ⟨_, rfl⟩
      rw [← hcm]
      have Hcm := Lib.hid hcm; clear hcm
      go_enter Tryz.func16, Tryz.ntmps16
      go_wp2_with fail
      refine (orderR_any x.natAbs y.natAbs _ _ _ Hv.out Hv'.out).mono ?_
      rintro e w2 ⟨rfl, nq, rfl⟩
      rw [← Hcm.out]
      go_wp2
      go_ret
      exact ⟨rfl, Below.toDrewN Hb.out nq⟩
    · have hnn : ((n : Int) == (n' : Int)) = false := by simp; omega
      have hr : decide (x = y) = false := by
        rw [decide_eq_false_iff_not]; intro e; subst e; exact h2 (by rw [hn, hn'])
      rw [hr]
      clear hr hs hn hn'
      go_enter Tryz.func16, Tryz.ntmps16
      go_wp2
      go_ret
      exact ⟨rfl, Hb.out⟩
  · have hpq : (p == q) = false := by simpa using h1
    have hr : decide (x = y) = false := by
      rw [decide_eq_false_iff_not]; intro e; exact h1 (hs.1 e).1
    rw [hr]
    clear hr hs h1 hn hn'
    go_enter Tryz.func16, Tryz.ntmps16
    go_wp2
    go_ret
    exact ⟨rfl, Hb.out⟩

end Go.Proofs.YtmlopkkbgpfdnaaGreatDoor
namespace Go.Proofs.YtmlopkkbgpfdnaaGreatDoor
open Go.RowKit

theorem whole_neg (n : Int) (h1 : n < 0) (h2 : -9223372036854775808 ≤ n) : IntKind.u64.wrap (IntKind.u64.wrap (-(n + 1)) + 1) = (n.natAbs : Int) := by
  rw [IntKind.wrap_u64, IntKind.wrap_u64]; omega

set_option maxRecDepth 100000 in
/-- ref Whole -/
theorem wholeR_any (n : Int) (w : World) (h1 : -9223372036854775808 ≤ n) (h2 : n ≤ 9223372036854775807) : Calls Tryz.prog 33 #[.int .i64 n] w (RetZ w n) := by
  have hw : n.natAbs < 18446744073709551616 := by omega
  by_cases h : n < 0
  · have Hn := Lib.hid (show (n.natAbs : Int) = -(n + 1) + 1 by omega)
    go_enter Tryz.func33, Tryz.ntmps33
    go_wp2_with fail
    have hb0 := below1 w (Obj.cells #[.bool false, .slice none 0 0] 55)
    refine (asSlice (by have := naturalR_any n.natAbs hw (w.alloc (Obj.cells #[.bool false, .slice none 0 0] 55)); rwa [Hn.out] at this)).mono ?_
    rintro e w1 ⟨A5, n5, c5, rfl, hr, hb1⟩
    have hR := (RB.c1 w false none 0 0 55).below hb1 (by simp)
    obtain ⟨a0, A0, n0, c0, k10, k11, k20, k21⟩ := hR.facts
    have s0 := hR.set0 true (.slice A5 n5 c5)
    have s1 := hR.set1 true (.slice A5 n5 c5)
    have fin := And.intro (hr.rb hR (.bool true) (.slice A5 n5 c5)) (below_set2 (g := w.heap.size) (i := 0) (j := 1) (hb0.trans (hb1.mono (by simp))) (Nat.le_refl _) (.bool true) (.slice A5 n5 c5))
    have Fin := Lib.hid fin; clear fin hb1 hb0 hR
    go_wp2
    exact bodyPost_ret (v := .agg #[.bool true, .slice A5 n5 c5]) (by simp [results, Tryz.results33, go_sem, s0, s1]) rfl ⟨_, rfl, ZV.mk (by simp; omega) Fin.out.1, Fin.out.2⟩
  · have h0 : 0 ≤ n := by omega
    have Hn := Lib.hid (show (n.natAbs : Int) = n by omega)
    go_enter Tryz.func33, Tryz.ntmps33
    go_wp2_with fail
    have hb0 := below1 w (Obj.cells #[.bool false, .slice none 0 0] 55)
    refine (asSlice (by have := naturalR_any n.natAbs hw (w.alloc (Obj.cells #[.bool false, .slice none 0 0] 55)); rwa [Hn.out] at this)).mono ?_
    rintro e w1 ⟨A5, n5, c5, rfl, hr, hb1⟩
    have hR := (RB.c1 w false none 0 0 55).below hb1 (by simp)
    obtain ⟨a0, A0, n0, c0, k10, k11, k20, k21⟩ := hR.facts
    have s0 := hR.set0 false (.slice A5 n5 c5)
    have s1 := hR.set1 false (.slice A5 n5 c5)
    have fin := And.intro (hr.rb hR (.bool false) (.slice A5 n5 c5)) (below_set2 (g := w.heap.size) (i := 0) (j := 1) (hb0.trans (hb1.mono (by simp))) (Nat.le_refl _) (.bool false) (.slice A5 n5 c5))
    have Fin := Lib.hid fin; clear fin hb1 hb0 hR
    go_wp2
    exact bodyPost_ret (v := .agg #[.bool false, .slice A5 n5 c5]) (by simp [results, Tryz.results33, go_sem, s0, s1]) rfl ⟨_, rfl, ZV.mk (by simp; omega) Fin.out.1, Fin.out.2⟩
end Go.Proofs.YtmlopkkbgpfdnaaGreatDoor
