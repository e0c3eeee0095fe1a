/- Walks of the reference: half. · The reference's divisor and inverse, as mathematics. · Walks: the reference's naturals: plus. · Walks of the reference: divisor. · Walks of the reference: Common. -/
import Derived.Test.YtmlopkkbgpfdnaaGreatDoorM13
import Derived.Test.YtmlopkkbgpfdnaaGreatDoorM4
import Derived.Test.YtmlopkkbgpfdnaaGreatDoorM2
import Derived.RegionTactic
import Derived.ChangeAlike
import Derived.Test.YtmlopkkbgpfdnaaGreatDoorM8
import Derived.Test.YtmlopkkbgpfdnaaGreatDoorM10
namespace Go.Proofs.YtmlopkkbgpfdnaaGreatDoor
open Go.RowKit

set_option maxHeartbeats 800000 in
set_option maxRecDepth 100000 in
/-- half -/
theorem half_any (x : Nat) (u : Value) (w : World) (hx : Wd w u (dig x)) (lx : (dig x).length ≤ 1000000) :
    Calls Tryz.prog 83 #[u] w fun e w' => ∃ r, e = .returned r ∧ Wd w' r (dig (x / 2)) ∧ Below w.heap.size w w' := by
  have Hx := Lib.hid hx
  obtain ⟨A, c, rfl, -, -⟩ := hx.shape
  obtain ⟨n, hn⟩ : ∃ n, n = (dig x).length := ⟨_, rfl⟩
  rw [← hn] at lx Hx ⊢
  have Hn := Lib.hid hn; clear hn hx
  have hmk : ∀ w, (Instr.makeSlice 53 (.int .i64 (n : Int)) (.int .i64 (n : Int))).run Tryz.prog w = .ok (.slice (some ⟨w.heap.size, 0, none⟩) n n) (w.alloc (.cells (U32s (zeros n)) 66)) := fun w => make_u32 53 Tryz.underlying53 n (by omega) w
  go_enter Tryz.func83, Tryz.ntmps83
  go_wp2_with fail
  go_loopw [10] (fun i wr => ∃ (k : Nat) (L : List Nat), i = .int .i64 k ∧ k ≤ n ∧ L.length = n ∧ Ok L ∧ Blk wr w.heap.size L ∧ Below w.heap.size w wr ∧
      ∀ j, j < k → L.getD j 0 = dg (x / 2) j) (fun i _ => n - (intOf i).toNat)
  case atStart => exact ⟨0, zeros n, rfl, Nat.zero_le _, zeros_length _, zeros_ok _, heap_alloc_new w _, below_alloc _ _, fun j h => absurd h (by omega)⟩
  case round =>
    obtain ⟨k, L, rfl, hk, hL, hok, hblk, hbel, hval⟩ := hrel
    have HV := Lib.hid hval; clear hval
    have HL := Lib.hid hL; clear hL
    have HX := Lib.hid (Hx.out.below hbel)
    by_cases hlt : k < n
    · obtain ⟨v, hv⟩ : ∃ v, v = dg (x / 2) k := ⟨_, rfl⟩
      have Hv := Lib.hid hv
      have hvl : v < 4294967296 := by rw [hv]; exact dg_lt _ _
      obtain ⟨p, hp⟩ : ∃ p, p = dg x k := ⟨_, rfl⟩
      obtain ⟨q, hq⟩ : ∃ q, q = dg x (k + 1) := ⟨_, rfl⟩
      have hpl : p < 4294967296 := by rw [hp]; exact dg_lt _ _
      have hql : q < 4294967296 := by rw [hq]; exact dg_lt _ _
      have hor := or_down (s := 1) (q := q) hpl (by omega)
      rw [down_word (s := 1) hp hq (by omega), Nat.pow_one, ← hv] at hor
      have Hor := Lib.hid hor
      have hfr := hblk.frozen k
      have hce := hblk.cell (i := k) (by rw [HL.out]; omega)
      have hB := Lib.hid hblk; clear hblk
      obtain ⟨b, off, rfl, hb, hc⟩ := Wd.cell (k := k) Hx.out hlt
      have hxk := keepAt hbel hb (hc k hlt)
      rw [← hp] at hxk
      have e2 : p / 2 < 4294967296 := by omega
      have hp2 : (p : Int) / 2 = ((p / 2 : Nat) : Int) := by omega
      have hp3 : p / 2 + q * 2147483648 % 4294967296 = v := by rw [hv]; exact down_word (s := 1) hp hq (by omega)
      by_cases hlt2 : k + 1 < n
      · have hxk2 := keepAt hbel hb (hc (k + 1) hlt2)
        rw [← hq] at hxk2
        have ho : bits BinOp.or IntKind.u32 ((p : Int) / 2) ((q : Int) * 2147483648 % 4294967296) = (v : Int) := hor
        have Ho := Lib.hid ho
        have hB1 := hB.out.set_ k (p / 2)
        have hok1 := hok.set (i := k) e2
        obtain ⟨W1, hW1⟩ : ∃ W1, W1 = wr.setCell ⟨w.heap.size, k, none⟩ (.int .u32 ((p / 2 : Nat) : Int)) := ⟨_, rfl⟩
        have g2 : W1.cell? ⟨b, off + (k + 1), none⟩ = some (.int .u32 (q : Int)) := by
          rw [hW1, World.cell?_setCell_other _ _ _ _ (by intro e; injection e with e1; omega)]; exact hxk2
        have hbel1 : Below w.heap.size w W1 := by rw [hW1]; exact hbel.setCell (Nat.le_refl _) _
        rw [← hW1] at hB1
        have g1 := hB1.cell (i := k) (by rw [List.length_set, HL.out]; omega)
        rw [getD_set_self (by rw [HL.out]; exact hlt)] at g1
        have g3 := hB1.frozen k
        have HW1 := Lib.hid hW1; have HB1 := Lib.hid hB1
        have HP2 := Lib.hid hp2
        clear hc hor hp hq hv ho hW1 hB1 hp2 hp3
        go_wp2_with fail
        rw [HP2.out, ← HW1.out]
        have i1 : IntKind.i64.wrap ((k : Int) + 1) = ((k : Int) + 1) := IntWalk.i64_in _ (by omega)
        go_region
        all_goals go_wp2
        all_goals rw [Ho.out]
        all_goals
          go_roundw
          case rel => exact ⟨k + 1, (L.set k (p / 2)).set k v, by go_num, by omega, by rw [List.length_set, List.length_set, HL.out], hok1.set hvl, (HB1.out.set_ k v).drew, (hbel1.setCell (Nat.le_refl _) _).drew, by rw [List.set_set]; exact set_words (by rw [HL.out]; omega) HV.out Hv.out⟩
          case measure => simp [intOf]; omega
      · have hq0 : q = 0 := by rw [hq]; exact dg_zero (by rw [← Hn.out]; omega)
        have hpv : p / 2 = v := by rw [← hp3, hq0]; omega
        rw [hpv] at hp2
        have hbel1 : Below w.heap.size w (wr.setCell ⟨w.heap.size, k, none⟩ (.int .u32 (v : Int))) := hbel.setCell (Nat.le_refl _) _
        have HP2 := Lib.hid hp2
        clear hc hor hp hq hv hp2 hp3 hq0 hpv
        go_wp2_with fail
        all_goals rw [HP2.out]
        all_goals
          go_roundw
          case rel => exact ⟨k + 1, L.set k v, by go_num, by omega, by rw [List.length_set, HL.out], hok.set hvl, hB.out.set_ k v, hbel1, set_words (by rw [HL.out]; omega) HV.out Hv.out⟩
          case measure => simp [intOf]; omega
    · have hkn : k = n := by omega
      subst hkn
      have hv : val L = x / 2 := val_of_dgs (fun j hj => HV.out j (by rw [← HL.out]; exact hj)) (by rw [HL.out]; exact Nat.lt_of_le_of_lt (Nat.div_le_self _ _) (lt_of_dig_len (by rw [← Hn.out]; omega)))
      have hw2 := hblk.wd hok (by rw [HL.out]; omega) k (by rw [HL.out]; omega) (by omega)
      rw [HL.out] at hw2
      have Hv := Lib.hid hv; clear hv
      have Hw := Lib.hid hw2; clear hw2 hblk
      go_wp2_with fail
      refine (trimR_any _ _ _ Hw.out).mono ?_
      rintro e w' ⟨r, rfl, hr, rfl⟩
      rw [Hv.out] at hr
      go_wp2
      go_ret
      exact ⟨r, rfl, hr, hbel⟩
end Go.Proofs.YtmlopkkbgpfdnaaGreatDoor
namespace Go.Proofs.YtmlopkkbgpfdnaaGreatDoor

theorem gcd_half_left {a b : Nat} (ha : a % 2 = 0) (hb : b % 2 = 1) : Nat.gcd (a / 2) b = Nat.gcd a b := by
  have e : a = 2 * (a / 2) := by omega
  have hc : Nat.Coprime 2 b := by
    rw [Nat.coprime_iff_gcd_eq_one, Nat.gcd_rec, hb]; rfl
  conv => rhs; rw [e]
  exact (Nat.Coprime.gcd_mul_left_cancel (a / 2) hc).symm
theorem gcd_half_right {a b : Nat} (ha : a % 2 = 1) (hb : b % 2 = 0) : Nat.gcd a (b / 2) = Nat.gcd a b := by
  rw [Nat.gcd_comm, gcd_half_left hb ha, Nat.gcd_comm]
theorem gcd_half_both {a b : Nat} (ha : a % 2 = 0) (hb : b % 2 = 0) : Nat.gcd a b = 2 * Nat.gcd (a / 2) (b / 2) := by
  have e : a = 2 * (a / 2) := by omega
  have f : b = 2 * (b / 2) := by omega
  conv => lhs; rw [e, f]
  exact Nat.gcd_mul_left 2 _ _
theorem gcd_less {a b : Nat} (h : b ≤ a) : Nat.gcd (a - b) b = Nat.gcd a b := Nat.gcd_sub_self_left h
theorem gcd_emod' (p m : Int) : Int.gcd (p % m) m = Int.gcd p m := by
  have e := Int.emod_add_mul_ediv p m
  refine Nat.dvd_antisymm (gcd_le_dvd fun n h1 h2 => ⟨?_, h2⟩) (gcd_le_dvd fun n h1 h2 => ⟨?_, h2⟩)
  · rw [← e]; exact Int.dvd_add h1 (Int.dvd_mul_of_dvd_left h2)
  · have : p % m = p - m * (p / m) := by omega
    rw [this]; exact Int.dvd_sub h1 (Int.dvd_mul_of_dvd_left h2)
/-- the inverse -/
theorem inv_end {p m g u v : Int} (hm : 0 < m) (hc : Int.gcd p m = 1) (h : Ex (p % m) m g 0 u v) : 0 ≤ u % m ∧ u % m < m ∧ m ∣ 1 - p * (u % m) := by
  have hg : g = 1 := by
    have h1 := h.gcd
    rw [Int.gcd_zero_right, gcd_emod' p m, hc] at h1
    have h0 := h.g0
    omega
  obtain ⟨k, hk⟩ := h.gu
  refine ⟨Int.emod_nonneg _ (by omega), Int.emod_lt_of_pos _ hm, ?_⟩
  have d1 := Int.emod_add_mul_ediv p m
  have d2 := Int.emod_add_mul_ediv u m
  have e1 : p % m = p - m * (p / m) := by omega
  have e2 : u % m = u - m * (u / m) := by omega
  rw [hg, e1] at hk
  refine ⟨k - u * (p / m) + p * (u / m), ?_⟩
  rw [e2]; grind
theorem ext_ref {a b g m x : Int} (hb : b ≠ 0) (hg : g = (Int.gcd a b : Int)) (hm : m = (b.natAbs : Int) / g) (h0 : 0 ≤ x) (h1 : x < m) (hd : m ∣ 1 - a / g * x) : IsExt a b g x ((g - a * x) / b) := by
  have hgp : 0 < Int.gcd a b := Int.gcd_pos_iff.2 (.inr hb)
  have hg0 : g ≠ 0 := by omega
  have da : g ∣ a := by rw [hg]; exact Int.gcd_dvd_left ..
  have db : g ∣ b := by rw [hg]; exact Int.gcd_dvd_right ..
  obtain ⟨a', ha⟩ := da
  obtain ⟨b', hb'⟩ := db
  have hbq : b / g = b' := by rw [hb']; exact Int.mul_ediv_cancel_left b' hg0
  have haq : a / g = a' := by rw [ha]; exact Int.mul_ediv_cancel_left a' hg0
  have hma : m = (b'.natAbs : Int) := by
    rw [hm, hb', Int.natAbs_mul]
    have : ((g.natAbs * b'.natAbs : Nat) : Int) = g * (b'.natAbs : Int) := by
      rw [Int.natCast_mul]
      have : (g.natAbs : Int) = g := by omega
      rw [this]
    rw [this]; exact Int.mul_ediv_cancel_left _ hg0
  rw [haq] at hd
  have hd2 : b' ∣ 1 - a' * x := by rw [hma] at hd; exact Int.natAbs_dvd.1 hd
  have hdvd : b ∣ g - a * x := by
    obtain ⟨k, hk⟩ := hd2
    refine ⟨k, ?_⟩
    rw [ha, hb']; grind
  refine ⟨hg, h0, by rw [hbq]; omega, ?_⟩
  have := Int.mul_ediv_cancel' hdvd
  omega
theorem isExt_only {a b g x y g' x' y' : Int} (hb : b ≠ 0) (h : IsExt a b g x y) (k : IsExt a b g' x' y') : g = g' ∧ x = x' ∧ y = y' := by
  have hg : g = g' := h.is.trans k.is.symm
  subst hg
  have hx : x = x' := coef_only hb h.is ⟨h.x0, h.x1⟩ ⟨k.x0, k.x1⟩ ⟨y, by have := h.sum; omega⟩ ⟨y', by have := k.sum; omega⟩
  subst hx
  have h1 := h.sum; have k1 := k.sum
  have : b * y = b * y' := by omega
  exact ⟨rfl, rfl, Int.eq_of_mul_eq_mul_left hb this⟩
/-- the parts of a pair have no common divisor -/
theorem gcd_parts {a b g : Int} (hb : b ≠ 0) (hg : g = (Int.gcd a b : Int)) : Int.gcd (a / g) ((b.natAbs : Int) / g) = 1 := by
  have hgp : 0 < Int.gcd a b := Int.gcd_pos_iff.2 (.inr hb)
  have hg0 : g ≠ 0 := by omega
  have da : g ∣ a := by rw [hg]; exact Int.gcd_dvd_left ..
  have db : g ∣ b := by rw [hg]; exact Int.gcd_dvd_right ..
  obtain ⟨a', ha⟩ := da
  obtain ⟨b', hb'⟩ := db
  have haq : a / g = a' := by rw [ha]; exact Int.mul_ediv_cancel_left a' hg0
  have hma : (b.natAbs : Int) / g = (b'.natAbs : Int) := by
    rw [hb', Int.natAbs_mul]
    have : ((g.natAbs * b'.natAbs : Nat) : Int) = g * (b'.natAbs : Int) := by
      rw [Int.natCast_mul]
      have : (g.natAbs : Int) = g := by omega
      rw [this]
    rw [this]; exact Int.mul_ediv_cancel_left _ hg0
  rw [haq, hma]
  have := Int.gcd_mul_left g a' b'
  rw [← ha, ← hb'] at this
  have e : g.natAbs = Int.gcd a b := by omega
  rw [e] at this
  have h3 : Int.gcd a b * Int.gcd a' b' = Int.gcd a b * 1 := by omega
  have h4 := Nat.eq_of_mul_eq_mul_left hgp h3
  have e2 : Int.gcd a' (b'.natAbs : Int) = Int.gcd a' b' := by simp [Int.gcd]
  rw [e2]; exact h4
end Go.Proofs.YtmlopkkbgpfdnaaGreatDoor
namespace Go.Proofs.YtmlopkkbgpfdnaaGreatDoor
open Go.RowKit

theorem make_u32_cap (t : TypeId) (ht : Tryz.prog.underlying t = some (.slice 66)) (k : Nat) (hk : k ≤ 70368744177664) (w : World) :
    (Instr.makeSlice t (.int .i64 0) (.int .i64 (k : Int))).run Tryz.prog w = .ok (.slice (some ⟨w.heap.size, 0, none⟩) 0 k) (w.alloc (.cells (U32s (zeros k)) 66)) := by
  obtain ⟨i0, hi, hz0, hz1, hz2⟩ := info_parts info66
  have hr := run_make (P := Tryz.prog) w t 66 i0 _ ht hi hz0 .i64 .i64 0 k (by omega) (by omega) (by rw [hz2]; omega) (by omega)
  rw [hr, Int.toNat_natCast, hz1, Nat.mul_one, made_zeros]
  rfl

theorem step_own {w wr w1 : World} {v v' : Value} {ds : List Nat} {x : Nat} {o : Obj} (hbel : Below w.heap.size w wr) (hown : wr.ownsRow w.heap.size 66 1 v ds.length (ds.map uw))
    (hown' : w1.ownsRow w.heap.size 66 1 v' (ds.length + 1) (ds.map uw ++ [uw x])) (hgrow : (wr.alloc o).grownBy w1 v.ownBlock) :
    Below w.heap.size w w1 ∧ w1.ownsRow w.heap.size 66 1 v' (ds ++ [x]).length ((ds ++ [x]).map uw) :=
  ⟨(hbel.alloc hbel.size _).grown hgrow (by have := hbel.size; simp; omega) (fun k hk => (hown.lt k hk).1), by
    rw [List.length_append, List.map_append]; exact hown'⟩

set_option maxHeartbeats 1600000 in
set_option maxRecDepth 100000 in
/-- ref plus -/
theorem plusR_any (x y : Nat) (u v : Value) (w : World) (hx : Wd w u (dig x)) (hy : Wd w v (dig y)) (lx : (dig x).length ≤ 1000000) (ly : (dig y).length ≤ 1000000) :
    Calls Tryz.prog 66 #[u, v] w fun e w' => ∃ r, e = .returned r ∧ Wd w' r (dig (x + y)) ∧ Below w.heap.size w w' := by
  obtain ⟨i0, hi, hz0, hz1, hz2⟩ := info_parts info66
  obtain ⟨A, c, rfl, -, -⟩ := hx.shape
  obtain ⟨A', c', rfl, -, -⟩ := hy.shape
  obtain ⟨nx, hnx⟩ : ∃ n, n = (dig x).length := ⟨_, rfl⟩
  obtain ⟨ny, hny⟩ : ∃ n, n = (dig y).length := ⟨_, rfl⟩
  rw [← hnx] at lx hx ⊢
  rw [← hny] at ly hy ⊢
  have Hx := Lib.hid hx; clear hx
  have Hy := Lib.hid hy; clear hy
  have Hnx := Lib.hid hnx; clear hnx
  have Hny := Lib.hid hny; clear hny
  obtain ⟨n, hn, h1, h2, h3⟩ : ∃ n : Nat, max (nx : Int) (ny : Int) = (n : Int) ∧ nx ≤ n ∧ ny ≤ n ∧ n ≤ 1000000 := ⟨max nx ny, by omega, by omega, by omega, by omega⟩
  have hn' : n = nx ∨ n = ny := by omega
  have Hn' := Lib.hid hn'; clear hn'
  have hmk : ∀ w, (Instr.makeSlice 53 (.int .i64 0) (.int .i64 ((n : Int) + 1))).run Tryz.prog w = .ok (.slice (some ⟨w.heap.size, 0, none⟩) 0 (n + 1)) (w.alloc (.cells (U32s (zeros (n + 1))) 66)) := fun w => make_u32_cap 53 Tryz.underlying53 (n + 1) (by omega) w
  have hsz0 : (U32s (zeros (n + 1))).size = n + 1 := by simp [U32s, zeros]
  have Hsz0 := Lib.hid hsz0; clear hsz0
  go_enter Tryz.func66, Tryz.ntmps66
  go_wp2_with fail
  go_loopw [5, 6, 7] (fun ov cr i wr => ∃ (k cv : Nat) (ds : List Nat), i = .int .i64 k ∧ k ≤ n ∧ cr = .int .u64 cv ∧ cv ≤ 1 ∧ ds.length = k ∧ Ok ds ∧ wr.ownsRow w.heap.size 66 1 ov ds.length (ds.map uw) ∧ Below w.heap.size w wr ∧
      val ds + 4294967296 ^ k * cv = x % 4294967296 ^ k + y % 4294967296 ^ k) (fun _ _ i _ => n - (intOf i).toNat)
  case atStart => exact ⟨0, 0, [], rfl, Nat.zero_le _, rfl, by omega, rfl, Ok.nil, World.ownsRow_made w _ (n + 1) (Nat.le_refl _) (by unfold maxLen; omega) (by rw [Hsz0.out]; omega), below_alloc _ _, by simp [val, Nat.mod_one]⟩
  case round =>
    obtain ⟨k, cv, ds, rfl, hk, rfl, hcv, hL, hok, hown, hbel, hval⟩ := hrel
    have HV := Lib.hid hval; clear hval
    have hL1 : ds.length ≤ 1000000 := by omega
    have HL := Lib.hid hL; clear hL
    have HX := Lib.hid (Hx.out.below hbel)
    have HY := Lib.hid (Hy.out.below hbel)
    by_cases hlx : k < nx
    · by_cases hly : k < ny
      · have hpx : (k : Int) < (nx : Int) := by omega
        have hdx : decide ((k : Int) < (nx : Int)) = true := by simp; omega
        obtain ⟨bx, ox, rfl, -, hcx⟩ := Wd.cell (k := k) HX.out (by omega)
        have c1 := hcx k (by omega)
        clear hcx
        obtain ⟨p, hp⟩ : ∃ p, p = dg x k := ⟨_, rfl⟩
        have hpl : p < 4294967296 := by rw [hp]; exact dg_lt _ _
        rw [← hp] at c1
        have Hp := Lib.hid hp; clear hp
        have hpy : (k : Int) < (ny : Int) := by omega
        have hdy : decide ((k : Int) < (ny : Int)) = true := by simp; omega
        obtain ⟨by_, oy, rfl, -, hcy⟩ := Wd.cell (k := k) HY.out (by omega)
        have c2 := hcy k (by omega)
        clear hcy
        obtain ⟨q, hq⟩ : ∃ q, q = dg y k := ⟨_, rfl⟩
        have hql : q < 4294967296 := by rw [hq]; exact dg_lt _ _
        rw [← hq] at c2
        have Hq := Lib.hid hq; clear hq
        go_wp2_with (at_builtin; refine wpList_append_own _ rfl _ _ 53 rfl w.heap.size 66 i0 (.int .u32 0) 1 4 Tryz.underlying53 hi hz0 hz1 hz2 rfl (by decide) _ _ _ rfl (hown.alloc _) ⟨wr.heap.size, 0, none⟩ 1 1 [uw ((cv + p + q) % 4294967296)] rfl rfl ?c1 ?c2 ?c3 ?c4 ?c5 ?_)
        case c1 =>
          intro j u hj
          match j, hj with
          | 0, hj => simp at hj; subst hj; simp [Addr.add, uw]
        case c2 => intro u hu; simp at hu; subst hu; rfl
        case c3 => unfold maxLen; omega
        case c4 => omega
        case c5 => have := hbel.size; simp; omega
        intro v' w1 hown' hgrow _
        obtain ⟨hb1, ho1⟩ := step_own hbel hown hown' hgrow
        have Ho := Lib.hid ho1; clear ho1 hown' hgrow hown hbel
        go_wp2
        go_roundw
        case rel =>
          refine ⟨k + 1, (cv + p + q) / 4294967296, ds ++ [(cv + p + q) % 4294967296], by simp, by omega, by simp, by omega, by rw [List.length_append, HL.out]; rfl, hok.append (Ok.mk (by omega) Ok.nil), Ho.out, hb1, ?_⟩
          rw [val_append, HL.out]
          simp only [val, Nat.mul_zero, Nat.add_zero]
          exact add_round HV.out (by rw [← Hp.out, ← Hq.out]; omega)
        case measure => simp [intOf]; omega
      · have hpx : (k : Int) < (nx : Int) := by omega
        have hdx : decide ((k : Int) < (nx : Int)) = true := by simp; omega
        obtain ⟨bx, ox, rfl, -, hcx⟩ := Wd.cell (k := k) HX.out (by omega)
        have c1 := hcx k (by omega)
        clear hcx
        obtain ⟨p, hp⟩ : ∃ p, p = dg x k := ⟨_, rfl⟩
        have hpl : p < 4294967296 := by rw [hp]; exact dg_lt _ _
        rw [← hp] at c1
        have Hp := Lib.hid hp; clear hp
        have hpy : (ny : Int) ≤ (k : Int) := by omega
        have hdy : decide ((k : Int) < (ny : Int)) = false := by simp; omega
        obtain ⟨q, hq0⟩ : ∃ q, q = 0 := ⟨_, rfl⟩
        have hq : q = dg y k := by rw [hq0, dg_zero (by rw [← Hny.out]; omega)]
        have hql : q < 4294967296 := by omega
        have Hq := Lib.hid hq; clear hq
        have Hq0 := Lib.hid hq0; clear hq0
        go_wp2_with (at_builtin; refine wpList_append_own _ rfl _ _ 53 rfl w.heap.size 66 i0 (.int .u32 0) 1 4 Tryz.underlying53 hi hz0 hz1 hz2 rfl (by decide) _ _ _ rfl (hown.alloc _) ⟨wr.heap.size, 0, none⟩ 1 1 [uw ((cv + p) % 4294967296)] rfl rfl ?c1 ?c2 ?c3 ?c4 ?c5 ?_)
        case c1 =>
          intro j u hj
          match j, hj with
          | 0, hj => simp at hj; subst hj; simp [Addr.add, uw]
        case c2 => intro u hu; simp at hu; subst hu; rfl
        case c3 => unfold maxLen; omega
        case c4 => omega
        case c5 => have := hbel.size; simp; omega
        intro v' w1 hown' hgrow _
        obtain ⟨hb1, ho1⟩ := step_own hbel hown hown' hgrow
        have Ho := Lib.hid ho1; clear ho1 hown' hgrow hown hbel
        go_wp2
        go_roundw
        case rel =>
          refine ⟨k + 1, (cv + p) / 4294967296, ds ++ [(cv + p) % 4294967296], by simp, by omega, by simp, by omega, by rw [List.length_append, HL.out]; rfl, hok.append (Ok.mk (by omega) Ok.nil), Ho.out, hb1, ?_⟩
          rw [val_append, HL.out]
          simp only [val, Nat.mul_zero, Nat.add_zero]
          exact add_round HV.out (by rw [← Hp.out, ← Hq.out, Hq0.out]; omega)
        case measure => simp [intOf]; omega
    · by_cases hly : k < ny
      · have hpx : (nx : Int) ≤ (k : Int) := by omega
        have hdx : decide ((k : Int) < (nx : Int)) = false := by simp; omega
        obtain ⟨p, hp0⟩ : ∃ p, p = 0 := ⟨_, rfl⟩
        have hp : p = dg x k := by rw [hp0, dg_zero (by rw [← Hnx.out]; omega)]
        have hpl : p < 4294967296 := by omega
        have Hp := Lib.hid hp; clear hp
        have Hp0 := Lib.hid hp0; clear hp0
        have hpy : (k : Int) < (ny : Int) := by omega
        have hdy : decide ((k : Int) < (ny : Int)) = true := by simp; omega
        obtain ⟨by_, oy, rfl, -, hcy⟩ := Wd.cell (k := k) HY.out (by omega)
        have c2 := hcy k (by omega)
        clear hcy
        obtain ⟨q, hq⟩ : ∃ q, q = dg y k := ⟨_, rfl⟩
        have hql : q < 4294967296 := by rw [hq]; exact dg_lt _ _
        rw [← hq] at c2
        have Hq := Lib.hid hq; clear hq
        go_wp2_with (at_builtin; refine wpList_append_own _ rfl _ _ 53 rfl w.heap.size 66 i0 (.int .u32 0) 1 4 Tryz.underlying53 hi hz0 hz1 hz2 rfl (by decide) _ _ _ rfl (hown.alloc _) ⟨wr.heap.size, 0, none⟩ 1 1 [uw ((cv + q) % 4294967296)] rfl rfl ?c1 ?c2 ?c3 ?c4 ?c5 ?_)
        case c1 =>
          intro j u hj
          match j, hj with
          | 0, hj => simp at hj; subst hj; simp [Addr.add, uw]
        case c2 => intro u hu; simp at hu; subst hu; rfl
        case c3 => unfold maxLen; omega
        case c4 => omega
        case c5 => have := hbel.size; simp; omega
        intro v' w1 hown' hgrow _
        obtain ⟨hb1, ho1⟩ := step_own hbel hown hown' hgrow
        have Ho := Lib.hid ho1; clear ho1 hown' hgrow hown hbel
        go_wp2
        go_roundw
        case rel =>
          refine ⟨k + 1, (cv + q) / 4294967296, ds ++ [(cv + q) % 4294967296], by simp, by omega, by simp, by omega, by rw [List.length_append, HL.out]; rfl, hok.append (Ok.mk (by omega) Ok.nil), Ho.out, hb1, ?_⟩
          rw [val_append, HL.out]
          simp only [val, Nat.mul_zero, Nat.add_zero]
          exact add_round HV.out (by rw [← Hp.out, ← Hq.out, Hp0.out]; omega)
        case measure => simp [intOf]; omega
      · have hkn : k = n := by rcases Hn'.out with h | h <;> omega
        have hdx : decide ((k : Int) < (nx : Int)) = false := by simp; omega
        have hdy : decide ((k : Int) < (ny : Int)) = false := by simp; omega
        clear Hn' hn
        subst hkn
        go_wp2_with (at_builtin; refine wpList_append_own _ rfl _ _ 53 rfl w.heap.size 66 i0 (.int .u32 0) 1 4 Tryz.underlying53 hi hz0 hz1 hz2 rfl (by decide) _ _ _ rfl (hown.alloc _) ⟨wr.heap.size, 0, none⟩ 1 1 [uw (cv)] rfl rfl ?c1 ?c2 ?c3 ?c4 ?c5 ?_)
        case c1 =>
          intro j u hj
          match j, hj with
          | 0, hj => simp at hj; subst hj; simp [Addr.add, uw]
        case c2 => intro u hu; simp at hu; subst hu; rfl
        case c3 => unfold maxLen; omega
        case c4 => omega
        case c5 => have := hbel.size; simp; omega
        intro v' w1 hown' hgrow _
        obtain ⟨hb1, ho1⟩ := step_own hbel hown hown' hgrow
        have hw := Wd.of_own ho1 (hok.append (Ok.mk (by omega) Ok.nil))
        have hv : val (ds ++ [cv]) = x + y := by
          rw [val_append, HL.out]
          simp only [val, Nat.mul_zero, Nat.add_zero]
          rw [HV.out, mod_len (x := x) (by rw [← Hnx.out]; omega), mod_len (x := y) (by rw [← Hny.out]; omega)]
        have Hw := Lib.hid hw; clear hw hown' hgrow hown hbel ho1
        have Hv := Lib.hid hv; clear hv
        go_wp2_with fail
        refine (trimR_any _ _ _ Hw.out).mono ?_
        rintro e w' ⟨r, rfl, hr, rfl⟩
        rw [Hv.out] at hr
        go_wp2
        go_ret
        exact ⟨r, rfl, hr, hb1⟩
end Go.Proofs.YtmlopkkbgpfdnaaGreatDoor
namespace Go.Proofs.YtmlopkkbgpfdnaaGreatDoor
open Go.RowKit

theorem u32_and_one (x : Nat) (hx : x < 4294967296) : bits BinOp.and IntKind.u32 (x : Int) 1 = ((x % 2 : Nat) : Int) := by
  show IntKind.u32.wrap ((BitVec.ofInt 32 (x : Int) &&& BitVec.ofInt 32 ((1 : Nat) : Int)).toNat : Int) = _
  rw [BitVec.toNat_and, ofInt_u32 x (by omega), ofInt_u32 1 (by omega), Nat.and_one_is_mod]
  exact IntWalk.u32_in _ (by omega)
theorem dg_mod2 (x : Nat) : dg x 0 % 2 = x % 2 := by
  unfold dg
  rw [Nat.pow_zero, Nat.div_one]
  omega
/-- the parity that the loop looks at -/
theorem par_at {w : World} {v : Value} {x : Nat} (h : Wd w v (dig x)) (hx : 0 < x) : ∃ b off n c, v = .slice (some ⟨b, off, none⟩) n c ∧ 0 < n ∧ ∃ p : Nat, w.cell? ⟨b, off, none⟩ = some (.int .u32 (p : Int)) ∧ bits BinOp.and IntKind.u32 (p : Int) 1 = ((x % 2 : Nat) : Int) := by
  obtain ⟨A, n, c, rfl⟩ := h.slice_
  have hl := h.len
  have hn : 0 < n := by rw [hl]; exact dig_len_pos.2 hx
  obtain ⟨b, off, rfl, hb, hc⟩ := Wd.cell (k := 0) h (by omega)
  have h0 := hc 0 hn
  rw [Nat.add_zero] at h0
  exact ⟨b, off, n, c, rfl, hn, dg x 0, h0, by rw [u32_and_one _ (dg_lt _ _), dg_mod2]⟩
open Classical in
noncomputable def wdNum (W : World) (v : Value) : Nat := if h : ∃ n, Wd W v (dig n) then h.choose else 0
theorem wdNum_eq {W : World} {A : Option Addr} {n c x : Nat} (h : Wd W (.slice A n c) (dig x)) : wdNum W (.slice A n c) = x := by
  unfold wdNum
  rw [dif_pos ⟨x, h⟩]
  exact dig_inj ((Classical.choose_spec (p := fun n' => Wd W (.slice A n c) (dig n')) ⟨x, h⟩).uniq h)
/-- between the rounds -/
structure DI (w wr : World) (L G : Nat) (va vb : Value) (a b : Nat) : Prop where
  wa : Wd wr va (dig a)
  wb : Wd wr vb (dig b)
  b0 : 0 < b
  ax : (dig a).length ≤ L
  bY : (dig b).length ≤ L
  gcd : Nat.gcd a b = G
  odd : a % 2 = 1 ∨ b % 2 = 1
  ex : Ext w wr
set_option maxHeartbeats 800000 in
set_option maxRecDepth 100000 in
/-- divisor -/
theorem divisor_any (x y L : Nat) (u v : Value) (w : World) (hx : Wd w u (dig x)) (hy : Wd w v (dig y)) (lx : (dig x).length ≤ L) (ly : (dig y).length ≤ L) (hL : L ≤ 400000) :
    Calls Tryz.prog 56 #[u, v] w fun e w' => ∃ r, e = .returned r ∧ Wd w' r (dig (Nat.gcd x y)) ∧ Below w.heap.size w w' := by
  obtain ⟨A, n, c, rfl⟩ := hx.slice_
  obtain ⟨A', n', c', rfl⟩ := hy.slice_
  have en := hx.len; have en' := hy.len
  have pn : 0 < n ↔ 0 < x := by rw [en]; exact dig_len_pos
  have pn' : 0 < n' ↔ 0 < y := by rw [en']; exact dig_len_pos
  have Hx := Lib.hid hx; have Hy := Lib.hid hy; have HL := Lib.hid (And.intro lx ly)
  clear hx hy en en' lx ly
  by_cases hz : n = 0 ∨ n' = 0
  · have hg : Nat.gcd x y = x + y := by
      rcases hz with h | h
      · have : x = 0 := by omega
        subst this; simp
      · have : y = 0 := by omega
        subst this; simp
    have pl := plusR_any x y _ _ w Hx.out Hy.out (Nat.le_trans HL.out.1 (by omega)) (Nat.le_trans HL.out.2 (by omega))
    rw [← hg] at pl
    have PL := Lib.hid pl
    clear pl hg
    go_enter Tryz.func56, Tryz.ntmps56
    rcases Nat.eq_zero_or_pos n with hn0 | hn0
    · subst hn0
      go_wp2_with fail
      refine PL.out.mono ?_
      rintro e w1 ⟨r, rfl, hr, hb⟩
      go_wp2
      go_ret
      exact ⟨r, rfl, hr, hb⟩
    · have hn1 : n' = 0 := by omega
      subst hn1
      have hni : ¬ n = 0 := by omega
      go_wp2_with fail
      refine PL.out.mono ?_
      rintro e w1 ⟨r, rfl, hr, hb⟩
      go_wp2
      go_ret
      exact ⟨r, rfl, hr, hb⟩
  · have h1 : ¬ n = 0 := by omega
    have h2 : ¬ n' = 0 := by omega
    have hx0 : 0 < x := by omega
    have hy0 : 0 < y := by omega
    clear hz pn pn'
    have h1b : ((n : Int) == 0) = false := by simp; omega
    have h2b : ((n' : Int) == 0) = false := by simp; omega
    go_enter Tryz.func56, Tryz.ntmps56
    go_wp2_with fail
    go_loopw [0, 1, 5] (fun va vb sv wr => ∃ (A1 : Option Addr) (n1 c1 : Nat) (A2 : Option Addr) (n2 c2 a b s : Nat), va = .slice A1 n1 c1 ∧ vb = .slice A2 n2 c2 ∧ sv = .int .i64 s ∧ Hid (0 < a ∧ 0 < b ∧ x = 2 ^ s * a ∧ y = 2 ^ s * b ∧ Wd wr (.slice A1 n1 c1) (dig a) ∧ Wd wr (.slice A2 n2 c2) (dig b) ∧ Ext w wr)) (fun _ _ sv _ => x - (intOf sv).toNat)
    case atStart => exact ⟨_, _, _, _, _, _, x, y, 0, rfl, rfl, rfl, Lib.hid ⟨hx0, hy0, by rw [Nat.pow_zero, Nat.one_mul], by rw [Nat.pow_zero, Nat.one_mul], Hx.out, Hy.out, Ext.refl _⟩⟩
    case round =>
      obtain ⟨A1, n1, c1, A2, n2, c2, a, b, s, rfl, rfl, rfl, hI⟩ := hrel
      obtain ⟨ha, hb, hxa, hyb, hwa, hwb, he⟩ := hI.out
      obtain ⟨ba, oa, na, ca, he1, hna, pa, hca, hpa⟩ := par_at hwa ha
      obtain ⟨bb, ob, nb, cb, he2, hnb, pb, hcb, hpb⟩ := par_at hwb hb
      injection he1 with he11 he12 he13
      injection he2 with he21 he22 he23
      subst he11 he12 he13 he21 he22 he23
      have HPA := Lib.hid hpa; have HPB := Lib.hid hpb
      obtain ⟨ea, hea⟩ : ∃ k, k = a % 2 := ⟨_, rfl⟩
      obtain ⟨eb, heb⟩ : ∃ k, k = b % 2 := ⟨_, rfl⟩
      rw [← hea] at HPA hpa
      rw [← heb] at HPB hpb
      have hs0 : s < x := by
        have h1 : s < 2 ^ s := Nat.lt_two_pow_self
        have h2 : 2 ^ s * 1 ≤ 2 ^ s * a := Nat.mul_le_mul_left _ ha
        omega
      have hsL : s < 9223372036854775807 := by
        have h1 : 2 ^ s ≤ x := by rw [hxa]; exact Nat.le_mul_of_pos_right _ ha
        have h2 := lt_of_dig_len HL.out.1
        have h3 : (4294967296 : Nat) ^ L = 2 ^ (32 * L) := by rw [Nat.pow_mul]
        have h4 : 2 ^ s < 2 ^ (32 * L) := by omega
        have := (Nat.pow_lt_pow_iff_right (a := 2) (by omega)).1 h4
        omega
      by_cases e1 : ea = 0
      · by_cases e2 : eb = 0
        · have r1 : ((ea : Nat) : Int) = 0 := by omega
          have r2 : ((eb : Nat) : Int) = 0 := by omega
          rw [r1] at hpa
          rw [r2] at hpb
          have hax : a ≤ x := by rw [hxa]; exact Nat.le_mul_of_pos_left _ (Nat.pow_pos (by omega))
          have hby : b ≤ y := by rw [hyb]; exact Nat.le_mul_of_pos_left _ (Nat.pow_pos (by omega))
          have h1 := half_any a _ wr hwa (Nat.le_trans (len_mono hax) (Nat.le_trans HL.out.1 (by omega)))
          have h2 := fun W (e : Ext wr W) => half_any b _ W (hwb.below e) (Nat.le_trans (len_mono hby) (Nat.le_trans HL.out.2 (by omega)))
          have H1 := Lib.hid h1; have H2 := Lib.hid h2; have HE := Lib.hid he
          have HN : Hid (0 < a / 2 ∧ 0 < b / 2 ∧ x = 2 ^ (s + 1) * (a / 2) ∧ y = 2 ^ (s + 1) * (b / 2)) := Lib.hid ⟨by omega, by omega,
            by rw [Nat.pow_succ, Nat.mul_assoc, show 2 * (a / 2) = a by omega]; exact hxa, by rw [Nat.pow_succ, Nat.mul_assoc, show 2 * (b / 2) = b by omega]; exact hyb⟩
          clear h1 h2 hxa hyb hax hby hwa hwb he hI ha hb hea heb e1 e2 hx0 hy0
          go_wp2_with fail
          refine H1.out.mono ?_
          rintro e w1 ⟨r3, rfl, y1, x1⟩
          obtain ⟨A3, n3, c3, rfl⟩ := y1.slice_
          have Y1 := Lib.hid y1; have X1 := Lib.hid x1; clear y1 x1
          go_wp2_with fail
          refine (H2.out _ X1.out).mono ?_
          rintro e w2 ⟨r4, rfl, y2, x2⟩
          obtain ⟨A4, n4, c4, rfl⟩ := y2.slice_
          have Y2 := Lib.hid y2; have X2 := Lib.hid x2; clear y2 x2
          have hsn : IntKind.i64.wrap ((s : Int) + 1) = (s : Int) + 1 := IntWalk.i64_in _ (by omega)
          go_wp2
          go_roundw
          case rel => exact ⟨_, _, _, _, _, _, a / 2, b / 2, s + 1, rfl, rfl, (show Value.int .i64 ((s : Int) + 1) = .int .i64 ((s + 1 : Nat) : Int) by go_num), Lib.hid ⟨HN.out.1, HN.out.2.1, HN.out.2.2.1, HN.out.2.2.2, Wd.below Y1.out X2.out, Y2.out, (Ext.trans HE.out X1.out).trans X2.out⟩⟩
          case measure => simp [intOf]; omega
        · have r1 : ((ea : Nat) : Int) = 0 := by omega
          have r2 : ((eb : Nat) : Int) = 1 := by omega
          have hodd : a % 2 = 1 ∨ b % 2 = 1 := by omega
          rw [r1] at hpa
          rw [r2] at hpb
          go_wp2_with fail
          have hG : 2 ^ s * Nat.gcd a b = Nat.gcd x y := by rw [hxa, hyb, Nat.gcd_mul_left]
          obtain ⟨G, hGe⟩ : ∃ G, G = Nat.gcd a b := ⟨_, rfl⟩
          rw [← hGe] at hG
          have hax : a ≤ x := by rw [hxa]; exact Nat.le_mul_of_pos_left _ (Nat.pow_pos (by omega))
          have hby : b ≤ y := by rw [hyb]; exact Nat.le_mul_of_pos_left _ (Nat.pow_pos (by omega))
          have HI2 : Hid (DI w wr L G (.slice (some ⟨ba, oa, none⟩) n1 c1) (.slice (some ⟨bb, ob, none⟩) n2 c2) a b) := Lib.hid ⟨hwa, hwb, hb, Nat.le_trans (len_mono hax) HL.out.1, Nat.le_trans (len_mono hby) HL.out.2, hGe.symm, hodd, he⟩
          have HS := Lib.hid (And.intro hG (And.intro hs0 hx0))
          clear hxa hyb hax hby hGe hG hI hodd hwa hwb he hca hcb HPA HPB hs0 hx0 hy0 ha hb hea heb Hx Hy
          go_loopw [0, 1] (fun va vb wr => ∃ (A1 : Option Addr) (n1 c1 : Nat) (A2 : Option Addr) (n2 c2 a b : Nat), va = .slice A1 n1 c1 ∧ vb = .slice A2 n2 c2 ∧ Hid (DI w wr L G (.slice A1 n1 c1) (.slice A2 n2 c2) a b)) (fun va vb wr => wdNum wr va + wdNum wr vb)
          case atStart => exact ⟨_, _, _, _, _, _, _, _, rfl, rfl, HI2⟩
          case round =>
            clear HI2
            obtain ⟨A1, n1, c1, A2, n2, c2, a, b, rfl, rfl, hD⟩ := hrel
            obtain ⟨hwa, hwb, hb, hax, hby, hgc, hodd, he⟩ := hD.out
            have pn : 0 < n1 ↔ 0 < a := by rw [hwa.len]; exact dig_len_pos
            have HM := Lib.hid (And.intro (wdNum_eq hwa) (wdNum_eq hwb))
            by_cases hn1 : n1 = 0
            · have ha0 : a = 0 := by omega
              subst ha0 hn1
              rw [Nat.gcd_zero_left] at hgc
              rw [hgc] at hwb hby
              have HB := Lib.hid hwb; have HE := Lib.hid he
              have HLG : Hid (∀ i, i ≤ s → (dig (2 ^ i * G)).length ≤ 400000) := Lib.hid (fun i hi => by
                refine Nat.le_trans (len_mono (b := x) ?_) (Nat.le_trans HL.out.1 hL)
                refine Nat.le_trans (Nat.mul_le_mul_right _ (Nat.pow_le_pow_right (by omega) hi)) ?_
                rw [HS.out.1]; exact Nat.gcd_le_left _ HS.out.2.2)
              clear hwa hwb he hD hax hby hodd hb pn HM
              go_wp2_with fail
              go_loopw [1, 62] (fun vb iv w5 => ∃ (A2 : Option Addr) (n2 c2 i : Nat), vb = .slice A2 n2 c2 ∧ iv = .int .i64 i ∧ i ≤ s ∧ Hid (Wd w5 (.slice A2 n2 c2) (dig (2 ^ i * G)) ∧ Ext w w5)) (fun _ iv _ => s - (intOf iv).toNat)
              case atStart => exact ⟨_, _, _, 0, rfl, rfl, Nat.zero_le _, Lib.hid ⟨by rw [Nat.pow_zero, Nat.one_mul]; exact HB.out, HE.out⟩⟩
              case round =>
                obtain ⟨A2, n2, c2, i, rfl, rfl, hi, hI⟩ := hrel
                by_cases his : i < s
                · have hii : (i : Int) < (s : Int) := by omega
                  have pl := plusR_any (2 ^ i * G) (2 ^ i * G) _ _ _ hI.out.1 hI.out.1 (Nat.le_trans (HLG.out i hi) (by omega)) (Nat.le_trans (HLG.out i hi) (by omega))
                  rw [show 2 ^ i * G + 2 ^ i * G = 2 ^ (i + 1) * G by rw [Nat.pow_succ]; grind] at pl
                  have PL := Lib.hid pl
                  clear pl
                  have hsn : IntKind.i64.wrap ((i : Int) + 1) = (i : Int) + 1 := IntWalk.i64_in _ (by omega)
                  go_wp2_with fail
                  refine PL.out.mono ?_
                  rintro e w6 ⟨r6, rfl, y6, x6⟩
                  obtain ⟨A6, n6, c6, rfl⟩ := y6.slice_
                  have Y6 := Lib.hid y6; have X6 := Lib.hid x6; clear y6 x6
                  go_wp2
                  go_roundw
                  case rel => exact ⟨_, _, _, i + 1, rfl, by go_num, by omega, Lib.hid ⟨Y6.out, Ext.trans hI.out.2 X6.out⟩⟩
                  case measure => simp [intOf]; omega
                · have his2 : i = s := by omega
                  subst his2
                  have hii : ¬ (i : Int) < (i : Int) := by omega
                  have HF := Lib.hid (show Wd _ (.slice A2 n2 c2) (dig (Nat.gcd x y)) by rw [← HS.out.1]; exact hI.out.1)
                  go_wp2
                  go_ret
                  exact ⟨_, rfl, HF.out, hI.out.2⟩
            · have ha0 : 0 < a := by omega
              have h0n : 0 < n1 := by omega
              have HI3 : Hid (DI w wr L G (.slice A1 n1 c1) (.slice A2 n2 c2) a b ∧ 0 < a) := Lib.hid ⟨hD.out, ha0⟩
              clear hwa hwb hb hax hby hgc hodd he pn
              go_wp2_with fail
              go_loopw [0] (fun va w3 => ∃ (A1 : Option Addr) (n1 c1 a' : Nat), va = .slice A1 n1 c1 ∧ Hid (DI w w3 L G (.slice A1 n1 c1) (.slice A2 n2 c2) a' b ∧ 0 < a' ∧ a' ≤ a)) (fun va w3 => wdNum w3 va)
              case atStart => exact ⟨_, _, _, _, rfl, Lib.hid ⟨HI3.out.1, HI3.out.2, Nat.le_refl _⟩⟩
              case round =>
                obtain ⟨A3, n3, c3, a3, rfl, hD3⟩ := hrel
                obtain ⟨hI, ha3, hle⟩ := hD3.out
                obtain ⟨ba, oa, na, ca, he1, hna, pa, hca, hpa⟩ := par_at hI.wa ha3
                injection he1 with he11 he12 he13
                subst he11 he12 he13
                obtain ⟨ea, hea⟩ : ∃ k, k = a3 % 2 := ⟨_, rfl⟩
                rw [← hea] at hpa
                have HM3 := Lib.hid (wdNum_eq hI.wa)
                have HI0 := Lib.hid hI
                by_cases e1 : ea = 0
                · have r1 : ((ea : Nat) : Int) = 0 := by omega
                  rw [r1] at hpa
                  have hl := Lib.hid (half_any a3 _ _ hI.wa (Nat.le_trans hI.ax (by omega)))
                  have hg := Lib.hid ((gcd_half_left (show a3 % 2 = 0 by omega) (show b % 2 = 1 by rcases hI.odd with h | h <;> omega)).trans hI.gcd)
                  have hob := Lib.hid (show b % 2 = 1 by rcases hI.odd with h | h <;> omega)
                  have hpos3 : 0 < a3 / 2 := by omega
                  clear hI hea e1
                  go_wp2_with fail
                  refine hl.out.mono ?_
                  rintro e w4 ⟨r4, rfl, y4, x4⟩
                  obtain ⟨A4, n4, c4, rfl⟩ := y4.slice_
                  have Y4 := Lib.hid y4; have X4 := Lib.hid x4; clear y4 x4
                  go_wp2
                  go_roundw
                  case rel =>
                    have hI := HI0.out
                    exact ⟨_, _, _, a3 / 2, rfl, Lib.hid ⟨⟨Y4.out, Wd.below hI.wb X4.out, hI.b0, Nat.le_trans (len_mono (Nat.div_le_self _ _)) hI.ax, hI.bY, hg.out, .inr hob.out, Ext.trans hI.ex X4.out⟩, hpos3, by omega⟩⟩
                  case measure =>
                    rw [HM3.out, wdNum_eq Y4.out]; omega
                · have r1 : ((ea : Nat) : Int) = 1 := by omega
                  rw [r1] at hpa
                  have hoa : a3 % 2 = 1 := by omega
                  clear hI hea
                  go_wp2_with fail
                  go_loopw [1] (fun vb w4 => ∃ (A4 : Option Addr) (n4 c4 b' : Nat), vb = .slice A4 n4 c4 ∧ Hid (DI w w4 L G (.slice (some ⟨ba, oa, none⟩) n3 c3) (.slice A4 n4 c4) a3 b' ∧ b' ≤ b)) (fun vb w4 => wdNum w4 vb)
                  case atStart => exact ⟨_, _, _, _, rfl, Lib.hid ⟨HI0.out, Nat.le_refl _⟩⟩
                  case round =>
                    obtain ⟨A4, n4, c4, b4, rfl, hD4⟩ := hrel
                    obtain ⟨hI, hle4⟩ := hD4.out
                    obtain ⟨bb, ob, nb, cb, he2, hnb, pb, hcb, hpb⟩ := par_at hI.wb hI.b0
                    injection he2 with he21 he22 he23
                    subst he21 he22 he23
                    obtain ⟨eb, heb⟩ : ∃ k, k = b4 % 2 := ⟨_, rfl⟩
                    rw [← heb] at hpb
                    have HM4 := Lib.hid (wdNum_eq hI.wb)
                    have HI4 := Lib.hid hI
                    have b40 := hI.b0
                    by_cases e2 : eb = 0
                    · have r2 : ((eb : Nat) : Int) = 0 := by omega
                      rw [r2] at hpb
                      have hl := Lib.hid (half_any b4 _ _ hI.wb (Nat.le_trans hI.bY (by omega)))
                      have hg := Lib.hid ((gcd_half_right hoa (show b4 % 2 = 0 by omega)).trans hI.gcd)
                      have hpos : 0 < b4 / 2 := by omega
                      clear hI heb e2
                      go_wp2_with fail
                      refine hl.out.mono ?_
                      rintro e w5 ⟨r5, rfl, y5, x5⟩
                      obtain ⟨A5, n5, c5, rfl⟩ := y5.slice_
                      have Y5 := Lib.hid y5; have X5 := Lib.hid x5; clear y5 x5
                      go_wp2
                      go_roundw
                      case rel =>
                        have hI := HI4.out
                        exact ⟨_, _, _, b4 / 2, rfl, Lib.hid ⟨⟨Wd.below hI.wa X5.out, Y5.out, hpos, hI.ax, Nat.le_trans (len_mono (Nat.div_le_self _ _)) hI.bY, hg.out, .inl hoa, Ext.trans hI.ex X5.out⟩, by omega⟩⟩
                      case measure =>
                        rw [HM4.out, wdNum_eq Y5.out]; omega
                    · have r2 : ((eb : Nat) : Int) = 1 := by omega
                      rw [r2] at hpb
                      have hob : b4 % 2 = 1 := by omega
                      have OR := Lib.hid (orderR_any a3 b4 _ _ _ hI.wa hI.wb)
                      have hb0 : 0 < b := by omega
                      clear hI heb
                      go_wp2_with fail
                      refine OR.out.mono ?_
                      rintro e w5 ⟨rfl, q, rfl⟩
                      obtain ⟨cv, hcv⟩ : ∃ cv, cv = cmpN a3 b4 := ⟨_, rfl⟩
                      rw [← hcv]
                      by_cases hlt : a3 < b4
                      · rw [cmpN_lt hlt] at hcv
                        have hcn : cv < 0 := by omega
                        have LE := Lib.hid (fun W (h1 : Wd W (.slice (some ⟨bb, ob, none⟩) n4 c4) (dig b4)) (h2 : Wd W (.slice (some ⟨ba, oa, none⟩) n3 c3) (dig a3)) => lessR_any b4 a3 _ _ W h1 h2 (Nat.le_trans HI4.out.bY (by omega)) (by omega))
                        clear hcv OR
                        go_wp2_with fail
                        refine (LE.out _ (Wd.drewN HI4.out.wb q) (Wd.drewN HI4.out.wa q)).mono ?_
                        rintro e w6 ⟨r6, rfl, y6, x6⟩
                        obtain ⟨A6, n6, c6, rfl⟩ := y6.slice_
                        have X6 : Hid (Ext wr w6) := Lib.hid (undrewN (W := wr) (k := q) x6)
                        have Y6 := Lib.hid y6; clear y6 x6
                        go_wp2
                        go_roundw
                        case rel =>
                          have hI := HI4.out
                          exact ⟨_, _, _, _, _, _, b4 - a3, a3, rfl, rfl, Lib.hid ⟨Y6.out, Wd.below hI.wa X6.out, by omega, Nat.le_trans (len_mono (Nat.sub_le _ _)) hI.bY, hI.ax, (gcd_less (by omega)).trans ((Nat.gcd_comm _ _).trans hI.gcd), .inr hoa, Ext.trans hI.ex X6.out⟩⟩
                        case measure =>
                          have e1 := wdNum_eq Y6.out
                          have e2 := wdNum_eq (Wd.below HI4.out.wa X6.out)
                          rw [HM.out.1, HM.out.2, e1, e2]; omega
                      · have hcn : ¬ cv < 0 := by rw [hcv]; unfold cmpN; split <;> omega
                        have LE := Lib.hid (fun W (h1 : Wd W (.slice (some ⟨ba, oa, none⟩) n3 c3) (dig a3)) (h2 : Wd W (.slice (some ⟨bb, ob, none⟩) n4 c4) (dig b4)) => lessR_any a3 b4 _ _ W h1 h2 (Nat.le_trans HI4.out.ax (by omega)) (by omega))
                        clear hcv OR
                        go_wp2_with fail
                        refine (LE.out _ (Wd.drewN HI4.out.wa q) (Wd.drewN HI4.out.wb q)).mono ?_
                        rintro e w6 ⟨r6, rfl, y6, x6⟩
                        obtain ⟨A6, n6, c6, rfl⟩ := y6.slice_
                        have X6 : Hid (Ext wr w6) := Lib.hid (undrewN (W := wr) (k := q) x6)
                        have Y6 := Lib.hid y6; clear y6 x6
                        go_wp2
                        go_roundw
                        case rel =>
                          have hI := HI4.out
                          exact ⟨_, _, _, _, _, _, a3 - b4, b4, rfl, rfl, Lib.hid ⟨Y6.out, Wd.below hI.wb X6.out, by omega, Nat.le_trans (len_mono (Nat.sub_le _ _)) hI.ax, hI.bY, (gcd_less (by omega)).trans hI.gcd, .inr hob, Ext.trans hI.ex X6.out⟩⟩
                        case measure =>
                          have e1 := wdNum_eq Y6.out
                          have e2 := wdNum_eq (Wd.below HI4.out.wb X6.out)
                          rw [HM.out.1, HM.out.2, e1, e2]; omega
      · have r1 : ((ea : Nat) : Int) = 1 := by omega
        have hodd : a % 2 = 1 ∨ b % 2 = 1 := by omega
        rw [r1] at hpa
        go_wp2_with fail
        have hG : 2 ^ s * Nat.gcd a b = Nat.gcd x y := by rw [hxa, hyb, Nat.gcd_mul_left]
        obtain ⟨G, hGe⟩ : ∃ G, G = Nat.gcd a b := ⟨_, rfl⟩
        rw [← hGe] at hG
        have hax : a ≤ x := by rw [hxa]; exact Nat.le_mul_of_pos_left _ (Nat.pow_pos (by omega))
        have hby : b ≤ y := by rw [hyb]; exact Nat.le_mul_of_pos_left _ (Nat.pow_pos (by omega))
        have HI2 : Hid (DI w wr L G (.slice (some ⟨ba, oa, none⟩) n1 c1) (.slice (some ⟨bb, ob, none⟩) n2 c2) a b) := Lib.hid ⟨hwa, hwb, hb, Nat.le_trans (len_mono hax) HL.out.1, Nat.le_trans (len_mono hby) HL.out.2, hGe.symm, hodd, he⟩
        have HS := Lib.hid (And.intro hG (And.intro hs0 hx0))
        clear hxa hyb hax hby hGe hG hI hodd hwa hwb he hca hcb HPA HPB hs0 hx0 hy0 ha hb hea heb Hx Hy
        go_loopw [0, 1] (fun va vb wr => ∃ (A1 : Option Addr) (n1 c1 : Nat) (A2 : Option Addr) (n2 c2 a b : Nat), va = .slice A1 n1 c1 ∧ vb = .slice A2 n2 c2 ∧ Hid (DI w wr L G (.slice A1 n1 c1) (.slice A2 n2 c2) a b)) (fun va vb wr => wdNum wr va + wdNum wr vb)
        case atStart => exact ⟨_, _, _, _, _, _, _, _, rfl, rfl, HI2⟩
        case round =>
          clear HI2
          obtain ⟨A1, n1, c1, A2, n2, c2, a, b, rfl, rfl, hD⟩ := hrel
          obtain ⟨hwa, hwb, hb, hax, hby, hgc, hodd, he⟩ := hD.out
          have pn : 0 < n1 ↔ 0 < a := by rw [hwa.len]; exact dig_len_pos
          have HM := Lib.hid (And.intro (wdNum_eq hwa) (wdNum_eq hwb))
          by_cases hn1 : n1 = 0
          · have ha0 : a = 0 := by omega
            subst ha0 hn1
            rw [Nat.gcd_zero_left] at hgc
            rw [hgc] at hwb hby
            have HB := Lib.hid hwb; have HE := Lib.hid he
            have HLG : Hid (∀ i, i ≤ s → (dig (2 ^ i * G)).length ≤ 400000) := Lib.hid (fun i hi => by
              refine Nat.le_trans (len_mono (b := x) ?_) (Nat.le_trans HL.out.1 hL)
              refine Nat.le_trans (Nat.mul_le_mul_right _ (Nat.pow_le_pow_right (by omega) hi)) ?_
              rw [HS.out.1]; exact Nat.gcd_le_left _ HS.out.2.2)
            clear hwa hwb he hD hax hby hodd hb pn HM
            go_wp2_with fail
            go_loopw [1, 62] (fun vb iv w5 => ∃ (A2 : Option Addr) (n2 c2 i : Nat), vb = .slice A2 n2 c2 ∧ iv = .int .i64 i ∧ i ≤ s ∧ Hid (Wd w5 (.slice A2 n2 c2) (dig (2 ^ i * G)) ∧ Ext w w5)) (fun _ iv _ => s - (intOf iv).toNat)
            case atStart => exact ⟨_, _, _, 0, rfl, rfl, Nat.zero_le _, Lib.hid ⟨by rw [Nat.pow_zero, Nat.one_mul]; exact HB.out, HE.out⟩⟩
            case round =>
              obtain ⟨A2, n2, c2, i, rfl, rfl, hi, hI⟩ := hrel
              by_cases his : i < s
              · have hii : (i : Int) < (s : Int) := by omega
                have pl := plusR_any (2 ^ i * G) (2 ^ i * G) _ _ _ hI.out.1 hI.out.1 (Nat.le_trans (HLG.out i hi) (by omega)) (Nat.le_trans (HLG.out i hi) (by omega))
                rw [show 2 ^ i * G + 2 ^ i * G = 2 ^ (i + 1) * G by rw [Nat.pow_succ]; grind] at pl
                have PL := Lib.hid pl
                clear pl
                have hsn : IntKind.i64.wrap ((i : Int) + 1) = (i : Int) + 1 := IntWalk.i64_in _ (by omega)
                go_wp2_with fail
                refine PL.out.mono ?_
                rintro e w6 ⟨r6, rfl, y6, x6⟩
                obtain ⟨A6, n6, c6, rfl⟩ := y6.slice_
                have Y6 := Lib.hid y6; have X6 := Lib.hid x6; clear y6 x6
                go_wp2
                go_roundw
                case rel => exact ⟨_, _, _, i + 1, rfl, by go_num, by omega, Lib.hid ⟨Y6.out, Ext.trans hI.out.2 X6.out⟩⟩
                case measure => simp [intOf]; omega
              · have his2 : i = s := by omega
                subst his2
                have hii : ¬ (i : Int) < (i : Int) := by omega
                have HF := Lib.hid (show Wd _ (.slice A2 n2 c2) (dig (Nat.gcd x y)) by rw [← HS.out.1]; exact hI.out.1)
                go_wp2
                go_ret
                exact ⟨_, rfl, HF.out, hI.out.2⟩
          · have ha0 : 0 < a := by omega
            have h0n : 0 < n1 := by omega
            have HI3 : Hid (DI w wr L G (.slice A1 n1 c1) (.slice A2 n2 c2) a b ∧ 0 < a) := Lib.hid ⟨hD.out, ha0⟩
            clear hwa hwb hb hax hby hgc hodd he pn
            go_wp2_with fail
            go_loopw [0] (fun va w3 => ∃ (A1 : Option Addr) (n1 c1 a' : Nat), va = .slice A1 n1 c1 ∧ Hid (DI w w3 L G (.slice A1 n1 c1) (.slice A2 n2 c2) a' b ∧ 0 < a' ∧ a' ≤ a)) (fun va w3 => wdNum w3 va)
            case atStart => exact ⟨_, _, _, _, rfl, Lib.hid ⟨HI3.out.1, HI3.out.2, Nat.le_refl _⟩⟩
            case round =>
              obtain ⟨A3, n3, c3, a3, rfl, hD3⟩ := hrel
              obtain ⟨hI, ha3, hle⟩ := hD3.out
              obtain ⟨ba, oa, na, ca, he1, hna, pa, hca, hpa⟩ := par_at hI.wa ha3
              injection he1 with he11 he12 he13
              subst he11 he12 he13
              obtain ⟨ea, hea⟩ : ∃ k, k = a3 % 2 := ⟨_, rfl⟩
              rw [← hea] at hpa
              have HM3 := Lib.hid (wdNum_eq hI.wa)
              have HI0 := Lib.hid hI
              by_cases e1 : ea = 0
              · have r1 : ((ea : Nat) : Int) = 0 := by omega
                rw [r1] at hpa
                have hl := Lib.hid (half_any a3 _ _ hI.wa (Nat.le_trans hI.ax (by omega)))
                have hg := Lib.hid ((gcd_half_left (show a3 % 2 = 0 by omega) (show b % 2 = 1 by rcases hI.odd with h | h <;> omega)).trans hI.gcd)
                have hob := Lib.hid (show b % 2 = 1 by rcases hI.odd with h | h <;> omega)
                have hpos3 : 0 < a3 / 2 := by omega
                clear hI hea e1
                go_wp2_with fail
                refine hl.out.mono ?_
                rintro e w4 ⟨r4, rfl, y4, x4⟩
                obtain ⟨A4, n4, c4, rfl⟩ := y4.slice_
                have Y4 := Lib.hid y4; have X4 := Lib.hid x4; clear y4 x4
                go_wp2
                go_roundw
                case rel =>
                  have hI := HI0.out
                  exact ⟨_, _, _, a3 / 2, rfl, Lib.hid ⟨⟨Y4.out, Wd.below hI.wb X4.out, hI.b0, Nat.le_trans (len_mono (Nat.div_le_self _ _)) hI.ax, hI.bY, hg.out, .inr hob.out, Ext.trans hI.ex X4.out⟩, hpos3, by omega⟩⟩
                case measure =>
                  rw [HM3.out, wdNum_eq Y4.out]; omega
              · have r1 : ((ea : Nat) : Int) = 1 := by omega
                rw [r1] at hpa
                have hoa : a3 % 2 = 1 := by omega
                clear hI hea
                go_wp2_with fail
                go_loopw [1] (fun vb w4 => ∃ (A4 : Option Addr) (n4 c4 b' : Nat), vb = .slice A4 n4 c4 ∧ Hid (DI w w4 L G (.slice (some ⟨ba, oa, none⟩) n3 c3) (.slice A4 n4 c4) a3 b' ∧ b' ≤ b)) (fun vb w4 => wdNum w4 vb)
                case atStart => exact ⟨_, _, _, _, rfl, Lib.hid ⟨HI0.out, Nat.le_refl _⟩⟩
                case round =>
                  obtain ⟨A4, n4, c4, b4, rfl, hD4⟩ := hrel
                  obtain ⟨hI, hle4⟩ := hD4.out
                  obtain ⟨bb, ob, nb, cb, he2, hnb, pb, hcb, hpb⟩ := par_at hI.wb hI.b0
                  injection he2 with he21 he22 he23
                  subst he21 he22 he23
                  obtain ⟨eb, heb⟩ : ∃ k, k = b4 % 2 := ⟨_, rfl⟩
                  rw [← heb] at hpb
                  have HM4 := Lib.hid (wdNum_eq hI.wb)
                  have HI4 := Lib.hid hI
                  have b40 := hI.b0
                  by_cases e2 : eb = 0
                  · have r2 : ((eb : Nat) : Int) = 0 := by omega
                    rw [r2] at hpb
                    have hl := Lib.hid (half_any b4 _ _ hI.wb (Nat.le_trans hI.bY (by omega)))
                    have hg := Lib.hid ((gcd_half_right hoa (show b4 % 2 = 0 by omega)).trans hI.gcd)
                    have hpos : 0 < b4 / 2 := by omega
                    clear hI heb e2
                    go_wp2_with fail
                    refine hl.out.mono ?_
                    rintro e w5 ⟨r5, rfl, y5, x5⟩
                    obtain ⟨A5, n5, c5, rfl⟩ := y5.slice_
                    have Y5 := Lib.hid y5; have X5 := Lib.hid x5; clear y5 x5
                    go_wp2
                    go_roundw
                    case rel =>
                      have hI := HI4.out
                      exact ⟨_, _, _, b4 / 2, rfl, Lib.hid ⟨⟨Wd.below hI.wa X5.out, Y5.out, hpos, hI.ax, Nat.le_trans (len_mono (Nat.div_le_self _ _)) hI.bY, hg.out, .inl hoa, Ext.trans hI.ex X5.out⟩, by omega⟩⟩
                    case measure =>
                      rw [HM4.out, wdNum_eq Y5.out]; omega
                  · have r2 : ((eb : Nat) : Int) = 1 := by omega
                    rw [r2] at hpb
                    have hob : b4 % 2 = 1 := by omega
                    have OR := Lib.hid (orderR_any a3 b4 _ _ _ hI.wa hI.wb)
                    have hb0 : 0 < b := by omega
                    clear hI heb
                    go_wp2_with fail
                    refine OR.out.mono ?_
                    rintro e w5 ⟨rfl, q, rfl⟩
                    obtain ⟨cv, hcv⟩ : ∃ cv, cv = cmpN a3 b4 := ⟨_, rfl⟩
                    rw [← hcv]
                    by_cases hlt : a3 < b4
                    · rw [cmpN_lt hlt] at hcv
                      have hcn : cv < 0 := by omega
                      have LE := Lib.hid (fun W (h1 : Wd W (.slice (some ⟨bb, ob, none⟩) n4 c4) (dig b4)) (h2 : Wd W (.slice (some ⟨ba, oa, none⟩) n3 c3) (dig a3)) => lessR_any b4 a3 _ _ W h1 h2 (Nat.le_trans HI4.out.bY (by omega)) (by omega))
                      clear hcv OR
                      go_wp2_with fail
                      refine (LE.out _ (Wd.drewN HI4.out.wb q) (Wd.drewN HI4.out.wa q)).mono ?_
                      rintro e w6 ⟨r6, rfl, y6, x6⟩
                      obtain ⟨A6, n6, c6, rfl⟩ := y6.slice_
                      have X6 : Hid (Ext wr w6) := Lib.hid (undrewN (W := wr) (k := q) x6)
                      have Y6 := Lib.hid y6; clear y6 x6
                      go_wp2
                      go_roundw
                      case rel =>
                        have hI := HI4.out
                        exact ⟨_, _, _, _, _, _, b4 - a3, a3, rfl, rfl, Lib.hid ⟨Y6.out, Wd.below hI.wa X6.out, by omega, Nat.le_trans (len_mono (Nat.sub_le _ _)) hI.bY, hI.ax, (gcd_less (by omega)).trans ((Nat.gcd_comm _ _).trans hI.gcd), .inr hoa, Ext.trans hI.ex X6.out⟩⟩
                      case measure =>
                        have e1 := wdNum_eq Y6.out
                        have e2 := wdNum_eq (Wd.below HI4.out.wa X6.out)
                        rw [HM.out.1, HM.out.2, e1, e2]; omega
                    · have hcn : ¬ cv < 0 := by rw [hcv]; unfold cmpN; split <;> omega
                      have LE := Lib.hid (fun W (h1 : Wd W (.slice (some ⟨ba, oa, none⟩) n3 c3) (dig a3)) (h2 : Wd W (.slice (some ⟨bb, ob, none⟩) n4 c4) (dig b4)) => lessR_any a3 b4 _ _ W h1 h2 (Nat.le_trans HI4.out.ax (by omega)) (by omega))
                      clear hcv OR
                      go_wp2_with fail
                      refine (LE.out _ (Wd.drewN HI4.out.wa q) (Wd.drewN HI4.out.wb q)).mono ?_
                      rintro e w6 ⟨r6, rfl, y6, x6⟩
                      obtain ⟨A6, n6, c6, rfl⟩ := y6.slice_
                      have X6 : Hid (Ext wr w6) := Lib.hid (undrewN (W := wr) (k := q) x6)
                      have Y6 := Lib.hid y6; clear y6 x6
                      go_wp2
                      go_roundw
                      case rel =>
                        have hI := HI4.out
                        exact ⟨_, _, _, _, _, _, a3 - b4, b4, rfl, rfl, Lib.hid ⟨Y6.out, Wd.below hI.wb X6.out, by omega, Nat.le_trans (len_mono (Nat.sub_le _ _)) hI.ax, hI.bY, (gcd_less (by omega)).trans hI.gcd, .inr hob, Ext.trans hI.ex X6.out⟩⟩
                      case measure =>
                        have e1 := wdNum_eq Y6.out
                        have e2 := wdNum_eq (Wd.below HI4.out.wb X6.out)
                        rw [HM.out.1, HM.out.2, e1, e2]; omega
end Go.Proofs.YtmlopkkbgpfdnaaGreatDoor
namespace Go.Proofs.YtmlopkkbgpfdnaaGreatDoor
open Go.RowKit

set_option maxHeartbeats 800000 in
set_option maxRecDepth 100000 in
/-- Common -/
theorem commonR_any (x y : Int) (u v : Value) (w : World) (hx : ZV w u x) (hy : ZV w v y) (lx : (dig x.natAbs).length ≤ 400000) (ly : (dig y.natAbs).length ≤ 400000) :
    Calls Tryz.prog 32 #[u, v] w (RetZ w (Int.gcd x y : Nat)) := by
  obtain ⟨A, n, c, rfl, hx0, -, -⟩ := hx.open_
  obtain ⟨A', n', c', rfl, hy0, -, -⟩ := hy.open_
  obtain ⟨p, hp⟩ : ∃ p, p = decide (x < 0) := ⟨_, rfl⟩
  obtain ⟨q, hq⟩ : ∃ q, q = decide (y < 0) := ⟨_, rfl⟩
  rw [← hp, ← hq]
  clear hp hq hx hy
  obtain ⟨W1, hW1⟩ : ∃ W1, W1 = ((w.alloc (Obj.cells #[.bool p, .slice A n c] 55)).alloc (Obj.cells #[.bool q, .slice A' n' c'] 55)).alloc (Obj.cells #[.bool false, .slice none 0 0] 55) := ⟨_, rfl⟩
  have e1 : Ext w W1 := by rw [hW1]; exact (((Ext.refl w).alc _).alc _).alc _
  have R1 : RB W1 (w.heap.size + 1 + 1) := by rw [hW1]; exact RB.a3 w false none 0 0 55 _ _
  have DV := Lib.hid (divisor_any x.natAbs y.natAbs 400000 _ _ W1 (Wd.below hx0 e1) (Wd.below hy0 e1) lx ly (by omega))
  have HR := Lib.hid R1; have HE := Lib.hid e1; have HW1 := Lib.hid hW1
  clear hW1 e1 R1 hx0 hy0 lx ly
  go_enter Tryz.func32, Tryz.ntmps32
  go_wp2_with fail
  rw [← HW1.out]
  refine DV.out.mono ?_
  rintro e w2 ⟨r, rfl, h2, x2⟩
  obtain ⟨A2, n2, c2, rfl⟩ := h2.slice_
  have l2 := h2.n_le
  have H2 := Lib.hid h2; have X2 := Lib.hid x2; clear h2 x2
  go_wp2_with fail
  refine (signedR_any _ _ _ _ _ l2).mono ?_
  rintro e w3 ⟨rfl, x3⟩
  rw [Bool.false_and]
  have X3 := Lib.hid x3; clear x3
  have R3 := HR.out.ext (Ext.trans X2.out X3.out)
  obtain ⟨_, _, _, _, g0, g1, g2, g3⟩ := R3.facts
  have s0 := R3.set0 false (.slice A2 n2 c2); have s1 := R3.set1 false (.slice A2 n2 c2)
  have hz : ZV w3 (.agg #[.bool false, .slice A2 n2 c2]) ((Int.gcd x y : Nat) : Int) := ZV.mk (by simp) (by rw [Int.natAbs_natCast]; exact Wd.below H2.out X3.out)
  have hz2 := hz.rb R3 (.bool false) (.slice A2 n2 c2)
  have hbf := below_set2 ((HE.out.trans X2.out).trans X3.out) (i := 0) (j := 1) (show w.heap.size ≤ w.heap.size + 1 + 1 by omega) (.bool false) (.slice A2 n2 c2)
  have F := Lib.hid (And.intro s0 (And.intro s1 (And.intro hz2 hbf)))
  clear s0 s1 hz hz2 hbf R3
  go_wp2
  obtain ⟨s0, s1, hz, hbf⟩ := F.out
  exact bodyPost_ret (v := .agg #[.bool false, .slice A2 n2 c2]) (by simp [results, Tryz.results32, go_sem, s0, s1]) rfl ⟨_, rfl, hz, hbf⟩
end Go.Proofs.YtmlopkkbgpfdnaaGreatDoor
