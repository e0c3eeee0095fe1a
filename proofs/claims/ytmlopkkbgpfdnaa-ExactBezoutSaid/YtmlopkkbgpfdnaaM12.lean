/- Walks: the reference's naturals: natural, plus. · Walks: the reference's naturals: plus. · Walks: the reference's naturals: less. · Walks: the reference's naturals: times. · Walks: the reference's whole numbers. · Walks: the reference's whole numbers. · Walks: the reference's whole numbers. -/
import Derived.Test.YtmlopkkbgpfdnaaM11
import Derived.Test.YtmlopkkbgpfdnaaM1
namespace Go.Proofs.Ytmlopkkbgpfdnaa
open Go.RowKit

def uw (x : Nat) : Value := .int .u32 (x : Int)

theorem Wd.of_own {w : World} {base : Nat} {v : Value} {ds : List Nat} (h : w.ownsRow base 66 1 v ds.length (ds.map uw)) (ho : Ok ds) : Wd w v ds := by
  have h0 := h
  obtain ⟨h1, h2 | ⟨g, cap, cur, rfl, hg, hh, hn, hcap, hsz, htake⟩⟩ := h
  · obtain ⟨rfl, hn⟩ := h2
    have : ds = [] := List.eq_nil_of_length_eq_zero hn
    subst this
    exact Wd.nil_ w
  · refine ⟨some ⟨g, 0, none⟩, cap, rfl, hn, by unfold maxLen at hcap; omega, ho, fun hp => ⟨g, 0, rfl, (Array.getElem?_eq_some_iff.1 hh).1, fun j hj => ?_⟩⟩
    have := h0.cells (g := g) rfl j (uw (ds.getD j 0)) (by
      rw [List.getElem?_map, List.getElem?_eq_getElem hj]
      simp [List.getD_eq_getElem?_getD, List.getElem?_eq_getElem hj])
    have e : (⟨g, 0, none⟩ : Addr).add j = ⟨g, 0 + j, none⟩ := by unfold Addr.add; split <;> simp_all
    rw [← e]
    exact this

set_option maxHeartbeats 400000 in
set_option maxRecDepth 100000 in
/-- ref natural -/
theorem naturalR_any (n : Nat) (hn : n < 18446744073709551616) (w : World) :
    Calls Try.prog 55 #[.int .u64 n] w fun e w' => ∃ u, e = .returned u ∧ Wd w' u (dig n) ∧ Below w.heap.size w w' := by
  obtain ⟨i0, hi, hz0, hz1, hz2⟩ := info_parts info66
  have hd2 : (dig n).length ≤ 2 := dig_len_le (by omega)
  go_enter Try.func55, Try.ntmps55
  go_wp2
  go_loopw [0, 3] (fun mv v wr => ∃ (m : Nat) (ds : List Nat), mv = .int .u64 m ∧ m ≤ n ∧ Ok ds ∧ wr.ownsRow w.heap.size 66 1 v ds.length (ds.map uw) ∧ Below w.heap.size w wr ∧ ds ++ dig m = dig n)
    (fun mv _ _ => (intOf mv).toNat)
  case atStart => exact ⟨n, [], rfl, Nat.le_refl _, Ok.nil, World.ownsRow_nil _ _ _ _, Below.refl _ _, rfl⟩
  case round =>
    obtain ⟨m, ds, rfl, hm, hok, hown, hbel, hds⟩ := hrel
    have hl : ds.length + (dig m).length ≤ 2 := by rw [← List.length_append, hds]; exact hd2
    have Hds := Lib.hid hds; clear hds
    have Hok := Lib.hid hok; clear hok
    by_cases hm0 : m = 0
    · subst hm0
      have hw := Wd.of_own hown Hok.out
      have he : ds = dig n := by have := Hds.out; rwa [dig_zero, List.append_nil] at this
      rw [he] at hw
      have Hw := Lib.hid hw; clear hw he
      go_wp2
      go_ret
      exact ⟨_, rfl, Hw.out, hbel⟩
    · have hm1 : 0 < m := by omega
      have hl1 : ds.length ≤ 2 := by omega
      clear hl
      go_wp2_with (at_builtin; refine wpList_append_own _ rfl _ _ 32 rfl w.heap.size 66 i0 (.int .u32 0) 1 4 Try.underlying32 hi hz0 hz1 hz2 rfl (by decide) _ _ _ rfl (hown.alloc _) ⟨wr.heap.size, 0, none⟩ 1 1 [uw (m % 4294967296)] rfl rfl ?c1 ?c2 ?c3 ?c4 ?c5 ?_)
      case c1 =>
        intro j u hj
        match j, hj with
        | 0, hj => simp at hj; subst hj; simp [Addr.add, uw]
      case c2 => intro u hu; simp at hu; subst hu; rfl
      case c3 => unfold maxLen; omega
      case c4 => omega
      case c5 => have := hbel.size; simp; omega
      intro v' w1 hown' hgrow _
      have hb1 : Below w.heap.size w w1 := (hbel.alloc hbel.size _).grown hgrow (by have := hbel.size; simp; omega) (fun k hk => (hown.lt k hk).1)
      have hown2 : w1.ownsRow w.heap.size 66 1 v' (ds ++ [m % 4294967296]).length ((ds ++ [m % 4294967296]).map uw) := by
        rw [List.length_append, List.map_append]; exact hown'
      have Ho := Lib.hid hown2; clear hown2 hown' hgrow hown hbel
      go_wp2
      go_roundw
      case rel =>
        refine ⟨m / 4294967296, ds ++ [m % 4294967296], by simp, by omega, Hok.out.append (Ok.mk (by omega) Ok.nil), Ho.out, hb1, ?_⟩
        rw [← Hds.out, dig_pos hm1]
        simp
      case measure => simp [intOf]; omega
end Go.Proofs.Ytmlopkkbgpfdnaa
namespace Go.Proofs.Ytmlopkkbgpfdnaa
open Go.RowKit

theorem make_u32_cap (t : TypeId) (ht : Try.prog.underlying t = some (.slice 66)) (k : Nat) (hk : k ≤ 70368744177664) (w : World) :
    (Instr.makeSlice t (.int .i64 0) (.int .i64 (k : Int))).run Try.prog w = .ok (.slice (some ⟨w.heap.size, 0, none⟩) 0 k) (w.alloc (.cells (U32s (zeros k)) 66)) := by
  obtain ⟨i0, hi, hz0, hz1, hz2⟩ := info_parts info66
  have hr := run_make (P := Try.prog) w t 66 i0 _ ht hi hz0 .i64 .i64 0 k (by omega) (by omega) (by rw [hz2]; omega) (by omega)
  rw [hr, Int.toNat_natCast, hz1, Nat.mul_one, made_zeros]
  rfl

theorem step_own {w wr w1 : World} {v v' : Value} {ds : List Nat} {x : Nat} {o : Obj} (hbel : Below w.heap.size w wr) (hown : wr.ownsRow w.heap.size 66 1 v ds.length (ds.map uw))
    (hown' : w1.ownsRow w.heap.size 66 1 v' (ds.length + 1) (ds.map uw ++ [uw x])) (hgrow : (wr.alloc o).grownBy w1 v.ownBlock) :
    Below w.heap.size w w1 ∧ w1.ownsRow w.heap.size 66 1 v' (ds ++ [x]).length ((ds ++ [x]).map uw) :=
  ⟨(hbel.alloc hbel.size _).grown hgrow (by have := hbel.size; simp; omega) (fun k hk => (hown.lt k hk).1), by
    rw [List.length_append, List.map_append]; exact hown'⟩

set_option maxHeartbeats 1600000 in
set_option maxRecDepth 100000 in
/-- ref plus -/
theorem plusR_any (x y : Nat) (u v : Value) (w : World) (hx : Wd w u (dig x)) (hy : Wd w v (dig y)) (lx : (dig x).length ≤ 1000000) (ly : (dig y).length ≤ 1000000) :
    Calls Try.prog 72 #[u, v] w fun e w' => ∃ r, e = .returned r ∧ Wd w' r (dig (x + y)) ∧ Below w.heap.size w w' := by
  obtain ⟨i0, hi, hz0, hz1, hz2⟩ := info_parts info66
  obtain ⟨A, c, rfl, -, -⟩ := hx.shape
  obtain ⟨A', c', rfl, -, -⟩ := hy.shape
  obtain ⟨nx, hnx⟩ : ∃ n, n = (dig x).length := ⟨_, rfl⟩
  obtain ⟨ny, hny⟩ : ∃ n, n = (dig y).length := ⟨_, rfl⟩
  rw [← hnx] at lx hx ⊢
  rw [← hny] at ly hy ⊢
  have Hx := Lib.hid hx; clear hx
  have Hy := Lib.hid hy; clear hy
  have Hnx := Lib.hid hnx; clear hnx
  have Hny := Lib.hid hny; clear hny
  obtain ⟨n, hn, h1, h2, h3⟩ : ∃ n : Nat, max (nx : Int) (ny : Int) = (n : Int) ∧ nx ≤ n ∧ ny ≤ n ∧ n ≤ 1000000 := ⟨max nx ny, by omega, by omega, by omega, by omega⟩
  have hn' : n = nx ∨ n = ny := by omega
  have Hn' := Lib.hid hn'; clear hn'
  have hmk : ∀ w, (Instr.makeSlice 32 (.int .i64 0) (.int .i64 ((n : Int) + 1))).run Try.prog w = .ok (.slice (some ⟨w.heap.size, 0, none⟩) 0 (n + 1)) (w.alloc (.cells (U32s (zeros (n + 1))) 66)) := fun w => make_u32_cap 32 Try.underlying32 (n + 1) (by omega) w
  have hsz0 : (U32s (zeros (n + 1))).size = n + 1 := by simp [U32s, zeros]
  have Hsz0 := Lib.hid hsz0; clear hsz0
  go_enter Try.func72, Try.ntmps72
  go_wp2_with fail
  go_loopw [5, 6, 7] (fun ov cr i wr => ∃ (k cv : Nat) (ds : List Nat), i = .int .i64 k ∧ k ≤ n ∧ cr = .int .u64 cv ∧ cv ≤ 1 ∧ ds.length = k ∧ Ok ds ∧ wr.ownsRow w.heap.size 66 1 ov ds.length (ds.map uw) ∧ Below w.heap.size w wr ∧
      val ds + 4294967296 ^ k * cv = x % 4294967296 ^ k + y % 4294967296 ^ k) (fun _ _ i _ => n - (intOf i).toNat)
  case atStart => exact ⟨0, 0, [], rfl, Nat.zero_le _, rfl, by omega, rfl, Ok.nil, World.ownsRow_made w _ (n + 1) (Nat.le_refl _) (by unfold maxLen; omega) (by rw [Hsz0.out]; omega), below_alloc _ _, by simp [val, Nat.mod_one]⟩
  case round =>
    obtain ⟨k, cv, ds, rfl, hk, rfl, hcv, hL, hok, hown, hbel, hval⟩ := hrel
    have HV := Lib.hid hval; clear hval
    have hL1 : ds.length ≤ 1000000 := by omega
    have HL := Lib.hid hL; clear hL
    have HX := Lib.hid (Hx.out.below hbel)
    have HY := Lib.hid (Hy.out.below hbel)
    by_cases hlx : k < nx
    · by_cases hly : k < ny
      · have hpx : (k : Int) < (nx : Int) := by omega
        have hdx : decide ((k : Int) < (nx : Int)) = true := by simp; omega
        obtain ⟨bx, ox, rfl, -, hcx⟩ := Wd.cell (k := k) HX.out (by omega)
        have c1 := hcx k (by omega)
        clear hcx
        obtain ⟨p, hp⟩ : ∃ p, p = dg x k := ⟨_, rfl⟩
        have hpl : p < 4294967296 := by rw [hp]; exact dg_lt _ _
        rw [← hp] at c1
        have Hp := Lib.hid hp; clear hp
        have hpy : (k : Int) < (ny : Int) := by omega
        have hdy : decide ((k : Int) < (ny : Int)) = true := by simp; omega
        obtain ⟨by_, oy, rfl, -, hcy⟩ := Wd.cell (k := k) HY.out (by omega)
        have c2 := hcy k (by omega)
        clear hcy
        obtain ⟨q, hq⟩ : ∃ q, q = dg y k := ⟨_, rfl⟩
        have hql : q < 4294967296 := by rw [hq]; exact dg_lt _ _
        rw [← hq] at c2
        have Hq := Lib.hid hq; clear hq
        go_wp2_with (at_builtin; refine wpList_append_own _ rfl _ _ 32 rfl w.heap.size 66 i0 (.int .u32 0) 1 4 Try.underlying32 hi hz0 hz1 hz2 rfl (by decide) _ _ _ rfl (hown.alloc _) ⟨wr.heap.size, 0, none⟩ 1 1 [uw ((cv + p + q) % 4294967296)] rfl rfl ?c1 ?c2 ?c3 ?c4 ?c5 ?_)
        case c1 =>
          intro j u hj
          match j, hj with
          | 0, hj => simp at hj; subst hj; simp [Addr.add, uw]
        case c2 => intro u hu; simp at hu; subst hu; rfl
        case c3 => unfold maxLen; omega
        case c4 => omega
        case c5 => have := hbel.size; simp; omega
        intro v' w1 hown' hgrow _
        obtain ⟨hb1, ho1⟩ := step_own hbel hown hown' hgrow
        have Ho := Lib.hid ho1; clear ho1 hown' hgrow hown hbel
        go_wp2
        go_roundw
        case rel =>
          refine ⟨k + 1, (cv + p + q) / 4294967296, ds ++ [(cv + p + q) % 4294967296], by simp, by omega, by simp, by omega, by rw [List.length_append, HL.out]; rfl, hok.append (Ok.mk (by omega) Ok.nil), Ho.out, hb1, ?_⟩
          rw [val_append, HL.out]
          simp only [val, Nat.mul_zero, Nat.add_zero]
          exact add_round HV.out (by rw [← Hp.out, ← Hq.out]; omega)
        case measure => simp [intOf]; omega
      · have hpx : (k : Int) < (nx : Int) := by omega
        have hdx : decide ((k : Int) < (nx : Int)) = true := by simp; omega
        obtain ⟨bx, ox, rfl, -, hcx⟩ := Wd.cell (k := k) HX.out (by omega)
        have c1 := hcx k (by omega)
        clear hcx
        obtain ⟨p, hp⟩ : ∃ p, p = dg x k := ⟨_, rfl⟩
        have hpl : p < 4294967296 := by rw [hp]; exact dg_lt _ _
        rw [← hp] at c1
        have Hp := Lib.hid hp; clear hp
        have hpy : (ny : Int) ≤ (k : Int) := by omega
        have hdy : decide ((k : Int) < (ny : Int)) = false := by simp; omega
        obtain ⟨q, hq0⟩ : ∃ q, q = 0 := ⟨_, rfl⟩
        have hq : q = dg y k := by rw [hq0, dg_zero (by rw [← Hny.out]; omega)]
        have hql : q < 4294967296 := by omega
        have Hq := Lib.hid hq; clear hq
        have Hq0 := Lib.hid hq0; clear hq0
        go_wp2_with (at_builtin; refine wpList_append_own _ rfl _ _ 32 rfl w.heap.size 66 i0 (.int .u32 0) 1 4 Try.underlying32 hi hz0 hz1 hz2 rfl (by decide) _ _ _ rfl (hown.alloc _) ⟨wr.heap.size, 0, none⟩ 1 1 [uw ((cv + p) % 4294967296)] rfl rfl ?c1 ?c2 ?c3 ?c4 ?c5 ?_)
        case c1 =>
          intro j u hj
          match j, hj with
          | 0, hj => simp at hj; subst hj; simp [Addr.add, uw]
        case c2 => intro u hu; simp at hu; subst hu; rfl
        case c3 => unfold maxLen; omega
        case c4 => omega
        case c5 => have := hbel.size; simp; omega
        intro v' w1 hown' hgrow _
        obtain ⟨hb1, ho1⟩ := step_own hbel hown hown' hgrow
        have Ho := Lib.hid ho1; clear ho1 hown' hgrow hown hbel
        go_wp2
        go_roundw
        case rel =>
          refine ⟨k + 1, (cv + p) / 4294967296, ds ++ [(cv + p) % 4294967296], by simp, by omega, by simp, by omega, by rw [List.length_append, HL.out]; rfl, hok.append (Ok.mk (by omega) Ok.nil), Ho.out, hb1, ?_⟩
          rw [val_append, HL.out]
          simp only [val, Nat.mul_zero, Nat.add_zero]
          exact add_round HV.out (by rw [← Hp.out, ← Hq.out, Hq0.out]; omega)
        case measure => simp [intOf]; omega
    · by_cases hly : k < ny
      · have hpx : (nx : Int) ≤ (k : Int) := by omega
        have hdx : decide ((k : Int) < (nx : Int)) = false := by simp; omega
        obtain ⟨p, hp0⟩ : ∃ p, p = 0 := ⟨_, rfl⟩
        have hp : p = dg x k := by rw [hp0, dg_zero (by rw [← Hnx.out]; omega)]
        have hpl : p < 4294967296 := by omega
        have Hp := Lib.hid hp; clear hp
        have Hp0 := Lib.hid hp0; clear hp0
        have hpy : (k : Int) < (ny : Int) := by omega
        have hdy : decide ((k : Int) < (ny : Int)) = true := by simp; omega
        obtain ⟨by_, oy, rfl, -, hcy⟩ := Wd.cell (k := k) HY.out (by omega)
        have c2 := hcy k (by omega)
        clear hcy
        obtain ⟨q, hq⟩ : ∃ q, q = dg y k := ⟨_, rfl⟩
        have hql : q < 4294967296 := by rw [hq]; exact dg_lt _ _
        rw [← hq] at c2
        have Hq := Lib.hid hq; clear hq
        go_wp2_with (at_builtin; refine wpList_append_own _ rfl _ _ 32 rfl w.heap.size 66 i0 (.int .u32 0) 1 4 Try.underlying32 hi hz0 hz1 hz2 rfl (by decide) _ _ _ rfl (hown.alloc _) ⟨wr.heap.size, 0, none⟩ 1 1 [uw ((cv + q) % 4294967296)] rfl rfl ?c1 ?c2 ?c3 ?c4 ?c5 ?_)
        case c1 =>
          intro j u hj
          match j, hj with
          | 0, hj => simp at hj; subst hj; simp [Addr.add, uw]
        case c2 => intro u hu; simp at hu; subst hu; rfl
        case c3 => unfold maxLen; omega
        case c4 => omega
        case c5 => have := hbel.size; simp; omega
        intro v' w1 hown' hgrow _
        obtain ⟨hb1, ho1⟩ := step_own hbel hown hown' hgrow
        have Ho := Lib.hid ho1; clear ho1 hown' hgrow hown hbel
        go_wp2
        go_roundw
        case rel =>
          refine ⟨k + 1, (cv + q) / 4294967296, ds ++ [(cv + q) % 4294967296], by simp, by omega, by simp, by omega, by rw [List.length_append, HL.out]; rfl, hok.append (Ok.mk (by omega) Ok.nil), Ho.out, hb1, ?_⟩
          rw [val_append, HL.out]
          simp only [val, Nat.mul_zero, Nat.add_zero]
          exact add_round HV.out (by rw [← Hp.out, ← Hq.out, Hp0.out]; omega)
        case measure => simp [intOf]; omega
      · have hkn : k = n := by rcases Hn'.out with h | h <;> omega
        have hdx : decide ((k : Int) < (nx : Int)) = false := by simp; omega
        have hdy : decide ((k : Int) < (ny : Int)) = false := by simp; omega
        clear Hn' hn
        subst hkn
        go_wp2_with (at_builtin; refine wpList_append_own _ rfl _ _ 32 rfl w.heap.size 66 i0 (.int .u32 0) 1 4 Try.underlying32 hi hz0 hz1 hz2 rfl (by decide) _ _ _ rfl (hown.alloc _) ⟨wr.heap.size, 0, none⟩ 1 1 [uw (cv)] rfl rfl ?c1 ?c2 ?c3 ?c4 ?c5 ?_)
        case c1 =>
          intro j u hj
          match j, hj with
          | 0, hj => simp at hj; subst hj; simp [Addr.add, uw]
        case c2 => intro u hu; simp at hu; subst hu; rfl
        case c3 => unfold maxLen; omega
        case c4 => omega
        case c5 => have := hbel.size; simp; omega
        intro v' w1 hown' hgrow _
        obtain ⟨hb1, ho1⟩ := step_own hbel hown hown' hgrow
        have hw := Wd.of_own ho1 (hok.append (Ok.mk (by omega) Ok.nil))
        have hv : val (ds ++ [cv]) = x + y := by
          rw [val_append, HL.out]
          simp only [val, Nat.mul_zero, Nat.add_zero]
          rw [HV.out, mod_len (x := x) (by rw [← Hnx.out]; omega), mod_len (x := y) (by rw [← Hny.out]; omega)]
        have Hw := Lib.hid hw; clear hw hown' hgrow hown hbel ho1
        have Hv := Lib.hid hv; clear hv
        go_wp2_with fail
        refine (trimR_any _ _ _ Hw.out).mono ?_
        rintro e w' ⟨r, rfl, hr, rfl⟩
        rw [Hv.out] at hr
        go_wp2
        go_ret
        exact ⟨r, rfl, hr, hb1⟩
end Go.Proofs.Ytmlopkkbgpfdnaa
namespace Go.Proofs.Ytmlopkkbgpfdnaa
open Go.RowKit

set_option maxHeartbeats 800000 in
set_option maxRecDepth 100000 in
/-- ref less -/
theorem lessR_any (x y : Nat) (u v : Value) (w : World) (hx : Wd w u (dig x)) (hy : Wd w v (dig y)) (lx : (dig x).length ≤ 1000000) (hyx : y ≤ x) :
    Calls Try.prog 73 #[u, v] w fun e w' => ∃ r, e = .returned r ∧ Wd w' r (dig (x - y)) ∧ Below w.heap.size w w' := by
  have hly := dig_len_mono hyx
  obtain ⟨A, c, rfl, -, -⟩ := hx.shape
  obtain ⟨A', c', rfl, -, -⟩ := hy.shape
  obtain ⟨nx, hnx⟩ : ∃ n, n = (dig x).length := ⟨_, rfl⟩
  obtain ⟨ny, hny⟩ : ∃ n, n = (dig y).length := ⟨_, rfl⟩
  rw [← hnx] at lx hx hly ⊢
  rw [← hny] at hy hly ⊢
  have Hx := Lib.hid hx; clear hx
  have Hy := Lib.hid hy; clear hy
  have Hnx := Lib.hid hnx; clear hnx
  have Hny := Lib.hid hny; clear hny
  have Hyx := Lib.hid hyx; clear hyx
  have hmk : ∀ w, (Instr.makeSlice 32 (.int .i64 (nx : Int)) (.int .i64 (nx : Int))).run Try.prog w = .ok (.slice (some ⟨w.heap.size, 0, none⟩) nx nx) (w.alloc (.cells (U32s (zeros nx)) 66)) := fun w => make_u32 32 Try.underlying32 nx (by omega) w
  go_enter Try.func73, Try.ntmps73
  go_wp2_with fail
  go_loopw [6, 14] (fun cr i wr => ∃ (k cv : Nat) (L : List Nat), i = .int .i64 k ∧ k ≤ nx ∧ cr = .int .u64 cv ∧ cv ≤ 1 ∧ L.length = nx ∧ Ok L ∧ Blk wr w.heap.size L ∧ Below w.heap.size w wr ∧
      val (L.take k) + y % 4294967296 ^ k = x % 4294967296 ^ k + 4294967296 ^ k * cv) (fun _ i _ => nx - (intOf i).toNat)
  case atStart => exact ⟨0, 0, zeros nx, rfl, Nat.zero_le _, rfl, by omega, zeros_length _, zeros_ok _, heap_alloc_new w _, below_alloc _ _, by simp [val, Nat.mod_one]⟩
  case round =>
    obtain ⟨k, cv, L, rfl, hk, rfl, hcv, hL, hok, hblk, hbel, hval⟩ := hrel
    have HV := Lib.hid hval; clear hval
    have HL := Lib.hid hL; clear hL
    have HX := Lib.hid (Hx.out.below hbel)
    have HY := Lib.hid (Hy.out.below hbel)
    by_cases hlt : k < nx
    · have hfr := hblk.frozen k
      have hce := hblk.cell (i := k) (by rw [HL.out]; omega)
      have hB := Lib.hid hblk; clear hblk
      obtain ⟨b, off, rfl, hb, hc⟩ := Wd.cell (k := k) HX.out hlt
      have hxk := hc k hlt
      clear hc
      obtain ⟨p, hp⟩ : ∃ p, p = dg x k := ⟨_, rfl⟩
      have hpl : p < 4294967296 := by rw [hp]; exact dg_lt _ _
      rw [← hp] at hxk
      have Hp := Lib.hid hp; clear hp
      by_cases hky : k < ny
      · obtain ⟨b', off', rfl, hb', hc'⟩ := Wd.cell (k := k) HY.out hky
        have hyk := hc' k hky
        clear hc'
        obtain ⟨q, hq⟩ : ∃ q, q = dg y k := ⟨_, rfl⟩
        have hql : q < 4294967296 := by rw [hq]; exact dg_lt _ _
        rw [← hq] at hyk
        have Hq := Lib.hid hq; clear hq
        by_cases hge : q + cv ≤ p
        · go_wp2_with fail
          have w1 : ((p : Int) - cv - q) = ((p - cv - q : Nat) : Int) := by omega
          have w2 : ((p : Int) - cv - q) / 9223372036854775808 = ((0 : Nat) : Int) := by omega
          rw [w2, w1]
          go_roundw
          case rel =>
            refine ⟨k + 1, 0, L.set k (p - cv - q), by go_num, by omega, rfl, by omega, by rw [List.length_set, HL.out], hok.set (by omega), hB.out.set_ k _, hbel.setCell (Nat.le_refl _) _, ?_⟩
            rw [val_take_set (by rw [HL.out]; omega)]
            exact sub_round HV.out hcv (by rw [← Hp.out, ← Hq.out]; omega) (by rw [← Hp.out, ← Hq.out]; rw [if_neg (by omega)])
          case measure => simp [intOf]; omega
        · have hlt2 : p < q + cv := by omega
          go_wp2_with fail
          have w1 : (IntKind.u64.wrap (IntKind.u64.wrap ((p : Int) - cv) - q)) % 4294967296 = ((p + 4294967296 - q - cv : Nat) : Int) := by rw [IntKind.wrap_u64, IntKind.wrap_u64]; omega
          have w2 : (IntKind.u64.wrap (IntKind.u64.wrap ((p : Int) - cv) - q)) / 9223372036854775808 = ((1 : Nat) : Int) := by rw [IntKind.wrap_u64, IntKind.wrap_u64]; omega
          rw [w1, w2]
          go_roundw
          case rel =>
            refine ⟨k + 1, 1, L.set k (p + 4294967296 - q - cv), by go_num, by omega, rfl, by omega, by rw [List.length_set, HL.out], hok.set (by omega), hB.out.set_ k _, hbel.setCell (Nat.le_refl _) _, ?_⟩
            rw [val_take_set (by rw [HL.out]; omega)]
            exact sub_round HV.out hcv (by rw [← Hp.out, ← Hq.out]; omega) (by rw [← Hp.out, ← Hq.out]; rw [if_pos (by omega)])
          case measure => simp [intOf]; omega
      · have hq : 0 = dg y k := by rw [dg_zero (by rw [← Hny.out]; omega)]
        have Hq := Lib.hid hq; clear hq
        by_cases hge : cv ≤ p
        · go_wp2_with fail
          have w1 : ((p : Int) - cv) = ((p - cv : Nat) : Int) := by omega
          have w2 : ((p : Int) - cv) / 9223372036854775808 = ((0 : Nat) : Int) := by omega
          rw [w2, w1]
          go_roundw
          case rel =>
            refine ⟨k + 1, 0, L.set k (p - cv), by go_num, by omega, rfl, by omega, by rw [List.length_set, HL.out], hok.set (by omega), hB.out.set_ k _, hbel.setCell (Nat.le_refl _) _, ?_⟩
            rw [val_take_set (by rw [HL.out]; omega)]
            exact sub_round HV.out hcv (by rw [← Hp.out, ← Hq.out]; omega) (by rw [← Hp.out, ← Hq.out]; rw [if_neg (by omega)])
          case measure => simp [intOf]; omega
        · have hlt2 : p < cv := by omega
          go_wp2_with fail
          have w1 : (IntKind.u64.wrap ((p : Int) - cv)) % 4294967296 = ((p + 4294967296 - cv : Nat) : Int) := by rw [IntKind.wrap_u64]; omega
          have w2 : (IntKind.u64.wrap ((p : Int) - cv)) / 9223372036854775808 = ((1 : Nat) : Int) := by rw [IntKind.wrap_u64]; omega
          rw [w1, w2]
          go_roundw
          case rel =>
            refine ⟨k + 1, 1, L.set k (p + 4294967296 - cv), by go_num, by omega, rfl, by omega, by rw [List.length_set, HL.out], hok.set (by omega), hB.out.set_ k _, hbel.setCell (Nat.le_refl _) _, ?_⟩
            rw [val_take_set (by rw [HL.out]; omega)]
            exact sub_round HV.out hcv (by rw [← Hp.out, ← Hq.out]; omega) (by rw [← Hp.out, ← Hq.out]; rw [if_pos (by omega)])
          case measure => simp [intOf]; omega
    · have hkn : k = nx := by omega
      subst hkn
      have hB := Lib.hid hblk; clear hblk
      have hv : val L = x - y := by
        have e := HV.out
        rw [List.take_of_length_le (by rw [HL.out]; omega), mod_len (x := x) (by rw [← Hnx.out]; omega)] at e
        have hxl := val_lt hok
        rw [HL.out] at hxl
        have hyy : y % 4294967296 ^ k = y := mod_len (by rw [← Hny.out]; exact hly)
        rw [hyy] at e
        have := Hyx.out
        rcases (by omega : cv = 0 ∨ cv = 1) with h | h
        · subst h; omega
        · subst h; have hlt := lt_of_dig_len (n := x) (k := k) (by rw [← Hnx.out]; omega); omega
      have hw2 := hB.out.wd hok (by rw [HL.out]; omega) k (by rw [HL.out]; omega) (by omega)
      rw [HL.out] at hw2
      have Hw := Lib.hid hw2; clear hw2
      have Hv := Lib.hid hv; clear hv
      go_wp2_with fail
      refine (trimR_any _ _ _ Hw.out).mono ?_
      rintro e w' ⟨r, rfl, hr, rfl⟩
      rw [Hv.out] at hr
      go_wp2
      go_ret
      exact ⟨r, rfl, hr, hbel⟩
end Go.Proofs.Ytmlopkkbgpfdnaa
namespace Go.Proofs.Ytmlopkkbgpfdnaa
open Go.RowKit

set_option maxRecDepth 100000 in
/-- ref times -/
theorem timesR_any (x y : Nat) (u v : Value) (w : World) (hx : Wd w u (dig x)) (hy : Wd w v (dig y)) (lx : (dig x).length ≤ 1000000) (ly : (dig y).length ≤ 1000000) :
    Calls Try.prog 74 #[u, v] w fun e w' => ∃ r, e = .returned r ∧ Wd w' r (dig (x * y)) ∧ Below w.heap.size w w' := by
  obtain ⟨A, c, rfl, -, -⟩ := hx.shape
  obtain ⟨A', c', rfl, -, -⟩ := hy.shape
  obtain ⟨n, hn⟩ : ∃ n, n = (dig x).length := ⟨_, rfl⟩
  obtain ⟨m, hm⟩ : ∃ m, m = (dig y).length := ⟨_, rfl⟩
  rw [← hn] at lx hx ⊢
  rw [← hm] at ly hy ⊢
  have Hn := Lib.hid hn; clear hn
  have Hm := Lib.hid hm; clear hm
  have Hx := Lib.hid hx; clear hx
  have Hy := Lib.hid hy; clear hy
  have hmk : ∀ w, (Instr.makeSlice 32 (.int .i64 ((n : Int) + m)) (.int .i64 ((n : Int) + m))).run Try.prog w = .ok (.slice (some ⟨w.heap.size, 0, none⟩) (n + m) (n + m)) (w.alloc (.cells (U32s (zeros (n + m))) 66)) := fun w => make_u32 32 Try.underlying32 (n + m) (by omega) w
  go_enter Try.func74, Try.ntmps74
  go_wp2_with fail
  go_loopw [19] (fun i wr => ∃ (k : Nat) (L : List Nat), i = .int .i64 k ∧ k ≤ n ∧ L.length = n + m ∧ Ok L ∧ Blk wr w.heap.size L ∧ Below w.heap.size w wr ∧
      val L = x % 4294967296 ^ k * y ∧ ∀ p, k + m ≤ p → L.getD p 0 = 0) (fun i _ => n - (intOf i).toNat)
  case atStart => exact ⟨0, zeros (n + m), rfl, Nat.zero_le _, zeros_length _, zeros_ok _, heap_alloc_new w _, below_alloc _ _, by simp [val_zeros, Nat.mod_one], fun p _ => zeros_getD _ p⟩
  case round =>
    obtain ⟨k, L, rfl, hk, hL, hok, hblk, hbel, hval, hz⟩ := hrel
    have HV := Lib.hid hval; clear hval
    have HL := Lib.hid hL; clear hL
    have HZ := Lib.hid hz; clear hz
    have HB := Lib.hid hblk; clear hblk
    by_cases hlt : k < n
    · obtain ⟨b, off, rfl, hb, hcx⟩ := Wd.cell (k := k) Hx.out hlt
      have h1 : wr.cell? ⟨b, off + k, none⟩ = some (.int .u32 (dg x k : Nat)) := (hbel.cell (p := ⟨b, off + k, none⟩) hb).trans (hcx k hlt)
      clear hcx
      obtain ⟨p, hp⟩ : ∃ p, p = dg x k := ⟨_, rfl⟩
      have hpl : p < 4294967296 := by rw [hp]; exact dg_lt _ _
      rw [← hp] at h1
      have Hp := Lib.hid hp; clear hp
      go_wp2_with fail
      obtain ⟨w1, rfl⟩ : ∃ w1 : World, w1 = wr := ⟨_, rfl⟩
      go_loopw [8, 26] (fun cr j w2 => ∃ (q cv : Nat) (L2 : List Nat), j = .int .i64 q ∧ q ≤ m ∧ cr = .int .u64 cv ∧ cv < 4294967296 ∧ L2.length = n + m ∧ Ok L2 ∧ Blk w2 w.heap.size L2 ∧ Below w.heap.size w w2 ∧
          val L2 + 4294967296 ^ (k + q) * cv = x % 4294967296 ^ k * y + 4294967296 ^ k * (p * (y % 4294967296 ^ q)) ∧ ∀ r, k + m ≤ r → L2.getD r 0 = 0) (fun _ j _ => m - (intOf j).toNat)
      case atStart => exact ⟨0, 0, L, rfl, Nat.zero_le _, rfl, by omega, HL.out, hok, HB.out, hbel, by rw [HV.out]; simp [Nat.mod_one], HZ.out⟩
      case round =>
        obtain ⟨q, cv, L2, rfl, hq, rfl, hcv, hL2, hok2, hblk2, hbel2, hval2, hz2⟩ := hrel
        have HV2 := Lib.hid hval2; clear hval2
        have HL2 := Lib.hid hL2; clear hL2
        have HZ2 := Lib.hid hz2; clear hz2
        by_cases hlt2 : q < m
        · obtain ⟨b', off', rfl, hb', hcy⟩ := Wd.cell (k := q) Hy.out hlt2
          have h2 : wr.cell? ⟨b', off' + q, none⟩ = some (.int .u32 (dg y q : Nat)) := (hbel2.cell (p := ⟨b', off' + q, none⟩) hb').trans (hcy q hlt2)
          clear hcy
          obtain ⟨r, hr⟩ : ∃ r, r = dg y q := ⟨_, rfl⟩
          have hrl : r < 4294967296 := by rw [hr]; exact dg_lt _ _
          rw [← hr] at h2
          have Hr := Lib.hid hr; clear hr
          have h3 := hblk2.cell (i := k + q) (by rw [HL2.out]; omega)
          have h4 := hblk2.frozen (k + q)
          obtain ⟨a, ha⟩ : ∃ a, a = L2.getD (k + q) 0 := ⟨_, rfl⟩
          have hal : a < 4294967296 := by rw [ha]; exact hok2.getD _
          rw [← ha] at h3
          have Ha := Lib.hid ha; clear ha
          have HB2 := Lib.hid hblk2; clear hblk2
          obtain ⟨s, hs⟩ : ∃ s, s = p * r + a + cv := ⟨_, rfl⟩
          have hsl : s < 18446744073709551616 := by rw [hs]; exact mul_bound hpl hrl hal hcv
          have hprod : p * r < 18446744073709551616 := by omega
          have e1 : ((cv : Int) + (a + p * r)) % 4294967296 = ((s % 4294967296 : Nat) : Int) := by rw [hs]; omega
          have e2 : ((cv : Int) + (a + p * r)) / 4294967296 = ((s / 4294967296 : Nat) : Int) := by rw [hs]; omega
          have E1 := Lib.hid e1; clear e1
          have E2 := Lib.hid e2; clear e2
          have Hs := Lib.hid hs; clear hs
          have hsl' : (cv : Int) + (a + p * r) < 18446744073709551616 := by rw [Hs.out] at hsl; omega
          go_wp2_with fail
          rw [E1.out, E2.out]
          go_roundw
          case rel =>
            refine ⟨q + 1, s / 4294967296, L2.set (k + q) (s % 4294967296), by go_num, by omega, rfl, by omega, by rw [List.length_set, HL2.out], hok2.set (by omega), HB2.out.set_ _ _, hbel2.setCell (Nat.le_refl _) _, ?_, ?_⟩
            · refine mul_round HV2.out (old := a) (lo := s % 4294967296) ?_ (by rw [Hs.out, Hr.out]) rfl rfl
              have := val_set (l := L2) (p := k + q) (v := s % 4294967296) (by rw [HL2.out]; omega)
              rw [← Ha.out] at this
              exact this
            · intro t ht
              rw [getD_set_ne (by omega)]
              exact HZ2.out t ht
          case measure => simp [intOf]; omega
        · have hqm : q = m := by omega
          subst hqm
          have h3 := hblk2.cell (i := k + q) (by rw [HL2.out]; omega)
          have h4 := hblk2.frozen (k + q)
          rw [HZ2.out (k + q) (Nat.le_refl _)] at h3
          have HB2 := Lib.hid hblk2; clear hblk2
          go_wp2_with fail
          go_roundw
          case rel =>
            refine ⟨k + 1, L2.set (k + q) cv, by go_num, by omega, by rw [List.length_set, HL2.out], hok2.set hcv, HB2.out.set_ _ _, hbel2.setCell (Nat.le_refl _) _, ?_, ?_⟩
            · have h5 := val_set (l := L2) (p := k + q) (v := cv) (by rw [HL2.out]; omega)
              rw [HZ2.out (k + q) (Nat.le_refl _), HV2.out, mod_len (x := y) (by rw [← Hm.out]; omega), Hp.out, mul_done] at h5
              simpa using h5
            · intro t ht
              rw [getD_set_ne (by omega)]
              exact HZ2.out t (by omega)
          case measure => simp [intOf]; omega
    · have hkn : k = n := by omega
      subst hkn
      have hv : val L = x * y := by rw [HV.out, mod_len (x := x) (by rw [← Hn.out]; omega)]
      have hw2 := HB.out.wd hok (by rw [HL.out]; omega) (k + m) (by rw [HL.out]; omega) (by omega)
      rw [HL.out] at hw2
      have Hv := Lib.hid hv; clear hv
      have Hw := Lib.hid hw2; clear hw2
      go_wp2_with fail
      refine (trimR_any _ _ _ Hw.out).mono ?_
      rintro e w' ⟨r, rfl, hr, rfl⟩
      rw [Hv.out] at hr
      go_wp2
      go_ret
      exact ⟨r, rfl, hr, hbel⟩
end Go.Proofs.Ytmlopkkbgpfdnaa
namespace Go.Proofs.Ytmlopkkbgpfdnaa
open Go.RowKit

set_option maxRecDepth 100000 in
theorem of_any (p : Bool) (A : Option Addr) (n c : Nat) (w : World) :
    Calls Try.prog 36 #[.agg #[.bool p, .slice A n c]] w fun e w' => e = .returned (.agg #[.bool p, .slice A n c]) ∧ Below w.heap.size w w' := by
  go_enter Try.func36, Try.ntmps36
  go_wp2
  exact bodyPost_ret (v := .agg #[.bool p, .slice A n c]) (by simp [results, Try.results36, go_sem]) rfl ⟨rfl, below2 _ _ _⟩

set_option maxRecDepth 100000 in
theorem int_any (p : Bool) (A : Option Addr) (n c : Nat) (w : World) :
    Calls Try.prog 17 #[.agg #[.bool p, .slice A n c]] w fun e w' => e = .returned (.agg #[.bool p, .slice A n c]) ∧ Below w.heap.size w w' := by
  go_enter Try.func17, Try.ntmps17
  go_wp2
  exact bodyPost_ret (v := .agg #[.bool p, .slice A n c]) (by simp [results, Try.results17, go_sem]) rfl ⟨rfl, below2 _ _ _⟩

set_option maxRecDepth 100000 in
/-- ref Minus -/
theorem minusR_any (z : Int) (a : Value) (w : World) (ha : ZV w a z) : Calls Try.prog 41 #[a] w (RetZ w (-z)) := by
  obtain ⟨A, n, c, rfl, hv, hn, hl⟩ := ha.open_
  obtain ⟨p, hp⟩ : ∃ p, p = decide (z < 0) := ⟨_, rfl⟩
  rw [← hp]
  have Hp := Lib.hid hp; clear hp ha
  have Hn := Lib.hid hn; clear hn
  have Hv := Lib.hid hv; clear hv
  go_enter Try.func41, Try.ntmps41
  go_wp2_with fail
  refine (signedR_any (!p) A n c _ hl).mono ?_
  rintro e w1 ⟨rfl, hb1⟩
  have hR := (RB.b2 w false none 0 0 34 (Obj.cells #[.bool p, .slice A n c] 34)).below hb1 (by simp)
  obtain ⟨a0, A0, n0, c0, k10, k11, k20, k21⟩ := hR.facts
  have s0 := hR.set0 (!p && decide (0 < n)) (.slice A n c)
  have s1 := hR.set1 (!p && decide (0 < n)) (.slice A n c)
  have hb := (below2 w (Obj.cells #[.bool p, .slice A n c] 34) (Obj.cells #[.bool false, .slice none 0 0] 34)).trans (hb1.mono (by simp; omega))
  have fin := And.intro ((Hv.out.below hb).rb hR (.bool (!p && decide (0 < n))) (.slice A n c)) (below_set2 (g := w.heap.size + 1) (i := 0) (j := 1) hb (by omega) (.bool (!p && decide (0 < n))) (.slice A n c))
  have Fin := Lib.hid fin; clear fin hR hb hb1
  go_wp2
  refine bodyPost_ret (v := .agg #[.bool (!p && decide (0 < n)), .slice A n c]) (by simp [results, Try.results41, go_sem, s0, s1]) rfl ⟨_, rfl, ZV.mk ?_ ?_, Fin.out.2⟩
  · rw [Hp.out, Hn.out, Bool.eq_iff_iff]
    simp only [Bool.and_eq_true, Bool.not_eq_true', decide_eq_false_iff_not, decide_eq_true_eq, dig_len_pos]
    omega
  · rw [Int.natAbs_neg]; exact Fin.out.1

/-- ref Sign -/
theorem signR_any (z : Int) (a : Value) (w : World) (ha : ZV w a z) : Calls Try.prog 38 #[a] w fun e w' => e = .returned (.int .i64 z.sign) ∧ Below w.heap.size w w' := by
  obtain ⟨A, n, c, rfl, hv, hn, hl⟩ := ha.open_
  have hn0 := @dig_len_pos z.natAbs
  rw [← hn] at hn0
  have Hb := Lib.hid (below_alloc w (Obj.cells #[.bool (decide (z < 0)), .slice A n c] 34))
  clear ha hv hn
  rcases Int.lt_trichotomy z 0 with h | h | h
  · have e1 : decide (z < 0) = true := by simpa using h
    have h0 : 0 < n := hn0.2 (by omega)
    rw [Int.sign_eq_neg_one_of_neg h]
    rw [e1] at Hb ⊢
    clear e1 hn0
    go_enter Try.func38, Try.ntmps38
    go_wp2
    go_ret
    exact ⟨rfl, Hb.out⟩
  · have e1 : decide (z < 0) = false := by simp; omega
    have h0 : n = 0 := by
      rcases Nat.eq_zero_or_pos n with h1 | h1
      · exact h1
      · have := hn0.1 h1; omega
    subst h0 h
    rw [Int.sign_zero]
    rw [e1] at Hb ⊢
    clear hn0 e1
    go_enter Try.func38, Try.ntmps38
    go_wp2
    go_ret
    exact ⟨rfl, Hb.out⟩
  · have e1 : decide (z < 0) = false := by simp; omega
    have h0 : 0 < n := hn0.2 (by omega)
    rw [Int.sign_eq_one_of_pos h]
    rw [e1] at Hb ⊢
    clear e1 hn0
    go_enter Try.func38, Try.ntmps38
    go_wp2
    go_ret
    exact ⟨rfl, Hb.out⟩
theorem zeroR_any (z : Int) (a : Value) (w : World) (ha : ZV w a z) : Calls Try.prog 39 #[a] w fun e w' => e = .returned (.bool (decide (z = 0))) ∧ Below w.heap.size w w' := by
  obtain ⟨A, n, c, rfl, -, hn, -⟩ := ha.open_
  have he : decide (z = 0) = decide (n = 0) := by
    rw [hn, decide_eq_decide]
    have := @dig_len_pos z.natAbs
    omega
  rw [he]
  clear ha hn
  have hb := below_alloc w (Obj.cells #[.bool (decide (z < 0)), .slice A n c] 34)
  obtain ⟨p, hp⟩ : ∃ p, p = decide (z < 0) := ⟨_, rfl⟩
  rw [← hp] at hb ⊢
  have Hb := Lib.hid hb; clear hb hp he
  go_enter Try.func39, Try.ntmps39
  go_wp2
  go_ret
  refine ⟨?_, Hb.out⟩
  by_cases h : n = 0
  · subst h; rfl
  · simp [h]

theorem fitsR_any (z : Int) (a : Value) (w : World) (ha : ZV w a z) : Calls Try.prog 80 #[a] w fun e w' => e = .returned (.bool (decide ((dig z.natAbs).length ≤ 256))) ∧ Below w.heap.size w w' := by
  obtain ⟨A, n, c, rfl, -, hn, -⟩ := ha.open_
  rw [← hn]
  clear ha hn
  have hb := below_alloc w (Obj.cells #[.bool (decide (z < 0)), .slice A n c] 34)
  obtain ⟨p, hp⟩ : ∃ p, p = decide (z < 0) := ⟨_, rfl⟩
  rw [← hp] at hb ⊢
  have Hb := Lib.hid hb; clear hb hp
  go_enter Try.func80, Try.ntmps80
  go_wp2
  go_ret
  exact ⟨by simp; omega, Hb.out⟩

end Go.Proofs.Ytmlopkkbgpfdnaa
namespace Go.Proofs.Ytmlopkkbgpfdnaa
open Go.RowKit

set_option maxHeartbeats 400000 in
set_option maxRecDepth 100000 in
theorem plusRZ_same (x y : Nat) (p q : Bool) (u v : Value) (w : World) (hpq : (p == q) = true) (hx : Wd w u (dig x)) (hy : Wd w v (dig y)) (lx : (dig x).length ≤ 1000000) (ly : (dig y).length ≤ 1000000) :
    Calls Try.prog 34 #[.agg #[.bool p, u], .agg #[.bool q, v]] w fun e w' => ∃ r, e = .returned (.agg #[.bool (p && decide (0 < (dig (x + y)).length)), r]) ∧ Wd w' r (dig (x + y)) ∧ Below w.heap.size w w' := by
  have Hx := Lib.hid hx
  have Hy := Lib.hid hy
  obtain ⟨A, n, c, rfl⟩ := hx.slice_
  obtain ⟨A', n', c', rfl⟩ := hy.slice_
  clear hx hy
  go_enter Try.func34, Try.ntmps34
  go_wp2_with fail
  have hb3 := below3 w (Obj.cells #[.bool p, .slice A n c] 34) (Obj.cells #[.bool q, .slice A' n' c'] 34) (Obj.cells #[.bool false, .slice none 0 0] 34)
  have Hx3 := Lib.hid (Hx.out.below hb3)
  have Hy3 := Lib.hid (Hy.out.below hb3)
  have nq0 : True := trivial
  have f1 : (((w.alloc (Obj.cells #[.bool p, .slice A n c] 34)).alloc (Obj.cells #[.bool q, .slice A' n' c'] 34)).alloc (Obj.cells #[.bool false, .slice none 0 0] 34)).cell? ⟨w.heap.size, 0, none⟩ = some (.bool p) := old1 0
  have f2 : (((w.alloc (Obj.cells #[.bool p, .slice A n c] 34)).alloc (Obj.cells #[.bool q, .slice A' n' c'] 34)).alloc (Obj.cells #[.bool false, .slice none 0 0] 34)).cell? ⟨w.heap.size, 1, none⟩ = some (.slice A n c) := old1 1
  have f3 : (((w.alloc (Obj.cells #[.bool p, .slice A n c] 34)).alloc (Obj.cells #[.bool q, .slice A' n' c'] 34)).alloc (Obj.cells #[.bool false, .slice none 0 0] 34)).cell? ⟨w.heap.size + 1, 1, none⟩ = some (.slice A' n' c') := old2 1
  have HRx : RB (((w.alloc (Obj.cells #[.bool p, .slice A n c] 34)).alloc (Obj.cells #[.bool q, .slice A' n' c'] 34)).alloc (Obj.cells #[.bool false, .slice none 0 0] 34)) (w.heap.size + 1 + 1) := RB.a3 w false none 0 0 34 _ _
  have hx4 : Wd (((w.alloc (Obj.cells #[.bool p, .slice A n c] 34)).alloc (Obj.cells #[.bool q, .slice A' n' c'] 34)).alloc (Obj.cells #[.bool false, .slice none 0 0] 34)) (.slice A n c) (dig x) := Hx3.out
  have hy4 : Wd (((w.alloc (Obj.cells #[.bool p, .slice A n c] 34)).alloc (Obj.cells #[.bool q, .slice A' n' c'] 34)).alloc (Obj.cells #[.bool false, .slice none 0 0] 34)) (.slice A' n' c') (dig y) := Hy3.out
  have hb4 : Below w.heap.size w (((w.alloc (Obj.cells #[.bool p, .slice A n c] 34)).alloc (Obj.cells #[.bool q, .slice A' n' c'] 34)).alloc (Obj.cells #[.bool false, .slice none 0 0] 34)) := hb3
  have z0 : w.heap.size + 1 + 1 + 1 ≤ (((w.alloc (Obj.cells #[.bool p, .slice A n c] 34)).alloc (Obj.cells #[.bool q, .slice A' n' c'] 34)).alloc (Obj.cells #[.bool false, .slice none 0 0] 34)).heap.size := by simp
  clear Hx3 Hy3 hb3 Hx Hy
  generalize (((w.alloc (Obj.cells #[.bool p, .slice A n c] 34)).alloc (Obj.cells #[.bool q, .slice A' n' c'] 34)).alloc (Obj.cells #[.bool false, .slice none 0 0] 34)) = W3 at *
  have Hx3 := Lib.hid hx4; clear hx4
  have Hy3 := Lib.hid hy4; clear hy4
  have Hb3 := Lib.hid hb4; clear hb4
  have HR := Lib.hid HRx; clear HRx
  go_region_held3 (fun w' => w'.cell? ⟨w.heap.size, 0, none⟩ = some (.bool p) ∧ w'.cell? ⟨w.heap.size, 1, none⟩ = some (.slice A n c) ∧ w'.cell? ⟨w.heap.size + 1, 1, none⟩ = some (.slice A' n' c'))
    (first | exact ⟨f1, f2, f3⟩ | (go_split_ands; exact ⟨(far2 (by omega)).trans (by assumption), (far2 (by omega)).trans (by assumption), (far2 (by omega)).trans (by assumption)⟩) | (go_split_ands; exact ⟨keepAt hb1 (by simp <;> omega) (by assumption), keepAt hb1 (by simp <;> omega) (by assumption), keepAt hb1 (by simp <;> omega) (by assumption)⟩) | (go_split_ands; exact ⟨keepAt hb2 (by omega) (by assumption), keepAt hb2 (by omega) (by assumption), keepAt hb2 (by omega) (by assumption)⟩))
    (first | (go_at_call 72; refine (asSlice (plusR_any x y _ _ _ (by exact Hx3.out) (by exact Hy3.out) lx ly)).mono ?_; rintro e w1 ⟨A5, n5, c5, rfl, hr, hb1⟩; have z1 : w.heap.size + 1 + 1 + 1 ≤ w1.heap.size := (by have h := (hb1).size; have h0 := z0; simp at h h0; omega); have hl5 := hr.len_le; have hR1 := HR.out.below (undrew hb1) (by simp <;> omega)) | (go_at_call 70; refine (signedR_any p A5 n5 c5 _ hl5).mono ?_; rintro e w2 ⟨rfl, hb2⟩; have z2 := hb2.size; have hR := hR1.below hb2 (by omega); obtain ⟨a0, A0, n0, c0, k10, k11, k20, k21⟩ := hR.facts))
  have s0 := hR.set0 (p && decide (0 < n5)) (.slice A5 n5 c5)
  have s1 := hR.set1 (p && decide (0 < n5)) (.slice A5 n5 c5)
  have fin : Wd ((w2.setCell ⟨w.heap.size + 1 + 1, 0, none⟩ (.bool (p && decide (0 < n5)))).setCell ⟨w.heap.size + 1 + 1, 1, none⟩ (.slice A5 n5 c5)) (.slice A5 n5 c5) (dig (x + y)) ∧ Below w.heap.size w ((w2.setCell ⟨w.heap.size + 1 + 1, 0, none⟩ (.bool (p && decide (0 < n5)))).setCell ⟨w.heap.size + 1 + 1, 1, none⟩ (.slice A5 n5 c5)) :=
    ⟨(hr.below hb2).rb hR _ _, below_set2 ((Hb3.out.trans ((undrew hb1).mono (by simp <;> omega))).trans (hb2.mono (by omega))) (by omega) _ _⟩
  have Fin := Lib.hid fin; clear fin
  have hn5 := hr.len
  have Hn5 := Lib.hid hn5; clear hn5
  go_wp2
  exact bodyPost_ret (v := .agg #[.bool (p && decide (0 < n5)), .slice A5 n5 c5]) (by simp [results, Try.results34, go_sem, s0, s1]) rfl ⟨.slice A5 n5 c5, by rw [← Hn5.out], Fin.out.1, Fin.out.2⟩

set_option maxHeartbeats 400000 in
set_option maxRecDepth 100000 in
theorem plusRZ_big (x y : Nat) (p q : Bool) (u v : Value) (w : World) (hpq : (p == q) = false) (hx : Wd w u (dig x)) (hy : Wd w v (dig y)) (lx : (dig x).length ≤ 1000000) (hyx : y ≤ x) :
    Calls Try.prog 34 #[.agg #[.bool p, u], .agg #[.bool q, v]] w fun e w' => ∃ r, e = .returned (.agg #[.bool (p && decide (0 < (dig (x - y)).length)), r]) ∧ Wd w' r (dig (x - y)) ∧ Below w.heap.size w w' := by
  have Hx := Lib.hid hx
  have Hy := Lib.hid hy
  obtain ⟨A, n, c, rfl⟩ := hx.slice_
  obtain ⟨A', n', c', rfl⟩ := hy.slice_
  clear hx hy
  go_enter Try.func34, Try.ntmps34
  go_wp2_with fail
  have hb3 := below3 w (Obj.cells #[.bool p, .slice A n c] 34) (Obj.cells #[.bool q, .slice A' n' c'] 34) (Obj.cells #[.bool false, .slice none 0 0] 34)
  have Hx3 := Lib.hid (Hx.out.below hb3)
  have Hy3 := Lib.hid (Hy.out.below hb3)
  have hcm : cmpN x y = 0 ∨ cmpN x y = 1 := by
    rcases Nat.lt_or_ge y x with h | h
    · right; exact cmpN_gt h
    · left; exact cmpN_eq (by omega)
  refine (orderR_any x y _ _ _ Hx3.out Hy3.out).mono ?_
  rintro e w2 ⟨rfl, nq, rfl⟩
  obtain ⟨cm, hcme, hcm0⟩ : ∃ cm : Int, cm = cmpN x y ∧ 0 ≤ cm := ⟨_, rfl, by omega⟩
  rw [← hcme]
  clear hcme hcm
  go_wp2_with fail
  have f1 : ((((w.alloc (Obj.cells #[.bool p, .slice A n c] 34)).alloc (Obj.cells #[.bool q, .slice A' n' c'] 34)).alloc (Obj.cells #[.bool false, .slice none 0 0] 34)).drewN nq).cell? ⟨w.heap.size, 0, none⟩ = some (.bool p) := old1 0
  have f2 : ((((w.alloc (Obj.cells #[.bool p, .slice A n c] 34)).alloc (Obj.cells #[.bool q, .slice A' n' c'] 34)).alloc (Obj.cells #[.bool false, .slice none 0 0] 34)).drewN nq).cell? ⟨w.heap.size, 1, none⟩ = some (.slice A n c) := old1 1
  have f3 : ((((w.alloc (Obj.cells #[.bool p, .slice A n c] 34)).alloc (Obj.cells #[.bool q, .slice A' n' c'] 34)).alloc (Obj.cells #[.bool false, .slice none 0 0] 34)).drewN nq).cell? ⟨w.heap.size + 1, 1, none⟩ = some (.slice A' n' c') := old2 1
  have HRx : RB ((((w.alloc (Obj.cells #[.bool p, .slice A n c] 34)).alloc (Obj.cells #[.bool q, .slice A' n' c'] 34)).alloc (Obj.cells #[.bool false, .slice none 0 0] 34)).drewN nq) (w.heap.size + 1 + 1) := RB.a3 w false none 0 0 34 _ _
  have hx4 : Wd ((((w.alloc (Obj.cells #[.bool p, .slice A n c] 34)).alloc (Obj.cells #[.bool q, .slice A' n' c'] 34)).alloc (Obj.cells #[.bool false, .slice none 0 0] 34)).drewN nq) (.slice A n c) (dig x) := Hx3.out
  have hy4 : Wd ((((w.alloc (Obj.cells #[.bool p, .slice A n c] 34)).alloc (Obj.cells #[.bool q, .slice A' n' c'] 34)).alloc (Obj.cells #[.bool false, .slice none 0 0] 34)).drewN nq) (.slice A' n' c') (dig y) := Hy3.out
  have hb4 : Below w.heap.size w ((((w.alloc (Obj.cells #[.bool p, .slice A n c] 34)).alloc (Obj.cells #[.bool q, .slice A' n' c'] 34)).alloc (Obj.cells #[.bool false, .slice none 0 0] 34)).drewN nq) := Below.toDrewN hb3 nq
  have z0 : w.heap.size + 1 + 1 + 1 ≤ ((((w.alloc (Obj.cells #[.bool p, .slice A n c] 34)).alloc (Obj.cells #[.bool q, .slice A' n' c'] 34)).alloc (Obj.cells #[.bool false, .slice none 0 0] 34)).drewN nq).heap.size := by simp [World.drewN]
  clear Hx3 Hy3 hb3 Hx Hy
  generalize ((((w.alloc (Obj.cells #[.bool p, .slice A n c] 34)).alloc (Obj.cells #[.bool q, .slice A' n' c'] 34)).alloc (Obj.cells #[.bool false, .slice none 0 0] 34)).drewN nq) = W3 at *
  have Hx3 := Lib.hid hx4; clear hx4
  have Hy3 := Lib.hid hy4; clear hy4
  have Hb3 := Lib.hid hb4; clear hb4
  have HR := Lib.hid HRx; clear HRx
  go_region_held3 (fun w' => w'.cell? ⟨w.heap.size, 0, none⟩ = some (.bool p) ∧ w'.cell? ⟨w.heap.size, 1, none⟩ = some (.slice A n c) ∧ w'.cell? ⟨w.heap.size + 1, 1, none⟩ = some (.slice A' n' c'))
    (first | exact ⟨f1, f2, f3⟩ | (go_split_ands; exact ⟨(far2 (by omega)).trans (by assumption), (far2 (by omega)).trans (by assumption), (far2 (by omega)).trans (by assumption)⟩) | (go_split_ands; exact ⟨keepAt hb1 (by simp <;> omega) (by assumption), keepAt hb1 (by simp <;> omega) (by assumption), keepAt hb1 (by simp <;> omega) (by assumption)⟩) | (go_split_ands; exact ⟨keepAt hb2 (by omega) (by assumption), keepAt hb2 (by omega) (by assumption), keepAt hb2 (by omega) (by assumption)⟩))
    (first | (go_at_call 73; refine (asSlice (lessR_any x y _ _ _ (by exact Hx3.out) (by exact Hy3.out) lx hyx)).mono ?_; rintro e w1 ⟨A5, n5, c5, rfl, hr, hb1⟩; have z1 : w.heap.size + 1 + 1 + 1 ≤ w1.heap.size := (by have h := (hb1).size; have h0 := z0; simp at h h0; omega); have hl5 := hr.len_le; have hR1 := HR.out.below (undrew hb1) (by simp <;> omega)) | (go_at_call 70; refine (signedR_any p A5 n5 c5 _ hl5).mono ?_; rintro e w2 ⟨rfl, hb2⟩; have z2 := hb2.size; have hR := hR1.below hb2 (by omega); obtain ⟨a0, A0, n0, c0, k10, k11, k20, k21⟩ := hR.facts))
  have s0 := hR.set0 (p && decide (0 < n5)) (.slice A5 n5 c5)
  have s1 := hR.set1 (p && decide (0 < n5)) (.slice A5 n5 c5)
  have fin : Wd ((w2.setCell ⟨w.heap.size + 1 + 1, 0, none⟩ (.bool (p && decide (0 < n5)))).setCell ⟨w.heap.size + 1 + 1, 1, none⟩ (.slice A5 n5 c5)) (.slice A5 n5 c5) (dig (x - y)) ∧ Below w.heap.size w ((w2.setCell ⟨w.heap.size + 1 + 1, 0, none⟩ (.bool (p && decide (0 < n5)))).setCell ⟨w.heap.size + 1 + 1, 1, none⟩ (.slice A5 n5 c5)) :=
    ⟨(hr.below hb2).rb hR _ _, below_set2 ((Hb3.out.trans ((undrew hb1).mono (by simp <;> omega))).trans (hb2.mono (by omega))) (by omega) _ _⟩
  have Fin := Lib.hid fin; clear fin
  have hn5 := hr.len
  have Hn5 := Lib.hid hn5; clear hn5
  go_wp2
  exact bodyPost_ret (v := .agg #[.bool (p && decide (0 < n5)), .slice A5 n5 c5]) (by simp [results, Try.results34, go_sem, s0, s1]) rfl ⟨.slice A5 n5 c5, by rw [← Hn5.out], Fin.out.1, Fin.out.2⟩

set_option maxHeartbeats 400000 in
set_option maxRecDepth 100000 in
theorem plusRZ_small (x y : Nat) (p q : Bool) (u v : Value) (w : World) (hpq : (p == q) = false) (hx : Wd w u (dig x)) (hy : Wd w v (dig y)) (lx : (dig y).length ≤ 1000000) (hxy : x < y) :
    Calls Try.prog 34 #[.agg #[.bool p, u], .agg #[.bool q, v]] w fun e w' => ∃ r, e = .returned (.agg #[.bool (q && decide (0 < (dig (y - x)).length)), r]) ∧ Wd w' r (dig (y - x)) ∧ Below w.heap.size w w' := by
  have Hx := Lib.hid hx
  have Hy := Lib.hid hy
  obtain ⟨A, n, c, rfl⟩ := hx.slice_
  obtain ⟨A', n', c', rfl⟩ := hy.slice_
  clear hx hy
  go_enter Try.func34, Try.ntmps34
  go_wp2_with fail
  have hb3 := below3 w (Obj.cells #[.bool p, .slice A n c] 34) (Obj.cells #[.bool q, .slice A' n' c'] 34) (Obj.cells #[.bool false, .slice none 0 0] 34)
  have Hx3 := Lib.hid (Hx.out.below hb3)
  have Hy3 := Lib.hid (Hy.out.below hb3)
  have hcm : cmpN x y = -1 := cmpN_lt hxy
  refine (orderR_any x y _ _ _ Hx3.out Hy3.out).mono ?_
  rintro e w2 ⟨rfl, nq, rfl⟩
  rw [hcm]
  clear hcm
  go_wp2_with fail
  have f1 : ((((w.alloc (Obj.cells #[.bool p, .slice A n c] 34)).alloc (Obj.cells #[.bool q, .slice A' n' c'] 34)).alloc (Obj.cells #[.bool false, .slice none 0 0] 34)).drewN nq).cell? ⟨w.heap.size + 1, 0, none⟩ = some (.bool q) := old2 0
  have f2 : ((((w.alloc (Obj.cells #[.bool p, .slice A n c] 34)).alloc (Obj.cells #[.bool q, .slice A' n' c'] 34)).alloc (Obj.cells #[.bool false, .slice none 0 0] 34)).drewN nq).cell? ⟨w.heap.size + 1, 1, none⟩ = some (.slice A' n' c') := old2 1
  have f3 : ((((w.alloc (Obj.cells #[.bool p, .slice A n c] 34)).alloc (Obj.cells #[.bool q, .slice A' n' c'] 34)).alloc (Obj.cells #[.bool false, .slice none 0 0] 34)).drewN nq).cell? ⟨w.heap.size, 1, none⟩ = some (.slice A n c) := old1 1
  have HRx : RB ((((w.alloc (Obj.cells #[.bool p, .slice A n c] 34)).alloc (Obj.cells #[.bool q, .slice A' n' c'] 34)).alloc (Obj.cells #[.bool false, .slice none 0 0] 34)).drewN nq) (w.heap.size + 1 + 1) := RB.a3 w false none 0 0 34 _ _
  have hx4 : Wd ((((w.alloc (Obj.cells #[.bool p, .slice A n c] 34)).alloc (Obj.cells #[.bool q, .slice A' n' c'] 34)).alloc (Obj.cells #[.bool false, .slice none 0 0] 34)).drewN nq) (.slice A n c) (dig x) := Hx3.out
  have hy4 : Wd ((((w.alloc (Obj.cells #[.bool p, .slice A n c] 34)).alloc (Obj.cells #[.bool q, .slice A' n' c'] 34)).alloc (Obj.cells #[.bool false, .slice none 0 0] 34)).drewN nq) (.slice A' n' c') (dig y) := Hy3.out
  have hb4 : Below w.heap.size w ((((w.alloc (Obj.cells #[.bool p, .slice A n c] 34)).alloc (Obj.cells #[.bool q, .slice A' n' c'] 34)).alloc (Obj.cells #[.bool false, .slice none 0 0] 34)).drewN nq) := Below.toDrewN hb3 nq
  have z0 : w.heap.size + 1 + 1 + 1 ≤ ((((w.alloc (Obj.cells #[.bool p, .slice A n c] 34)).alloc (Obj.cells #[.bool q, .slice A' n' c'] 34)).alloc (Obj.cells #[.bool false, .slice none 0 0] 34)).drewN nq).heap.size := by simp [World.drewN]
  clear Hx3 Hy3 hb3 Hx Hy
  generalize ((((w.alloc (Obj.cells #[.bool p, .slice A n c] 34)).alloc (Obj.cells #[.bool q, .slice A' n' c'] 34)).alloc (Obj.cells #[.bool false, .slice none 0 0] 34)).drewN nq) = W3 at *
  have Hx3 := Lib.hid hx4; clear hx4
  have Hy3 := Lib.hid hy4; clear hy4
  have Hb3 := Lib.hid hb4; clear hb4
  have HR := Lib.hid HRx; clear HRx
  go_region_held3 (fun w' => w'.cell? ⟨w.heap.size + 1, 0, none⟩ = some (.bool q) ∧ w'.cell? ⟨w.heap.size + 1, 1, none⟩ = some (.slice A' n' c') ∧ w'.cell? ⟨w.heap.size, 1, none⟩ = some (.slice A n c))
    (first | exact ⟨f1, f2, f3⟩ | (go_split_ands; exact ⟨(far2 (by omega)).trans (by assumption), (far2 (by omega)).trans (by assumption), (far2 (by omega)).trans (by assumption)⟩) | (go_split_ands; exact ⟨keepAt hb1 (by simp <;> omega) (by assumption), keepAt hb1 (by simp <;> omega) (by assumption), keepAt hb1 (by simp <;> omega) (by assumption)⟩) | (go_split_ands; exact ⟨keepAt hb2 (by omega) (by assumption), keepAt hb2 (by omega) (by assumption), keepAt hb2 (by omega) (by assumption)⟩))
    (first | (go_at_call 73; refine (asSlice (lessR_any y x _ _ _ (by exact Hy3.out) (by exact Hx3.out) lx (Nat.le_of_lt hxy))).mono ?_; rintro e w1 ⟨A5, n5, c5, rfl, hr, hb1⟩; have z1 : w.heap.size + 1 + 1 + 1 ≤ w1.heap.size := (by have h := (hb1).size; have h0 := z0; simp at h h0; omega); have hl5 := hr.len_le; have hR1 := HR.out.below (undrew hb1) (by simp <;> omega)) | (go_at_call 70; refine (signedR_any q A5 n5 c5 _ hl5).mono ?_; rintro e w2 ⟨rfl, hb2⟩; have z2 := hb2.size; have hR := hR1.below hb2 (by omega); obtain ⟨a0, A0, n0, c0, k10, k11, k20, k21⟩ := hR.facts))
  have s0 := hR.set0 (q && decide (0 < n5)) (.slice A5 n5 c5)
  have s1 := hR.set1 (q && decide (0 < n5)) (.slice A5 n5 c5)
  have fin : Wd ((w2.setCell ⟨w.heap.size + 1 + 1, 0, none⟩ (.bool (q && decide (0 < n5)))).setCell ⟨w.heap.size + 1 + 1, 1, none⟩ (.slice A5 n5 c5)) (.slice A5 n5 c5) (dig (y - x)) ∧ Below w.heap.size w ((w2.setCell ⟨w.heap.size + 1 + 1, 0, none⟩ (.bool (q && decide (0 < n5)))).setCell ⟨w.heap.size + 1 + 1, 1, none⟩ (.slice A5 n5 c5)) :=
    ⟨(hr.below hb2).rb hR _ _, below_set2 ((Hb3.out.trans ((undrew hb1).mono (by simp <;> omega))).trans (hb2.mono (by omega))) (by omega) _ _⟩
  have Fin := Lib.hid fin; clear fin
  have hn5 := hr.len
  have Hn5 := Lib.hid hn5; clear hn5
  go_wp2
  exact bodyPost_ret (v := .agg #[.bool (q && decide (0 < n5)), .slice A5 n5 c5]) (by simp [results, Try.results34, go_sem, s0, s1]) rfl ⟨.slice A5 n5 c5, by rw [← Hn5.out], Fin.out.1, Fin.out.2⟩

/-- the sum of two whole numbers, in the reference -/
theorem plusRZ_any (x y : Int) (u v : Value) (w : World) (hx : ZV w u x) (hy : ZV w v y) (lx : (dig x.natAbs).length ≤ 1000000) (ly : (dig y.natAbs).length ≤ 1000000) :
    Calls Try.prog 34 #[u, v] w (RetZ w (x + y)) := by
  obtain ⟨u, rfl, hu⟩ := hx
  obtain ⟨v, rfl, hv⟩ := hy
  by_cases h : decide (x < 0) = decide (y < 0)
  · have hpq : (decide (x < 0) == decide (y < 0)) = true := by simpa using h
    refine (plusRZ_same _ _ _ _ u v w hpq hu hv lx ly).mono ?_
    rintro e w' ⟨r, rfl, hr, hb⟩
    have e2 : (x + y).natAbs = x.natAbs + y.natAbs := by simp at h; omega
    refine ⟨_, rfl, ⟨r, ?_, by rw [e2]; exact hr⟩, hb⟩
    congr 4
    rw [Bool.eq_iff_iff]
    simp only [Bool.and_eq_true, decide_eq_true_eq, dig_len_pos]
    simp at h; omega
  · have hpq : (decide (x < 0) == decide (y < 0)) = false := by simpa using h
    rcases Nat.lt_or_ge x.natAbs y.natAbs with hl | hl
    · refine (plusRZ_small _ _ _ _ u v w hpq hu hv ly hl).mono ?_
      rintro e w' ⟨r, rfl, hr, hb⟩
      have e2 : (x + y).natAbs = y.natAbs - x.natAbs := by simp at h; omega
      refine ⟨_, rfl, ⟨r, ?_, by rw [e2]; exact hr⟩, hb⟩
      congr 4
      rw [Bool.eq_iff_iff]
      simp only [Bool.and_eq_true, decide_eq_true_eq, dig_len_pos]
      simp at h; omega
    · refine (plusRZ_big _ _ _ _ u v w hpq hu hv lx hl).mono ?_
      rintro e w' ⟨r, rfl, hr, hb⟩
      have e2 : (x + y).natAbs = x.natAbs - y.natAbs := by simp at h; omega
      refine ⟨_, rfl, ⟨r, ?_, by rw [e2]; exact hr⟩, hb⟩
      congr 4
      rw [Bool.eq_iff_iff]
      simp only [Bool.and_eq_true, decide_eq_true_eq, dig_len_pos]
      simp at h; omega

end Go.Proofs.Ytmlopkkbgpfdnaa
namespace Go.Proofs.Ytmlopkkbgpfdnaa
open Go.RowKit

set_option maxHeartbeats 400000 in
set_option maxRecDepth 100000 in
/-- ref Less -/
theorem lessRZ_any (x y : Int) (u v : Value) (w : World) (hx : ZV w u x) (hy : ZV w v y) (lx : (dig x.natAbs).length ≤ 1000000) (ly : (dig y.natAbs).length ≤ 1000000) :
    Calls Try.prog 60 #[u, v] w (RetZ w (x - y)) := by
  obtain ⟨A, n, c, rfl, -, -, -⟩ := hx.open_
  obtain ⟨A', n', c', rfl, -, -, -⟩ := hy.open_
  obtain ⟨p, hp⟩ : ∃ p, p = decide (x < 0) := ⟨_, rfl⟩
  obtain ⟨q, hq⟩ : ∃ q, q = decide (y < 0) := ⟨_, rfl⟩
  rw [← hp] at hx ⊢
  rw [← hq] at hy ⊢
  clear hp hq
  have Hx := Lib.hid hx; clear hx
  have Hy := Lib.hid hy; clear hy
  go_enter Try.func60, Try.ntmps60
  go_wp2_with fail
  have hb3 := below3 w (Obj.cells #[.bool p, .slice A n c] 34) (Obj.cells #[.bool q, .slice A' n' c'] 34) (Obj.cells #[.bool false, .slice none 0 0] 34)
  have Hx3 := Lib.hid (Hx.out.below hb3)
  have Hy3 := Lib.hid (Hy.out.below hb3)
  have Hb3 := Lib.hid hb3; clear hb3
  have HR := Lib.hid (RB.a3 w false none 0 0 34 (Obj.cells #[.bool p, .slice A n c] 34) (Obj.cells #[.bool q, .slice A' n' c'] 34))
  go_region_held3 (fun w' => w'.cell? ⟨w.heap.size, 0, none⟩ = some (.bool p) ∧ w'.cell? ⟨w.heap.size, 1, none⟩ = some (.slice A n c) ∧ w'.cell? ⟨w.heap.size + 1, 0, none⟩ = some (.bool q) ∧ w'.cell? ⟨w.heap.size + 1, 1, none⟩ = some (.slice A' n' c'))
    (first | exact ⟨old1 0, old1 1, old2 0, old2 1⟩ | (go_split_ands; exact ⟨(far2 (by omega)).trans (by assumption), (far2 (by omega)).trans (by assumption), (far2 (by omega)).trans (by assumption), (far2 (by omega)).trans (by assumption)⟩) | (go_split_ands; exact ⟨keepAt hb1 (by simp <;> omega) (by assumption), keepAt hb1 (by simp <;> omega) (by assumption), keepAt hb1 (by simp <;> omega) (by assumption), keepAt hb1 (by simp <;> omega) (by assumption)⟩) | (go_split_ands; exact ⟨keepAt hb2 (by omega) (by assumption), keepAt hb2 (by omega) (by assumption), keepAt hb2 (by omega) (by assumption), keepAt hb2 (by omega) (by assumption)⟩))
    (first | (go_at_call 41; refine (asAgg (minusR_any y _ _ (by exact Hy3.out))).mono ?_; rintro e w1 ⟨b4, A4, n4, c4, rfl, hr, hb1⟩; have z1 : w.heap.size + 1 + 1 + 1 ≤ w1.heap.size := (by have h := (undrew hb1).size; simp at h; omega); have hR1 := HR.out.below (undrew hb1) (by simp <;> omega); have hx1 := Hx3.out.below (undrew hb1)) | (go_at_call 34; refine (asAgg (plusRZ_any x (-y) _ _ _ hx1 hr lx (by rw [Int.natAbs_neg]; exact ly))).mono ?_; rintro e w2 ⟨b5, A5, n5, c5, rfl, hr5, hb2⟩; have z2 := hb2.size; have hR := hR1.below hb2 (by omega); obtain ⟨a0, A0, n0, c0, k10, k11, k20, k21⟩ := hR.facts))
  have s0 := hR.set0 b5 (.slice A5 n5 c5)
  have s1 := hR.set1 b5 (.slice A5 n5 c5)
  have fin := And.intro (hr5.rb hR (.bool b5) (.slice A5 n5 c5)) (below_set2 (g := w.heap.size + 1 + 1) (i := 0) (j := 1) ((Hb3.out.trans ((undrew hb1).mono (by simp <;> omega))).trans (hb2.mono (by omega))) (by omega) (.bool b5) (.slice A5 n5 c5))
  have Fin := Lib.hid fin; clear fin
  go_wp2
  exact bodyPost_ret (v := .agg #[.bool b5, .slice A5 n5 c5]) (by simp [results, Try.results60, go_sem, s0, s1]) rfl ⟨_, rfl, by rw [Int.sub_eq_add_neg]; exact Fin.out.1, Fin.out.2⟩

set_option maxRecDepth 100000 in
/-- ref Order -/
theorem orderRZ_any (x y : Int) (u v : Value) (w : World) (hx : ZV w u x) (hy : ZV w v y) (lx : (dig x.natAbs).length ≤ 1000000) (ly : (dig y.natAbs).length ≤ 1000000) :
    Calls Try.prog 37 #[u, v] w fun e w' => e = .returned (.int .i64 (x - y).sign) ∧ Below w.heap.size w w' := by
  obtain ⟨A, n, c, rfl, -, -, -⟩ := hx.open_
  obtain ⟨A', n', c', rfl, -, -, -⟩ := hy.open_
  obtain ⟨p, hp⟩ : ∃ p, p = decide (x < 0) := ⟨_, rfl⟩
  obtain ⟨q, hq⟩ : ∃ q, q = decide (y < 0) := ⟨_, rfl⟩
  rw [← hp] at hx ⊢
  rw [← hq] at hy ⊢
  clear hp hq
  have Hx := Lib.hid hx; clear hx
  have Hy := Lib.hid hy; clear hy
  go_enter Try.func37, Try.ntmps37
  go_wp2_with fail
  have hb2 := below2 w (Obj.cells #[.bool p, .slice A n c] 34) (Obj.cells #[.bool q, .slice A' n' c'] 34)
  refine (asAgg (lessRZ_any x y _ _ _ (Hx.out.below hb2) (Hy.out.below hb2) lx ly)).mono ?_
  rintro e w1 ⟨b4, A4, n4, c4, rfl, hr, hb1⟩
  have hb := hb2.trans (hb1.mono (by simp; omega))
  clear hb1 hb2
  have Hr := Lib.hid hr; clear hr
  have Hb := Lib.hid hb; clear hb
  go_wp2_with fail
  refine (signR_any (x - y) _ _ Hr.out).mono ?_
  rintro e w2 ⟨rfl, hb2⟩
  have hb := Hb.out.trans (hb2.mono Hb.out.size)
  obtain ⟨sg, hsg⟩ : ∃ sg, sg = (x - y).sign := ⟨_, rfl⟩
  rw [← hsg]
  have Hsg := Lib.hid hsg; clear hsg
  go_wp2
  go_ret
  exact ⟨by rw [← Hsg.out]; rfl, hb⟩

end Go.Proofs.Ytmlopkkbgpfdnaa
