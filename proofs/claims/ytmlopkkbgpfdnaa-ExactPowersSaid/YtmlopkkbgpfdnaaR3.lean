/- Walks: the reference's naturals: plus. -/
import Derived.Test.YtmlopkkbgpfdnaaR2
namespace Go.Proofs.Ytmlopkkbgpfdnaa
open Go.RowKit

theorem make_u32_cap (t : TypeId) (ht : Try.prog.underlying t = some (.slice 66)) (k : Nat) (hk : k ≤ 70368744177664) (w : World) :
    (Instr.makeSlice t (.int .i64 0) (.int .i64 (k : Int))).run Try.prog w = .ok (.slice (some ⟨w.heap.size, 0, none⟩) 0 k) (w.alloc (.cells (U32s (zeros k)) 66)) := by
  obtain ⟨i0, hi, hz0, hz1, hz2⟩ := info_parts info66
  have hr := run_make (P := Try.prog) w t 66 i0 _ ht hi hz0 .i64 .i64 0 k (by omega) (by omega) (by rw [hz2]; omega) (by omega)
  rw [hr, Int.toNat_natCast, hz1, Nat.mul_one, made_zeros]
  rfl

theorem step_own {w wr w1 : World} {v v' : Value} {ds : List Nat} {x : Nat} {o : Obj} (hbel : Below w.heap.size w wr) (hown : wr.ownsRow w.heap.size 66 1 v ds.length (ds.map uw))
    (hown' : w1.ownsRow w.heap.size 66 1 v' (ds.length + 1) (ds.map uw ++ [uw x])) (hgrow : (wr.alloc o).grownBy w1 v.ownBlock) :
    Below w.heap.size w w1 ∧ w1.ownsRow w.heap.size 66 1 v' (ds ++ [x]).length ((ds ++ [x]).map uw) :=
  ⟨(hbel.alloc hbel.size _).grown hgrow (by have := hbel.size; simp; omega) (fun k hk => (hown.lt k hk).1), by
    rw [List.length_append, List.map_append]; exact hown'⟩

set_option maxHeartbeats 1600000 in
set_option maxRecDepth 100000 in
/-- ref plus -/
theorem plusR_any (x y : Nat) (u v : Value) (w : World) (hx : Wd w u (dig x)) (hy : Wd w v (dig y)) (lx : (dig x).length ≤ 1000000) (ly : (dig y).length ≤ 1000000) :
    Calls Try.prog 72 #[u, v] w fun e w' => ∃ r, e = .returned r ∧ Wd w' r (dig (x + y)) ∧ Below w.heap.size w w' := by
  obtain ⟨i0, hi, hz0, hz1, hz2⟩ := info_parts info66
  obtain ⟨A, c, rfl, -, -⟩ := hx.shape
  obtain ⟨A', c', rfl, -, -⟩ := hy.shape
  obtain ⟨nx, hnx⟩ : ∃ n, n = (dig x).length := ⟨_, rfl⟩
  obtain ⟨ny, hny⟩ : ∃ n, n = (dig y).length := ⟨_, rfl⟩
  rw [← hnx] at lx hx ⊢
  rw [← hny] at ly hy ⊢
  have Hx := Lib.hid hx; clear hx
  have Hy := Lib.hid hy; clear hy
  have Hnx := Lib.hid hnx; clear hnx
  have Hny := Lib.hid hny; clear hny
  obtain ⟨n, hn, h1, h2, h3⟩ : ∃ n : Nat, max (nx : Int) (ny : Int) = (n : Int) ∧ nx ≤ n ∧ ny ≤ n ∧ n ≤ 1000000 := ⟨max nx ny, by omega, by omega, by omega, by omega⟩
  have hn' : n = nx ∨ n = ny := by omega
  have Hn' := Lib.hid hn'; clear hn'
  have hmk : ∀ w, (Instr.makeSlice 32 (.int .i64 0) (.int .i64 ((n : Int) + 1))).run Try.prog w = .ok (.slice (some ⟨w.heap.size, 0, none⟩) 0 (n + 1)) (w.alloc (.cells (U32s (zeros (n + 1))) 66)) := fun w => make_u32_cap 32 Try.underlying32 (n + 1) (by omega) w
  have hsz0 : (U32s (zeros (n + 1))).size = n + 1 := by simp [U32s, zeros]
  have Hsz0 := Lib.hid hsz0; clear hsz0
  go_enter Try.func72, Try.ntmps72
  go_wp2_with fail
  go_loopw [5, 6, 7] (fun ov cr i wr => ∃ (k cv : Nat) (ds : List Nat), i = .int .i64 k ∧ k ≤ n ∧ cr = .int .u64 cv ∧ cv ≤ 1 ∧ ds.length = k ∧ Ok ds ∧ wr.ownsRow w.heap.size 66 1 ov ds.length (ds.map uw) ∧ Below w.heap.size w wr ∧
      val ds + 4294967296 ^ k * cv = x % 4294967296 ^ k + y % 4294967296 ^ k) (fun _ _ i _ => n - (intOf i).toNat)
  case atStart => exact ⟨0, 0, [], rfl, Nat.zero_le _, rfl, by omega, rfl, Ok.nil, World.ownsRow_made w _ (n + 1) (Nat.le_refl _) (by unfold maxLen; omega) (by rw [Hsz0.out]; omega), below_alloc _ _, by simp [val, Nat.mod_one]⟩
  case round =>
    obtain ⟨k, cv, ds, rfl, hk, rfl, hcv, hL, hok, hown, hbel, hval⟩ := hrel
    have HV := Lib.hid hval; clear hval
    have hL1 : ds.length ≤ 1000000 := by omega
    have HL := Lib.hid hL; clear hL
    have HX := Lib.hid (Hx.out.below hbel)
    have HY := Lib.hid (Hy.out.below hbel)
    by_cases hlx : k < nx
    · by_cases hly : k < ny
      · have hpx : (k : Int) < (nx : Int) := by omega
        have hdx : decide ((k : Int) < (nx : Int)) = true := by simp; omega
        obtain ⟨bx, ox, rfl, -, hcx⟩ := Wd.cell (k := k) HX.out (by omega)
        have c1 := hcx k (by omega)
        clear hcx
        obtain ⟨p, hp⟩ : ∃ p, p = dg x k := ⟨_, rfl⟩
        have hpl : p < 4294967296 := by rw [hp]; exact dg_lt _ _
        rw [← hp] at c1
        have Hp := Lib.hid hp; clear hp
        have hpy : (k : Int) < (ny : Int) := by omega
        have hdy : decide ((k : Int) < (ny : Int)) = true := by simp; omega
        obtain ⟨by_, oy, rfl, -, hcy⟩ := Wd.cell (k := k) HY.out (by omega)
        have c2 := hcy k (by omega)
        clear hcy
        obtain ⟨q, hq⟩ : ∃ q, q = dg y k := ⟨_, rfl⟩
        have hql : q < 4294967296 := by rw [hq]; exact dg_lt _ _
        rw [← hq] at c2
        have Hq := Lib.hid hq; clear hq
        go_wp2_with (at_builtin; refine wpList_append_own _ rfl _ _ 32 rfl w.heap.size 66 i0 (.int .u32 0) 1 4 Try.underlying32 hi hz0 hz1 hz2 rfl (by decide) _ _ _ rfl (hown.alloc _) ⟨wr.heap.size, 0, none⟩ 1 1 [uw ((cv + p + q) % 4294967296)] rfl rfl ?c1 ?c2 ?c3 ?c4 ?c5 ?_)
        case c1 =>
          intro j u hj
          match j, hj with
          | 0, hj => simp at hj; subst hj; simp [Addr.add, uw]
        case c2 => intro u hu; simp at hu; subst hu; rfl
        case c3 => unfold maxLen; omega
        case c4 => omega
        case c5 => have := hbel.size; simp; omega
        intro v' w1 hown' hgrow _
        obtain ⟨hb1, ho1⟩ := step_own hbel hown hown' hgrow
        have Ho := Lib.hid ho1; clear ho1 hown' hgrow hown hbel
        go_wp2
        go_roundw
        case rel =>
          refine ⟨k + 1, (cv + p + q) / 4294967296, ds ++ [(cv + p + q) % 4294967296], by simp, by omega, by simp, by omega, by rw [List.length_append, HL.out]; rfl, hok.append (Ok.mk (by omega) Ok.nil), Ho.out, hb1, ?_⟩
          rw [val_append, HL.out]
          simp only [val, Nat.mul_zero, Nat.add_zero]
          exact add_round HV.out (by rw [← Hp.out, ← Hq.out]; omega)
        case measure => simp [intOf]; omega
      · have hpx : (k : Int) < (nx : Int) := by omega
        have hdx : decide ((k : Int) < (nx : Int)) = true := by simp; omega
        obtain ⟨bx, ox, rfl, -, hcx⟩ := Wd.cell (k := k) HX.out (by omega)
        have c1 := hcx k (by omega)
        clear hcx
        obtain ⟨p, hp⟩ : ∃ p, p = dg x k := ⟨_, rfl⟩
        have hpl : p < 4294967296 := by rw [hp]; exact dg_lt _ _
        rw [← hp] at c1
        have Hp := Lib.hid hp; clear hp
        have hpy : (ny : Int) ≤ (k : Int) := by omega
        have hdy : decide ((k : Int) < (ny : Int)) = false := by simp; omega
        obtain ⟨q, hq0⟩ : ∃ q, q = 0 := ⟨_, rfl⟩
        have hq : q = dg y k := by rw [hq0, dg_zero (by rw [← Hny.out]; omega)]
        have hql : q < 4294967296 := by omega
        have Hq := Lib.hid hq; clear hq
        have Hq0 := Lib.hid hq0; clear hq0
        go_wp2_with (at_builtin; refine wpList_append_own _ rfl _ _ 32 rfl w.heap.size 66 i0 (.int .u32 0) 1 4 Try.underlying32 hi hz0 hz1 hz2 rfl (by decide) _ _ _ rfl (hown.alloc _) ⟨wr.heap.size, 0, none⟩ 1 1 [uw ((cv + p) % 4294967296)] rfl rfl ?c1 ?c2 ?c3 ?c4 ?c5 ?_)
        case c1 =>
          intro j u hj
          match j, hj with
          | 0, hj => simp at hj; subst hj; simp [Addr.add, uw]
        case c2 => intro u hu; simp at hu; subst hu; rfl
        case c3 => unfold maxLen; omega
        case c4 => omega
        case c5 => have := hbel.size; simp; omega
        intro v' w1 hown' hgrow _
        obtain ⟨hb1, ho1⟩ := step_own hbel hown hown' hgrow
        have Ho := Lib.hid ho1; clear ho1 hown' hgrow hown hbel
        go_wp2
        go_roundw
        case rel =>
          refine ⟨k + 1, (cv + p) / 4294967296, ds ++ [(cv + p) % 4294967296], by simp, by omega, by simp, by omega, by rw [List.length_append, HL.out]; rfl, hok.append (Ok.mk (by omega) Ok.nil), Ho.out, hb1, ?_⟩
          rw [val_append, HL.out]
          simp only [val, Nat.mul_zero, Nat.add_zero]
          exact add_round HV.out (by rw [← Hp.out, ← Hq.out, Hq0.out]; omega)
        case measure => simp [intOf]; omega
    · by_cases hly : k < ny
      · have hpx : (nx : Int) ≤ (k : Int) := by omega
        have hdx : decide ((k : Int) < (nx : Int)) = false := by simp; omega
        obtain ⟨p, hp0⟩ : ∃ p, p = 0 := ⟨_, rfl⟩
        have hp : p = dg x k := by rw [hp0, dg_zero (by rw [← Hnx.out]; omega)]
        have hpl : p < 4294967296 := by omega
        have Hp := Lib.hid hp; clear hp
        have Hp0 := Lib.hid hp0; clear hp0
        have hpy : (k : Int) < (ny : Int) := by omega
        have hdy : decide ((k : Int) < (ny : Int)) = true := by simp; omega
        obtain ⟨by_, oy, rfl, -, hcy⟩ := Wd.cell (k := k) HY.out (by omega)
        have c2 := hcy k (by omega)
        clear hcy
        obtain ⟨q, hq⟩ : ∃ q, q = dg y k := ⟨_, rfl⟩
        have hql : q < 4294967296 := by rw [hq]; exact dg_lt _ _
        rw [← hq] at c2
        have Hq := Lib.hid hq; clear hq
        go_wp2_with (at_builtin; refine wpList_append_own _ rfl _ _ 32 rfl w.heap.size 66 i0 (.int .u32 0) 1 4 Try.underlying32 hi hz0 hz1 hz2 rfl (by decide) _ _ _ rfl (hown.alloc _) ⟨wr.heap.size, 0, none⟩ 1 1 [uw ((cv + q) % 4294967296)] rfl rfl ?c1 ?c2 ?c3 ?c4 ?c5 ?_)
        case c1 =>
          intro j u hj
          match j, hj with
          | 0, hj => simp at hj; subst hj; simp [Addr.add, uw]
        case c2 => intro u hu; simp at hu; subst hu; rfl
        case c3 => unfold maxLen; omega
        case c4 => omega
        case c5 => have := hbel.size; simp; omega
        intro v' w1 hown' hgrow _
        obtain ⟨hb1, ho1⟩ := step_own hbel hown hown' hgrow
        have Ho := Lib.hid ho1; clear ho1 hown' hgrow hown hbel
        go_wp2
        go_roundw
        case rel =>
          refine ⟨k + 1, (cv + q) / 4294967296, ds ++ [(cv + q) % 4294967296], by simp, by omega, by simp, by omega, by rw [List.length_append, HL.out]; rfl, hok.append (Ok.mk (by omega) Ok.nil), Ho.out, hb1, ?_⟩
          rw [val_append, HL.out]
          simp only [val, Nat.mul_zero, Nat.add_zero]
          exact add_round HV.out (by rw [← Hp.out, ← Hq.out, Hp0.out]; omega)
        case measure => simp [intOf]; omega
      · have hkn : k = n := by rcases Hn'.out with h | h <;> omega
        have hdx : decide ((k : Int) < (nx : Int)) = false := by simp; omega
        have hdy : decide ((k : Int) < (ny : Int)) = false := by simp; omega
        clear Hn' hn
        subst hkn
        go_wp2_with (at_builtin; refine wpList_append_own _ rfl _ _ 32 rfl w.heap.size 66 i0 (.int .u32 0) 1 4 Try.underlying32 hi hz0 hz1 hz2 rfl (by decide) _ _ _ rfl (hown.alloc _) ⟨wr.heap.size, 0, none⟩ 1 1 [uw (cv)] rfl rfl ?c1 ?c2 ?c3 ?c4 ?c5 ?_)
        case c1 =>
          intro j u hj
          match j, hj with
          | 0, hj => simp at hj; subst hj; simp [Addr.add, uw]
        case c2 => intro u hu; simp at hu; subst hu; rfl
        case c3 => unfold maxLen; omega
        case c4 => omega
        case c5 => have := hbel.size; simp; omega
        intro v' w1 hown' hgrow _
        obtain ⟨hb1, ho1⟩ := step_own hbel hown hown' hgrow
        have hw := Wd.of_own ho1 (hok.append (Ok.mk (by omega) Ok.nil))
        have hv : val (ds ++ [cv]) = x + y := by
          rw [val_append, HL.out]
          simp only [val, Nat.mul_zero, Nat.add_zero]
          rw [HV.out, mod_len (x := x) (by rw [← Hnx.out]; omega), mod_len (x := y) (by rw [← Hny.out]; omega)]
        have Hw := Lib.hid hw; clear hw hown' hgrow hown hbel ho1
        have Hv := Lib.hid hv; clear hv
        go_wp2_with fail
        refine (trimR_any _ _ _ Hw.out).mono ?_
        rintro e w' ⟨r, rfl, hr, rfl⟩
        rw [Hv.out] at hr
        go_wp2
        go_ret
        exact ⟨r, rfl, hr, hb1⟩
end Go.Proofs.Ytmlopkkbgpfdnaa
