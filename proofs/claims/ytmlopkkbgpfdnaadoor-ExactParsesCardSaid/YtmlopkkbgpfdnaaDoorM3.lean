/- Walks: times. · Walks: whole numbers with a sign. · Walks: division by a word. · Walks: trim and divideWord, with where the result lies. · Walks: the sum of whole numbers. · Walks: the sum of whole numbers. · Walks: opposite, sign, minus, compare, absolute. · Walks: the reference's naturals: trim, order, natural. · Walks: the reference's naturals: natural, plus. -/
import Derived.Test.YtmlopkkbgpfdnaaDoorM2
import Derived.Deep.RegionHeld3
namespace Go.Proofs.YtmlopkkbgpfdnaaDoor
open Go.RowKit

set_option maxRecDepth 100000 in
/-- exact times -/
theorem timesE_any (x y : Nat) (u v : Value) (w : World) (hx : Wd w u (dig x)) (hy : Wd w v (dig y)) (lx : (dig x).length ≤ 1000000) (ly : (dig y).length ≤ 1000000) :
    Calls Tryd.prog 55 #[u, v] w fun e w' => ∃ r, e = .returned r ∧ Wd w' r (dig (x * y)) ∧ Below w.heap.size w w' := by
  obtain ⟨A, c, rfl, -, -⟩ := hx.shape
  obtain ⟨A', c', rfl, -, -⟩ := hy.shape
  obtain ⟨n, hn⟩ : ∃ n, n = (dig x).length := ⟨_, rfl⟩
  obtain ⟨m, hm⟩ : ∃ m, m = (dig y).length := ⟨_, rfl⟩
  rw [← hn] at lx hx ⊢
  rw [← hm] at ly hy ⊢
  have Hn := Lib.hid hn; clear hn
  have Hm := Lib.hid hm; clear hm
  have Hx := Lib.hid hx; clear hx
  have Hy := Lib.hid hy; clear hy
  have hmk : ∀ w, (Instr.makeSlice 35 (.int .i64 ((n : Int) + m)) (.int .i64 ((n : Int) + m))).run Tryd.prog w = .ok (.slice (some ⟨w.heap.size, 0, none⟩) (n + m) (n + m)) (w.alloc (.cells (U32s (zeros (n + m))) 45)) := fun w => make_u32 35 Tryd.underlying35 (n + m) (by omega) w
  go_enter Tryd.func55, Tryd.ntmps55
  go_wp2_with fail
  go_loopw [21] (fun i wr => ∃ (k : Nat) (L : List Nat), i = .int .i64 k ∧ k ≤ n ∧ L.length = n + m ∧ Ok L ∧ Blk wr w.heap.size L ∧ Below w.heap.size w wr ∧
      val L = x % 4294967296 ^ k * y ∧ ∀ p, k + m ≤ p → L.getD p 0 = 0) (fun i _ => n - (intOf i).toNat)
  case atStart => exact ⟨0, zeros (n + m), rfl, Nat.zero_le _, zeros_length _, zeros_ok _, heap_alloc_new w _, below_alloc _ _, by simp [val_zeros, Nat.mod_one], fun p _ => zeros_getD _ p⟩
  case round =>
    obtain ⟨k, L, rfl, hk, hL, hok, hblk, hbel, hval, hz⟩ := hrel
    have HV := Lib.hid hval; clear hval
    have HL := Lib.hid hL; clear hL
    have HZ := Lib.hid hz; clear hz
    have HB := Lib.hid hblk; clear hblk
    by_cases hlt : k < n
    · obtain ⟨b, off, rfl, hb, hcx⟩ := Wd.cell (k := k) Hx.out hlt
      have h1 : wr.cell? ⟨b, off + k, none⟩ = some (.int .u32 (dg x k : Nat)) := (hbel.cell (p := ⟨b, off + k, none⟩) hb).trans (hcx k hlt)
      clear hcx
      obtain ⟨p, hp⟩ : ∃ p, p = dg x k := ⟨_, rfl⟩
      have hpl : p < 4294967296 := by rw [hp]; exact dg_lt _ _
      rw [← hp] at h1
      have Hp := Lib.hid hp; clear hp
      go_wp2_with fail
      rw [show k + m + 1 - k = m + 1 from by omega]
      obtain ⟨w1, rfl⟩ : ∃ w1 : World, w1 = wr := ⟨_, rfl⟩
      go_loopw [8, 41] (fun cr j w2 => ∃ (q cv : Nat) (L2 : List Nat), j = .int .i64 q ∧ q ≤ m ∧ cr = .int .u32 cv ∧ cv < 4294967296 ∧ L2.length = n + m ∧ Ok L2 ∧ Blk w2 w.heap.size L2 ∧ Below w.heap.size w w2 ∧
          val L2 + 4294967296 ^ (k + q) * cv = x % 4294967296 ^ k * y + 4294967296 ^ k * (p * (y % 4294967296 ^ q)) ∧ ∀ r, k + m ≤ r → L2.getD r 0 = 0) (fun _ j _ => m - (intOf j).toNat)
      case atStart => exact ⟨0, 0, L, rfl, Nat.zero_le _, rfl, by omega, HL.out, hok, HB.out, hbel, by rw [HV.out]; simp [Nat.mod_one], HZ.out⟩
      case round =>
        obtain ⟨q, cv, L2, rfl, hq, rfl, hcv, hL2, hok2, hblk2, hbel2, hval2, hz2⟩ := hrel
        have HV2 := Lib.hid hval2; clear hval2
        have HL2 := Lib.hid hL2; clear hL2
        have HZ2 := Lib.hid hz2; clear hz2
        by_cases hlt2 : q < m
        · obtain ⟨b', off', rfl, hb', hcy⟩ := Wd.cell (k := q) Hy.out hlt2
          have h2 : wr.cell? ⟨b', off' + q, none⟩ = some (.int .u32 (dg y q : Nat)) := (hbel2.cell (p := ⟨b', off' + q, none⟩) hb').trans (hcy q hlt2)
          clear hcy
          obtain ⟨r, hr⟩ : ∃ r, r = dg y q := ⟨_, rfl⟩
          have hrl : r < 4294967296 := by rw [hr]; exact dg_lt _ _
          rw [← hr] at h2
          have Hr := Lib.hid hr; clear hr
          have h3 := hblk2.cell (i := k + q) (by rw [HL2.out]; omega)
          have h4 := hblk2.frozen (k + q)
          obtain ⟨a, ha⟩ : ∃ a, a = L2.getD (k + q) 0 := ⟨_, rfl⟩
          have hal : a < 4294967296 := by rw [ha]; exact hok2.getD _
          rw [← ha] at h3
          have Ha := Lib.hid ha; clear ha
          have HB2 := Lib.hid hblk2; clear hblk2
          obtain ⟨s, hs⟩ : ∃ s, s = p * r + a + cv := ⟨_, rfl⟩
          have hsl : s < 18446744073709551616 := by rw [hs]; exact mul_bound hpl hrl hal hcv
          have hprod : p * r < 18446744073709551616 := by omega
          have e1 : ((p : Int) * r + a + cv) % 4294967296 = ((s % 4294967296 : Nat) : Int) := by rw [hs]; omega
          have e2 : ((p : Int) * r + a + cv) / 4294967296 = ((s / 4294967296 : Nat) : Int) := by rw [hs]; omega
          have E1 := Lib.hid e1; clear e1
          have E2 := Lib.hid e2; clear e2
          have Hs := Lib.hid hs; clear hs
          have hsl' : (p : Int) * r + a + cv < 18446744073709551616 := by rw [Hs.out] at hsl; omega
          go_wp2_with fail
          rw [E1.out, E2.out]
          go_roundw
          case rel =>
            refine ⟨q + 1, s / 4294967296, L2.set (k + q) (s % 4294967296), by go_num, by omega, rfl, by omega, by rw [List.length_set, HL2.out], hok2.set (by omega), HB2.out.set_ _ _, hbel2.setCell (Nat.le_refl _) _, ?_, ?_⟩
            · refine mul_round HV2.out (old := a) (lo := s % 4294967296) ?_ (by rw [Hs.out, Hr.out]) rfl rfl
              have := val_set (l := L2) (p := k + q) (v := s % 4294967296) (by rw [HL2.out]; omega)
              rw [← Ha.out] at this
              exact this
            · intro t ht
              rw [getD_set_ne (by omega)]
              exact HZ2.out t ht
          case measure => simp [intOf]; omega
        · have hqm : q = m := by omega
          subst hqm
          have h3 := hblk2.cell (i := k + q) (by rw [HL2.out]; omega)
          have h4 := hblk2.frozen (k + q)
          rw [HZ2.out (k + q) (Nat.le_refl _)] at h3
          have HB2 := Lib.hid hblk2; clear hblk2
          go_wp2_with fail
          go_roundw
          case rel =>
            refine ⟨k + 1, L2.set (k + q) cv, by go_num, by omega, by rw [List.length_set, HL2.out], hok2.set hcv, HB2.out.set_ _ _, hbel2.setCell (Nat.le_refl _) _, ?_, ?_⟩
            · have h5 := val_set (l := L2) (p := k + q) (v := cv) (by rw [HL2.out]; omega)
              rw [HZ2.out (k + q) (Nat.le_refl _), HV2.out, mod_len (x := y) (by rw [← Hm.out]; omega), Hp.out, mul_done] at h5
              simpa using h5
            · intro t ht
              rw [getD_set_ne (by omega)]
              exact HZ2.out t (by omega)
          case measure => simp [intOf]; omega
    · have hkn : k = n := by omega
      subst hkn
      have hv : val L = x * y := by rw [HV.out, mod_len (x := x) (by rw [← Hn.out]; omega)]
      have hw2 := HB.out.wd hok (by rw [HL.out]; omega) (k + m) (by rw [HL.out]; omega) (by omega)
      rw [HL.out] at hw2
      have Hv := Lib.hid hv; clear hv
      have Hw := Lib.hid hw2; clear hw2
      go_wp2_with fail
      refine (trimE_any _ _ _ Hw.out).mono ?_
      rintro e w' ⟨r, rfl, hr, rfl⟩
      rw [Hv.out] at hr
      go_wp2
      go_ret
      exact ⟨r, rfl, hr, hbel⟩
end Go.Proofs.YtmlopkkbgpfdnaaDoor
namespace Go.Proofs.YtmlopkkbgpfdnaaDoor
open Go.RowKit

/-- a struct of a sign and words stands for z -/
def ZV (w : World) (a : Value) (z : Int) : Prop := ∃ v, a = .agg #[.bool (decide (z < 0)), v] ∧ Wd w v (dig z.natAbs)

theorem ZV.below {w w' : World} {a : Value} {z : Int} (h : ZV w a z) (hb : Below w.heap.size w w') : ZV w' a z := by
  obtain ⟨v, rfl, hv⟩ := h
  exact ⟨v, rfl, hv.below hb⟩

theorem Wd.slice_ {w : World} {v : Value} {l : List Nat} (h : Wd w v l) : ∃ A n c, v = .slice A n c := by
  obtain ⟨A, c, rfl, _⟩ := h
  exact ⟨A, _, c, rfl⟩

theorem keepAt {B : Nat} {W w1 : World} {g i : Nat} {v : Value} (hb : Below B W w1) (hg : g < B) (h : W.cell? ⟨g, i, none⟩ = some v) : w1.cell? ⟨g, i, none⟩ = some v := (hb.cell (p := ⟨g, i, none⟩) hg).trans h

theorem below2 (w : World) (o1 o2 : Obj) : Below w.heap.size w ((w.alloc o1).alloc o2) := ((Below.refl _ _).alloc (Nat.le_refl _) o1).alloc (by simp) o2
theorem below3 (w : World) (o1 o2 o3 : Obj) : Below w.heap.size w (((w.alloc o1).alloc o2).alloc o3) := (below2 w o1 o2).alloc (by simp; omega) o3
theorem undrew {B : Nat} {W w1 : World} (h : Below B W.drew w1) : Below B W w1 := ⟨h.os, h.tape, h.output, h.size, h.block⟩
theorem undrewN {B k : Nat} {W w1 : World} (h : Below B (W.drewN k) w1) : Below B W w1 := ⟨h.os, h.tape, h.output, h.size, h.block⟩
theorem Below.toDrewN {B : Nat} {W w1 : World} (h : Below B W w1) (k : Nat) : Below B W (w1.drewN k) := ⟨h.os, h.tape, h.output, h.size, h.block⟩

/-- block g holds a struct of a sign and a slice, and may be written -/
def RB (W : World) (g : Nat) : Prop := ∃ a A n c t, W.heap[g]? = some (.cells #[.bool a, .slice A n c] t (0, 0))

section
variable {W W' : World} {g : Nat}
theorem RB.mk {cs : Array Value} {t : TypeId} (h : W.heap[g]? = some (.cells cs t (0, 0))) (a : Bool) (A : Option Addr) (n c : Nat) (hc : cs = #[.bool a, .slice A n c]) : RB W g := ⟨a, A, n, c, t, by rw [h, hc]⟩
theorem RB.lt (h : RB W g) : g < W.heap.size := by
  obtain ⟨a, A, n, c, t, h⟩ := h
  exact (Array.getElem?_eq_some_iff.1 h).1
theorem RB.below {B : Nat} (h : RB W g) (hb : Below B W W') (hg : g < B) : RB W' g := by
  obtain ⟨a, A, n, c, t, h⟩ := h
  exact ⟨a, A, n, c, t, (hb.block g hg).trans h⟩
theorem RB.drewN (h : RB W g) (k : Nat) : RB (W.drewN k) g := h
theorem RB.drew (h : RB W g) : RB W.drew g := h
theorem RB.old {B : Nat} {i : Nat} {v : Value} (_ : RB W g) (h : W.cell? ⟨g, i, none⟩ = some v) (hb : Below B W W') (hg : g < B) : W'.cell? ⟨g, i, none⟩ = some v := keepAt hb hg h
theorem RB.facts (h : RB W g) : ∃ a A n c, W.cell? ⟨g, 0, none⟩ = some (.bool a) ∧ W.cell? ⟨g, 1, none⟩ = some (.slice A n c) ∧ W.frozen? ⟨g, 0, none⟩ = false ∧ W.frozen? ⟨g, 1, none⟩ = false := by
  obtain ⟨a, A, n, c, t, h⟩ := h
  exact ⟨a, A, n, c, cell_of_row W g 0 _ t (0, 0) h, cell_of_row W g 1 _ t (0, 0) h, by simp [World.frozen?, h], by simp [World.frozen?, h]⟩
theorem far2 {i j k g' : Nat} {u v : Value} (h : g' ≠ g) : ((W.setCell ⟨g, i, none⟩ u).setCell ⟨g, j, none⟩ v).cell? ⟨g', k, none⟩ = W.cell? ⟨g', k, none⟩ := by
  rw [World.cell?_setCell_other _ _ _ _ (by intro e; injection e with e1; exact h e1.symm), World.cell?_setCell_other _ _ _ _ (by intro e; injection e with e1; exact h e1.symm)]
theorem RB.set0 (h : RB W g) (p : Bool) (s : Value) : ((W.setCell ⟨g, 0, none⟩ (.bool p)).setCell ⟨g, 1, none⟩ s).cell? ⟨g, 0, none⟩ = some (.bool p) := by
  obtain ⟨a, A, n, c, h1, h2, _⟩ := h.facts
  rw [World.cell?_setCell_other _ _ _ _ (by simp), World.cell?_setCell_same _ _ _ h1]
theorem RB.set1 (h : RB W g) (p : Bool) (s : Value) : ((W.setCell ⟨g, 0, none⟩ (.bool p)).setCell ⟨g, 1, none⟩ s).cell? ⟨g, 1, none⟩ = some s := by
  obtain ⟨a, A, n, c, h1, h2, _⟩ := h.facts
  exact World.cell?_setCell_same _ _ _ ((World.cell?_setCell_other _ _ _ _ (by simp)).trans h2)
theorem RB.set (h : RB W g) (p : Bool) (A : Option Addr) (n c : Nat) : RB ((W.setCell ⟨g, 0, none⟩ (.bool p)).setCell ⟨g, 1, none⟩ (.slice A n c)) g := by
  obtain ⟨a', A', n', c', t, h⟩ := h
  refine ⟨p, A, n, c, t, ?_⟩
  simp [World.setCell, Array.getElem?_modify, h]
theorem Wd.rb {v : Value} {l : List Nat} (h : Wd W v l) (hr : RB W g) (u u' : Value) : Wd ((W.setCell ⟨g, 0, none⟩ u).setCell ⟨g, 1, none⟩ u') v l := by
  obtain ⟨A, c, rfl, h1, h2, h3, h4⟩ := h
  refine ⟨A, c, rfl, h1, h2, h3, fun hp => ?_⟩
  obtain ⟨b, off, rfl, hb, hc⟩ := h4 hp
  refine ⟨b, off, rfl, by simpa [World.setCell] using hb, fun j hj => ?_⟩
  have hne : b ≠ g := by
    rintro rfl
    have h0 := hc j hj
    obtain ⟨a, A', n', c', t, hg⟩ := hr
    rw [cell_of_row W b (off + j) _ t (0, 0) hg] at h0
    match hk : off + j with
    | 0 => rw [hk] at h0; simp at h0
    | 1 => rw [hk] at h0; simp at h0
    | k + 2 => rw [hk] at h0; simp at h0
  rw [far2 hne]
  exact hc j hj
theorem ZV.rb {v : Value} {z : Int} (h : ZV W v z) (hr : RB W g) (u u' : Value) : ZV ((W.setCell ⟨g, 0, none⟩ u).setCell ⟨g, 1, none⟩ u') v z := by
  obtain ⟨s, rfl, hs⟩ := h
  exact ⟨s, rfl, hs.rb hr u u'⟩
theorem below_set2 {B : Nat} (h : Below B W W') {i j : Nat} (hg : B ≤ g) (u u' : Value) : Below B W ((W'.setCell ⟨g, i, none⟩ u).setCell ⟨g, j, none⟩ u') :=
  (h.setCell (p := ⟨g, i, none⟩) hg u).setCell (p := ⟨g, j, none⟩) hg u'
end

theorem RB.a1 (w : World) (a : Bool) (A : Option Addr) (n c : Nat) (t : TypeId) (o2 o3 : Obj) : RB (((w.alloc (.cells #[.bool a, .slice A n c] t)).alloc o2).alloc o3) w.heap.size :=
  ⟨a, A, n, c, t, by rw [Below.heap_alloc _ _ _ (by simp; omega), Below.heap_alloc _ _ _ (by simp), heap_alloc_new]⟩
theorem RB.a2 (w : World) (a : Bool) (A : Option Addr) (n c : Nat) (t : TypeId) (o1 o3 : Obj) : RB (((w.alloc o1).alloc (.cells #[.bool a, .slice A n c] t)).alloc o3) (w.heap.size + 1) :=
  ⟨a, A, n, c, t, by
    rw [Below.heap_alloc _ _ _ (by simp)]
    have := heap_alloc_new (w.alloc o1) (.cells #[.bool a, .slice A n c] t)
    simpa using this⟩
theorem RB.a3 (w : World) (a : Bool) (A : Option Addr) (n c : Nat) (t : TypeId) (o1 o2 : Obj) : RB (((w.alloc o1).alloc o2).alloc (.cells #[.bool a, .slice A n c] t)) (w.heap.size + 1 + 1) :=
  ⟨a, A, n, c, t, by
    have := heap_alloc_new ((w.alloc o1).alloc o2) (.cells #[.bool a, .slice A n c] t)
    simpa using this⟩
theorem old1 {w : World} {c1 : Array Value} {t1 : TypeId} {o2 o3 : Obj} (i : Nat) : (((w.alloc (.cells c1 t1)).alloc o2).alloc o3).cell? ⟨w.heap.size, i, none⟩ = c1[i]? := by
  rw [World.cell?_alloc_past _ _ _ (by simp; omega), World.cell?_alloc_past _ _ _ (by simp), World.cell?_alloc_new]
theorem old2 {w : World} {c2 : Array Value} {t2 : TypeId} {o1 o3 : Obj} (i : Nat) : (((w.alloc o1).alloc (.cells c2 t2)).alloc o3).cell? ⟨w.heap.size + 1, i, none⟩ = c2[i]? := by
  rw [World.cell?_alloc_past _ _ _ (by simp), World.cell?_alloc_at _ _ _ _ (by simp)]

/-- a contract's result written out as a slice -/
theorem asSlice {P : Program} {f : FuncId} {args : Array Value} {w : World} {l : List Nat} (h : Calls P f args w fun e w' => ∃ r, e = .returned r ∧ Wd w' r l ∧ Below w.heap.size w w') :
    Calls P f args w fun e w' => ∃ A n c, e = .returned (.slice A n c) ∧ Wd w' (.slice A n c) l ∧ Below w.heap.size w w' := by
  refine h.mono ?_
  rintro e w' ⟨r, rfl, hr, hb⟩
  obtain ⟨A, n, c, rfl⟩ := hr.slice_
  exact ⟨A, n, c, rfl, hr, hb⟩

set_option maxRecDepth 100000 in
theorem wholeOf_any (p : Bool) (A : Option Addr) (n c : Nat) (w : World) :
    Calls Tryd.prog 12 #[.agg #[.bool p, .slice A n c]] w fun e w' => e = .returned (.agg #[.bool p, .slice A n c]) ∧ Below w.heap.size w w' := by
  go_enter Tryd.func12, Tryd.ntmps12
  go_wp2
  exact bodyPost_ret (v := .agg #[.bool p, .slice A n c]) (by simp [results, Tryd.results12, go_sem]) rfl ⟨rfl, below2 _ _ _⟩

set_option maxRecDepth 100000 in
theorem signed_any (p : Bool) (A : Option Addr) (n c : Nat) (w : World) (hn : n ≤ 9223372036854775807) :
    Calls Tryd.prog 54 #[.bool p, .slice A n c] w fun e w' => e = .returned (.agg #[.bool (p && decide (0 < n)), .slice A n c]) ∧ Below w.heap.size w w' := by
  cases p
  · go_enter Tryd.func54, Tryd.ntmps54
    go_wp2
    exact bodyPost_ret (v := .agg #[.bool false, .slice A n c]) (by simp [results, Tryd.results54, go_sem]) rfl ⟨rfl, below_alloc _ _⟩
  · go_enter Tryd.func54, Tryd.ntmps54
    go_wp2
    exact bodyPost_ret (v := .agg #[.bool (decide (0 < n)), .slice A n c]) (by simp [results, Tryd.results54, go_sem]) rfl ⟨by simp, below_alloc _ _⟩

end Go.Proofs.YtmlopkkbgpfdnaaDoor
namespace Go.Proofs.YtmlopkkbgpfdnaaDoor
open Go.RowKit

theorem or_words {a b : Nat} (ha : a < 4294967296) (hb : b < 4294967296) : bits BinOp.or IntKind.u64 ((a : Int) * 4294967296) (b : Int) = ((a * 4294967296 + b : Nat) : Int) := by
  have e : ((a : Int) * 4294967296) = ((a * 4294967296 : Nat) : Int) := by omega
  rw [e, u64_or_nat _ _ (by omega) (by omega), nat_join 32 _ _ (by omega) (by omega)]

theorem quo_lt {a b y : Nat} (h : a < y) (hb : b < 4294967296) : (a * 4294967296 + b) / y < 4294967296 := by
  rw [Nat.div_lt_iff_lt_mul (by omega)]
  have : (a + 1) * 4294967296 ≤ y * 4294967296 := Nat.mul_le_mul_right _ h
  rw [Nat.mul_comm 4294967296 y]
  omega

set_option maxRecDepth 100000 in
theorem div32_any (a b y : Nat) (w : World) (ha : a < y) (hb : b < 4294967296) (hy : y < 4294967296) :
    Calls Tryd.prog 59 #[.int .u32 a, .int .u32 b, .int .u32 y] w fun e w' =>
      e = .returned (.tuple #[.int .u32 ((a * 4294967296 + b) / y : Nat), .int .u32 ((a * 4294967296 + b) % y : Nat)]) ∧ ∃ n, w' = w.drewN n := by
  have hor := or_words (a := a) (b := b) (by omega) hb
  have hq := quo_lt ha hb
  obtain ⟨z, hz⟩ : ∃ z, z = a * 4294967296 + b := ⟨_, rfl⟩
  rw [← hz] at hor hq ⊢
  have hzl : z < 18446744073709551616 := by omega
  have Hor := Lib.hid hor; clear hor hz
  have hr : z % y < 4294967296 := by have := Nat.mod_lt z (show 0 < y by omega); omega
  obtain ⟨q, hq'⟩ : ∃ q, q = z / y := ⟨_, rfl⟩
  obtain ⟨r, hr'⟩ : ∃ r, r = z % y := ⟨_, rfl⟩
  rw [← hq'] at hq ⊢
  rw [← hr'] at hr ⊢
  have e1 : (z : Int) / y = (q : Int) := by rw [hq']; omega
  have e2 : (z : Int) % y = (r : Int) := by rw [hr']; omega
  clear hq' hr'
  have e3 : IntKind.u64.wrap (q : Int) % 4294967296 = (q : Int) := by rw [IntKind.wrap_u64]; omega
  have e4 : (r : Int) % 4294967296 = (r : Int) := by omega
  have E3 := Lib.hid e3; clear e3
  have E4 := Lib.hid e4; clear e4
  have d1 : ((y : Int) != 0) = true := by simp; omega
  have d2 : ((y : Int) == 0) = false := by simp; omega
  have d3 : decide (y ≤ a) = false := by simp; omega
  have hy0 : (0 : Int) < y := by omega
  have hy1 : (1 : Int) ≤ y := by omega
  have hz0 : (0 : Int) ≤ z := by omega
  have E1 := Lib.hid e1; clear e1
  have E2 := Lib.hid e2; clear e2
  go_enter Tryd.func59, Tryd.ntmps59
  go_wp2_with fail
  rw [Hor.out]
  go_quiet (fail)
  rw [E1.out, E2.out, E3.out, E4.out]
  go_wp2
  go_ret2
  exact ⟨rfl, _, rfl⟩

set_option maxRecDepth 100000 in
/-- natural.divideWord -/
theorem divideWord_any (x y : Nat) (u : Value) (w : World) (hx : Wd w u (dig x)) (lx : (dig x).length ≤ 1000000) (hy0 : 0 < y) (hy : y < 4294967296) :
    Calls Tryd.prog 43 #[u, .int .u32 y] w fun e w' => ∃ r, e = .returned (.tuple #[r, .int .u32 (x % y : Nat)]) ∧ Wd w' r (dig (x / y)) ∧ Below w.heap.size w w' := by
  have Hx := Lib.hid hx
  obtain ⟨A, c, rfl, -, hcl⟩ := hx.shape
  obtain ⟨n, hn⟩ : ∃ n, n = (dig x).length := ⟨_, rfl⟩
  rw [← hn] at lx Hx ⊢
  have Hn := Lib.hid hn; clear hn hx
  have hmk : ∀ w, (Instr.makeSlice 35 (.int .i64 (n : Int)) (.int .i64 (n : Int))).run Tryd.prog w = .ok (.slice (some ⟨w.heap.size, 0, none⟩) n n) (w.alloc (.cells (U32s (zeros n)) 45)) := fun w => make_u32 35 Tryd.underlying35 n (by omega) w
  go_enter Tryd.func43, Tryd.ntmps43
  go_wp2_with fail
  go_loopw [7, 8] (fun rr i wr => ∃ (k q : Nat) (L : List Nat), i = .int .i64 ((k : Int) - 1) ∧ k ≤ n ∧ rr = .int .u32 q ∧ q < y ∧ L.length = n ∧ Ok L ∧ Blk wr w.heap.size L ∧ Below w.heap.size w wr ∧
      q = x / 4294967296 ^ k % y ∧ ∀ j, k ≤ j → j < n → L.getD j 0 = dg (x / y) j) (fun _ i _ => (intOf i + 1).toNat)
  case atStart => exact ⟨n, 0, zeros n, rfl, Nat.le_refl _, rfl, hy0, zeros_length _, zeros_ok _, heap_alloc_new w _, below_alloc _ _, by rw [div_len (by rw [Hn.out]; exact Nat.le_refl _)]; simp, fun j h h' => absurd h (by omega)⟩
  case round =>
    obtain ⟨k, q, L, rfl, hk, rfl, hql, hL, hok, hblk, hbel, hq, hval⟩ := hrel
    have HQ := Lib.hid hq; clear hq
    have HV := Lib.hid hval; clear hval
    have HL := Lib.hid hL; clear hL
    by_cases hk0 : k = 0
    · subst hk0
      have hv : val L = x / y := val_of_dgs (fun j hj => HV.out j (Nat.zero_le _) (by rw [← HL.out]; exact hj)) (by rw [HL.out]; exact Nat.lt_of_le_of_lt (Nat.div_le_self _ _) (lt_of_dig_len (by rw [← Hn.out]; omega)))
      have hw2 := hblk.wd hok (by rw [HL.out]; omega) n (by rw [HL.out]; omega) (by omega)
      rw [HL.out] at hw2
      have hqe : q = x % y := by have := HQ.out; rwa [Nat.pow_zero, Nat.div_one] at this
      have Hqe := Lib.hid hqe; clear hqe
      have Hv := Lib.hid hv; clear hv
      have Hw := Lib.hid hw2; clear hw2 hblk
      go_wp2_with fail
      refine (trimE_any _ _ _ Hw.out).mono ?_
      rintro e w' ⟨r, rfl, hr, rfl⟩
      rw [Hv.out] at hr
      obtain ⟨A3, n3, c3, rfl⟩ := hr.slice_
      go_wp2
      go_ret2
      exact ⟨_, by rw [Hqe.out]; rfl, hr, hbel⟩
    · obtain ⟨k, rfl⟩ : ∃ j, k = j + 1 := ⟨k - 1, by omega⟩
      obtain ⟨b, off, rfl, hb, hcx⟩ := Wd.cell (k := k) Hx.out (by omega)
      have h1 : wr.cell? ⟨b, off + k, none⟩ = some (.int .u32 (dg x k : Nat)) := (hbel.cell (p := ⟨b, off + k, none⟩) hb).trans (hcx k (by omega))
      clear hcx
      obtain ⟨p, hp⟩ : ∃ p, p = dg x k := ⟨_, rfl⟩
      have hpl : p < 4294967296 := by rw [hp]; exact dg_lt _ _
      rw [← hp] at h1
      have Hp := Lib.hid hp; clear hp
      have hfr := hblk.frozen k
      have hce := hblk.cell (i := k) (by rw [HL.out]; omega)
      have hB := Lib.hid hblk; clear hblk
      have i1 : ((k + 1 : Nat) : Int) - 1 = (k : Int) := by omega
      rw [i1]
      clear i1
      go_wp2_with fail
      obtain ⟨z, hz⟩ : ∃ z, z = q * 4294967296 + p := ⟨_, rfl⟩
      refine (div32_any q p y wr hql hpl hy).mono ?_
      rintro e w' ⟨rfl, nd, rfl⟩
      rw [← hz]
      obtain ⟨f1, f2, f3⟩ := quo_word (x := x) (z := z) hy0 HQ.out (by rw [hz, Hp.out])
      obtain ⟨t, ht⟩ : ∃ t, t = z / y := ⟨_, rfl⟩
      obtain ⟨r, hr⟩ : ∃ r, r = z % y := ⟨_, rfl⟩
      rw [← ht, ← hr]
      rw [← ht] at f1 f3
      rw [← hr] at f2
      have hrl : r < y := by rw [hr]; exact Nat.mod_lt _ hy0
      have F1 := Lib.hid f1; clear f1
      have F2 := Lib.hid f2; clear f2
      clear hz ht hr
      go_wp2
      go_roundw
      case rel =>
        refine ⟨k, r, L.set k t, rfl, by omega, rfl, hrl, by rw [List.length_set, HL.out], hok.set f3, ?_, ?_, F2.out.symm, ?_⟩
        · exact hB.out.set_ k t
        · exact Below.toDrewN (hbel.setCell (p := ⟨w.heap.size, k, none⟩) (Nat.le_refl _) _) nd
        · intro j hj hj'
          by_cases e : j = k
          · subst e; rw [getD_set_self (by rw [HL.out]; exact hj')]; exact F1.out.symm
          · rw [getD_set_ne (fun e' => e e'.symm)]; exact HV.out j (by omega) hj'
      case measure => simp [intOf]
end Go.Proofs.YtmlopkkbgpfdnaaDoor
namespace Go.Proofs.YtmlopkkbgpfdnaaDoor
open Go.RowKit

/-- a slice lies in a block from B on -/
def Fr (B : Nat) (v : Value) : Prop := ∀ a n c, v = .slice (some a) n c → B ≤ a.block
theorem fr_cut {B : Nat} {A : Option Addr} {n c : Nat} (h : Fr B (.slice A n c)) (n' c' : Nat) : Fr B (.slice A n' c') := fun a m d e => by
  cases e
  exact h a n c rfl

/-- exact.trim -/
theorem trimE_fr (B : Nat) (v : Value) (l : List Nat) (w : World) (hv : Wd w v l) (hf : Fr B v) :
    Calls Tryd.prog 60 #[v] w fun e w' => ∃ u, e = .returned u ∧ Wd w u (dig (val l)) ∧ Fr B u ∧ w = w' := by
  have Hf := Lib.hid hf; clear hf
  obtain ⟨A, c, rfl, h1, h2, h3, h4⟩ := hv
  obtain ⟨n, hn⟩ : ∃ n, n = l.length := ⟨_, rfl⟩
  rw [← hn] at h1 h4 ⊢
  have Hn := Lib.hid hn; clear hn
  have hm : n ≤ 9223372036854775807 := by omega
  go_enter Tryd.func60, Tryd.ntmps60
  go_wp2
  go_loop [3] (fun i => ∃ k : Nat, i = .int .i64 k ∧ k ≤ n ∧ ∀ j, k ≤ j → j < n → l.getD j 0 = 0) (fun i => (intOf i).toNat)
  case atStart => exact ⟨n, rfl, Nat.le_refl _, fun j h h' => by omega⟩
  case round =>
    obtain ⟨k, rfl, hk, hz⟩ := hrel
    by_cases k0 : k = 0
    · subst k0
      have HZ := Lib.hid hz; clear hz
      go_wp2
      go_ret
      refine ⟨.slice none 0 0, rfl, ?_, (fun a n c e => by cases e), rfl⟩
      rw [dig_take (k := 0) h3 (by omega) (fun j h h' => HZ.out j h (by rw [Hn.out]; exact h')) (.inl rfl)]
      exact Wd.nil_ _
    · obtain ⟨b, off, rfl, hb, hc⟩ := h4 (by omega)
      have hx := hc (k - 1) (by omega)
      obtain ⟨x, hxe⟩ : ∃ x, x = l.getD (k - 1) 0 := ⟨_, rfl⟩
      rw [← hxe] at hx
      have Hx := Lib.hid hxe; clear hxe
      have HC := Lib.hid hc; clear hc h4
      have HZ := Lib.hid hz; clear hz
      have hkp : 0 < k := by omega
      by_cases hx0 : x = 0
      · subst hx0
        go_wp2
        go_round
        case rel =>
          refine ⟨k - 1, by rw [show ((k : Int) - 1) = ((k - 1 : Nat) : Int) from by omega], by omega, fun j hj hj' => ?_⟩
          by_cases e : j = k - 1
          · rw [e]; exact Hx.out.symm
          · exact HZ.out j (by omega) hj'
        case measure => simp [intOf]; omega
      · go_wp2
        go_ret
        have hl : (l.take k).length = k := by rw [List.length_take, ← Hn.out]; omega
        refine ⟨.slice (some ⟨b, off, none⟩) k k, rfl, ?_, fr_cut Hf.out _ _, rfl⟩
        rw [dig_take (k := k) h3 (by rw [← Hn.out]; omega) (fun j h h' => HZ.out j h (by rw [Hn.out]; exact h')) (.inr (by rw [← Hx.out]; exact hx0))]
        refine ⟨some ⟨b, off, none⟩, k, by rw [hl], by omega, by omega, h3.take k, fun _ => ⟨b, off, rfl, hb, fun j hj => ?_⟩⟩
        rw [hl] at hj
        rw [HC.out j (by omega)]
        simp [List.getD_eq_getElem?_getD, hj]

set_option maxRecDepth 100000 in
/-- natural.divideWord -/
theorem divideWord_fr (x y : Nat) (u : Value) (w : World) (hx : Wd w u (dig x)) (lx : (dig x).length ≤ 1000000) (hy0 : 0 < y) (hy : y < 4294967296) :
    Calls Tryd.prog 43 #[u, .int .u32 y] w fun e w' => ∃ r, e = .returned (.tuple #[r, .int .u32 (x % y : Nat)]) ∧ Wd w' r (dig (x / y)) ∧ Fr w.heap.size r ∧ Below w.heap.size w w' := by
  have Hx := Lib.hid hx
  obtain ⟨A, c, rfl, -, hcl⟩ := hx.shape
  obtain ⟨n, hn⟩ : ∃ n, n = (dig x).length := ⟨_, rfl⟩
  rw [← hn] at lx Hx ⊢
  have Hn := Lib.hid hn; clear hn hx
  have hmk : ∀ w, (Instr.makeSlice 35 (.int .i64 (n : Int)) (.int .i64 (n : Int))).run Tryd.prog w = .ok (.slice (some ⟨w.heap.size, 0, none⟩) n n) (w.alloc (.cells (U32s (zeros n)) 45)) := fun w => make_u32 35 Tryd.underlying35 n (by omega) w
  go_enter Tryd.func43, Tryd.ntmps43
  go_wp2_with fail
  go_loopw [7, 8] (fun rr i wr => ∃ (k q : Nat) (L : List Nat), i = .int .i64 ((k : Int) - 1) ∧ k ≤ n ∧ rr = .int .u32 q ∧ q < y ∧ L.length = n ∧ Ok L ∧ Blk wr w.heap.size L ∧ Below w.heap.size w wr ∧
      q = x / 4294967296 ^ k % y ∧ ∀ j, k ≤ j → j < n → L.getD j 0 = dg (x / y) j) (fun _ i _ => (intOf i + 1).toNat)
  case atStart => exact ⟨n, 0, zeros n, rfl, Nat.le_refl _, rfl, hy0, zeros_length _, zeros_ok _, heap_alloc_new w _, below_alloc _ _, by rw [div_len (by rw [Hn.out]; exact Nat.le_refl _)]; simp, fun j h h' => absurd h (by omega)⟩
  case round =>
    obtain ⟨k, q, L, rfl, hk, rfl, hql, hL, hok, hblk, hbel, hq, hval⟩ := hrel
    have HQ := Lib.hid hq; clear hq
    have HV := Lib.hid hval; clear hval
    have HL := Lib.hid hL; clear hL
    by_cases hk0 : k = 0
    · subst hk0
      have hv : val L = x / y := val_of_dgs (fun j hj => HV.out j (Nat.zero_le _) (by rw [← HL.out]; exact hj)) (by rw [HL.out]; exact Nat.lt_of_le_of_lt (Nat.div_le_self _ _) (lt_of_dig_len (by rw [← Hn.out]; omega)))
      have hw2 := hblk.wd hok (by rw [HL.out]; omega) n (by rw [HL.out]; omega) (by omega)
      rw [HL.out] at hw2
      have hqe : q = x % y := by have := HQ.out; rwa [Nat.pow_zero, Nat.div_one] at this
      have Hqe := Lib.hid hqe; clear hqe
      have Hv := Lib.hid hv; clear hv
      have Hw := Lib.hid hw2; clear hw2 hblk
      go_wp2_with fail
      refine (trimE_fr w.heap.size _ _ _ Hw.out (fun a n c e => by cases e; exact Nat.le_refl _)).mono ?_
      rintro e w' ⟨r, rfl, hr, hfr2, rfl⟩
      rw [Hv.out] at hr
      obtain ⟨A3, n3, c3, rfl⟩ := hr.slice_
      go_wp2
      go_ret2
      exact ⟨_, by rw [Hqe.out]; rfl, hr, hfr2, hbel⟩
    · obtain ⟨k, rfl⟩ : ∃ j, k = j + 1 := ⟨k - 1, by omega⟩
      obtain ⟨b, off, rfl, hb, hcx⟩ := Wd.cell (k := k) Hx.out (by omega)
      have h1 : wr.cell? ⟨b, off + k, none⟩ = some (.int .u32 (dg x k : Nat)) := (hbel.cell (p := ⟨b, off + k, none⟩) hb).trans (hcx k (by omega))
      clear hcx
      obtain ⟨p, hp⟩ : ∃ p, p = dg x k := ⟨_, rfl⟩
      have hpl : p < 4294967296 := by rw [hp]; exact dg_lt _ _
      rw [← hp] at h1
      have Hp := Lib.hid hp; clear hp
      have hfr := hblk.frozen k
      have hce := hblk.cell (i := k) (by rw [HL.out]; omega)
      have hB := Lib.hid hblk; clear hblk
      have i1 : ((k + 1 : Nat) : Int) - 1 = (k : Int) := by omega
      rw [i1]
      clear i1
      go_wp2_with fail
      obtain ⟨z, hz⟩ : ∃ z, z = q * 4294967296 + p := ⟨_, rfl⟩
      refine (div32_any q p y wr hql hpl hy).mono ?_
      rintro e w' ⟨rfl, nd, rfl⟩
      rw [← hz]
      obtain ⟨f1, f2, f3⟩ := quo_word (x := x) (z := z) hy0 HQ.out (by rw [hz, Hp.out])
      obtain ⟨t, ht⟩ : ∃ t, t = z / y := ⟨_, rfl⟩
      obtain ⟨r, hr⟩ : ∃ r, r = z % y := ⟨_, rfl⟩
      rw [← ht, ← hr]
      rw [← ht] at f1 f3
      rw [← hr] at f2
      have hrl : r < y := by rw [hr]; exact Nat.mod_lt _ hy0
      have F1 := Lib.hid f1; clear f1
      have F2 := Lib.hid f2; clear f2
      clear hz ht hr
      go_wp2
      go_roundw
      case rel =>
        refine ⟨k, r, L.set k t, rfl, by omega, rfl, hrl, by rw [List.length_set, HL.out], hok.set f3, ?_, ?_, F2.out.symm, ?_⟩
        · exact hB.out.set_ k t
        · exact Below.toDrewN (hbel.setCell (p := ⟨w.heap.size, k, none⟩) (Nat.le_refl _) _) nd
        · intro j hj hj'
          by_cases e : j = k
          · subst e; rw [getD_set_self (by rw [HL.out]; exact hj')]; exact F1.out.symm
          · rw [getD_set_ne (fun e' => e e'.symm)]; exact HV.out j (by omega) hj'
      case measure => simp [intOf]
end Go.Proofs.YtmlopkkbgpfdnaaDoor
namespace Go.Proofs.YtmlopkkbgpfdnaaDoor
open Go.RowKit

theorem Wd.len_le {w : World} {A : Option Addr} {n c : Nat} {l : List Nat} (h : Wd w (.slice A n c) l) : n ≤ 9223372036854775807 := by
  obtain ⟨A', c', he, h1, h2, _⟩ := h
  injection he
  omega

end Go.Proofs.YtmlopkkbgpfdnaaDoor
namespace Go.Proofs.YtmlopkkbgpfdnaaDoor
open Go.RowKit

theorem RB.far {W : World} {g h : Nat} (r : RB W g) (r' : RB W h) (hne : g ≠ h) (u u' : Value) : RB ((W.setCell ⟨h, 0, none⟩ u).setCell ⟨h, 1, none⟩ u') g := by
  obtain ⟨a, A, n, c, t, hh⟩ := r
  exact ⟨a, A, n, c, t, by rw [Below.heap_setCell _ _ _ _ hne, Below.heap_setCell _ _ _ _ hne]; exact hh⟩

end Go.Proofs.YtmlopkkbgpfdnaaDoor
namespace Go.Proofs.YtmlopkkbgpfdnaaDoor
open Go.RowKit

/-- the contracts' end for a whole number -/
def RetZ (w : World) (z : Int) (e : Ending) (w' : World) : Prop := ∃ r, e = .returned r ∧ ZV w' r z ∧ Below w.heap.size w w'

theorem ZV.open_ {w : World} {a : Value} {z : Int} (h : ZV w a z) : ∃ A n c, a = .agg #[.bool (decide (z < 0)), .slice A n c] ∧ Wd w (.slice A n c) (dig z.natAbs) ∧ n = (dig z.natAbs).length ∧ n ≤ 9223372036854775807 := by
  obtain ⟨v, rfl, hv⟩ := h
  obtain ⟨A, n, c, rfl⟩ := hv.slice_
  exact ⟨A, n, c, rfl, hv, hv.len, hv.len_le⟩
theorem ZV.mk {w : World} {v : Value} {z : Int} {b : Bool} (hb : b = decide (z < 0)) (hv : Wd w v (dig z.natAbs)) : ZV w (.agg #[.bool b, v]) z := ⟨v, by rw [hb], hv⟩

/-- a contract's result written out as a struct -/
theorem asAgg {P : Program} {f : FuncId} {args : Array Value} {w : World} {z : Int} (h : Calls P f args w (RetZ w z)) :
    Calls P f args w fun e w' => ∃ b A n c, e = .returned (.agg #[.bool b, .slice A n c]) ∧ ZV w' (.agg #[.bool b, .slice A n c]) z ∧ Below w.heap.size w w' := by
  refine h.mono ?_
  rintro e w' ⟨r, rfl, hr, hb⟩
  obtain ⟨A, n, c, rfl, h1, _, _⟩ := hr.open_
  exact ⟨_, A, n, c, rfl, hr, hb⟩

theorem RB.b1 (w : World) (a : Bool) (A : Option Addr) (n c : Nat) (t : TypeId) (o2 : Obj) : RB ((w.alloc (.cells #[.bool a, .slice A n c] t)).alloc o2) w.heap.size :=
  ⟨a, A, n, c, t, by rw [Below.heap_alloc _ _ _ (by simp), heap_alloc_new]⟩
theorem RB.b2 (w : World) (a : Bool) (A : Option Addr) (n c : Nat) (t : TypeId) (o1 : Obj) : RB ((w.alloc o1).alloc (.cells #[.bool a, .slice A n c] t)) (w.heap.size + 1) :=
  ⟨a, A, n, c, t, by
    have := heap_alloc_new (w.alloc o1) (.cells #[.bool a, .slice A n c] t)
    simpa using this⟩
theorem RB.c1 (w : World) (a : Bool) (A : Option Addr) (n c : Nat) (t : TypeId) : RB (w.alloc (.cells #[.bool a, .slice A n c] t)) w.heap.size := ⟨a, A, n, c, t, heap_alloc_new _ _⟩

/-- whole.sign -/
theorem signZ_any (z : Int) (a : Value) (w : World) (ha : ZV w a z) : Calls Tryd.prog 39 #[a] w fun e w' => e = .returned (.int .i64 z.sign) ∧ Below w.heap.size w w' := by
  obtain ⟨A, n, c, rfl, hv, hn, hl⟩ := ha.open_
  have hn0 := @dig_len_pos z.natAbs
  rw [← hn] at hn0
  have Hb := Lib.hid (below_alloc w (Obj.cells #[.bool (decide (z < 0)), .slice A n c] 37))
  clear ha hv hn
  rcases Int.lt_trichotomy z 0 with h | h | h
  · have e1 : decide (z < 0) = true := by simpa using h
    have h0 : 0 < n := hn0.2 (by omega)
    rw [Int.sign_eq_neg_one_of_neg h]
    rw [e1] at Hb ⊢
    clear e1 hn0
    go_enter Tryd.func39, Tryd.ntmps39
    go_wp2
    go_ret
    exact ⟨rfl, Hb.out⟩
  · have e1 : decide (z < 0) = false := by simp; omega
    have h0 : n = 0 := by
      rcases Nat.eq_zero_or_pos n with h1 | h1
      · exact h1
      · have := hn0.1 h1; omega
    subst h0 h
    rw [Int.sign_zero]
    rw [e1] at Hb ⊢
    clear hn0 e1
    go_enter Tryd.func39, Tryd.ntmps39
    go_wp2
    go_ret
    exact ⟨rfl, Hb.out⟩
  · have e1 : decide (z < 0) = false := by simp; omega
    have h0 : 0 < n := hn0.2 (by omega)
    rw [Int.sign_eq_one_of_pos h]
    rw [e1] at Hb ⊢
    clear e1 hn0
    go_enter Tryd.func39, Tryd.ntmps39
    go_wp2
    go_ret
    exact ⟨rfl, Hb.out⟩
end Go.Proofs.YtmlopkkbgpfdnaaDoor
namespace Go.Proofs.YtmlopkkbgpfdnaaDoor
open Go.RowKit

set_option maxRecDepth 100000 in
/-- ref trim -/
theorem trimR_any (v : Value) (l : List Nat) (w : World) (hv : Wd w v l) :
    Calls Tryd.prog 41 #[v] w fun e w' => ∃ u, e = .returned u ∧ Wd w u (dig (val l)) ∧ w = w' := by
  obtain ⟨A, c, rfl, h1, h2, h3, h4⟩ := hv
  obtain ⟨n, hn⟩ : ∃ n, n = l.length := ⟨_, rfl⟩
  rw [← hn] at h1 h4 ⊢
  have Hn := Lib.hid hn; clear hn
  have hm : n ≤ 9223372036854775807 := by omega
  go_enter Tryd.func41, Tryd.ntmps41
  go_wp2
  go_loop [0] (fun v => ∃ k : Nat, v = .slice A k c ∧ k ≤ n ∧ ∀ j, k ≤ j → j < n → l.getD j 0 = 0) (fun v => match v with | .slice _ k _ => k | _ => 0)
  case atStart => exact ⟨n, rfl, Nat.le_refl _, fun j h h' => by omega⟩
  case round =>
    obtain ⟨k, rfl, hk, hz⟩ := hrel
    by_cases k0 : k = 0
    · subst k0
      have HZ := Lib.hid hz; clear hz
      go_wp2
      go_ret
      refine ⟨.slice A 0 c, rfl, ?_, rfl⟩
      rw [dig_take (k := 0) h3 (by omega) (fun j h h' => HZ.out j h (by rw [Hn.out]; exact h')) (.inl rfl)]
      exact ⟨A, c, rfl, by simp, by omega, Ok.nil, fun h => absurd h (by simp)⟩
    · obtain ⟨b, off, rfl, hb, hc⟩ := h4 (by omega)
      have hx := hc (k - 1) (by omega)
      obtain ⟨x, hxe⟩ : ∃ x, x = l.getD (k - 1) 0 := ⟨_, rfl⟩
      rw [← hxe] at hx
      have Hx := Lib.hid hxe; clear hxe
      have HC := Lib.hid hc; clear hc h4
      have HZ := Lib.hid hz; clear hz
      have hkp : 0 < k := by omega
      have hkd : decide ((0 : Int) < (k : Int)) = true := by simp; omega
      by_cases hx0 : x = 0
      · subst hx0
        go_wp2
        go_round
        case rel =>
          refine ⟨k - 1, by simp, by omega, fun j hj hj' => ?_⟩
          by_cases e : j = k - 1
          · rw [e]; exact Hx.out.symm
          · exact HZ.out j (by omega) hj'
        case measure => simp; omega
      · go_wp2
        go_ret
        have hl : (l.take k).length = k := by rw [List.length_take, ← Hn.out]; omega
        refine ⟨.slice (some ⟨b, off, none⟩) k c, rfl, ?_, rfl⟩
        rw [dig_take (k := k) h3 (by rw [← Hn.out]; omega) (fun j h h' => HZ.out j h (by rw [Hn.out]; exact h')) (.inr (by rw [← Hx.out]; exact hx0))]
        refine ⟨some ⟨b, off, none⟩, c, by rw [hl], by omega, by omega, h3.take k, fun _ => ⟨b, off, rfl, hb, fun j hj => ?_⟩⟩
        rw [hl] at hj
        rw [HC.out j (by omega)]
        simp [List.getD_eq_getElem?_getD, List.getElem?_take, hj]

theorem orderR_ne (x y n m c c' : Nat) (A A' : Option Addr) (w : World) (hn : n = (dig x).length) (hm : m = (dig y).length) (hne : n ≠ m) (ln : n ≤ 9223372036854775807) (lm : m ≤ 9223372036854775807) :
    Calls Tryd.prog 20 #[.slice A n c, .slice A' m c'] w fun e w' => e = .returned (.int .i64 (cmpN x y)) ∧ ∃ n, w' = w.drewN n := by
  have hb : ((n : Int) != m) = true := by simp; omega
  rcases Nat.lt_or_ge n m with h | h
  · rw [cmpN_lt (lt_of_len_lt (by omega))]
    clear hn hm
    go_enter Tryd.func20, Tryd.ntmps20
    go_wp2
    go_ret
    exact ⟨rfl, 0, rfl⟩
  · rw [cmpN_gt (lt_of_len_lt (by omega))]
    clear hn hm
    have hmn : m < n := by omega
    go_enter Tryd.func20, Tryd.ntmps20
    go_wp2
    go_ret
    exact ⟨rfl, 0, rfl⟩

set_option maxRecDepth 100000 in
theorem orderR_eq (x y n c c' : Nat) (A A' : Option Addr) (w : World) (hx : Wd w (.slice A n c) (dig x)) (hy : Wd w (.slice A' n c') (dig y)) (ln : n ≤ 9223372036854775807) :
    Calls Tryd.prog 20 #[.slice A n c, .slice A' n c'] w fun e w' => e = .returned (.int .i64 (cmpN x y)) ∧ ∃ n, w' = w.drewN n := by
  have Hx := Lib.hid hx
  have Hy := Lib.hid hy
  clear hx hy
  go_enter Tryd.func20, Tryd.ntmps20
  go_wp2_with fail
  go_loopw [5] (fun i wr => ∃ (k q : Nat), i = .int .i64 ((k : Int) - 1) ∧ k ≤ n ∧ wr = w.drewN q ∧ x / 4294967296 ^ k = y / 4294967296 ^ k) (fun i _ => (intOf i + 1).toNat)
  case atStart => exact ⟨n, 0, rfl, Nat.le_refl _, rfl, by rw [div_len (by rw [← Hx.out.len]; omega), div_len (by rw [← Hy.out.len]; omega)]⟩
  case round =>
    obtain ⟨k, q, rfl, hk, rfl, hq⟩ := hrel
    have HQ := Lib.hid hq; clear hq
    by_cases hk0 : k = 0
    · subst hk0
      have hr : cmpN x y = 0 := cmpN_eq (by have := HQ.out; simpa using this)
      have Hr := Lib.hid hr; clear hr
      go_wp2
      go_ret
      exact ⟨by rw [Hr.out]; rfl, q, rfl⟩
    · obtain ⟨j, rfl⟩ : ∃ j, k = j + 1 := ⟨k - 1, by omega⟩
      obtain ⟨b, off, rfl, -, hcx⟩ := Wd.cell (k := j) Hx.out (by omega)
      obtain ⟨b', off', rfl, -, hcy⟩ := Wd.cell (k := j) Hy.out (by omega)
      have h1 := hcx j (by omega)
      have h2 := hcy j (by omega)
      clear hcx hcy
      obtain ⟨p, hp⟩ : ∃ p, p = dg x j := ⟨_, rfl⟩
      obtain ⟨r, hr⟩ : ∃ r, r = dg y j := ⟨_, rfl⟩
      rw [← hp] at h1
      rw [← hr] at h2
      have Hp := Lib.hid hp; clear hp
      have Hr := Lib.hid hr; clear hr
      rw [show (((j + 1 : Nat)) : Int) - 1 = (j : Int) from by omega]
      have hjn : (j : Int) < (n : Int) := by omega
      have hj0 : (0 : Int) ≤ (j : Int) := by omega
      rcases Nat.lt_trichotomy p r with hpr | hpr | hpr
      · have hb : ((p : Int) != r) = true := by simp; omega
        have hfin : cmpN x y = -1 := cmpN_lt (dg_cmp_lt HQ.out (by rw [← Hp.out, ← Hr.out]; exact hpr))
        have Hf := Lib.hid hfin; clear hfin
        go_wp2_with fail
        go_quiet (fail)
        go_wp2_with fail
        go_quiet (fail)
        go_wp2
        go_ret
        exact ⟨by rw [Hf.out]; rfl, _, by rw [World.drewN_drewN, World.drewN_drewN]⟩
      · subst hpr
        go_wp2_with fail
        go_quiet (fail)
        go_wp2
        go_roundw
        case rel => exact ⟨j, _, rfl, by omega, rfl, dg_cmp_eq HQ.out (by rw [← Hp.out, ← Hr.out])⟩
        case measure => simp [intOf]
      · have hb : ((p : Int) != r) = true := by simp; omega
        have hfin : cmpN x y = 1 := cmpN_gt (dg_cmp_lt HQ.out.symm (by rw [← Hp.out, ← Hr.out]; exact hpr))
        have Hf := Lib.hid hfin; clear hfin
        go_wp2_with fail
        go_quiet (fail)
        go_wp2_with fail
        go_quiet (fail)
        go_wp2
        go_ret
        exact ⟨by rw [Hf.out]; rfl, _, by rw [World.drewN_drewN, World.drewN_drewN]⟩

set_option maxRecDepth 100000 in
/-- ref order -/
theorem orderR_any (x y : Nat) (u v : Value) (w : World) (hx : Wd w u (dig x)) (hy : Wd w v (dig y)) :
    Calls Tryd.prog 20 #[u, v] w fun e w' => e = .returned (.int .i64 (cmpN x y)) ∧ ∃ n, w' = w.drewN n := by
  obtain ⟨A, c, rfl, h1, h2⟩ := hx.shape
  obtain ⟨A', c', rfl, h3, h4⟩ := hy.shape
  by_cases hne : (dig x).length = (dig y).length
  · rw [← hne] at hy ⊢
    exact orderR_eq x y _ c c' A A' w hx hy (by omega)
  · exact orderR_ne x y _ _ c c' A A' w rfl rfl hne (by omega) (by omega)

set_option maxRecDepth 100000 in
theorem signedR_any (p : Bool) (A : Option Addr) (n c : Nat) (w : World) (hn : n ≤ 9223372036854775807) :
    Calls Tryd.prog 25 #[.bool p, .slice A n c] w fun e w' => e = .returned (.agg #[.bool (p && decide (0 < n)), .slice A n c]) ∧ Below w.heap.size w w' := by
  cases p
  · go_enter Tryd.func25, Tryd.ntmps25
    go_wp2
    exact bodyPost_ret (v := .agg #[.bool false, .slice A n c]) (by simp [results, Tryd.results25, go_sem]) rfl ⟨rfl, below_alloc _ _⟩
  · go_enter Tryd.func25, Tryd.ntmps25
    go_wp2
    exact bodyPost_ret (v := .agg #[.bool (decide (0 < n)), .slice A n c]) (by simp [results, Tryd.results25, go_sem]) rfl ⟨by simp, below_alloc _ _⟩

end Go.Proofs.YtmlopkkbgpfdnaaDoor
namespace Go.Proofs.YtmlopkkbgpfdnaaDoor
open Go.RowKit

def uw (x : Nat) : Value := .int .u32 (x : Int)

theorem Wd.of_own {w : World} {base : Nat} {v : Value} {ds : List Nat} (h : w.ownsRow base 45 1 v ds.length (ds.map uw)) (ho : Ok ds) : Wd w v ds := by
  have h0 := h
  obtain ⟨h1, h2 | ⟨g, cap, cur, rfl, hg, hh, hn, hcap, hsz, htake⟩⟩ := h
  · obtain ⟨rfl, hn⟩ := h2
    have : ds = [] := List.eq_nil_of_length_eq_zero hn
    subst this
    exact Wd.nil_ w
  · refine ⟨some ⟨g, 0, none⟩, cap, rfl, hn, by unfold maxLen at hcap; omega, ho, fun hp => ⟨g, 0, rfl, (Array.getElem?_eq_some_iff.1 hh).1, fun j hj => ?_⟩⟩
    have := h0.cells (g := g) rfl j (uw (ds.getD j 0)) (by
      rw [List.getElem?_map, List.getElem?_eq_getElem hj]
      simp [List.getD_eq_getElem?_getD, List.getElem?_eq_getElem hj])
    have e : (⟨g, 0, none⟩ : Addr).add j = ⟨g, 0 + j, none⟩ := by unfold Addr.add; split <;> simp_all
    rw [← e]
    exact this

set_option maxHeartbeats 400000 in
set_option maxRecDepth 100000 in
/-- ref natural -/
theorem naturalR_any (n : Nat) (hn : n < 18446744073709551616) (w : World) :
    Calls Tryd.prog 24 #[.int .u64 n] w fun e w' => ∃ u, e = .returned u ∧ Wd w' u (dig n) ∧ Below w.heap.size w w' := by
  obtain ⟨i0, hi, hz0, hz1, hz2⟩ := info_parts info45
  have hd2 : (dig n).length ≤ 2 := dig_len_le (by omega)
  go_enter Tryd.func24, Tryd.ntmps24
  go_wp2
  go_loopw [0, 3] (fun mv v wr => ∃ (m : Nat) (ds : List Nat), mv = .int .u64 m ∧ m ≤ n ∧ Ok ds ∧ wr.ownsRow w.heap.size 45 1 v ds.length (ds.map uw) ∧ Below w.heap.size w wr ∧ ds ++ dig m = dig n)
    (fun mv _ _ => (intOf mv).toNat)
  case atStart => exact ⟨n, [], rfl, Nat.le_refl _, Ok.nil, World.ownsRow_nil _ _ _ _, Below.refl _ _, rfl⟩
  case round =>
    obtain ⟨m, ds, rfl, hm, hok, hown, hbel, hds⟩ := hrel
    have hl : ds.length + (dig m).length ≤ 2 := by rw [← List.length_append, hds]; exact hd2
    have Hds := Lib.hid hds; clear hds
    have Hok := Lib.hid hok; clear hok
    by_cases hm0 : m = 0
    · subst hm0
      have hw := Wd.of_own hown Hok.out
      have he : ds = dig n := by have := Hds.out; rwa [dig_zero, List.append_nil] at this
      rw [he] at hw
      have Hw := Lib.hid hw; clear hw he
      go_wp2
      go_ret
      exact ⟨_, rfl, Hw.out, hbel⟩
    · have hm1 : 0 < m := by omega
      have hl1 : ds.length ≤ 2 := by omega
      clear hl
      go_wp2_with (at_builtin; refine wpList_append_own _ rfl _ _ 41 rfl w.heap.size 45 i0 (.int .u32 0) 1 4 Tryd.underlying41 hi hz0 hz1 hz2 rfl (by decide) _ _ _ rfl (hown.alloc _) ⟨wr.heap.size, 0, none⟩ 1 1 [uw (m % 4294967296)] rfl rfl ?c1 ?c2 ?c3 ?c4 ?c5 ?_)
      case c1 =>
        intro j u hj
        match j, hj with
        | 0, hj => simp at hj; subst hj; simp [Addr.add, uw]
      case c2 => intro u hu; simp at hu; subst hu; rfl
      case c3 => unfold maxLen; omega
      case c4 => omega
      case c5 => have := hbel.size; simp; omega
      intro v' w1 hown' hgrow _
      have hb1 : Below w.heap.size w w1 := (hbel.alloc hbel.size _).grown hgrow (by have := hbel.size; simp; omega) (fun k hk => (hown.lt k hk).1)
      have hown2 : w1.ownsRow w.heap.size 45 1 v' (ds ++ [m % 4294967296]).length ((ds ++ [m % 4294967296]).map uw) := by
        rw [List.length_append, List.map_append]; exact hown'
      have Ho := Lib.hid hown2; clear hown2 hown' hgrow hown hbel
      go_wp2
      go_roundw
      case rel =>
        refine ⟨m / 4294967296, ds ++ [m % 4294967296], by simp, by omega, Hok.out.append (Ok.mk (by omega) Ok.nil), Ho.out, hb1, ?_⟩
        rw [← Hds.out, dig_pos hm1]
        simp
      case measure => simp [intOf]; omega
end Go.Proofs.YtmlopkkbgpfdnaaDoor
