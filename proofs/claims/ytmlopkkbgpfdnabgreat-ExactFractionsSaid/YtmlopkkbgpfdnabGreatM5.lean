/- Walks: small, low. · Walks: wordGcd. · Walks: wordGcd, absolute, over, top. · Walks: a step's matrix is applied to a pair. · Lehmer's step of Euclid's algorithm, as mathematics. · Walks: a block of a step's matrix; top. · Common divisors and their coefficients, as mathematics. -/
import Derived.Test.YtmlopkkbgpfdnabGreatM2
import Derived.Laws.BitsAllLaws
import Derived.RegionTactic
import Derived.ChangeAlike
import Derived.Test.YtmlopkkbgpfdnabGreatM0
import Derived.Test.YtmlopkkbgpfdnabGreatM4
namespace Go.Proofs.YtmlopkkbgpfdnabGreat
open Go.RowKit

theorem neg_wrap (n : Int) (h1 : n < 0) (h2 : -9223372036854775808 ≤ n) : IntKind.u64.wrap (-(IntKind.u64.wrap n)) = (n.natAbs : Int) := by
  rw [IntKind.wrap_u64, IntKind.wrap_u64]; omega
set_option maxRecDepth 100000 in
/-- exact.small -/
theorem smallE_any (n : Int) (w : World) (h1 : -9223372036854775808 ≤ n) (h2 : n ≤ 9223372036854775807) : Calls Tryz.prog 71 #[.int .i64 n] w (RetZ w n) := by
  have hw : n.natAbs < 18446744073709551616 := by omega
  by_cases h : n < 0
  · have hn := neg_wrap n h h1
    have Hn := Lib.hid hn; clear hn
    go_enter Tryz.func71, Tryz.ntmps71
    go_wp2_with fail
    rw [Hn.out]
    have hb0 := below1 w (Obj.cells #[.bool false, .slice none 0 0] 70)
    refine (asSlice (naturalOf_any n.natAbs hw _)).mono ?_
    rintro e w1 ⟨A5, n5, c5, rfl, hr, hb1⟩
    have hR := (RB.c1 w false none 0 0 70).below hb1 (by simp)
    obtain ⟨a0, A0, n0, c0, k10, k11, k20, k21⟩ := hR.facts
    have s0 := hR.set0 true (.slice A5 n5 c5)
    have s1 := hR.set1 true (.slice A5 n5 c5)
    have fin := And.intro (hr.rb hR (.bool true) (.slice A5 n5 c5)) (below_set2 (g := w.heap.size) (i := 0) (j := 1) (hb0.trans (hb1.mono (by simp))) (Nat.le_refl _) (.bool true) (.slice A5 n5 c5))
    have Fin := Lib.hid fin; clear fin hb1 hb0 hR
    go_wp2
    exact bodyPost_ret (v := .agg #[.bool true, .slice A5 n5 c5]) (by simp [results, Tryz.results71, go_sem, s0, s1]) rfl ⟨_, rfl, ZV.mk (by simp; omega) Fin.out.1, Fin.out.2⟩
  · have h0 : 0 ≤ n := by omega
    have hn : n = (n.natAbs : Int) := by omega
    have Hn := Lib.hid hn; clear hn
    go_enter Tryz.func71, Tryz.ntmps71
    go_wp2_with fail
    have hb0 := below1 w (Obj.cells #[.bool false, .slice none 0 0] 70)
    refine (asSlice ((by have := naturalOf_any n.natAbs hw (w.alloc (Obj.cells #[.bool false, .slice none 0 0] 70)); rwa [← Hn.out] at this))).mono ?_
    rintro e w1 ⟨A5, n5, c5, rfl, hr, hb1⟩
    have hR := (RB.c1 w false none 0 0 70).below hb1 (by simp)
    obtain ⟨a0, A0, n0, c0, k10, k11, k20, k21⟩ := hR.facts
    have s0 := hR.set0 false (.slice A5 n5 c5)
    have s1 := hR.set1 false (.slice A5 n5 c5)
    have fin := And.intro (hr.rb hR (.bool false) (.slice A5 n5 c5)) (below_set2 (g := w.heap.size) (i := 0) (j := 1) (hb0.trans (hb1.mono (by simp))) (Nat.le_refl _) (.bool false) (.slice A5 n5 c5))
    have Fin := Lib.hid fin; clear fin hb1 hb0 hR
    go_wp2
    exact bodyPost_ret (v := .agg #[.bool false, .slice A5 n5 c5]) (by simp [results, Tryz.results71, go_sem, s0, s1]) rfl ⟨_, rfl, ZV.mk (by simp; omega) Fin.out.1, Fin.out.2⟩

theorem or_join (x : Nat) : bits BinOp.or IntKind.u64 ((dg x 1 : Nat) * 4294967296 : Int) (dg x 0 : Nat) = ((x % 18446744073709551616 : Nat) : Int) := by
  have h0 := dg_lt x 0
  have h1 := dg_lt x 1
  have e : ((dg x 1 : Nat) * 4294967296 : Int) = ((dg x 1 * 4294967296 : Nat) : Int) := by omega
  rw [e, u64_or_nat _ _ (by omega) (by omega), nat_join 32 _ _ (by omega) (by omega)]
  have := mod_succ x 1
  have := mod_succ x 0
  simp only [Nat.pow_zero, Nat.mod_one, Nat.one_mul, Nat.zero_add, Nat.pow_one] at *
  omega

set_option maxRecDepth 100000 in
/-- natural.low -/
theorem low_any (x : Nat) (v : Value) (w : World) (hv : Wd w v (dig x)) : Calls Tryz.prog 137 #[v] w fun e w' => e = .returned (.int .u64 (x % 18446744073709551616 : Nat)) ∧ w = w' := by
  have h0 := dg_lt x 0
  have h1 := dg_lt x 1
  have ho := or_join x
  have Ho := Lib.hid ho; clear ho
  go_enter Tryz.func137, Tryz.ntmps137
  go_wp2_with fail
  refine (word_dig v x 1 _ hv).mono ?_
  rintro e w1 ⟨rfl, rfl⟩
  go_wp2_with fail
  refine (word_dig v x 0 _ hv).mono ?_
  rintro e w1 ⟨rfl, rfl⟩
  go_wp2
  go_ret
  exact ⟨by rw [← Ho.out]; rfl, rfl⟩
end Go.Proofs.YtmlopkkbgpfdnabGreat
namespace Go.Proofs.YtmlopkkbgpfdnabGreat
open Go.RowKit

set_option maxHeartbeats 1000000 in
set_option maxRecDepth 100000 in
/-- wordGcd -/
theorem wordGcd_any (x y : Nat) (w : World) (hx : x < 18446744073709551616) (hy : y < 18446744073709551616) :
    Calls Tryz.prog 136 #[.int .u64 x, .int .u64 y] w fun e w' => e = .returned (.int .u64 (Nat.gcd x y : Nat)) ∧ Below w.heap.size w w' := by
  go_enter Tryz.func136, Tryz.ntmps136
  go_wp2_with fail
  go_loopw [0, 1] (fun u v wr => ∃ a b : Nat, u = .int .u64 (a : Nat) ∧ v = .int .u64 (b : Nat) ∧ a < 18446744073709551616 ∧ b < 18446744073709551616 ∧ Hid (Nat.gcd a b = Nat.gcd x y) ∧ Ext w wr) (fun _ v _ => (intOf v).toNat)
  case atStart => exact ⟨x, y, rfl, rfl, hx, hy, Lib.hid rfl, Ext.refl _⟩
  case round =>
    obtain ⟨a, b, rfl, rfl, ha, hb, hg, hbel⟩ := hrel
    by_cases hz : b = 0
    · subst hz
      have hg0 := hg.out
      rw [Nat.gcd_zero_right] at hg0
      have HG := Lib.hid hg0; clear hg0 hg
      go_wp2_with fail
      go_ret
      exact ⟨by rw [← HG.out]; rfl, hbel⟩
    · have hb1 : 1 ≤ b := by omega
      have hne : ((b : Int) != 0) = true := by simp; omega
      have hmod : (a : Int).tmod b = ((a % b : Nat) : Int) := by rw [Int.tmod_eq_emod_of_nonneg (by omega)]; simp
      have hmlt : a % b < b := Nat.mod_lt _ hb1
      have hgn : Nat.gcd b (a % b) = Nat.gcd x y := by
        rw [← hg.out, Nat.gcd_comm a b, Nat.gcd_rec b a, Nat.gcd_comm]
      have HN := Lib.hid hgn; clear hgn hg hz
      obtain ⟨m, hm⟩ : ∃ m, m = a % b := ⟨_, rfl⟩
      rw [← hm] at hmlt HN
      have hme : (a : Int) % b = (m : Int) := by rw [hm]; simp
      have hmt : (a : Int).tmod b = (m : Int) := by rw [hmod, hm]
      have hmw : IntKind.u64.wrap (m : Int) = (m : Int) := IntWalk.u64_in _ (by omega)
      have hz0 : ((b : Int) == 0) = false := by simp; omega
      clear hmod
      have HA := Lib.hid ha; have HB := Lib.hid hb; have HM := Lib.hid hmlt; have HME := Lib.hid hme; clear ha hb hmlt hme
      go_wp2_with fail
      go_region
      all_goals go_wp2
      all_goals
        go_roundw
        case rel => exact ⟨b, m, rfl, by rw [HME.out], HB.out, by have := HM.out; have := HB.out; omega, HN, hbel.drw⟩
        case measure => have := HM.out; simp [intOf]; omega

end Go.Proofs.YtmlopkkbgpfdnabGreat
namespace Go.Proofs.YtmlopkkbgpfdnabGreat
theorem top_val {v m s : Nat} (hs : s ≤ 31) (hv : v < 4294967296 ^ (m + 3)) :
    (dg v (m + 2) * 4294967296 + dg v (m + 1)) * 2 ^ s + dg v m / 2 ^ (32 - s) = v / (4294967296 ^ m * 2 ^ (32 - s)) := by
  have hB : 2 ^ (32 - s) * 2 ^ s = 4294967296 := by
    rw [← Nat.pow_add, show 32 - s + s = 32 by omega]
  obtain ⟨u, hu⟩ : ∃ u, u = v / 4294967296 ^ m := ⟨_, rfl⟩
  have e0 : dg v m = u % 4294967296 := by unfold dg; rw [hu]
  have e1 : dg v (m + 1) = u / 4294967296 % 4294967296 := by unfold dg; rw [hu, Nat.div_div_eq_div_mul, Nat.pow_succ]
  have e2 : dg v (m + 2) = u / 4294967296 / 4294967296 := by
    unfold dg
    rw [hu, Nat.div_div_eq_div_mul, Nat.div_div_eq_div_mul, ← Nat.mul_assoc, ← Nat.pow_succ, ← Nat.pow_succ]
    refine Nat.mod_eq_of_lt ?_
    refine Nat.div_lt_of_lt_mul ?_
    rw [← Nat.pow_succ]; exact hv
  rw [e0, e1, e2, ← Nat.div_div_eq_div_mul, ← hu]
  obtain ⟨h, hh⟩ : ∃ h, h = u / 4294967296 := ⟨_, rfl⟩
  rw [← hh]
  have e3 : h / 4294967296 * 4294967296 + h % 4294967296 = h := by omega
  rw [e3]
  have hp : 0 < 2 ^ (32 - s) := Nat.pow_pos (by omega)
  have e4 : u = 2 ^ (32 - s) * (h * 2 ^ s) + u % 4294967296 := by
    have : 2 ^ (32 - s) * (h * 2 ^ s) = h * 4294967296 := by rw [← hB]; grind
    rw [this]; omega
  conv => rhs; rw [e4]
  rw [Nat.mul_add_div hp]
theorem top_lt {v m s : Nat} (hs : s ≤ 31) (hv : v * 2 ^ s < 4294967296 ^ (m + 3)) : v / (4294967296 ^ m * 2 ^ (32 - s)) < 18446744073709551616 := by
  have hB : 2 ^ (32 - s) * 2 ^ s = 4294967296 := by
    rw [← Nat.pow_add, show 32 - s + s = 32 by omega]
  have hp : 0 < 2 ^ s := Nat.pow_pos (by omega)
  refine Nat.div_lt_of_lt_mul ?_
  refine Nat.lt_of_mul_lt_mul_right (a := 2 ^ s) ?_
  have e : 4294967296 ^ m * 2 ^ (32 - s) * 18446744073709551616 * 2 ^ s = 4294967296 ^ (m + 3) := by
    have : 4294967296 ^ m * 2 ^ (32 - s) * 18446744073709551616 * 2 ^ s = 4294967296 ^ m * (2 ^ (32 - s) * 2 ^ s) * 18446744073709551616 := by grind
    rw [this, hB, Nat.pow_add]
    grind
  rw [e]; exact hv
end Go.Proofs.YtmlopkkbgpfdnabGreat
namespace Go.Proofs.YtmlopkkbgpfdnabGreat
open Go.RowKit

set_option maxRecDepth 100000 in
/-- absolute -/
theorem absoluteZ_any (z : Int) (a : Value) (w : World) (ha : ZV w a z) : Calls Tryz.prog 135 #[a] w (RetZ w (z.natAbs : Int)) := by
  obtain ⟨A, n, c, rfl, hv, -, -⟩ := ha.open_
  have HV := Lib.hid hv; clear hv ha
  obtain ⟨p, hp⟩ : ∃ p, p = decide (z < 0) := ⟨_, rfl⟩
  rw [← hp]
  clear hp
  go_enter Tryz.func135, Tryz.ntmps135
  go_wp2
  refine bodyPost_ret (v := .agg #[.bool false, .slice A n c]) (by simp [results, Tryz.results135, go_sem]) rfl ⟨_, rfl, ZV.mk (by simp) ?_, below2 _ _ _⟩
  rw [Int.natAbs_natCast]
  exact HV.out.below (below2 _ _ _)

theorem zz_shape {w w' : World} {e : Ending} {y z : Int} (h : RetZZ w y z e w') : ∃ b A n c b' A' n' c', e = .returned (.tuple #[.agg #[.bool b, .slice A n c], .agg #[.bool b', .slice A' n' c']]) ∧ ZV w' (.agg #[.bool b, .slice A n c]) y ∧ ZV w' (.agg #[.bool b', .slice A' n' c']) z ∧ Below w.heap.size w w' := h
set_option maxRecDepth 100000 in
/-- over -/
theorem overZ_any (x y : Int) (u v : Value) (w : World) (hx : ZV w u x) (hy : ZV w v y) (lx : (dig x.natAbs).length ≤ 999999) (ly : (dig y.natAbs).length ≤ 1000000) (hy0 : y ≠ 0) :
    Calls Tryz.prog 108 #[u, v] w (RetZ w (x / y)) := by
  obtain ⟨A, n, c, rfl, -, -, -⟩ := hx.open_
  obtain ⟨A', n', c', rfl, -, -, -⟩ := hy.open_
  obtain ⟨p, hp⟩ : ∃ p, p = decide (x < 0) := ⟨_, rfl⟩
  obtain ⟨q, hq⟩ : ∃ q, q = decide (y < 0) := ⟨_, rfl⟩
  rw [← hp] at hx ⊢
  rw [← hq] at hy ⊢
  clear hp hq
  obtain ⟨W1, hW1⟩ : ∃ W1, W1 = ((w.alloc (.cells #[.bool p, .slice A n c] 70)).alloc (.cells #[.bool q, .slice A' n' c'] 70)).alloc (.cells #[.bool false, .slice none 0 0] 70) := ⟨_, rfl⟩
  have e1 : Ext w W1 := by rw [hW1]; exact (((Ext.refl w).alc _).alc _).alc _
  have hd := divideZ_any x y _ _ W1 (hx.ext e1) (hy.ext e1) lx ly hy0
  have hR : RB W1 (w.heap.size + 1 + 1) := by
    have := RB.c1 ((w.alloc (.cells #[.bool p, .slice A n c] 70)).alloc (.cells #[.bool q, .slice A' n' c'] 70)) false none 0 0 70
    rw [World.size_alloc, World.size_alloc] at this
    rw [hW1]; exact this
  have zl : W1.heap.size = w.heap.size + 1 + 1 + 1 := by rw [hW1]; simp
  have zl2 : w.heap.size + 1 + 1 + 1 ≤ W1.heap.size := by omega
  have HD := Lib.hid hd; have HR := Lib.hid hR; have E1 := Lib.hid e1; have HW := Lib.hid hW1
  clear hd hR e1 hx hy hW1 zl
  go_enter Tryz.func108, Tryz.ntmps108
  go_wp2_with fail
  rw [← HW.out]
  clear HW
  refine HD.out.mono ?_
  rintro e V h
  obtain ⟨b1, A1, n1, c1, b2, A2, n2, c2, rfl, z1, z2, hb⟩ := zz_shape h
  have R3 := HR.out.ext hb
  have hlt := R3.lt
  obtain ⟨_, _, _, _, g0, g1, f0, f1⟩ := (R3.ext (((Ext.refl V).alc (.cells #[.bool b1, .slice A1 n1 c1] 70)).alc (.cells #[.bool b2, .slice A2 n2 c2] 70))).facts
  have hz := (((z1.below (below1 V (.cells #[.bool b1, .slice A1 n1 c1] 70))).below (below1 _ (.cells #[.bool b2, .slice A2 n2 c2] 70))).rb (R3.ext (((Ext.refl V).alc (.cells #[.bool b1, .slice A1 n1 c1] 70)).alc (.cells #[.bool b2, .slice A2 n2 c2] 70))) (.bool b1) (.slice A1 n1 c1))
  have hx : Ext w (((V.alloc (.cells #[.bool b1, .slice A1 n1 c1] 70)).alloc (.cells #[.bool b2, .slice A2 n2 c2] 70)).setCell ⟨w.heap.size + 1 + 1, 0, none⟩ (.bool b1)) := (((E1.out.trans hb).alc _).alc _).sc (by omega)
  have s0 := (R3.ext (((Ext.refl V).alc (.cells #[.bool b1, .slice A1 n1 c1] 70)).alc (.cells #[.bool b2, .slice A2 n2 c2] 70))).set0 b1 (.slice A1 n1 c1)
  have s1 := (R3.ext (((Ext.refl V).alc (.cells #[.bool b1, .slice A1 n1 c1] 70)).alc (.cells #[.bool b2, .slice A2 n2 c2] 70))).set1 b1 (.slice A1 n1 c1)
  have HZ1 := Lib.hid hz; have HX := Lib.hid hx; have S0 := Lib.hid s0; have S1 := Lib.hid s1
  clear hz hx s0 s1 hb z1 z2 R3 h
  go_wp2
  have s0 := S0.out; have s1 := S1.out
  exact bodyPost_ret (v := .agg #[.bool b1, .slice A1 n1 c1]) (by simp [results, Tryz.results108, go_sem, s0, s1]) rfl ⟨_, rfl, HZ1.out, HX.out.sc (by omega)⟩
end Go.Proofs.YtmlopkkbgpfdnabGreat
namespace Go.Proofs.YtmlopkkbgpfdnabGreat
open Go.RowKit

/-- block g holds from cell i on a struct that stands for z -/
def HZo (W : World) (g i j : Nat) (z : Int) : Prop := ∃ b A n c, W.cell? ⟨g, i, none⟩ = some (.bool b) ∧ W.cell? ⟨g, j, none⟩ = some (.slice A n c) ∧ ZV W (.agg #[.bool b, .slice A n c]) z
theorem HZo.ext {X Y : World} {g i j : Nat} {z : Int} (h : HZo X g i j z) (hg : g < X.heap.size) (e : Ext X Y) : HZo Y g i j z := by
  obtain ⟨b, A, n, c, h0, h1, h2⟩ := h
  exact ⟨b, A, n, c, keepAt e hg h0, keepAt e hg h1, h2.ext e⟩
/-- a struct of four whole numbers stands for a matrix -/
def STV (w : World) (v : Value) (α β γ δ : Int) : Prop := ∃ (b1 : Bool) (A1 : Option Addr) (n1 c1 : Nat) (b2 : Bool) (A2 : Option Addr) (n2 c2 : Nat) (b3 : Bool) (A3 : Option Addr) (n3 c3 : Nat) (b4 : Bool) (A4 : Option Addr) (n4 c4 : Nat), v = .agg #[.bool b1, .slice A1 n1 c1, .bool b2, .slice A2 n2 c2, .bool b3, .slice A3 n3 c3, .bool b4, .slice A4 n4 c4] ∧ ZV w (.agg #[.bool b1, .slice A1 n1 c1]) α ∧ ZV w (.agg #[.bool b2, .slice A2 n2 c2]) β ∧ ZV w (.agg #[.bool b3, .slice A3 n3 c3]) γ ∧ ZV w (.agg #[.bool b4, .slice A4 n4 c4]) δ
theorem STV.ext {X Y : World} {v : Value} {α β γ δ : Int} (h : STV X v α β γ δ) (e : Ext X Y) : STV Y v α β γ δ := by
  obtain ⟨b1, A1, n1, c1, b2, A2, n2, c2, b3, A3, n3, c3, b4, A4, n4, c4, h0, h1, h2, h3, h4⟩ := h
  exact ⟨b1, A1, n1, c1, b2, A2, n2, c2, b3, A3, n3, c3, b4, A4, n4, c4, h0, h1.ext e, h2.ext e, h3.ext e, h4.ext e⟩
theorem len_mulG {x y k l : Nat} (hx : (dig x).length ≤ k) (hy : (dig y).length ≤ l) : (dig (x * y)).length ≤ k + l := by
  apply dig_len_le
  rw [Nat.pow_add]
  exact Nat.mul_lt_mul'' (lt_of_dig_len hx) (lt_of_dig_len hy)
theorem len_times {x y : Int} {a b : Nat} (hx : (dig x.natAbs).length ≤ a) (hy : (dig y.natAbs).length ≤ b) : (dig (x * y).natAbs).length ≤ a + b := by
  rw [Int.natAbs_mul]; exact len_mulG hx hy

set_option maxHeartbeats 8000000 in
set_option maxRecDepth 100000 in
theorem apply_any (α β γ δ r t : Int) (v u u' : Value) (W : World) (hs : STV W v α β γ δ) (hx : ZV W u r) (hy : ZV W u' t)
    (la : (dig α.natAbs).length ≤ 400000) (lb : (dig β.natAbs).length ≤ 400000) (lc : (dig γ.natAbs).length ≤ 400000) (ld : (dig δ.natAbs).length ≤ 400000) (lx : (dig r.natAbs).length ≤ 400000) (ly : (dig t.natAbs).length ≤ 400000) :
    Calls Tryz.prog 139 #[v, u, u'] W (RetZZ W (α * r + β * t) (γ * r + δ * t)) := by
  obtain ⟨b1, A1, n1, c1, b2, A2, n2, c2, b3, A3, n3, c3, b4, A4, n4, c4, rfl, s1, s2, s3, s4⟩ := hs
  obtain ⟨Ax, nx, cx, rfl, -, -, -⟩ := hx.open_
  obtain ⟨Ay, ny, cy, rfl, -, -, -⟩ := hy.open_
  obtain ⟨bx, hbx⟩ : ∃ b, b = decide (r < 0) := ⟨_, rfl⟩
  obtain ⟨bY, hby⟩ : ∃ b, b = decide (t < 0) := ⟨_, rfl⟩
  rw [← hbx] at hx ⊢
  rw [← hby] at hy ⊢
  have l1 := len_times la lx; have l2 := len_times lb ly; have l3 := len_times lc lx; have l4 := len_times ld ly
  obtain ⟨W2, hW2⟩ : ∃ W2, W2 = W.alloc (.cells #[.bool b1, .slice A1 n1 c1, .bool b2, .slice A2 n2 c2, .bool b3, .slice A3 n3 c3, .bool b4, .slice A4 n4 c4] 154) := ⟨_, rfl⟩
  have q1 : HZo W2 W.heap.size 0 1 α := ⟨b1, A1, n1, c1, by rw [hW2, World.cell?_alloc_new]; rfl, by rw [hW2, World.cell?_alloc_new]; rfl, by rw [hW2]; exact s1.below (below1 _ _)⟩
  have q2 : HZo W2 W.heap.size 2 3 β := ⟨b2, A2, n2, c2, by rw [hW2, World.cell?_alloc_new]; rfl, by rw [hW2, World.cell?_alloc_new]; rfl, by rw [hW2]; exact s2.below (below1 _ _)⟩
  have q3 : HZo W2 W.heap.size 4 5 γ := ⟨b3, A3, n3, c3, by rw [hW2, World.cell?_alloc_new]; rfl, by rw [hW2, World.cell?_alloc_new]; rfl, by rw [hW2]; exact s3.below (below1 _ _)⟩
  have q4 : HZo W2 W.heap.size 6 7 δ := ⟨b4, A4, n4, c4, by rw [hW2, World.cell?_alloc_new]; rfl, by rw [hW2, World.cell?_alloc_new]; rfl, by rw [hW2]; exact s4.below (below1 _ _)⟩
  have z2 : W2.heap.size = W.heap.size + 1 := by rw [hW2]; simp
  have e2 : Ext W W2 := by rw [hW2]; exact (Ext.refl W).alc _
  have p1 : HZ (W2.alloc (.cells #[.bool bx, .slice Ax nx cx] 70)) (W.heap.size + 1) r := by rw [← z2]; exact HZ.lit W2 bx Ax nx cx 70 (hx.ext e2)
  have p2 : HZ ((W2.alloc (.cells #[.bool bx, .slice Ax nx cx] 70)).alloc (.cells #[.bool bY, .slice Ay ny cy] 70)) (W.heap.size + 1 + 1) t := by
    have := HZ.lit (W2.alloc (.cells #[.bool bx, .slice Ax nx cx] 70)) bY Ay ny cy 70 (hy.ext (e2.trans ((Ext.refl _).alc _)))
    rwa [World.size_alloc, z2] at this
  obtain ⟨W1, hW1⟩ : ∃ W1, W1 = (((W2.alloc (.cells #[.bool bx, .slice Ax nx cx] 70)).alloc (.cells #[.bool bY, .slice Ay ny cy] 70)).alloc (.cells #[.bool false, .slice none 0 0] 70)).alloc (.cells #[.bool false, .slice none 0 0] 70) := ⟨_, rfl⟩
  have E1 : Ext W2 W1 := by rw [hW1]; exact ((((Ext.refl W2).alc _).alc _).alc _).alc _
  have Q1 := Lib.hid (q1.ext (by omega) E1); have Q2 := Lib.hid (q2.ext (by omega) E1); have Q3 := Lib.hid (q3.ext (by omega) E1); have Q4 := Lib.hid (q4.ext (by omega) E1)
  have PX : Hid (HZ W1 (W.heap.size + 1) r) := Lib.hid (by rw [hW1]; exact p1.ext p1.lt ((((Ext.refl _).alc _).alc _).alc _))
  have PY : Hid (HZ W1 (W.heap.size + 1 + 1) t) := Lib.hid (by rw [hW1]; exact p2.ext p2.lt (((Ext.refl _).alc _).alc _))
  have R6 : Hid (RB W1 (W.heap.size + 1 + 1 + 1)) := Lib.hid (by
    have := RB.c1 ((W2.alloc (.cells #[.bool bx, .slice Ax nx cx] 70)).alloc (.cells #[.bool bY, .slice Ay ny cy] 70)) false none 0 0 70
    rw [World.size_alloc, World.size_alloc, z2] at this
    rw [hW1]; exact this.ext ((Ext.refl _).alc _))
  have R7 : Hid (RB W1 (W.heap.size + 1 + 1 + 1 + 1)) := Lib.hid (by
    have := RB.c1 (((W2.alloc (.cells #[.bool bx, .slice Ax nx cx] 70)).alloc (.cells #[.bool bY, .slice Ay ny cy] 70)).alloc (.cells #[.bool false, .slice none 0 0] 70)) false none 0 0 70
    rw [World.size_alloc, World.size_alloc, World.size_alloc, z2] at this
    rw [hW1]; exact this)
  have EW := Lib.hid (e2.trans E1)
  have ZL : W1.heap.size = W.heap.size + 1 + 1 + 1 + 1 + 1 := by rw [hW1]; simp [z2]
  have zl : W.heap.size + 5 ≤ W1.heap.size := by omega
  rw [hW2] at hW1
  have HW1 := Lib.hid hW1
  clear hW1 hW2 ZL z2 q1 q2 q3 q4 e2 p1 p2 E1 hx hy hbx hby s1 s2 s3 s4
  go_enter Tryz.func139, Tryz.ntmps139
  go_upto_region 1 with fail
  rw [← HW1.out]
  clear HW1
  refine wp_region_noPanic ?_
  refine wp_pool 18 [some 8, some 9, some 10, some 11, some 12, some 13, some 14, some 15, some 16, some 17, some 18, some 19, some 20, some 21, some 22, some 23, some 24, some 25] [] [] [(fun (v : Value) (_ : World) => v = .pointer (some ⟨W.heap.size, 0, none⟩)), (RZ (α)), (RZ (r)), (RZ (α * r)), (fun (v : Value) (_ : World) => v = .pointer (some ⟨W.heap.size, 2, none⟩)), (RZ (β)), (RZ (t)), (RZ (β * t)), (RZ (α * r + β * t)), (fun (v : Value) (_ : World) => v = .pointer (some ⟨W.heap.size, 4, none⟩)), (RZ (γ)), (RZ (r)), (RZ (γ * r)), (fun (v : Value) (_ : World) => v = .pointer (some ⟨W.heap.size, 6, none⟩)), (RZ (δ)), (RZ (t)), (RZ (δ * t)), (RZ (γ * r + δ * t))] [noF, noF, noF, noF, noF, noF, noF, noF, noF, noF, noF, noF, noF, noF, noF, noF, noF, noF] (by kernel_rfl) (by kernel_rfl) (by kernel_rfl) (by kernel_rfl) (by kernel_rfl) (by kernel_rfl) (by kernel_rfl) (by kernel_rfl) (fun _ _ _ _ h => h) ⟨Stays.pure _, (fun _ _ _ e ⟨b, A, n, c, h1, h2⟩ => ⟨b, A, n, c, h1, h2.ext e⟩), (fun _ _ _ e ⟨b, A, n, c, h1, h2⟩ => ⟨b, A, n, c, h1, h2.ext e⟩), (fun _ _ _ e ⟨b, A, n, c, h1, h2⟩ => ⟨b, A, n, c, h1, h2.ext e⟩), Stays.pure _, (fun _ _ _ e ⟨b, A, n, c, h1, h2⟩ => ⟨b, A, n, c, h1, h2.ext e⟩), (fun _ _ _ e ⟨b, A, n, c, h1, h2⟩ => ⟨b, A, n, c, h1, h2.ext e⟩), (fun _ _ _ e ⟨b, A, n, c, h1, h2⟩ => ⟨b, A, n, c, h1, h2.ext e⟩), (fun _ _ _ e ⟨b, A, n, c, h1, h2⟩ => ⟨b, A, n, c, h1, h2.ext e⟩), Stays.pure _, (fun _ _ _ e ⟨b, A, n, c, h1, h2⟩ => ⟨b, A, n, c, h1, h2.ext e⟩), (fun _ _ _ e ⟨b, A, n, c, h1, h2⟩ => ⟨b, A, n, c, h1, h2.ext e⟩), (fun _ _ _ e ⟨b, A, n, c, h1, h2⟩ => ⟨b, A, n, c, h1, h2.ext e⟩), Stays.pure _, (fun _ _ _ e ⟨b, A, n, c, h1, h2⟩ => ⟨b, A, n, c, h1, h2.ext e⟩), (fun _ _ _ e ⟨b, A, n, c, h1, h2⟩ => ⟨b, A, n, c, h1, h2.ext e⟩), (fun _ _ _ e ⟨b, A, n, c, h1, h2⟩ => ⟨b, A, n, c, h1, h2.ext e⟩), (fun _ _ _ e ⟨b, A, n, c, h1, h2⟩ => ⟨b, A, n, c, h1, h2.ext e⟩), True.intro⟩ ?steps ?done
  case steps =>
    simp only [List.take_succ_cons, List.take_zero]
    refine Steps.cons (fun (v : Value) (_ : World) => v = .pointer (some ⟨W.heap.size, 0, none⟩)) [] rfl (by kernel_rfl) rfl (by kernel_rfl) (fun y X ex0 hf K hK => ?_) ?_
    · clear hf
      have ex := (Ext.drw (Ext.refl _)).trans ex0
      refine Box.mk ?_
      simp only [fill, Act.put, Nat.reduceAdd, List.setIfInBounds_toArray, List.set_cons_zero, List.set_cons_succ] at hK ⊢
      go_simp
      exact hK.out _ _ rfl (Ext.refl _) (fun b hb => by cases hb)
    refine Steps.cons (RZ (α)) [0] rfl (by kernel_rfl) rfl (by kernel_rfl) (fun y X ex0 hf K hK => ?_) ?_
    · have h0 : ((fun (v : Value) (_ : World) => v = .pointer (some ⟨W.heap.size, 0, none⟩))) (y 0) X := hf.1
      clear hf
      have ex := (Ext.drw (Ext.refl _)).trans ex0
      refine Box.mk ?_
      simp only [fill, Act.put, Nat.reduceAdd, List.setIfInBounds_toArray, List.set_cons_zero, List.set_cons_succ, h0] at hK ⊢
      obtain ⟨bl, Al, nl, cl, k0, k1, kz⟩ := (Q1.out.ext (by omega) ex)
      go_simp
      exact hK.out _ _ ⟨_, _, _, _, rfl, kz⟩ (Ext.refl _) (fun b hb => by cases hb)
    refine Steps.cons (RZ (r)) [] rfl (by kernel_rfl) rfl (by kernel_rfl) (fun y X ex0 hf K hK => ?_) ?_
    · clear hf
      have ex := (Ext.drw (Ext.refl _)).trans ex0
      refine Box.mk ?_
      simp only [fill, Act.put, Nat.reduceAdd, List.setIfInBounds_toArray, List.set_cons_zero, List.set_cons_succ] at hK ⊢
      obtain ⟨bl, Al, nl, cl, k0, k1, kz⟩ := (PX.out.ext (by omega) ex)
      go_simp
      exact hK.out _ _ ⟨_, _, _, _, rfl, kz⟩ (Ext.refl _) (fun b hb => by cases hb)
    refine Steps.cons (RZ (α * r)) [1, 2] rfl (by kernel_rfl) rfl (by kernel_rfl) (fun y X ex0 hf K hK => ?_) ?_
    · obtain ⟨b1, A1, n1, c1, h1, z1⟩ : ((RZ (α))) (y 1) X := hf.1
      obtain ⟨b2, A2, n2, c2, h2, z2⟩ : ((RZ (r))) (y 2) X := hf.2.1
      clear hf
      have ex := (Ext.drw (Ext.refl _)).trans ex0
      refine Box.mk ?_
      simp only [fill, Act.put, Nat.reduceAdd, List.setIfInBounds_toArray, List.set_cons_zero, List.set_cons_succ, h1, h2] at hK ⊢
      go_simp
      refine (asAgg (timesZ_any _ _ _ _ _ z1 z2 (by omega) (by omega))).mono ?_
      rintro e V ⟨b9, A9, n9, c9, rfl, hz, hb⟩
      try go_wp2_with fail
      exact hK.out _ _ ⟨_, _, _, _, rfl, hz⟩ hb (fun b hb => by cases hb)
    refine Steps.cons (fun (v : Value) (_ : World) => v = .pointer (some ⟨W.heap.size, 2, none⟩)) [] rfl (by kernel_rfl) rfl (by kernel_rfl) (fun y X ex0 hf K hK => ?_) ?_
    · clear hf
      have ex := (Ext.drw (Ext.refl _)).trans ex0
      refine Box.mk ?_
      simp only [fill, Act.put, Nat.reduceAdd, List.setIfInBounds_toArray, List.set_cons_zero, List.set_cons_succ] at hK ⊢
      go_simp
      exact hK.out _ _ rfl (Ext.refl _) (fun b hb => by cases hb)
    refine Steps.cons (RZ (β)) [4] rfl (by kernel_rfl) rfl (by kernel_rfl) (fun y X ex0 hf K hK => ?_) ?_
    · have h4 : ((fun (v : Value) (_ : World) => v = .pointer (some ⟨W.heap.size, 2, none⟩))) (y 4) X := hf.1
      clear hf
      have ex := (Ext.drw (Ext.refl _)).trans ex0
      refine Box.mk ?_
      simp only [fill, Act.put, Nat.reduceAdd, List.setIfInBounds_toArray, List.set_cons_zero, List.set_cons_succ, h4] at hK ⊢
      obtain ⟨bl, Al, nl, cl, k0, k1, kz⟩ := (Q2.out.ext (by omega) ex)
      go_simp
      exact hK.out _ _ ⟨_, _, _, _, rfl, kz⟩ (Ext.refl _) (fun b hb => by cases hb)
    refine Steps.cons (RZ (t)) [] rfl (by kernel_rfl) rfl (by kernel_rfl) (fun y X ex0 hf K hK => ?_) ?_
    · clear hf
      have ex := (Ext.drw (Ext.refl _)).trans ex0
      refine Box.mk ?_
      simp only [fill, Act.put, Nat.reduceAdd, List.setIfInBounds_toArray, List.set_cons_zero, List.set_cons_succ] at hK ⊢
      obtain ⟨bl, Al, nl, cl, k0, k1, kz⟩ := (PY.out.ext (by omega) ex)
      go_simp
      exact hK.out _ _ ⟨_, _, _, _, rfl, kz⟩ (Ext.refl _) (fun b hb => by cases hb)
    refine Steps.cons (RZ (β * t)) [5, 6, 3] rfl (by kernel_rfl) rfl (by kernel_rfl) (fun y X ex0 hf K hK => ?_) ?_
    · obtain ⟨b5, A5, n5, c5, h5, z5⟩ : ((RZ (β))) (y 5) X := hf.1
      obtain ⟨b6, A6, n6, c6, h6, z6⟩ : ((RZ (t))) (y 6) X := hf.2.1
      obtain ⟨b3, A3, n3, c3, h3, z3⟩ : ((RZ (α * r))) (y 3) X := hf.2.2.1
      clear hf
      have ex := (Ext.drw (Ext.refl _)).trans ex0
      refine Box.mk ?_
      simp only [fill, Act.put, Nat.reduceAdd, List.setIfInBounds_toArray, List.set_cons_zero, List.set_cons_succ, h5, h6, h3] at hK ⊢
      go_simp
      refine (asAgg (timesZ_any _ _ _ _ _ z5 z6 (by omega) (by omega))).mono ?_
      rintro e V ⟨b9, A9, n9, c9, rfl, hz, hb⟩
      try go_wp2_with fail
      exact hK.out _ _ ⟨_, _, _, _, rfl, hz⟩ hb (fun b hb => by cases hb)
    refine Steps.cons (RZ (α * r + β * t)) [3, 7] rfl (by kernel_rfl) rfl (by kernel_rfl) (fun y X ex0 hf K hK => ?_) ?_
    · obtain ⟨b3, A3, n3, c3, h3, z3⟩ : ((RZ (α * r))) (y 3) X := hf.1
      obtain ⟨b7, A7, n7, c7, h7, z7⟩ : ((RZ (β * t))) (y 7) X := hf.2.1
      clear hf
      have ex := (Ext.drw (Ext.refl _)).trans ex0
      refine Box.mk ?_
      simp only [fill, Act.put, Nat.reduceAdd, List.setIfInBounds_toArray, List.set_cons_zero, List.set_cons_succ, h3, h7] at hK ⊢
      go_simp
      refine (asAgg (plusZ_any _ _ _ _ _ z3 z7 (by omega) (by omega))).mono ?_
      rintro e V ⟨b9, A9, n9, c9, rfl, hz, hb⟩
      try go_wp2_with fail
      exact hK.out _ _ ⟨_, _, _, _, rfl, hz⟩ hb (fun b hb => by cases hb)
    refine Steps.cons (fun (v : Value) (_ : World) => v = .pointer (some ⟨W.heap.size, 4, none⟩)) [] rfl (by kernel_rfl) rfl (by kernel_rfl) (fun y X ex0 hf K hK => ?_) ?_
    · clear hf
      have ex := (Ext.drw (Ext.refl _)).trans ex0
      refine Box.mk ?_
      simp only [fill, Act.put, Nat.reduceAdd, List.setIfInBounds_toArray, List.set_cons_zero, List.set_cons_succ] at hK ⊢
      go_simp
      exact hK.out _ _ rfl (Ext.refl _) (fun b hb => by cases hb)
    refine Steps.cons (RZ (γ)) [9] rfl (by kernel_rfl) rfl (by kernel_rfl) (fun y X ex0 hf K hK => ?_) ?_
    · have h9 : ((fun (v : Value) (_ : World) => v = .pointer (some ⟨W.heap.size, 4, none⟩))) (y 9) X := hf.1
      clear hf
      have ex := (Ext.drw (Ext.refl _)).trans ex0
      refine Box.mk ?_
      simp only [fill, Act.put, Nat.reduceAdd, List.setIfInBounds_toArray, List.set_cons_zero, List.set_cons_succ, h9] at hK ⊢
      obtain ⟨bl, Al, nl, cl, k0, k1, kz⟩ := (Q3.out.ext (by omega) ex)
      go_simp
      exact hK.out _ _ ⟨_, _, _, _, rfl, kz⟩ (Ext.refl _) (fun b hb => by cases hb)
    refine Steps.cons (RZ (r)) [] rfl (by kernel_rfl) rfl (by kernel_rfl) (fun y X ex0 hf K hK => ?_) ?_
    · clear hf
      have ex := (Ext.drw (Ext.refl _)).trans ex0
      refine Box.mk ?_
      simp only [fill, Act.put, Nat.reduceAdd, List.setIfInBounds_toArray, List.set_cons_zero, List.set_cons_succ] at hK ⊢
      obtain ⟨bl, Al, nl, cl, k0, k1, kz⟩ := (PX.out.ext (by omega) ex)
      go_simp
      exact hK.out _ _ ⟨_, _, _, _, rfl, kz⟩ (Ext.refl _) (fun b hb => by cases hb)
    refine Steps.cons (RZ (γ * r)) [10, 11, 8] rfl (by kernel_rfl) rfl (by kernel_rfl) (fun y X ex0 hf K hK => ?_) ?_
    · obtain ⟨b10, A10, n10, c10, h10, z10⟩ : ((RZ (γ))) (y 10) X := hf.1
      obtain ⟨b11, A11, n11, c11, h11, z11⟩ : ((RZ (r))) (y 11) X := hf.2.1
      obtain ⟨b8, A8, n8, c8, h8, z8⟩ : ((RZ (α * r + β * t))) (y 8) X := hf.2.2.1
      clear hf
      have ex := (Ext.drw (Ext.refl _)).trans ex0
      refine Box.mk ?_
      simp only [fill, Act.put, Nat.reduceAdd, List.setIfInBounds_toArray, List.set_cons_zero, List.set_cons_succ, h10, h11, h8] at hK ⊢
      go_simp
      refine (asAgg (timesZ_any _ _ _ _ _ z10 z11 (by omega) (by omega))).mono ?_
      rintro e V ⟨b9, A9, n9, c9, rfl, hz, hb⟩
      try go_wp2_with fail
      exact hK.out _ _ ⟨_, _, _, _, rfl, hz⟩ hb (fun b hb => by cases hb)
    refine Steps.cons (fun (v : Value) (_ : World) => v = .pointer (some ⟨W.heap.size, 6, none⟩)) [] rfl (by kernel_rfl) rfl (by kernel_rfl) (fun y X ex0 hf K hK => ?_) ?_
    · clear hf
      have ex := (Ext.drw (Ext.refl _)).trans ex0
      refine Box.mk ?_
      simp only [fill, Act.put, Nat.reduceAdd, List.setIfInBounds_toArray, List.set_cons_zero, List.set_cons_succ] at hK ⊢
      go_simp
      exact hK.out _ _ rfl (Ext.refl _) (fun b hb => by cases hb)
    refine Steps.cons (RZ (δ)) [13] rfl (by kernel_rfl) rfl (by kernel_rfl) (fun y X ex0 hf K hK => ?_) ?_
    · have h13 : ((fun (v : Value) (_ : World) => v = .pointer (some ⟨W.heap.size, 6, none⟩))) (y 13) X := hf.1
      clear hf
      have ex := (Ext.drw (Ext.refl _)).trans ex0
      refine Box.mk ?_
      simp only [fill, Act.put, Nat.reduceAdd, List.setIfInBounds_toArray, List.set_cons_zero, List.set_cons_succ, h13] at hK ⊢
      obtain ⟨bl, Al, nl, cl, k0, k1, kz⟩ := (Q4.out.ext (by omega) ex)
      go_simp
      exact hK.out _ _ ⟨_, _, _, _, rfl, kz⟩ (Ext.refl _) (fun b hb => by cases hb)
    refine Steps.cons (RZ (t)) [] rfl (by kernel_rfl) rfl (by kernel_rfl) (fun y X ex0 hf K hK => ?_) ?_
    · clear hf
      have ex := (Ext.drw (Ext.refl _)).trans ex0
      refine Box.mk ?_
      simp only [fill, Act.put, Nat.reduceAdd, List.setIfInBounds_toArray, List.set_cons_zero, List.set_cons_succ] at hK ⊢
      obtain ⟨bl, Al, nl, cl, k0, k1, kz⟩ := (PY.out.ext (by omega) ex)
      go_simp
      exact hK.out _ _ ⟨_, _, _, _, rfl, kz⟩ (Ext.refl _) (fun b hb => by cases hb)
    refine Steps.cons (RZ (δ * t)) [14, 15, 12] rfl (by kernel_rfl) rfl (by kernel_rfl) (fun y X ex0 hf K hK => ?_) ?_
    · obtain ⟨b14, A14, n14, c14, h14, z14⟩ : ((RZ (δ))) (y 14) X := hf.1
      obtain ⟨b15, A15, n15, c15, h15, z15⟩ : ((RZ (t))) (y 15) X := hf.2.1
      obtain ⟨b12, A12, n12, c12, h12, z12⟩ : ((RZ (γ * r))) (y 12) X := hf.2.2.1
      clear hf
      have ex := (Ext.drw (Ext.refl _)).trans ex0
      refine Box.mk ?_
      simp only [fill, Act.put, Nat.reduceAdd, List.setIfInBounds_toArray, List.set_cons_zero, List.set_cons_succ, h14, h15, h12] at hK ⊢
      go_simp
      refine (asAgg (timesZ_any _ _ _ _ _ z14 z15 (by omega) (by omega))).mono ?_
      rintro e V ⟨b9, A9, n9, c9, rfl, hz, hb⟩
      try go_wp2_with fail
      exact hK.out _ _ ⟨_, _, _, _, rfl, hz⟩ hb (fun b hb => by cases hb)
    refine Steps.cons (RZ (γ * r + δ * t)) [12, 16] rfl (by kernel_rfl) rfl (by kernel_rfl) (fun y X ex0 hf K hK => ?_) ?_
    · obtain ⟨b12, A12, n12, c12, h12, z12⟩ : ((RZ (γ * r))) (y 12) X := hf.1
      obtain ⟨b16, A16, n16, c16, h16, z16⟩ : ((RZ (δ * t))) (y 16) X := hf.2.1
      clear hf
      have ex := (Ext.drw (Ext.refl _)).trans ex0
      refine Box.mk ?_
      simp only [fill, Act.put, Nat.reduceAdd, List.setIfInBounds_toArray, List.set_cons_zero, List.set_cons_succ, h12, h16] at hK ⊢
      go_simp
      refine (asAgg (plusZ_any _ _ _ _ _ z12 z16 (by omega) (by omega))).mono ?_
      rintro e V ⟨b9, A9, n9, c9, rfl, hz, hb⟩
      try go_wp2_with fail
      exact hK.out _ _ ⟨_, _, _, _, rfl, hz⟩ hb (fun b hb => by cases hb)
    exact Steps.nil
  case done =>
    intro y X ex hf hlt hsep
    have h0 : ((fun (v : Value) (_ : World) => v = .pointer (some ⟨W.heap.size, 0, none⟩))) (y 0) X := hf.1
    obtain ⟨b1, A1, n1, c1, h1, z1⟩ : ((RZ (α))) (y 1) X := hf.2.1
    obtain ⟨b2, A2, n2, c2, h2, z2⟩ : ((RZ (r))) (y 2) X := hf.2.2.1
    obtain ⟨b3, A3, n3, c3, h3, z3⟩ : ((RZ (α * r))) (y 3) X := hf.2.2.2.1
    have h4 : ((fun (v : Value) (_ : World) => v = .pointer (some ⟨W.heap.size, 2, none⟩))) (y 4) X := hf.2.2.2.2.1
    obtain ⟨b5, A5, n5, c5, h5, z5⟩ : ((RZ (β))) (y 5) X := hf.2.2.2.2.2.1
    obtain ⟨b6, A6, n6, c6, h6, z6⟩ : ((RZ (t))) (y 6) X := hf.2.2.2.2.2.2.1
    obtain ⟨b7, A7, n7, c7, h7, z7⟩ : ((RZ (β * t))) (y 7) X := hf.2.2.2.2.2.2.2.1
    obtain ⟨b8, A8, n8, c8, h8, z8⟩ : ((RZ (α * r + β * t))) (y 8) X := hf.2.2.2.2.2.2.2.2.1
    have h9 : ((fun (v : Value) (_ : World) => v = .pointer (some ⟨W.heap.size, 4, none⟩))) (y 9) X := hf.2.2.2.2.2.2.2.2.2.1
    obtain ⟨b10, A10, n10, c10, h10, z10⟩ : ((RZ (γ))) (y 10) X := hf.2.2.2.2.2.2.2.2.2.2.1
    obtain ⟨b11, A11, n11, c11, h11, z11⟩ : ((RZ (r))) (y 11) X := hf.2.2.2.2.2.2.2.2.2.2.2.1
    obtain ⟨b12, A12, n12, c12, h12, z12⟩ : ((RZ (γ * r))) (y 12) X := hf.2.2.2.2.2.2.2.2.2.2.2.2.1
    have h13 : ((fun (v : Value) (_ : World) => v = .pointer (some ⟨W.heap.size, 6, none⟩))) (y 13) X := hf.2.2.2.2.2.2.2.2.2.2.2.2.2.1
    obtain ⟨b14, A14, n14, c14, h14, z14⟩ : ((RZ (δ))) (y 14) X := hf.2.2.2.2.2.2.2.2.2.2.2.2.2.2.1
    obtain ⟨b15, A15, n15, c15, h15, z15⟩ : ((RZ (t))) (y 15) X := hf.2.2.2.2.2.2.2.2.2.2.2.2.2.2.2.1
    obtain ⟨b16, A16, n16, c16, h16, z16⟩ : ((RZ (δ * t))) (y 16) X := hf.2.2.2.2.2.2.2.2.2.2.2.2.2.2.2.2.1
    obtain ⟨b17, A17, n17, c17, h17, z17⟩ : ((RZ (γ * r + δ * t))) (y 17) X := hf.2.2.2.2.2.2.2.2.2.2.2.2.2.2.2.2.2.1
    clear hf
    clear hsep hlt
    refine Box.mk ?_
    simp only [List.drop_succ_cons, List.drop_zero, fill, Act.put, Nat.reduceAdd, List.setIfInBounds_toArray, List.set_cons_zero, List.set_cons_succ, h0, h1, h2, h3, h4, h5, h6, h7, h8, h9, h10, h11, h12, h13, h14, h15, h16, h17]
    clear h0 h1 h2 h3 h4 h5 h6 h7 h8 h9 h10 h11 h12 h13 h14 h15 h16 h17
    have R3 := R6.out.ext ex
    have R4 := R7.out.ext ex
    obtain ⟨_, _, _, _, g30, g31, g32, g33⟩ := R3.facts
    obtain ⟨_, _, _, _, g40, g41, g42, g43⟩ := R4.facts
    obtain ⟨W', hW', f1, f2, f3, f4, hz1', hz2', hbf⟩ := two_res R3 R4 (by omega) b8 A8 n8 c8 b17 A17 n17 c17 z8 z17 ((EW.out.trans ex).below) (by omega) (by omega)
    have T := R4.far R3 (by omega) (.bool b8) (.slice A8 n8 c8)
    obtain ⟨_, _, _, _, g50, g51, g52, g53⟩ := T.facts
    have HF := Lib.hid (And.intro hz1' (And.intro hz2' (And.intro hbf (And.intro f1 (And.intro f2 (And.intro f3 f4))))))
    have HW' := Lib.hid hW'
    clear hz1' hz2' hbf f1 f2 f3 f4 hW' T R3 R4 ex z1 z2 z3 z5 z6 z7 z8 z10 z11 z12 z14 z15 z16 z17
    go_wp2_with fail
    refine NoPanic.normal ?_
    go_wp2
    rw [← HW'.out]
    obtain ⟨hz1, hz2, hbf, f1, f2, f3, f4⟩ := HF.out
    exact bodyPost_ret (v := .tuple #[.agg #[.bool b8, .slice A8 n8 c8], .agg #[.bool b17, .slice A17 n17 c17]]) (by simp [results, Tryz.results139, go_sem, f1, f2, f3, f4]) rfl ⟨_, _, _, _, _, _, _, _, rfl, hz1, hz2, hbf⟩
end Go.Proofs.YtmlopkkbgpfdnabGreat
namespace Go.Proofs.YtmlopkkbgpfdnabGreat

/-- the sign of a round -/
def sg (fl : Bool) : Int := if fl then 1 else -1
theorem sg_or (fl : Bool) : (fl = true ∧ sg fl = 1) ∨ (fl = false ∧ sg fl = -1) := by cases fl <;> simp [sg]
theorem sg_not (fl : Bool) : sg (!fl) = - sg fl := by cases fl <;> rfl

/-- the state of the loop: (p, q) are remainders of the tops (P, Q) of x and y; a, b are two rounds behind, c, d one -/
structure Leh (x y P Q p q a b c d e f : Int) (fl : Bool) : Prop where
  p1 : sg fl * (c * P - d * Q) = p
  q1 : sg fl * (f * Q - e * P) = q
  det : c * f - d * e = sg fl
  sum : p * f + q * d = P
  sum2 : p * e + q * c = Q
  pq : q ≤ p
  pp : 1 ≤ p
  q0 : 0 ≤ q
  a0 : 0 ≤ a
  b0 : 0 ≤ b
  c0 : 0 ≤ c
  d0 : 0 ≤ d
  e0 : 0 ≤ e
  f1 : 1 ≤ f
  df : d ≤ f
  ef : e ≤ f
  xc : 0 ≤ sg fl * (c * x - d * y)
  start : b = 0 ∨ (1 ≤ b ∧ b * c - a * d = sg fl ∧ a ≤ c ∧ b ≤ d ∧ sg fl * (c * x - d * y) < sg fl * (b * y - a * x) ∧ sg fl * (b * y - a * x) ≤ y)
  one : (d = 0 ∧ c = 1 ∧ e = 0 ∧ f = 1 ∧ fl = true) ∨ (c ≤ d ∧ 1 ≤ d ∧ c ≤ e)
  first : d = 0 ∨ sg fl * (c * x - d * y) ≤ y
  ab : a ≤ P ∧ b ≤ P

theorem Leh.init {x y P Q : Int} (hP : 1 ≤ P) (hQ0 : 0 ≤ Q) (hQ : Q ≤ P) (hx : 0 ≤ x) : Leh x y P Q P Q 0 0 1 0 0 1 true where
  p1 := by simp [sg]
  q1 := by simp [sg]
  det := by simp [sg]
  sum := by simp
  sum2 := by simp
  pq := hQ
  pp := hP
  q0 := hQ0
  a0 := by omega
  b0 := by omega
  c0 := by omega
  d0 := by omega
  e0 := by omega
  f1 := by omega
  df := by omega
  ef := by omega
  xc := by simp [sg]; exact hx
  start := .inl rfl
  one := .inl ⟨rfl, rfl, rfl, rfl, rfl⟩
  first := .inl rfl
  ab := by omega

section
variable {x y P Q p q a b c d e f : Int} {fl : Bool}
theorem Leh.f_le (h : Leh x y P Q p q a b c d e f fl) : f ≤ P := by
  have h1 := h.sum; have h2 := h.pp; have h3 := h.f1; have h4 := h.q0; have h5 := h.d0
  have k1 : 1 * f ≤ p * f := Int.mul_le_mul_of_nonneg_right h2 (by omega)
  have k2 : 0 ≤ q * d := Int.mul_nonneg h4 h5
  omega
theorem Leh.df_le (h : Leh x y P Q p q a b c d e f fl) (hq : 1 ≤ q) : d + f ≤ P := by
  have h1 := h.sum; have h2 := h.pp; have h3 := h.f1; have h5 := h.d0
  have k1 : 1 * f ≤ p * f := Int.mul_le_mul_of_nonneg_right h2 (by omega)
  have k2 : 1 * d ≤ q * d := Int.mul_le_mul_of_nonneg_right hq h5
  omega
/-- the rest of the round that is looked at is certain -/
theorem Leh.next_pos {B r t : Int} (h : Leh x y P Q p q a b c d e f fl) (hx : x = P * B + r) (hy : y = Q * B + t) (hr : 0 ≤ r) (hr2 : r < B) (ht : 0 ≤ t) (ht2 : t < B) (h1 : f ≤ q) : 0 ≤ sg fl * (f * y - e * x) := by
  have e0 := h.e0; have ef := h.ef; have f1 := h.f1; have q1 := h.q1
  have k1 : e * r ≤ e * B := Int.mul_le_mul_of_nonneg_left (by omega) e0
  have k2 : 0 ≤ f * t := Int.mul_nonneg (by omega) ht
  have k3 : B * e ≤ B * q := Int.mul_le_mul_of_nonneg_left (by omega) (by omega)
  have k4 : f * t ≤ f * B := Int.mul_le_mul_of_nonneg_left (by omega) (by omega)
  have k5 : 0 ≤ e * r := Int.mul_nonneg e0 hr
  have k6 : B * f ≤ B * q := Int.mul_le_mul_of_nonneg_left (by omega) (by omega)
  rcases sg_or fl with ⟨-, hs⟩ | ⟨-, hs⟩ <;> rw [hs] at q1 ⊢ <;> subst hx hy
  · have : 1 * (f * (Q * B + t) - e * (P * B + r)) = B * q + (f * t - e * r) := by grind
    rw [this]; have := Int.mul_comm B e; omega
  · have : -1 * (f * (Q * B + t) - e * (P * B + r)) = B * q + (e * r - f * t) := by grind
    rw [this]; have := Int.mul_comm B f; omega
theorem Leh.next_lt {B r t : Int} (h : Leh x y P Q p q a b c d e f fl) (hx : x = P * B + r) (hy : y = Q * B + t) (hr : 0 ≤ r) (hr2 : r < B) (ht : 0 ≤ t) (ht2 : t < B) (h2 : d + f ≤ p - q) : sg fl * (f * y - e * x) < sg fl * (c * x - d * y) := by
  have e0 := h.e0; have ef := h.ef; have f1 := h.f1; have q1 := h.q1; have p1 := h.p1; have c0 := h.c0; have d0 := h.d0; have one := h.one
  have k3 : B * (d + f) ≤ B * (p - q) := Int.mul_le_mul_of_nonneg_left h2 (by omega)
  rcases sg_or fl with ⟨hf, hs⟩ | ⟨hf, hs⟩ <;> rw [hs] at q1 p1 ⊢ <;> subst hx hy
  · have k1 : 0 ≤ (c + e) * r := Int.mul_nonneg (by omega) hr
    have k2 : (d + f) * t ≤ (d + f) * (B - 1) := Int.mul_le_mul_of_nonneg_left (by omega) (by omega)
    have k4 : (d + f) * (B - 1) = B * (d + f) - (d + f) := by grind
    have : 1 * (c * (P * B + r) - d * (Q * B + t)) - 1 * (f * (Q * B + t) - e * (P * B + r)) = B * (p - q) + ((c + e) * r - (d + f) * t) := by grind
    omega
  · have hcd : c ≤ d := by
      rcases one with ⟨_, _, _, _, h5⟩ | ⟨h5, _⟩
      · rw [hf] at h5; cases h5
      · exact h5
    have k1 : 0 ≤ (d + f) * t := Int.mul_nonneg (by omega) ht
    have k2 : (c + e) * r ≤ (d + f) * r := Int.mul_le_mul_of_nonneg_right (by omega) hr
    have k5 : (d + f) * r ≤ (d + f) * (B - 1) := Int.mul_le_mul_of_nonneg_left (by omega) (by omega)
    have k4 : (d + f) * (B - 1) = B * (d + f) - (d + f) := by grind
    have : -1 * (c * (P * B + r) - d * (Q * B + t)) - -1 * (f * (Q * B + t) - e * (P * B + r)) = B * (p - q) + ((d + f) * t - (c + e) * r) := by grind
    omega
theorem Leh.step {B r t K : Int} (h : Leh x y P Q p q a b c d e f fl) (hx : x = P * B + r) (hy : y = Q * B + t) (hr : 0 ≤ r) (hr2 : r < B) (ht : 0 ≤ t) (ht2 : t < B) (h1 : f ≤ q) (h2 : d + f ≤ p - q)
    (hK : 1 ≤ K) (hm0 : 0 ≤ p - K * q) (hm1 : p - K * q < q) : Leh x y P Q q (p - K * q) c d e f (c + K * e) (d + K * f) (!fl) := by
  have hpos := h.next_pos hx hy hr hr2 ht ht2 h1
  have hlt := h.next_lt hx hy hr hr2 ht ht2 h2
  have hfP := h.f_le
  obtain ⟨p1, q1, det, sum, sum2, pq, pp, q0, a0, b0, c0, d0, e0, f1, df, ef, xc, start, one, first, ab⟩ := h
  have kf : 1 * f ≤ K * f := Int.mul_le_mul_of_nonneg_right hK (by omega)
  have ke : 1 * e ≤ K * e := Int.mul_le_mul_of_nonneg_right hK e0
  have kef : K * e ≤ K * f := Int.mul_le_mul_of_nonneg_left ef (by omega)
  have xx : sg (!fl) * (e * x - f * y) = sg fl * (f * y - e * x) := by rw [sg_not]; grind
  have xa : sg (!fl) * (d * y - c * x) = sg fl * (c * x - d * y) := by rw [sg_not]; grind
  refine ⟨?_, ?_, ?_, ?_, ?_, by omega, by omega, by omega, c0, d0, e0, by omega, by omega, by omega, by omega, ?_, by rw [xx]; exact hpos, ?_, ?_, ?_, ?_⟩
  · rw [sg_not]; grind
  · rw [sg_not]; grind
  · rw [sg_not]; grind
  · grind
  · grind
  · rcases one with ⟨o1, o2, o3, o4, o5⟩ | ⟨o1, o2, o3⟩
    · subst o1 o2 o3 o4; omega
    · omega
  · rcases Int.lt_or_le 0 d with hd | hd
    · right
      refine ⟨by omega, by rw [sg_not]; grind, ?_, df, by rw [xx, xa]; exact hlt, ?_⟩
      · rcases one with ⟨o1, _⟩ | ⟨_, _, o3⟩
        · omega
        · exact o3
      · rw [xa]
        rcases first with o | o
        · omega
        · exact o
    · left; omega
  · right
    exact ⟨ef, f1, by omega⟩
  · right
    rw [xx]
    rcases first with o | o
    · rcases one with ⟨o1, o2, o3, o4, o5⟩ | ⟨_, o2, _⟩
      · subst o3 o4 o5; simp [sg]
      · omega
    · omega
  · refine ⟨?_, by omega⟩
    rcases one with ⟨o1, o2, o3, o4, o5⟩ | ⟨o1, o2, o3⟩
    · omega
    · omega
/-- what the step does -/
theorem Leh.done (h : Leh x y P Q p q a b c d e f fl) (hb : b ≠ 0) : 0 ≤ sg fl * (c * x - d * y) ∧ sg fl * (c * x - d * y) < sg fl * (b * y - a * x) ∧ sg fl * (b * y - a * x) ≤ y ∧ b * c - a * d = sg fl ∧ a ≤ c ∧ b ≤ d := by
  rcases h.start with h1 | ⟨-, h2, h3, h4, h5, h6⟩
  · exact absurd h1 hb
  · exact ⟨h.xc, h5, h6, h2, h3, h4⟩
end
end Go.Proofs.YtmlopkkbgpfdnabGreat
namespace Go.Proofs.YtmlopkkbgpfdnabGreat
open Go.RowKit

/-- block g holds a step's matrix, and may be written -/
def SB (W : World) (g : Nat) : Prop := ∃ (b1 : Bool) (A1 : Option Addr) (n1 c1 : Nat) (b2 : Bool) (A2 : Option Addr) (n2 c2 : Nat) (b3 : Bool) (A3 : Option Addr) (n3 c3 : Nat) (b4 : Bool) (A4 : Option Addr) (n4 c4 : Nat) (t : TypeId), W.heap[g]? = some (.cells #[.bool b1, .slice A1 n1 c1, .bool b2, .slice A2 n2 c2, .bool b3, .slice A3 n3 c3, .bool b4, .slice A4 n4 c4] t (0, 0))
def put8 (W : World) (g : Nat) (v0 v1 v2 v3 v4 v5 v6 v7 : Value) : World := ((((((((W.setCell ⟨g, 0, none⟩ v0).setCell ⟨g, 1, none⟩ v1).setCell ⟨g, 2, none⟩ v2).setCell ⟨g, 3, none⟩ v3).setCell ⟨g, 4, none⟩ v4).setCell ⟨g, 5, none⟩ v5).setCell ⟨g, 6, none⟩ v6).setCell ⟨g, 7, none⟩ v7)
section
variable {W X Y : World} {g : Nat}
theorem SB.lt (h : SB W g) : g < W.heap.size := by
  obtain ⟨b1, A1, n1, c1, b2, A2, n2, c2, b3, A3, n3, c3, b4, A4, n4, c4, t, h⟩ := h
  exact (Array.getElem?_eq_some_iff.1 h).1
theorem SB.ext (h : SB X g) (e : Ext X Y) : SB Y g := by
  have hl := h.lt
  obtain ⟨b1, A1, n1, c1, b2, A2, n2, c2, b3, A3, n3, c3, b4, A4, n4, c4, t, h⟩ := h
  exact ⟨b1, A1, n1, c1, b2, A2, n2, c2, b3, A3, n3, c3, b4, A4, n4, c4, t, (Below.block e g hl).trans h⟩
theorem SB.facts (h : SB W g) : (∃ a0 a1 a2 a3 a4 a5 a6 a7, W.cell? ⟨g, 0, none⟩ = some a0 ∧ W.cell? ⟨g, 1, none⟩ = some a1 ∧ W.cell? ⟨g, 2, none⟩ = some a2 ∧ W.cell? ⟨g, 3, none⟩ = some a3 ∧ W.cell? ⟨g, 4, none⟩ = some a4 ∧ W.cell? ⟨g, 5, none⟩ = some a5 ∧ W.cell? ⟨g, 6, none⟩ = some a6 ∧ W.cell? ⟨g, 7, none⟩ = some a7) ∧ ∀ o, W.frozen? ⟨g, o, none⟩ = false := by
  obtain ⟨b1, A1, n1, c1, b2, A2, n2, c2, b3, A3, n3, c3, b4, A4, n4, c4, t, h⟩ := h
  exact ⟨⟨_, _, _, _, _, _, _, _, cell_of_row W g 0 _ t (0, 0) h, cell_of_row W g 1 _ t (0, 0) h, cell_of_row W g 2 _ t (0, 0) h, cell_of_row W g 3 _ t (0, 0) h, cell_of_row W g 4 _ t (0, 0) h, cell_of_row W g 5 _ t (0, 0) h, cell_of_row W g 6 _ t (0, 0) h, cell_of_row W g 7 _ t (0, 0) h⟩, fun o => by simp [World.frozen?, h]⟩
theorem put8_heap (h : SB W g) (v0 v1 v2 v3 v4 v5 v6 v7 : Value) : ∃ t, (put8 W g v0 v1 v2 v3 v4 v5 v6 v7).heap[g]? = some (.cells #[v0, v1, v2, v3, v4, v5, v6, v7] t (0, 0)) := by
  obtain ⟨b1, A1, n1, c1, b2, A2, n2, c2, b3, A3, n3, c3, b4, A4, n4, c4, t, h⟩ := h
  exact ⟨t, by simp [put8, World.setCell, Array.getElem?_modify, h]⟩
theorem put8_cells (h : SB W g) (v0 v1 v2 v3 v4 v5 v6 v7 : Value) : (put8 W g v0 v1 v2 v3 v4 v5 v6 v7).cell? ⟨g, 0, none⟩ = some v0 ∧ (put8 W g v0 v1 v2 v3 v4 v5 v6 v7).cell? ⟨g, 1, none⟩ = some v1 ∧ (put8 W g v0 v1 v2 v3 v4 v5 v6 v7).cell? ⟨g, 2, none⟩ = some v2 ∧ (put8 W g v0 v1 v2 v3 v4 v5 v6 v7).cell? ⟨g, 3, none⟩ = some v3 ∧ (put8 W g v0 v1 v2 v3 v4 v5 v6 v7).cell? ⟨g, 4, none⟩ = some v4 ∧ (put8 W g v0 v1 v2 v3 v4 v5 v6 v7).cell? ⟨g, 5, none⟩ = some v5 ∧ (put8 W g v0 v1 v2 v3 v4 v5 v6 v7).cell? ⟨g, 6, none⟩ = some v6 ∧ (put8 W g v0 v1 v2 v3 v4 v5 v6 v7).cell? ⟨g, 7, none⟩ = some v7 := by
  obtain ⟨t, e⟩ := put8_heap h v0 v1 v2 v3 v4 v5 v6 v7
  exact ⟨cell_of_row _ g 0 _ t (0, 0) e, cell_of_row _ g 1 _ t (0, 0) e, cell_of_row _ g 2 _ t (0, 0) e, cell_of_row _ g 3 _ t (0, 0) e, cell_of_row _ g 4 _ t (0, 0) e, cell_of_row _ g 5 _ t (0, 0) e, cell_of_row _ g 6 _ t (0, 0) e, cell_of_row _ g 7 _ t (0, 0) e⟩
theorem put8_far (v0 v1 v2 v3 v4 v5 v6 v7 : Value) {k i : Nat} (hne : k ≠ g) : (put8 W g v0 v1 v2 v3 v4 v5 v6 v7).cell? ⟨k, i, none⟩ = W.cell? ⟨k, i, none⟩ := by
  have e : ∀ {Z : World} {j : Nat} {v : Value}, (Z.setCell ⟨g, j, none⟩ v).cell? ⟨k, i, none⟩ = Z.cell? ⟨k, i, none⟩ := fun {Z j v} => World.cell?_setCell_other _ _ _ _ (by intro e; injection e with e1; exact hne e1.symm)
  unfold put8
  rw [e, e, e, e, e, e, e, e]
theorem put8_below {B : Nat} (h : Below B W X) (hg : B ≤ g) (v0 v1 v2 v3 v4 v5 v6 v7 : Value) : Below B W (put8 X g v0 v1 v2 v3 v4 v5 v6 v7) :=
  ((((((((h.setCell (p := ⟨g, 0, none⟩) hg _).setCell (p := ⟨g, 1, none⟩) hg _).setCell (p := ⟨g, 2, none⟩) hg _).setCell (p := ⟨g, 3, none⟩) hg _).setCell (p := ⟨g, 4, none⟩) hg _).setCell (p := ⟨g, 5, none⟩) hg _).setCell (p := ⟨g, 6, none⟩) hg _).setCell (p := ⟨g, 7, none⟩) hg _)
theorem Wd.put8 {v : Value} {l : List Nat} (h : Wd W v l) (hs : SB W g) (v0 v1 v2 v3 v4 v5 v6 v7 : Value) : Wd (put8 W g v0 v1 v2 v3 v4 v5 v6 v7) v l := by
  obtain ⟨A, c, rfl, h1, h2, h3, h4⟩ := h
  refine ⟨A, c, rfl, h1, h2, h3, fun hp => ?_⟩
  obtain ⟨b, off, rfl, hb, hc⟩ := h4 hp
  refine ⟨b, off, rfl, by simpa [Go.Proofs.YtmlopkkbgpfdnabGreat.put8, World.setCell] using hb, fun j hj => ?_⟩
  have hne : b ≠ g := by
    rintro rfl
    have h0 := hc j hj
    obtain ⟨b1, A1, n1, c1, b2, A2, n2, c2, b3, A3, n3, c3, b4, A4, n4, c4, t, hg⟩ := hs
    rw [cell_of_row W b (off + j) _ t (0, 0) hg] at h0
    match hk : off + j with
    | 0 => rw [hk] at h0; simp at h0
    | 1 => rw [hk] at h0; simp at h0
    | 2 => rw [hk] at h0; simp at h0
    | 3 => rw [hk] at h0; simp at h0
    | 4 => rw [hk] at h0; simp at h0
    | 5 => rw [hk] at h0; simp at h0
    | 6 => rw [hk] at h0; simp at h0
    | 7 => rw [hk] at h0; simp at h0
    | k + 8 => rw [hk] at h0; simp at h0
  rw [put8_far _ _ _ _ _ _ _ _ hne]
  exact hc j hj
theorem ZV.put8 {v : Value} {z : Int} (h : ZV W v z) (hs : SB W g) (v0 v1 v2 v3 v4 v5 v6 v7 : Value) : ZV (Go.Proofs.YtmlopkkbgpfdnabGreat.put8 W g v0 v1 v2 v3 v4 v5 v6 v7) v z := by
  obtain ⟨s, rfl, h⟩ := h
  exact ⟨s, rfl, h.put8 hs v0 v1 v2 v3 v4 v5 v6 v7⟩
theorem SB.new (W : World) (t : TypeId) : SB (W.alloc (.cells #[.bool false, .slice none 0 0, .bool false, .slice none 0 0, .bool false, .slice none 0 0, .bool false, .slice none 0 0] t)) W.heap.size :=
  ⟨false, none, 0, 0, false, none, 0, 0, false, none, 0, 0, false, none, 0, 0, t, heap_alloc_new _ _⟩
end

theorem or_wordsG {p q : Nat} (hp : p < 4294967296) (hq : q < 4294967296) : bits BinOp.or IntKind.u64 ((p : Nat) * 4294967296 : Int) (q : Nat) = ((p * 4294967296 + q : Nat) : Int) := by
  have e : ((p : Nat) * 4294967296 : Int) = ((p * 4294967296 : Nat) : Int) := by omega
  rw [e, u64_or_nat _ _ (by omega) (by omega), nat_join 32 _ _ (by omega) (by omega)]
theorem or_top {h q s : Nat} (hq : q < 4294967296) (hs : s ≤ 31) (hh : h * 2 ^ s < 18446744073709551616) : bits BinOp.or IntKind.u64 ((h * 2 ^ s : Nat) : Int) ((q : Int) / 2 ^ (32 - s)) = ((h * 2 ^ s + q / 2 ^ (32 - s) : Nat) : Int) := by
  have h' := two_parts hs
  have h3 : q / 2 ^ (32 - s) < 2 ^ s := by rw [Nat.div_lt_iff_lt_mul (Nat.pow_pos (by omega)), h']; exact hq
  rw [cast_shr, u64_or_nat _ _ hh (by have := Nat.div_le_self q (2 ^ (32 - s)); omega), nat_join s _ _ (Nat.mul_mod_left _ _) h3]
set_option maxHeartbeats 2000000 in
set_option maxRecDepth 100000 in
theorem top_any (x m s : Nat) (v : Value) (w : World) (hv : Wd w v (dig x)) (hm : m ≤ 1000000) (hs : s ≤ 31) (hlt : x * 2 ^ s < 4294967296 ^ (m + 3)) :
    Calls Tryz.prog 161 #[v, .int .i64 ((m + 3 : Nat) : Int), .int .i64 (s : Int)] w fun e w' => e = .returned (.int .u64 (x / (4294967296 ^ m * 2 ^ (32 - s)) : Nat)) ∧ Below w.heap.size w w' := by
  have h0 := dg_lt x m
  have h1 := dg_lt x (m + 1)
  have h2 := dg_lt x (m + 2)
  have hx0 : x < 4294967296 ^ (m + 3) := Nat.lt_of_le_of_lt (Nat.le_mul_of_pos_right x (Nat.pow_pos (by omega))) hlt
  have hval := top_val hs hx0
  have hT := top_lt hs hlt
  have ho1 : bits BinOp.or IntKind.u64 (IntKind.u64.wrap (IntKind.u64.wrap ((dg x (m + 2) : Nat) : Int) * 4294967296)) (IntKind.u64.wrap ((dg x (m + 1) : Nat) : Int)) = ((dg x (m + 2) * 4294967296 + dg x (m + 1) : Nat) : Int) := by
    rw [IntWalk.u64_in ((dg x (m + 2) : Nat) : Int) (by omega), IntWalk.u64_in ((dg x (m + 1) : Nat) : Int) (by omega), IntWalk.u64_in _ (by omega)]
    exact or_wordsG h2 h1
  obtain ⟨H, hH⟩ : ∃ H, H = dg x (m + 2) * 4294967296 + dg x (m + 1) := ⟨_, rfl⟩
  rw [← hH] at hval ho1
  have hHs : H * 2 ^ s < 18446744073709551616 := Nat.lt_of_le_of_lt (Nat.le_add_right _ _) (by rw [← hval] at hT; exact hT)
  have ho2 := or_top h0 hs hHs
  rw [hval] at ho2
  obtain ⟨w0, hw0⟩ : ∃ w0, w0 = dg x m := ⟨_, rfl⟩
  obtain ⟨T, hTT⟩ : ∃ T, T = x / (4294967296 ^ m * 2 ^ (32 - s)) := ⟨_, rfl⟩
  rw [← hw0, ← hTT] at ho2
  rw [← hTT]
  have u1 : IntKind.u64.wrap ((H : Int) * 2 ^ s) = ((H * 2 ^ s : Nat) : Int) := by
    have e : (H : Int) * 2 ^ s = ((H * 2 ^ s : Nat) : Int) := by rw [Int.natCast_mul, Int.natCast_pow]; rfl
    rw [e]; exact IntWalk.u64_in _ (by omega)
  obtain ⟨H2, hH2⟩ : ∃ H2, H2 = H * 2 ^ s := ⟨_, rfl⟩
  rw [← hH2] at u1 ho2
  have w0u : IntKind.u64.wrap (w0 : Int) = (w0 : Int) := IntWalk.u64_in _ (by omega)
  have W0U := Lib.hid w0u; clear w0u
  have O1 := Lib.hid ho1; have O2 := Lib.hid ho2; have U1 := Lib.hid u1; have HW0 := Lib.hid hw0
  clear h0 h1 h2 hx0 hval hT ho1 hH hHs ho2 hw0 hTT u1 hH2 hlt
  have wj : ∀ (j : Int) (i : Nat) (w : World), j = (i : Int) → Wd w v (dig x) → Calls Tryz.prog 146 #[v, .int .i64 j] w fun e w' => e = .returned (.int .u32 (dg x i : Nat)) ∧ w = w' := fun j i w hj h => by subst hj; exact word_dig v x i w h
  have HWJ := Lib.hid wj; have HV := Lib.hid hv
  clear wj hv
  go_enter Tryz.func161, Tryz.ntmps161
  go_wp2_with fail
  refine (HWJ.out _ (m + 2) _ (by omega) HV.out).mono ?_
  rintro e w1 ⟨rfl, rfl⟩
  go_wp2_with fail
  refine (HWJ.out _ (m + 1) _ (by omega) HV.out).mono ?_
  rintro e w1 ⟨rfl, rfl⟩
  go_wp2_with fail
  simp only [O1.out]
  have i1 : IntKind.i64.wrap (m : Int) = (m : Int) := IntWalk.i64_in _ (by omega)
  have i2 : IntKind.i64.wrap (32 - (s : Int)) = 32 - (s : Int) := IntWalk.i64_in _ (by omega)
  have i3 : (32 - (s : Int)).toNat = 32 - s := by omega
  have i4 : 0 ≤ 32 - (s : Int) := by omega
  have u1 := U1.out
  go_region_with ((go_at_call 146; refine (HWJ.out _ m _ (by omega) (by exact HV.out)).mono ?_; rintro e w' ⟨rfl, rfl⟩))
  all_goals clear i1 i2 i3 i4 u1
  all_goals go_wp2
  all_goals rw [← HW0.out, W0U.out, O2.out]
  all_goals go_ret
  all_goals exact ⟨rfl, (Below.refl _ _).drew⟩
end Go.Proofs.YtmlopkkbgpfdnabGreat
namespace Go.Proofs.YtmlopkkbgpfdnabGreat

theorem gcd_le_dvd {x y X Y : Int} (h : ∀ n : Int, n ∣ x → n ∣ y → n ∣ X ∧ n ∣ Y) : Int.gcd x y ∣ Int.gcd X Y := by
  obtain ⟨h1, h2⟩ := h (Int.gcd x y : Int) (Int.gcd_dvd_left ..) (Int.gcd_dvd_right ..)
  exact Int.dvd_gcd h1 h2
theorem gcd_uni {x y a b c d s : Int} (hs : s = 1 ∨ s = -1) (hd : b * c - a * d = s) : Int.gcd (a * x + b * y) (c * x + d * y) = Int.gcd x y := by
  refine Nat.dvd_antisymm (gcd_le_dvd fun n h1 h2 => ?_) (gcd_le_dvd fun n h1 h2 => ?_)
  · obtain ⟨k, hk⟩ := h1
    obtain ⟨l, hl⟩ := h2
    rcases hs with rfl | rfl
    · exact ⟨⟨b * l - d * k, by grind⟩, ⟨c * k - a * l, by grind⟩⟩
    · exact ⟨⟨d * k - b * l, by grind⟩, ⟨a * l - c * k, by grind⟩⟩
  · obtain ⟨k, hk⟩ := h1
    obtain ⟨l, hl⟩ := h2
    subst hk hl
    exact ⟨⟨a * k + b * l, by grind⟩, ⟨c * k + d * l, by grind⟩⟩

/-- a step makes a pair shorter and keeps its common divisors -/
structure SO (x y α β γ δ : Int) : Prop where
  y0 : 0 ≤ γ * x + δ * y
  yl : γ * x + δ * y < y
  yx : γ * x + δ * y < α * x + β * y
  xy : α * x + β * y ≤ y
  ex : ∃ a b c d s : Int, 0 ≤ a ∧ 0 ≤ b ∧ 0 ≤ c ∧ 0 ≤ d ∧ (s = 1 ∨ s = -1) ∧ α = -s * a ∧ β = s * b ∧ γ = s * c ∧ δ = -s * d ∧ b * c - a * d = s ∧ a ≤ c ∧ (b ≤ d ∨ (x < y ∧ a = 0 ∧ b = 1 ∧ c = 1 ∧ d = 0))
theorem SO.gcd {x y α β γ δ : Int} (h : SO x y α β γ δ) : Int.gcd (α * x + β * y) (γ * x + δ * y) = Int.gcd x y := by
  obtain ⟨a, b, c, d, s, -, -, -, -, hs, h1, h2, h3, h4, h5, -⟩ := h.ex
  refine gcd_uni (s := s) hs ?_
  rcases hs with rfl | rfl <;> grind
/-- Euclid's step -/
theorem SO.plain {x y : Int} (hx : 0 ≤ x) (hy : 0 < y) : SO x y 0 1 1 (-(x / y)) := by
  have h1 := Int.emod_nonneg x (by omega : y ≠ 0)
  have h2 := Int.emod_lt_of_pos x hy
  have h3 := Int.emod_add_mul_ediv x y
  have h0 : 0 ≤ x / y := Int.ediv_nonneg hx (by omega)
  have e : 1 * x + -(x / y) * y = x % y := by grind
  refine ⟨by omega, by omega, by omega, by omega, 0, 1, 1, x / y, 1, by omega, by omega, by omega, h0, .inl rfl, by omega, by omega, by omega, by omega, by omega, by omega, ?_⟩
  by_cases hlt : x < y
  · right; exact ⟨hlt, rfl, rfl, rfl, Int.ediv_eq_zero_of_lt hx hlt⟩
  · left
    have : 1 ≤ x / y := by
      refine (Int.le_ediv_iff_mul_le hy).2 ?_
      omega
    exact this
/-- Lehmer's step -/
theorem Leh.so {x y P Q p q a b c d e f : Int} {fl : Bool} (h : Leh x y P Q p q a b c d e f fl) (hb : b ≠ 0) : SO x y (-sg fl * a) (sg fl * b) (sg fl * c) (-sg fl * d) := by
  obtain ⟨h1, h2, h3, h4, h5, h6⟩ := h.done hb
  have e1 : sg fl * c * x + -sg fl * d * y = sg fl * (c * x - d * y) := by grind
  have e2 : -sg fl * a * x + sg fl * b * y = sg fl * (b * y - a * x) := by grind
  refine ⟨by omega, by omega, by omega, by omega, a, b, c, d, sg fl, h.a0, h.b0, h.c0, h.d0, ?_, rfl, rfl, rfl, rfl, h4, h5, .inl h6⟩
  rcases sg_or fl with ⟨-, hs⟩ | ⟨-, hs⟩ <;> rw [hs] <;> simp

/-- the rounds of the extended algorithm -/
structure Ex (A B g r u v : Int) : Prop where
  g0 : 0 ≤ g
  r0 : 0 ≤ r
  gcd : Int.gcd g r = Int.gcd A B
  gu : ∃ k, g = u * A + k * B
  rv : ∃ k, r = v * A + k * B
  bd : ∃ s F O : Int, (s = 1 ∨ s = -1) ∧ 0 ≤ F ∧ 0 ≤ O ∧ u = s * F ∧ v = -s * O ∧ g * O + r * F = B ∧ ((F = 1 ∧ O = 0) ∨ (F ≤ O ∧ r < g))
theorem Ex.init {A B : Int} (hA : 0 ≤ A) (hB : 0 ≤ B) : Ex A B A B 1 0 :=
  ⟨hA, hB, rfl, ⟨0, by grind⟩, ⟨1, by grind⟩, 1, 1, 0, .inl rfl, by omega, by omega, by omega, by omega, by grind, .inl ⟨rfl, rfl⟩⟩
theorem Ex.step {A B g r u v α β γ δ : Int} (h : Ex A B g r u v) (hs : SO g r α β γ δ) : Ex A B (α * g + β * r) (γ * g + δ * r) (α * u + β * v) (γ * u + δ * v) := by
  obtain ⟨g0, r0, hg, ⟨k, hk⟩, ⟨l, hl⟩, s, F, O, h1, h2, h3, h4, h5, h6, h7⟩ := h
  have hgc := hs.gcd
  obtain ⟨y0, yl, yx, xy, a, b, c, d, t, a0, b0, c0, d0, ht, e1, e2, e3, e4, e5, e6, e7⟩ := hs
  refine ⟨by omega, y0, hgc.trans hg, ⟨α * k + β * l, by grind⟩, ⟨γ * k + δ * l, by grind⟩, -t * s, a * F + b * O, c * F + d * O, ?_, ?_, ?_, ?_, ?_, ?_, ?_⟩
  · rcases h1 with rfl | rfl <;> rcases ht with rfl | rfl <;> simp
  · have := Int.mul_nonneg a0 h2; have := Int.mul_nonneg b0 h3; omega
  · have := Int.mul_nonneg c0 h2; have := Int.mul_nonneg d0 h3; omega
  · grind
  · grind
  · have tt : t * t = 1 := by rcases ht with rfl | rfl <;> rfl
    subst e1 e2 e3 e4
    have : (-t * a * g + t * b * r) * (c * F + d * O) + (t * c * g + -t * d * r) * (a * F + b * O) = t * (b * c - a * d) * (g * O + r * F) := by grind
    rw [this, e5, tt, h6]; omega
  · right
    refine ⟨?_, yx⟩
    rcases h7 with ⟨f1, o1⟩ | ⟨f1, o1⟩
    · subst f1 o1; omega
    · rcases e7 with e7 | ⟨e7, -⟩
      · have := Int.mul_le_mul_of_nonneg_right e6 h2
        have := Int.mul_le_mul_of_nonneg_right e7 h3
        omega
      · omega
/-- what Ext returns -/
structure IsExt (a b g x y : Int) : Prop where
  is : g = (Int.gcd a b : Int)
  x0 : 0 ≤ x
  x1 : x < (b / g).natAbs
  sum : a * x + b * y = g
end Go.Proofs.YtmlopkkbgpfdnabGreat
