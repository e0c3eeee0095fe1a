/- Sets of baths as numbers: what the operations on bits come to. · Courses: what stands for one; baths, number, canFollow, step. · Courses: all, size, step, setAndLast. -/
import Derived.Test.YtlachbodibajlaaDoorM13
import Derived.RegionTactic
import Derived.ChangeAlike
namespace Go.Proofs.YtlachbodibajlaaDoor
open Go.RowKit

theorem of_nat (a : Nat) (h : a < 1024) : (BitVec.ofInt 64 (a : Int)).toNat = a := by
  rw [BitVec.toNat_ofInt]
  have : (2 ^ 64 : Nat) = 18446744073709551616 := by decide
  rw [this]; omega
theorem or_nat {a b : Nat} (ha : a < 1024) (hb : b < 1024) : bits .or .i64 (a : Int) (b : Int) = ((a ||| b : Nat) : Int) := by
  show IntKind.i64.wrap ((BitVec.ofInt 64 (a : Int) ||| BitVec.ofInt 64 (b : Int)).toNat : Int) = _
  rw [BitVec.toNat_or, of_nat a ha, of_nat b hb]
  have : a ||| b < 2 ^ 10 := Nat.or_lt_two_pow ha hb
  exact IntWalk.i64_in _ (by omega)
theorem and1_nat {s l : Nat} (hs : s < 1024) : bits .and .i64 ((s : Int) / 2 ^ l) 1 = if s.testBit l = true then 1 else 0 := by
  have hd : s / 2 ^ l < 1024 := Nat.lt_of_le_of_lt (Nat.div_le_self _ _) hs
  have e : ((s : Int) / 2 ^ l) = ((s / 2 ^ l : Nat) : Int) := by simp
  rw [e]
  show IntKind.i64.wrap ((BitVec.ofInt 64 ((s / 2 ^ l : Nat) : Int) &&& BitVec.ofInt 64 ((1 : Nat) : Int)).toNat : Int) = _
  rw [BitVec.toNat_and, of_nat _ hd, of_nat 1 (by omega), Nat.and_one_is_mod]
  rw [Nat.testBit_eq_decide_div_mod_eq]
  by_cases h : s / 2 ^ l % 2 = 1
  · rw [h, decide_eq_true rfl, if_pos rfl]; rfl
  · rw [decide_eq_false h, if_neg (by simp), show s / 2 ^ l % 2 = 0 by omega]; rfl
/-- all of a's are b's -/
def sub (a b : Nat) : Bool := (List.range 10).all fun j => !a.testBit j || b.testBit j
theorem sub_iff {a b : Nat} : sub a b = true ↔ ∀ j, j < 10 → a.testBit j = true → b.testBit j = true := by
  unfold sub
  rw [List.all_eq_true]
  constructor
  · intro h j hj ha
    have := h j (List.mem_range.2 hj)
    rw [ha] at this
    simpa using this
  · intro h j hj
    cases ha : a.testBit j
    · rfl
    · rw [h j (List.mem_range.1 hj) ha]; rfl
theorem andNot_nat {a b : Nat} (ha : a < 1024) (hb : b < 1024) : (bits .andNot .i64 (a : Int) (b : Int) == 0) = sub a b := by
  have h0 : bits .andNot .i64 (a : Int) (b : Int) = IntKind.i64.wrap ((BitVec.ofInt 64 (a : Int) &&& ~~~ BitVec.ofInt 64 (b : Int)).toNat : Int) := rfl
  have h1 : (BitVec.ofInt 64 (a : Int) &&& ~~~ BitVec.ofInt 64 (b : Int)).toNat ≤ a := by
    rw [BitVec.toNat_and, of_nat a ha]; exact Nat.and_le_left
  rw [h0, IntWalk.i64_in _ (by omega)]
  rw [Bool.eq_iff_iff, beq_iff_eq, sub_iff]
  have h2 : ∀ j, (BitVec.ofInt 64 (a : Int) &&& ~~~ BitVec.ofInt 64 (b : Int)).toNat.testBit j = (a.testBit j && (decide (j < 64) && !b.testBit j)) := fun j => by
    rw [BitVec.toNat_and, of_nat a ha, Nat.testBit_and, BitVec.testBit_toNat, BitVec.getLsbD_not, ← BitVec.testBit_toNat, of_nat b hb]
  have hbig : ∀ j, 10 ≤ j → a.testBit j = false := fun j hj => Nat.testBit_lt_two_pow (Nat.lt_of_lt_of_le ha (Nat.pow_le_pow_right (n := 2) (by omega) hj))
  constructor
  · intro h j hj hja
    have h3 := h2 j
    rw [show (BitVec.ofInt 64 (a : Int) &&& ~~~ BitVec.ofInt 64 (b : Int)).toNat = 0 by omega, Nat.zero_testBit, hja, decide_eq_true (by omega)] at h3
    simpa using h3.symm
  · intro h
    have : (BitVec.ofInt 64 (a : Int) &&& ~~~ BitVec.ofInt 64 (b : Int)).toNat = 0 := by
      refine Nat.eq_of_testBit_eq fun j => ?_
      rw [h2, Nat.zero_testBit]
      by_cases hj : j < 10
      · cases hja : a.testBit j
        · rfl
        · rw [h j hj hja]; simp
      · rw [hbig j (by omega)]; rfl
    rw [this]; rfl
end Go.Proofs.YtlachbodibajlaaDoor
namespace Go.Proofs.YtlachbodibajlaaDoor
open Go.RowKit Go.Shelf

/-- a course: baths, first costs, changes, last costs, needs -/
structure Crs where
  n : Nat
  st : Nat → Int
  ch : Nat → Nat → Int
  en : Nat → Int
  nd : Nat → Nat
structure Crs.ok (c : Crs) : Prop where
  n1 : 1 ≤ c.n
  n10 : c.n ≤ 10
  st : ∀ i, i < c.n → 0 ≤ c.st i ∧ c.st i ≤ 1000
  ch : ∀ i j, i < c.n → j < c.n → 0 ≤ c.ch i j ∧ c.ch i j ≤ 1000
  en : ∀ i, i < c.n → 0 ≤ c.en i ∧ c.en i ≤ 1000
  nd : ∀ i, i < c.n → c.nd i < 2 ^ c.n
/-- rows of numbers -/
def Mt (W : World) (V : Value) (n : Nat) (y : Nat → Nat → Int) : Prop :=
  ∃ A k, V = .slice A n k ∧ n ≤ k ∧ k ≤ 9223372036854775807 ∧ (0 < n → ∃ b o, A = some ⟨b, o, none⟩ ∧ b < W.heap.size ∧ ∀ i, i < n → ∃ R, W.cell? ⟨b, o + i, none⟩ = some R ∧ Il W R n (y i))
/-- a course as a value -/
structure Cv (W : World) (S C E N : Value) (c : Crs) : Prop where
  vs : Il W S c.n c.st
  vc : Mt W C c.n c.ch
  ve : Il W E c.n c.en
  vn : Il W N c.n (fun i => (c.nd i : Nat))
theorem Mt.ext {W W' : World} {V : Value} {n : Nat} {y : Nat → Nat → Int} (h : Mt W V n y) (e : Ext W W') : Mt W' V n y := by
  obtain ⟨A, k, h1, h2, h3, h4⟩ := h
  refine ⟨A, k, h1, h2, h3, fun hn => ?_⟩
  obtain ⟨b, o, g1, g2, g3⟩ := h4 hn
  refine ⟨b, o, g1, Nat.lt_of_lt_of_le g2 e.size, fun i hi => ?_⟩
  obtain ⟨R, r1, r2⟩ := g3 i hi
  exact ⟨R, e.at g2 r1, r2.ext e⟩
theorem Cv.ext {W W' : World} {S C E N : Value} {c : Crs} (h : Cv W S C E N c) (e : Ext W W') : Cv W' S C E N c := ⟨Vl.ext h.vs e, h.vc.ext e, Vl.ext h.ve e, Vl.ext h.vn e⟩

set_option maxHeartbeats 4000000 in
set_option maxRecDepth 100000 in
theorem baths_any (S C E N : Value) (c : Crs) (W : World) (h : Cv W S C E N c) (hc : c.ok) : Calls Tryd.prog 69 #[.agg #[S, C, E, N]] W fun e W' => e = .returned (.int .i64 (c.n : Nat)) ∧ Ext W W' := by
  obtain ⟨A, k, rfl, hk, hk2, -⟩ := h.vs
  obtain ⟨A2, k2, rfl, -⟩ := h.vc
  obtain ⟨A3, k3, rfl, -⟩ := h.ve
  obtain ⟨A4, k4, rfl, -⟩ := h.vn
  clear h hc
  go_enter Tryd.func69, Tryd.ntmps69
  go_wp2
  go_ret
  exact ⟨rfl, al1 W _⟩
set_option maxHeartbeats 4000000 in
set_option maxRecDepth 100000 in
theorem number_any (S C E N : Value) (c : Crs) (W : World) (s l : Nat) (h : Cv W S C E N c) (hc : c.ok) (hs : s < 2 ^ c.n) (hl : l < c.n) : Calls Tryd.prog 112 #[.agg #[S, C, E, N], .int .i64 s, .int .i64 l] W fun e W' => e = .returned (.int .i64 ((c.n * s + l : Nat) : Int)) ∧ Ext W W' := by
  have hn := hc.n10
  have hs2 : s < 1024 := Nat.lt_of_lt_of_le hs (Nat.le_trans (Nat.pow_le_pow_right (by omega) hn) (by decide))
  have H := Lib.hid (And.intro h hc)
  obtain ⟨A, k, rfl, hk, hk2, -⟩ := h.vs
  obtain ⟨A2, k2, rfl, -⟩ := h.vc
  obtain ⟨A3, k3, rfl, -⟩ := h.ve
  obtain ⟨A4, k4, rfl, -⟩ := h.vn
  clear h hc hs hk hk2
  have hm : c.n * s ≤ 10 * 1024 := Nat.mul_le_mul hn (by omega)
  obtain ⟨z, hz⟩ : ∃ z, z = c.n * s := ⟨_, rfl⟩
  rw [← hz] at hm ⊢
  have y1 : IntKind.i64.wrap ((c.n : Int) * (s : Int)) = (z : Int) := by
    rw [show (c.n : Int) * (s : Int) = (z : Int) by rw [hz]; simp]; exact IntWalk.i64_in _ (by omega)
  have y2 : IntKind.i64.wrap ((z : Int) + (l : Int)) = (z : Int) + (l : Int) := IntWalk.i64_in _ (by omega)
  have HB := Lib.hid fun X h => baths_any (.slice A c.n k) (.slice A2 c.n k2) (.slice A3 c.n k3) (.slice A4 c.n k4) c X h H.out.2
  have e1 : Hid (Ext W (W.alloc (.cells #[.slice A c.n k, .slice A2 c.n k2, .slice A3 c.n k3, .slice A4 c.n k4] 93))) := Lib.hid (al1 W _)
  have HC := Lib.hid H.out.1
  clear hz
  go_enter Tryd.func112, Tryd.ntmps112
  go_wp2_with fail
  refine (HB.out _ (HC.out.ext e1.out)).mono ?_
  rintro e w1 ⟨rfl, hx⟩
  have HX := Lib.hid (e1.out.trans hx)
  clear hx
  go_wp2
  go_ret
  exact ⟨rfl, HX.out⟩

/-- can a bath follow a set? -/
def Crs.can (c : Crs) (s b : Nat) : Bool := !s.testBit b && sub (c.nd b) s
set_option maxHeartbeats 4000000 in
set_option maxRecDepth 100000 in
theorem canFollow_any (S C E N : Value) (c : Crs) (W : World) (s l : Nat) (h : Cv W S C E N c) (hc : c.ok) (hs : s < 2 ^ c.n) (hl : l < c.n) : Calls Tryd.prog 70 #[.agg #[S, C, E, N], .int .i64 s, .int .i64 l] W fun e W' => e = .returned (.bool (c.can s l)) ∧ Ext W W' := by
  have hn := hc.n10
  have hs2 : s < 1024 := Nat.lt_of_lt_of_le hs (Nat.le_trans (Nat.pow_le_pow_right (by omega) hn) (by decide))
  have H := Lib.hid (And.intro h hc)
  obtain ⟨A, k, rfl, hk, hk2, -⟩ := h.vs
  obtain ⟨A2, k2, rfl, -⟩ := h.vc
  obtain ⟨A3, k3, rfl, -⟩ := h.ve
  obtain ⟨A4, k4, rfl, -⟩ := h.vn
  clear h hc hs hk hk2
  have hnd : c.nd l < 1024 := Nat.lt_of_lt_of_le (H.out.2.nd l hl) (Nat.le_trans (Nat.pow_le_pow_right (by omega) hn) (by decide))
  obtain ⟨b4, o4, rfl, z4, e4⟩ := Vl.at H.out.1.vn (Ext.refl _) hl
  have e1 : Ext W (W.alloc (.cells #[.slice A c.n k, .slice A2 c.n k2, .slice A3 c.n k3, .slice (some ⟨b4, o4, none⟩) c.n k4] 93)) := al1 W _
  dsimp only at e4
  have y1 := and1_nat (l := l) hs2
  have y2 := andNot_nat hnd hs2
  obtain ⟨q, hq⟩ : ∃ q, q = c.nd l := ⟨_, rfl⟩
  rw [← hq] at y2 e4 hnd
  have hcan : c.can s l = (!s.testBit l && sub q s) := by unfold Crs.can; rw [hq]
  rw [hcan]
  have E1 := Lib.hid e1
  have e4' := e1.at z4 e4
  have z4' := Nat.lt_of_lt_of_le z4 e1.size
  clear hq hcan e1 e4 z4
  cases hb : s.testBit l
  · rw [hb] at y1
    simp only [Bool.false_eq_true, if_false] at y1
    go_enter Tryd.func70, Tryd.ntmps70
    go_wp2
    go_ret
    exact ⟨by simp [y2], E1.out⟩
  · rw [hb] at y1
    simp only [if_true] at y1
    go_enter Tryd.func70, Tryd.ntmps70
    go_wp2
    go_ret
    exact ⟨rfl, E1.out⟩
end Go.Proofs.YtlachbodibajlaaDoor
namespace Go.Proofs.YtlachbodibajlaaDoor
open Go.RowKit Go.Shelf

theorem four_c {w : World} {b : Nat} {t : TypeId} {x0 x1 x2 x3 : Value} (h : w.heap[b]? = some (.cells #[x0, x1, x2, x3] t (0, 0))) : w.cell? ⟨b, 0, none⟩ = some x0 ∧ w.cell? ⟨b, 1, none⟩ = some x1 ∧ w.cell? ⟨b, 2, none⟩ = some x2 ∧ w.cell? ⟨b, 3, none⟩ = some x3 ∧ b < w.heap.size :=
  ⟨(cell_of_row w b 0 _ t (0, 0) h).trans rfl, (cell_of_row w b 1 _ t (0, 0) h).trans rfl, (cell_of_row w b 2 _ t (0, 0) h).trans rfl, (cell_of_row w b 3 _ t (0, 0) h).trans rfl, (Array.getElem?_eq_some_iff.1 h).1⟩
/-- the set of all baths -/
def Crs.all (c : Crs) : Nat := 2 ^ c.n - 1
theorem pow_1024 {n : Nat} (h : n ≤ 10) : 2 ^ n ≤ 1024 := Nat.le_trans (Nat.pow_le_pow_right (by omega) h) (by decide)
set_option maxHeartbeats 4000000 in
set_option maxRecDepth 100000 in
theorem all_any (S C E N : Value) (c : Crs) (W : World) (h : Cv W S C E N c) (hc : c.ok) : Calls Tryd.prog 106 #[.agg #[S, C, E, N]] W fun e W' => e = .returned (.int .i64 (c.all : Nat)) ∧ Ext W W' := by
  obtain ⟨A, k, rfl, hk, hk2, -⟩ := h.vs
  obtain ⟨A2, k2, rfl, -⟩ := h.vc
  obtain ⟨A3, k3, rfl, -⟩ := h.ve
  obtain ⟨A4, k4, rfl, -⟩ := h.vn
  have HC := Lib.hid h
  have HOK := Lib.hid hc
  have e1 : Hid (Ext W (W.alloc (.cells #[.slice A c.n k, .slice A2 c.n k2, .slice A3 c.n k3, .slice A4 c.n k4] 93))) := Lib.hid (al1 W _)
  have HB := Lib.hid fun X h => baths_any (.slice A c.n k) (.slice A2 c.n k2) (.slice A3 c.n k3) (.slice A4 c.n k4) c X h hc
  have hn := hc.n10
  clear h hc hk hk2
  have hp := pow_1024 hn
  have hp1 : 1 ≤ 2 ^ c.n := Nat.one_le_two_pow
  obtain ⟨P, hP⟩ : ∃ P, P = 2 ^ c.n := ⟨_, rfl⟩
  have hPi : (2 : Int) ^ c.n = (P : Int) := by rw [hP]; simp
  have y1 : IntKind.i64.wrap (P : Int) = (P : Int) := IntWalk.i64_in _ (by omega)
  have y2 : IntKind.i64.wrap ((P : Int) - 1) = (P : Int) - 1 := IntWalk.i64_in _ (by omega)
  have hall : (c.all : Int) = (P : Int) - 1 := by unfold Crs.all; omega
  have HP := Lib.hid hP
  have HALL := Lib.hid hall
  clear hP hp hp1 hall
  go_enter Tryd.func106, Tryd.ntmps106
  go_wp2_with fail
  refine (HB.out _ (HC.out.ext e1.out)).mono ?_
  rintro e w1 ⟨rfl, hx⟩
  have HX := Lib.hid (e1.out.trans hx)
  clear hx
  go_wp2
  go_ret
  exact ⟨by rw [HALL.out]; rfl, HX.out⟩
/-- how many elements a price table has -/
def Crs.sz (c : Crs) : Nat := c.n * 2 ^ c.n
set_option maxHeartbeats 4000000 in
set_option maxRecDepth 100000 in
theorem size_crs (S C E N : Value) (c : Crs) (W : World) (h : Cv W S C E N c) (hc : c.ok) : Calls Tryd.prog 81 #[.agg #[S, C, E, N]] W fun e W' => e = .returned (.int .i64 (c.sz : Nat)) ∧ Ext W W' := by
  obtain ⟨A, k, rfl, hk, hk2, -⟩ := h.vs
  obtain ⟨A2, k2, rfl, -⟩ := h.vc
  obtain ⟨A3, k3, rfl, -⟩ := h.ve
  obtain ⟨A4, k4, rfl, -⟩ := h.vn
  have HC := Lib.hid h
  have HOK := Lib.hid hc
  have e1 : Hid (Ext W (W.alloc (.cells #[.slice A c.n k, .slice A2 c.n k2, .slice A3 c.n k3, .slice A4 c.n k4] 93))) := Lib.hid (al1 W _)
  have HB := Lib.hid fun X h => baths_any (.slice A c.n k) (.slice A2 c.n k2) (.slice A3 c.n k3) (.slice A4 c.n k4) c X h hc
  have hn := hc.n10
  clear h hc hk hk2
  have hp := pow_1024 hn
  obtain ⟨z, hz⟩ : ∃ z, z = c.sz := ⟨_, rfl⟩
  have hzl : z ≤ 10 * 1024 := by rw [hz]; exact Nat.mul_le_mul hn hp
  have hzi : (c.n : Int) * 2 ^ c.n = (z : Int) := by rw [hz]; unfold Crs.sz; simp
  have y1 : IntKind.i64.wrap (z : Int) = (z : Int) := IntWalk.i64_in _ (by omega)
  rw [← hz]
  have HZ := Lib.hid hz
  clear hz hp
  go_enter Tryd.func81, Tryd.ntmps81
  go_upto_region 1 with fail
  have HE := e1
  have hb := heap_alloc_new W (.cells #[.slice A c.n k, .slice A2 c.n k2, .slice A3 c.n k3, .slice A4 c.n k4] 93)
  obtain ⟨s1, hs1⟩ : ∃ s, s = W.heap.size := ⟨_, rfl⟩
  rw [← hs1] at hb ⊢
  generalize W.alloc (.cells #[.slice A c.n k, .slice A2 c.n k2, .slice A3 c.n k3, .slice A4 c.n k4] 93) = W1 at *
  obtain ⟨c0, c1, c2, c3, z0⟩ := four_c hb
  clear hb hs1
  refine wp_region_noPanic ?_
  refine wp_region_held_drew (S := fun X => Ext W1 X) (by kernel_rfl) (Ext.drw (Ext.refl _)) (fun _ => ?_)
  refine take_at 0 (some 3) (.agg #[.slice A c.n k, .slice A2 c.n k2, .slice A3 c.n k3, .slice A4 c.n k4]) rfl rfl (by kernel_rfl) (by kernel_rfl) (by kernel_rfl) (fun _ _ _ h => h) (Or.inl ⟨by rfl, fun w' hSw => ?_⟩) (Ext.drw (Ext.refl _)) ?_
  · have m0 := keepAt hSw z0 c0
    have m1 := keepAt hSw z0 c1
    have m2 := keepAt hSw z0 c2
    have m3 := keepAt hSw z0 c3
    try clear hSw
    go_simp
    all_goals (with_reducible rfl)
  try simp only [Act.put, List.setIfInBounds_toArray, List.set_cons_zero, List.set_cons_succ]
  refine take_at 2 (some 5) (.agg #[.slice A c.n k, .slice A2 c.n k2, .slice A3 c.n k3, .slice A4 c.n k4]) rfl rfl (by kernel_rfl) (by kernel_rfl) (by kernel_rfl) (fun _ _ _ h => h) (Or.inl ⟨by rfl, fun w' hSw => ?_⟩) (Ext.drw (Ext.refl _)) ?_
  · have m0 := keepAt hSw z0 c0
    have m1 := keepAt hSw z0 c1
    have m2 := keepAt hSw z0 c2
    have m3 := keepAt hSw z0 c3
    try clear hSw
    go_simp
    all_goals (with_reducible rfl)
  try simp only [Act.put, List.setIfInBounds_toArray, List.set_cons_zero, List.set_cons_succ]
  refine wpAnyH_ready (rs := [1]) (by kernel_rfl) (by simp) ?_
  refine AllReadyH.cons rfl (fun K hK => ?_) AllReadyH.nil
  go_simp
  refine (HB.out _ (HC.out.ext (HE.out.trans (Ext.drw (Ext.refl _))))).mono ?_
  rintro e v1 ⟨rfl, hb1⟩
  have e1 : Ext W1 v1 := (Ext.drw (Ext.refl _)).trans hb1
  try go_wp2_with fail
  refine hK.out _ _ e1 (fun _ => ?_)
  clear hK K
  try simp only [Act.put, List.setIfInBounds_toArray, List.set_cons_zero, List.set_cons_succ]
  refine wpAnyH_ready (rs := [3]) (by kernel_rfl) (by simp) ?_
  refine AllReadyH.cons rfl (fun K hK => ?_) AllReadyH.nil
  go_simp
  refine (HB.out _ (HC.out.ext (HE.out.trans e1))).mono ?_
  rintro e v3 ⟨rfl, hb3⟩
  have e3 : Ext W1 v3 := (e1).trans hb3
  try go_wp2_with fail
  refine hK.out _ _ e3 (fun _ => ?_)
  clear hK K
  try simp only [Act.put, List.setIfInBounds_toArray, List.set_cons_zero, List.set_cons_succ]
  refine take_at 4 (some 7) (.int .i64 (z : Nat)) rfl rfl (by kernel_rfl) (by kernel_rfl) (by kernel_rfl) (fun _ _ _ h => h) (Or.inl ⟨by rfl, fun w' hSw => ?_⟩) (e3) ?_
  · skip
    try clear hSw
    go_simp
    all_goals (with_reducible rfl)
  try simp only [Act.put, List.setIfInBounds_toArray, List.set_cons_zero, List.set_cons_succ]
  refine take_at 5 (some 2) (.int .i64 (z : Nat)) rfl rfl (by kernel_rfl) (by kernel_rfl) (by kernel_rfl) (fun _ _ _ h => h) (Or.inl ⟨by rfl, fun w' hSw => ?_⟩) (e3) ?_
  · skip
    try clear hSw
    go_simp
    all_goals (with_reducible rfl)
  try simp only [Act.put, List.setIfInBounds_toArray, List.set_cons_zero, List.set_cons_succ]
  refine wpAnyH_done (by kernel_rfl) ?_ _
  refine NoPanic.normal ?_
  have HX := Lib.hid (HE.out.trans e3)
  clear hb1 hb3 e1 e3
  go_wp2
  go_ret
  exact ⟨rfl, HX.out⟩
/-- what it costs to add bath x to a set whose last bath is l -/
def Crs.stp (c : Crs) (s l x : Nat) : Int := if s = 0 then c.st x else c.ch l x
set_option maxHeartbeats 4000000 in
set_option maxRecDepth 100000 in
theorem step_any (S C E N : Value) (c : Crs) (W : World) (s l x : Nat) (h : Cv W S C E N c) (hl : l < c.n) (hx : x < c.n) : Calls Tryd.prog 71 #[.agg #[S, C, E, N], .int .i64 s, .int .i64 l, .int .i64 x] W fun e W' => e = .returned (.int .i64 (c.stp s l x)) ∧ Ext W W' := by
  obtain ⟨A2, k2, rfl, hk2, hk2', hM⟩ := h.vc
  obtain ⟨A3, k3, rfl, -⟩ := h.ve
  obtain ⟨A4, k4, rfl, -⟩ := h.vn
  obtain ⟨b2, o2, rfl, zb2, hrow⟩ := hM (by omega)
  obtain ⟨R, hR, hRl⟩ := hrow l hl
  obtain ⟨A, k, rfl, hk, hk', -⟩ := id h.vs
  obtain ⟨b1, o1, rfl, zb1, hs1⟩ := Vl.at h.vs (Ext.refl _) hx
  obtain ⟨AR, kR, rfl, hkR, hkR', -⟩ := id hRl
  obtain ⟨bR, oR, rfl, zbR, hr1⟩ := Vl.at hRl (Ext.refl _) hx
  have e1 : Ext W (W.alloc (.cells #[.slice (some ⟨b1, o1, none⟩) c.n k, .slice (some ⟨b2, o2, none⟩) c.n k2, .slice A3 c.n k3, .slice A4 c.n k4] 93)) := al1 W _
  have q1 := e1.at zb1 hs1
  have q2 := e1.at zb2 hR
  have q3 := e1.at zbR hr1
  have w1 := Nat.lt_of_lt_of_le zb1 e1.size
  have w2 := Nat.lt_of_lt_of_le zb2 e1.size
  have w3 := Nat.lt_of_lt_of_le zbR e1.size
  have E1 := Lib.hid e1
  clear h hM hrow hRl hs1 hr1 hR zb1 zb2 zbR e1
  by_cases h0 : s = 0
  · subst h0
    have hst : c.stp 0 l x = c.st x := if_pos rfl
    rw [hst]
    clear hst
    go_enter Tryd.func71, Tryd.ntmps71
    go_wp2
    go_ret
    exact ⟨rfl, E1.out⟩
  · have hst : c.stp s l x = c.ch l x := if_neg h0
    rw [hst]
    have hs0 : ((s : Int) == 0) = false := by simp; omega
    clear hst
    go_enter Tryd.func71, Tryd.ntmps71
    go_wp2
    go_ret
    exact ⟨rfl, E1.out⟩
set_option maxHeartbeats 4000000 in
set_option maxRecDepth 100000 in
theorem setAndLast_any (S C E N : Value) (c : Crs) (W : World) (p : Nat) (h : Cv W S C E N c) (hc : c.ok) (hp : p < c.sz) : Calls Tryd.prog 110 #[.agg #[S, C, E, N], .int .i64 p] W fun e W' => e = .returned (.tuple #[.int .i64 (p / c.n : Nat), .int .i64 (p % c.n : Nat), .bool ((p / c.n).testBit (p % c.n))]) ∧ Ext W W' := by
  obtain ⟨A, k, rfl, hk, hk2, -⟩ := h.vs
  obtain ⟨A2, k2, rfl, -⟩ := h.vc
  obtain ⟨A3, k3, rfl, -⟩ := h.ve
  obtain ⟨A4, k4, rfl, -⟩ := h.vn
  have HC := Lib.hid h
  have HOK := Lib.hid hc
  have e1 : Hid (Ext W (W.alloc (.cells #[.slice A c.n k, .slice A2 c.n k2, .slice A3 c.n k3, .slice A4 c.n k4] 93))) := Lib.hid (al1 W _)
  have HB := Lib.hid fun X h => baths_any (.slice A c.n k) (.slice A2 c.n k2) (.slice A3 c.n k3) (.slice A4 c.n k4) c X h hc
  have hn := hc.n10
  clear h hc hk hk2
  have hn1 := HOK.out.n1
  obtain ⟨s, hs⟩ : ∃ s, s = p / c.n := ⟨_, rfl⟩
  obtain ⟨l, hl⟩ : ∃ l, l = p % c.n := ⟨_, rfl⟩
  have hs2 : s < 1024 := by
    rw [hs]
    exact Nat.lt_of_lt_of_le (Nat.div_lt_of_lt_mul hp) (pow_1024 hn)
  have hl2 : l < c.n := by rw [hl]; exact Nat.mod_lt _ (by omega)
  have hpl : p < 10 * 1024 := Nat.lt_of_lt_of_le hp (Nat.mul_le_mul hn (pow_1024 hn))
  have hq1 : Int.tdiv (p : Int) (c.n : Int) = (s : Int) := by rw [hs]; simp
  have hq2 : Int.tmod (p : Int) (c.n : Int) = (l : Int) := by rw [hl]; simp [Int.tmod_eq_emod_of_nonneg]
  have hn0 : ¬ c.n = 0 := by omega
  have hyw : IntKind.i64.wrap (s : Int) = (s : Int) := IntWalk.i64_in _ (by omega)
  rw [← hs, ← hl]
  have HQ := Lib.hid (And.intro hq1 (And.intro hq2 hyw))
  have y1 := and1_nat (l := l) hs2
  clear hs hl hp hq1 hq2 hyw
  cases hb : s.testBit l
  all_goals
    rw [hb] at y1
    simp only [Bool.false_eq_true, if_false, if_true] at y1
    clear hb
    have Y1 := Lib.hid y1
    clear y1
    go_enter Tryd.func110, Tryd.ntmps110
    go_upto_region 1 with fail
    have HE := e1
    have hb := heap_alloc_new W (.cells #[.slice A c.n k, .slice A2 c.n k2, .slice A3 c.n k3, .slice A4 c.n k4] 93)
    obtain ⟨s1, hs1⟩ : ∃ s, s = W.heap.size := ⟨_, rfl⟩
    rw [← hs1] at hb ⊢
    generalize W.alloc (.cells #[.slice A c.n k, .slice A2 c.n k2, .slice A3 c.n k3, .slice A4 c.n k4] 93) = W1 at *
    obtain ⟨c0, c1, c2, c3, z0⟩ := four_c hb
    clear hb hs1
    refine wp_region_noPanic ?_
    refine wp_region_held_drew (S := fun X => Ext W1 X) (by kernel_rfl) (Ext.drw (Ext.refl _)) (fun _ => ?_)
    refine take_at 0 (some 7) (.int .i64 (p : Nat)) rfl rfl (by kernel_rfl) (by kernel_rfl) (by kernel_rfl) (fun _ _ _ h => h) (Or.inl ⟨by rfl, fun w' hSw => ?_⟩) (Ext.drw (Ext.refl _)) ?_
    · skip
      try clear hSw
      go_simp
      all_goals (with_reducible rfl)
    try simp only [Act.put, List.setIfInBounds_toArray, List.set_cons_zero, List.set_cons_succ]
    refine take_at 1 (some 8) (.agg #[.slice A c.n k, .slice A2 c.n k2, .slice A3 c.n k3, .slice A4 c.n k4]) rfl rfl (by kernel_rfl) (by kernel_rfl) (by kernel_rfl) (fun _ _ _ h => h) (Or.inl ⟨by rfl, fun w' hSw => ?_⟩) (Ext.drw (Ext.refl _)) ?_
    · have m0 := keepAt hSw z0 c0
      have m1 := keepAt hSw z0 c1
      have m2 := keepAt hSw z0 c2
      have m3 := keepAt hSw z0 c3
      try clear hSw
      go_simp
      all_goals (with_reducible rfl)
    try simp only [Act.put, List.setIfInBounds_toArray, List.set_cons_zero, List.set_cons_succ]
    refine take_at 4 (some 11) (.int .i64 (p : Nat)) rfl rfl (by kernel_rfl) (by kernel_rfl) (by kernel_rfl) (fun _ _ _ h => h) (Or.inl ⟨by rfl, fun w' hSw => ?_⟩) (Ext.drw (Ext.refl _)) ?_
    · skip
      try clear hSw
      go_simp
      all_goals (with_reducible rfl)
    try simp only [Act.put, List.setIfInBounds_toArray, List.set_cons_zero, List.set_cons_succ]
    refine take_at 5 (some 12) (.agg #[.slice A c.n k, .slice A2 c.n k2, .slice A3 c.n k3, .slice A4 c.n k4]) rfl rfl (by kernel_rfl) (by kernel_rfl) (by kernel_rfl) (fun _ _ _ h => h) (Or.inl ⟨by rfl, fun w' hSw => ?_⟩) (Ext.drw (Ext.refl _)) ?_
    · have m0 := keepAt hSw z0 c0
      have m1 := keepAt hSw z0 c1
      have m2 := keepAt hSw z0 c2
      have m3 := keepAt hSw z0 c3
      try clear hSw
      go_simp
      all_goals (with_reducible rfl)
    try simp only [Act.put, List.setIfInBounds_toArray, List.set_cons_zero, List.set_cons_succ]
    refine wpAnyH_ready (rs := [2]) (by kernel_rfl) (by simp) ?_
    refine AllReadyH.cons rfl (fun K hK => ?_) AllReadyH.nil
    go_simp
    refine (HB.out _ (HC.out.ext (HE.out.trans (Ext.drw (Ext.refl _))))).mono ?_
    rintro e v2 ⟨rfl, hb2⟩
    have e2 : Ext W1 v2 := (Ext.drw (Ext.refl _)).trans hb2
    try go_wp2_with fail
    refine hK.out _ _ e2 (fun _ => ?_)
    clear hK K
    try simp only [Act.put, List.setIfInBounds_toArray, List.set_cons_zero, List.set_cons_succ]
    refine take_at 3 (some 10) (.int .i64 (s : Nat)) rfl rfl (by kernel_rfl) (by kernel_rfl) (by kernel_rfl) (fun _ _ _ h => h) (Or.inl ⟨by rfl, fun w' hSw => ?_⟩) (e2) ?_
    · have y := HQ.out.1
      have yw := HQ.out.2.2
      try clear hSw
      go_simp
      all_goals (with_reducible rfl)
    try simp only [Act.put, List.setIfInBounds_toArray, List.set_cons_zero, List.set_cons_succ]
    refine wpAnyH_ready (rs := [6]) (by kernel_rfl) (by simp) ?_
    refine AllReadyH.cons rfl (fun K hK => ?_) AllReadyH.nil
    go_simp
    refine (HB.out _ (HC.out.ext (HE.out.trans e2))).mono ?_
    rintro e v6 ⟨rfl, hb6⟩
    have e6 : Ext W1 v6 := (e2).trans hb6
    try go_wp2_with fail
    refine hK.out _ _ e6 (fun _ => ?_)
    clear hK K
    try simp only [Act.put, List.setIfInBounds_toArray, List.set_cons_zero, List.set_cons_succ]
    refine take_at 7 (some 14) (.int .i64 (l : Nat)) rfl rfl (by kernel_rfl) (by kernel_rfl) (by kernel_rfl) (fun _ _ _ h => h) (Or.inl ⟨by rfl, fun w' hSw => ?_⟩) (e6) ?_
    · have y := HQ.out.2.1
      try clear hSw
      go_simp
      all_goals (with_reducible rfl)
    try simp only [Act.put, List.setIfInBounds_toArray, List.set_cons_zero, List.set_cons_succ]
    refine take_at 8 (some 4) (.int .i64 (s : Nat)) rfl rfl (by kernel_rfl) (by kernel_rfl) (by kernel_rfl) (fun _ _ _ h => h) (Or.inl ⟨by rfl, fun w' hSw => ?_⟩) (e6) ?_
    · skip
      try clear hSw
      go_simp
      all_goals (with_reducible rfl)
    try simp only [Act.put, List.setIfInBounds_toArray, List.set_cons_zero, List.set_cons_succ]
    refine take_at 9 (some 5) (.int .i64 (l : Nat)) rfl rfl (by kernel_rfl) (by kernel_rfl) (by kernel_rfl) (fun _ _ _ h => h) (Or.inl ⟨by rfl, fun w' hSw => ?_⟩) (e6) ?_
    · skip
      try clear hSw
      go_simp
      all_goals (with_reducible rfl)
    try simp only [Act.put, List.setIfInBounds_toArray, List.set_cons_zero, List.set_cons_succ]
    refine wpAnyH_done (by kernel_rfl) ?_ _
    refine NoPanic.normal ?_
    have HX := Lib.hid (HE.out.trans e6)
    clear hb2 hb6 e2 e6
    have y1 := Y1.out
    go_upto_region 2 with fail
    go_region
    have HX2 := Lib.hid (HX.out.drw)
    go_wp2
    refine bodyPost_ret (by simp [results, Tryd.results110, go_sem]; rfl) rfl ?_
    exact ⟨rfl, HX2.out⟩
end Go.Proofs.YtlachbodibajlaaDoor
