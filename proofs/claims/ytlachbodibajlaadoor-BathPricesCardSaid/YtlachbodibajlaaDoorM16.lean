/- Courses: the rule of the prices, the keeper of numbers. · Courses: prices; hasOrder. · Walks: elements in their limits; slices.Equal; Table of both. -/
import Derived.Test.YtlachbodibajlaaDoorM15
import Derived.Test.YtlachbodibajlaaDoorM8
import Derived.RegionTactic
import Derived.ChangeAlike
namespace Go.Proofs.YtlachbodibajlaaDoor
open Go.RowKit Go.Shelf

set_option maxHeartbeats 4000000 in
set_option maxRecDepth 100000 in
theorem keepP_any (N : Nat) (rule : Value) (f : Fn) (a1 a2 : Array Value) (hr : rule = .func f a1 a2) (hN : N ≤ 100000) (W : World) :
    Calls Tryd.prog 108 #[.int .i64 N, rule] W fun e W' => ∃ kb g1 g2, e = .returned (.pointer (some ⟨kb, 0, none⟩)) ∧ Ext W W' ∧ W.heap.size ≤ g1 ∧ W.heap.size ≤ g2 ∧ g1 ≠ g2 ∧ kb ≠ g1 ∧ kb ≠ g2 ∧
      W'.heap[kb]? = some (.cells #[rule, .slice (some ⟨g1, 0, none⟩) N N, .slice (some ⟨g2, 0, none⟩) N N] 141 (0, 0)) ∧ BB W' g1 N (fun _ => false) ∧ BI W' g2 N (fun _ => 0) := by
  subst hr
  have hm1 : ∀ w, (Instr.makeSlice 115 (.int .i64 (N : Int)) (.int .i64 (N : Int))).run Tryd.prog w = .ok (.slice (some ⟨w.heap.size, 0, none⟩) N N) (w.alloc (.cells (Array.ofFn fun _ : Fin N => .bool false) 4)) :=
    fun w => make_one 115 4 _ 1 Tryd.underlying115 info4 rfl (by omega) N (by omega) w
  have hm2 : ∀ w, (Instr.makeSlice 32 (.int .i64 (N : Int)) (.int .i64 (N : Int))).run Tryd.prog w = .ok (.slice (some ⟨w.heap.size, 0, none⟩) N N) (w.alloc (.cells (Array.ofFn fun _ : Fin N => .int .i64 0) 3)) :=
    fun w => make_one 32 3 _ 8 Tryd.underlying32 info3 rfl (by omega) N (by omega) w
  obtain ⟨C1, hC1⟩ : ∃ C, C = (Array.ofFn fun _ : Fin N => Value.bool false) := ⟨_, rfl⟩
  obtain ⟨C2, hC2⟩ : ∃ C, C = (Array.ofFn fun _ : Fin N => Value.int .i64 0) := ⟨_, rfl⟩
  rw [← hC1] at hm1
  rw [← hC2] at hm2
  have HC1 := Lib.hid hC1; have HC2 := Lib.hid hC2
  clear hC1 hC2
  go_enter Tryd.func108, Tryd.ntmps108
  go_upto_region 1 with fail
  go_region
  · have b1 : (((W.alloc (.cells C1 4)).alloc (.cells C2 3)).alloc (.cells #[.func f a1 a2, .slice (some ⟨W.heap.size, 0, none⟩) N N, .slice (some ⟨W.heap.size + 1, 0, none⟩) N N] 141)).drew.heap[W.heap.size]? = some (.cells C1 4 (0, 0)) := (Below.heap_alloc _ _ _ (by simp; omega)).trans ((Below.heap_alloc _ _ _ (by simp)).trans (heap_alloc_new W _))
    have b2 : (((W.alloc (.cells C1 4)).alloc (.cells C2 3)).alloc (.cells #[.func f a1 a2, .slice (some ⟨W.heap.size, 0, none⟩) N N, .slice (some ⟨W.heap.size + 1, 0, none⟩) N N] 141)).drew.heap[W.heap.size + 1]? = some (.cells C2 3 (0, 0)) := by
      have h1 := heap_alloc_new (W.alloc (.cells C1 4)) (.cells C2 3)
      simp only [World.size_alloc] at h1
      exact (Below.heap_alloc _ _ _ (by simp)).trans h1
    have b3 : (((W.alloc (.cells C1 4)).alloc (.cells C2 3)).alloc (.cells #[.func f a1 a2, .slice (some ⟨W.heap.size, 0, none⟩) N N, .slice (some ⟨W.heap.size + 1, 0, none⟩) N N] 141)).drew.heap[W.heap.size + 1 + 1]? = some (.cells #[.func f a1 a2, .slice (some ⟨W.heap.size, 0, none⟩) N N, .slice (some ⟨W.heap.size + 1, 0, none⟩) N N] 141 (0, 0)) := by
      have h1 := heap_alloc_new ((W.alloc (.cells C1 4)).alloc (.cells C2 3)) (.cells #[.func f a1 a2, .slice (some ⟨W.heap.size, 0, none⟩) N N, .slice (some ⟨W.heap.size + 1, 0, none⟩) N N] 141)
      simp only [World.size_alloc] at h1
      exact h1
    have ex : Ext W (((W.alloc (.cells C1 4)).alloc (.cells C2 3)).alloc (.cells #[.func f a1 a2, .slice (some ⟨W.heap.size, 0, none⟩) N N, .slice (some ⟨W.heap.size + 1, 0, none⟩) N N] 141)).drew := ((((Ext.refl W).alc _).alc _).alc _).drw
    generalize (((W.alloc (.cells C1 4)).alloc (.cells C2 3)).alloc (.cells #[.func f a1 a2, .slice (some ⟨W.heap.size, 0, none⟩) N N, .slice (some ⟨W.heap.size + 1, 0, none⟩) N N] 141)).drew = Y at *
    rw [HC1.out] at b1
    rw [HC2.out] at b2
    have HB := Lib.hid (And.intro b1 (And.intro b2 (And.intro b3 ex)))
    clear b1 b2 b3 ex
    go_wp2
    go_ret
    exact ⟨_, _, _, rfl, HB.out.2.2.2, Nat.le_refl _, Nat.le_succ _, by omega, by omega, by omega, HB.out.2.2.1, HB.out.1, HB.out.2.1⟩
  · have b1 : (((W.alloc (.cells C2 3)).alloc (.cells C1 4)).alloc (.cells #[.func f a1 a2, .slice (some ⟨W.heap.size + 1, 0, none⟩) N N, .slice (some ⟨W.heap.size, 0, none⟩) N N] 141)).drew.heap[W.heap.size]? = some (.cells C2 3 (0, 0)) := (Below.heap_alloc _ _ _ (by simp; omega)).trans ((Below.heap_alloc _ _ _ (by simp)).trans (heap_alloc_new W _))
    have b2 : (((W.alloc (.cells C2 3)).alloc (.cells C1 4)).alloc (.cells #[.func f a1 a2, .slice (some ⟨W.heap.size + 1, 0, none⟩) N N, .slice (some ⟨W.heap.size, 0, none⟩) N N] 141)).drew.heap[W.heap.size + 1]? = some (.cells C1 4 (0, 0)) := by
      have h1 := heap_alloc_new (W.alloc (.cells C2 3)) (.cells C1 4)
      simp only [World.size_alloc] at h1
      exact (Below.heap_alloc _ _ _ (by simp)).trans h1
    have b3 : (((W.alloc (.cells C2 3)).alloc (.cells C1 4)).alloc (.cells #[.func f a1 a2, .slice (some ⟨W.heap.size + 1, 0, none⟩) N N, .slice (some ⟨W.heap.size, 0, none⟩) N N] 141)).drew.heap[W.heap.size + 1 + 1]? = some (.cells #[.func f a1 a2, .slice (some ⟨W.heap.size + 1, 0, none⟩) N N, .slice (some ⟨W.heap.size, 0, none⟩) N N] 141 (0, 0)) := by
      have h1 := heap_alloc_new ((W.alloc (.cells C2 3)).alloc (.cells C1 4)) (.cells #[.func f a1 a2, .slice (some ⟨W.heap.size + 1, 0, none⟩) N N, .slice (some ⟨W.heap.size, 0, none⟩) N N] 141)
      simp only [World.size_alloc] at h1
      exact h1
    have ex : Ext W (((W.alloc (.cells C2 3)).alloc (.cells C1 4)).alloc (.cells #[.func f a1 a2, .slice (some ⟨W.heap.size + 1, 0, none⟩) N N, .slice (some ⟨W.heap.size, 0, none⟩) N N] 141)).drew := ((((Ext.refl W).alc _).alc _).alc _).drw
    generalize (((W.alloc (.cells C2 3)).alloc (.cells C1 4)).alloc (.cells #[.func f a1 a2, .slice (some ⟨W.heap.size + 1, 0, none⟩) N N, .slice (some ⟨W.heap.size, 0, none⟩) N N] 141)).drew = Y at *
    rw [HC2.out] at b1
    rw [HC1.out] at b2
    have HB := Lib.hid (And.intro b1 (And.intro b2 (And.intro b3 ex)))
    clear b1 b2 b3 ex
    go_wp2
    go_ret
    exact ⟨_, _, _, rfl, HB.out.2.2.2, Nat.le_succ _, Nat.le_refl _, by omega, by omega, by omega, HB.out.2.2.1, HB.out.2.1, HB.out.1⟩


set_option maxHeartbeats 4000000 in
set_option maxRecDepth 100000 in
theorem ruleP_step (c : Crs) (S C E N' : Value) (W0 : World) (kb g1 g2 cb q : Nat) (hK : Kp c S C E N' W0 kb g1 g2 cb) (hq : q < c.sz)
    (ih : ∀ r, r < c.sz → 2 ^ c.n - r / c.n < 2 ^ c.n - q / c.n → OfP c W0 kb g1 g2 cb r) : RuleP c W0 kb g1 g2 cb q := by
  intro W hI
  have hn1 := hK.ok.n1
  have hlt := hI.lt
  have hs : q / c.n < 2 ^ c.n := Nat.div_lt_of_lt_mul hq
  have hl : q % c.n < c.n := Nat.mod_lt _ (by omega)
  have hz := pz_eq hs
  have HI := Lib.hid hI; have HK := Lib.hid hK
  have HA := Lib.hid fun X hX => setAndLast_any S C E N' c X q (hK.cv.ext hX) hK.ok hq
  have HD := Lib.hid fun X (hX : Kt c W0 kb g1 g2 cb X) => due_any S C E N' c W0 X kb g1 g2 (q / c.n) (q % c.n) c.pz (Kt c W0 kb g1 g2 cb) hK.cv hK.ok hs hl hX (fun _ h => h.ext) (fun _ _ h e => h.ext' e) hX.lt.2.1 hX.lt.2.2 (pz_bd hK.ok) (fun x hx hc Y hY => by
    have h3 := or_more (can_bit hc)
    have h4 := or_lt hs hx
    refine ih _ ?_ ?_ Y hY
    · have h6 : c.n * ((q / c.n ||| 2 ^ x) + 1) ≤ c.n * 2 ^ c.n := Nat.mul_le_mul_left _ h4
      rw [Nat.mul_add, Nat.mul_one] at h6
      unfold Crs.sz; omega
    · rw [(nd_num hx).1]; omega)
  obtain ⟨c0, c1, c2, c3, z0⟩ := four_c hK.cb
  replace c0 := hI.ext.at z0 c0
  replace c1 := hI.ext.at z0 c1
  replace c2 := hI.ext.at z0 c2
  replace c3 := hI.ext.at z0 c3
  have z0' := Nat.lt_of_lt_of_le z0 hI.ext.size
  obtain ⟨A, k, rfl, -⟩ := id hK.cv.vs
  obtain ⟨A2, k2, rfl, -⟩ := id hK.cv.vc
  obtain ⟨A3, k3, rfl, -⟩ := id hK.cv.ve
  obtain ⟨A4, k4, rfl, -⟩ := id hK.cv.vn
  obtain ⟨s, hs9⟩ : ∃ s, s = q / c.n := ⟨_, rfl⟩
  obtain ⟨l, hl9⟩ : ∃ l, l = q % c.n := ⟨_, rfl⟩
  rw [← hs9, ← hl9] at HA HD hz
  obtain ⟨r, hr⟩ : ∃ r, r = c.pz q := ⟨_, rfl⟩
  rw [← hr] at hz ⊢
  have HZ := Lib.hid hz
  obtain ⟨d, hd⟩ : ∃ d, d = c.due c.pz s l := ⟨_, rfl⟩
  rw [← hd] at HD HZ
  clear hn1 hlt hs hl hz hI hK ih hq hs9 hl9 hr hd z0
  cases hb : s.testBit l
  · rw [hb] at HA HZ
    have hr1 : r = -1 := HZ.out
    subst hr1
    clear hb
    go_enter Tryd.func109, Tryd.ntmps109
    go_wp2_with fail
    refine (HA.out _ HI.out.ext).mono ?_
    rintro e w2 ⟨rfl, hx⟩
    have HX := Lib.hid hx
    clear hx
    go_wp2
    go_ret
    exact ⟨rfl, Kq.of g1 g2 HX.out, HI.out.ext' HX.out⟩
  · rw [hb] at HA HZ
    have hr1 : r = d := HZ.out
    subst hr1
    clear hb
    go_enter Tryd.func109, Tryd.ntmps109
    go_wp2_with fail
    refine (HA.out _ HI.out.ext).mono ?_
    rintro e w2 ⟨rfl, hx⟩
    have HX := Lib.hid hx
    replace c0 := hx.at z0' c0
    replace c1 := hx.at z0' c1
    replace c2 := hx.at z0' c2
    replace c3 := hx.at z0' c3
    replace z0' := Nat.lt_of_lt_of_le z0' hx.size
    clear hx
    go_wp2_with fail
    refine (HD.out _ (HI.out.ext' HX.out)).mono ?_
    rintro e w3 ⟨rfl, hk3, hi3⟩
    have HF := Lib.hid (And.intro hk3 hi3)
    clear hk3 hi3
    go_wp2
    go_ret
    exact ⟨rfl, (Kq.of g1 g2 HX.out).trans HF.out.1, HF.out.2⟩

/-- every number has its price -/
theorem ofP_all {c : Crs} {S C E N' : Value} {W0 : World} {kb g1 g2 cb : Nat} (hK : Kp c S C E N' W0 kb g1 g2 cb) : ∀ (m q : Nat), q < c.sz → 2 ^ c.n - q / c.n ≤ m → OfP c W0 kb g1 g2 cb q
  | m, q, hq, hm => ofP_step c S C E N' W0 kb g1 g2 cb q hK hq (ruleP_step c S C E N' W0 kb g1 g2 cb q hK hq fun r hr hlt => by
      cases m with
      | zero => omega
      | succ m => exact ofP_all hK m r hr (by omega))
end Go.Proofs.YtlachbodibajlaaDoor
namespace Go.Proofs.YtlachbodibajlaaDoor
open Go.RowKit Go.Shelf

set_option maxHeartbeats 4000000 in
set_option maxRecDepth 100000 in
theorem prices_any (S C E N : Value) (c : Crs) (W : World) (h : Cv W S C E N c) (hc : c.ok) :
    Calls Tryd.prog 80 #[.agg #[S, C, E, N]] W fun e W' => ∃ W0 kb g1 g2 cb, e = .returned (.pointer (some ⟨kb, 0, none⟩)) ∧ Kp c S C E N W0 kb g1 g2 cb ∧ Kt c W0 kb g1 g2 cb W' ∧ Ext W W0 := by
  have HZ := Lib.hid fun X hX => size_crs S C E N c X hX hc
  obtain ⟨A, k, rfl, -⟩ := id h.vs
  obtain ⟨A2, k2, rfl, -⟩ := id h.vc
  obtain ⟨A3, k3, rfl, -⟩ := id h.ve
  obtain ⟨A4, k4, rfl, -⟩ := id h.vn
  have hzl : c.sz ≤ 10 * 1024 := Nat.mul_le_mul hc.n10 (pow_1024 hc.n10)
  have e1 : Ext W (W.alloc (.cells #[.slice A c.n k, .slice A2 c.n k2, .slice A3 c.n k3, .slice A4 c.n k4] 93)) := al1 W _
  have hbk := heap_alloc_new W (.cells #[.slice A c.n k, .slice A2 c.n k2, .slice A3 c.n k3, .slice A4 c.n k4] 93)
  have HC := Lib.hid h; have HOK := Lib.hid hc
  clear h hc
  go_enter Tryd.func80, Tryd.ntmps80
  go_upto_region 1 with fail
  obtain ⟨cb, hcb⟩ : ∃ s, s = W.heap.size := ⟨_, rfl⟩
  rw [← hcb] at hbk ⊢
  generalize W.alloc (.cells #[.slice A c.n k, .slice A2 c.n k2, .slice A3 c.n k3, .slice A4 c.n k4] 93) = W1 at *
  obtain ⟨c0, c1, c2, c3, z0⟩ := four_c hbk
  have HB := Lib.hid (And.intro hbk e1)
  clear hbk hcb e1
  go_wp2_with fail
  refine (HZ.out _ (HC.out.ext HB.out.2)).mono ?_
  rintro e w2 ⟨rfl, hx⟩
  obtain ⟨z, hz⟩ : ∃ z, z = c.sz := ⟨_, rfl⟩
  rw [← hz] at hzl ⊢
  have HZZ := Lib.hid hz
  have HX := Lib.hid hx
  clear hx hz c0 c1 c2 c3 z0
  go_wp2_with fail
  refine (keepP_any z _ (.func 109) #[] #[.pointer (some ⟨cb, 0, none⟩)] rfl (by omega) _).mono ?_
  rintro e w3 ⟨kb, g1, g2, rfl, hx, l1, l2, n12, nk1, nk2, hkb, hB1, hB2⟩
  have hK : Kp c (.slice A c.n k) (.slice A2 c.n k2) (.slice A3 c.n k3) (.slice A4 c.n k4) w2 kb g1 g2 cb := ⟨HOK.out, HC.out.ext (HB.out.2.trans HX.out), (HX.out.block cb (Array.getElem?_eq_some_iff.1 HB.out.1).1).trans HB.out.1, l1, l2, n12, nk1, nk2⟩
  have hI : Kt c w2 kb g1 g2 cb w3 := ⟨hx, by rw [← HZZ.out]; exact hkb, fun _ => false, fun _ => 0, by rw [← HZZ.out]; exact hB1, by rw [← HZZ.out]; exact hB2, fun p _ h => by cases h⟩
  have HR := Lib.hid (And.intro hK (And.intro hI (HB.out.2.trans HX.out)))
  clear hx hkb hB1 hB2 hK hI l1 l2 n12 nk1 nk2
  go_wp2
  go_ret
  exact ⟨w2, kb, g1, g2, cb, rfl, HR.out.1, HR.out.2.1, HR.out.2.2⟩

/-- the greedy adding of baths -/
def Crs.grow (c : Crs) (s x : Nat) : Nat := if c.can s x = true then s ||| 2 ^ x else s
def Crs.rnd (c : Crs) (s : Nat) : Nat := (List.range c.n).foldl c.grow s
def Crs.rnds (c : Crs) : Nat → Nat
  | 0 => 0
  | k + 1 => c.rnd (c.rnds k)
def Crs.has (c : Crs) : Bool := decide (c.rnds c.n = c.all)
theorem grow_lt {c : Crs} {s x : Nat} (hs : s < 2 ^ c.n) (hx : x < c.n) : c.grow s x < 2 ^ c.n := by
  unfold Crs.grow
  split
  · exact or_lt hs hx
  · exact hs
theorem grows_lt {c : Crs} : ∀ (L : List Nat) (s : Nat), (∀ x ∈ L, x < c.n) → s < 2 ^ c.n → L.foldl c.grow s < 2 ^ c.n
  | [], _, _, hs => hs
  | x :: L, s, hL, hs => by rw [List.foldl_cons]; exact grows_lt L _ (fun y hy => hL y (by simp [hy])) (grow_lt hs (hL x (by simp)))
theorem rnds_lt (c : Crs) : ∀ k, c.rnds k < 2 ^ c.n
  | 0 => Nat.two_pow_pos _
  | k + 1 => grows_lt _ _ (fun x hx => List.mem_range.1 hx) (rnds_lt c k)

set_option maxHeartbeats 4000000 in
set_option maxRecDepth 100000 in
theorem hasOrder_any (S C E N : Value) (c : Crs) (W : World) (h : Cv W S C E N c) (hc : c.ok) : Calls Tryd.prog 74 #[.agg #[S, C, E, N]] W fun e W' => e = .returned (.bool c.has) ∧ Ext W W' := by
  have HB := Lib.hid fun X hX => baths_any S C E N c X hX hc
  have HA := Lib.hid fun X hX => all_any S C E N c X hX hc
  have HCF := Lib.hid fun s l X hX hs hl => canFollow_any S C E N c X s l hX hc hs hl
  obtain ⟨A, k, rfl, -⟩ := id h.vs
  obtain ⟨A2, k2, rfl, -⟩ := id h.vc
  obtain ⟨A3, k3, rfl, -⟩ := id h.ve
  obtain ⟨A4, k4, rfl, -⟩ := id h.vn
  have hn := hc.n10
  have e1 : Ext W (W.alloc (.cells #[.slice A c.n k, .slice A2 c.n k2, .slice A3 c.n k3, .slice A4 c.n k4] 93)) := al1 W _
  have hbk := heap_alloc_new W (.cells #[.slice A c.n k, .slice A2 c.n k2, .slice A3 c.n k3, .slice A4 c.n k4] 93)
  have HC := Lib.hid h
  clear h hc
  go_enter Tryd.func74, Tryd.ntmps74
  go_upto_region 1 with fail
  obtain ⟨s1, hs1⟩ : ∃ s, s = W.heap.size := ⟨_, rfl⟩
  rw [← hs1] at hbk ⊢
  generalize W.alloc (.cells #[.slice A c.n k, .slice A2 c.n k2, .slice A3 c.n k3, .slice A4 c.n k4] 93) = W1 at *
  obtain ⟨c0, c1, c2, c3, z0⟩ := four_c hbk
  have HCC := Lib.hid (And.intro c0 (And.intro c1 (And.intro c2 (And.intro c3 z0))))
  have E1 := Lib.hid e1
  clear hbk hs1 e1
  go_wp2_with fail
  refine (HB.out _ (HC.out.ext E1.out)).mono ?_
  rintro e w2 ⟨rfl, hx⟩
  have hin0 := Lib.hid hx
  clear hx c0 c1 c2 c3 z0
  go_wp2_with fail
  go_loopw [3, 7, 11] (fun s q _ wr => ∃ (j z : Nat), q = .int .i64 j ∧ j ≤ c.n ∧ s = .int .i64 z ∧ Hid (z = c.rnds j) ∧ Hid (Ext W1 wr)) (fun _ q _ _ => c.n - (intOf q).toNat)
  case atStart => exact ⟨0, 0, rfl, Nat.zero_le _, rfl, Lib.hid rfl, hin0⟩
  case round =>
    clear hin0
    obtain ⟨j, z, rfl, hj, rfl, hz, hin⟩ := hrel
    obtain ⟨c0, c1, c2, c3, z0⟩ := HCC.out
    replace c0 := hin.out.at z0 c0
    replace c1 := hin.out.at z0 c1
    replace c2 := hin.out.at z0 c2
    replace c3 := hin.out.at z0 c3
    replace z0 := Nat.lt_of_lt_of_le z0 hin.out.size
    by_cases hlt : j < c.n
    · go_wp2_with fail
      refine (HB.out _ (HC.out.ext (E1.out.trans hin.out))).mono ?_
      rintro e w3 ⟨rfl, hx⟩
      have hin2 := Lib.hid (hin.out.trans hx)
      clear hx c0 c1 c2 c3 z0
      go_wp2_with fail
      go_loopw [3, 11] (fun s x wr => ∃ (y z' : Nat), x = .int .i64 y ∧ y ≤ c.n ∧ s = .int .i64 z' ∧ Hid (z' = (List.range y).foldl c.grow z) ∧ Hid (Ext W1 wr)) (fun _ x _ => c.n - (intOf x).toNat)
      case atStart => exact ⟨0, z, rfl, Nat.zero_le _, rfl, Lib.hid rfl, hin2⟩
      case round =>
        clear hin2
        obtain ⟨y, z', rfl, hy, rfl, hz', hin3⟩ := hrel
        obtain ⟨c0, c1, c2, c3, z0⟩ := HCC.out
        replace c0 := hin3.out.at z0 c0
        replace c1 := hin3.out.at z0 c1
        replace c2 := hin3.out.at z0 c2
        replace c3 := hin3.out.at z0 c3
        replace z0 := Nat.lt_of_lt_of_le z0 hin3.out.size
        by_cases hyn : y < c.n
        · have hzl : z' < 2 ^ c.n := by rw [hz'.out]; exact grows_lt _ _ (fun x hx => by have := List.mem_range.1 hx; omega) (by rw [hz.out]; exact rnds_lt c j)
          have hz10 : z' < 1024 := Nat.lt_of_lt_of_le hzl (pow_1024 hn)
          have hstep : (List.range (y + 1)).foldl c.grow z = c.grow z' y := by rw [List.range_succ, List.foldl_append, ← hz'.out]; rfl
          have HST := Lib.hid hstep
          have HZL := Lib.hid hzl
          clear hstep hzl
          go_wp2_with fail
          refine (HCF.out z' y _ (HC.out.ext (E1.out.trans hin3.out)) HZL.out hyn).mono ?_
          rintro e w4 ⟨rfl, hx⟩
          have hin4 := Lib.hid (hin3.out.trans hx)
          clear hx c0 c1 c2 c3 z0
          cases hcan : c.can z' y
          · have hg : c.grow z' y = z' := by unfold Crs.grow; rw [hcan]; rfl
            have HG := Lib.hid hg
            clear hg hcan
            go_wp2
            go_roundw
            case rel => exact ⟨y + 1, z', by go_num, by omega, rfl, Lib.hid (by rw [HST.out, HG.out]), hin4⟩
            case measure => simp [intOf] <;> omega
          · obtain ⟨py, hpy⟩ : ∃ a : Nat, a = 2 ^ y := ⟨_, rfl⟩
            obtain ⟨zy, hzy⟩ : ∃ a : Nat, a = z' ||| 2 ^ y := ⟨_, rfl⟩
            have hpl : py < 1024 := by rw [hpy]; exact Nat.lt_of_lt_of_le (Nat.pow_lt_pow_right (by omega) hyn) (pow_1024 hn)
            have y1 : (2 : Int) ^ y = (py : Int) := by rw [hpy]; simp
            have y2 : bits .or .i64 (z' : Int) (py : Int) = (zy : Int) := by rw [or_nat hz10 hpl, hzy, hpy]
            have y4 : IntKind.i64.wrap (py : Int) = (py : Int) := IntWalk.i64_in _ (by omega)
            have hg : c.grow z' y = zy := by unfold Crs.grow; rw [if_pos hcan, hzy]
            have HG := Lib.hid hg
            clear hg hcan hpy hzy hpl
            go_wp2
            go_roundw
            case rel => exact ⟨y + 1, zy, by go_num, by omega, rfl, Lib.hid (by rw [HST.out, HG.out]), hin4⟩
            case measure => simp [intOf] <;> omega
        · obtain rfl : y = c.n := by omega
          have hx9 : ¬ (c.n : Int) < (c.n : Int) := by omega
          have hnext : z' = c.rnds (j + 1) := by rw [hz'.out, hz.out]; rfl
          have HN := Lib.hid hnext
          clear hnext c0 c1 c2 c3 z0
          go_wp2
          go_roundw
          case rel => exact ⟨j + 1, z', by go_num, by omega, rfl, HN, hin3⟩
          case measure => simp [intOf] <;> omega
    · obtain rfl : j = c.n := by omega
      have hx9 : ¬ (c.n : Int) < (c.n : Int) := by omega
      obtain ⟨a, ha⟩ : ∃ a, a = c.all := ⟨_, rfl⟩
      rw [← ha] at HA
      have hhas : c.has = decide (z = a) := by unfold Crs.has; rw [hz.out, ha]
      have HH := Lib.hid hhas
      clear ha hhas
      go_wp2_with fail
      refine (HA.out _ (HC.out.ext (E1.out.trans hin.out))).mono ?_
      rintro e w3 ⟨rfl, hx⟩
      have HF := Lib.hid (E1.out.trans (hin.out.trans hx))
      clear hx
      have hbe : ((z : Int) == (a : Int)) = decide (z = a) := by
        rw [Bool.eq_iff_iff, beq_iff_eq, decide_eq_true_eq]; omega
      go_wp2
      go_ret
      exact ⟨by rw [HH.out]; simp, HF.out⟩
end Go.Proofs.YtlachbodibajlaaDoor
namespace Go.Proofs.YtlachbodibajlaaDoor
open Go.RowKit Go.Shelf

/-- the first k elements lie between -/
def btw (x : Nat → Int) (lo hi : Int) (k : Nat) : Bool := (List.range k).all fun i => decide (lo ≤ x i ∧ x i ≤ hi)
theorem btw_succ (x : Nat → Int) (lo hi : Int) (k : Nat) : btw x lo hi (k + 1) = (btw x lo hi k && decide (lo ≤ x k ∧ x k ≤ hi)) := by
  unfold btw; rw [List.range_succ, List.all_append]; simp
theorem btw_no {x : Nat → Int} {lo hi : Int} {k n : Nat} (hk : k < n) (h : ¬ (lo ≤ x k ∧ x k ≤ hi)) : btw x lo hi n = false := by
  unfold btw
  rw [List.all_eq_false]
  exact ⟨k, List.mem_range.2 hk, by simpa using h⟩
theorem btw_iff {x : Nat → Int} {lo hi : Int} {n : Nat} : btw x lo hi n = true ↔ ∀ i, i < n → lo ≤ x i ∧ x i ≤ hi := by
  unfold btw
  rw [List.all_eq_true]
  exact ⟨fun h i hi => of_decide_eq_true (h i (List.mem_range.2 hi)), fun h i hi => decide_eq_true (h i (List.mem_range.1 hi))⟩

set_option maxHeartbeats 4000000 in
set_option maxRecDepth 100000 in
theorem areBetween_any (n : Nat) (x : Nat → Int) (lo hi : Int) (V : Value) (W : World) (hV : Il W V n x) :
    Calls Tryd.prog 59 #[V, .int .i64 lo, .int .i64 hi] W fun e W' => e = .returned (.bool (btw x lo hi n)) ∧ W' = W := by
  have HV := Lib.hid hV
  obtain ⟨A, c, rfl, hac, hcm, -⟩ := hV
  go_enter Tryd.func59, Tryd.ntmps59
  go_wp2_with fail
  go_loopw [11] (fun i wr => ∃ k : Nat, i = .int .i64 k ∧ k ≤ n ∧ btw x lo hi k = true ∧ wr = W) (fun i _ => n - (intOf i).toNat)
  case atStart => exact ⟨0, rfl, Nat.zero_le _, rfl, rfl⟩
  case round =>
    obtain ⟨k, rfl, hk, hall, rfl⟩ := hrel
    by_cases hlt : k < n
    · obtain ⟨b1, o1, rfl, -, e1⟩ := Vl.at HV.out (Ext.refl _) hlt
      have hsu := btw_succ x lo hi k
      have hno := fun h => btw_no (x := x) (lo := lo) (hi := hi) hlt h
      rw [hall, Bool.true_and] at hsu
      obtain ⟨z, hz⟩ : ∃ z, z = x k := ⟨_, rfl⟩
      rw [← hz] at e1 hsu hno
      have HSU := Lib.hid hsu; have HNO := Lib.hid hno
      clear hsu hno hz hall
      by_cases h1 : z < lo
      · go_wp2
        go_ret
        exact ⟨by rw [HNO.out (by omega)]; rfl, rfl⟩
      · by_cases h2 : hi < z
        · go_wp2
          go_ret
          exact ⟨by rw [HNO.out (by omega)]; rfl, rfl⟩
        · go_wp2
          go_roundw
          case rel => exact ⟨k + 1, by go_num, by omega, by rw [HSU.out]; exact decide_eq_true ⟨by omega, by omega⟩, trivial⟩
          case measure => simp [intOf]; omega
    · obtain rfl : k = n := by omega
      go_wp2
      go_ret
      exact ⟨by rw [hall]; rfl, rfl⟩

set_option maxHeartbeats 4000000 in
set_option maxRecDepth 100000 in
theorem near_any (n : Nat) (x : Nat → Int) (V : Value) (W : World) (hV : Il W V n x) :
    Calls Tryd.prog 62 #[V] W fun e W' => e = .returned (.bool (btw x (-1099511627776) 1099511627776 n)) ∧ W' = W := by
  have HV := Lib.hid hV
  obtain ⟨A, c, rfl, hac, hcm, -⟩ := hV
  go_enter Tryd.func62, Tryd.ntmps62
  go_wp2_with fail
  go_loopw [7] (fun i wr => ∃ k : Nat, i = .int .i64 k ∧ k ≤ n ∧ btw x (-1099511627776) 1099511627776 k = true ∧ wr = W) (fun i _ => n - (intOf i).toNat)
  case atStart => exact ⟨0, rfl, Nat.zero_le _, rfl, rfl⟩
  case round =>
    obtain ⟨k, rfl, hk, hall, rfl⟩ := hrel
    by_cases hlt : k < n
    · obtain ⟨b1, o1, rfl, -, e1⟩ := Vl.at HV.out (Ext.refl _) hlt
      have hsu := btw_succ x (-1099511627776) 1099511627776 k
      have hno := fun h => btw_no (x := x) (lo := (-1099511627776)) (hi := 1099511627776) hlt h
      rw [hall, Bool.true_and] at hsu
      obtain ⟨z, hz⟩ : ∃ z, z = x k := ⟨_, rfl⟩
      rw [← hz] at e1 hsu hno
      have HSU := Lib.hid hsu; have HNO := Lib.hid hno
      clear hsu hno hz hall
      by_cases h1 : z < (-1099511627776)
      · go_wp2
        go_ret
        exact ⟨by rw [HNO.out (by omega)]; rfl, rfl⟩
      · by_cases h2 : 1099511627776 < z
        · go_wp2
          go_ret
          exact ⟨by rw [HNO.out (by omega)]; rfl, rfl⟩
        · go_wp2
          go_roundw
          case rel => exact ⟨k + 1, by go_num, by omega, by rw [HSU.out]; exact decide_eq_true ⟨by omega, by omega⟩, trivial⟩
          case measure => simp [intOf]; omega
    · obtain rfl : k = n := by omega
      go_wp2
      go_ret
      exact ⟨by rw [hall]; rfl, rfl⟩

set_option maxHeartbeats 4000000 in
set_option maxRecDepth 100000 in
theorem equalI_any (n : Nat) (x : Nat → Int) (U V : Value) (W : World) (hU : Il W U n x) (hV : Il W V n x) (hn : n ≤ 100000) :
    Calls Tryd.prog 24 #[U, V] W fun e W' => e = .returned (.bool true) ∧ Ext W W' := by
  have HU := Lib.hid hU; have HV := Lib.hid hV
  obtain ⟨A1, c1, rfl, hc1, hd1, -⟩ := hU
  obtain ⟨A2, c2, rfl, hc2, hd2, -⟩ := hV
  go_enter Tryd.func24, Tryd.ntmps24
  go_wp2_with fail
  go_loopw [13] (fun i wr => ∃ k : Nat, i = .int .i64 k ∧ k ≤ n ∧ Hid (Ext W wr)) (fun i _ => n - (intOf i).toNat)
  case atStart => exact ⟨0, rfl, Nat.zero_le _, Lib.hid (Ext.refl _)⟩
  case round =>
    obtain ⟨k, rfl, hk, hin⟩ := hrel
    by_cases hlt : k < n
    · obtain ⟨b1, o1, rfl, -, e1⟩ := Vl.at HU.out hin.out hlt
      obtain ⟨b2, o2, rfl, -, e2⟩ := Vl.at HV.out hin.out hlt
      obtain ⟨p, hp⟩ : ∃ p, p = x k := ⟨_, rfl⟩
      rw [← hp] at e1 e2
      have e1d : wr.drew.cell? ⟨b1, o1 + k, none⟩ = some (.int .i64 p) := e1
      have e2d : wr.drew.cell? ⟨b2, o2 + k, none⟩ = some (.int .i64 p) := e2
      have hpp : (p != p) = false := by simp
      clear hp e1 e2
      go_upto_region 6 with fail
      go_region
      clear e1d e2d
      go_wp2
      go_roundw
      case rel => exact ⟨k + 1, by go_num, by omega, Lib.hid (hin.out.drw)⟩
      case measure => simp [intOf]; omega
    · obtain rfl : k = n := by omega
      go_wp2
      go_ret
      exact ⟨rfl, hin.out⟩

/-- what Table returns -/
def RetT (ws : List Bw.Word) (W : World) (e : Ending) (W' : World) : Prop := ∃ V er, e = .returned (.tuple #[V, .int .i64 er]) ∧ Ext W W' ∧
  ((okWs ws = false ∧ V = .slice none 0 0 ∧ er = 2) ∨ (okWs ws = true ∧ er = 0 ∧ Il W' V (Bw.sz ws) (fun j => ((Bw.rest ws j).1.length : Nat))))

set_option maxHeartbeats 4000000 in
set_option maxRecDepth 100000 in
theorem tableR_ret (ws : List Bw.Word) (V : Value) (W : World) (hV : Sl W V ws) (hs : Sm ws) : Calls Tryd.prog 23 #[V] W (RetT ws W) := by
  have HV := Lib.hid hV
  obtain ⟨A, c, rfl, hac, hcm, -⟩ := hV
  go_enter Tryd.func23, Tryd.ntmps23
  go_wp2_with fail
  refine (wordsR_any ws _ _ HV.out hs).mono ?_
  rintro e w1 ⟨rfl, hx⟩
  have HX := Lib.hid hx; clear hx
  cases hw : okWs ws
  · have HW := Lib.hid hw
    clear hw
    go_wp2
    refine bodyPost_ret (v := .tuple #[.slice none 0 0, .int .i64 2]) (by simp [results, Tryd.results23, go_sem]) rfl ?_
    exact ⟨_, _, rfl, HX.out, .inl ⟨HW.out, rfl, rfl⟩⟩
  · have HW := Lib.hid hw
    clear hw
    go_wp2_with fail
    refine (tableR_any ws _ _ (HV.out.ext HX.out) HW.out).mono ?_
    rintro e w2 ⟨gt, gc, rfl, l1, l2, hne, hT, hC, hx⟩
    obtain ⟨-, h4, h8, -⟩ := okWs_iff.1 HW.out
    have hzl := Bw.sz_le ws h4 h8
    have HF := Lib.hid (And.intro (BI.il hT (by omega)) (HX.out.trans hx))
    clear hT hC hx h4 h8
    go_wp2
    refine bodyPost_ret (v := .tuple #[.slice (some ⟨gt, 0, none⟩) (Bw.sz ws) (Bw.sz ws), .int .i64 0]) (by simp [results, Tryd.results23, go_sem]) rfl ?_
    exact ⟨_, _, rfl, HF.out.2, .inr ⟨HW.out, rfl, HF.out.1⟩⟩

set_option maxHeartbeats 4000000 in
set_option maxRecDepth 100000 in
theorem table_ret (ws : List Bw.Word) (V : Value) (W : World) (hV : Sl W V ws) (hs : Sm ws) : Calls Tryd.prog 22 #[V] W (RetT ws W) := by
  have HV := Lib.hid hV
  obtain ⟨A, c, rfl, hac, hcm, -⟩ := hV
  go_enter Tryd.func22, Tryd.ntmps22
  go_wp2_with fail
  refine (areWords_any ws _ _ HV.out hs).mono ?_
  rintro e w1 ⟨rfl, hx⟩
  have HX := Lib.hid hx; clear hx
  cases hw : okWs ws
  · have HW := Lib.hid hw
    clear hw
    go_wp2
    refine bodyPost_ret (v := .tuple #[.slice none 0 0, .int .i64 2]) (by simp [results, Tryd.results22, go_sem]) rfl ?_
    exact ⟨_, _, rfl, HX.out, .inl ⟨HW.out, rfl, rfl⟩⟩
  · have HW := Lib.hid hw
    obtain ⟨-, h4, h8, -⟩ := okWs_iff.1 hw
    have hzl := Bw.sz_le ws h4 h8
    have H8 := Lib.hid h8; have H4 := Lib.hid h4
    clear hw h4 h8 hs
    go_wp2_with fail
    refine (rests_any ws _ _ (HV.out.ext HX.out) HW.out).mono ?_
    rintro e w2 ⟨W0, kb, g1, g2, gb, rfl, hK, hI, hx0⟩
    have HK := Lib.hid (And.intro hK hx0)
    have HI := Lib.hid hI
    clear hK hI hx0
    go_wp2_with fail
    refine (size_any ws _ _ (HV.out.ext (HX.out.trans (HK.out.2.trans HI.out.ext))) H8.out H4.out).mono ?_
    rintro e w3 ⟨rfl, rfl⟩
    obtain ⟨N, hN⟩ : ∃ N, N = Bw.sz ws := ⟨_, rfl⟩
    rw [← hN] at hzl ⊢
    have HN := Lib.hid hN
    have hm1 : ∀ w, (Instr.makeSlice 32 (.int .i64 (N : Int)) (.int .i64 (N : Int))).run Tryd.prog w = .ok (.slice (some ⟨w.heap.size, 0, none⟩) N N) (w.alloc (.cells (Array.ofFn fun _ : Fin N => .int .i64 0) 3)) :=
      fun w => make_one 32 3 _ 8 Tryd.underlying32 info3 rfl (by omega) N (by omega) w
    obtain ⟨C1, hC1⟩ : ∃ C, C = (Array.ofFn fun _ : Fin N => Value.int .i64 0) := ⟨_, rfl⟩
    rw [← hC1] at hm1
    have hb := heap_alloc_new w3 (.cells C1 3)
    rw [hC1] at hb
    have e4 : Ext w3 (w3.alloc (.cells C1 3)) := Ext.alc (Ext.refl _) _
    have HB : Hid (BI (w3.alloc (.cells C1 3)) w3.heap.size N (fun j => if j < 0 then (((Bw.rest ws j).1.length : Nat) : Int) else 0)) := by
      refine Lib.hid (Bk.congr (f := fun _ => .int .i64 0) ?_ fun j _ => by simp)
      rw [hC1]; exact hb
    have HI4 := Lib.hid (HI.out.ext' e4)
    have HG : Hid (W0.heap.size ≤ w3.heap.size ∧ kb ≠ w3.heap.size ∧ g1 ≠ w3.heap.size ∧ g2 ≠ w3.heap.size) := by
      have h1 := HI.out.lt
      have h2 := HI.out.ext.size
      exact Lib.hid ⟨h2, by omega, by omega, by omega⟩
    have HW4 : Hid (W.heap.size ≤ w3.heap.size) := Lib.hid (HX.out.trans (HK.out.2.trans HI.out.ext)).size
    have HX4 : Hid (Ext W (w3.alloc (.cells C1 3))) := Lib.hid ((HX.out.trans (HK.out.2.trans HI.out.ext)).trans e4)
    have HWG : Hid (W.heap.size ≤ g1 ∧ W.heap.size ≤ g2) := by
      have h1 := HK.out.1.l1; have h2 := HK.out.1.l2; have h3 := (HX.out.trans HK.out.2).size
      exact Lib.hid ⟨by omega, by omega⟩
    clear hN hC1 hb e4 HI
    go_wp2_with fail
    obtain ⟨gt, hgt⟩ : ∃ g, g = w3.heap.size := ⟨_, rfl⟩
    rw [← hgt] at HB HG HW4 ⊢
    generalize w3.alloc (.cells C1 3) = w4 at *
    clear hgt hm1
    go_loopw [19] (fun i wr => ∃ k : Nat, i = .int .i64 k ∧ k ≤ N ∧ Hid (BI wr gt N (fun j => if j < k then (((Bw.rest ws j).1.length : Nat) : Int) else 0) ∧ Ki ws W0 kb g1 g2 gb wr ∧ Ext W wr)) (fun i _ => N - (intOf i).toNat)
    case atStart => exact ⟨0, rfl, Nat.zero_le _, Lib.hid ⟨HB.out, HI4.out, HX4.out⟩⟩
    case round =>
      obtain ⟨k, rfl, hk, hin⟩ := hrel
      by_cases hlt : k < N
      · have hks : k < Bw.sz ws := by rw [← HN.out]; exact hlt
        have hc := of_all HK.out.1 _ k hks (Nat.le_refl _) wr hin.out.2.1
        obtain ⟨u, hu⟩ : ∃ u, u = (Bw.rest ws k).1 := ⟨_, rfl⟩
        obtain ⟨v, hv⟩ : ∃ v, v = (Bw.rest ws k).2 := ⟨_, rfl⟩
        rw [← hu, ← hv] at hc
        have HC := Lib.hid hc; have HU := Lib.hid hu
        clear hc hu hv hks
        go_wp2_with fail
        refine HC.out.mono ?_
        rintro e w5 ⟨rfl, hk5, hi5⟩
        have hf0 := fun w => field0 ⟨u.toArray⟩ v w
        have hgl : gt < wr.heap.size := Bk.lt hin.out.1
        have hbt : BI w5 gt N (fun j => if j < k then (((Bw.rest ws j).1.length : Nat) : Int) else 0) := (hk5.block gt hgl (by have := HG.out; omega) (by have := HG.out; omega)).trans hin.out.1
        have c0 := Bk.cell hbt hlt
        have f0 := Bk.free hbt k
        have z0 := Bk.lt hbt
        have hnx : BI (w5.setCell ⟨gt, k, none⟩ (.int .i64 (u.length : Nat))) gt N (fun j => if j < k + 1 then (((Bw.rest ws j).1.length : Nat) : Int) else 0) := Bk.congr (BI.set_ hbt k _) fun j _ => by
          congr 1
          unfold up
          by_cases h : j = k
          · subst h; rw [if_pos rfl, HU.out]; simp
          · rw [if_neg h]
            by_cases h2 : j < k
            · simp [h2, show j < k + 1 by omega]
            · simp [h2, show ¬ j < k + 1 by omega]
        have hin5 : Ki ws W0 kb g1 g2 gb (w5.setCell ⟨gt, k, none⟩ (.int .i64 (u.length : Nat))) := by
          have hg := HG.out
          exact hi5.move (hi5.ext.sc hg.1) (fun b hb => heap_far (by omega))
        have hex : Ext W (w5.setCell ⟨gt, k, none⟩ (.int .i64 (u.length : Nat))) := (hk5.ext hin.out.2.2 HWG.out.1 HWG.out.2).sc HW4.out
        have HNX := Lib.hid (And.intro hnx (And.intro hin5 hex))
        clear hk5 hi5 hbt hnx hin5 hex hgl
        go_wp2
        go_roundw
        case rel => exact ⟨k + 1, by go_num, by omega, HNX⟩
        case measure => simp [intOf]; omega
      · obtain rfl : k = N := by omega
        have hil : Il wr (.slice (some ⟨gt, 0, none⟩) k k) k (fun j => (((Bw.rest ws j).1.length : Nat) : Int)) := (BI.il hin.out.1 (by omega)).congr fun j hj => by simp [hj]
        have HF := Lib.hid (And.intro hil hin.out.2.2)
        clear hil
        go_wp2
        refine bodyPost_ret (v := .tuple #[.slice (some ⟨gt, 0, none⟩) k k, .int .i64 0]) (by simp [results, Tryd.results22, go_sem]) rfl ?_
        exact ⟨_, _, rfl, HF.out.2, .inr ⟨HW.out, rfl, by rw [← HN.out]; exact HF.out.1⟩⟩
end Go.Proofs.YtlachbodibajlaaDoor
