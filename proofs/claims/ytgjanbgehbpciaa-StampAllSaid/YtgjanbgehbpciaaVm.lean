/- Walks: modulo, spun, moved. · Walks: sizes and moves that fit. · Walks: after. · Walks: inverse. · Walks: After, Inverse. -/
import Derived.Test.YtgjanbgehbpciaaProg
import Derived.Test.YtgjanbgehbpciaaMv
import Derived.WalkKit
import Derived.WalkLawsBesides
import Derived.WalkSpells
import Derived.Outline
import Derived.BigGuardPart
import Derived.Lib.Hide
import Derived.IntWalk
import Derived.Deep.QuietTactic
import Derived.BigQuiet
import Derived.StillTailTactics
import Derived.Deep.RegionHeld3
namespace Go.Proofs.Ytgjanbgehbpciaa
open Go.RowKit

theorem mod_add {x n : Int} (hn : 0 < n) : (x.tmod n + n) % n = x % n := by
  rw [Int.add_emod_right, Int.tmod_eq_emod]
  split
  · simp
  · have : (n.natAbs : Int) = n := by omega
    rw [this]
    simp

theorem modulo_any (x n : Int) (W : World) (hx : -1000000 ≤ x) (hx' : x ≤ 1000000) (hn : 1 ≤ n) (hn' : n ≤ 1000) :
    Calls Try.prog 80 #[.int .i64 x, .int .i64 n] W fun e W' => e = .returned (.int .i64 (x % n)) ∧ W = W' := by
  have hm := mod_add (x := x) (n := n) (by omega)
  have h1 := Int.lt_tmod_of_pos x (b := n) (by omega)
  have h2 := Int.tmod_lt_of_pos x (b := n) (by omega)
  have hm' := Lib.hid hm; clear hm
  go_enter Try.func80, Try.ntmps80
  go_wp2
  go_ret
  exact ⟨congrArg (fun z => Ending.returned (.int .i64 z)) hm'.out, rfl⟩

theorem moduloR_any (x n : Int) (W : World) (hx : -1000000 ≤ x) (hx' : x ≤ 1000000) (hn : 1 ≤ n) (hn' : n ≤ 1000) :
    Calls Try.prog 59 #[.int .i64 x, .int .i64 n] W fun e W' => e = .returned (.int .i64 (x % n)) ∧ W = W' := by
  have hm := mod_add (x := x) (n := n) (by omega)
  have h1 := Int.lt_tmod_of_pos x (b := n) (by omega)
  have h2 := Int.tmod_lt_of_pos x (b := n) (by omega)
  have hm' := Lib.hid hm; clear hm
  go_enter Try.func59, Try.ntmps59
  go_wp2
  go_ret
  exact ⟨congrArg (fun z => Ending.returned (.int .i64 z)) hm'.out, rfl⟩

theorem Below.toDrewN {B : Nat} {W w1 : World} (h : Below B W w1) (k : Nat) : Below B W (w1.drewN k) := ⟨h.os, h.tape, h.output, h.size, h.block⟩
theorem Below.unDrewN {B k : Nat} {W w1 : World} (h : Below B (W.drewN k) w1) : Below B W w1 := ⟨h.os, h.tape, h.output, h.size, h.block⟩
theorem Below.unDrew {B : Nat} {W w1 : World} (h : Below B W.drew w1) : Below B W w1 := ⟨h.os, h.tape, h.output, h.size, h.block⟩
theorem keepAt {B : Nat} {W w1 : World} {g i : Nat} {v : Value} (hb : Below B W w1) (hg : g < B) (h : W.cell? ⟨g, i, none⟩ = some v) : w1.cell? ⟨g, i, none⟩ = some v := (hb.cell (p := ⟨g, i, none⟩) hg).trans h
theorem below1 (w : World) (o : Obj) : Below w.heap.size w (w.alloc o) := (Below.refl _ _).alloc (Nat.le_refl _) _

theorem rot_zero (p : Int × Int) : rot 0 p = p := rfl
theorem rot_succ (n : Nat) (p : Int × Int) : rot (n + 1) p = (-(rot n p).2, (rot n p).1) := rfl
theorem rot_bd (n : Nat) (p : Int × Int) (B : Int) (h1 : -B ≤ p.1) (h2 : p.1 ≤ B) (h3 : -B ≤ p.2) (h4 : p.2 ≤ B) :
    -B ≤ (rot n p).1 ∧ (rot n p).1 ≤ B ∧ -B ≤ (rot n p).2 ∧ (rot n p).2 ≤ B := by
  induction n with
  | zero => exact ⟨h1, h2, h3, h4⟩
  | succ n ih => rw [rot_succ]; simp only; omega

set_option maxRecDepth 100000 in
theorem spun_any (dx dy : Int) (n : Nat) (f : Bool) (x y : Int) (W : World) (hn : n < 4) (hx : -1000 ≤ x) (hx' : x ≤ 1000) (hy : -1000 ≤ y) (hy' : y ≤ 1000) :
    Calls Try.prog 81 #[.agg #[.int .i64 dx, .int .i64 dy, .int .i64 n, .bool f], .int .i64 x, .int .i64 y] W fun e W' =>
      e = .returned (.tuple #[.int .i64 (spin f n (x, y)).1, .int .i64 (spin f n (x, y)).2]) ∧ W' = W.alloc (.cells #[.int .i64 dx, .int .i64 dy, .int .i64 n, .bool f] 31) := by
  obtain ⟨x', hxe⟩ : ∃ x', x' = flp f x := ⟨_, rfl⟩
  have hs : spin f n (x, y) = rot n (x', y) := by rw [hxe]; rfl
  rw [hs]
  have hb1 : -1000 ≤ x' := by rw [hxe]; unfold flp; split <;> omega
  have hb2 : x' ≤ 1000 := by rw [hxe]; unfold flp; split <;> omega
  clear hs
  cases f
  all_goals
    simp [flp] at hxe
    have Hxe := Lib.hid hxe
    clear hxe
    go_enter Try.func81, Try.ntmps81
    go_wp2
    go_loop [1, 2, 14] (fun a b i => ∃ k : Nat, i = .int .i64 k ∧ k ≤ n ∧ a = .int .i64 (rot k (x', y)).1 ∧ b = .int .i64 (rot k (x', y)).2) (fun _ _ i => n - (intOf i).toNat)
    case atStart => exact ⟨0, rfl, Nat.zero_le _, by rw [Hxe.out]; rfl, rfl⟩
    case round =>
      obtain ⟨k, rfl, hk, ha, hb⟩ := hrel
      have hbd := rot_bd k (x', y) 1000 hb1 hb2 hy hy'
      obtain ⟨p, hp⟩ : ∃ p, p = (rot k (x', y)).1 := ⟨_, rfl⟩
      obtain ⟨q, hq⟩ : ∃ q, q = (rot k (x', y)).2 := ⟨_, rfl⟩
      rw [← hp] at ha hbd
      rw [← hq] at hb hbd
      have Hp := Lib.hid hp; have Hq := Lib.hid hq; clear hp hq
      subst ha hb
      by_cases hlt : k < n
      · go_wp2
        go_round
        case rel => exact ⟨k + 1, by go_num, by omega, by rw [rot_succ, Hq.out], by rw [rot_succ, Hp.out]⟩
        case measure => simp [intOf]; omega
      · have hkn : k = n := by omega
        subst hkn
        go_wp2
        go_ret2
        refine ⟨?_, rfl⟩
        rw [← Hp.out, ← Hq.out]
        rfl

set_option maxRecDepth 100000 in
theorem moved_any (dx dy : Int) (n : Nat) (f : Bool) (x y : Int) (W : World) (hn : n < 4) (hx : -1000 ≤ x) (hx' : x ≤ 1000) (hy : -1000 ≤ y) (hy' : y ≤ 1000)
    (hd : -1000 ≤ dx) (hd' : dx ≤ 1000) (he : -1000 ≤ dy) (he' : dy ≤ 1000) :
    Calls Try.prog 79 #[.agg #[.int .i64 dx, .int .i64 dy, .int .i64 n, .bool f], .int .i64 x, .int .i64 y] W fun e W' =>
      e = .returned (.tuple #[.int .i64 ((spin f n (x, y)).1 + dx), .int .i64 ((spin f n (x, y)).2 + dy)]) ∧ Below W.heap.size W W' := by
  have hbd := spin_bd (f := f) (t := n) (by omega) (by omega) hx hx' hy hy'
  simp only [Int.toNat_natCast] at hbd
  obtain ⟨p, hp⟩ : ∃ p, p = (spin f n (x, y)).1 := ⟨_, rfl⟩
  obtain ⟨q, hq⟩ : ∃ q, q = (spin f n (x, y)).2 := ⟨_, rfl⟩
  have hc := spun_any dx dy n f x y (W.alloc (.cells #[.int .i64 dx, .int .i64 dy, .int .i64 n, .bool f] 31)) hn hx hx' hy hy'
  rw [← hp, ← hq] at hbd hc ⊢
  clear hp hq
  have s1 : IntKind.i64.wrap (p + dx) = p + dx := IntWalk.i64_in _ (by omega)
  have s2 : IntKind.i64.wrap (q + dy) = q + dy := IntWalk.i64_in _ (by omega)
  go_enter Try.func79, Try.ntmps79
  go_wp2_with fail
  refine hc.mono ?_
  rintro e w' ⟨rfl, rfl⟩
  clear hc
  go_wp2_with fail
  go_quiet (fail)
  obtain ⟨nq, hq⟩ : ∃ nq : Nat, True := ⟨0, trivial⟩
  go_wp2
  go_ret2
  exact ⟨rfl, Below.toDrewN ((below1 W _).trans ((below1 _ _).mono (by simp))) _⟩


end Go.Proofs.Ytgjanbgehbpciaa
namespace Go.Proofs.Ytgjanbgehbpciaa
open Go.RowKit

set_option maxRecDepth 100000 in
theorem valid_any (w h : Int) (W : World) :
    Calls Try.prog 53 #[.agg #[.int .i64 w, .int .i64 h]] W fun e W' => e = .returned (.bool (okSize w h)) ∧ Below W.heap.size W W' := by
  have hb := Lib.hid (below1 W (.cells #[.int .i64 w, .int .i64 h] 84))
  obtain ⟨b, hbe⟩ : ∃ b, b = okSize w h := ⟨_, rfl⟩
  rw [← hbe]
  unfold okSize at hbe
  by_cases h0 : 1 ≤ w
  rotate_left
  · simp [h0] at hbe
    subst hbe
    have g0 : decide (1 ≤ w) = false := by simp; omega
    clear h0
    go_enter Try.func53, Try.ntmps53
    go_wp2
    go_ret
    exact ⟨rfl, hb.out⟩
  have g0 : decide (1 ≤ w) = true := by simp; omega
  by_cases h1 : w ≤ 8
  rotate_left
  · simp [h0, h1] at hbe
    subst hbe
    have g1 : decide (w ≤ 8) = false := by simp; omega
    clear h1
    go_enter Try.func53, Try.ntmps53
    go_wp2
    go_ret
    exact ⟨rfl, hb.out⟩
  have g1 : decide (w ≤ 8) = true := by simp; omega
  by_cases h2 : 1 ≤ h
  rotate_left
  · simp [h0, h1, h2] at hbe
    subst hbe
    have g2 : decide (1 ≤ h) = false := by simp; omega
    clear h2
    go_enter Try.func53, Try.ntmps53
    go_wp2
    go_ret
    exact ⟨rfl, hb.out⟩
  have g2 : decide (1 ≤ h) = true := by simp; omega
  by_cases h3 : h ≤ 8
  rotate_left
  · simp [h0, h1, h2, h3] at hbe
    subst hbe
    have g3 : decide (h ≤ 8) = false := by simp; omega
    clear h3
    go_enter Try.func53, Try.ntmps53
    go_wp2
    go_ret
    exact ⟨rfl, hb.out⟩
  have g3 : decide (h ≤ 8) = true := by simp; omega
  simp [h0, h1, h2, h3] at hbe
  subst hbe
  go_enter Try.func53, Try.ntmps53
  go_wp2
  go_ret
  exact ⟨rfl, hb.out⟩

set_option maxRecDepth 100000 in
theorem sizeR_any (w h : Int) (W : World) :
    Calls Try.prog 25 #[.int .i64 w, .int .i64 h] W fun e W' => e = .returned (.bool (okSize w h)) ∧ Below W.heap.size W W' := by
  have hb := Lib.hid (Below.refl W.heap.size W)
  obtain ⟨b, hbe⟩ : ∃ b, b = okSize w h := ⟨_, rfl⟩
  rw [← hbe]
  unfold okSize at hbe
  by_cases h0 : 1 ≤ w
  rotate_left
  · simp [h0] at hbe
    subst hbe
    have g0 : decide (1 ≤ w) = false := by simp; omega
    clear h0
    go_enter Try.func25, Try.ntmps25
    go_wp2
    go_ret
    exact ⟨rfl, hb.out⟩
  have g0 : decide (1 ≤ w) = true := by simp; omega
  by_cases h1 : w ≤ 8
  rotate_left
  · simp [h0, h1] at hbe
    subst hbe
    have g1 : decide (w ≤ 8) = false := by simp; omega
    clear h1
    go_enter Try.func25, Try.ntmps25
    go_wp2
    go_ret
    exact ⟨rfl, hb.out⟩
  have g1 : decide (w ≤ 8) = true := by simp; omega
  by_cases h2 : 1 ≤ h
  rotate_left
  · simp [h0, h1, h2] at hbe
    subst hbe
    have g2 : decide (1 ≤ h) = false := by simp; omega
    clear h2
    go_enter Try.func25, Try.ntmps25
    go_wp2
    go_ret
    exact ⟨rfl, hb.out⟩
  have g2 : decide (1 ≤ h) = true := by simp; omega
  by_cases h3 : h ≤ 8
  rotate_left
  · simp [h0, h1, h2, h3] at hbe
    subst hbe
    have g3 : decide (h ≤ 8) = false := by simp; omega
    clear h3
    go_enter Try.func25, Try.ntmps25
    go_wp2
    go_ret
    exact ⟨rfl, hb.out⟩
  have g3 : decide (h ≤ 8) = true := by simp; omega
  simp [h0, h1, h2, h3] at hbe
  subst hbe
  go_enter Try.func25, Try.ntmps25
  go_wp2
  go_ret
  exact ⟨rfl, hb.out⟩

set_option maxRecDepth 100000 in
theorem has_any (w h : Int) (m : Mv) (W : World) :
    Calls Try.prog 51 #[.agg #[.int .i64 w, .int .i64 h], .agg #[.int .i64 m.dx, .int .i64 m.dy, .int .i64 m.t, .bool m.f]] W fun e W' => e = .returned (.bool (has w h m)) ∧ Below W.heap.size W W' := by
  have hb := Lib.hid ((below1 W (.cells #[.int .i64 w, .int .i64 h] 84)).trans ((below1 _ (.cells #[.int .i64 m.dx, .int .i64 m.dy, .int .i64 m.t, .bool m.f] 31)).mono (by simp)))
  obtain ⟨b, hbe⟩ : ∃ b, b = has w h m := ⟨_, rfl⟩
  rw [← hbe]
  unfold has at hbe
  by_cases h0 : 0 ≤ m.dx
  rotate_left
  · simp [h0] at hbe
    subst hbe
    have g0 : decide (0 ≤ m.dx) = false := by simp; omega
    clear h0
    go_enter Try.func51, Try.ntmps51
    go_wp2
    go_ret
    exact ⟨rfl, hb.out⟩
  have g0 : decide (0 ≤ m.dx) = true := by simp; omega
  by_cases h1 : m.dx < w
  rotate_left
  · simp [h0, h1] at hbe
    subst hbe
    have g1 : decide (m.dx < w) = false := by simp; omega
    clear h1
    go_enter Try.func51, Try.ntmps51
    go_wp2
    go_ret
    exact ⟨rfl, hb.out⟩
  have g1 : decide (m.dx < w) = true := by simp; omega
  by_cases h2 : 0 ≤ m.dy
  rotate_left
  · simp [h0, h1, h2] at hbe
    subst hbe
    have g2 : decide (0 ≤ m.dy) = false := by simp; omega
    clear h2
    go_enter Try.func51, Try.ntmps51
    go_wp2
    go_ret
    exact ⟨rfl, hb.out⟩
  have g2 : decide (0 ≤ m.dy) = true := by simp; omega
  by_cases h3 : m.dy < h
  rotate_left
  · simp [h0, h1, h2, h3] at hbe
    subst hbe
    have g3 : decide (m.dy < h) = false := by simp; omega
    clear h3
    go_enter Try.func51, Try.ntmps51
    go_wp2
    go_ret
    exact ⟨rfl, hb.out⟩
  have g3 : decide (m.dy < h) = true := by simp; omega
  by_cases h4 : 0 ≤ m.t
  rotate_left
  · simp [h0, h1, h2, h3, h4] at hbe
    subst hbe
    have g4 : decide (0 ≤ m.t) = false := by simp; omega
    clear h4
    go_enter Try.func51, Try.ntmps51
    go_wp2
    go_ret
    exact ⟨rfl, hb.out⟩
  have g4 : decide (0 ≤ m.t) = true := by simp; omega
  by_cases h5 : m.t < 4
  rotate_left
  · simp [h0, h1, h2, h3, h4, h5] at hbe
    subst hbe
    have g5 : decide (m.t < 4) = false := by simp; omega
    clear h5
    go_enter Try.func51, Try.ntmps51
    go_wp2
    go_ret
    exact ⟨rfl, hb.out⟩
  have g5 : decide (m.t < 4) = true := by simp; omega
  by_cases h6 : m.t % 2 = 0
  · simp [h0, h1, h2, h3, h4, h5, h6] at hbe
    subst hbe
    have g6 : (m.t % 2 == 0) = true := by simp; omega
    clear h6
    go_enter Try.func51, Try.ntmps51
    go_wp2
    go_ret
    exact ⟨rfl, hb.out⟩
  · have g6 : (m.t % 2 == 0) = false := by simp; omega
    by_cases h7 : w = h
    · rw [decide_eq_true h0, decide_eq_true h1, decide_eq_true h2, decide_eq_true h3, decide_eq_true h4, decide_eq_true h5, decide_eq_true h7] at hbe
      obtain rfl : b = true := by rw [hbe]; simp
      clear hbe
      have g7 : (w == h) = true := by simp; omega
      clear h6 h7
      go_enter Try.func51, Try.ntmps51
      go_wp2
      go_ret
      exact ⟨rfl, hb.out⟩
    · simp [h0, h1, h2, h3, h4, h5, h6, h7] at hbe
      subst hbe
      have g7 : (w == h) = false := by simp; omega
      clear h6 h7
      go_enter Try.func51, Try.ntmps51
      go_wp2
      go_ret
      exact ⟨rfl, hb.out⟩

set_option maxRecDepth 100000 in
theorem fits_any (w h : Int) (m : Mv) (W : World) :
    Calls Try.prog 19 #[.int .i64 w, .int .i64 h, .agg #[.int .i64 m.dx, .int .i64 m.dy, .int .i64 m.t, .bool m.f]] W fun e W' => e = .returned (.bool (has w h m)) ∧ Below W.heap.size W W' := by
  have hb := Lib.hid (below1 W (.cells #[.int .i64 m.dx, .int .i64 m.dy, .int .i64 m.t, .bool m.f] 26))
  obtain ⟨b, hbe⟩ : ∃ b, b = has w h m := ⟨_, rfl⟩
  rw [← hbe]
  unfold has at hbe
  by_cases h0 : 0 ≤ m.dx
  rotate_left
  · simp [h0] at hbe
    subst hbe
    have g0 : decide (0 ≤ m.dx) = false := by simp; omega
    clear h0
    go_enter Try.func19, Try.ntmps19
    go_wp2
    go_ret
    exact ⟨rfl, hb.out⟩
  have g0 : decide (0 ≤ m.dx) = true := by simp; omega
  by_cases h1 : m.dx < w
  rotate_left
  · simp [h0, h1] at hbe
    subst hbe
    have g1 : decide (m.dx < w) = false := by simp; omega
    clear h1
    go_enter Try.func19, Try.ntmps19
    go_wp2
    go_ret
    exact ⟨rfl, hb.out⟩
  have g1 : decide (m.dx < w) = true := by simp; omega
  by_cases h2 : 0 ≤ m.dy
  rotate_left
  · simp [h0, h1, h2] at hbe
    subst hbe
    have g2 : decide (0 ≤ m.dy) = false := by simp; omega
    clear h2
    go_enter Try.func19, Try.ntmps19
    go_wp2
    go_ret
    exact ⟨rfl, hb.out⟩
  have g2 : decide (0 ≤ m.dy) = true := by simp; omega
  by_cases h3 : m.dy < h
  rotate_left
  · simp [h0, h1, h2, h3] at hbe
    subst hbe
    have g3 : decide (m.dy < h) = false := by simp; omega
    clear h3
    go_enter Try.func19, Try.ntmps19
    go_wp2
    go_ret
    exact ⟨rfl, hb.out⟩
  have g3 : decide (m.dy < h) = true := by simp; omega
  by_cases h4 : 0 ≤ m.t
  rotate_left
  · simp [h0, h1, h2, h3, h4] at hbe
    subst hbe
    have g4 : decide (0 ≤ m.t) = false := by simp; omega
    clear h4
    go_enter Try.func19, Try.ntmps19
    go_wp2
    go_ret
    exact ⟨rfl, hb.out⟩
  have g4 : decide (0 ≤ m.t) = true := by simp; omega
  by_cases h5 : m.t < 4
  rotate_left
  · simp [h0, h1, h2, h3, h4, h5] at hbe
    subst hbe
    have g5 : decide (m.t ≤ 3) = false := by simp; omega
    clear h5
    go_enter Try.func19, Try.ntmps19
    go_wp2
    go_ret
    exact ⟨rfl, hb.out⟩
  have g5 : decide (m.t ≤ 3) = true := by simp; omega
  by_cases h6 : w = h
  · rw [decide_eq_true h0, decide_eq_true h1, decide_eq_true h2, decide_eq_true h3, decide_eq_true h4, decide_eq_true h5, decide_eq_true h6] at hbe
    obtain rfl : b = true := by rw [hbe]; simp
    clear hbe
    have g6 : (w == h) = true := by simp; omega
    clear h6
    go_enter Try.func19, Try.ntmps19
    go_wp2
    go_ret
    exact ⟨rfl, hb.out⟩
  · have g6 : (w == h) = false := by simp; omega
    by_cases h7 : m.t % 2 = 0
    · simp [h0, h1, h2, h3, h4, h5, h6, h7] at hbe
      subst hbe
      have g7 : (m.t % 2 == 0) = true := by simp; omega
      clear h6 h7
      go_enter Try.func19, Try.ntmps19
      go_wp2
      go_ret
      exact ⟨rfl, hb.out⟩
    · simp [h0, h1, h2, h3, h4, h5, h6, h7] at hbe
      subst hbe
      have g7 : (m.t % 2 == 0) = false := by simp; omega
      clear h6 h7
      go_enter Try.func19, Try.ntmps19
      go_wp2
      go_ret
      exact ⟨rfl, hb.out⟩


end Go.Proofs.Ytgjanbgehbpciaa
namespace Go.Proofs.Ytgjanbgehbpciaa
open Go.RowKit

theorem bcell {B : Nat} {W w1 : World} (hb : Below B W w1) : (∀ b o, b < B → w1.cell? ⟨b, o, none⟩ = W.cell? ⟨b, o, none⟩) ∧ (∀ b o, b < B → w1.frozen? ⟨b, o, none⟩ = W.frozen? ⟨b, o, none⟩) :=
  ⟨fun b o h => hb.cell (p := ⟨b, o, none⟩) h, fun b o h => hb.frozen (p := ⟨b, o, none⟩) h⟩

theorem nx {W w1 w2 : World} (h : Below W.heap.size W w1) (h2 : Below w1.heap.size w1 w2) : Below W.heap.size W w2 := h.trans (h2.mono h.size)
theorem al {W w1 : World} (h : Below W.heap.size W w1) (o : Obj) : Below W.heap.size W (w1.alloc o) := nx h (below1 _ _)
theorem sc {W w1 : World} (h : Below W.heap.size W w1) {g i : Nat} (hg : W.heap.size ≤ g) (v : Value) : Below W.heap.size W (w1.setCell ⟨g, i, none⟩ v) := h.setCell (p := ⟨g, i, none⟩) hg v
theorem sc4 {W w1 : World} (h : Below W.heap.size W w1) {g i j k l : Nat} (hg : W.heap.size ≤ g) (a b c d : Value) :
    Below W.heap.size W ((((w1.setCell ⟨g, i, none⟩ a).setCell ⟨g, j, none⟩ b).setCell ⟨g, k, none⟩ c).setCell ⟨g, l, none⟩ d) := sc (sc (sc (sc h hg a) hg b) hg c) hg d
theorem al1 (W : World) (o1 : Obj) : Below W.heap.size W (W.alloc o1) := below1 W o1
theorem al2 (W : World) (o1 o2 : Obj) : Below W.heap.size W ((W.alloc o1).alloc o2) := al (al1 W o1) o2
theorem al3 (W : World) (o1 o2 o3 : Obj) : Below W.heap.size W (((W.alloc o1).alloc o2).alloc o3) := al (al2 W o1 o2) o3
theorem al4 (W : World) (o1 o2 o3 o4 : Obj) : Below W.heap.size W ((((W.alloc o1).alloc o2).alloc o3).alloc o4) := al (al3 W o1 o2 o3) o4
theorem al5 (W : World) (o1 o2 o3 o4 o5 : Obj) : Below W.heap.size W (((((W.alloc o1).alloc o2).alloc o3).alloc o4).alloc o5) := al (al4 W o1 o2 o3 o4) o5

set_option maxHeartbeats 1000000 in
set_option maxRecDepth 100000 in
theorem after_c (w h : Int) (adx ady : Int) (n : Nat) (af : Bool) (bdx bdy : Int) (k : Nat) (bf : Bool) (W : World) (hs : 1 ≤ w ∧ w ≤ 8 ∧ 1 ≤ h ∧ h ≤ 8)
    (ha : 0 ≤ adx ∧ adx < w ∧ 0 ≤ ady ∧ ady < h) (hn : n < 4) (hb : 0 ≤ bdx ∧ bdx < w ∧ 0 ≤ bdy ∧ bdy < h) (hk : k < 4) :
    Calls Try.prog 55 #[.agg #[.int .i64 w, .int .i64 h], .agg #[.int .i64 adx, .int .i64 ady, .int .i64 n, .bool af], .agg #[.int .i64 bdx, .int .i64 bdy, .int .i64 k, .bool bf]] W fun e W' =>
      e = .returned (.agg #[.int .i64 (((spin af n (bdx, bdy)).1 + adx) % w), .int .i64 (((spin af n (bdx, bdy)).2 + ady) % h), .int .i64 (tsum af n k), .bool (af != bf)]) ∧ Below W.heap.size W W' := by
  have hbd := spin_bd (f := af) (t := n) (by omega) (by omega) (x := bdx) (y := bdy) (B := 1000) (by omega) (by omega) (by omega) (by omega)
  simp only [Int.toNat_natCast] at hbd
  have hc := fun W => moved_any adx ady n af bdx bdy W hn (by omega) (by omega) (by omega) (by omega) (by omega) (by omega) (by omega) (by omega)
  obtain ⟨p, hp⟩ : ∃ p, p = (spin af n (bdx, bdy)).1 := ⟨_, rfl⟩
  obtain ⟨q, hq⟩ : ∃ q, q = (spin af n (bdx, bdy)).2 := ⟨_, rfl⟩
  rw [← hp, ← hq] at hbd ⊢
  have Hp := Lib.hid hp; have Hq := Lib.hid hq
  have HC := Lib.hid hc
  clear hp hq hc
  cases af
  · have ht : tsum false n k = ((n : Int) + k) % 4 := rfl
    rw [ht]
    clear ht
    go_enter Try.func55, Try.ntmps55
    go_wp2_with fail
    refine (HC.out _).mono ?_
    rintro e w1 ⟨rfl, hb1⟩
    rw [← Hp.out, ← Hq.out]
    have s1 : IntKind.i64.wrap (((n : Int) + k)) = ((n : Int) + k) := IntWalk.i64_in _ (by omega)
    obtain ⟨c, f⟩ := bcell hb1
    have z := hb1.size
    simp only [World.size_alloc] at z c f
    have Hb := Lib.hid (nx (al4 W _ _ _ _) hb1); clear hb1
    clear Hp Hq HC
    go_wp2_with fail
    go_still_tail 19, (by kernel_rfl)
    still_call ((modulo_any _ _ _ (by omega) (by omega) (by omega) (by omega)).mono (fun _ _ h => ⟨h.1, h.2.symm⟩))
    repeat still_step
    still_call ((modulo_any _ _ _ (by omega) (by omega) (by omega) (by omega)).mono (fun _ _ h => ⟨h.1, h.2.symm⟩))
    repeat still_step
    still_call ((modulo_any _ _ _ (by omega) (by omega) (by omega) (by omega)).mono (fun _ _ h => ⟨h.1, h.2.symm⟩))
    repeat still_step
    refine wpStill_nil ?_
    go_wp2
    refine bodyPost_ret (v := .agg #[.int .i64 ((p + adx) % w), .int .i64 ((q + ady) % h), .int .i64 (((n : Int) + k) % 4), .bool (false != bf)]) (by simp [results, Try.results55, go_sem, c, f, z]) rfl ⟨rfl, ?_⟩
    exact (sc4 Hb.out (by omega) _ _ _ _).drew
  · have ht : tsum true n k = ((n : Int) + -k) % 4 := rfl
    rw [ht]
    clear ht
    go_enter Try.func55, Try.ntmps55
    go_wp2_with fail
    refine (HC.out _).mono ?_
    rintro e w1 ⟨rfl, hb1⟩
    rw [← Hp.out, ← Hq.out]
    have s1 : IntKind.i64.wrap (((n : Int) + -k)) = ((n : Int) + -k) := IntWalk.i64_in _ (by omega)
    obtain ⟨c, f⟩ := bcell hb1
    have z := hb1.size
    simp only [World.size_alloc] at z c f
    have Hb := Lib.hid (nx (al4 W _ _ _ _) hb1); clear hb1
    clear Hp Hq HC
    go_wp2_with fail
    go_still_tail 19, (by kernel_rfl)
    still_call ((modulo_any _ _ _ (by omega) (by omega) (by omega) (by omega)).mono (fun _ _ h => ⟨h.1, h.2.symm⟩))
    repeat still_step
    still_call ((modulo_any _ _ _ (by omega) (by omega) (by omega) (by omega)).mono (fun _ _ h => ⟨h.1, h.2.symm⟩))
    repeat still_step
    still_call ((modulo_any _ _ _ (by omega) (by omega) (by omega) (by omega)).mono (fun _ _ h => ⟨h.1, h.2.symm⟩))
    repeat still_step
    refine wpStill_nil ?_
    go_wp2
    refine bodyPost_ret (v := .agg #[.int .i64 ((p + adx) % w), .int .i64 ((q + ady) % h), .int .i64 (((n : Int) + -k) % 4), .bool (true != bf)]) (by simp [results, Try.results55, go_sem, c, f, z]) rfl ⟨rfl, ?_⟩
    exact (sc4 Hb.out (by omega) _ _ _ _).drew

theorem mv_eta (m : Mv) : m = ⟨m.dx, m.dy, m.t, m.f⟩ := by cases m; rfl

/-- after -/
theorem after_any (w h : Int) (a b : Mv) (W : World) (hs : okSize w h = true) (ha : has w h a = true) (hb : has w h b = true) :
    Calls Try.prog 55 #[.agg #[.int .i64 w, .int .i64 h], .agg #[.int .i64 a.dx, .int .i64 a.dy, .int .i64 a.t, .bool a.f], .agg #[.int .i64 b.dx, .int .i64 b.dy, .int .i64 b.t, .bool b.f]] W fun e W' =>
      e = .returned (.agg #[.int .i64 (aft w h a b).dx, .int .i64 (aft w h a b).dy, .int .i64 (aft w h a b).t, .bool (aft w h a b).f]) ∧ Below W.heap.size W W' := by
  rw [okSize_iff] at hs
  rw [has_iff] at ha hb
  obtain ⟨adx, ady, at', af⟩ := a
  obtain ⟨bdx, bdy, bt, bf⟩ := b
  simp only at ha hb ⊢
  obtain ⟨n, rfl⟩ : ∃ n : Nat, at' = n := ⟨at'.toNat, by omega⟩
  obtain ⟨k, rfl⟩ : ∃ k : Nat, bt = k := ⟨bt.toNat, by omega⟩
  exact after_c w h adx ady n af bdx bdy k bf W hs (by omega) (by omega) (by omega) (by omega)

end Go.Proofs.Ytgjanbgehbpciaa
namespace Go.Proofs.Ytgjanbgehbpciaa
open Go.RowKit

set_option maxHeartbeats 1000000 in
set_option maxRecDepth 100000 in
theorem inverse_true (w h : Int) (dx dy : Int) (n k : Nat) (W : World) (hs : 1 ≤ w ∧ w ≤ 8 ∧ 1 ≤ h ∧ h ≤ 8)
    (ha : 0 ≤ dx ∧ dx < w ∧ 0 ≤ dy ∧ dy < h) (hn : n < 4) (hk : k < 4) (hkn : (k : Int) = n) :
    Calls Try.prog 56 #[.agg #[.int .i64 w, .int .i64 h], .agg #[.int .i64 dx, .int .i64 dy, .int .i64 n, .bool true]] W fun e W' =>
      e = .returned (.agg #[.int .i64 ((-(spin true k (dx, dy)).1) % w), .int .i64 ((-(spin true k (dx, dy)).2) % h), .int .i64 k, .bool true]) ∧ Below W.heap.size W W' := by
  have hbd := spin_bd (f := true) (t := k) (by omega) (by omega) (x := dx) (y := dy) (B := 1000) (by omega) (by omega) (by omega) (by omega)
  simp only [Int.toNat_natCast] at hbd
  have hc : ∀ W, Calls Try.prog 81 #[.agg #[.int .i64 0, .int .i64 0, .int .i64 k, .bool true], .int .i64 dx, .int .i64 dy] W fun e W' => e = .returned (.tuple #[.int .i64 (spin true k (dx, dy)).1, .int .i64 (spin true k (dx, dy)).2]) ∧ Below W.heap.size W W' :=
    fun W => (spun_any 0 0 k true dx dy W hk (by omega) (by omega) (by omega) (by omega)).mono (fun _ _ h => ⟨h.1, by rw [h.2]; exact below1 _ _⟩)
  obtain ⟨p, hp⟩ : ∃ p, p = (spin true k (dx, dy)).1 := ⟨_, rfl⟩
  obtain ⟨q, hq⟩ : ∃ q, q = (spin true k (dx, dy)).2 := ⟨_, rfl⟩
  simp only [← hp, ← hq] at hbd hc ⊢
  have HC := Lib.hid hc
  clear hp hq hc
  obtain rfl : k = n := by omega
  clear hkn
  go_enter Try.func56, Try.ntmps56
  go_wp2_with fail
  refine (HC.out _).mono ?_
  rintro e w1 ⟨rfl, hb1⟩
  have s1 : IntKind.i64.wrap (-p) = -p := IntWalk.i64_in _ (by omega)
  have s2 : IntKind.i64.wrap (-q) = -q := IntWalk.i64_in _ (by omega)
  obtain ⟨c, f⟩ := bcell hb1
  have z := hb1.size
  simp only [World.size_alloc, World.size_setCell] at z c f
  have Hb := Lib.hid (nx (al4 W _ _ _ _) hb1); clear hb1
  clear HC
  go_wp2_with fail
  go_still_tail 11, (by kernel_rfl)
  still_call ((modulo_any _ _ _ (by omega) (by omega) (by omega) (by omega)).mono (fun _ _ h => ⟨h.1, h.2.symm⟩))
  repeat still_step
  still_call ((modulo_any _ _ _ (by omega) (by omega) (by omega) (by omega)).mono (fun _ _ h => ⟨h.1, h.2.symm⟩))
  repeat still_step
  refine wpStill_nil ?_
  go_wp2
  refine bodyPost_ret (v := .agg #[.int .i64 ((-p) % w), .int .i64 ((-q) % h), .int .i64 k, .bool true]) (by simp [results, Try.results56, go_sem, c, f, z]) rfl ⟨rfl, ?_⟩
  exact (sc4 (sc (sc Hb.out (by omega) _) (by omega) _) (by omega) _ _ _ _).drew

set_option maxHeartbeats 1000000 in
set_option maxRecDepth 100000 in
theorem inverse_false (w h : Int) (dx dy : Int) (n k : Nat) (W : World) (hs : 1 ≤ w ∧ w ≤ 8 ∧ 1 ≤ h ∧ h ≤ 8)
    (ha : 0 ≤ dx ∧ dx < w ∧ 0 ≤ dy ∧ dy < h) (hn : n < 4) (hk : k < 4) (hkn : (k : Int) = (-(n : Int)) % 4) :
    Calls Try.prog 56 #[.agg #[.int .i64 w, .int .i64 h], .agg #[.int .i64 dx, .int .i64 dy, .int .i64 n, .bool false]] W fun e W' =>
      e = .returned (.agg #[.int .i64 ((-(spin false k (dx, dy)).1) % w), .int .i64 ((-(spin false k (dx, dy)).2) % h), .int .i64 k, .bool false]) ∧ Below W.heap.size W W' := by
  have hbd := spin_bd (f := false) (t := k) (by omega) (by omega) (x := dx) (y := dy) (B := 1000) (by omega) (by omega) (by omega) (by omega)
  simp only [Int.toNat_natCast] at hbd
  have hc : ∀ W, Calls Try.prog 81 #[.agg #[.int .i64 0, .int .i64 0, .int .i64 k, .bool false], .int .i64 dx, .int .i64 dy] W fun e W' => e = .returned (.tuple #[.int .i64 (spin false k (dx, dy)).1, .int .i64 (spin false k (dx, dy)).2]) ∧ Below W.heap.size W W' :=
    fun W => (spun_any 0 0 k false dx dy W hk (by omega) (by omega) (by omega) (by omega)).mono (fun _ _ h => ⟨h.1, by rw [h.2]; exact below1 _ _⟩)
  obtain ⟨p, hp⟩ : ∃ p, p = (spin false k (dx, dy)).1 := ⟨_, rfl⟩
  obtain ⟨q, hq⟩ : ∃ q, q = (spin false k (dx, dy)).2 := ⟨_, rfl⟩
  simp only [← hp, ← hq] at hbd hc ⊢
  have HC := Lib.hid hc
  clear hp hq hc
  have hm : ∀ W, Calls Try.prog 80 #[.int .i64 (-(n : Int)), .int .i64 4] W fun e W' => e = .returned (.int .i64 k) ∧ W = W' :=
    fun W => (modulo_any (-(n : Int)) 4 W (by omega) (by omega) (by omega) (by omega)).mono (fun _ _ h => ⟨by rw [hkn]; exact h.1, h.2⟩)
  have HM := Lib.hid hm
  clear hkn hm
  go_enter Try.func56, Try.ntmps56
  go_wp2_with fail
  refine (HM.out _).mono ?_
  rintro e w0 ⟨rfl, rfl⟩
  go_wp2_with fail
  refine (HC.out _).mono ?_
  rintro e w1 ⟨rfl, hb1⟩
  have s1 : IntKind.i64.wrap (-p) = -p := IntWalk.i64_in _ (by omega)
  have s2 : IntKind.i64.wrap (-q) = -q := IntWalk.i64_in _ (by omega)
  obtain ⟨c, f⟩ := bcell hb1
  have z := hb1.size
  simp only [World.size_alloc, World.size_setCell] at z c f
  have Hb := Lib.hid (nx (al4 W _ _ _ _) hb1); clear hb1
  clear HC
  go_wp2_with fail
  go_still_tail 11, (by kernel_rfl)
  still_call ((modulo_any _ _ _ (by omega) (by omega) (by omega) (by omega)).mono (fun _ _ h => ⟨h.1, h.2.symm⟩))
  repeat still_step
  still_call ((modulo_any _ _ _ (by omega) (by omega) (by omega) (by omega)).mono (fun _ _ h => ⟨h.1, h.2.symm⟩))
  repeat still_step
  refine wpStill_nil ?_
  go_wp2
  refine bodyPost_ret (v := .agg #[.int .i64 ((-p) % w), .int .i64 ((-q) % h), .int .i64 k, .bool false]) (by simp [results, Try.results56, go_sem, c, f, z]) rfl ⟨rfl, ?_⟩
  exact (sc4 (sc (sc Hb.out (by omega) _) (by omega) _) (by omega) _ _ _ _).drew

/-- inverse -/
theorem inverse_any (w h : Int) (m : Mv) (W : World) (hs : okSize w h = true) (hm : has w h m = true) :
    Calls Try.prog 56 #[.agg #[.int .i64 w, .int .i64 h], .agg #[.int .i64 m.dx, .int .i64 m.dy, .int .i64 m.t, .bool m.f]] W fun e W' =>
      e = .returned (.agg #[.int .i64 (inv w h m).dx, .int .i64 (inv w h m).dy, .int .i64 (inv w h m).t, .bool (inv w h m).f]) ∧ Below W.heap.size W W' := by
  rw [okSize_iff] at hs
  rw [has_iff] at hm
  obtain ⟨dx, dy, t, f⟩ := m
  simp only at hm ⊢
  obtain ⟨n, rfl⟩ : ∃ n : Nat, t = n := ⟨t.toNat, by omega⟩
  cases f
  · obtain ⟨k, hk⟩ : ∃ k : Nat, (-(n : Int)) % 4 = k := ⟨((-(n : Int)) % 4).toNat, by omega⟩
    refine (inverse_false w h dx dy n k W hs (by omega) (by omega) (by omega) hk.symm).mono ?_
    rintro e w' ⟨rfl, hb⟩
    have e1 : tinv false n = k := hk
    refine ⟨?_, hb⟩
    unfold inv
    simp only [e1, Int.toNat_natCast]
  · exact inverse_true w h dx dy n n W hs (by omega) (by omega) (by omega) rfl

end Go.Proofs.Ytgjanbgehbpciaa
namespace Go.Proofs.Ytgjanbgehbpciaa
open Go.RowKit

theorem valid_is {w h : Int} {b : Bool} (hs : okSize w h = b) (W : World) : Calls Try.prog 53 #[.agg #[.int .i64 w, .int .i64 h]] W fun e W' => e = .returned (.bool b) ∧ Below W.heap.size W W' := hs ▸ valid_any w h W
theorem sizeR_is {w h : Int} {b : Bool} (hs : okSize w h = b) (W : World) : Calls Try.prog 25 #[.int .i64 w, .int .i64 h] W fun e W' => e = .returned (.bool b) ∧ Below W.heap.size W W' := hs ▸ sizeR_any w h W
theorem has_is {w h : Int} {m : Mv} {b : Bool} (hs : has w h m = b) (W : World) : Calls Try.prog 51 #[.agg #[.int .i64 w, .int .i64 h], .agg #[.int .i64 m.dx, .int .i64 m.dy, .int .i64 m.t, .bool m.f]] W fun e W' => e = .returned (.bool b) ∧ Below W.heap.size W W' := hs ▸ has_any w h m W
theorem fits_is {w h : Int} {m : Mv} {b : Bool} (hs : has w h m = b) (W : World) : Calls Try.prog 19 #[.int .i64 w, .int .i64 h, .agg #[.int .i64 m.dx, .int .i64 m.dy, .int .i64 m.t, .bool m.f]] W fun e W' => e = .returned (.bool b) ∧ Below W.heap.size W W' := hs ▸ fits_any w h m W

set_option maxHeartbeats 1000000 in
set_option maxRecDepth 100000 in
theorem after_f (w h : Int) (a b : Mv) (W : World) (hs : okSize w h = false) :
    Calls Try.prog 23 #[.int .i64 w, .int .i64 h, .agg #[.int .i64 a.dx, .int .i64 a.dy, .int .i64 a.t, .bool a.f], .agg #[.int .i64 b.dx, .int .i64 b.dy, .int .i64 b.t, .bool b.f]] W fun e W' =>
      e = .returned (.tuple #[.agg #[.int .i64 0, .int .i64 0, .int .i64 0, .bool false], .int .i64 2]) ∧ Below W.heap.size W W' := by
  have Hhs := Lib.hid hs; clear hs
  go_enter Try.func23, Try.ntmps23
  go_wp2_with fail
  refine (valid_is Hhs.out _).mono ?_
  rintro e w1 ⟨rfl, hb⟩
  have K1 := Lib.hid hb; clear hb
  obtain ⟨c, f⟩ := bcell K1.out
  have z := K1.out.size
  simp only [World.size_alloc] at z c f
  go_wp2
  refine bodyPost_ret (v := .tuple #[.agg #[.int .i64 0, .int .i64 0, .int .i64 0, .bool false], .int .i64 2]) (by simp [results, Try.results23, go_sem, c, f, z]) rfl ⟨rfl, ?_⟩
  exact sc4 (nx (al4 W _ _ _ _) K1.out) (by omega) _ _ _ _

set_option maxHeartbeats 1000000 in
set_option maxRecDepth 100000 in
theorem after_tf (w h : Int) (a b : Mv) (W : World) (hs : okSize w h = true) (ha : has w h a = false) :
    Calls Try.prog 23 #[.int .i64 w, .int .i64 h, .agg #[.int .i64 a.dx, .int .i64 a.dy, .int .i64 a.t, .bool a.f], .agg #[.int .i64 b.dx, .int .i64 b.dy, .int .i64 b.t, .bool b.f]] W fun e W' =>
      e = .returned (.tuple #[.agg #[.int .i64 0, .int .i64 0, .int .i64 0, .bool false], .int .i64 2]) ∧ Below W.heap.size W W' := by
  have Hhs := Lib.hid hs; clear hs
  have Hha := Lib.hid ha; clear ha
  go_enter Try.func23, Try.ntmps23
  go_wp2_with fail
  refine (valid_is Hhs.out _).mono ?_
  rintro e w1 ⟨rfl, hb⟩
  have K1 := Lib.hid hb; clear hb
  obtain ⟨c, f⟩ := bcell K1.out
  have z := K1.out.size
  simp only [World.size_alloc] at z c f
  go_wp2_with fail
  refine (has_is Hha.out _).mono ?_
  rintro e w2 ⟨rfl, hb⟩
  have K2 := Lib.hid (nx K1.out hb); clear hb K1 c f z
  obtain ⟨c, f⟩ := bcell K2.out
  have z := K2.out.size
  simp only [World.size_alloc] at z c f
  go_wp2
  refine bodyPost_ret (v := .tuple #[.agg #[.int .i64 0, .int .i64 0, .int .i64 0, .bool false], .int .i64 2]) (by simp [results, Try.results23, go_sem, c, f, z]) rfl ⟨rfl, ?_⟩
  exact sc4 (nx (al4 W _ _ _ _) K2.out) (by omega) _ _ _ _

set_option maxHeartbeats 1000000 in
set_option maxRecDepth 100000 in
theorem after_ttf (w h : Int) (a b : Mv) (W : World) (hs : okSize w h = true) (ha : has w h a = true) (hb0 : has w h b = false) :
    Calls Try.prog 23 #[.int .i64 w, .int .i64 h, .agg #[.int .i64 a.dx, .int .i64 a.dy, .int .i64 a.t, .bool a.f], .agg #[.int .i64 b.dx, .int .i64 b.dy, .int .i64 b.t, .bool b.f]] W fun e W' =>
      e = .returned (.tuple #[.agg #[.int .i64 0, .int .i64 0, .int .i64 0, .bool false], .int .i64 2]) ∧ Below W.heap.size W W' := by
  have Hhs := Lib.hid hs; clear hs
  have Hha := Lib.hid ha; clear ha
  have Hhb0 := Lib.hid hb0; clear hb0
  go_enter Try.func23, Try.ntmps23
  go_wp2_with fail
  refine (valid_is Hhs.out _).mono ?_
  rintro e w1 ⟨rfl, hb⟩
  have K1 := Lib.hid hb; clear hb
  obtain ⟨c, f⟩ := bcell K1.out
  have z := K1.out.size
  simp only [World.size_alloc] at z c f
  go_wp2_with fail
  refine (has_is Hha.out _).mono ?_
  rintro e w2 ⟨rfl, hb⟩
  have K2 := Lib.hid (nx K1.out hb); clear hb K1 c f z
  obtain ⟨c, f⟩ := bcell K2.out
  have z := K2.out.size
  simp only [World.size_alloc] at z c f
  go_wp2_with fail
  refine (has_is Hhb0.out _).mono ?_
  rintro e w3 ⟨rfl, hb⟩
  have K3 := Lib.hid (nx K2.out hb); clear hb K2 c f z
  obtain ⟨c, f⟩ := bcell K3.out
  have z := K3.out.size
  simp only [World.size_alloc] at z c f
  go_wp2
  refine bodyPost_ret (v := .tuple #[.agg #[.int .i64 0, .int .i64 0, .int .i64 0, .bool false], .int .i64 2]) (by simp [results, Try.results23, go_sem, c, f, z]) rfl ⟨rfl, ?_⟩
  exact sc4 (nx (al4 W _ _ _ _) K3.out) (by omega) _ _ _ _

set_option maxHeartbeats 1000000 in
set_option maxRecDepth 100000 in
theorem after_ttt (w h : Int) (a b : Mv) (W : World) (hs : okSize w h = true) (ha : has w h a = true) (hb0 : has w h b = true) :
    Calls Try.prog 23 #[.int .i64 w, .int .i64 h, .agg #[.int .i64 a.dx, .int .i64 a.dy, .int .i64 a.t, .bool a.f], .agg #[.int .i64 b.dx, .int .i64 b.dy, .int .i64 b.t, .bool b.f]] W fun e W' =>
      e = .returned (.tuple #[.agg #[.int .i64 (aft w h a b).dx, .int .i64 (aft w h a b).dy, .int .i64 (aft w h a b).t, .bool (aft w h a b).f], .int .i64 0]) ∧ Below W.heap.size W W' := by
  have Hhs := Lib.hid hs; clear hs
  have Hha := Lib.hid ha; clear ha
  have Hhb0 := Lib.hid hb0; clear hb0
  go_enter Try.func23, Try.ntmps23
  go_wp2_with fail
  refine (valid_is Hhs.out _).mono ?_
  rintro e w1 ⟨rfl, hb⟩
  have K1 := Lib.hid hb; clear hb
  obtain ⟨c, f⟩ := bcell K1.out
  have z := K1.out.size
  simp only [World.size_alloc] at z c f
  go_wp2_with fail
  refine (has_is Hha.out _).mono ?_
  rintro e w2 ⟨rfl, hb⟩
  have K2 := Lib.hid (nx K1.out hb); clear hb K1 c f z
  obtain ⟨c, f⟩ := bcell K2.out
  have z := K2.out.size
  simp only [World.size_alloc] at z c f
  go_wp2_with fail
  refine (has_is Hhb0.out _).mono ?_
  rintro e w3 ⟨rfl, hb⟩
  have K3 := Lib.hid (nx K2.out hb); clear hb K2 c f z
  obtain ⟨c, f⟩ := bcell K3.out
  have z := K3.out.size
  simp only [World.size_alloc] at z c f
  go_wp2_with fail
  refine (after_any w h a b _ Hhs.out Hha.out Hhb0.out).mono ?_
  rintro e w4 ⟨rfl, hb⟩
  have K4 := Lib.hid (nx K3.out hb); clear hb K3 c f z
  obtain ⟨c, f⟩ := bcell K4.out
  have z := K4.out.size
  simp only [World.size_alloc] at z c f
  go_wp2
  refine bodyPost_ret (v := .tuple #[.agg #[.int .i64 (aft w h a b).dx, .int .i64 (aft w h a b).dy, .int .i64 (aft w h a b).t, .bool (aft w h a b).f], .int .i64 0]) (by simp [results, Try.results23, go_sem, c, f, z]) rfl ⟨rfl, ?_⟩
  exact sc4 (nx (al4 W _ _ _ _) K4.out) (by omega) _ _ _ _

set_option maxHeartbeats 1000000 in
set_option maxRecDepth 100000 in
theorem inverseS_f (w h : Int) (a : Mv) (W : World) (hs : okSize w h = false) :
    Calls Try.prog 24 #[.int .i64 w, .int .i64 h, .agg #[.int .i64 a.dx, .int .i64 a.dy, .int .i64 a.t, .bool a.f]] W fun e W' =>
      e = .returned (.tuple #[.agg #[.int .i64 0, .int .i64 0, .int .i64 0, .bool false], .int .i64 2]) ∧ Below W.heap.size W W' := by
  have Hhs := Lib.hid hs; clear hs
  go_enter Try.func24, Try.ntmps24
  go_wp2_with fail
  refine (valid_is Hhs.out _).mono ?_
  rintro e w1 ⟨rfl, hb⟩
  have K1 := Lib.hid hb; clear hb
  obtain ⟨c, f⟩ := bcell K1.out
  have z := K1.out.size
  simp only [World.size_alloc] at z c f
  go_wp2
  refine bodyPost_ret (v := .tuple #[.agg #[.int .i64 0, .int .i64 0, .int .i64 0, .bool false], .int .i64 2]) (by simp [results, Try.results24, go_sem, c, f, z]) rfl ⟨rfl, ?_⟩
  exact sc4 (nx (al3 W _ _ _) K1.out) (by omega) _ _ _ _

set_option maxHeartbeats 1000000 in
set_option maxRecDepth 100000 in
theorem inverseS_tf (w h : Int) (a : Mv) (W : World) (hs : okSize w h = true) (ha : has w h a = false) :
    Calls Try.prog 24 #[.int .i64 w, .int .i64 h, .agg #[.int .i64 a.dx, .int .i64 a.dy, .int .i64 a.t, .bool a.f]] W fun e W' =>
      e = .returned (.tuple #[.agg #[.int .i64 0, .int .i64 0, .int .i64 0, .bool false], .int .i64 2]) ∧ Below W.heap.size W W' := by
  have Hhs := Lib.hid hs; clear hs
  have Hha := Lib.hid ha; clear ha
  go_enter Try.func24, Try.ntmps24
  go_wp2_with fail
  refine (valid_is Hhs.out _).mono ?_
  rintro e w1 ⟨rfl, hb⟩
  have K1 := Lib.hid hb; clear hb
  obtain ⟨c, f⟩ := bcell K1.out
  have z := K1.out.size
  simp only [World.size_alloc] at z c f
  go_wp2_with fail
  refine (has_is Hha.out _).mono ?_
  rintro e w2 ⟨rfl, hb⟩
  have K2 := Lib.hid (nx K1.out hb); clear hb K1 c f z
  obtain ⟨c, f⟩ := bcell K2.out
  have z := K2.out.size
  simp only [World.size_alloc] at z c f
  go_wp2
  refine bodyPost_ret (v := .tuple #[.agg #[.int .i64 0, .int .i64 0, .int .i64 0, .bool false], .int .i64 2]) (by simp [results, Try.results24, go_sem, c, f, z]) rfl ⟨rfl, ?_⟩
  exact sc4 (nx (al3 W _ _ _) K2.out) (by omega) _ _ _ _

set_option maxHeartbeats 1000000 in
set_option maxRecDepth 100000 in
theorem inverseS_tt (w h : Int) (a : Mv) (W : World) (hs : okSize w h = true) (ha : has w h a = true) :
    Calls Try.prog 24 #[.int .i64 w, .int .i64 h, .agg #[.int .i64 a.dx, .int .i64 a.dy, .int .i64 a.t, .bool a.f]] W fun e W' =>
      e = .returned (.tuple #[.agg #[.int .i64 (inv w h a).dx, .int .i64 (inv w h a).dy, .int .i64 (inv w h a).t, .bool (inv w h a).f], .int .i64 0]) ∧ Below W.heap.size W W' := by
  have Hhs := Lib.hid hs; clear hs
  have Hha := Lib.hid ha; clear ha
  go_enter Try.func24, Try.ntmps24
  go_wp2_with fail
  refine (valid_is Hhs.out _).mono ?_
  rintro e w1 ⟨rfl, hb⟩
  have K1 := Lib.hid hb; clear hb
  obtain ⟨c, f⟩ := bcell K1.out
  have z := K1.out.size
  simp only [World.size_alloc] at z c f
  go_wp2_with fail
  refine (has_is Hha.out _).mono ?_
  rintro e w2 ⟨rfl, hb⟩
  have K2 := Lib.hid (nx K1.out hb); clear hb K1 c f z
  obtain ⟨c, f⟩ := bcell K2.out
  have z := K2.out.size
  simp only [World.size_alloc] at z c f
  go_wp2_with fail
  refine (inverse_any w h a _ Hhs.out Hha.out).mono ?_
  rintro e w3 ⟨rfl, hb⟩
  have K3 := Lib.hid (nx K2.out hb); clear hb K2 c f z
  obtain ⟨c, f⟩ := bcell K3.out
  have z := K3.out.size
  simp only [World.size_alloc] at z c f
  go_wp2
  refine bodyPost_ret (v := .tuple #[.agg #[.int .i64 (inv w h a).dx, .int .i64 (inv w h a).dy, .int .i64 (inv w h a).t, .bool (inv w h a).f], .int .i64 0]) (by simp [results, Try.results24, go_sem, c, f, z]) rfl ⟨rfl, ?_⟩
  exact sc4 (nx (al3 W _ _ _) K3.out) (by omega) _ _ _ _


/-- After, wrong arguments -/
theorem after_no (w h : Int) (a b : Mv) (W : World) (hs : (okSize w h && has w h a && has w h b) = false) :
    Calls Try.prog 23 #[.int .i64 w, .int .i64 h, .agg #[.int .i64 a.dx, .int .i64 a.dy, .int .i64 a.t, .bool a.f], .agg #[.int .i64 b.dx, .int .i64 b.dy, .int .i64 b.t, .bool b.f]] W fun e W' => e = .returned (.tuple #[.agg #[.int .i64 0, .int .i64 0, .int .i64 0, .bool false], .int .i64 2]) ∧ Below W.heap.size W W' := by
  cases h1 : okSize w h
  · exact after_f w h a b W h1
  · cases h2 : has w h a
    · exact after_tf w h a b W h1 h2
    · cases h3 : has w h b
      · exact after_ttf w h a b W h1 h2 h3
      · simp [h1, h2, h3] at hs
/-- Inverse, wrong arguments -/
theorem inverse_no (w h : Int) (a : Mv) (W : World) (hs : (okSize w h && has w h a) = false) :
    Calls Try.prog 24 #[.int .i64 w, .int .i64 h, .agg #[.int .i64 a.dx, .int .i64 a.dy, .int .i64 a.t, .bool a.f]] W fun e W' => e = .returned (.tuple #[.agg #[.int .i64 0, .int .i64 0, .int .i64 0, .bool false], .int .i64 2]) ∧ Below W.heap.size W W' := by
  cases h1 : okSize w h
  · exact inverseS_f w h a W h1
  · cases h2 : has w h a
    · exact inverseS_tf w h a W h1 h2
    · simp [h1, h2] at hs
end Go.Proofs.Ytgjanbgehbpciaa
