/- Walks: modulo, spun, moved. -/
import Derived.Test.YtgjanbgehbpciaaProg
import Derived.Test.YtgjanbgehbpciaaMv
import Derived.WalkKit
import Derived.WalkLawsBesides
import Derived.WalkSpells
import Derived.Outline
import Derived.BigGuardPart
import Derived.Lib.Hide
import Derived.IntWalk
import Derived.Deep.QuietTactic
import Derived.BigQuiet
namespace Go.Proofs.Ytgjanbgehbpciaa
open Go.RowKit

theorem mod_add {x n : Int} (hn : 0 < n) : (x.tmod n + n) % n = x % n := by
  rw [Int.add_emod_right, Int.tmod_eq_emod]
  split
  · simp
  · have : (n.natAbs : Int) = n := by omega
    rw [this]
    simp

theorem modulo_any (x n : Int) (W : World) (hx : -1000000 ≤ x) (hx' : x ≤ 1000000) (hn : 1 ≤ n) (hn' : n ≤ 1000) :
    Calls Try.prog 80 #[.int .i64 x, .int .i64 n] W fun e W' => e = .returned (.int .i64 (x % n)) ∧ W = W' := by
  have hm := mod_add (x := x) (n := n) (by omega)
  have h1 := Int.lt_tmod_of_pos x (b := n) (by omega)
  have h2 := Int.tmod_lt_of_pos x (b := n) (by omega)
  have hm' := Lib.hid hm; clear hm
  go_enter Try.func80, Try.ntmps80
  go_wp2
  go_ret
  exact ⟨congrArg (fun z => Ending.returned (.int .i64 z)) hm'.out, rfl⟩

theorem moduloR_any (x n : Int) (W : World) (hx : -1000000 ≤ x) (hx' : x ≤ 1000000) (hn : 1 ≤ n) (hn' : n ≤ 1000) :
    Calls Try.prog 59 #[.int .i64 x, .int .i64 n] W fun e W' => e = .returned (.int .i64 (x % n)) ∧ W = W' := by
  have hm := mod_add (x := x) (n := n) (by omega)
  have h1 := Int.lt_tmod_of_pos x (b := n) (by omega)
  have h2 := Int.tmod_lt_of_pos x (b := n) (by omega)
  have hm' := Lib.hid hm; clear hm
  go_enter Try.func59, Try.ntmps59
  go_wp2
  go_ret
  exact ⟨congrArg (fun z => Ending.returned (.int .i64 z)) hm'.out, rfl⟩

theorem Below.toDrewN {B : Nat} {W w1 : World} (h : Below B W w1) (k : Nat) : Below B W (w1.drewN k) := ⟨h.os, h.tape, h.output, h.size, h.block⟩
theorem Below.unDrewN {B k : Nat} {W w1 : World} (h : Below B (W.drewN k) w1) : Below B W w1 := ⟨h.os, h.tape, h.output, h.size, h.block⟩
theorem Below.unDrew {B : Nat} {W w1 : World} (h : Below B W.drew w1) : Below B W w1 := ⟨h.os, h.tape, h.output, h.size, h.block⟩
theorem keepAt {B : Nat} {W w1 : World} {g i : Nat} {v : Value} (hb : Below B W w1) (hg : g < B) (h : W.cell? ⟨g, i, none⟩ = some v) : w1.cell? ⟨g, i, none⟩ = some v := (hb.cell (p := ⟨g, i, none⟩) hg).trans h
theorem below1 (w : World) (o : Obj) : Below w.heap.size w (w.alloc o) := (Below.refl _ _).alloc (Nat.le_refl _) _

theorem rot_zero (p : Int × Int) : rot 0 p = p := rfl
theorem rot_succ (n : Nat) (p : Int × Int) : rot (n + 1) p = (-(rot n p).2, (rot n p).1) := rfl
theorem rot_bd (n : Nat) (p : Int × Int) (B : Int) (h1 : -B ≤ p.1) (h2 : p.1 ≤ B) (h3 : -B ≤ p.2) (h4 : p.2 ≤ B) :
    -B ≤ (rot n p).1 ∧ (rot n p).1 ≤ B ∧ -B ≤ (rot n p).2 ∧ (rot n p).2 ≤ B := by
  induction n with
  | zero => exact ⟨h1, h2, h3, h4⟩
  | succ n ih => rw [rot_succ]; simp only; omega

set_option maxRecDepth 100000 in
theorem spun_any (dx dy : Int) (n : Nat) (f : Bool) (x y : Int) (W : World) (hn : n < 4) (hx : -1000 ≤ x) (hx' : x ≤ 1000) (hy : -1000 ≤ y) (hy' : y ≤ 1000) :
    Calls Try.prog 81 #[.agg #[.int .i64 dx, .int .i64 dy, .int .i64 n, .bool f], .int .i64 x, .int .i64 y] W fun e W' =>
      e = .returned (.tuple #[.int .i64 (spin f n (x, y)).1, .int .i64 (spin f n (x, y)).2]) ∧ W' = W.alloc (.cells #[.int .i64 dx, .int .i64 dy, .int .i64 n, .bool f] 31) := by
  obtain ⟨x', hxe⟩ : ∃ x', x' = flp f x := ⟨_, rfl⟩
  have hs : spin f n (x, y) = rot n (x', y) := by rw [hxe]; rfl
  rw [hs]
  have hb1 : -1000 ≤ x' := by rw [hxe]; unfold flp; split <;> omega
  have hb2 : x' ≤ 1000 := by rw [hxe]; unfold flp; split <;> omega
  clear hs
  cases f
  all_goals
    simp [flp] at hxe
    have Hxe := Lib.hid hxe
    clear hxe
    go_enter Try.func81, Try.ntmps81
    go_wp2
    go_loop [1, 2, 14] (fun a b i => ∃ k : Nat, i = .int .i64 k ∧ k ≤ n ∧ a = .int .i64 (rot k (x', y)).1 ∧ b = .int .i64 (rot k (x', y)).2) (fun _ _ i => n - (intOf i).toNat)
    case atStart => exact ⟨0, rfl, Nat.zero_le _, by rw [Hxe.out]; rfl, rfl⟩
    case round =>
      obtain ⟨k, rfl, hk, ha, hb⟩ := hrel
      have hbd := rot_bd k (x', y) 1000 hb1 hb2 hy hy'
      obtain ⟨p, hp⟩ : ∃ p, p = (rot k (x', y)).1 := ⟨_, rfl⟩
      obtain ⟨q, hq⟩ : ∃ q, q = (rot k (x', y)).2 := ⟨_, rfl⟩
      rw [← hp] at ha hbd
      rw [← hq] at hb hbd
      have Hp := Lib.hid hp; have Hq := Lib.hid hq; clear hp hq
      subst ha hb
      by_cases hlt : k < n
      · go_wp2
        go_round
        case rel => exact ⟨k + 1, by go_num, by omega, by rw [rot_succ, Hq.out], by rw [rot_succ, Hp.out]⟩
        case measure => simp [intOf]; omega
      · have hkn : k = n := by omega
        subst hkn
        go_wp2
        go_ret2
        refine ⟨?_, rfl⟩
        rw [← Hp.out, ← Hq.out]
        rfl

set_option maxRecDepth 100000 in
theorem moved_any (dx dy : Int) (n : Nat) (f : Bool) (x y : Int) (W : World) (hn : n < 4) (hx : -1000 ≤ x) (hx' : x ≤ 1000) (hy : -1000 ≤ y) (hy' : y ≤ 1000)
    (hd : -1000 ≤ dx) (hd' : dx ≤ 1000) (he : -1000 ≤ dy) (he' : dy ≤ 1000) :
    Calls Try.prog 79 #[.agg #[.int .i64 dx, .int .i64 dy, .int .i64 n, .bool f], .int .i64 x, .int .i64 y] W fun e W' =>
      e = .returned (.tuple #[.int .i64 ((spin f n (x, y)).1 + dx), .int .i64 ((spin f n (x, y)).2 + dy)]) ∧ Below W.heap.size W W' := by
  have hbd := spin_bd (f := f) (t := n) (by omega) (by omega) hx hx' hy hy'
  simp only [Int.toNat_natCast] at hbd
  obtain ⟨p, hp⟩ : ∃ p, p = (spin f n (x, y)).1 := ⟨_, rfl⟩
  obtain ⟨q, hq⟩ : ∃ q, q = (spin f n (x, y)).2 := ⟨_, rfl⟩
  have hc := spun_any dx dy n f x y (W.alloc (.cells #[.int .i64 dx, .int .i64 dy, .int .i64 n, .bool f] 31)) hn hx hx' hy hy'
  rw [← hp, ← hq] at hbd hc ⊢
  clear hp hq
  have s1 : IntKind.i64.wrap (p + dx) = p + dx := IntWalk.i64_in _ (by omega)
  have s2 : IntKind.i64.wrap (q + dy) = q + dy := IntWalk.i64_in _ (by omega)
  go_enter Try.func79, Try.ntmps79
  go_wp2_with fail
  refine hc.mono ?_
  rintro e w' ⟨rfl, rfl⟩
  clear hc
  go_wp2_with fail
  go_quiet (fail)
  obtain ⟨nq, hq⟩ : ∃ nq : Nat, True := ⟨0, trivial⟩
  go_wp2
  go_ret2
  exact ⟨rfl, Below.toDrewN ((below1 W _).trans ((below1 _ _).mono (by simp))) _⟩


end Go.Proofs.Ytgjanbgehbpciaa
