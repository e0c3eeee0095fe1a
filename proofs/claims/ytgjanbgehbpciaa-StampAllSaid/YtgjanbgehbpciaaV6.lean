/- Walks: the reference's turned, to. -/
import Derived.Test.YtgjanbgehbpciaaVm
namespace Go.Proofs.Ytgjanbgehbpciaa
open Go.RowKit

/-- the matrix of a flip and turns -/
def la (f : Bool) (n : Nat) : Int := (spin f n (1, 0)).1
def lb (f : Bool) (n : Nat) : Int := (spin f n (0, 1)).1
def lc (f : Bool) (n : Nat) : Int := (spin f n (1, 0)).2
def ld (f : Bool) (n : Nat) : Int := (spin f n (0, 1)).2

theorem n4 {n : Nat} (h : n < 4) : n = 0 ∨ n = 1 ∨ n = 2 ∨ n = 3 := by omega
theorem l_in (f : Bool) {n : Nat} (h : n < 4) : (-1 ≤ la f n ∧ la f n ≤ 1) ∧ (-1 ≤ lb f n ∧ lb f n ≤ 1) ∧ (-1 ≤ lc f n ∧ lc f n ≤ 1) ∧ (-1 ≤ ld f n ∧ ld f n ≤ 1) := by
  rcases n4 h with rfl | rfl | rfl | rfl <;> cases f <;> decide
theorem l_to (f : Bool) {n : Nat} (h : n < 4) (x y : Int) : la f n * x + lb f n * y = (spin f n (x, y)).1 ∧ lc f n * x + ld f n * y = (spin f n (x, y)).2 := by
  rcases n4 h with rfl | rfl | rfl | rfl <;> cases f <;> simp [la, lb, lc, ld, spin, rot, flp]
theorem l_ne {f g : Bool} {n m : Nat} (h : n < 4) (h' : m < 4) (hl : la f n = la g m ∧ lb f n = lb g m ∧ lc f n = lc g m ∧ ld f n = ld g m) : f = g ∧ n = m := by
  rcases n4 h with rfl | rfl | rfl | rfl <;> rcases n4 h' with rfl | rfl | rfl | rfl <;> cases f <;> cases g <;> revert hl <;> decide
theorem la_succ (f : Bool) (n : Nat) : la f (n + 1) = -lc f n := rfl
theorem lb_succ (f : Bool) (n : Nat) : lb f (n + 1) = -ld f n := rfl
theorem lc_succ (f : Bool) (n : Nat) : lc f (n + 1) = la f n := rfl
theorem ld_succ (f : Bool) (n : Nat) : ld f (n + 1) = lb f n := rfl

theorem mul_in {a x B : Int} (h : -1 ≤ a) (h' : a ≤ 1) (hx : -B ≤ x) (hx' : x ≤ B) : -B ≤ a * x ∧ a * x ≤ B := by
  rcases (by omega : a = -1 ∨ a = 0 ∨ a = 1) with rfl | rfl | rfl <;> omega

set_option maxRecDepth 100000 in
theorem turned_false (n : Nat) (W : World) (hn : n < 4) :
    Calls Try.prog 57 #[.bool false, .int .i64 n] W fun e W' =>
      e = .returned (.agg #[.int .i64 (la false n), .int .i64 (lb false n), .int .i64 (lc false n), .int .i64 (ld false n)]) ∧ Below W.heap.size W W' := by
  go_enter Try.func57, Try.ntmps57
  go_wp2
  go_loopw [10] (fun i wr => ∃ k : Nat, i = .int .i64 k ∧ k ≤ n ∧ wr = (W.alloc (.cells #[.int .i64 0, .int .i64 0, .int .i64 0, .int .i64 0] 92)).alloc (.cells #[.int .i64 (la false k), .int .i64 (lb false k), .int .i64 (lc false k), .int .i64 (ld false k)] 92)) (fun i _ => n - (intOf i).toNat)
  case atStart => exact ⟨0, rfl, Nat.zero_le _, rfl⟩
  case round =>
    obtain ⟨k, rfl, hk, rfl⟩ := hrel
    have hin := l_in false (n := k) (by omega)
    have ea := la_succ false k
    have eb := lb_succ false k
    have ec := lc_succ false k
    have ed := ld_succ false k
    obtain ⟨a, ha⟩ : ∃ a, a = la false k := ⟨_, rfl⟩
    obtain ⟨b, hb⟩ : ∃ b, b = lb false k := ⟨_, rfl⟩
    obtain ⟨c, hc⟩ : ∃ c, c = lc false k := ⟨_, rfl⟩
    obtain ⟨d, hd⟩ : ∃ d, d = ld false k := ⟨_, rfl⟩
    rw [← ha] at ec hin ⊢
    rw [← hb] at ed hin ⊢
    rw [← hc] at ea hin ⊢
    rw [← hd] at eb hin ⊢
    by_cases hlt : k < n
    · have Ea := Lib.hid ea; have Eb := Lib.hid eb; have Ec := Lib.hid ec; have Ed := Lib.hid ed
      clear ea eb ec ed ha hb hc hd
      go_wp2
      go_roundw
      case rel => exact ⟨k + 1, by go_num, by omega, by rw [Ea.out, Eb.out, Ec.out, Ed.out]⟩
      case measure => simp [intOf]; omega
    · obtain rfl : k = n := by omega
      have Ha := Lib.hid ha; have Hb := Lib.hid hb; have Hc := Lib.hid hc; have Hd := Lib.hid hd
      clear ea eb ec ed ha hb hc hd
      go_wp2
      rw [← Ha.out, ← Hb.out, ← Hc.out, ← Hd.out]
      refine bodyPost_ret (v := .agg #[.int .i64 a, .int .i64 b, .int .i64 c, .int .i64 d]) (by simp [results, Try.results57, go_sem]) rfl ⟨rfl, ?_⟩
      exact al2 W _ _

set_option maxRecDepth 100000 in
theorem turned_true (n : Nat) (W : World) (hn : n < 4) :
    Calls Try.prog 57 #[.bool true, .int .i64 n] W fun e W' =>
      e = .returned (.agg #[.int .i64 (la true n), .int .i64 (lb true n), .int .i64 (lc true n), .int .i64 (ld true n)]) ∧ Below W.heap.size W W' := by
  go_enter Try.func57, Try.ntmps57
  go_wp2
  go_loopw [10] (fun i wr => ∃ k : Nat, i = .int .i64 k ∧ k ≤ n ∧ wr = (W.alloc (.cells #[.int .i64 0, .int .i64 0, .int .i64 0, .int .i64 0] 92)).alloc (.cells #[.int .i64 (la true k), .int .i64 (lb true k), .int .i64 (lc true k), .int .i64 (ld true k)] 92)) (fun i _ => n - (intOf i).toNat)
  case atStart => exact ⟨0, rfl, Nat.zero_le _, rfl⟩
  case round =>
    obtain ⟨k, rfl, hk, rfl⟩ := hrel
    have hin := l_in true (n := k) (by omega)
    have ea := la_succ true k
    have eb := lb_succ true k
    have ec := lc_succ true k
    have ed := ld_succ true k
    obtain ⟨a, ha⟩ : ∃ a, a = la true k := ⟨_, rfl⟩
    obtain ⟨b, hb⟩ : ∃ b, b = lb true k := ⟨_, rfl⟩
    obtain ⟨c, hc⟩ : ∃ c, c = lc true k := ⟨_, rfl⟩
    obtain ⟨d, hd⟩ : ∃ d, d = ld true k := ⟨_, rfl⟩
    rw [← ha] at ec hin ⊢
    rw [← hb] at ed hin ⊢
    rw [← hc] at ea hin ⊢
    rw [← hd] at eb hin ⊢
    by_cases hlt : k < n
    · have Ea := Lib.hid ea; have Eb := Lib.hid eb; have Ec := Lib.hid ec; have Ed := Lib.hid ed
      clear ea eb ec ed ha hb hc hd
      go_wp2
      go_roundw
      case rel => exact ⟨k + 1, by go_num, by omega, by rw [Ea.out, Eb.out, Ec.out, Ed.out]⟩
      case measure => simp [intOf]; omega
    · obtain rfl : k = n := by omega
      have Ha := Lib.hid ha; have Hb := Lib.hid hb; have Hc := Lib.hid hc; have Hd := Lib.hid hd
      clear ea eb ec ed ha hb hc hd
      go_wp2
      rw [← Ha.out, ← Hb.out, ← Hc.out, ← Hd.out]
      refine bodyPost_ret (v := .agg #[.int .i64 a, .int .i64 b, .int .i64 c, .int .i64 d]) (by simp [results, Try.results57, go_sem]) rfl ⟨rfl, ?_⟩
      exact al2 W _ _

theorem turned_any (f : Bool) (n : Nat) (W : World) (hn : n < 4) :
    Calls Try.prog 57 #[.bool f, .int .i64 n] W fun e W' =>
      e = .returned (.agg #[.int .i64 (la f n), .int .i64 (lb f n), .int .i64 (lc f n), .int .i64 (ld f n)]) ∧ Below W.heap.size W W' := by
  cases f
  · exact turned_false n W hn
  · exact turned_true n W hn

set_option maxRecDepth 100000 in
theorem to_any (f : Bool) (n : Nat) (x y : Int) (W : World) (hn : n < 4) (hx : -1000 ≤ x) (hx' : x ≤ 1000) (hy : -1000 ≤ y) (hy' : y ≤ 1000) :
    Calls Try.prog 58 #[.agg #[.int .i64 (la f n), .int .i64 (lb f n), .int .i64 (lc f n), .int .i64 (ld f n)], .int .i64 x, .int .i64 y] W fun e W' =>
      e = .returned (.tuple #[.int .i64 (spin f n (x, y)).1, .int .i64 (spin f n (x, y)).2]) ∧ Below W.heap.size W W' := by
  have hin := l_in f hn
  have hto := l_to f hn x y
  rw [← hto.1, ← hto.2]
  clear hto
  obtain ⟨a, ha⟩ : ∃ a, a = la f n := ⟨_, rfl⟩
  obtain ⟨b, hb⟩ : ∃ b, b = lb f n := ⟨_, rfl⟩
  obtain ⟨c, hc⟩ : ∃ c, c = lc f n := ⟨_, rfl⟩
  obtain ⟨d, hd⟩ : ∃ d, d = ld f n := ⟨_, rfl⟩
  rw [← ha, ← hb, ← hc, ← hd] at hin ⊢
  clear ha hb hc hd
  have m1 := mul_in hin.1.1 hin.1.2 hx hx'
  have m2 := mul_in hin.2.1.1 hin.2.1.2 hy hy'
  have m3 := mul_in hin.2.2.1.1 hin.2.2.1.2 hx hx'
  have m4 := mul_in hin.2.2.2.1 hin.2.2.2.2 hy hy'
  have s1 : IntKind.i64.wrap (a * x) = a * x := IntWalk.i64_in _ (by omega)
  have s2 : IntKind.i64.wrap (b * y) = b * y := IntWalk.i64_in _ (by omega)
  have s3 : IntKind.i64.wrap (c * x) = c * x := IntWalk.i64_in _ (by omega)
  have s4 : IntKind.i64.wrap (d * y) = d * y := IntWalk.i64_in _ (by omega)
  have s5 : IntKind.i64.wrap (a * x + b * y) = a * x + b * y := IntWalk.i64_in _ (by omega)
  have s6 : IntKind.i64.wrap (c * x + d * y) = c * x + d * y := IntWalk.i64_in _ (by omega)
  clear m1 m2 m3 m4
  go_enter Try.func58, Try.ntmps58
  go_wp2_with fail
  go_quiet (fail)
  go_wp2
  go_ret2
  exact ⟨rfl, Below.toDrewN (al1 W _) _⟩

end Go.Proofs.Ytgjanbgehbpciaa
