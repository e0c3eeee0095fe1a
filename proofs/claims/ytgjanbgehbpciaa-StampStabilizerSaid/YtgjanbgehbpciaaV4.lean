/- Walks: inverse. -/
import Derived.Test.YtgjanbgehbpciaaV3
namespace Go.Proofs.Ytgjanbgehbpciaa
open Go.RowKit

set_option maxHeartbeats 1000000 in
set_option maxRecDepth 100000 in
theorem inverse_true (w h : Int) (dx dy : Int) (n k : Nat) (W : World) (hs : 1 ≤ w ∧ w ≤ 8 ∧ 1 ≤ h ∧ h ≤ 8)
    (ha : 0 ≤ dx ∧ dx < w ∧ 0 ≤ dy ∧ dy < h) (hn : n < 4) (hk : k < 4) (hkn : (k : Int) = n) :
    Calls Try.prog 56 #[.agg #[.int .i64 w, .int .i64 h], .agg #[.int .i64 dx, .int .i64 dy, .int .i64 n, .bool true]] W fun e W' =>
      e = .returned (.agg #[.int .i64 ((-(spin true k (dx, dy)).1) % w), .int .i64 ((-(spin true k (dx, dy)).2) % h), .int .i64 k, .bool true]) ∧ Below W.heap.size W W' := by
  have hbd := spin_bd (f := true) (t := k) (by omega) (by omega) (x := dx) (y := dy) (B := 1000) (by omega) (by omega) (by omega) (by omega)
  simp only [Int.toNat_natCast] at hbd
  have hc : ∀ W, Calls Try.prog 81 #[.agg #[.int .i64 0, .int .i64 0, .int .i64 k, .bool true], .int .i64 dx, .int .i64 dy] W fun e W' => e = .returned (.tuple #[.int .i64 (spin true k (dx, dy)).1, .int .i64 (spin true k (dx, dy)).2]) ∧ Below W.heap.size W W' :=
    fun W => (spun_any 0 0 k true dx dy W hk (by omega) (by omega) (by omega) (by omega)).mono (fun _ _ h => ⟨h.1, by rw [h.2]; exact below1 _ _⟩)
  obtain ⟨p, hp⟩ : ∃ p, p = (spin true k (dx, dy)).1 := ⟨_, rfl⟩
  obtain ⟨q, hq⟩ : ∃ q, q = (spin true k (dx, dy)).2 := ⟨_, rfl⟩
  simp only [← hp, ← hq] at hbd hc ⊢
  have HC := Lib.hid hc
  clear hp hq hc
  obtain rfl : k = n := by omega
  clear hkn
  go_enter Try.func56, Try.ntmps56
  go_wp2_with fail
  refine (HC.out _).mono ?_
  rintro e w1 ⟨rfl, hb1⟩
  have s1 : IntKind.i64.wrap (-p) = -p := IntWalk.i64_in _ (by omega)
  have s2 : IntKind.i64.wrap (-q) = -q := IntWalk.i64_in _ (by omega)
  obtain ⟨c, f⟩ := bcell hb1
  have z := hb1.size
  simp only [World.size_alloc, World.size_setCell] at z c f
  have Hb := Lib.hid (nx (al4 W _ _ _ _) hb1); clear hb1
  clear HC
  go_wp2_with fail
  go_still_tail 11, (by kernel_rfl)
  still_call ((modulo_any _ _ _ (by omega) (by omega) (by omega) (by omega)).mono (fun _ _ h => ⟨h.1, h.2.symm⟩))
  repeat still_step
  still_call ((modulo_any _ _ _ (by omega) (by omega) (by omega) (by omega)).mono (fun _ _ h => ⟨h.1, h.2.symm⟩))
  repeat still_step
  refine wpStill_nil ?_
  go_wp2
  refine bodyPost_ret (v := .agg #[.int .i64 ((-p) % w), .int .i64 ((-q) % h), .int .i64 k, .bool true]) (by simp [results, Try.results56, go_sem, c, f, z]) rfl ⟨rfl, ?_⟩
  exact (sc4 (sc (sc Hb.out (by omega) _) (by omega) _) (by omega) _ _ _ _).drew

set_option maxHeartbeats 1000000 in
set_option maxRecDepth 100000 in
theorem inverse_false (w h : Int) (dx dy : Int) (n k : Nat) (W : World) (hs : 1 ≤ w ∧ w ≤ 8 ∧ 1 ≤ h ∧ h ≤ 8)
    (ha : 0 ≤ dx ∧ dx < w ∧ 0 ≤ dy ∧ dy < h) (hn : n < 4) (hk : k < 4) (hkn : (k : Int) = (-(n : Int)) % 4) :
    Calls Try.prog 56 #[.agg #[.int .i64 w, .int .i64 h], .agg #[.int .i64 dx, .int .i64 dy, .int .i64 n, .bool false]] W fun e W' =>
      e = .returned (.agg #[.int .i64 ((-(spin false k (dx, dy)).1) % w), .int .i64 ((-(spin false k (dx, dy)).2) % h), .int .i64 k, .bool false]) ∧ Below W.heap.size W W' := by
  have hbd := spin_bd (f := false) (t := k) (by omega) (by omega) (x := dx) (y := dy) (B := 1000) (by omega) (by omega) (by omega) (by omega)
  simp only [Int.toNat_natCast] at hbd
  have hc : ∀ W, Calls Try.prog 81 #[.agg #[.int .i64 0, .int .i64 0, .int .i64 k, .bool false], .int .i64 dx, .int .i64 dy] W fun e W' => e = .returned (.tuple #[.int .i64 (spin false k (dx, dy)).1, .int .i64 (spin false k (dx, dy)).2]) ∧ Below W.heap.size W W' :=
    fun W => (spun_any 0 0 k false dx dy W hk (by omega) (by omega) (by omega) (by omega)).mono (fun _ _ h => ⟨h.1, by rw [h.2]; exact below1 _ _⟩)
  obtain ⟨p, hp⟩ : ∃ p, p = (spin false k (dx, dy)).1 := ⟨_, rfl⟩
  obtain ⟨q, hq⟩ : ∃ q, q = (spin false k (dx, dy)).2 := ⟨_, rfl⟩
  simp only [← hp, ← hq] at hbd hc ⊢
  have HC := Lib.hid hc
  clear hp hq hc
  have hm : ∀ W, Calls Try.prog 80 #[.int .i64 (-(n : Int)), .int .i64 4] W fun e W' => e = .returned (.int .i64 k) ∧ W = W' :=
    fun W => (modulo_any (-(n : Int)) 4 W (by omega) (by omega) (by omega) (by omega)).mono (fun _ _ h => ⟨by rw [hkn]; exact h.1, h.2⟩)
  have HM := Lib.hid hm
  clear hkn hm
  go_enter Try.func56, Try.ntmps56
  go_wp2_with fail
  refine (HM.out _).mono ?_
  rintro e w0 ⟨rfl, rfl⟩
  go_wp2_with fail
  refine (HC.out _).mono ?_
  rintro e w1 ⟨rfl, hb1⟩
  have s1 : IntKind.i64.wrap (-p) = -p := IntWalk.i64_in _ (by omega)
  have s2 : IntKind.i64.wrap (-q) = -q := IntWalk.i64_in _ (by omega)
  obtain ⟨c, f⟩ := bcell hb1
  have z := hb1.size
  simp only [World.size_alloc, World.size_setCell] at z c f
  have Hb := Lib.hid (nx (al4 W _ _ _ _) hb1); clear hb1
  clear HC
  go_wp2_with fail
  go_still_tail 11, (by kernel_rfl)
  still_call ((modulo_any _ _ _ (by omega) (by omega) (by omega) (by omega)).mono (fun _ _ h => ⟨h.1, h.2.symm⟩))
  repeat still_step
  still_call ((modulo_any _ _ _ (by omega) (by omega) (by omega) (by omega)).mono (fun _ _ h => ⟨h.1, h.2.symm⟩))
  repeat still_step
  refine wpStill_nil ?_
  go_wp2
  refine bodyPost_ret (v := .agg #[.int .i64 ((-p) % w), .int .i64 ((-q) % h), .int .i64 k, .bool false]) (by simp [results, Try.results56, go_sem, c, f, z]) rfl ⟨rfl, ?_⟩
  exact (sc4 (sc (sc Hb.out (by omega) _) (by omega) _) (by omega) _ _ _ _).drew

/-- inverse -/
theorem inverse_any (w h : Int) (m : Mv) (W : World) (hs : okSize w h = true) (hm : has w h m = true) :
    Calls Try.prog 56 #[.agg #[.int .i64 w, .int .i64 h], .agg #[.int .i64 m.dx, .int .i64 m.dy, .int .i64 m.t, .bool m.f]] W fun e W' =>
      e = .returned (.agg #[.int .i64 (inv w h m).dx, .int .i64 (inv w h m).dy, .int .i64 (inv w h m).t, .bool (inv w h m).f]) ∧ Below W.heap.size W W' := by
  rw [okSize_iff] at hs
  rw [has_iff] at hm
  obtain ⟨dx, dy, t, f⟩ := m
  simp only at hm ⊢
  obtain ⟨n, rfl⟩ : ∃ n : Nat, t = n := ⟨t.toNat, by omega⟩
  cases f
  · obtain ⟨k, hk⟩ : ∃ k : Nat, (-(n : Int)) % 4 = k := ⟨((-(n : Int)) % 4).toNat, by omega⟩
    refine (inverse_false w h dx dy n k W hs (by omega) (by omega) (by omega) hk.symm).mono ?_
    rintro e w' ⟨rfl, hb⟩
    have e1 : tinv false n = k := hk
    refine ⟨?_, hb⟩
    unfold inv
    simp only [e1, Int.toNat_natCast]
  · exact inverse_true w h dx dy n n W hs (by omega) (by omega) (by omega) rfl

end Go.Proofs.Ytgjanbgehbpciaa
