/- Walks: cell, goals. -/
import Derived.Test.YtgjanbgehbpciaaV8x
import Derived.Deep.RegionHeld3
import Derived.Test.YtgjanbgehbpciaaV7b
namespace Go.Proofs.Ytgjanbgehbpciaa
open Go.RowKit

theorem Below.drwN {B : Nat} {W w1 : World} (h : Below B W w1) (k : Nat) : Below B W (w1.drewN k) := Below.toDrewN h k

set_option maxRecDepth 100000 in
theorem cell_any (w h : Int) (x y : Int) (W : World) (hs : 1 ≤ w ∧ w ≤ 8 ∧ 1 ≤ h ∧ h ≤ 8) (hx : -10000 ≤ x) (hx' : x ≤ 10000) (hy : -10000 ≤ y) (hy' : y ≤ 10000) :
    Calls Try.prog 89 #[.agg #[.int .i64 w, .int .i64 h], .int .i64 x, .int .i64 y] W fun e W' => e = .returned (.int .i64 (y % h * w + x % w)) ∧ Below W.heap.size W W' := by
  have h1 := Int.emod_nonneg x (b := w) (by omega)
  have h2 := Int.emod_lt_of_pos x (b := w) (by omega)
  have h3 := Int.emod_nonneg y (b := h) (by omega)
  have h4 := Int.emod_lt_of_pos y (b := h) (by omega)
  obtain ⟨p, hp⟩ : ∃ p, p = x % w := ⟨_, rfl⟩
  obtain ⟨q, hq⟩ : ∃ q, q = y % h := ⟨_, rfl⟩
  rw [← hp] at h1 h2
  rw [← hq] at h3 h4
  rw [← hp, ← hq]
  have m1 : ∀ W, Calls Try.prog 80 #[.int .i64 y, .int .i64 h] W fun e W' => e = .returned (.int .i64 q) ∧ W' = W := fun W => (modulo_any y h W (by omega) (by omega) (by omega) (by omega)).mono (fun _ _ k => ⟨by rw [hq]; exact k.1, k.2.symm⟩)
  have m2 : ∀ W, Calls Try.prog 80 #[.int .i64 x, .int .i64 w] W fun e W' => e = .returned (.int .i64 p) ∧ W' = W := fun W => (modulo_any x w W (by omega) (by omega) (by omega) (by omega)).mono (fun _ _ k => ⟨by rw [hp]; exact k.1, k.2.symm⟩)
  have M1 := Lib.hid m1; have M2 := Lib.hid m2
  clear m1 m2 hp hq
  have hqw : 0 ≤ q * w ∧ q * w ≤ 64 := by
    have a := Int.mul_nonneg h3 (by omega : 0 ≤ w)
    have b := Int.mul_le_mul (by omega : q ≤ 8) (by omega : w ≤ 8) (by omega) (by omega)
    omega
  have s1 : IntKind.i64.wrap (q * w) = q * w := IntWalk.i64_in _ (by omega)
  have s2 : IntKind.i64.wrap (q * w + p) = q * w + p := IntWalk.i64_in _ (by omega)
  go_enter Try.func89, Try.ntmps89
  go_wp2_with fail
  have k0 : (W.alloc (.cells #[.int .i64 w, .int .i64 h] 84)).cell? ⟨W.heap.size, 0, none⟩ = some (.int .i64 w) := by rw [World.cell?_alloc_new]; rfl
  have k1 : (W.alloc (.cells #[.int .i64 w, .int .i64 h] 84)).cell? ⟨W.heap.size, 1, none⟩ = some (.int .i64 h) := by rw [World.cell?_alloc_new]; rfl
  have kb := Lib.hid (al1 W (.cells #[.int .i64 w, .int .i64 h] 84))
  generalize W.alloc (.cells #[.int .i64 w, .int .i64 h] 84) = w1 at *
  go_still_tail 12, (by kernel_rfl)
  still_call (M1.out _)
  repeat still_step
  still_call (M2.out _)
  repeat still_step
  refine wpStill_nil ?_
  go_wp2
  go_ret
  exact ⟨rfl, kb.out.drew⟩

/-- the goal of each cell, row by row -/
def goalAt (w h : Nat) (m : Mv) (i : Nat) : Int :=
  ((spin m.f m.t.toNat (((i % w : Nat) : Int), ((i / w : Nat) : Int))).2 + m.dy) % h * w + ((spin m.f m.t.toNat (((i % w : Nat) : Int), ((i / w : Nat) : Int))).1 + m.dx) % w

def iv (x : Int) : Value := .int .i64 x

theorem Il.of_own {w : World} {base : Nat} {v : Value} {ds : List Int} (h : w.ownsRow base 3 1 v ds.length (ds.map iv)) : Il w v ds := by
  have h0 := h
  obtain ⟨h1, h2 | ⟨g, cap, cur, rfl, hg, hh, hn, hcap, hsz, htake⟩⟩ := h
  · obtain ⟨rfl, hn⟩ := h2
    have : ds = [] := List.eq_nil_of_length_eq_zero hn
    subst this
    exact Il.nil_ w
  · refine ⟨some ⟨g, 0, none⟩, cap, rfl, hn, by unfold maxLen at hcap; omega, fun hp => ⟨g, 0, rfl, (Array.getElem?_eq_some_iff.1 hh).1, fun j hj => ?_⟩⟩
    have := h0.cells (g := g) rfl j (iv (ds.getD j 0)) (by
      rw [List.getElem?_map, List.getElem?_eq_getElem hj]
      simp [List.getD_eq_getElem?_getD, List.getElem?_eq_getElem hj])
    have e : (⟨g, 0, none⟩ : Addr).add j = ⟨g, 0 + j, none⟩ := by unfold Addr.add; split <;> simp_all
    rw [← e]
    exact this

theorem info3 : (Try.prog.info? 3).map (fun i => (i.zero, i.size, i.bytes)) = some (some (.int .i64 0), 1, 8) := by kernel_rfl
end Go.Proofs.Ytgjanbgehbpciaa
