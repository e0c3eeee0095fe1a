/- What comes in: a net, a slice of numbers, a slice of flags. -/
import Derived.Test.YtilcbbdmenknfaaD2
import Derived.ProofKit
import Derived.OpenShut
import Derived.ChangeOld
import Derived.Below
import Derived.Lib.SmallJoins
import Derived.Deep.Slices
namespace Go.Proofs.Ytilcbbdmenknfaa
open Go.ChangeShapes Go.WideShapes Go.ChangeAt Go.RowKit Go.Joins Go.Deep

theorem own_ : ownKnob Try.prog.godebug = none := by kernel_rfl
theorem laidOut_ : laidOutB Try.prog = true := by kernel_rfl
theorem cells3 : Try.prog.cellsOf 3 = 1 := by kernel_rfl
theorem cells4 : Try.prog.cellsOf 4 = 1 := by kernel_rfl
theorem cells24 : Try.prog.cellsOf 24 = 2 := by kernel_rfl
theorem cells64 : Try.prog.cellsOf 64 = 3 := by kernel_rfl

theorem add_lit (b off j : Nat) : (⟨b, off, none⟩ : Addr).add j = ⟨b, off + j, none⟩ := by unfold Addr.add; split <;> simp_all
theorem add_none {w : World} {a : Addr} {v : Value} (h : w.cell? (a.add 0) = some v) : a.spot = none ∧ a.block < w.heap.size := by
  obtain ⟨b, off, spot⟩ := a
  have hs : spot = none := by simpa [Addr.add] using World.cell?_spot h
  have hb := World.block_lt_of_cell? w _ h
  exact ⟨hs, by simpa [Addr.add] using hb⟩

set_option maxRecDepth 1000000 in
theorem open_arcs_in {H : Type} {enc : TypeId × Value → H} {W : World} {base : Nat} {spare : Nat → Bool} {held : Bool} {n : Nat} {v : Value} {x : DataW H × List MemPlace}
    (h : DataW.trod enc Try.prog W base spare held n 22 [v] = some x) : ∃ a : Ar, Al W v a := by
  rcases open_slice Try.underlying22 h with ⟨hcs, -⟩ | ⟨a, len, cap, m, k, D, Pl, hcs, -, hl, hm, hmm, -, hx⟩
  · simp at hcs
    subst hcs
    exact ⟨⟨0, fun _ => 0, fun _ => 0, fun _ => 0⟩, none, 0, rfl, Nat.le_refl _, by omega, fun hp => absurd hp (Nat.lt_irrefl _)⟩
  · simp at hcs
    subst hcs
    have hlm : len ≤ m := by rw [hmm]; split <;> omega
    rw [cells64] at hx
    have each : ∀ i, i < m → ∃ q : Int × Int × Int, W.cell? ((a.add (i * 3)).add 0) = some (.int .i64 q.1) ∧ W.cell? ((a.add (i * 3)).add 1) = some (.int .i64 q.2.1) ∧ W.cell? ((a.add (i * 3)).add 2) = some (.int .i64 q.2.2) := by
      intro i hi
      obtain ⟨cs, h1, h2⟩ := hx i hi
      obtain ⟨-, hlen, hc⟩ := World.cells?_some h1
      obtain ⟨xs, k', -, -, -, hxl, hf⟩ := DataW.trod_struct Try.underlying64 h2
      match cs, hlen, xs, hxl with
      | [v0, v1, v2], _, [y0, y1, y2], _ =>
        have g0 := hf 0 _ rfl
        have g1 := hf 1 _ rfl
        have g2 := hf 2 _ rfl
        simp [cells3] at g0 g1 g2
        obtain ⟨z0, e0, -⟩ := DataW.trod_int Try.underlying3 (show _ = some y0 from g0)
        obtain ⟨z1, e1, -⟩ := DataW.trod_int Try.underlying3 (show _ = some y1 from g1)
        obtain ⟨z2, e2, -⟩ := DataW.trod_int Try.underlying3 (show _ = some y2 from g2)
        simp at e0 e1 e2
        subst e0 e1 e2
        exact ⟨(z0, z1, z2), hc 0 (by omega), hc 1 (by omega), hc 2 (by omega)⟩
    obtain ⟨Q, hQ⟩ := choose_lt (α := Int × Int × Int) each
    refine ⟨⟨len, fun i => (Q i).1, fun i => (Q i).2.1, fun i => (Q i).2.2⟩, some a, cap, rfl, hl, by unfold maxLen at hm; omega, fun hp => ?_⟩
    have h0 := hQ 0 (Nat.lt_of_lt_of_le hp hlm)
    obtain ⟨b, off, spot⟩ := a
    have hs := add_none h0.1
    simp [Addr.add] at hs
    obtain ⟨rfl, hb⟩ := hs
    refine ⟨b, off, rfl, hb, fun j hj => ?_⟩
    obtain ⟨k0, k1, k2⟩ := hQ j (Nat.lt_of_lt_of_le hj hlm)
    rw [add_lit, add_lit] at k0 k1 k2
    exact ⟨k0, k1, k2⟩

set_option maxRecDepth 1000000 in
theorem open_net_in {H : Type} {enc : TypeId × Value → H} {W : World} {r : Reach} {b0 base : Nat} {spare : Nat → Bool} {held : Bool} {v : Value} {d : DataW H} {p : List MemPlace} (hv : Value.okWide Try.prog W r b0 24 v)
    (h : DataW.Trod enc Try.prog W base spare held 24 v d p) : ∃ (N : Int) (A : Value) (a : Ar), v = .agg #[.int .i64 N, A] ∧ Al W A a := by
  obtain ⟨c0, c1, y0, y1, m, rfl, -, -, hy0, hy1⟩ := open_agg2 Try.underlying24 (by kernel_rfl) cells24 hv h
  obtain ⟨N, e0, -⟩ := DataW.trod_int Try.underlying3 hy0
  simp at e0
  subst e0
  obtain ⟨a, ha⟩ := open_arcs_in hy1
  exact ⟨N, c1, a, rfl, ha⟩

set_option maxRecDepth 1000000 in
theorem open_list_in {α : Type} [Inhabited α] (mk : α → Value) {H : Type} {enc : TypeId × Value → H} {W : World} {base : Nat} {spare : Nat → Bool} {held : Bool} {t e : TypeId} {n : Nat} {v : Value} {x : DataW H × List MemPlace}
    (ht : Try.prog.underlying t = some (.slice e)) (hc : Try.prog.cellsOf e = 1) (hmk : ∀ (n : Nat) (u : Value) (y : DataW H × List MemPlace), DataW.trod enc Try.prog W base spare held n e [u] = some y → ∃ z, u = mk z)
    (h : DataW.trod enc Try.prog W base spare held n t [v] = some x) : ∃ (n : Nat) (f : Nat → α), Vl W v n (fun j => mk (f j)) := by
  rcases open_slice1 ht hc h with ⟨hcs, -⟩ | ⟨a, len, cap, m, k, V, D, Pl, hcs, -, hl, hm, hmm, -, hx⟩
  · simp at hcs
    subst hcs
    exact ⟨0, fun _ => default, none, 0, rfl, Nat.le_refl _, by omega, fun hp => absurd hp (Nat.lt_irrefl _)⟩
  · simp at hcs
    subst hcs
    have hlm : len ≤ m := by rw [hmm]; split <;> omega
    obtain ⟨f, hf⟩ := choose_lt (α := α) (p := fun i z => V i = mk z) (fun i hi => hmk _ _ _ (hx i hi).2)
    refine ⟨len, f, some a, cap, rfl, hl, by unfold maxLen at hm; omega, fun hp => ?_⟩
    have h0 := (hx 0 (Nat.lt_of_lt_of_le hp hlm)).1
    obtain ⟨b, off, spot⟩ := a
    have hs := add_none h0
    simp at hs
    obtain ⟨rfl, hb⟩ := hs
    refine ⟨b, off, rfl, hb, fun j hj => ?_⟩
    have h1 := (hx j (Nat.lt_of_lt_of_le hj hlm)).1
    rw [add_lit] at h1
    rw [h1, hf j (Nat.lt_of_lt_of_le hj hlm)]

set_option maxRecDepth 1000000 in
theorem open_ints_in {H : Type} {enc : TypeId × Value → H} {W : World} {r : Reach} {b0 base : Nat} {spare : Nat → Bool} {held : Bool} {v : Value} {d : DataW H} {p : List MemPlace} (hv : Value.okWide Try.prog W r b0 33 v)
    (h : DataW.Trod enc Try.prog W base spare held 33 v d p) : ∃ (n : Nat) (x : Nat → Int), Il W v n x := by
  obtain ⟨A, n, c, rfl⟩ := okWide_slice Try.underlying33 hv
  obtain ⟨m, hm⟩ := h
  exact open_list_in (fun z => .int .i64 z) Try.underlying33 cells3 (fun n u y hy => by obtain ⟨z, e, -⟩ := DataW.trod_int Try.underlying3 hy; simp at e; exact ⟨z, e⟩) hm
set_option maxRecDepth 1000000 in
theorem open_flags_in {H : Type} {enc : TypeId × Value → H} {W : World} {r : Reach} {b0 base : Nat} {spare : Nat → Bool} {held : Bool} {v : Value} {d : DataW H} {p : List MemPlace} (hv : Value.okWide Try.prog W r b0 40 v)
    (h : DataW.Trod enc Try.prog W base spare held 40 v d p) : ∃ (n : Nat) (x : Nat → Bool), Bl W v n x := by
  obtain ⟨A, n, c, rfl⟩ := okWide_slice Try.underlying40 hv
  obtain ⟨m, hm⟩ := h
  exact open_list_in (fun z => .bool z) Try.underlying40 cells4 (fun n u y hy => by obtain ⟨z, e, -⟩ := DataW.trod_bool Try.underlying4 hy; simp at e; exact ⟨z, e⟩) hm
end Go.Proofs.Ytilcbbdmenknfaa
