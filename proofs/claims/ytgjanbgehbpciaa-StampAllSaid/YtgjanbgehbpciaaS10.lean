/-
  cantinglaw03.StampAll returns true for every width, height and number of colours and every slice of moves, a group or not: the orbits of the stamps of List have no stamp in common, and together they have all stamps, or the documented error.
  No condition.
-/
import Derived.Test.YtgjanbgehbpciaaRows
import Derived.Test.YtgjanbgehbpciaaT7
import Derived.ProofKit
import Derived.OpenShut
import Derived.ChangeOld
import Derived.Below
import Derived.Lib.SmallJoins
namespace Go.Proofs.Ytgjanbgehbpciaa
open Go.ChangeShapes Go.WideShapes Go.ChangeAt Go.RowKit Go.Joins

theorem own_ : ownKnob Try.prog.godebug = none := by kernel_rfl
theorem laidOut_ : laidOutB Try.prog = true := by kernel_rfl
theorem cells3 : Try.prog.cellsOf 3 = 1 := by kernel_rfl
theorem cells24 : Try.prog.cellsOf 24 = 3 := by kernel_rfl
theorem cells26 : Try.prog.cellsOf 26 = 4 := by kernel_rfl

theorem cells4 : Try.prog.cellsOf 4 = 1 := by kernel_rfl

section
variable {H : Type} {enc : TypeId × Value → H} {W : World} {base : Nat} {spare : Nat → Bool} {held : Bool}
set_option maxRecDepth 1000000 in
theorem move_cells {n : Nat} {cs : List Value} {x : DataW H × List MemPlace} (h : DataW.trod enc Try.prog W base spare held n 26 cs = some x) : ∃ m : Mv, cs = mc m := by
  obtain ⟨xs, n', -, -, hlen, hxl, hf⟩ := DataW.trod_struct Try.underlying26 h
  rw [cells26] at hlen
  match cs, hlen, xs, hxl with
  | [c0, c1, c2, c3], _, [y0, y1, y2, y3], _ =>
    have g0 : DataW.trod enc Try.prog W base spare held n' 3 [c0] = some y0 := by have := hf 0 _ rfl; simpa [cells3] using this
    have g1 : DataW.trod enc Try.prog W base spare held n' 3 [c1] = some y1 := by have := hf 1 _ rfl; simpa [cells3] using this
    have g2 : DataW.trod enc Try.prog W base spare held n' 3 [c2] = some y2 := by have := hf 2 _ rfl; simpa [cells3] using this
    have g3 : DataW.trod enc Try.prog W base spare held n' 4 [c3] = some y3 := by have := hf 3 _ rfl; simpa [cells4] using this
    obtain ⟨dx, e0, -⟩ := DataW.trod_int Try.underlying3 g0
    obtain ⟨dy, e1, -⟩ := DataW.trod_int Try.underlying3 g1
    obtain ⟨t, e2, -⟩ := DataW.trod_int Try.underlying3 g2
    obtain ⟨f, e3, -⟩ := DataW.trod_bool Try.underlying4 g3
    simp at e0 e1 e2 e3
    subst e0 e1 e2 e3
    exact ⟨⟨dx, dy, t, f⟩, rfl⟩
set_option maxRecDepth 1000000 in
theorem open_moves_in {r : Reach} {b0 : Nat} {v : Value} {d : DataW H} {p : List MemPlace} (hv : Value.okWide Try.prog W r b0 50 v)
    (h : DataW.Trod enc Try.prog W base spare held 50 v d p) : ∃ (A : Option Addr) (n c : Nat) (l : List Mv), v = .slice A n c ∧ Ml W (.slice A n c) l := by
  obtain ⟨A, n, c, rfl⟩ := okWide_slice Try.underlying50 hv
  obtain ⟨fuel, hf⟩ := h
  rcases Go.Deep.open_slice Try.underlying50 hf with ⟨hcs, -⟩ | ⟨a, len, cap, m, k, D, Pl, hcs, -, hl, hm, hmm, -, hx⟩
  · have e : Value.slice A n c = .slice none 0 0 := by simpa [Value.cells] using hcs
    injection e with e1 e2 e3
    subst e1 e2 e3
    exact ⟨none, 0, 0, [], rfl, Ml.nil_ W⟩
  · have e : Value.slice A n c = .slice (some a) len cap := by simpa [Value.cells] using hcs
    injection e with e1 e2 e3
    subst e1 e2 e3
    have hlm : n ≤ m := by rw [hmm]; split <;> omega
    have hall : ∀ i, ∃ q : Mv, i < n → ∀ j u, (mc q)[j]? = some u → W.cell? (a.add (i * 4 + j)) = some u := fun i => by
      by_cases hi : i < n
      · obtain ⟨cs', hc, ht⟩ := hx i (by omega)
        obtain ⟨q, rfl⟩ := move_cells ht
        rw [cells26] at hc
        obtain ⟨-, -, hat⟩ := World.cells?_some hc
        refine ⟨q, fun _ j u hu => ?_⟩
        have hj : j < 4 := by have := (List.getElem?_eq_some_iff.1 hu).1; simpa [mc] using this
        rw [← Go.Deep.add_add, hat j hj, hu]
      · exact ⟨Mv.one, fun h => absurd h hi⟩
    obtain ⟨f, hF⟩ := Classical.skolem.1 hall
    refine ⟨some a, n, c, (List.range n).map f, rfl, some a, c, by simp, by simpa using hl, by unfold maxLen at hm; omega, fun hp => ?_⟩
    have hp' : 0 < n := by simpa using hp
    have h0 := hF 0 hp' 0 _ rfl
    obtain ⟨b, off, spot⟩ := a
    have hspot : spot = none := by simpa [Addr.add] using World.cell?_spot h0
    subst hspot
    have hbl : b < W.heap.size := by
      have := World.block_lt_of_cell? W _ h0
      simpa [Addr.add] using this
    have e : ∀ j, (⟨b, off, none⟩ : Addr).add j = ⟨b, off + j, none⟩ := fun j => by unfold Addr.add; split <;> simp_all
    refine ⟨b, off, rfl, hbl, fun j q hq => ?_⟩
    obtain ⟨hj, hjq⟩ := List.getElem?_eq_some_iff.1 hq
    have hj' : j < n := by simpa using hj
    have hjf : f j = q := by simpa using hjq
    have hFj := hF j hj'
    rw [hjf] at hFj
    have c0 := hFj 0 _ rfl
    have c1 := hFj 1 _ rfl
    have c2 := hFj 2 _ rfl
    have c3 := hFj 3 _ rfl
    rw [e] at c0 c1 c2 c3
    exact ⟨c0, c1, c2, c3⟩
end

set_option maxRecDepth 1000000 in
theorem stampAll_lifted (os : Os) (started : os.Started) (H : Type) (enc : TypeId × Value → H) :
    ReturnsInHanded {} Try.checked os 10 .any (Rows.stampAllSpec.pre6 enc Try.prog Try.f10 Rows.stampAllRow.domain false) (Rows.stampAllSpec.post enc Try.prog Try.f10 false true false false) := by
  refine returnsInHanded_of_change (C := Try.checked) own_ started (by kernel_rfl) Try.func10
    (ChangeSpec.witness6 (enc := enc) (C := Try.checked) false ⟨#[], #[.int .i64 0, .int .i64 0, .int .i64 0, .slice none 0 0], []⟩ 8 (by kernel_rfl) (by kernel_rfl) (by kernel_rfl) (by kernel_rfl)) ?_
  intro W base args ds gs before hval0 hW hcnd _
  have hval : ∀ (j : Nat) t v, Try.f10.params[j]? = some t → args[j]? = some v → Value.okWide Try.prog W .any base t v := hval0
  have hW' := hW
  obtain ⟨p, q, hA0, hV, rfl, hfz, hnd⟩ := hW
  have hA : DataW.TrodAll enc Try.prog W 0 (fun _ => true) true Try.f10.params.toList args.toList ds p := hA0
  rw [Try.params10] at hA hval
  obtain ⟨v0, vs0, d0, ds0, p0, q0, hargs, rfl, rfl, h0, r0⟩ := trodAll_cons hA
  obtain ⟨v1, vs1, d1, ds1, p1, q1, rfl, rfl, rfl, h1, r1⟩ := trodAll_cons r0
  obtain ⟨v2, vs2, d2, ds2, p2, q2, rfl, rfl, rfl, h2, r2⟩ := trodAll_cons r1
  obtain ⟨v3, vs3, d3, ds3, p3, q3, rfl, rfl, rfl, h3, r3⟩ := trodAll_cons r2
  obtain ⟨rfl, rfl, rfl⟩ := trodAll_nil r3
  obtain rfl : args = #[v0, v1, v2, v3] := by cases args; simp_all
  obtain ⟨rfl, rfl⟩ := trodVars_none hV
  obtain ⟨k0, rfl, rfl, rfl, w0⟩ := open_int Try.underlying3 (hval 0 3 v0 rfl rfl) h0
  obtain ⟨k1, rfl, rfl, rfl, w1⟩ := open_int Try.underlying3 (hval 1 3 v1 rfl rfl) h1
  obtain ⟨k2, rfl, rfl, rfl, w2⟩ := open_int Try.underlying3 (hval 2 3 v2 rfl rfl) h2
  have k3_ := h3
  have lt3 : ∀ x ∈ p3, x.block < W.heap.size := by obtain ⟨m, hm⟩ := k3_; exact DataW.trod_lt m _ _ _ hm
  obtain ⟨A3, n3, c3, l3, rfl, hx3⟩ := open_moves_in (hval 3 50 v3 rfl rfl) h3
  clear hA0 hval0
  refine (all_any k0 k1 k2 A3 n3 c3 l3 W hx3).mono fun e W' ⟨he, bel⟩ => ?_
  subst he
  exact ⟨_, rfl, _, _, _, [], _, [], hW', trodAll_mk1 (shut_bool Try.underlying4 _), (trodAll_cons_mk (shut_int Try.underlying3 w0) (trodAll_cons_mk (shut_int Try.underlying3 w1) (trodAll_cons_mk (shut_int Try.underlying3 w2) (trodAll_cons_mk (Below.trod laidOut_ (by kernel_rfl) (of_decide_eq_true (by kernel_rfl)) k3_ bel lt3) trodAll_mk0)))), rfl, Below.frame bel _, fun h => by cases h⟩

theorem stampAll_over : Rows.stampAllRow.holds Try.pinned (OpenSpec.ofChange Rows.stampAllSpec) :=
  OpenClaim.holds_of_wide 10 Try.f10 rfl rfl rfl rfl rfl rfl rfl ⟨rfl, rfl, rfl, rfl, rfl⟩ rfl rfl rfl rfl rfl (by kernel_rfl) Try.func10 (by kernel_rfl)
    (of_decide_eq_true (by kernel_rfl)) (by unfold Func.isWrapper; first | (rw [if_pos (by decide +kernel)]; kernel_rfl) | (rw [if_neg (by decide +kernel)]; exact ⟨rfl, rfl⟩))
    (fun os started H enc _ => stampAll_lifted os started H enc)

/-- The statement. -/
theorem stampAll_proved : Rows.StampAllSaid := stampAll_over
#print axioms stampAll_proved
end Go.Proofs.Ytgjanbgehbpciaa
