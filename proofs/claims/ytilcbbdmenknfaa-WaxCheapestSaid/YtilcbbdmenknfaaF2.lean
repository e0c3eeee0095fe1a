/- What comes in: a cloth. -/
import Derived.Test.YtilcbbdmenknfaaF1
import Derived.Test.YtilcbbdmenknfaaH2
namespace Go.Proofs.Ytilcbbdmenknfaa
open Go.ChangeShapes Go.WideShapes Go.ChangeAt Go.RowKit Go.Joins Go.Deep

theorem cells33 : Try.prog.cellsOf 33 = 1 := by kernel_rfl
theorem cells68 : Try.prog.cellsOf 68 = 6 := by kernel_rfl
theorem array6 {α : Type} {cs : Array α} (h : cs.size = 6) : ∃ c0 c1 c2 c3 c4 c5, cs = #[c0, c1, c2, c3, c4, c5] := by
  obtain ⟨l⟩ := cs
  match l, h with
  | [c0, c1, c2, c3, c4, c5], _ => exact ⟨c0, c1, c2, c3, c4, c5, rfl⟩

set_option maxRecDepth 1000000 in
theorem open_cloth_in {H : Type} {enc : TypeId × Value → H} {W : World} {r : Reach} {b0 base : Nat} {spare : Nat → Bool} {held : Bool} {v : Value} {d : DataW H} {p : List MemPlace} (hv : Value.okWide Try.prog W r b0 68 v)
    (h : DataW.Trod enc Try.prog W base spare held 68 v d p) : ∃ c : Cl, Kl W v c := by
  obtain ⟨cs, rfl, hsz⟩ := okWide_struct Try.underlying68 hv
  obtain ⟨c0, c1, c2, c3, c4, c5, rfl⟩ := array6 (hsz.trans cells68)
  obtain ⟨fuel, hf⟩ := h
  obtain ⟨xs, k', -, -, -, hxl, hg⟩ := DataW.trod_struct Try.underlying68 hf
  match xs, hxl with
  | [y0, y1, y2, y3, y4, y5], _ =>
    have g0 := hg 0 _ rfl
    have g1 := hg 1 _ rfl
    have g2 := hg 2 _ rfl
    have g3 := hg 3 _ rfl
    have g4 := hg 4 _ rfl
    have g5 := hg 5 _ rfl
    simp [cells3, cells33, Value.cells] at g0 g1 g2 g3 g4 g5
    obtain ⟨z0, e0, -⟩ := DataW.trod_int Try.underlying3 (show _ = some y0 from g0)
    obtain ⟨z1, e1, -⟩ := DataW.trod_int Try.underlying3 (show _ = some y1 from g1)
    simp at e0 e1
    subst e0 e1
    have key : ∀ (u : Value) (y : DataW H × List MemPlace), DataW.trod enc Try.prog W base spare held k' 33 [u] = some y → ∃ (n : Nat) (x : Nat → Int), Il W u n x := fun u y hu =>
      open_list_in (fun z => .int .i64 z) Try.underlying33 cells3 (fun n u y hy => by obtain ⟨z, e, -⟩ := DataW.trod_int Try.underlying3 hy; simp at e; exact ⟨z, e⟩) hu
    obtain ⟨n2, x2, h2⟩ := key _ _ g2
    obtain ⟨n3, x3, h3⟩ := key _ _ g3
    obtain ⟨n4, x4, h4⟩ := key _ _ g4
    obtain ⟨n5, x5, h5⟩ := key _ _ g5
    exact ⟨⟨z0, z1, n2, x2, n3, x3, n4, x4, n5, x5⟩, c2, c3, c4, c5, rfl, h2, h3, h4, h5⟩
end Go.Proofs.Ytilcbbdmenknfaa
