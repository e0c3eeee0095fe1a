/-
  No cell of these rows narrows 'for every input' (looked for: loops, veiled, ifaces, maps, wideKeys, modest, calm, conditions, laid).
  DERIVED. THE GIVEN ROWS OF THIS SEAT. 6 by the template 'for every input the law returns true; each argument reads behind the call as it read before'; 0 by the template 'total and deterministic' (their statements: YtmlopkkbgpfdnabGreatTotals.lean).
  GIVEN WITH THE SEED: the statements are not yours to turn. If you find one false, say at which input.
  Laid BY PROGRAM, IN A SANDBOX (cutbox-rows.mjs): the forced cells as the released guide's own fill.sh prints them over the translation 0a3455f91af6d6f5… (all of the seat's roots in one cut). By AI agents, Wed Nov 11 2026. No macro, syntax, notation, axiom, sorry.
-/
import Derived.Test.YtmlopkkbgpfdnabGreatChecked
import GoSem.Claim
import GoSem.ClaimJoined
import GoSem.ClaimMapViews
import Derived.JoinedTies
import Derived.KernelRfl
namespace Go.Proofs.YtmlopkkbgpfdnabGreat
/- THE CELL 'sum', in the pinned program and in every row, IS THE sha256 OF THE DUMP (.gsa) THAT YtmlopkkbgpfdnabGreatProg.lean LOADS. Nothing in Lean hashes anything: it is a label: what it is worth is what the hold of that sum in a sandbox is worth. -/
noncomputable def Tryz.pinned : Pinned := { name := "ytmlopkkbgpfdnabgreat", sum := "0a3455f91af6d6f55fb45bb98f81708bf853b3c74e02ac4d639b4849d0956728", checked := Tryz.checked }
namespace Rows
def none {H : Type} : Left H := { results := [], args := [] }

/-- 'cantinglaw01.ExactFractions': WHATEVER THE INPUT: true; the input reads as it did. -/
def exactFractionsSpec : ChangeSpec := { name := "exactFractions", fn := fun _ => fun
  | [d1, d2] => { results := [.lit (.bool true)], args := [d1, d2] }
  | _ => none }
def exactFractionsRow : OpenClaim := { program := "ytmlopkkbgpfdnabgreat", sum := "0a3455f91af6d6f55fb45bb98f81708bf853b3c74e02ac4d639b4849d0956728", func := "canting/cantinglaw01.ExactFractions", spec := "exactFractions", unfollowed := true, recurses := true, named := ["math/bits.overflowError"], apart := false }
def ExactFractionsSaid : Prop := exactFractionsRow.holds Tryz.pinned (OpenSpec.ofChange exactFractionsSpec)

/-- ITS FALSE NEIGHBOUR: 'it returns false'. Refute it at one input. -/
def exactFractionsWrong : ChangeSpec := { name := "exactFractions", fn := fun _ => fun
  | [d1, d2] => { results := [.lit (.bool false)], args := [d1, d2] }
  | _ => none }
def ExactFractionsWrongFalsely : Prop := exactFractionsRow.holds Tryz.pinned (OpenSpec.ofChange exactFractionsWrong)

/-- 'cantinglaw01.ExactRref': WHATEVER THE INPUT: true; the input reads as it did. -/
def exactRrefSpec : ChangeSpec := { name := "exactRref", fn := fun _ => fun
  | [d] => { results := [.lit (.bool true)], args := [d] }
  | _ => none }
def exactRrefRow : OpenClaim := { program := "ytmlopkkbgpfdnabgreat", sum := "0a3455f91af6d6f55fb45bb98f81708bf853b3c74e02ac4d639b4849d0956728", func := "canting/cantinglaw01.ExactRref", spec := "exactRref", unfollowed := true, recurses := true, named := ["math/bits.overflowError"], apart := false }
def ExactRrefSaid : Prop := exactRrefRow.holds Tryz.pinned (OpenSpec.ofChange exactRrefSpec)

/-- ITS FALSE NEIGHBOUR: 'it returns false'. Refute it at one input. -/
def exactRrefWrong : ChangeSpec := { name := "exactRref", fn := fun _ => fun
  | [d] => { results := [.lit (.bool false)], args := [d] }
  | _ => none }
def ExactRrefWrongFalsely : Prop := exactRrefRow.holds Tryz.pinned (OpenSpec.ofChange exactRrefWrong)

/-- 'cantinglaw01.ExactDets': WHATEVER THE INPUT: true; the input reads as it did. -/
def exactDetsSpec : ChangeSpec := { name := "exactDets", fn := fun _ => fun
  | [d] => { results := [.lit (.bool true)], args := [d] }
  | _ => none }
def exactDetsRow : OpenClaim := { program := "ytmlopkkbgpfdnabgreat", sum := "0a3455f91af6d6f55fb45bb98f81708bf853b3c74e02ac4d639b4849d0956728", func := "canting/cantinglaw01.ExactDets", spec := "exactDets", unfollowed := true, recurses := true, named := ["math/bits.overflowError"], apart := false }
def ExactDetsSaid : Prop := exactDetsRow.holds Tryz.pinned (OpenSpec.ofChange exactDetsSpec)

/-- ITS FALSE NEIGHBOUR: 'it returns false'. Refute it at one input. -/
def exactDetsWrong : ChangeSpec := { name := "exactDets", fn := fun _ => fun
  | [d] => { results := [.lit (.bool false)], args := [d] }
  | _ => none }
def ExactDetsWrongFalsely : Prop := exactDetsRow.holds Tryz.pinned (OpenSpec.ofChange exactDetsWrong)

/-- 'cantinglaw01.ExactSolves': WHATEVER THE INPUT: true; the input reads as it did. -/
def exactSolvesSpec : ChangeSpec := { name := "exactSolves", fn := fun _ => fun
  | [d1, d2] => { results := [.lit (.bool true)], args := [d1, d2] }
  | _ => none }
def exactSolvesRow : OpenClaim := { program := "ytmlopkkbgpfdnabgreat", sum := "0a3455f91af6d6f55fb45bb98f81708bf853b3c74e02ac4d639b4849d0956728", func := "canting/cantinglaw01.ExactSolves", spec := "exactSolves", unfollowed := true, recurses := true, named := ["math/bits.overflowError"], apart := false }
def ExactSolvesSaid : Prop := exactSolvesRow.holds Tryz.pinned (OpenSpec.ofChange exactSolvesSpec)

/-- ITS FALSE NEIGHBOUR: 'it returns false'. Refute it at one input. -/
def exactSolvesWrong : ChangeSpec := { name := "exactSolves", fn := fun _ => fun
  | [d1, d2] => { results := [.lit (.bool false)], args := [d1, d2] }
  | _ => none }
def ExactSolvesWrongFalsely : Prop := exactSolvesRow.holds Tryz.pinned (OpenSpec.ofChange exactSolvesWrong)

/-- 'cantinglaw01.ExactAlgebra': WHATEVER THE INPUT: true; the input reads as it did. -/
def exactAlgebraSpec : ChangeSpec := { name := "exactAlgebra", fn := fun _ => fun
  | [d1, d2] => { results := [.lit (.bool true)], args := [d1, d2] }
  | _ => none }
def exactAlgebraRow : OpenClaim := { program := "ytmlopkkbgpfdnabgreat", sum := "0a3455f91af6d6f55fb45bb98f81708bf853b3c74e02ac4d639b4849d0956728", func := "canting/cantinglaw01.ExactAlgebra", spec := "exactAlgebra", unfollowed := true, recurses := true, named := ["math/bits.overflowError"], apart := false }
def ExactAlgebraSaid : Prop := exactAlgebraRow.holds Tryz.pinned (OpenSpec.ofChange exactAlgebraSpec)

/-- ITS FALSE NEIGHBOUR: 'it returns false'. Refute it at one input. -/
def exactAlgebraWrong : ChangeSpec := { name := "exactAlgebra", fn := fun _ => fun
  | [d1, d2] => { results := [.lit (.bool false)], args := [d1, d2] }
  | _ => none }
def ExactAlgebraWrongFalsely : Prop := exactAlgebraRow.holds Tryz.pinned (OpenSpec.ofChange exactAlgebraWrong)

/-- 'cantinglaw01.ExactDetsOf': WHATEVER THE INPUT: true; the input reads as it did. -/
def exactDetsOfSpec : ChangeSpec := { name := "exactDetsOf", fn := fun _ => fun
  | [d1, d2, d3] => { results := [.lit (.bool true)], args := [d1, d2, d3] }
  | _ => none }
def exactDetsOfRow : OpenClaim := { program := "ytmlopkkbgpfdnabgreat", sum := "0a3455f91af6d6f55fb45bb98f81708bf853b3c74e02ac4d639b4849d0956728", func := "canting/cantinglaw01.ExactDetsOf", spec := "exactDetsOf", unfollowed := true, recurses := true, named := ["math/bits.overflowError"], apart := false }
def ExactDetsOfSaid : Prop := exactDetsOfRow.holds Tryz.pinned (OpenSpec.ofChange exactDetsOfSpec)

/-- ITS FALSE NEIGHBOUR: 'it returns false'. Refute it at one input. -/
def exactDetsOfWrong : ChangeSpec := { name := "exactDetsOf", fn := fun _ => fun
  | [d1, d2, d3] => { results := [.lit (.bool false)], args := [d1, d2, d3] }
  | _ => none }
def ExactDetsOfWrongFalsely : Prop := exactDetsOfRow.holds Tryz.pinned (OpenSpec.ofChange exactDetsOfWrong)

/- THE SECOND FORM. 'bulk': how many values and letters a reading holds, each counted each time it is reached (what is shared counts as often as it is met; a slice's spare places count too). A statement '..UptoSaid' is the law's where the arguments, and the package variables that the reading takes, are together of bulk at most 1048576: NARROWER than '..Said'. Prove '..Said' where nothing that the law and all that it calls make is longer than what came in: it says more and counts as full. Else prove '..UptoSaid'. A law counts once. -/
mutual
def uptoBulk {H : Type} : DataW H → Nat
  | .lit (.string bytes) => bytes.length + 1
  | .lit _ => 1
  | .nil => 1
  | .ptr d => uptoBulk d + 1
  | .slice elems spare => uptoBulkAll elems + uptoBulkAll spare + 1
  | .agg parts => uptoBulkAll parts + 1
  | .iface _ d => uptoBulk d + 1
  | .map entries => uptoBulkEntries entries + 1
  | .held _ => 1
def uptoBulkAll {H : Type} : List (DataW H) → Nat
  | [] => 0
  | d :: r => uptoBulk d + uptoBulkAll r
def uptoBulkEntries {H : Type} : List (Lit × DataW H) → Nat
  | [] => 0
  | x :: r => uptoBulkEntry x + uptoBulkEntries r
def uptoBulkEntry {H : Type} : Lit × DataW H → Nat
  | (.string bytes, d) => bytes.length + uptoBulk d + 1
  | (_, d) => uptoBulk d + 1
 end
def uptoSmall : (H : Type) → List (DataW H) → Bool := fun _ ds => decide (uptoBulkAll ds ≤ 1048576)
def OpenSpec.upto (s : _root_.Go.ChangeSpec) : _root_.Go.OpenSpec := { _root_.Go.OpenSpec.ofChange s with cond := some uptoSmall }

/-- 'cantinglaw01.ExactFractions', WHERE WHAT IT READS IS OF BULK AT MOST 1048576: true; the input reads as it did. -/
def exactFractionsUptoRow : OpenClaim := { program := "ytmlopkkbgpfdnabgreat", sum := "0a3455f91af6d6f55fb45bb98f81708bf853b3c74e02ac4d639b4849d0956728", func := "canting/cantinglaw01.ExactFractions", spec := "exactFractions", unfollowed := true, recurses := true, named := ["math/bits.overflowError"], apart := false, narrowed := true }
def ExactFractionsUptoSaid : Prop := exactFractionsUptoRow.holds Tryz.pinned (OpenSpec.upto exactFractionsSpec)

/-- 'cantinglaw01.ExactRref', WHERE WHAT IT READS IS OF BULK AT MOST 1048576: true; the input reads as it did. -/
def exactRrefUptoRow : OpenClaim := { program := "ytmlopkkbgpfdnabgreat", sum := "0a3455f91af6d6f55fb45bb98f81708bf853b3c74e02ac4d639b4849d0956728", func := "canting/cantinglaw01.ExactRref", spec := "exactRref", unfollowed := true, recurses := true, named := ["math/bits.overflowError"], apart := false, narrowed := true }
def ExactRrefUptoSaid : Prop := exactRrefUptoRow.holds Tryz.pinned (OpenSpec.upto exactRrefSpec)

/-- 'cantinglaw01.ExactDets', WHERE WHAT IT READS IS OF BULK AT MOST 1048576: true; the input reads as it did. -/
def exactDetsUptoRow : OpenClaim := { program := "ytmlopkkbgpfdnabgreat", sum := "0a3455f91af6d6f55fb45bb98f81708bf853b3c74e02ac4d639b4849d0956728", func := "canting/cantinglaw01.ExactDets", spec := "exactDets", unfollowed := true, recurses := true, named := ["math/bits.overflowError"], apart := false, narrowed := true }
def ExactDetsUptoSaid : Prop := exactDetsUptoRow.holds Tryz.pinned (OpenSpec.upto exactDetsSpec)

/-- 'cantinglaw01.ExactSolves', WHERE WHAT IT READS IS OF BULK AT MOST 1048576: true; the input reads as it did. -/
def exactSolvesUptoRow : OpenClaim := { program := "ytmlopkkbgpfdnabgreat", sum := "0a3455f91af6d6f55fb45bb98f81708bf853b3c74e02ac4d639b4849d0956728", func := "canting/cantinglaw01.ExactSolves", spec := "exactSolves", unfollowed := true, recurses := true, named := ["math/bits.overflowError"], apart := false, narrowed := true }
def ExactSolvesUptoSaid : Prop := exactSolvesUptoRow.holds Tryz.pinned (OpenSpec.upto exactSolvesSpec)

/-- 'cantinglaw01.ExactAlgebra', WHERE WHAT IT READS IS OF BULK AT MOST 1048576: true; the input reads as it did. -/
def exactAlgebraUptoRow : OpenClaim := { program := "ytmlopkkbgpfdnabgreat", sum := "0a3455f91af6d6f55fb45bb98f81708bf853b3c74e02ac4d639b4849d0956728", func := "canting/cantinglaw01.ExactAlgebra", spec := "exactAlgebra", unfollowed := true, recurses := true, named := ["math/bits.overflowError"], apart := false, narrowed := true }
def ExactAlgebraUptoSaid : Prop := exactAlgebraUptoRow.holds Tryz.pinned (OpenSpec.upto exactAlgebraSpec)

/-- 'cantinglaw01.ExactDetsOf', WHERE WHAT IT READS IS OF BULK AT MOST 1048576: true; the input reads as it did. -/
def exactDetsOfUptoRow : OpenClaim := { program := "ytmlopkkbgpfdnabgreat", sum := "0a3455f91af6d6f55fb45bb98f81708bf853b3c74e02ac4d639b4849d0956728", func := "canting/cantinglaw01.ExactDetsOf", spec := "exactDetsOf", unfollowed := true, recurses := true, named := ["math/bits.overflowError"], apart := false, narrowed := true }
def ExactDetsOfUptoSaid : Prop := exactDetsOfUptoRow.holds Tryz.pinned (OpenSpec.upto exactDetsOfSpec)

end Rows
end Go.Proofs.YtmlopkkbgpfdnabGreat
