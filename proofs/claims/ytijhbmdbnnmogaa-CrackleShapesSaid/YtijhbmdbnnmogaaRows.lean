/-
  No cell of these rows narrows 'for every input' (looked for: loops, veiled, ifaces, maps, wideKeys, modest, calm, conditions, laid).
  DERIVED. THE GIVEN ROWS OF THIS SEAT. 4 by the template 'for every input the law returns true; each argument reads behind the call as it read before'; 0 by the template 'total and deterministic' (their statements: YtijhbmdbnnmogaaTotals.lean).
  GIVEN WITH THE SEED: the statements are not yours to turn. If you find one false, say at which input.
  Laid BY PROGRAM, IN A SANDBOX (cutbox-rows.mjs): the forced cells as the released guide's own fill.sh prints them over the translation db6f2b53fa59a4c1… (all of the seat's roots in one cut). By AI agents, Wed Nov 11 2026. No macro, syntax, notation, axiom, sorry.
-/
import Derived.Test.YtijhbmdbnnmogaaChecked
import GoSem.Claim
import GoSem.ClaimJoined
import GoSem.ClaimMapViews
import Derived.JoinedTies
import Derived.KernelRfl
namespace Go.Proofs.Ytijhbmdbnnmogaa
/- THE CELL 'sum', in the pinned program and in every row, IS THE sha256 OF THE DUMP (.gsa) THAT YtijhbmdbnnmogaaProg.lean LOADS. Nothing in Lean hashes anything: it is a label: what it is worth is what the hold of that sum in a sandbox is worth. -/
noncomputable def Try.pinned : Pinned := { name := "ytijhbmdbnnmogaa", sum := "db6f2b53fa59a4c1f7e95072903eee46123c8a63784c0e0f9f44ac182a3d9d33", checked := Try.checked }
namespace Rows
def none {H : Type} : Left H := { results := [], args := [] }

/-- 'cantinglaw08.CrackleNames': WHATEVER THE INPUT: true; the input reads as it did. -/
def crackleNamesSpec : ChangeSpec := { name := "crackleNames", fn := fun _ => fun
  | [d] => { results := [.lit (.bool true)], args := [d] }
  | _ => none }
def crackleNamesRow : OpenClaim := { program := "ytijhbmdbnnmogaa", sum := "db6f2b53fa59a4c1f7e95072903eee46123c8a63784c0e0f9f44ac182a3d9d33", func := "canting/cantinglaw08.CrackleNames", spec := "crackleNames", unfollowed := true, recurses := true, named := ["math/bits.overflowError"], apart := false }
def CrackleNamesSaid : Prop := crackleNamesRow.holds Try.pinned (OpenSpec.ofChange crackleNamesSpec)

/-- ITS FALSE NEIGHBOUR: 'it returns false'. Refute it at one input. -/
def crackleNamesWrong : ChangeSpec := { name := "crackleNames", fn := fun _ => fun
  | [d] => { results := [.lit (.bool false)], args := [d] }
  | _ => none }
def CrackleNamesWrongFalsely : Prop := crackleNamesRow.holds Try.pinned (OpenSpec.ofChange crackleNamesWrong)

/-- 'cantinglaw08.CrackleShapes': WHATEVER THE INPUT: true; the input reads as it did. -/
def crackleShapesSpec : ChangeSpec := { name := "crackleShapes", fn := fun _ => fun
  | [d1, d2] => { results := [.lit (.bool true)], args := [d1, d2] }
  | _ => none }
def crackleShapesRow : OpenClaim := { program := "ytijhbmdbnnmogaa", sum := "db6f2b53fa59a4c1f7e95072903eee46123c8a63784c0e0f9f44ac182a3d9d33", func := "canting/cantinglaw08.CrackleShapes", spec := "crackleShapes", unfollowed := true, recurses := true, named := ["math/bits.overflowError"], apart := false }
def CrackleShapesSaid : Prop := crackleShapesRow.holds Try.pinned (OpenSpec.ofChange crackleShapesSpec)

/-- ITS FALSE NEIGHBOUR: 'it returns false'. Refute it at one input. -/
def crackleShapesWrong : ChangeSpec := { name := "crackleShapes", fn := fun _ => fun
  | [d1, d2] => { results := [.lit (.bool false)], args := [d1, d2] }
  | _ => none }
def CrackleShapesWrongFalsely : Prop := crackleShapesRow.holds Try.pinned (OpenSpec.ofChange crackleShapesWrong)

/-- 'cantinglaw08.CrackleGrids': WHATEVER THE INPUT: true; the input reads as it did. -/
def crackleGridsSpec : ChangeSpec := { name := "crackleGrids", fn := fun _ => fun
  | [d1, d2] => { results := [.lit (.bool true)], args := [d1, d2] }
  | _ => none }
def crackleGridsRow : OpenClaim := { program := "ytijhbmdbnnmogaa", sum := "db6f2b53fa59a4c1f7e95072903eee46123c8a63784c0e0f9f44ac182a3d9d33", func := "canting/cantinglaw08.CrackleGrids", spec := "crackleGrids", unfollowed := true, recurses := true, named := ["math/bits.overflowError"], apart := false }
def CrackleGridsSaid : Prop := crackleGridsRow.holds Try.pinned (OpenSpec.ofChange crackleGridsSpec)

/-- ITS FALSE NEIGHBOUR: 'it returns false'. Refute it at one input. -/
def crackleGridsWrong : ChangeSpec := { name := "crackleGrids", fn := fun _ => fun
  | [d1, d2] => { results := [.lit (.bool false)], args := [d1, d2] }
  | _ => none }
def CrackleGridsWrongFalsely : Prop := crackleGridsRow.holds Try.pinned (OpenSpec.ofChange crackleGridsWrong)

/-- 'cantinglaw08.CrackleDual': WHATEVER THE INPUT: true; the input reads as it did. -/
def crackleDualSpec : ChangeSpec := { name := "crackleDual", fn := fun _ => fun
  | [d] => { results := [.lit (.bool true)], args := [d] }
  | _ => none }
def crackleDualRow : OpenClaim := { program := "ytijhbmdbnnmogaa", sum := "db6f2b53fa59a4c1f7e95072903eee46123c8a63784c0e0f9f44ac182a3d9d33", func := "canting/cantinglaw08.CrackleDual", spec := "crackleDual", unfollowed := true, recurses := true, named := ["math/bits.overflowError"], apart := false }
def CrackleDualSaid : Prop := crackleDualRow.holds Try.pinned (OpenSpec.ofChange crackleDualSpec)

/-- ITS FALSE NEIGHBOUR: 'it returns false'. Refute it at one input. -/
def crackleDualWrong : ChangeSpec := { name := "crackleDual", fn := fun _ => fun
  | [d] => { results := [.lit (.bool false)], args := [d] }
  | _ => none }
def CrackleDualWrongFalsely : Prop := crackleDualRow.holds Try.pinned (OpenSpec.ofChange crackleDualWrong)

/- THE SECOND FORM. 'bulk': how many values and letters a reading holds, each counted each time it is reached (what is shared counts as often as it is met; a slice's spare places count too). A statement '..UptoSaid' is the law's where the arguments, and the package variables that the reading takes, are together of bulk at most 1048576: NARROWER than '..Said'. Prove '..Said' where nothing that the law and all that it calls make is longer than what came in: it says more and counts as full. Else prove '..UptoSaid'. A law counts once. -/
mutual
def uptoBulk {H : Type} : DataW H → Nat
  | .lit (.string bytes) => bytes.length + 1
  | .lit _ => 1
  | .nil => 1
  | .ptr d => uptoBulk d + 1
  | .slice elems spare => uptoBulkAll elems + uptoBulkAll spare + 1
  | .agg parts => uptoBulkAll parts + 1
  | .iface _ d => uptoBulk d + 1
  | .map entries => uptoBulkEntries entries + 1
  | .held _ => 1
def uptoBulkAll {H : Type} : List (DataW H) → Nat
  | [] => 0
  | d :: r => uptoBulk d + uptoBulkAll r
def uptoBulkEntries {H : Type} : List (Lit × DataW H) → Nat
  | [] => 0
  | x :: r => uptoBulkEntry x + uptoBulkEntries r
def uptoBulkEntry {H : Type} : Lit × DataW H → Nat
  | (.string bytes, d) => bytes.length + uptoBulk d + 1
  | (_, d) => uptoBulk d + 1
 end
def uptoSmall : (H : Type) → List (DataW H) → Bool := fun _ ds => decide (uptoBulkAll ds ≤ 1048576)
def OpenSpec.upto (s : _root_.Go.ChangeSpec) : _root_.Go.OpenSpec := { _root_.Go.OpenSpec.ofChange s with cond := some uptoSmall }

/-- 'cantinglaw08.CrackleNames', WHERE WHAT IT READS IS OF BULK AT MOST 1048576: true; the input reads as it did. -/
def crackleNamesUptoRow : OpenClaim := { program := "ytijhbmdbnnmogaa", sum := "db6f2b53fa59a4c1f7e95072903eee46123c8a63784c0e0f9f44ac182a3d9d33", func := "canting/cantinglaw08.CrackleNames", spec := "crackleNames", unfollowed := true, recurses := true, named := ["math/bits.overflowError"], apart := false, narrowed := true }
def CrackleNamesUptoSaid : Prop := crackleNamesUptoRow.holds Try.pinned (OpenSpec.upto crackleNamesSpec)

/-- 'cantinglaw08.CrackleShapes', WHERE WHAT IT READS IS OF BULK AT MOST 1048576: true; the input reads as it did. -/
def crackleShapesUptoRow : OpenClaim := { program := "ytijhbmdbnnmogaa", sum := "db6f2b53fa59a4c1f7e95072903eee46123c8a63784c0e0f9f44ac182a3d9d33", func := "canting/cantinglaw08.CrackleShapes", spec := "crackleShapes", unfollowed := true, recurses := true, named := ["math/bits.overflowError"], apart := false, narrowed := true }
def CrackleShapesUptoSaid : Prop := crackleShapesUptoRow.holds Try.pinned (OpenSpec.upto crackleShapesSpec)

/-- 'cantinglaw08.CrackleGrids', WHERE WHAT IT READS IS OF BULK AT MOST 1048576: true; the input reads as it did. -/
def crackleGridsUptoRow : OpenClaim := { program := "ytijhbmdbnnmogaa", sum := "db6f2b53fa59a4c1f7e95072903eee46123c8a63784c0e0f9f44ac182a3d9d33", func := "canting/cantinglaw08.CrackleGrids", spec := "crackleGrids", unfollowed := true, recurses := true, named := ["math/bits.overflowError"], apart := false, narrowed := true }
def CrackleGridsUptoSaid : Prop := crackleGridsUptoRow.holds Try.pinned (OpenSpec.upto crackleGridsSpec)

/-- 'cantinglaw08.CrackleDual', WHERE WHAT IT READS IS OF BULK AT MOST 1048576: true; the input reads as it did. -/
def crackleDualUptoRow : OpenClaim := { program := "ytijhbmdbnnmogaa", sum := "db6f2b53fa59a4c1f7e95072903eee46123c8a63784c0e0f9f44ac182a3d9d33", func := "canting/cantinglaw08.CrackleDual", spec := "crackleDual", unfollowed := true, recurses := true, named := ["math/bits.overflowError"], apart := false, narrowed := true }
def CrackleDualUptoSaid : Prop := crackleDualUptoRow.holds Try.pinned (OpenSpec.upto crackleDualSpec)

end Rows
end Go.Proofs.Ytijhbmdbnnmogaa
