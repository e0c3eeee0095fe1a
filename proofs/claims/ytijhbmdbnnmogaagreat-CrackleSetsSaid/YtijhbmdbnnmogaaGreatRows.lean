/-
  No cell of these rows narrows 'for every input' (looked for: loops, veiled, ifaces, maps, wideKeys, modest, calm, conditions, laid).
  DERIVED. THE GIVEN ROWS OF THIS SEAT. 8 by the template 'for every input the law returns true; each argument reads behind the call as it read before'; 0 by the template 'total and deterministic' (their statements: YtijhbmdbnnmogaaGreatTotals.lean).
  GIVEN WITH THE SEED: the statements are not yours to turn. If you find one false, say at which input.
  Laid BY PROGRAM, IN A SANDBOX (cutbox-rows.mjs): the forced cells as the released guide's own fill.sh prints them over the translation b2658bd3f77b0b31… (all of the seat's roots in one cut). By AI agents, Wed Nov 11 2026. No macro, syntax, notation, axiom, sorry.
-/
import Derived.Test.YtijhbmdbnnmogaaGreatChecked
import GoSem.Claim
import GoSem.ClaimJoined
import GoSem.ClaimMapViews
import Derived.JoinedTies
import Derived.KernelRfl
namespace Go.Proofs.YtijhbmdbnnmogaaGreat
/- THE CELL 'sum', in the pinned program and in every row, IS THE sha256 OF THE DUMP (.gsa) THAT YtijhbmdbnnmogaaGreatProg.lean LOADS. Nothing in Lean hashes anything: it is a label: what it is worth is what the hold of that sum in a sandbox is worth. -/
noncomputable def Tryz.pinned : Pinned := { name := "ytijhbmdbnnmogaagreat", sum := "b2658bd3f77b0b31dd5f0353aeb517ddb2ce7def5c7d1e2986098064e1205811", checked := Tryz.checked }
namespace Rows
def none {H : Type} : Left H := { results := [], args := [] }

/-- 'cantinglaw08.CrackleForests': WHATEVER THE INPUT: true; the input reads as it did. -/
def crackleForestsSpec : ChangeSpec := { name := "crackleForests", fn := fun _ => fun
  | [d1, d2] => { results := [.lit (.bool true)], args := [d1, d2] }
  | _ => none }
def crackleForestsRow : OpenClaim := { program := "ytijhbmdbnnmogaagreat", sum := "b2658bd3f77b0b31dd5f0353aeb517ddb2ce7def5c7d1e2986098064e1205811", func := "canting/cantinglaw08.CrackleForests", spec := "crackleForests", unfollowed := true, recurses := true, named := ["math/bits.overflowError"], apart := false }
def CrackleForestsSaid : Prop := crackleForestsRow.holds Tryz.pinned (OpenSpec.ofChange crackleForestsSpec)

/-- ITS FALSE NEIGHBOUR: 'it returns false'. Refute it at one input. -/
def crackleForestsWrong : ChangeSpec := { name := "crackleForests", fn := fun _ => fun
  | [d1, d2] => { results := [.lit (.bool false)], args := [d1, d2] }
  | _ => none }
def CrackleForestsWrongFalsely : Prop := crackleForestsRow.holds Tryz.pinned (OpenSpec.ofChange crackleForestsWrong)

/-- 'cantinglaw08.CrackleSets': WHATEVER THE INPUT: true; the input reads as it did. -/
def crackleSetsSpec : ChangeSpec := { name := "crackleSets", fn := fun _ => fun
  | [d] => { results := [.lit (.bool true)], args := [d] }
  | _ => none }
def crackleSetsRow : OpenClaim := { program := "ytijhbmdbnnmogaagreat", sum := "b2658bd3f77b0b31dd5f0353aeb517ddb2ce7def5c7d1e2986098064e1205811", func := "canting/cantinglaw08.CrackleSets", spec := "crackleSets", unfollowed := true, recurses := true, named := ["math/bits.overflowError"], apart := false }
def CrackleSetsSaid : Prop := crackleSetsRow.holds Tryz.pinned (OpenSpec.ofChange crackleSetsSpec)

/-- ITS FALSE NEIGHBOUR: 'it returns false'. Refute it at one input. -/
def crackleSetsWrong : ChangeSpec := { name := "crackleSets", fn := fun _ => fun
  | [d] => { results := [.lit (.bool false)], args := [d] }
  | _ => none }
def CrackleSetsWrongFalsely : Prop := crackleSetsRow.holds Tryz.pinned (OpenSpec.ofChange crackleSetsWrong)

/-- 'cantinglaw08.CrackleShortest': WHATEVER THE INPUT: true; the input reads as it did. -/
def crackleShortestSpec : ChangeSpec := { name := "crackleShortest", fn := fun _ => fun
  | [d] => { results := [.lit (.bool true)], args := [d] }
  | _ => none }
def crackleShortestRow : OpenClaim := { program := "ytijhbmdbnnmogaagreat", sum := "b2658bd3f77b0b31dd5f0353aeb517ddb2ce7def5c7d1e2986098064e1205811", func := "canting/cantinglaw08.CrackleShortest", spec := "crackleShortest", unfollowed := true, recurses := true, named := ["math/bits.overflowError"], apart := false }
def CrackleShortestSaid : Prop := crackleShortestRow.holds Tryz.pinned (OpenSpec.ofChange crackleShortestSpec)

/-- ITS FALSE NEIGHBOUR: 'it returns false'. Refute it at one input. -/
def crackleShortestWrong : ChangeSpec := { name := "crackleShortest", fn := fun _ => fun
  | [d] => { results := [.lit (.bool false)], args := [d] }
  | _ => none }
def CrackleShortestWrongFalsely : Prop := crackleShortestRow.holds Tryz.pinned (OpenSpec.ofChange crackleShortestWrong)

/-- 'cantinglaw08.CrackleLeast': WHATEVER THE INPUT: true; the input reads as it did. -/
def crackleLeastSpec : ChangeSpec := { name := "crackleLeast", fn := fun _ => fun
  | [d] => { results := [.lit (.bool true)], args := [d] }
  | _ => none }
def crackleLeastRow : OpenClaim := { program := "ytijhbmdbnnmogaagreat", sum := "b2658bd3f77b0b31dd5f0353aeb517ddb2ce7def5c7d1e2986098064e1205811", func := "canting/cantinglaw08.CrackleLeast", spec := "crackleLeast", unfollowed := true, recurses := true, named := ["math/bits.overflowError"], apart := false }
def CrackleLeastSaid : Prop := crackleLeastRow.holds Tryz.pinned (OpenSpec.ofChange crackleLeastSpec)

/-- ITS FALSE NEIGHBOUR: 'it returns false'. Refute it at one input. -/
def crackleLeastWrong : ChangeSpec := { name := "crackleLeast", fn := fun _ => fun
  | [d] => { results := [.lit (.bool false)], args := [d] }
  | _ => none }
def CrackleLeastWrongFalsely : Prop := crackleLeastRow.holds Tryz.pinned (OpenSpec.ofChange crackleLeastWrong)

/-- 'cantinglaw08.CracklePotentials': WHATEVER THE INPUT: true; the input reads as it did. -/
def cracklePotentialsSpec : ChangeSpec := { name := "cracklePotentials", fn := fun _ => fun
  | [d1, d2, d3] => { results := [.lit (.bool true)], args := [d1, d2, d3] }
  | _ => none }
def cracklePotentialsRow : OpenClaim := { program := "ytijhbmdbnnmogaagreat", sum := "b2658bd3f77b0b31dd5f0353aeb517ddb2ce7def5c7d1e2986098064e1205811", func := "canting/cantinglaw08.CracklePotentials", spec := "cracklePotentials", unfollowed := true, recurses := true, named := ["math/bits.overflowError"], apart := false }
def CracklePotentialsSaid : Prop := cracklePotentialsRow.holds Tryz.pinned (OpenSpec.ofChange cracklePotentialsSpec)

/-- ITS FALSE NEIGHBOUR: 'it returns false'. Refute it at one input. -/
def cracklePotentialsWrong : ChangeSpec := { name := "cracklePotentials", fn := fun _ => fun
  | [d1, d2, d3] => { results := [.lit (.bool false)], args := [d1, d2, d3] }
  | _ => none }
def CracklePotentialsWrongFalsely : Prop := cracklePotentialsRow.holds Tryz.pinned (OpenSpec.ofChange cracklePotentialsWrong)

/-- 'cantinglaw08.CrackleResists': WHATEVER THE INPUT: true; the input reads as it did. -/
def crackleResistsSpec : ChangeSpec := { name := "crackleResists", fn := fun _ => fun
  | [d1, d2, d3, d4] => { results := [.lit (.bool true)], args := [d1, d2, d3, d4] }
  | _ => none }
def crackleResistsRow : OpenClaim := { program := "ytijhbmdbnnmogaagreat", sum := "b2658bd3f77b0b31dd5f0353aeb517ddb2ce7def5c7d1e2986098064e1205811", func := "canting/cantinglaw08.CrackleResists", spec := "crackleResists", unfollowed := true, recurses := true, named := ["math/bits.overflowError"], apart := false }
def CrackleResistsSaid : Prop := crackleResistsRow.holds Tryz.pinned (OpenSpec.ofChange crackleResistsSpec)

/-- ITS FALSE NEIGHBOUR: 'it returns false'. Refute it at one input. -/
def crackleResistsWrong : ChangeSpec := { name := "crackleResists", fn := fun _ => fun
  | [d1, d2, d3, d4] => { results := [.lit (.bool false)], args := [d1, d2, d3, d4] }
  | _ => none }
def CrackleResistsWrongFalsely : Prop := crackleResistsRow.holds Tryz.pinned (OpenSpec.ofChange crackleResistsWrong)

/-- 'cantinglaw08.CrackleEnergies': WHATEVER THE INPUT: true; the input reads as it did. -/
def crackleEnergiesSpec : ChangeSpec := { name := "crackleEnergies", fn := fun _ => fun
  | [d1, d2, d3] => { results := [.lit (.bool true)], args := [d1, d2, d3] }
  | _ => none }
def crackleEnergiesRow : OpenClaim := { program := "ytijhbmdbnnmogaagreat", sum := "b2658bd3f77b0b31dd5f0353aeb517ddb2ce7def5c7d1e2986098064e1205811", func := "canting/cantinglaw08.CrackleEnergies", spec := "crackleEnergies", unfollowed := true, recurses := true, named := ["math/bits.overflowError"], apart := false }
def CrackleEnergiesSaid : Prop := crackleEnergiesRow.holds Tryz.pinned (OpenSpec.ofChange crackleEnergiesSpec)

/-- ITS FALSE NEIGHBOUR: 'it returns false'. Refute it at one input. -/
def crackleEnergiesWrong : ChangeSpec := { name := "crackleEnergies", fn := fun _ => fun
  | [d1, d2, d3] => { results := [.lit (.bool false)], args := [d1, d2, d3] }
  | _ => none }
def CrackleEnergiesWrongFalsely : Prop := crackleEnergiesRow.holds Tryz.pinned (OpenSpec.ofChange crackleEnergiesWrong)

/-- 'cantinglaw08.CrackleWhitney': WHATEVER THE INPUT: true; the input reads as it did. -/
def crackleWhitneySpec : ChangeSpec := { name := "crackleWhitney", fn := fun _ => fun
  | [d] => { results := [.lit (.bool true)], args := [d] }
  | _ => none }
def crackleWhitneyRow : OpenClaim := { program := "ytijhbmdbnnmogaagreat", sum := "b2658bd3f77b0b31dd5f0353aeb517ddb2ce7def5c7d1e2986098064e1205811", func := "canting/cantinglaw08.CrackleWhitney", spec := "crackleWhitney", unfollowed := true, recurses := true, named := ["math/bits.overflowError"], apart := false }
def CrackleWhitneySaid : Prop := crackleWhitneyRow.holds Tryz.pinned (OpenSpec.ofChange crackleWhitneySpec)

/-- ITS FALSE NEIGHBOUR: 'it returns false'. Refute it at one input. -/
def crackleWhitneyWrong : ChangeSpec := { name := "crackleWhitney", fn := fun _ => fun
  | [d] => { results := [.lit (.bool false)], args := [d] }
  | _ => none }
def CrackleWhitneyWrongFalsely : Prop := crackleWhitneyRow.holds Tryz.pinned (OpenSpec.ofChange crackleWhitneyWrong)

/- THE SECOND FORM. 'bulk': how many values and letters a reading holds, each counted each time it is reached (what is shared counts as often as it is met; a slice's spare places count too). A statement '..UptoSaid' is the law's where the arguments, and the package variables that the reading takes, are together of bulk at most 1048576: NARROWER than '..Said'. Prove '..Said' where nothing that the law and all that it calls make is longer than what came in: it says more and counts as full. Else prove '..UptoSaid'. A law counts once. -/
mutual
def uptoBulk {H : Type} : DataW H → Nat
  | .lit (.string bytes) => bytes.length + 1
  | .lit _ => 1
  | .nil => 1
  | .ptr d => uptoBulk d + 1
  | .slice elems spare => uptoBulkAll elems + uptoBulkAll spare + 1
  | .agg parts => uptoBulkAll parts + 1
  | .iface _ d => uptoBulk d + 1
  | .map entries => uptoBulkEntries entries + 1
  | .held _ => 1
def uptoBulkAll {H : Type} : List (DataW H) → Nat
  | [] => 0
  | d :: r => uptoBulk d + uptoBulkAll r
def uptoBulkEntries {H : Type} : List (Lit × DataW H) → Nat
  | [] => 0
  | x :: r => uptoBulkEntry x + uptoBulkEntries r
def uptoBulkEntry {H : Type} : Lit × DataW H → Nat
  | (.string bytes, d) => bytes.length + uptoBulk d + 1
  | (_, d) => uptoBulk d + 1
 end
def uptoSmall : (H : Type) → List (DataW H) → Bool := fun _ ds => decide (uptoBulkAll ds ≤ 1048576)
def OpenSpec.upto (s : _root_.Go.ChangeSpec) : _root_.Go.OpenSpec := { _root_.Go.OpenSpec.ofChange s with cond := some uptoSmall }

/-- 'cantinglaw08.CrackleForests', WHERE WHAT IT READS IS OF BULK AT MOST 1048576: true; the input reads as it did. -/
def crackleForestsUptoRow : OpenClaim := { program := "ytijhbmdbnnmogaagreat", sum := "b2658bd3f77b0b31dd5f0353aeb517ddb2ce7def5c7d1e2986098064e1205811", func := "canting/cantinglaw08.CrackleForests", spec := "crackleForests", unfollowed := true, recurses := true, named := ["math/bits.overflowError"], apart := false, narrowed := true }
def CrackleForestsUptoSaid : Prop := crackleForestsUptoRow.holds Tryz.pinned (OpenSpec.upto crackleForestsSpec)

/-- 'cantinglaw08.CrackleSets', WHERE WHAT IT READS IS OF BULK AT MOST 1048576: true; the input reads as it did. -/
def crackleSetsUptoRow : OpenClaim := { program := "ytijhbmdbnnmogaagreat", sum := "b2658bd3f77b0b31dd5f0353aeb517ddb2ce7def5c7d1e2986098064e1205811", func := "canting/cantinglaw08.CrackleSets", spec := "crackleSets", unfollowed := true, recurses := true, named := ["math/bits.overflowError"], apart := false, narrowed := true }
def CrackleSetsUptoSaid : Prop := crackleSetsUptoRow.holds Tryz.pinned (OpenSpec.upto crackleSetsSpec)

/-- 'cantinglaw08.CrackleShortest', WHERE WHAT IT READS IS OF BULK AT MOST 1048576: true; the input reads as it did. -/
def crackleShortestUptoRow : OpenClaim := { program := "ytijhbmdbnnmogaagreat", sum := "b2658bd3f77b0b31dd5f0353aeb517ddb2ce7def5c7d1e2986098064e1205811", func := "canting/cantinglaw08.CrackleShortest", spec := "crackleShortest", unfollowed := true, recurses := true, named := ["math/bits.overflowError"], apart := false, narrowed := true }
def CrackleShortestUptoSaid : Prop := crackleShortestUptoRow.holds Tryz.pinned (OpenSpec.upto crackleShortestSpec)

/-- 'cantinglaw08.CrackleLeast', WHERE WHAT IT READS IS OF BULK AT MOST 1048576: true; the input reads as it did. -/
def crackleLeastUptoRow : OpenClaim := { program := "ytijhbmdbnnmogaagreat", sum := "b2658bd3f77b0b31dd5f0353aeb517ddb2ce7def5c7d1e2986098064e1205811", func := "canting/cantinglaw08.CrackleLeast", spec := "crackleLeast", unfollowed := true, recurses := true, named := ["math/bits.overflowError"], apart := false, narrowed := true }
def CrackleLeastUptoSaid : Prop := crackleLeastUptoRow.holds Tryz.pinned (OpenSpec.upto crackleLeastSpec)

/-- 'cantinglaw08.CracklePotentials', WHERE WHAT IT READS IS OF BULK AT MOST 1048576: true; the input reads as it did. -/
def cracklePotentialsUptoRow : OpenClaim := { program := "ytijhbmdbnnmogaagreat", sum := "b2658bd3f77b0b31dd5f0353aeb517ddb2ce7def5c7d1e2986098064e1205811", func := "canting/cantinglaw08.CracklePotentials", spec := "cracklePotentials", unfollowed := true, recurses := true, named := ["math/bits.overflowError"], apart := false, narrowed := true }
def CracklePotentialsUptoSaid : Prop := cracklePotentialsUptoRow.holds Tryz.pinned (OpenSpec.upto cracklePotentialsSpec)

/-- 'cantinglaw08.CrackleResists', WHERE WHAT IT READS IS OF BULK AT MOST 1048576: true; the input reads as it did. -/
def crackleResistsUptoRow : OpenClaim := { program := "ytijhbmdbnnmogaagreat", sum := "b2658bd3f77b0b31dd5f0353aeb517ddb2ce7def5c7d1e2986098064e1205811", func := "canting/cantinglaw08.CrackleResists", spec := "crackleResists", unfollowed := true, recurses := true, named := ["math/bits.overflowError"], apart := false, narrowed := true }
def CrackleResistsUptoSaid : Prop := crackleResistsUptoRow.holds Tryz.pinned (OpenSpec.upto crackleResistsSpec)

/-- 'cantinglaw08.CrackleEnergies', WHERE WHAT IT READS IS OF BULK AT MOST 1048576: true; the input reads as it did. -/
def crackleEnergiesUptoRow : OpenClaim := { program := "ytijhbmdbnnmogaagreat", sum := "b2658bd3f77b0b31dd5f0353aeb517ddb2ce7def5c7d1e2986098064e1205811", func := "canting/cantinglaw08.CrackleEnergies", spec := "crackleEnergies", unfollowed := true, recurses := true, named := ["math/bits.overflowError"], apart := false, narrowed := true }
def CrackleEnergiesUptoSaid : Prop := crackleEnergiesUptoRow.holds Tryz.pinned (OpenSpec.upto crackleEnergiesSpec)

/-- 'cantinglaw08.CrackleWhitney', WHERE WHAT IT READS IS OF BULK AT MOST 1048576: true; the input reads as it did. -/
def crackleWhitneyUptoRow : OpenClaim := { program := "ytijhbmdbnnmogaagreat", sum := "b2658bd3f77b0b31dd5f0353aeb517ddb2ce7def5c7d1e2986098064e1205811", func := "canting/cantinglaw08.CrackleWhitney", spec := "crackleWhitney", unfollowed := true, recurses := true, named := ["math/bits.overflowError"], apart := false, narrowed := true }
def CrackleWhitneyUptoSaid : Prop := crackleWhitneyUptoRow.holds Tryz.pinned (OpenSpec.upto crackleWhitneySpec)

end Rows
end Go.Proofs.YtijhbmdbnnmogaaGreat
