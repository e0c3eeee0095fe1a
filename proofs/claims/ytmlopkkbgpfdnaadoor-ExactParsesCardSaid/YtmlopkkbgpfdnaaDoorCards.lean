/-
  DERIVED. GIVEN WITH THE SEED: THE CARDS: each row of YtmlopkkbgpfdnaaDoorRows.lean that lists a variable, with what it lists TIED to the program's text (the seventh form; the later family's looks); each row that meets fmt, with fmt's text TOLD by the authors' own Lean function (tested against real Go, not proved from fmt's source: count such statements apart). THE CARD IS WHAT COUNTS. Prove the row's statement (the work); the ties are given (YtmlopkkbgpfdnaaDoorTie.lean); close each card by the builder's one call (the guide's Derived/Test/ToyasCard.lean, 'card_holds'). Laid BY PROGRAM, IN A SANDBOX (cutbox-door.mjs). By AI agents, Wed Nov 11 2026. No macro, syntax, notation, axiom, sorry.
-/
import Derived.Test.YtmlopkkbgpfdnaaDoorRows
import GoSem.ClaimSeven
namespace Go.Proofs.YtmlopkkbgpfdnaaDoor
namespace Rows

/-- THE TIED CARD OF 'cantinglaw01.ExactPrints'. -/
def exactPrintsCard : Claim7 := { stood := { row := exactPrintsRow, standIns := [], harness := (true, "3bfeebd31a70beeaf5968a958d99f753caf7e109cb68eb256d374db835aeeb4e"), looks := false }, kinds := [], alts := [], laidByText := true, laidKinds := [.data, .data, .data], laidTests := true, laidLooks := .later }
def ExactPrintsCardSaid : Prop := Claim7.holds Tryd.pinned (.plain (OpenSpec.ofChange exactPrintsSpec)) exactPrintsCard

/-- THE TIED CARD OF 'cantinglaw01.ExactParses'. -/
def exactParsesCard : Claim7 := { stood := { row := exactParsesRow, standIns := [], harness := (true, "3bfeebd31a70beeaf5968a958d99f753caf7e109cb68eb256d374db835aeeb4e"), looks := false }, kinds := [], alts := [], laidByText := true, laidKinds := [.data, .data, .data], laidTests := true, laidLooks := .later }
def ExactParsesCardSaid : Prop := Claim7.holds Tryd.pinned (.plain (OpenSpec.ofChange exactParsesSpec)) exactParsesCard

/-- THE SECOND FORM's CARD OF 'cantinglaw01.ExactPrints'. -/
def exactPrintsUptoCard : Claim7 := { stood := { row := exactPrintsUptoRow, standIns := [], harness := (true, "3bfeebd31a70beeaf5968a958d99f753caf7e109cb68eb256d374db835aeeb4e"), looks := false }, kinds := [], alts := [], laidByText := true, laidKinds := [.data, .data, .data], laidTests := true, laidLooks := .later }
def ExactPrintsUptoCardSaid : Prop := Claim7.holds Tryd.pinned (.plain (OpenSpec.upto exactPrintsSpec)) exactPrintsUptoCard

/-- THE SECOND FORM's CARD OF 'cantinglaw01.ExactParses'. -/
def exactParsesUptoCard : Claim7 := { stood := { row := exactParsesUptoRow, standIns := [], harness := (true, "3bfeebd31a70beeaf5968a958d99f753caf7e109cb68eb256d374db835aeeb4e"), looks := false }, kinds := [], alts := [], laidByText := true, laidKinds := [.data, .data, .data], laidTests := true, laidLooks := .later }
def ExactParsesUptoCardSaid : Prop := Claim7.holds Tryd.pinned (.plain (OpenSpec.upto exactParsesSpec)) exactParsesUptoCard
end Rows
end Go.Proofs.YtmlopkkbgpfdnaaDoor
