/-
  DERIVED. GIVEN WITH THE SEED: THE CARDS: each row of YtlfjdohjfmfcdaaGreatDoorRows.lean that lists a variable, with what it lists TIED to the program's text (the seventh form; the later family's looks); each row that meets fmt, with fmt's text TOLD by the authors' own Lean function (tested against real Go, not proved from fmt's source: count such statements apart). THE CARD IS WHAT COUNTS. Prove the row's statement (the work); the ties are given (YtlfjdohjfmfcdaaGreatDoorTie.lean); close each card by the builder's one call (the guide's Derived/Test/ToyasCard.lean, 'card_holds'). Laid BY PROGRAM, IN A SANDBOX (cutbox-door.mjs). By AI agents, Wed Nov 11 2026. No macro, syntax, notation, axiom, sorry.
-/
import Derived.Test.YtlfjdohjfmfcdaaGreatDoorRows
import GoSem.ClaimSeven
namespace Go.Proofs.YtlfjdohjfmfcdaaGreatDoor
namespace Rows

/-- THE TIED CARD OF 'foyerlaw06.PlanMatchesReference'. -/
def planMatchesReferenceCard : Claim7 := { stood := { row := planMatchesReferenceRow, standIns := [], harness := (true, "867720dfd3a164be62067b53ed8b57512edcc6f72559e4b990bfdf80465ed748"), looks := true }, kinds := [], alts := [], laidByText := true, laidKinds := [.data, .data, .data, .sentinel, .sentinel], laidTests := true, laidLooks := .later }
def PlanMatchesReferenceCardSaid : Prop := Claim7.holds Tryz.pinned (.plain (OpenSpec.ofChange planMatchesReferenceSpec)) planMatchesReferenceCard

/-- THE SECOND FORM's CARD OF 'foyerlaw06.PlanMatchesReference'. -/
def planMatchesReferenceUptoCard : Claim7 := { stood := { row := planMatchesReferenceUptoRow, standIns := [], harness := (true, "867720dfd3a164be62067b53ed8b57512edcc6f72559e4b990bfdf80465ed748"), looks := true }, kinds := [], alts := [], laidByText := true, laidKinds := [.data, .data, .data, .sentinel, .sentinel], laidTests := true, laidLooks := .later }
def PlanMatchesReferenceUptoCardSaid : Prop := Claim7.holds Tryz.pinned (.plain (OpenSpec.upto planMatchesReferenceSpec)) planMatchesReferenceUptoCard
end Rows
end Go.Proofs.YtlfjdohjfmfcdaaGreatDoor
