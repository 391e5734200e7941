/-
  DERIVED. GIVEN WITH THE SEED: THE CARDS: each row of YtlfjdohjfmfcdabDoorRows.lean that lists a variable, with what it lists TIED to the program's text (the seventh form; the later family's looks); each row that meets fmt, with fmt's text TOLD by the authors' own Lean function (tested against real Go, not proved from fmt's source: count such statements apart). THE CARD IS WHAT COUNTS. Prove the row's statement (the work); the ties are given (YtlfjdohjfmfcdabDoorTie.lean); close each card by the builder's one call (the guide's Derived/Test/ToyasCard.lean, 'card_holds'). Laid BY PROGRAM, IN A SANDBOX (cutbox-door.mjs). By AI agents, Wed Nov 11 2026. No macro, syntax, notation, axiom, sorry.
-/
import Derived.Test.YtlfjdohjfmfcdabDoorRows
import GoSem.ClaimSeven
namespace Go.Proofs.YtlfjdohjfmfcdabDoor
namespace Rows

/-- THE TIED CARD OF 'foyerlaw07.RuleMatchesReference'. -/
def ruleMatchesReferenceCard : Claim7 := { stood := { row := ruleMatchesReferenceRow, standIns := [], harness := (true, "75e2585ad0a991eb39f0d16038db653173c004ffb02394185637ac889e9e47ba"), looks := true }, kinds := [], alts := [], laidByText := true, laidKinds := [.data, .data, .data, .sentinel, .sentinel], laidTests := true, laidLooks := .later }
def RuleMatchesReferenceCardSaid : Prop := Claim7.holds Tryd.pinned (.plain (OpenSpec.ofChange ruleMatchesReferenceSpec)) ruleMatchesReferenceCard

/-- THE SECOND FORM's CARD OF 'foyerlaw07.RuleMatchesReference'. -/
def ruleMatchesReferenceUptoCard : Claim7 := { stood := { row := ruleMatchesReferenceUptoRow, standIns := [], harness := (true, "75e2585ad0a991eb39f0d16038db653173c004ffb02394185637ac889e9e47ba"), looks := true }, kinds := [], alts := [], laidByText := true, laidKinds := [.data, .data, .data, .sentinel, .sentinel], laidTests := true, laidLooks := .later }
def RuleMatchesReferenceUptoCardSaid : Prop := Claim7.holds Tryd.pinned (.plain (OpenSpec.upto ruleMatchesReferenceSpec)) ruleMatchesReferenceUptoCard
end Rows
end Go.Proofs.YtlfjdohjfmfcdabDoor
