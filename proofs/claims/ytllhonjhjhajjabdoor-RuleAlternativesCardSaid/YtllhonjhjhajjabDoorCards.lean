/-
  DERIVED. GIVEN WITH THE SEED: THE CARDS: each row of YtllhonjhjhajjabDoorRows.lean that lists a variable, with what it lists TIED to the program's text (the seventh form; the later family's looks); each row that meets fmt, with fmt's text TOLD by the authors' own Lean function (tested against real Go, not proved from fmt's source: count such statements apart). THE CARD IS WHAT COUNTS. Prove the row's statement (the work); the ties are given (YtllhonjhjhajjabDoorTie.lean); close each card by the builder's one call (the guide's Derived/Test/ToyasCard.lean, 'card_holds'). Laid BY PROGRAM, IN A SANDBOX (cutbox-door.mjs). By AI agents, Wed Nov 11 2026. No macro, syntax, notation, axiom, sorry.
-/
import Derived.Test.YtllhonjhjhajjabDoorRows
import GoSem.ClaimSeven
namespace Go.Proofs.YtllhonjhjhajjabDoor
namespace Rows

/-- THE TIED CARD OF 'foyerlaw07.RuleAlternatives'. -/
def ruleAlternativesCard : Claim7 := { stood := { row := ruleAlternativesRow, standIns := [], harness := (true, "b8441d9c9fb8425f6a0a1a1160b12a6e90d5895a9742c77b4b8bde7ee41d0f28"), looks := true }, kinds := [], alts := [], laidByText := true, laidKinds := [.data, .data, .data, .sentinel, .sentinel], laidTests := true, laidLooks := .later }
def RuleAlternativesCardSaid : Prop := Claim7.holds Tryd.pinned (.plain (OpenSpec.ofChange ruleAlternativesSpec)) ruleAlternativesCard

/-- THE SECOND FORM's CARD OF 'foyerlaw07.RuleAlternatives'. -/
def ruleAlternativesUptoCard : Claim7 := { stood := { row := ruleAlternativesUptoRow, standIns := [], harness := (true, "b8441d9c9fb8425f6a0a1a1160b12a6e90d5895a9742c77b4b8bde7ee41d0f28"), looks := true }, kinds := [], alts := [], laidByText := true, laidKinds := [.data, .data, .data, .sentinel, .sentinel], laidTests := true, laidLooks := .later }
def RuleAlternativesUptoCardSaid : Prop := Claim7.holds Tryd.pinned (.plain (OpenSpec.upto ruleAlternativesSpec)) ruleAlternativesUptoCard
end Rows
end Go.Proofs.YtllhonjhjhajjabDoor
