/-
  What the rows list: the walks ask nothing of it.
-/
import Derived.Test.YtlfjdohjfmfcdaaGreatDoorTie
import Derived.Test.YtlfjdohjfmfcdaaGreatDoorCards
import Derived.Test.YtlfjdohjfmfcdaaGreatDoorBase
import Derived.ProofKit
import Derived.OpenShut
import Derived.LaidMore
import Derived.Stop.LaidErr
import Derived.Deep.DeepHandedRow
import Derived.Deep.DeepWitnessRowRef
import Derived.MakeChecks
import Derived.Carry
namespace Go.Proofs.YtlfjdohjfmfcdaaGreatDoor
open Go.ChangeShapes Go.WideShapes Go.ChangeAt Go.RowKit

theorem own : ownKnob Tryz.prog.godebug = none := by kernel_rfl
theorem laidOut : laidOutB Tryz.prog = true := by kernel_rfl
/-- What the walks ask of the world. -/
def Env (_ : World) : Prop := True
theorem env_of {L : List (String × DataW Unit)} {W : World} (_ : laidMetH Tryz.prog L W) (_ : W.ShapedOpen Tryz.prog) : Env W := trivial
end Go.Proofs.YtlfjdohjfmfcdaaGreatDoor
