/-
  What the rows list: the walks ask nothing of it.
-/
import Derived.Test.YtlfjdohjfmfcdabDoorTie
import Derived.Test.YtlfjdohjfmfcdabDoorCards
import Derived.Test.YtlfjdohjfmfcdabDoorBase
import Derived.ProofKit
import Derived.OpenShut
import Derived.LaidMore
import Derived.Stop.LaidErr
import Derived.Deep.DeepHandedRow
import Derived.Deep.DeepWitnessRowRef
import Derived.MakeChecks
import Derived.Carry
namespace Go.Proofs.YtlfjdohjfmfcdabDoor
open Go.ChangeShapes Go.WideShapes Go.ChangeAt Go.RowKit

theorem own : ownKnob Tryd.prog.godebug = none := by kernel_rfl
theorem laidOut : laidOutB Tryd.prog = true := by kernel_rfl
/-- What the walks ask of the world. -/
def Env (_ : World) : Prop := True
theorem env_of {L : List (String × DataW Unit)} {W : World} (_ : laidMetH Tryd.prog L W) (_ : W.ShapedOpen Tryd.prog) : Env W := trivial
end Go.Proofs.YtlfjdohjfmfcdabDoor
