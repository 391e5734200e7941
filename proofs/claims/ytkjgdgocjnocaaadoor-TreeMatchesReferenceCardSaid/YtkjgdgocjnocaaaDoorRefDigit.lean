/-
  A stand-in: this layer's program calls no function of the document's own on single digits.
-/
import Derived.Test.YtkjgdgocjnocaaaDoorWalkList
namespace Go.Proofs.YtkjgdgocjnocaaaDoor
end Go.Proofs.YtkjgdgocjnocaaaDoor
