/-
  The document's own digest of a text, in the form that the walks take.
-/
import Derived.Test.YtkjgdgocjnocaaaDoorRefSum
namespace Go.Proofs.YtkjgdgocjnocaaaDoor
open Go.RowKit Go.Sort Foyer.Digest

theorem rsum_l (c : List UInt8) (hs : c.length ≤ 1000000000000) (w : World) :
    Calls Tryd.prog 41 #[.string ⟨c.toArray⟩] w fun e w' => e = .returned (.string ⟨(sum c).toArray⟩) ∧ w = w' :=
  rsum_any ⟨c.toArray⟩ (by rw [size_of_list]; exact hs) w
end Go.Proofs.YtkjgdgocjnocaaaDoor
