/-
  The digest of a text, in the form that the walks take (this layer calls neither Is nor Chain).
-/
import Derived.Test.YtkjgdgocjnocaaaDoorWalkSum
namespace Go.Proofs.YtkjgdgocjnocaaaDoor
open Go.RowKit Go.Sort Foyer.Digest

theorem HexTab.below {w w' : World} (h : HexTab w) (hb : Below w.heap.size w w') : HexTab w' := fun d hd => by
  have h1 := h d hd
  rw [hb.cell (lt_of_cell h1)]; exact h1
theorem sum_l (c : List UInt8) (hs : c.length ≤ 1000000000000) (w : World) (hT : HexTab w) :
    Calls Tryd.prog 37 #[.string ⟨c.toArray⟩] w fun e w' => e = .returned (.string ⟨(sum c).toArray⟩) ∧ Below w.heap.size w w' :=
  sum_any ⟨c.toArray⟩ (by rw [size_of_list]; exact hs) w hT
end Go.Proofs.YtkjgdgocjnocaaaDoor
