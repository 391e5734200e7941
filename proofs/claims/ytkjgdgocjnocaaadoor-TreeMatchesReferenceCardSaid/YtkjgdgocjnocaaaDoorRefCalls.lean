/-
  The calls of the document's own functions of layer 2, their values under names.
-/
import Derived.Test.YtkjgdgocjnocaaaDoorRefJoin
namespace Go.Proofs.YtkjgdgocjnocaaaDoor
open Go.RowKit Go.Sort Foyer.Digest

theorem rlist_c (ls : List (List UInt8)) (m : List UInt8) (k : Nat) (hk : ls.length = k) (h : listSum ls = m) (p : Option Addr) (cap : Nat) (w : World) (hr : RdS w p ls) (hl : k ≤ 1000) (ht : ∀ t ∈ ls, t.length ≤ 1000000) :
    Calls Tryd.prog 27 #[.slice p k cap] w fun e w' => e = .returned (.string ⟨m.toArray⟩) ∧ Below w.heap.size w w' := by
  rw [← h, ← hk]; exact rlist_any ls p cap w hr (by omega) ht
end Go.Proofs.YtkjgdgocjnocaaaDoor
