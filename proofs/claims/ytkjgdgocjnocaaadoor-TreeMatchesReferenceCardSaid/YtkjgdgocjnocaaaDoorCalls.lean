/-
  The calls of digest's functions, their values under names.
-/
import Derived.Test.YtkjgdgocjnocaaaDoorWalkList
namespace Go.Proofs.YtkjgdgocjnocaaaDoor
open Go.RowKit Go.Sort Foyer.Digest

theorem list_c (ls : List (List UInt8)) (m : List UInt8) (k : Nat) (hk : ls.length = k) (h : listSum ls = m) (p : Option Addr) (cap : Nat) (w : World) (hr : RdS w p ls) (hl : k ≤ 1000) (ht : ∀ t ∈ ls, t.length ≤ 1000000) (hE : Env w) :
    Calls Tryd.prog 21 #[.slice p k cap] w fun e w' => e = .returned (.string ⟨m.toArray⟩) ∧ Below w.heap.size w w' := by
  rw [← h, ← hk]; exact list_any ls p cap w hr (by omega) ht hE
end Go.Proofs.YtkjgdgocjnocaaaDoor
