/-
  The law RuleAlternatives, whose examples hold.
-/
import Derived.Test.YtllhonjhjhajjabDoorLawAlts
import Derived.Test.YtllhonjhjhajjabDoorHead7A
namespace Go.Proofs.YtllhonjhjhajjabDoor
open Go.RowKit
theorem alts_walk (a : ByteArray) (r : Int) (w : World) (_ : a.size ≤ maxLen) (hr : (Lit.int .u16 r).wf = true) (_ : Env w) :
    Calls Tryd.prog 3 #[.string a, .int .u16 r] w fun e w' => e = .returned (.bool true) ∧ Below w.heap.size w w' := by
  obtain ⟨h0, h1⟩ := u16_bounds hr
  obtain ⟨n, rfl⟩ : ∃ n : Nat, r = n := ⟨r.toNat, by omega⟩
  exact alts_walk_of head_any a n (by omega) w
end Go.Proofs.YtllhonjhjhajjabDoor
