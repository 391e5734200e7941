/-
  The law RuleJoins, whose examples hold.
-/
import Derived.Test.YtllhonjhjhajjaaDoorLawJoins
import Derived.Test.YtllhonjhjhajjaaDoorHead7
namespace Go.Proofs.YtllhonjhjhajjaaDoor
open Go.RowKit
theorem joins_walk (a b : ByteArray) (w : World) (_ : a.size ≤ maxLen) (_ : b.size ≤ maxLen) (_ : Env w) :
    Calls Tryd.prog 4 #[.string a, .string b] w fun e w' => e = .returned (.bool true) ∧ Below w.heap.size w w' := joins_walk_of head_any a b w
end Go.Proofs.YtllhonjhjhajjaaDoor
