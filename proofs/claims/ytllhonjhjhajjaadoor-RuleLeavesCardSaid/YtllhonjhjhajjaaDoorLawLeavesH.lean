/-
  The law RuleLeaves, whose examples hold.
-/
import Derived.Test.YtllhonjhjhajjaaDoorLawLeaves
import Derived.Test.YtllhonjhjhajjaaDoorHead7
namespace Go.Proofs.YtllhonjhjhajjaaDoor
open Go.RowKit
theorem leaves_walk (a : ByteArray) (r : Int) (w : World) (_ : a.size ≤ maxLen) (hr : (Lit.int .u8 r).wf = true) (_ : Env w) :
    Calls Tryd.prog 8 #[.string a, .int .u8 r] w fun e w' => e = .returned (.bool true) ∧ Below w.heap.size w w' := leaves_walk_of head_any a r (u8_bounds hr).1 (u8_bounds hr).2 w
end Go.Proofs.YtllhonjhjhajjaaDoor
