/-
  The law RuleOffsets, whose examples hold.
-/
import Derived.Test.YtllhonjhjhajjaaDoorLawOffsets
import Derived.Test.YtllhonjhjhajjaaDoorHead7
namespace Go.Proofs.YtllhonjhjhajjaaDoor
open Go.RowKit
theorem offsets_walk (a : ByteArray) (w : World) (_ : a.size ≤ maxLen) (_ : Env w) :
    Calls Tryd.prog 6 #[.string a] w fun e w' => e = .returned (.bool true) ∧ Below w.heap.size w w' := offsets_walk_of head_any a w
end Go.Proofs.YtllhonjhjhajjaaDoor
