/-
  A region that draws its order, whose first operation may be carried out at any time (the slice to which is appended), whose next ones only read, and whose last ones come in the order of the text: walked once. No program is spoken of.
-/
import Derived.StillTailTactics
import Derived.OrdersHeld
import Derived.RegionTactic
namespace Foyer.Tail
open Go
def behind (o : Oper) : Oper := { o with after := o.after.push ⟨0, .data⟩ }
def edged (ops : Array Oper) (n : Nat) : Array Oper := ops.mapIdx fun k o => if k = n then behind o else o
section
variable {P : Program} {ops : Array Oper} {n : Nat} {md : Region.Mode} {Q : Exit → Act → World → Prop}
end
def leadB (md : Region.Mode) (ops : Array Oper) (n : Nat) : Bool :=
 Region.noSelect ops && decide (0 < n) && decide (n < ops.size) && Region.free md ops (Array.replicate ops.size false) 0 && (Region.ready md ops (Array.replicate ops.size false)).contains 0
  && Region.sinkB md (edged ops n) n && Region.chainB md (edged ops n) n && Region.lexHead md (edged ops n) (ops.size - n) (n - 1) 1 ((Array.replicate ops.size false).setIfInBounds 0 true)
def pathB (md : Region.Mode) (ops : Array Oper) : List Nat → Array Bool → Bool
 | [], listed => (Region.ready md ops listed).isEmpty
 | i :: is, listed => decide (Region.ready md ops listed = [i]) && pathB md ops is (listed.setIfInBounds i true)
end Foyer.Tail
