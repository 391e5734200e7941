/-
  The document's own digests of leaves and nodes.
-/
import Derived.Test.YtkjgdgocjnocaaaDoorRefCalls
import Derived.Test.YtkjgdgocjnocaaaDoorLawNode
namespace Go.Proofs.YtkjgdgocjnocaaaDoor
open Go.RowKit Go.Sort Foyer.Digest Foyer.Tree

theorem rleaf_c (t : List UInt8) (m : List UInt8) (h : leafD t = m) (ht : t.length ≤ 1000000) (w : World) :
    Calls Tryd.prog 31 #[.string ⟨t.toArray⟩] w fun e w' => e = .returned (.string ⟨m.toArray⟩) ∧ Below w.heap.size w w' := by
  have HS : Hid (Since w w) := Below.refl _ _
  go_enter Tryd.func31, Tryd.ntmps31
  go_wp2_with fail
  refine (rlist_c [sLeaf, t] m 2 rfl h _ _ _ (rd_two w sLeaf t _) (by decide) (two_le (by decide) ht)).mono ?_; rintro e w1 ⟨rfl, hb1⟩
  have HS1 := Lib.hid ((HS.out.alloc _).call hb1); clear hb1
  go_wp2
  go_ret
  exact ⟨rfl, HS1.out⟩
theorem rnode_c (a b : List UInt8) (m : List UInt8) (h : nodeD a b = m) (ha : a.length ≤ 1000000) (hb : b.length ≤ 1000000) (w : World) :
    Calls Tryd.prog 32 #[.string ⟨a.toArray⟩, .string ⟨b.toArray⟩] w fun e w' => e = .returned (.string ⟨m.toArray⟩) ∧ Below w.heap.size w w' := by
  have HS : Hid (Since w w) := Below.refl _ _
  go_enter Tryd.func32, Tryd.ntmps32
  go_wp2_with fail
  refine (rlist_c [sNode, a, b] m 3 rfl h _ _ _ (rd_three w sNode a b _) (by decide) (three_le (by decide) ha hb)).mono ?_; rintro e w1 ⟨rfl, hb1⟩
  have HS1 := Lib.hid ((HS.out.alloc _).call hb1); clear hb1
  go_wp2
  go_ret
  exact ⟨rfl, HS1.out⟩
end Go.Proofs.YtkjgdgocjnocaaaDoor
