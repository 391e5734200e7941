/-
  The law's own ends in a handy form.
-/
import Derived.Test.YtimiminkeencgaaDoorLawHelp
import Derived.Test.YtimiminkeencgaaDoorWalkEnds
namespace Go.Proofs.YtimiminkeencgaaDoor
open Go.RowKit Go.Sort Foyer.Digest Foyer.Sign

theorem leads_le (m : List UInt8) (ls : List (List UInt8)) (hl : ls.length = 18) (h : ls.all isDigest = true) : ∀ t ∈ leads m ls, t.length ≤ 1000000 := fun t ht => by
  unfold leads at ht
  obtain ⟨i, hi, rfl⟩ := List.mem_map.1 ht
  rw [List.mem_range] at hi
  unfold leadAt
  have hd : isDigest (ls.getD i []) = true := by
    rw [List.getD_eq_getElem?_getD, List.getElem?_eq_getElem (by omega)]
    exact List.all_eq_true.1 h _ (List.getElem_mem _)
  rw [isDigest_length (chain_of_digest hd _)]; omega
theorem leads_length (m : List UInt8) (ls : List (List UInt8)) : (leads m ls).length = 18 := by unfold leads; simp
theorem ends_c (m : List UInt8) (ls : List (List UInt8)) (p : Option Addr) (cap : Nat) (hm : m.length ≤ 1000000) (hlen : ls.length = 18) (ht : ∀ t ∈ ls, t.length ≤ 1000000) (w : World) (hr : RdS w p ls) :
    Calls Tryd.prog 21 #[.string ⟨m.toArray⟩, .slice p 18 cap] w fun e w' => ∃ q c, e = .returned (.slice q 18 c) ∧ RdS w' q (leads m ls) ∧ Below w.heap.size w w' :=
  (ends_any m ls p cap hm hlen ht w hr).mono fun e w' ⟨v, he, ho, hb⟩ => by
    obtain ⟨q, c, hv, hr, _⟩ := ho.slice
    rw [leads_length] at hv
    exact ⟨q, c, by rw [he, hv], hr, hb⟩

end Go.Proofs.YtimiminkeencgaaDoor
