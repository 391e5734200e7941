/-
  The calls of digest's functions, their values under names.
-/
import Derived.Test.YtimiminkeencgaaDoorWalkList
namespace Go.Proofs.YtimiminkeencgaaDoor
open Go.RowKit Go.Sort Foyer.Digest

theorem is_c (l : List UInt8) (b : Bool) (h : isDigest l = b) (hs : l.length ≤ 1000000000000) (w : World) :
    Calls Tryd.prog 18 #[.string ⟨l.toArray⟩] w fun e w' => e = .returned (.bool b) ∧ w = w' := by
  have := is_any ⟨l.toArray⟩ (by rw [size_of_list]; exact hs) w
  rw [show (⟨l.toArray⟩ : ByteArray).data.toList = l from rfl, h] at this
  exact this
theorem sum_c (l m : List UInt8) (h : sum l = m) (hs : l.length ≤ 1000000000000) (w : World) (hT : HexTab w) :
    Calls Tryd.prog 46 #[.string ⟨l.toArray⟩] w fun e w' => e = .returned (.string ⟨m.toArray⟩) ∧ Below w.heap.size w w' := by
  rw [← h]; exact sum_l l hs w hT
theorem chain_c (l m : List UInt8) (n : Int) (k : Nat) (hk : n = k) (h1 : k ≤ 1000) (h : chain l k = m) (hs : l.length ≤ 100000000000) (w : World) (hT : HexTab w) :
    Calls Tryd.prog 35 #[.string ⟨l.toArray⟩, .int .i64 n] w fun e w' => e = .returned (.string ⟨m.toArray⟩) ∧ Below w.heap.size w w' := by
  rw [← h, hk]; exact chain_small l k h1 hs w hT
theorem list_c (ls : List (List UInt8)) (m : List UInt8) (k : Nat) (hk : ls.length = k) (h : listSum ls = m) (p : Option Addr) (cap : Nat) (w : World) (hr : RdS w p ls) (hl : k ≤ 1000) (ht : ∀ t ∈ ls, t.length ≤ 1000000) (hE : Env w) :
    Calls Tryd.prog 28 #[.slice p k cap] w fun e w' => e = .returned (.string ⟨m.toArray⟩) ∧ Below w.heap.size w w' := by
  rw [← h, ← hk]; exact list_any ls p cap w hr (by omega) ht hE
end Go.Proofs.YtimiminkeencgaaDoor
