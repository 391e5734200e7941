/-
  The calls of the document's own functions of layer 2, their values under names.
-/
import Derived.Test.YtimiminkeencgaaDoorRefJoin
namespace Go.Proofs.YtimiminkeencgaaDoor
open Go.RowKit Go.Sort Foyer.Digest

theorem ris_c (l : List UInt8) (b : Bool) (h : isDigest l = b) (w : World) :
    Calls Tryd.prog 36 #[.string ⟨l.toArray⟩] w fun e w' => e = .returned (.bool b) ∧ w = w' := by
  have := ris_any ⟨l.toArray⟩ w
  rw [show (⟨l.toArray⟩ : ByteArray).data.toList = l from rfl, h] at this
  exact this
theorem rsum_c (l m : List UInt8) (h : sum l = m) (hs : l.length ≤ 1000000000000) (w : World) :
    Calls Tryd.prog 19 #[.string ⟨l.toArray⟩] w fun e w' => e = .returned (.string ⟨m.toArray⟩) ∧ w = w' := by
  rw [← h]; exact rsum_l l hs w
theorem rlist_c (ls : List (List UInt8)) (m : List UInt8) (k : Nat) (hk : ls.length = k) (h : listSum ls = m) (p : Option Addr) (cap : Nat) (w : World) (hr : RdS w p ls) (hl : k ≤ 1000) (ht : ∀ t ∈ ls, t.length ≤ 1000000) :
    Calls Tryd.prog 31 #[.slice p k cap] w fun e w' => e = .returned (.string ⟨m.toArray⟩) ∧ Below w.heap.size w w' := by
  rw [← h, ← hk]; exact rlist_any ls p cap w hr (by omega) ht
theorem rjoined_c (ls : List (List UInt8)) (m : List UInt8) (k : Nat) (hk : ls.length = k) (h : joined ls = m) (p : Option Addr) (cap : Nat) (w : World) (hr : RdS w p ls) (hl : k ≤ 1000) (ht : ∀ t ∈ ls, t.length ≤ 1000000) :
    Calls Tryd.prog 49 #[.slice p k cap] w fun e w' => e = .returned (.string ⟨m.toArray⟩) ∧ Below w.heap.size w w' := by
  rw [← h, ← hk]; exact rjoined_any ls p cap w hr (by omega) ht
theorem rchain_c (l m : List UInt8) (n : Int) (k : Nat) (hk : n = k) (h1 : k ≤ 1000) (h : chain l k = m) (hs : l.length ≤ 100000000000) (w : World) :
    Calls Tryd.prog 29 #[.string ⟨l.toArray⟩, .int .i64 n] w fun e w' => e = .returned (.string ⟨m.toArray⟩) ∧ w = w' := by
  rw [← h, hk]; exact rchain_small l k h1 hs w
end Go.Proofs.YtimiminkeencgaaDoor
