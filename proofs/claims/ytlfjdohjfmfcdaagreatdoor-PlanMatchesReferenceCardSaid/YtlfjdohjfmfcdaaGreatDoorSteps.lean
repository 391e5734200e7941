/-
  Worlds behind several allocations and stores: short terms for what they leave.
-/
import Derived.Test.YtlfjdohjfmfcdaaGreatDoorHeap
namespace Go.Proofs.YtlfjdohjfmfcdaaGreatDoor
open Go.RowKit Go.Sort

section
variable {w X W W' : World} {b a : Nat} {T : TypeId} {cs : List Value} {i j k l : Nat} {p q r s : Value}
theorem Blk.past (h : Blk W b T cs) (hb : Below W.heap.size W W') : Blk W' b T cs := (hb.block b h.lt).trans h
theorem Blk.new' (X : World) (T : TypeId) (cs : List Value) (h : X.heap.size = b) : Blk (X.alloc (.cells cs.toArray T)) b T cs := by
  subst h; exact Blk.new X T cs
theorem Blk.o1 (h : Blk X b T cs) (hn : a ≠ b) : Blk (X.setCell ⟨a, i, none⟩ p) b T cs := h.other (p := ⟨a, i, none⟩) hn p
theorem Blk.o2 (h : Blk X b T cs) (hn : a ≠ b) : Blk ((X.setCell ⟨a, i, none⟩ p).setCell ⟨a, j, none⟩ q) b T cs := (h.o1 hn).o1 hn
theorem Blk.o4 (h : Blk X b T cs) (hn : a ≠ b) : Blk ((((X.setCell ⟨a, i, none⟩ p).setCell ⟨a, j, none⟩ q).setCell ⟨a, k, none⟩ r).setCell ⟨a, l, none⟩ s) b T cs := (h.o2 hn).o2 hn
theorem Since.s1 (h : Since w X) (ha : w.heap.size ≤ a) : Since w (X.setCell ⟨a, i, none⟩ p) := Below.setCell (p := ⟨a, i, none⟩) h ha p
theorem Since.s2 (h : Since w X) (ha : w.heap.size ≤ a) : Since w ((X.setCell ⟨a, i, none⟩ p).setCell ⟨a, j, none⟩ q) := (h.s1 ha).s1 ha
theorem Since.s4 (h : Since w X) (ha : w.heap.size ≤ a) : Since w ((((X.setCell ⟨a, i, none⟩ p).setCell ⟨a, j, none⟩ q).setCell ⟨a, k, none⟩ r).setCell ⟨a, l, none⟩ s) := (h.s2 ha).s2 ha
theorem Kp.s1 {E : Nat → Prop} (h : Kp E W X) (ha : E a ∨ W.heap.size ≤ a) : Kp E W (X.setCell ⟨a, i, none⟩ p) := h.setCell (p := ⟨a, i, none⟩) ha p
theorem Kp.s2 {E : Nat → Prop} (h : Kp E W X) (ha : E a ∨ W.heap.size ≤ a) : Kp E W ((X.setCell ⟨a, i, none⟩ p).setCell ⟨a, j, none⟩ q) := (h.s1 ha).s1 ha
theorem Kp.s4 {E : Nat → Prop} (h : Kp E W X) (ha : E a ∨ W.heap.size ≤ a) : Kp E W ((((X.setCell ⟨a, i, none⟩ p).setCell ⟨a, j, none⟩ q).setCell ⟨a, k, none⟩ r).setCell ⟨a, l, none⟩ s) := (h.s2 ha).s2 ha
end
end Go.Proofs.YtlfjdohjfmfcdaaGreatDoor
