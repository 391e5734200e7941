/-
  What the laws of tree need besides: a slice of strings that came in, read at an index.
-/
import Derived.Test.YtkjgdgocjnocaaaDoorBase
namespace Go.Proofs.YtkjgdgocjnocaaaDoor
open Go.RowKit Go.Sort

theorem IsStrs.place {w : World} {p : Option Addr} {n : Nat} {l : List (List UInt8)} (h : IsStrs w p n l) (hn : 0 < n) : ∃ b off, p = some ⟨b, off, none⟩ := by
  rcases h.rd with e | ⟨b, off, e, _⟩
  · have := h.length; rw [e] at this; simp at this; omega
  · exact ⟨b, off, e⟩
theorem IsStrs.cellAt {w w1 : World} {b off n i : Nat} {l : List (List UInt8)} (h : IsStrs w (some ⟨b, off, none⟩) n l) (hs : Since w w1) (hi : i < n) : w1.cell? ⟨b, off + i, none⟩ = some (.string ⟨(l.getD i []).toArray⟩) := by
  rcases (h.since hs).rd with e | ⟨b', off', e, _, hc⟩
  · have := h.length; rw [e] at this; simp at this; omega
  · simp only [Option.some.injEq, Addr.mk.injEq, and_true] at e
    obtain ⟨rfl, rfl⟩ := e
    exact hc i (by rw [h.length]; exact hi)
end Go.Proofs.YtkjgdgocjnocaaaDoor
