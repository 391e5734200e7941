/-
  Slices of integers that came in, as the walks read them.
-/
import Derived.Test.YtdjilieadhnhcaaDoorHead
import Derived.OpenShut
namespace Go.Proofs.YtdjilieadhnhcaaDoor
open Go.RowKit Go.Sort Go.Shelf Foyer.Money

/-- A slice of integers that came in. -/
def IsRow (k : IntKind) (w : World) (a : Option Addr) (len cap : Nat) (zs : List Int) : Prop :=
  (a = none ∧ len = 0 ∧ cap = 0 ∧ zs = []) ∨
  ∃ x, a = some x ∧ len ≤ cap ∧ cap ≤ maxLen ∧ zs.length = cap ∧ (∀ i, i < zs.length → w.cell? (x.add i) = some (.int k (zs.getD i 0))) ∧ ∀ n ∈ zs, (Lit.int k n).wf = true

/-- What it is to the functions that read it: its elements. -/
theorem rd_of_row {w : World} {a : Option Addr} {len cap : Nat} {zs : List Int} (h : IsRow .i64 w a len cap zs) :
    len ≤ maxLen ∧ ∃ ws : List Int, ws.length = len ∧ Rd w a ws ∧ ∀ n ∈ ws, (Lit.int .i64 n).wf = true := by
  rcases h with ⟨rfl, rfl, rfl, rfl⟩ | ⟨x, rfl, hl, hm, hz, hc, hw⟩
  · exact ⟨by unfold maxLen; omega, [], rfl, Or.inl rfl, by simp⟩
  · refine ⟨by omega, zs.take len, by simp; omega, ?_, fun n hn => hw n (List.mem_of_mem_take hn)⟩
    by_cases h0 : len = 0
    · subst h0; exact Or.inl (by simp)
    · obtain ⟨b, off, rfl, hc'⟩ := ints_at hc (by omega)
      refine Or.inr ⟨b, off, rfl, Lib.lt_of_cell (hc' 0 (by omega)), fun j hj => ?_⟩
      have hj' : j < len := by simp at hj; omega
      rw [hc' j (by omega)]
      simp [List.getD_eq_getElem?_getD, hj']
theorem rd_below {w w' : World} {p : Option Addr} {zs : List Int} (h : Rd w p zs) (hb : RowKit.Below w.heap.size w w') : Rd w' p zs := by
  rcases h with h | ⟨b, off, rfl, hlt, hc⟩
  · exact Or.inl h
  · exact Or.inr ⟨b, off, rfl, Nat.lt_of_lt_of_le hlt hb.size, fun j hj => by rw [hb.cell hlt]; exact hc j hj⟩
end Go.Proofs.YtdjilieadhnhcaaDoor
