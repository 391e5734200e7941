/-
  How the iterator makes its source: a region that draws its order, with a call that makes memory and a block of its own.
-/
import Derived.Test.YtlfjdohjfmfcdaaGreatDoorWalkClasses
import Derived.Test.YtlfjdohjfmfcdaaGreatDoorRound
import Derived.Laws.Tables
namespace Foyer.Round
open Go
section
variable {P : Program} {ops : Array Oper} {md : Region.Mode} {Q : Exit → Act → World → Prop} {S : World → Prop} {N : List Nat}
/-- One of two operations comes up. -/
theorem held_two {i j : Nat} {oi oj : Oper} {f : Nat} {listed : Array Bool} {a : Act} {w : World} (hi : ops[i]? = some oi) (hj : ops[j]? = some oj) (hr : Region.ready md ops listed = [i, j])
    (h1 : ∀ K' : Act → World → Prop, RowKit.Hid (∀ a' w', (i ∉ N → S w') → held P md ops Q S N f (listed.setIfInBounds i true) a' w' → K' a' w') → if Region.wanted oi (yielded ops a.tmps) = true then Oper.wp P oi a w K' Q else K' (a.put oi.dst undef) w)
    (h2 : ∀ K' : Act → World → Prop, RowKit.Hid (∀ a' w', (j ∉ N → S w') → held P md ops Q S N f (listed.setIfInBounds j true) a' w' → K' a' w') → if Region.wanted oj (yielded ops a.tmps) = true then Oper.wp P oj a w K' Q else K' (a.put oj.dst undef) w) : held P md ops Q S N (f + 1) listed a w := by
  refine ⟨fun h0 => (by rw [hr] at h0; cases h0), fun k hk => ?_⟩
  rw [hr] at hk
  simp only [List.mem_cons, List.not_mem_nil, or_false] at hk
  rcases hk with rfl | rfl
  · exact wpOp_step hi fun K' hK => h1 K' (Lib.hid fun a' w' h1 h2 => hK a' w' ⟨h1, h2⟩)
  · exact wpOp_step hj fun K' hK => h2 K' (Lib.hid fun a' w' h1 h2 => hK a' w' ⟨h1, h2⟩)
end
end Foyer.Round
namespace Go.Proofs.YtlfjdohjfmfcdaaGreatDoor
open Go.RowKit Foyer.Lexer Foyer.Round

def srcCells (t : ByteArray) : List Value := .string t :: clsCells
theorem built_src (t : ByteArray) : Tryz.prog.built 87 [(0, .string t), (1, .agg clsCells.toArray)] = some (srcCells t).toArray := by kernel_rfl
theorem srcCells_length (t : ByteArray) : (srcCells t).length = 257 := by unfold srcCells; rw [List.length_cons, clsCells_length]
theorem src_of_range {w : World} {b : Nat} {t : ByteArray} (h : w.rangeAt b 0 (srcCells t)) : Src w b t := by
  refine ⟨h 0 _ rfl, fun c => ?_⟩
  have := h (1 + c.toNat) (.int .i64 (cls c : Nat)) (by
    unfold srcCells
    rw [Nat.add_comm, List.getElem?_cons_succ, clsCells_at _ c.toNat_lt, UInt8.ofNat_toNat])
  rwa [Nat.zero_add] at this
theorem zero_src : Tryz.zeroCells87.size = 257 := by kernel_rfl
theorem there_new (w : World) : (w.alloc (.cells Tryz.zeroCells87 87)).there w.heap.size 0 257 := fun j hj => by
  have hz := zero_src
  generalize Tryz.zeroCells87 = z at *
  rw [Nat.zero_add]
  have hg := heap_alloc_new w (.cells z 87)
  refine ⟨?_, frozen_of_row _ _ j z _ hg⟩
  rw [cell_of_row _ _ j z _ (0, 0) hg, Array.getElem?_eq_getElem (by omega)]
  rfl
theorem there_below {w w' : World} {b n B : Nat} (h : w.there b 0 n) (hB : b < B) (hb : Below B w w') : w'.there b 0 n := fun j hj => by
  rw [hb.cell (p := ⟨b, 0 + j, none⟩) hB, hb.frozen (p := ⟨b, 0 + j, none⟩) hB]; exact h j hj
theorem info_src : (Tryz.prog.info? 87).map (·.size) = some 257 := by kernel_rfl
theorem src_one (t : ByteArray) : (srcCells t).toArray.all (·.oneCell') = true := all_oneCell_toArray fun v hv => by
  unfold srcCells at hv
  rcases List.mem_cons.1 hv with rfl | hv
  · rfl
  · unfold clsCells at hv
    obtain ⟨i, _, rfl⟩ := List.mem_map.1 hv
    rfl
theorem src_stored {w : World} {b : Nat} {t : ByteArray} (h : w.there b 0 257) : Src (w.setCells b 0 (srcCells t)) b t :=
  src_of_range (World.rangeAt_setCells_same w b 0 _ (by rw [srcCells_length]; exact h))
theorem yields_build {P : Program} {o : Oper} {a : Act} (t : TypeId) (parts : Array (Nat × Operand)) (ho : o.op = .build t parts) (cells : Array Value)
    (hf : P.built t (parts.map fun (i, x) => (i, a.eval x)).toList = some cells) (w : World) : (execOp a.eval o).run P w = .ok (.value (.agg cells)) w := by
  unfold execOp
  simp only [ho, Sem.run_bind, run_build w t _ cells hf, Result.andThen_ok]
  rfl
/-- All that the region needs to know, with no table in sight. -/
theorem source_facts (t : ByteArray) : ∃ (cs src : List Value), (∀ w, Calls Tryz.prog 30 #[] w fun e w' => e = .returned (.agg cs.toArray) ∧ Below w.heap.size w w') ∧ Tryz.prog.built 87 [(0, .string t), (1, .agg cs.toArray)] = some src.toArray ∧
    src.toArray.size = 257 ∧ src.toArray.all (·.oneCell') = true ∧ (∀ (w : World) (b : Nat), w.there b 0 257 → Src (w.setCells b 0 src) b t) :=
  ⟨clsCells, srcCells t, classesOf_any, built_src t, by rw [List.size_toArray, srcCells_length], src_one t, fun _ _ h => src_stored h⟩
end Go.Proofs.YtlfjdohjfmfcdaaGreatDoor
