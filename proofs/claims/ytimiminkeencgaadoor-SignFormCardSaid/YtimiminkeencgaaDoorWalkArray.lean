/-
  The walk of the array of the digits of a message.
-/
import Derived.Test.YtimiminkeencgaaDoorWalkDigits
import Derived.Test.YtimiminkeencgaaDoorMid
namespace Go.Proofs.YtimiminkeencgaaDoor
open Go.RowKit Go.Sort Go.Shelf Foyer.Digest Foyer.Sign
attribute [local go_sem] Oper.semAt_some

/-- What an array of zeros holds after some digits were written to their places. -/
def afterD (l : List (Nat × Nat)) : Nat → Nat := l.foldl (fun f x j => if j = x.1 then x.2 else f j) (fun _ => 0)
theorem afterD_snoc (l : List (Nat × Nat)) (x : Nat × Nat) (j : Nat) : afterD (l ++ [x]) j = if j = x.1 then x.2 else afterD l j := by
  unfold afterD; rw [List.foldl_append]; rfl
theorem afterD_first (m : List UInt8) : ∀ k j, afterD (firstD m k) j = if j < k then digitAt m j else 0
  | 0, j => by rw [if_neg (by omega)]; rfl
  | k + 1, j => by
    rw [firstD_succ, afterD_snoc, afterD_first m k j]
    by_cases h : j = k
    · subst h; rw [if_pos rfl, if_pos (by omega)]
    · rw [if_neg h]
      by_cases h2 : j < k
      · rw [if_pos h2, if_pos (by omega)]
      · rw [if_neg h2, if_neg (by omega)]
/-- The eighteen digits as an array's cells. -/
def cellsD (m : List UInt8) : List Value := (List.range 18).map fun i => Value.int .i64 (digitAt m i : Nat)
theorem cellsD_at (m : List UInt8) (j : Nat) (h : j < 18) : (cellsD m)[j]? = some (Value.int .i64 (digitAt m j : Nat)) := by
  unfold cellsD; rw [List.getElem?_map, List.getElem?_range h]; rfl
theorem cellsD_length (m : List UInt8) : (cellsD m).length = 18 := by unfold cellsD; simp
theorem cells_arr18 : (Tryd.prog.info? 45).map (·.size) = some 18 := by kernel_rfl

set_option maxRecDepth 100000 in
set_option maxHeartbeats 2000000 in
theorem digitsOf_any (m : List UInt8) (hm : m.length ≤ 1000000) (w : World) (hE : Env w) :
    Calls Tryd.prog 32 #[.string ⟨m.toArray⟩] w fun e w' => e = .returned (.agg (cellsD m).toArray) ∧ Below w.heap.size w w' := by
  refine (callsIn_wide (n := 3)).1 ?_
  refine callsIn_of_wp_marks Tryd.func32 rfl trivial ?_ rfl
  simp only [Tryd.ntmps32, List.size_toArray, List.length_cons, List.length_nil, Nat.reduceAdd, Nat.reduceSub, Array.replicate_succ, Array.replicate_zero, List.push_toArray, List.append_toArray, List.nil_append, List.cons_append]
  gi_wp2_with (refine ⟨trivial, ?_⟩; gi_at_call 50; refine (callsIn_wide.2 (eachDigit_any _ _)).mono ?_; rintro e W1 ⟨rfl, rfl⟩)
  have e18 : (#[.int .i64 0, .int .i64 0, .int .i64 0, .int .i64 0, .int .i64 0, .int .i64 0, .int .i64 0, .int .i64 0, .int .i64 0, .int .i64 0, .int .i64 0, .int .i64 0, .int .i64 0, .int .i64 0, .int .i64 0, .int .i64 0, .int .i64 0, .int .i64 0] : Array Value) = Array.replicate 18 (.int .i64 0) := rfl
  rw [e18]
  obtain ⟨W0, hW0⟩ : ∃ W0, ((w.alloc (.cells (Array.replicate 18 (.int .i64 0)) 45)).alloc (.cells (Array.replicate 18 (.int .i64 0)) 45)).alloc (.cells #[.string ⟨m.toArray⟩] 9) = W0 := ⟨_, rfl⟩
  have hsz : W0.heap.size = w.heap.size + 3 := by rw [← hW0]; simp
  have hB0 : Below w.heap.size w W0 := by rw [← hW0]; exact (((Below.refl _ w).alloc (Nat.le_refl _) _).alloc (by simp) _).alloc (by simp; omega) _
  have hbox : W0.cell? ⟨w.heap.size + 1 + 1, 0, none⟩ = some (.string ⟨m.toArray⟩) := by
    rw [← hW0]
    have := cell_fresh ((w.alloc (.cells (Array.replicate 18 (.int .i64 0)) 45)).alloc (.cells (Array.replicate 18 (.int .i64 0)) 45)) 1 (.string ⟨m.toArray⟩) 9 0 (by decide)
    simp only [World.size_alloc] at this
    exact this.1
  have hA0 : ∀ j, j < 18 → W0.cell? ⟨w.heap.size + 1, j, none⟩ = some (.int .i64 0) ∧ W0.frozen? ⟨w.heap.size + 1, j, none⟩ = false := fun j hj => by
    have hc := cell_fresh (w.alloc (.cells (Array.replicate 18 (.int .i64 0)) 45)) 18 (.int .i64 0) 45 j hj
    simp only [World.size_alloc] at hc
    rw [← hW0]
    exact ⟨cell_past _ hc.1, frozen_past _ hc.1 hc.2⟩
  have hR0 : ∀ j, j < 18 → W0.cell? ⟨w.heap.size, j, none⟩ = some (.int .i64 0) ∧ W0.frozen? ⟨w.heap.size, j, none⟩ = false := fun j hj => by
    have hc := cell_fresh w 18 (.int .i64 0) 45 j hj
    rw [← hW0]
    exact ⟨cell_past _ (cell_past _ hc.1), frozen_past _ (cell_past _ hc.1) (frozen_past _ hc.1 hc.2)⟩
  rw [hW0]
  clear hW0 e18
  refine wpIn_rangeFunc_ownF rfl (by omega) (gf := 59) (lb := #[.pointer (some ⟨w.heap.size + 1 + 1, 0, none⟩)]) rfl trivial (enters_of Tryd.func59 (by kernel_rfl) rfl)
    (each_stops m hm (w.heap.size + 1 + 1) W0 hbox (hE.below hB0)) (fun _ _ => trivial) (fun _ _ _ _ _ _ _ _ => trivial) (Below.refl _ _) (fun _ => rfl)
    (fun pre W => ((∀ j, j < 18 → W.cell? ⟨w.heap.size + 1, j, none⟩ = some (.int .i64 (afterD (pre.map (·.1)) j : Nat)) ∧ W.frozen? ⟨w.heap.size + 1, j, none⟩ = false) ∧ (∀ j, j < 18 → (∃ v, W.cell? ⟨w.heap.size, j, none⟩ = some v) ∧ W.frozen? ⟨w.heap.size, j, none⟩ = false)) ∧ Below w.heap.size w W)
    (fun _ _ _ => False)
    (OwnFrom.and (Own.from (fun s A B row hs hg hr => ⟨fun j hj => ⟨cell_kept (hs.1 j hj).1 hg hr, (frozen_kept (hs.1 j hj).1 hg hr).trans (hs.1 j hj).2⟩, fun j hj => by
      obtain ⟨⟨v, hv⟩, hf⟩ := hs.2 j hj
      exact ⟨⟨v, cell_kept hv hg hr⟩, (frozen_kept hv hg hr).trans hf⟩⟩) _) (ownFrom_below (Nat.le_refl _) (by omega)))
    (fun _ _ _ _ _ hs _ _ => hs)
    ⟨⟨fun j hj => hA0 j hj, fun j hj => ⟨⟨_, (hR0 j hj).1⟩, (hR0 j hj).2⟩⟩, hB0⟩
    (fun x => { tmps := #[.string ⟨m.toArray⟩, undef, .pointer (some ⟨w.heap.size, 0, none⟩), .pointer (some ⟨w.heap.size + 1, 0, none⟩), .int .i64 (x.1.1 : Nat), .int .i64 (x.1.2 : Nat), .string ⟨m.toArray⟩, .func (.func 59) #[] #[.pointer (some ⟨w.heap.size + 1 + 1, 0, none⟩)], .int .i64 (x.1.1 : Nat), .int .i64 (x.1.2 : Nat), undef, undef, undef, undef], defers := [] }) ?assign ?body ?done ?stop
  case assign =>
    intro l x W K hK
    gi_wp2
    exact hK
  case body =>
    rintro l pre ⟨⟨i, d⟩, hi, hd⟩ W ⟨⟨hA, hR⟩, hB⟩ _
    obtain ⟨hci, hfi⟩ := hA i hi
    have HA := Lib.hid hA; have HR := Lib.hid hR; have HB := Lib.hid hB
    clear hA hR hB hA0 hR0 hbox hB0 hE
    dsimp only at hi hd ⊢
    gi_wp2
    refine ⟨KeepsOthers.setCell _ _ _, trivial, ⟨fun j hj => ?_, fun j hj => ?_⟩, HB.out.setCell (p := ⟨w.heap.size + 1, i, none⟩) (by simp) _⟩
    · rw [World.frozen?_setCell, List.map_append]
      refine ⟨?_, (HA.out j hj).2⟩
      show _ = some (Value.int .i64 ((afterD (pre.map (·.1) ++ [(i, d)]) j : Nat) : Int))
      rw [afterD_snoc]
      by_cases e : j = i
      · subst e
        rw [if_pos rfl]
        exact World.cell?_setCell_same _ _ _ hci
      · rw [if_neg e, World.cell?_setCell_other _ _ _ _ (by intro h; injection h with _ h' _; exact e h'.symm)]
        exact (HA.out j hj).1
    · obtain ⟨⟨v, hv⟩, hf⟩ := HR.out j hj
      rw [World.frozen?_setCell, World.cell?_setCell_other _ _ _ _ (by intro h; injection h with h' _ _; omega)]
      exact ⟨⟨v, hv⟩, hf⟩
  case done =>
    rintro D ys W hD hS ⟨⟨hA, hR⟩, hB⟩ hK
    have hrange : W.rangeAt (w.heap.size + 1) 0 (cellsD m) := fun j v hv => by
      have hj : j < 18 := by
        have := (List.getElem?_eq_some_iff.1 hv).1
        rwa [cellsD_length] at this
      rw [cellsD_at m j hj] at hv
      have := (hA j hj).1
      rw [hS, afterD_first, if_pos hj] at this
      rw [Nat.zero_add, this, hv]
    have hthere : W.there w.heap.size 0 (cellsD m).toArray.size := fun j hj => by
      have hj : j < 18 := by simpa [cellsD_length] using hj
      obtain ⟨⟨v, hv⟩, hf⟩ := hR j hj
      rw [Nat.zero_add, hv]; exact ⟨rfl, hf⟩
    have hone : (cellsD m).toArray.all (·.oneCell') = true := all_oneCell_toArray fun v hv => by
      unfold cellsD at hv
      obtain ⟨i, _, rfl⟩ := List.mem_map.1 hv
      rfl
    have hsize : (Tryd.prog.info? 45).map (·.size) = some (cellsD m).length := by rw [cellsD_length]; exact cells_arr18
    have hsize2 : (Tryd.prog.info? 45).map (·.size) = some (cellsD m).toArray.size := by rw [List.size_toArray]; exact hsize
    have HRG := Lib.hid hrange; have HTH := Lib.hid hthere; have HON := Lib.hid hone; have HS1 := Lib.hid hsize; have HS2 := Lib.hid hsize2; have HB := Lib.hid hB; have HK := Lib.hid hK
    clear hA hR hA0 hR0 hbox hB0 hE hrange hthere hone hsize hsize2 hB hS hK
    generalize hcs : cellsD m = cs at *
    gi_wp2_with (first
      | (refine wpListIn_load_mid rfl 45 _ rfl (w.heap.size + 1) 0 rfl cs _ HRG.out Tryd.underlying45 rfl HS1.out ?_)
      | (refine wpListIn_store_mid rfl 45 _ _ rfl w.heap.size 0 cs.toArray rfl rfl HTH.out HS2.out HON.out ?_))
    have hK' := (keepsOthers_setCells w.heap.size cs 0 W).same D _ HK.out rfl
    refine ⟨by simp, .inl ⟨_, _, rfl, run_takeDeferred hK', ?_⟩⟩
    refine ⟨.agg cs.toArray, results_cell_mid rfl _ _ w.heap.size cs _ rfl (fun j v hv => ?_) Tryd.underlying45 rfl HS1.out, by rw [hcs], ?_⟩
    · refine cell_kept ?_ (grownBy_putObj' _ D (.deferred none)) (fun r e => by cases e; exact ⟨_, hK', rfl⟩)
      exact World.rangeAt_setCells_same W w.heap.size 0 cs (by have := HTH.out; simpa using this) j v hv
    · exact (below_setCells (Nat.le_refl _) cs 0 W HB.out).trans (belowK_b (w := w) (Nat.le_refl _) _ D _ _ (by omega) hK' rfl rfl)
  case stop =>
    rintro D c pre W _ _ h _
    exact h.elim
end Go.Proofs.YtimiminkeencgaaDoor
