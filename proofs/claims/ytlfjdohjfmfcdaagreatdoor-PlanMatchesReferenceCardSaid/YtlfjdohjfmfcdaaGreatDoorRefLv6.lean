/-
  A level that the document's own reader builds: five lists apart from each other, and from what the reader's own variables hold.
-/
import Derived.Test.YtlfjdohjfmfcdaaGreatDoorRefRow6
import Derived.Test.YtlfjdohjfmfcdaaGreatDoorLevelSt
import Derived.Test.YtlfjdohjfmfcdaaGreatDoorWalkItems
namespace Go.Proofs.YtlfjdohjfmfcdaaGreatDoor
open Go.RowKit Go.Sort Go.Shelf Foyer.Plan

def FG (base : Nat) (vs : List Value) (G : Nat → Prop) (k : Nat) : Prop := Fv base vs k ∧ G k
section
variable {α : Type} {K : Kind α} {W W2 : World} {base M : Nat} {T : TypeId} {pre post : List Value} {vi vi' vj : Value} {xs : List α} {G : Nat → Prop}
theorem building_other_g (hb : Building K W (FG base (pre ++ vi :: post) G) base T vj xs) (hj : ∀ k, vj.ownBlock = some k → vi.ownBlock ≠ some k) (hgr : ∀ k, k < W.heap.size → vi.ownBlock ≠ some k → W2.heap[k]? = W.heap[k]?) (hat : vi'.ownBlock = vi.ownBlock ∨ vi'.ownBlock = some M) (hM : W.heap.size ≤ M) :
    Building K W2 (FG base (pre ++ vi' :: post) G) base T vj xs :=
  hb.kept (fun k hk => hgr k (hb.lt hk).2 (hj k hk)) (fun k hk hlt => hgr k hlt (hk.1.2 vi (List.mem_append_right _ List.mem_cons_self))) (fun _ hk hlt => ⟨fv_moved hk.1 hlt hat hM, hk.2⟩)
theorem building_self_g {css : List (List Value)} {c : List Value} {a : α} {N : Nat} (hall : All2 (K.is W (FG base (pre ++ vi :: post) G)) css xs) (hc : K.is W (fun k => N ≤ k) c a) (hN : base ≤ N) (hG : ∀ k, N ≤ k → G k) (hold : ∀ v ∈ pre ++ vi :: post, ∀ k, v.ownBlock = some k → k < N)
    (hcon : Con W2 base T K.size vi' (css ++ [c])) (hgr : ∀ k, k < W.heap.size → vi.ownBlock ≠ some k → W2.heap[k]? = W.heap[k]?) (hat : vi'.ownBlock = vi.ownBlock ∨ vi'.ownBlock = some M) (hM : W.heap.size ≤ M) :
    Building K W2 (FG base (pre ++ vi' :: post) G) base T vi' (xs ++ [a]) := by
  refine ⟨css ++ [c], hcon, All2.snoc (All2.imp hall fun b x h => ?_) ?_⟩
  · exact K.moved h (fun k hk hlt => hgr k hlt (hk.1.2 vi (List.mem_append_right _ List.mem_cons_self))) (fun _ hk hlt => ⟨fv_moved hk.1 hlt hat hM, hk.2⟩)
  · refine K.moved hc (fun k hk hlt => hgr k hlt (fun e => ?_)) (fun k hk hlt => ⟨fv_moved (vi := vi) ⟨Nat.le_trans hN hk, fun v hv e => ?_⟩ hlt hat hM, hG k hk⟩)
    · have := hold vi (List.mem_append_right _ List.mem_cons_self) k e
      have h2 : N ≤ k := hk
      omega
    · have := hold v hv k e
      have h2 : N ≤ k := hk
      omega
end
structure L5 (W : World) (base : Nat) (G : Nat → Prop) (v1 v2 v3 v4 v5 : Value) (is : List ItemP) : Prop where
  b1 : Building blockK W (FG base [v1, v2, v3, v4, v5] G) base 41 v1 (blocksOf is)
  b2 : Building areaK W (FG base [v1, v2, v3, v4, v5] G) base 50 v2 (areasOf is)
  b3 : Building boxK W (FG base [v1, v2, v3, v4, v5] G) base 48 v3 (aislesOf is)
  b4 : Building boxK W (FG base [v1, v2, v3, v4, v5] G) base 48 v4 (pillarsOf is)
  b5 : Building pointK W (FG base [v1, v2, v3, v4, v5] G) base 24 v5 (doorsOf is)
  apart : Apart [v1, v2, v3, v4, v5]
  own : ∀ v ∈ [v1, v2, v3, v4, v5], ∀ k, v.ownBlock = some k → G k
section
variable {W W2 : World} {base N M : Nat} {G : Nat → Prop} {v1 v2 v3 v4 v5 v' : Value} {is : List ItemP} {css : List (List Value)} {c : List Value}
theorem L5.lt (h : L5 W base G v1 v2 v3 v4 v5 is) : ∀ v ∈ [v1, v2, v3, v4, v5], ∀ k, v.ownBlock = some k → base ≤ k ∧ k < W.heap.size := by
  intro v hv k hk
  simp only [List.mem_cons, List.not_mem_nil, or_false] at hv
  rcases hv with rfl | rfl | rfl | rfl | rfl
  · exact h.b1.lt hk
  · exact h.b2.lt hk
  · exact h.b3.lt hk
  · exact h.b4.lt hk
  · exact h.b5.lt hk
theorem L5.kept {E : Nat → Prop} (h : L5 W base G v1 v2 v3 v4 v5 is) (hk : Kp E W W2) (hE : ∀ k, E k → k < base ∨ ¬ G k) : L5 W2 base G v1 v2 v3 v4 v5 is := by
  have hl := h.lt
  have hv : ∀ v ∈ [v1, v2, v3, v4, v5], ∀ k, v.ownBlock = some k → W2.heap[k]? = W.heap[k]? := fun v hv k e => hk.block k (hl v hv k e).2 fun he => (hE k he).elim (fun h1 => by have := (hl v hv k e).1; omega) (fun h1 => h1 (h.own v hv k e))
  have hF : ∀ k, FG base [v1, v2, v3, v4, v5] G k → k < W.heap.size → W2.heap[k]? = W.heap[k]? := fun k hf hlt => hk.block k hlt fun he => (hE k he).elim (fun h1 => by have := hf.1.1; omega) (fun h1 => h1 hf.2)
  exact ⟨h.b1.kept (hv v1 (by simp)) hF (fun _ h _ => h), h.b2.kept (hv v2 (by simp)) hF (fun _ h _ => h), h.b3.kept (hv v3 (by simp)) hF (fun _ h _ => h), h.b4.kept (hv v4 (by simp)) hF (fun _ h _ => h), h.b5.kept (hv v5 (by simp)) hF (fun _ h _ => h), h.apart, h.own⟩
theorem L5.mono {G' : Nat → Prop} (h : L5 W base G v1 v2 v3 v4 v5 is) (hG : ∀ k, G k → k < W.heap.size → G' k) : L5 W base G' v1 v2 v3 v4 v5 is := by
  have hF : ∀ k, FG base [v1, v2, v3, v4, v5] G k → k < W.heap.size → FG base [v1, v2, v3, v4, v5] G' k := fun k hk hlt => ⟨hk.1, hG k hk.2 hlt⟩
  exact ⟨h.b1.kept (fun _ _ => rfl) (fun _ _ _ => rfl) hF, h.b2.kept (fun _ _ => rfl) (fun _ _ _ => rfl) hF, h.b3.kept (fun _ _ => rfl) (fun _ _ _ => rfl) hF, h.b4.kept (fun _ _ => rfl) (fun _ _ _ => rfl) hF, h.b5.kept (fun _ _ => rfl) (fun _ _ _ => rfl) hF, h.apart, fun v hv k e => hG k (h.own v hv k e) (h.lt v hv k e).2⟩
theorem own_moved {pre post : List Value} {vi vi' : Value} (h : ∀ v ∈ pre ++ vi :: post, ∀ k, v.ownBlock = some k → G k) (hat : vi'.ownBlock = vi.ownBlock ∨ vi'.ownBlock = some M) (hGM : G M) : ∀ v ∈ pre ++ vi' :: post, ∀ k, v.ownBlock = some k → G k := by
  intro v hv k e
  rcases List.mem_append.1 hv with hv | hv
  · exact h v (List.mem_append_left _ hv) k e
  · rcases List.mem_cons.1 hv with rfl | hv
    · rcases hat with h1 | h1
      · rw [h1] at e; exact h vi (List.mem_append_right _ List.mem_cons_self) k e
      · rw [h1] at e; cases e; exact hGM
    · exact h v (List.mem_append_right _ (List.mem_cons_of_mem _ hv)) k e
theorem L5.block {a : BlockP} (h : L5 W base G v1 v2 v3 v4 v5 is) (hall : All2 (blockK.is W (FG base [v1, v2, v3, v4, v5] G)) css (blocksOf is)) (hc : blockK.is W (fun k => N ≤ k) c a) (hN : base ≤ N) (hG : ∀ k, N ≤ k → G k) (hold : ∀ v ∈ [v1, v2, v3, v4, v5], ∀ k, v.ownBlock = some k → k < N)
    (hcon : Con W2 base 41 blockK.size v' (css ++ [c])) (hgr : ∀ k, k < W.heap.size → v1.ownBlock ≠ some k → W2.heap[k]? = W.heap[k]?) (hat : v'.ownBlock = v1.ownBlock ∨ v'.ownBlock = some M) (hM : W.heap.size ≤ M) (hNM : N ≤ M) : L5 W2 base G v' v2 v3 v4 v5 (is ++ [.block a]) := by
  obtain ⟨ap1, ap2, ap3, ap4⟩ := apart_five h.apart
  have hlt := h.lt
  refine ⟨?_, ?_, ?_, ?_, ?_, apart_moved (N := W.heap.size) (pre := []) (post := [v2, v3, v4, v5]) h.apart (fun v hv k hk => (hlt v hv k hk).2) hat hM, own_moved (pre := []) (post := [v2, v3, v4, v5]) h.own hat (hG M hNM)⟩
  · have hs := building_self_g (pre := []) (post := [v2, v3, v4, v5]) hall hc hN hG (fun v hv k hk => hold v hv k hk) hcon hgr hat hM
    have e : blocksOf (is ++ [.block a]) = blocksOf is ++ [a] := by unfold blocksOf; rw [List.filterMap_append]; rfl
    rw [e]; exact hs
  · have e : areasOf (is ++ [.block a]) = areasOf is := by unfold areasOf; rw [List.filterMap_append]; simp
    rw [e]; exact building_other_g (pre := []) (post := [v2, v3, v4, v5]) h.b2 (fun k hk e => (ap1 k e).1 hk) hgr hat hM
  · have e : aislesOf (is ++ [.block a]) = aislesOf is := by unfold aislesOf; rw [List.filterMap_append]; simp
    rw [e]; exact building_other_g (pre := []) (post := [v2, v3, v4, v5]) h.b3 (fun k hk e => (ap1 k e).2.1 hk) hgr hat hM
  · have e : pillarsOf (is ++ [.block a]) = pillarsOf is := by unfold pillarsOf; rw [List.filterMap_append]; simp
    rw [e]; exact building_other_g (pre := []) (post := [v2, v3, v4, v5]) h.b4 (fun k hk e => (ap1 k e).2.2.1 hk) hgr hat hM
  · have e : doorsOf (is ++ [.block a]) = doorsOf is := by unfold doorsOf; rw [List.filterMap_append]; simp
    rw [e]; exact building_other_g (pre := []) (post := [v2, v3, v4, v5]) h.b5 (fun k hk e => (ap1 k e).2.2.2 hk) hgr hat hM
theorem L5.area {a : AreaP} (h : L5 W base G v1 v2 v3 v4 v5 is) (hall : All2 (areaK.is W (FG base [v1, v2, v3, v4, v5] G)) css (areasOf is)) (hc : areaK.is W (fun k => N ≤ k) c a) (hN : base ≤ N) (hG : ∀ k, N ≤ k → G k) (hold : ∀ v ∈ [v1, v2, v3, v4, v5], ∀ k, v.ownBlock = some k → k < N)
    (hcon : Con W2 base 50 areaK.size v' (css ++ [c])) (hgr : ∀ k, k < W.heap.size → v2.ownBlock ≠ some k → W2.heap[k]? = W.heap[k]?) (hat : v'.ownBlock = v2.ownBlock ∨ v'.ownBlock = some M) (hM : W.heap.size ≤ M) (hNM : N ≤ M) : L5 W2 base G v1 v' v3 v4 v5 (is ++ [.area a]) := by
  obtain ⟨ap1, ap2, ap3, ap4⟩ := apart_five h.apart
  have hlt := h.lt
  refine ⟨?_, ?_, ?_, ?_, ?_, apart_moved (N := W.heap.size) (pre := [v1]) (post := [v3, v4, v5]) h.apart (fun v hv k hk => (hlt v hv k hk).2) hat hM, own_moved (pre := [v1]) (post := [v3, v4, v5]) h.own hat (hG M hNM)⟩
  · have e : blocksOf (is ++ [.area a]) = blocksOf is := by unfold blocksOf; rw [List.filterMap_append]; simp
    rw [e]; exact building_other_g (pre := [v1]) (post := [v3, v4, v5]) h.b1 (fun k hk => (ap1 k hk).1) hgr hat hM
  · have hs := building_self_g (pre := [v1]) (post := [v3, v4, v5]) hall hc hN hG (fun v hv k hk => hold v hv k hk) hcon hgr hat hM
    have e : areasOf (is ++ [.area a]) = areasOf is ++ [a] := by unfold areasOf; rw [List.filterMap_append]; rfl
    rw [e]; exact hs
  · have e : aislesOf (is ++ [.area a]) = aislesOf is := by unfold aislesOf; rw [List.filterMap_append]; simp
    rw [e]; exact building_other_g (pre := [v1]) (post := [v3, v4, v5]) h.b3 (fun k hk e => (ap2 k e).1 hk) hgr hat hM
  · have e : pillarsOf (is ++ [.area a]) = pillarsOf is := by unfold pillarsOf; rw [List.filterMap_append]; simp
    rw [e]; exact building_other_g (pre := [v1]) (post := [v3, v4, v5]) h.b4 (fun k hk e => (ap2 k e).2.1 hk) hgr hat hM
  · have e : doorsOf (is ++ [.area a]) = doorsOf is := by unfold doorsOf; rw [List.filterMap_append]; simp
    rw [e]; exact building_other_g (pre := [v1]) (post := [v3, v4, v5]) h.b5 (fun k hk e => (ap2 k e).2.2 hk) hgr hat hM
theorem L5.aisle {a : BoxP} (h : L5 W base G v1 v2 v3 v4 v5 is) (hall : All2 (boxK.is W (FG base [v1, v2, v3, v4, v5] G)) css (aislesOf is)) (hc : boxK.is W (fun k => N ≤ k) c a) (hN : base ≤ N) (hG : ∀ k, N ≤ k → G k) (hold : ∀ v ∈ [v1, v2, v3, v4, v5], ∀ k, v.ownBlock = some k → k < N)
    (hcon : Con W2 base 48 boxK.size v' (css ++ [c])) (hgr : ∀ k, k < W.heap.size → v3.ownBlock ≠ some k → W2.heap[k]? = W.heap[k]?) (hat : v'.ownBlock = v3.ownBlock ∨ v'.ownBlock = some M) (hM : W.heap.size ≤ M) (hNM : N ≤ M) : L5 W2 base G v1 v2 v' v4 v5 (is ++ [.aisle a]) := by
  obtain ⟨ap1, ap2, ap3, ap4⟩ := apart_five h.apart
  have hlt := h.lt
  refine ⟨?_, ?_, ?_, ?_, ?_, apart_moved (N := W.heap.size) (pre := [v1, v2]) (post := [v4, v5]) h.apart (fun v hv k hk => (hlt v hv k hk).2) hat hM, own_moved (pre := [v1, v2]) (post := [v4, v5]) h.own hat (hG M hNM)⟩
  · have e : blocksOf (is ++ [.aisle a]) = blocksOf is := by unfold blocksOf; rw [List.filterMap_append]; simp
    rw [e]; exact building_other_g (pre := [v1, v2]) (post := [v4, v5]) h.b1 (fun k hk => (ap1 k hk).2.1) hgr hat hM
  · have e : areasOf (is ++ [.aisle a]) = areasOf is := by unfold areasOf; rw [List.filterMap_append]; simp
    rw [e]; exact building_other_g (pre := [v1, v2]) (post := [v4, v5]) h.b2 (fun k hk => (ap2 k hk).1) hgr hat hM
  · have hs := building_self_g (pre := [v1, v2]) (post := [v4, v5]) hall hc hN hG (fun v hv k hk => hold v hv k hk) hcon hgr hat hM
    have e : aislesOf (is ++ [.aisle a]) = aislesOf is ++ [a] := by unfold aislesOf; rw [List.filterMap_append]; rfl
    rw [e]; exact hs
  · have e : pillarsOf (is ++ [.aisle a]) = pillarsOf is := by unfold pillarsOf; rw [List.filterMap_append]; simp
    rw [e]; exact building_other_g (pre := [v1, v2]) (post := [v4, v5]) h.b4 (fun k hk e => (ap3 k e).1 hk) hgr hat hM
  · have e : doorsOf (is ++ [.aisle a]) = doorsOf is := by unfold doorsOf; rw [List.filterMap_append]; simp
    rw [e]; exact building_other_g (pre := [v1, v2]) (post := [v4, v5]) h.b5 (fun k hk e => (ap3 k e).2 hk) hgr hat hM
theorem L5.pillar {a : BoxP} (h : L5 W base G v1 v2 v3 v4 v5 is) (hall : All2 (boxK.is W (FG base [v1, v2, v3, v4, v5] G)) css (pillarsOf is)) (hc : boxK.is W (fun k => N ≤ k) c a) (hN : base ≤ N) (hG : ∀ k, N ≤ k → G k) (hold : ∀ v ∈ [v1, v2, v3, v4, v5], ∀ k, v.ownBlock = some k → k < N)
    (hcon : Con W2 base 48 boxK.size v' (css ++ [c])) (hgr : ∀ k, k < W.heap.size → v4.ownBlock ≠ some k → W2.heap[k]? = W.heap[k]?) (hat : v'.ownBlock = v4.ownBlock ∨ v'.ownBlock = some M) (hM : W.heap.size ≤ M) (hNM : N ≤ M) : L5 W2 base G v1 v2 v3 v' v5 (is ++ [.pillar a]) := by
  obtain ⟨ap1, ap2, ap3, ap4⟩ := apart_five h.apart
  have hlt := h.lt
  refine ⟨?_, ?_, ?_, ?_, ?_, apart_moved (N := W.heap.size) (pre := [v1, v2, v3]) (post := [v5]) h.apart (fun v hv k hk => (hlt v hv k hk).2) hat hM, own_moved (pre := [v1, v2, v3]) (post := [v5]) h.own hat (hG M hNM)⟩
  · have e : blocksOf (is ++ [.pillar a]) = blocksOf is := by unfold blocksOf; rw [List.filterMap_append]; simp
    rw [e]; exact building_other_g (pre := [v1, v2, v3]) (post := [v5]) h.b1 (fun k hk => (ap1 k hk).2.2.1) hgr hat hM
  · have e : areasOf (is ++ [.pillar a]) = areasOf is := by unfold areasOf; rw [List.filterMap_append]; simp
    rw [e]; exact building_other_g (pre := [v1, v2, v3]) (post := [v5]) h.b2 (fun k hk => (ap2 k hk).2.1) hgr hat hM
  · have e : aislesOf (is ++ [.pillar a]) = aislesOf is := by unfold aislesOf; rw [List.filterMap_append]; simp
    rw [e]; exact building_other_g (pre := [v1, v2, v3]) (post := [v5]) h.b3 (fun k hk => (ap3 k hk).1) hgr hat hM
  · have hs := building_self_g (pre := [v1, v2, v3]) (post := [v5]) hall hc hN hG (fun v hv k hk => hold v hv k hk) hcon hgr hat hM
    have e : pillarsOf (is ++ [.pillar a]) = pillarsOf is ++ [a] := by unfold pillarsOf; rw [List.filterMap_append]; rfl
    rw [e]; exact hs
  · have e : doorsOf (is ++ [.pillar a]) = doorsOf is := by unfold doorsOf; rw [List.filterMap_append]; simp
    rw [e]; exact building_other_g (pre := [v1, v2, v3]) (post := [v5]) h.b5 (fun k hk e => ap4 k e hk) hgr hat hM
theorem L5.door {a : Nat × Nat} (h : L5 W base G v1 v2 v3 v4 v5 is) (hall : All2 (pointK.is W (FG base [v1, v2, v3, v4, v5] G)) css (doorsOf is)) (hc : pointK.is W (fun k => N ≤ k) c a) (hN : base ≤ N) (hG : ∀ k, N ≤ k → G k) (hold : ∀ v ∈ [v1, v2, v3, v4, v5], ∀ k, v.ownBlock = some k → k < N)
    (hcon : Con W2 base 24 pointK.size v' (css ++ [c])) (hgr : ∀ k, k < W.heap.size → v5.ownBlock ≠ some k → W2.heap[k]? = W.heap[k]?) (hat : v'.ownBlock = v5.ownBlock ∨ v'.ownBlock = some M) (hM : W.heap.size ≤ M) (hNM : N ≤ M) : L5 W2 base G v1 v2 v3 v4 v' (is ++ [.door a]) := by
  obtain ⟨ap1, ap2, ap3, ap4⟩ := apart_five h.apart
  have hlt := h.lt
  refine ⟨?_, ?_, ?_, ?_, ?_, apart_moved (N := W.heap.size) (pre := [v1, v2, v3, v4]) (post := []) h.apart (fun v hv k hk => (hlt v hv k hk).2) hat hM, own_moved (pre := [v1, v2, v3, v4]) (post := []) h.own hat (hG M hNM)⟩
  · have e : blocksOf (is ++ [.door a]) = blocksOf is := by unfold blocksOf; rw [List.filterMap_append]; simp
    rw [e]; exact building_other_g (pre := [v1, v2, v3, v4]) (post := []) h.b1 (fun k hk => (ap1 k hk).2.2.2) hgr hat hM
  · have e : areasOf (is ++ [.door a]) = areasOf is := by unfold areasOf; rw [List.filterMap_append]; simp
    rw [e]; exact building_other_g (pre := [v1, v2, v3, v4]) (post := []) h.b2 (fun k hk => (ap2 k hk).2.2) hgr hat hM
  · have e : aislesOf (is ++ [.door a]) = aislesOf is := by unfold aislesOf; rw [List.filterMap_append]; simp
    rw [e]; exact building_other_g (pre := [v1, v2, v3, v4]) (post := []) h.b3 (fun k hk => (ap3 k hk).2) hgr hat hM
  · have e : pillarsOf (is ++ [.door a]) = pillarsOf is := by unfold pillarsOf; rw [List.filterMap_append]; simp
    rw [e]; exact building_other_g (pre := [v1, v2, v3, v4]) (post := []) h.b4 (fun k hk => ap4 k hk) hgr hat hM
  · have hs := building_self_g (pre := [v1, v2, v3, v4]) (post := []) hall hc hN hG (fun v hv k hk => hold v hv k hk) hcon hgr hat hM
    have e : doorsOf (is ++ [.door a]) = doorsOf is ++ [a] := by unfold doorsOf; rw [List.filterMap_append]; rfl
    rw [e]; exact hs
end
end Go.Proofs.YtlfjdohjfmfcdaaGreatDoor
