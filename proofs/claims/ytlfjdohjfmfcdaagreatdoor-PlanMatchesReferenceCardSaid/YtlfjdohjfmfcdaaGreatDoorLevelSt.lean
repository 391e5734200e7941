/-
  A level that is being parsed: five lists under construction, apart from each other.
-/
import Derived.Test.YtlfjdohjfmfcdaaGreatDoorWalkBlock
import Derived.Test.YtlfjdohjfmfcdaaGreatDoorWalkArea
namespace Go.Proofs.YtlfjdohjfmfcdaaGreatDoor
open Go.RowKit Go.Sort Go.Shelf Foyer.Plan

def Fv (base : Nat) (vs : List Value) (k : Nat) : Prop := base ≤ k ∧ ∀ v ∈ vs, v.ownBlock ≠ some k
def Apart (vs : List Value) : Prop := vs.Pairwise fun a b => ∀ k, a.ownBlock = some k → b.ownBlock ≠ some k
theorem fv_moved {base N M k : Nat} {pre post : List Value} {vi vi' : Value} (h : Fv base (pre ++ vi :: post) k) (hk : k < N) (hat : vi'.ownBlock = vi.ownBlock ∨ vi'.ownBlock = some M) (hM : N ≤ M) : Fv base (pre ++ vi' :: post) k := by
  refine ⟨h.1, fun v hv => ?_⟩
  rcases List.mem_append.1 hv with hv | hv
  · exact h.2 v (List.mem_append_left _ hv)
  · rcases List.mem_cons.1 hv with rfl | hv
    · rcases hat with e | e
      · rw [e]; exact h.2 vi (List.mem_append_right _ List.mem_cons_self)
      · rw [e]; intro e2; cases e2; omega
    · exact h.2 v (List.mem_append_right _ (List.mem_cons_of_mem _ hv))
theorem apart_moved {N M : Nat} {pre post : List Value} {vi vi' : Value} (h : Apart (pre ++ vi :: post)) (hlt : ∀ v ∈ pre ++ vi :: post, ∀ k, v.ownBlock = some k → k < N) (hat : vi'.ownBlock = vi.ownBlock ∨ vi'.ownBlock = some M) (hM : N ≤ M) : Apart (pre ++ vi' :: post) := by
  unfold Apart at *
  rw [List.pairwise_append, List.pairwise_cons] at *
  obtain ⟨h1, ⟨h2, h3⟩, h4⟩ := h
  refine ⟨h1, ⟨fun b hb k hk => ?_, h3⟩, fun a ha b hb k hk => ?_⟩
  · rcases hat with e | e
    · rw [e] at hk; exact h2 b hb k hk
    · rw [e] at hk
      cases hk
      intro e2
      have := hlt b (List.mem_append_right _ (List.mem_cons_of_mem _ hb)) _ e2
      omega
  · rcases List.mem_cons.1 hb with rfl | hb
    · rcases hat with e | e
      · rw [e]; exact h4 a ha vi List.mem_cons_self k hk
      · rw [e]
        intro e2
        cases e2
        have := hlt a (List.mem_append_left _ ha) _ hk
        omega
    · exact h4 a ha b (List.mem_cons_of_mem _ hb) k hk
section
variable {α : Type} {K : Kind α} {W W2 : World} {base M : Nat} {T : TypeId} {pre post : List Value} {vi vi' vj : Value} {xs : List α}
theorem building_other (hb : Building K W (Fv base (pre ++ vi :: post)) base T vj xs) (hj : ∀ k, vj.ownBlock = some k → vi.ownBlock ≠ some k) (hgr : ∀ k, k < W.heap.size → vi.ownBlock ≠ some k → W2.heap[k]? = W.heap[k]?) (hat : vi'.ownBlock = vi.ownBlock ∨ vi'.ownBlock = some M) (hM : W.heap.size ≤ M) :
    Building K W2 (Fv base (pre ++ vi' :: post)) base T vj xs :=
  hb.kept (fun k hk => hgr k (hb.lt hk).2 (hj k hk)) (fun k hk hlt => hgr k hlt (hk.2 vi (List.mem_append_right _ List.mem_cons_self))) (fun _ hk hlt => fv_moved hk hlt hat hM)
theorem building_self {css : List (List Value)} {c : List Value} {a : α} {N : Nat} (hall : All2 (K.is W (Fv base (pre ++ vi :: post))) css xs) (hc : K.is W (fun k => N ≤ k) c a) (hN : base ≤ N) (hold : ∀ v ∈ pre ++ vi :: post, ∀ k, v.ownBlock = some k → k < N)
    (hcon : Con W2 base T K.size vi' (css ++ [c])) (hgr : ∀ k, k < W.heap.size → vi.ownBlock ≠ some k → W2.heap[k]? = W.heap[k]?) (hat : vi'.ownBlock = vi.ownBlock ∨ vi'.ownBlock = some M) (hM : W.heap.size ≤ M) :
    Building K W2 (Fv base (pre ++ vi' :: post)) base T vi' (xs ++ [a]) := by
  refine ⟨css ++ [c], hcon, All2.snoc (All2.imp hall fun b x h => ?_) ?_⟩
  · exact K.moved h (fun k hk hlt => hgr k hlt (hk.2 vi (List.mem_append_right _ List.mem_cons_self))) (fun _ hk hlt => fv_moved hk hlt hat hM)
  · refine K.moved hc (fun k hk hlt => hgr k hlt (fun e => ?_)) (fun k hk hlt => fv_moved (vi := vi) ⟨Nat.le_trans hN hk, fun v hv e => ?_⟩ hlt hat hM)
    · have := hold vi (List.mem_append_right _ List.mem_cons_self) k e
      have h2 : N ≤ k := hk
      omega
    · have := hold v hv k e
      have h2 : N ≤ k := hk
      omega
end
/-- A level that is being parsed. -/
structure LvSt (W : World) (lb base : Nat) (c0 c1 c7 v1 v2 v3 v4 v5 : Value) (is : List ItemP) : Prop where
  blk : Blk W lb 38 [c0, c1, v1, v2, v3, v4, v5, c7]
  b1 : Building blockK W (Fv base [v1, v2, v3, v4, v5]) base 41 v1 (blocksOf is)
  b2 : Building areaK W (Fv base [v1, v2, v3, v4, v5]) base 50 v2 (areasOf is)
  b3 : Building boxK W (Fv base [v1, v2, v3, v4, v5]) base 48 v3 (aislesOf is)
  b4 : Building boxK W (Fv base [v1, v2, v3, v4, v5]) base 48 v4 (pillarsOf is)
  b5 : Building pointK W (Fv base [v1, v2, v3, v4, v5]) base 24 v5 (doorsOf is)
  apart : Apart [v1, v2, v3, v4, v5]
theorem LvSt.lt {W : World} {lb base : Nat} {c0 c1 c7 v1 v2 v3 v4 v5 : Value} {is : List ItemP} (h : LvSt W lb base c0 c1 c7 v1 v2 v3 v4 v5 is) : ∀ v ∈ [v1, v2, v3, v4, v5], ∀ k, v.ownBlock = some k → base ≤ k ∧ k < W.heap.size := by
  intro v hv k hk
  simp only [List.mem_cons, List.not_mem_nil, or_false] at hv
  rcases hv with rfl | rfl | rfl | rfl | rfl
  · exact h.b1.lt hk
  · exact h.b2.lt hk
  · exact h.b3.lt hk
  · exact h.b4.lt hk
  · exact h.b5.lt hk
theorem LvSt.kept {W W' : World} {E : Nat → Prop} {lb base : Nat} {c0 c1 c7 v1 v2 v3 v4 v5 : Value} {is : List ItemP} (h : LvSt W lb base c0 c1 c7 v1 v2 v3 v4 v5 is) (hk : Kp E W W') (hE : ∀ k, E k → k < base ∧ k ≠ lb) : LvSt W' lb base c0 c1 c7 v1 v2 v3 v4 v5 is := by
  have hl := h.lt
  have hv : ∀ v ∈ [v1, v2, v3, v4, v5], ∀ k, v.ownBlock = some k → W'.heap[k]? = W.heap[k]? := fun v hv k e => hk.block k (hl v hv k e).2 fun he => by have := (hE k he).1; have := (hl v hv k e).1; omega
  have hF : ∀ k, Fv base [v1, v2, v3, v4, v5] k → k < W.heap.size → W'.heap[k]? = W.heap[k]? := fun k hf hlt => hk.block k hlt fun he => by have := (hE k he).1; have := hf.1; omega
  exact ⟨h.blk.kept hk (fun he => (hE _ he).2 rfl), h.b1.kept (hv v1 (by simp)) hF (fun _ h _ => h), h.b2.kept (hv v2 (by simp)) hF (fun _ h _ => h), h.b3.kept (hv v3 (by simp)) hF (fun _ h _ => h), h.b4.kept (hv v4 (by simp)) hF (fun _ h _ => h), h.b5.kept (hv v5 (by simp)) hF (fun _ h _ => h), h.apart⟩
theorem apart_five {v1 v2 v3 v4 v5 : Value} (h : Apart [v1, v2, v3, v4, v5]) : (∀ k, v1.ownBlock = some k → v2.ownBlock ≠ some k ∧ v3.ownBlock ≠ some k ∧ v4.ownBlock ≠ some k ∧ v5.ownBlock ≠ some k) ∧ (∀ k, v2.ownBlock = some k → v3.ownBlock ≠ some k ∧ v4.ownBlock ≠ some k ∧ v5.ownBlock ≠ some k) ∧ (∀ k, v3.ownBlock = some k → v4.ownBlock ≠ some k ∧ v5.ownBlock ≠ some k) ∧ ∀ k, v4.ownBlock = some k → v5.ownBlock ≠ some k := by
  unfold Apart at h
  simp only [List.pairwise_cons, List.mem_cons, List.not_mem_nil, or_false, forall_eq_or_imp, forall_eq] at h
  obtain ⟨⟨a1, a2, a3, a4⟩, ⟨b1, b2, b3⟩, ⟨d1, d2⟩, e1, _⟩ := h
  exact ⟨fun k hk => ⟨a1 k hk, a2 k hk, a3 k hk, a4 k hk⟩, fun k hk => ⟨b1 k hk, b2 k hk, b3 k hk⟩, fun k hk => ⟨d1 k hk, d2 k hk⟩, fun k hk => e1 k hk⟩
theorem LvSt.block {W W2 : World} {lb base N M : Nat} {c0 c1 c7 v1 v2 v3 v4 v5 v' : Value} {is : List ItemP} {css : List (List Value)} {c : List Value} {a : BlockP} (h : LvSt W lb base c0 c1 c7 v1 v2 v3 v4 v5 is) (hlb : lb < base)
    (hall : All2 (blockK.is W (Fv base [v1, v2, v3, v4, v5])) css (blocksOf is)) (hc : blockK.is W (fun k => N ≤ k) c a) (hN : base ≤ N) (hold : ∀ v ∈ [v1, v2, v3, v4, v5], ∀ k, v.ownBlock = some k → k < N)
    (hcon : Con W2 base 41 blockK.size v' (css ++ [c])) (hgr : ∀ k, k < W.heap.size → v1.ownBlock ≠ some k → W2.heap[k]? = W.heap[k]?) (hat : v'.ownBlock = v1.ownBlock ∨ v'.ownBlock = some M) (hM : W.heap.size ≤ M) :
    LvSt (W2.setCell ⟨lb, 2, none⟩ v') lb base c0 c1 c7 v' v2 v3 v4 v5 (is ++ [.block a]) := by
  obtain ⟨ap1, ap2, ap3, ap4⟩ := apart_five h.apart
  have hlt := h.lt
  have hm : ∀ {β : Type} {K : Kind β} {T : TypeId} {v : Value} {xs : List β} (vs : List Value), (∀ x, x ∈ vs → x ∈ vs) → Building K W2 (Fv base vs) base T v xs → Building K (W2.setCell ⟨lb, 2, none⟩ v') (Fv base vs) base T v xs := fun vs _ hb =>
    hb.kept (fun k hk => Below.heap_setCell _ _ _ _ (by have := (hb.lt hk).1; show k ≠ lb; omega)) (fun k hk _ => Below.heap_setCell _ _ _ _ (by have := hk.1; show k ≠ lb; omega)) (fun _ h _ => h)
  have hne : v1.ownBlock ≠ some lb := fun e => by have := (hlt v1 (by simp) lb e).1; omega
  have hb2 : Blk W2 lb 38 [c0, c1, v1, v2, v3, v4, v5, c7] := (hgr lb h.blk.lt hne).trans h.blk
  refine ⟨hb2.set 2 v',
    (by
    have hs := building_self (pre := []) (post := [v2, v3, v4, v5]) hall hc hN (fun v hv k hk => hold v hv k hk) hcon hgr hat hM
    have e : blocksOf (is ++ [.block a]) = blocksOf is ++ [a] := by unfold blocksOf; rw [List.filterMap_append]; rfl
    rw [e]; exact hm _ (fun _ h => h) hs),
    (by
    have e : areasOf (is ++ [.block a]) = areasOf is := by unfold areasOf; rw [List.filterMap_append]; simp
    rw [e]; exact hm _ (fun _ h => h) (building_other (pre := []) (post := [v2, v3, v4, v5]) h.b2 (fun k hk e => (ap1 k e).1 hk) hgr hat hM)),
    (by
    have e : aislesOf (is ++ [.block a]) = aislesOf is := by unfold aislesOf; rw [List.filterMap_append]; simp
    rw [e]; exact hm _ (fun _ h => h) (building_other (pre := []) (post := [v2, v3, v4, v5]) h.b3 (fun k hk e => (ap1 k e).2.1 hk) hgr hat hM)),
    (by
    have e : pillarsOf (is ++ [.block a]) = pillarsOf is := by unfold pillarsOf; rw [List.filterMap_append]; simp
    rw [e]; exact hm _ (fun _ h => h) (building_other (pre := []) (post := [v2, v3, v4, v5]) h.b4 (fun k hk e => (ap1 k e).2.2.1 hk) hgr hat hM)),
    (by
    have e : doorsOf (is ++ [.block a]) = doorsOf is := by unfold doorsOf; rw [List.filterMap_append]; simp
    rw [e]; exact hm _ (fun _ h => h) (building_other (pre := []) (post := [v2, v3, v4, v5]) h.b5 (fun k hk e => (ap1 k e).2.2.2 hk) hgr hat hM)),
    apart_moved (N := W.heap.size) (pre := []) (post := [v2, v3, v4, v5]) h.apart (fun v hv k hk => (hlt v hv k hk).2) hat hM⟩
theorem LvSt.area {W W2 : World} {lb base N M : Nat} {c0 c1 c7 v1 v2 v3 v4 v5 v' : Value} {is : List ItemP} {css : List (List Value)} {c : List Value} {a : AreaP} (h : LvSt W lb base c0 c1 c7 v1 v2 v3 v4 v5 is) (hlb : lb < base)
    (hall : All2 (areaK.is W (Fv base [v1, v2, v3, v4, v5])) css (areasOf is)) (hc : areaK.is W (fun k => N ≤ k) c a) (hN : base ≤ N) (hold : ∀ v ∈ [v1, v2, v3, v4, v5], ∀ k, v.ownBlock = some k → k < N)
    (hcon : Con W2 base 50 areaK.size v' (css ++ [c])) (hgr : ∀ k, k < W.heap.size → v2.ownBlock ≠ some k → W2.heap[k]? = W.heap[k]?) (hat : v'.ownBlock = v2.ownBlock ∨ v'.ownBlock = some M) (hM : W.heap.size ≤ M) :
    LvSt (W2.setCell ⟨lb, 3, none⟩ v') lb base c0 c1 c7 v1 v' v3 v4 v5 (is ++ [.area a]) := by
  obtain ⟨ap1, ap2, ap3, ap4⟩ := apart_five h.apart
  have hlt := h.lt
  have hm : ∀ {β : Type} {K : Kind β} {T : TypeId} {v : Value} {xs : List β} (vs : List Value), (∀ x, x ∈ vs → x ∈ vs) → Building K W2 (Fv base vs) base T v xs → Building K (W2.setCell ⟨lb, 3, none⟩ v') (Fv base vs) base T v xs := fun vs _ hb =>
    hb.kept (fun k hk => Below.heap_setCell _ _ _ _ (by have := (hb.lt hk).1; show k ≠ lb; omega)) (fun k hk _ => Below.heap_setCell _ _ _ _ (by have := hk.1; show k ≠ lb; omega)) (fun _ h _ => h)
  have hne : v2.ownBlock ≠ some lb := fun e => by have := (hlt v2 (by simp) lb e).1; omega
  have hb2 : Blk W2 lb 38 [c0, c1, v1, v2, v3, v4, v5, c7] := (hgr lb h.blk.lt hne).trans h.blk
  refine ⟨hb2.set 3 v',
    (by
    have e : blocksOf (is ++ [.area a]) = blocksOf is := by unfold blocksOf; rw [List.filterMap_append]; simp
    rw [e]; exact hm _ (fun _ h => h) (building_other (pre := [v1]) (post := [v3, v4, v5]) h.b1 (fun k hk => (ap1 k hk).1) hgr hat hM)),
    (by
    have hs := building_self (pre := [v1]) (post := [v3, v4, v5]) hall hc hN (fun v hv k hk => hold v hv k hk) hcon hgr hat hM
    have e : areasOf (is ++ [.area a]) = areasOf is ++ [a] := by unfold areasOf; rw [List.filterMap_append]; rfl
    rw [e]; exact hm _ (fun _ h => h) hs),
    (by
    have e : aislesOf (is ++ [.area a]) = aislesOf is := by unfold aislesOf; rw [List.filterMap_append]; simp
    rw [e]; exact hm _ (fun _ h => h) (building_other (pre := [v1]) (post := [v3, v4, v5]) h.b3 (fun k hk e => (ap2 k e).1 hk) hgr hat hM)),
    (by
    have e : pillarsOf (is ++ [.area a]) = pillarsOf is := by unfold pillarsOf; rw [List.filterMap_append]; simp
    rw [e]; exact hm _ (fun _ h => h) (building_other (pre := [v1]) (post := [v3, v4, v5]) h.b4 (fun k hk e => (ap2 k e).2.1 hk) hgr hat hM)),
    (by
    have e : doorsOf (is ++ [.area a]) = doorsOf is := by unfold doorsOf; rw [List.filterMap_append]; simp
    rw [e]; exact hm _ (fun _ h => h) (building_other (pre := [v1]) (post := [v3, v4, v5]) h.b5 (fun k hk e => (ap2 k e).2.2 hk) hgr hat hM)),
    apart_moved (N := W.heap.size) (pre := [v1]) (post := [v3, v4, v5]) h.apart (fun v hv k hk => (hlt v hv k hk).2) hat hM⟩
theorem LvSt.aisle {W W2 : World} {lb base N M : Nat} {c0 c1 c7 v1 v2 v3 v4 v5 v' : Value} {is : List ItemP} {css : List (List Value)} {c : List Value} {a : BoxP} (h : LvSt W lb base c0 c1 c7 v1 v2 v3 v4 v5 is) (hlb : lb < base)
    (hall : All2 (boxK.is W (Fv base [v1, v2, v3, v4, v5])) css (aislesOf is)) (hc : boxK.is W (fun k => N ≤ k) c a) (hN : base ≤ N) (hold : ∀ v ∈ [v1, v2, v3, v4, v5], ∀ k, v.ownBlock = some k → k < N)
    (hcon : Con W2 base 48 boxK.size v' (css ++ [c])) (hgr : ∀ k, k < W.heap.size → v3.ownBlock ≠ some k → W2.heap[k]? = W.heap[k]?) (hat : v'.ownBlock = v3.ownBlock ∨ v'.ownBlock = some M) (hM : W.heap.size ≤ M) :
    LvSt (W2.setCell ⟨lb, 4, none⟩ v') lb base c0 c1 c7 v1 v2 v' v4 v5 (is ++ [.aisle a]) := by
  obtain ⟨ap1, ap2, ap3, ap4⟩ := apart_five h.apart
  have hlt := h.lt
  have hm : ∀ {β : Type} {K : Kind β} {T : TypeId} {v : Value} {xs : List β} (vs : List Value), (∀ x, x ∈ vs → x ∈ vs) → Building K W2 (Fv base vs) base T v xs → Building K (W2.setCell ⟨lb, 4, none⟩ v') (Fv base vs) base T v xs := fun vs _ hb =>
    hb.kept (fun k hk => Below.heap_setCell _ _ _ _ (by have := (hb.lt hk).1; show k ≠ lb; omega)) (fun k hk _ => Below.heap_setCell _ _ _ _ (by have := hk.1; show k ≠ lb; omega)) (fun _ h _ => h)
  have hne : v3.ownBlock ≠ some lb := fun e => by have := (hlt v3 (by simp) lb e).1; omega
  have hb2 : Blk W2 lb 38 [c0, c1, v1, v2, v3, v4, v5, c7] := (hgr lb h.blk.lt hne).trans h.blk
  refine ⟨hb2.set 4 v',
    (by
    have e : blocksOf (is ++ [.aisle a]) = blocksOf is := by unfold blocksOf; rw [List.filterMap_append]; simp
    rw [e]; exact hm _ (fun _ h => h) (building_other (pre := [v1, v2]) (post := [v4, v5]) h.b1 (fun k hk => (ap1 k hk).2.1) hgr hat hM)),
    (by
    have e : areasOf (is ++ [.aisle a]) = areasOf is := by unfold areasOf; rw [List.filterMap_append]; simp
    rw [e]; exact hm _ (fun _ h => h) (building_other (pre := [v1, v2]) (post := [v4, v5]) h.b2 (fun k hk => (ap2 k hk).1) hgr hat hM)),
    (by
    have hs := building_self (pre := [v1, v2]) (post := [v4, v5]) hall hc hN (fun v hv k hk => hold v hv k hk) hcon hgr hat hM
    have e : aislesOf (is ++ [.aisle a]) = aislesOf is ++ [a] := by unfold aislesOf; rw [List.filterMap_append]; rfl
    rw [e]; exact hm _ (fun _ h => h) hs),
    (by
    have e : pillarsOf (is ++ [.aisle a]) = pillarsOf is := by unfold pillarsOf; rw [List.filterMap_append]; simp
    rw [e]; exact hm _ (fun _ h => h) (building_other (pre := [v1, v2]) (post := [v4, v5]) h.b4 (fun k hk e => (ap3 k e).1 hk) hgr hat hM)),
    (by
    have e : doorsOf (is ++ [.aisle a]) = doorsOf is := by unfold doorsOf; rw [List.filterMap_append]; simp
    rw [e]; exact hm _ (fun _ h => h) (building_other (pre := [v1, v2]) (post := [v4, v5]) h.b5 (fun k hk e => (ap3 k e).2 hk) hgr hat hM)),
    apart_moved (N := W.heap.size) (pre := [v1, v2]) (post := [v4, v5]) h.apart (fun v hv k hk => (hlt v hv k hk).2) hat hM⟩
theorem LvSt.pillar {W W2 : World} {lb base N M : Nat} {c0 c1 c7 v1 v2 v3 v4 v5 v' : Value} {is : List ItemP} {css : List (List Value)} {c : List Value} {a : BoxP} (h : LvSt W lb base c0 c1 c7 v1 v2 v3 v4 v5 is) (hlb : lb < base)
    (hall : All2 (boxK.is W (Fv base [v1, v2, v3, v4, v5])) css (pillarsOf is)) (hc : boxK.is W (fun k => N ≤ k) c a) (hN : base ≤ N) (hold : ∀ v ∈ [v1, v2, v3, v4, v5], ∀ k, v.ownBlock = some k → k < N)
    (hcon : Con W2 base 48 boxK.size v' (css ++ [c])) (hgr : ∀ k, k < W.heap.size → v4.ownBlock ≠ some k → W2.heap[k]? = W.heap[k]?) (hat : v'.ownBlock = v4.ownBlock ∨ v'.ownBlock = some M) (hM : W.heap.size ≤ M) :
    LvSt (W2.setCell ⟨lb, 5, none⟩ v') lb base c0 c1 c7 v1 v2 v3 v' v5 (is ++ [.pillar a]) := by
  obtain ⟨ap1, ap2, ap3, ap4⟩ := apart_five h.apart
  have hlt := h.lt
  have hm : ∀ {β : Type} {K : Kind β} {T : TypeId} {v : Value} {xs : List β} (vs : List Value), (∀ x, x ∈ vs → x ∈ vs) → Building K W2 (Fv base vs) base T v xs → Building K (W2.setCell ⟨lb, 5, none⟩ v') (Fv base vs) base T v xs := fun vs _ hb =>
    hb.kept (fun k hk => Below.heap_setCell _ _ _ _ (by have := (hb.lt hk).1; show k ≠ lb; omega)) (fun k hk _ => Below.heap_setCell _ _ _ _ (by have := hk.1; show k ≠ lb; omega)) (fun _ h _ => h)
  have hne : v4.ownBlock ≠ some lb := fun e => by have := (hlt v4 (by simp) lb e).1; omega
  have hb2 : Blk W2 lb 38 [c0, c1, v1, v2, v3, v4, v5, c7] := (hgr lb h.blk.lt hne).trans h.blk
  refine ⟨hb2.set 5 v',
    (by
    have e : blocksOf (is ++ [.pillar a]) = blocksOf is := by unfold blocksOf; rw [List.filterMap_append]; simp
    rw [e]; exact hm _ (fun _ h => h) (building_other (pre := [v1, v2, v3]) (post := [v5]) h.b1 (fun k hk => (ap1 k hk).2.2.1) hgr hat hM)),
    (by
    have e : areasOf (is ++ [.pillar a]) = areasOf is := by unfold areasOf; rw [List.filterMap_append]; simp
    rw [e]; exact hm _ (fun _ h => h) (building_other (pre := [v1, v2, v3]) (post := [v5]) h.b2 (fun k hk => (ap2 k hk).2.1) hgr hat hM)),
    (by
    have e : aislesOf (is ++ [.pillar a]) = aislesOf is := by unfold aislesOf; rw [List.filterMap_append]; simp
    rw [e]; exact hm _ (fun _ h => h) (building_other (pre := [v1, v2, v3]) (post := [v5]) h.b3 (fun k hk => (ap3 k hk).1) hgr hat hM)),
    (by
    have hs := building_self (pre := [v1, v2, v3]) (post := [v5]) hall hc hN (fun v hv k hk => hold v hv k hk) hcon hgr hat hM
    have e : pillarsOf (is ++ [.pillar a]) = pillarsOf is ++ [a] := by unfold pillarsOf; rw [List.filterMap_append]; rfl
    rw [e]; exact hm _ (fun _ h => h) hs),
    (by
    have e : doorsOf (is ++ [.pillar a]) = doorsOf is := by unfold doorsOf; rw [List.filterMap_append]; simp
    rw [e]; exact hm _ (fun _ h => h) (building_other (pre := [v1, v2, v3]) (post := [v5]) h.b5 (fun k hk e => ap4 k e hk) hgr hat hM)),
    apart_moved (N := W.heap.size) (pre := [v1, v2, v3]) (post := [v5]) h.apart (fun v hv k hk => (hlt v hv k hk).2) hat hM⟩
theorem LvSt.door {W W2 : World} {lb base N M : Nat} {c0 c1 c7 v1 v2 v3 v4 v5 v' : Value} {is : List ItemP} {css : List (List Value)} {c : List Value} {a : (Nat × Nat)} (h : LvSt W lb base c0 c1 c7 v1 v2 v3 v4 v5 is) (hlb : lb < base)
    (hall : All2 (pointK.is W (Fv base [v1, v2, v3, v4, v5])) css (doorsOf is)) (hc : pointK.is W (fun k => N ≤ k) c a) (hN : base ≤ N) (hold : ∀ v ∈ [v1, v2, v3, v4, v5], ∀ k, v.ownBlock = some k → k < N)
    (hcon : Con W2 base 24 pointK.size v' (css ++ [c])) (hgr : ∀ k, k < W.heap.size → v5.ownBlock ≠ some k → W2.heap[k]? = W.heap[k]?) (hat : v'.ownBlock = v5.ownBlock ∨ v'.ownBlock = some M) (hM : W.heap.size ≤ M) :
    LvSt (W2.setCell ⟨lb, 6, none⟩ v') lb base c0 c1 c7 v1 v2 v3 v4 v' (is ++ [.door a]) := by
  obtain ⟨ap1, ap2, ap3, ap4⟩ := apart_five h.apart
  have hlt := h.lt
  have hm : ∀ {β : Type} {K : Kind β} {T : TypeId} {v : Value} {xs : List β} (vs : List Value), (∀ x, x ∈ vs → x ∈ vs) → Building K W2 (Fv base vs) base T v xs → Building K (W2.setCell ⟨lb, 6, none⟩ v') (Fv base vs) base T v xs := fun vs _ hb =>
    hb.kept (fun k hk => Below.heap_setCell _ _ _ _ (by have := (hb.lt hk).1; show k ≠ lb; omega)) (fun k hk _ => Below.heap_setCell _ _ _ _ (by have := hk.1; show k ≠ lb; omega)) (fun _ h _ => h)
  have hne : v5.ownBlock ≠ some lb := fun e => by have := (hlt v5 (by simp) lb e).1; omega
  have hb2 : Blk W2 lb 38 [c0, c1, v1, v2, v3, v4, v5, c7] := (hgr lb h.blk.lt hne).trans h.blk
  refine ⟨hb2.set 6 v',
    (by
    have e : blocksOf (is ++ [.door a]) = blocksOf is := by unfold blocksOf; rw [List.filterMap_append]; simp
    rw [e]; exact hm _ (fun _ h => h) (building_other (pre := [v1, v2, v3, v4]) (post := []) h.b1 (fun k hk => (ap1 k hk).2.2.2) hgr hat hM)),
    (by
    have e : areasOf (is ++ [.door a]) = areasOf is := by unfold areasOf; rw [List.filterMap_append]; simp
    rw [e]; exact hm _ (fun _ h => h) (building_other (pre := [v1, v2, v3, v4]) (post := []) h.b2 (fun k hk => (ap2 k hk).2.2) hgr hat hM)),
    (by
    have e : aislesOf (is ++ [.door a]) = aislesOf is := by unfold aislesOf; rw [List.filterMap_append]; simp
    rw [e]; exact hm _ (fun _ h => h) (building_other (pre := [v1, v2, v3, v4]) (post := []) h.b3 (fun k hk => (ap3 k hk).2) hgr hat hM)),
    (by
    have e : pillarsOf (is ++ [.door a]) = pillarsOf is := by unfold pillarsOf; rw [List.filterMap_append]; simp
    rw [e]; exact hm _ (fun _ h => h) (building_other (pre := [v1, v2, v3, v4]) (post := []) h.b4 (fun k hk => ap4 k hk) hgr hat hM)),
    (by
    have hs := building_self (pre := [v1, v2, v3, v4]) (post := []) hall hc hN (fun v hv k hk => hold v hv k hk) hcon hgr hat hM
    have e : doorsOf (is ++ [.door a]) = doorsOf is ++ [a] := by unfold doorsOf; rw [List.filterMap_append]; rfl
    rw [e]; exact hm _ (fun _ h => h) hs),
    apart_moved (N := W.heap.size) (pre := [v1, v2, v3, v4]) (post := []) h.apart (fun v hv k hk => (hlt v hv k hk).2) hat hM⟩
end Go.Proofs.YtlfjdohjfmfcdaaGreatDoor
