/-
  The walk of the next higher level.
-/
import Derived.Test.YtkjgdgocjnocaaaDoorWalkChunk
import Derived.Test.YtkjgdgocjnocaaaDoorMid
import Derived.Test.YtkjgdgocjnocaaaDoorHands
import Derived.Test.YtkjgdgocjnocaaaDoorStep
namespace Go.Proofs.YtkjgdgocjnocaaaDoor
open Go.RowKit Go.Sort Go.Shelf Foyer.Digest Foyer.Tree Foyer.Round
attribute [local go_sem] Oper.semAt_some

def pairAt (L : List (List UInt8)) (k : Nat) : List UInt8 := if 2 * k + 1 < L.length then nodeD (L.getD (2 * k) []) (L.getD (2 * k + 1) []) else L.getD (2 * k) []
theorem up_pairs (L : List (List UInt8)) : (List.range ((L.length + 1) / 2)).map (pairAt L) = up L := by
  refine List.ext_getElem (by simp [up_length]) fun k h1 h2 => ?_
  have hk : k < (L.length + 1) / 2 := by simpa using h1
  have h3 := up_getD L (2 * k) (by omega)
  rw [show 2 * k / 2 = k by omega] at h3
  have e : sib (2 * k) = 2 * k + 1 := by unfold sib; rw [if_pos (by omega)]
  rw [e] at h3
  have h4 : (up L).getD k [] = (up L)[k] := by rw [List.getD_eq_getElem?_getD, List.getElem?_eq_getElem h2]; rfl
  rw [← h4, h3]
  simp only [List.getElem_map, List.getElem_range]
  unfold pairAt join
  rw [if_pos (by omega : 2 * k % 2 = 0)]
theorem OwnS.form {w : World} {B : Nat} {v : Value} {ls : List (List UInt8)} (h : OwnS w B v ls) (h1 : 1 ≤ ls.length) : ∃ g cap, v = .slice (some ⟨g, 0, none⟩) ls.length cap ∧ ls.length ≤ cap ∧ cap ≤ maxLen ∧ B ≤ g ∧ g < w.heap.size ∧ RdS w (some ⟨g, 0, none⟩) ls := by
  have hs := h.slice
  rcases h.2 with ⟨_, hn⟩ | ⟨g, cap, cur, rfl, hB, hg, hc, hm, _, _⟩
  · omega
  · obtain ⟨p, cap', e, hr, _⟩ := hs
    simp only [Value.slice.injEq] at e
    obtain ⟨rfl, _, rfl⟩ := e
    exact ⟨g, cap, rfl, hc, hm, hB, (Array.getElem?_eq_some_iff.1 hg).1, hr⟩
theorem keepC_t {b1 b2 : Nat} {A B C : World} (h : KeepC b1 b2 A B) (k : KeepC b1 b2 B C) : KeepC b1 b2 A C := ⟨k.1.trans h.1, k.2.trans h.2⟩
theorem cell_putObj {W : World} {l : Nat} {o : Obj} {a : Addr} (h : a.block ≠ l) : (W.putObj l o).cell? a = W.cell? a := World.cell?_of_block (World.putObj_heap_other h)

set_option linter.unusedSimpArgs false in
set_option maxRecDepth 100000 in
set_option maxHeartbeats 1000000 in
theorem above_any (L : List (List UInt8)) (B0 : Nat) (v : Value) (w : World) (ho : OwnS w B0 v L) (h1 : 1 ≤ L.length) (hl : L.length ≤ 100000) (ht : ∀ t ∈ L, t.length ≤ 1000000) (hE : Env w) :
    Calls Tryd.prog 40 #[v] w fun e w' => ∃ v', e = .returned v' ∧ OwnS w' w.heap.size v' (up L) ∧ Below w.heap.size w w' := by
  obtain ⟨g, cap, rfl, hcap, hcm, _, hglt, hr⟩ := ho.form h1
  clear ho
  obtain ⟨i0, hi, hz0, hz1, hz2⟩ := info_parts strInfo
  obtain ⟨n, hn⟩ : ∃ n, L.length = n := ⟨_, rfl⟩
  rw [hn] at h1 hl hcap ⊢
  refine (callsIn_wide (n := 3)).1 ?_
  refine callsIn_of_wp_marks Tryd.func40 rfl trivial ?_ rfl
  simp only [Tryd.ntmps40, List.size_toArray, List.length_cons, List.length_nil, Nat.reduceAdd, Nat.reduceSub, Array.replicate_succ, Array.replicate_zero, List.push_toArray, List.append_toArray, List.nil_append, List.cons_append]
  gi_wp2_with (first
    | (refine ⟨trivial, ?_⟩; gi_at_call 29; refine (callsIn_wide.2 (halved_any n (by omega) _)).mono ?_; rintro e W1 ⟨rfl, rfl⟩)
    | (gi_at_make; refine wpListIn_make_own _ rfl _ _ 22 rfl w.heap.size 9 i0 (.string ⟨#[]⟩) 1 Tryd.underlying22 hi hz0 hz1 .i64 .i64 _ ((n + 1) / 2) rfl rfl rfl (by rw [hz2]; omega) (by unfold maxLen; omega) (Nat.le_refl _) ?_; intro w1 hown1 hgrow1)
    | (refine ⟨trivial, ?_⟩; gi_at_call 49; refine (callsIn_wide.2 (chunk_any _ _ _ _)).mono ?_; rintro e W1 ⟨rfl, rfl⟩))
  obtain ⟨W0, hW0⟩ : ∃ W0, (((w1.alloc (.cells #[.slice (some ⟨w.heap.size, 0, none⟩) 0 ((n + 1) / 2)] 22)).alloc (.cells #[.slice (some ⟨g, 0, none⟩) n cap] 22)).alloc (.cells #[.int .i64 2] 3)) = W0 := ⟨_, rfl⟩
  have hsz : W0.heap.size = w1.heap.size + 3 := by rw [← hW0]; simp
  have hbw1 : Below w.heap.size w w1 := (Below.refl _ w).grown hgrow1 (Nat.le_refl _) (fun k e => by cases e)
  have hB0 : Below w.heap.size w W0 := by
    rw [← hW0]
    exact ((hbw1.alloc hbw1.size _).alloc (by have := hbw1.size; simp; omega) _).alloc (by have := hbw1.size; simp; omega) _
  have bX : Boxed W0 w1.heap.size 22 (.slice (some ⟨w.heap.size, 0, none⟩) 0 ((n + 1) / 2)) := by
    rw [← hW0]; exact ((Boxed.new w1 _ _).alloc _).alloc _
  have hown0 : W0.ownsRow w.heap.size 9 1 (.slice (some ⟨w.heap.size, 0, none⟩) 0 ((n + 1) / 2)) 0 [] := by
    rw [← hW0]; exact ((hown1.alloc _).alloc _).alloc _
  have bC1 : Boxed W0 (w1.heap.size + 1) 22 (.slice (some ⟨g, 0, none⟩) n cap) := by
    rw [← hW0]
    have := (Boxed.new (w1.alloc (.cells #[.slice (some ⟨w.heap.size, 0, none⟩) 0 ((n + 1) / 2)] 22)) 22 (.slice (some ⟨g, 0, none⟩) n cap)).alloc (.cells #[.int .i64 2] 3)
    simpa using this
  have bC2 : Boxed W0 (w1.heap.size + 1 + 1) 3 (.int .i64 2) := by
    rw [← hW0]
    have := Boxed.new ((w1.alloc (.cells #[.slice (some ⟨w.heap.size, 0, none⟩) 0 ((n + 1) / 2)] 22)).alloc (.cells #[.slice (some ⟨g, 0, none⟩) n cap] 22)) 3 (.int .i64 2)
    simpa using this
  have hc1 := bC1.cell
  have hc2 := bC2.cell
  rw [hW0]
  have hw1 := hbw1.size
  clear hW0 hown1 hgrow1 hbw1
  refine wpIn_rangeFunc_ownF rfl (by omega) (gf := 54) (lb := #[.pointer (some ⟨w1.heap.size + 1, 0, none⟩), .pointer (some ⟨w1.heap.size + 1 + 1, 0, none⟩)]) rfl trivial (enters_of Tryd.func54 (by kernel_rfl) rfl)
    (chunk_stops (w1.heap.size + 1) (w1.heap.size + 1 + 1) g 0 n cap (by omega) hcap hcm W0 hc1 hc2) keepC_t
    (fun W l o o' hl _ _ _ => ⟨cell_putObj (by show w1.heap.size + 1 ≠ l; omega), cell_putObj (by show w1.heap.size + 1 + 1 ≠ l; omega)⟩) (Below.refl _ _) (fun _ => rfl)
    (fun pre W => (∃ v, Boxed W w1.heap.size 22 v ∧ W.ownsRow w.heap.size 9 1 v (pre.map fun x => pairAt L x.1).length ((pre.map fun x => pairAt L x.1).map fun l => Value.string ⟨l.toArray⟩) ∧ True) ∧ (Boxed W (w1.heap.size + 1) 22 (.slice (some ⟨g, 0, none⟩) n cap) ∧ Boxed W (w1.heap.size + 1 + 1) 3 (.int .i64 2)) ∧ Below w.heap.size w W)
    (fun _ _ _ => False)
    (OwnFrom.and (Own.from (holdsRow_own w.heap.size w1.heap.size 22 9 1 (fun (pre : List (PairOf n)) => (pre.map fun x => pairAt L x.1).length) (fun (pre : List (PairOf n)) => (pre.map fun x => pairAt L x.1).map fun l => Value.string ⟨l.toArray⟩) (fun _ _ => True)) _) (OwnFrom.and (OwnFrom.and (Own.from (boxed_own (w1.heap.size + 1) 22 (fun _ => .slice (some ⟨g, 0, none⟩) n cap)) _) (Own.from (boxed_own (w1.heap.size + 1 + 1) 3 (fun _ => .int .i64 2)) _)) (ownFrom_below (Nat.le_refl _) (by omega))))
    (fun _ _ _ _ _ hs _ _ => hs)
    ⟨⟨_, bX, hown0, trivial⟩, ⟨bC1, bC2⟩, hB0⟩
    (fun x => { tmps := #[.slice (some ⟨g, 0, none⟩) n cap, undef, .slice none 0 0, .pointer (some ⟨w1.heap.size, 0, none⟩), .slice (some ⟨g, 2 * x.1, none⟩) (min 2 (n - 2 * x.1)) (min 2 (n - 2 * x.1)), .slice (some ⟨g, 0, none⟩) n cap, .int .i64 n, .int .i64 (((n : Int) + 1) / 2), .slice (some ⟨w.heap.size, 0, none⟩) 0 ((n + 1) / 2), .slice (some ⟨g, 0, none⟩) n cap, .func (.func 54) #[] #[.pointer (some ⟨w1.heap.size + 1, 0, none⟩), .pointer (some ⟨w1.heap.size + 1 + 1, 0, none⟩)], .slice (some ⟨g, 2 * x.1, none⟩) (min 2 (n - 2 * x.1)) (min 2 (n - 2 * x.1)), undef, undef, undef, undef, undef, undef, undef, undef, undef, undef, undef, undef, undef, undef, undef, undef, undef, undef, undef, undef], defers := [] }) ?assign ?body ?done ?stop
  case assign =>
    intro l x W K hK
    gi_wp2
    exact hK
  case body =>
    rintro l pre ⟨k, hk⟩ W ⟨⟨v, bv, ov, _⟩, ⟨bD1, bD2⟩, hB⟩ hlt
    dsimp only at hk ⊢
    have hRW : RdS W (some ⟨g, 0, none⟩) L := hr.below (Nat.le_refl _) hB
    have hgW : g < W.heap.size := Nat.lt_of_lt_of_le hglt hB.size
    have hcell : ∀ j, j < n → W.cell? ⟨g, j, none⟩ = some (.string ⟨(L.getD j []).toArray⟩) := fun j hj => by
      have := rdS_at' hRW j (by rw [hn]; exact hj)
      rwa [Nat.zero_add] at this
    have hE2 : Env W := hE.below hB
    have htj : ∀ j, j < n → (L.getD j []).length ≤ 1000000 := fun j hj => ht _ (getD_mem (by rw [hn]; exact hj))
    have hcb := bv.cell
    obtain ⟨ls, hls⟩ : ∃ ls, (pre.map fun x => pairAt L x.1) = ls := ⟨_, rfl⟩
    have hlsl : ls.length = pre.length := by rw [← hls, List.length_map]
    have hnext : ((pre ++ [(⟨k, hk⟩ : PairOf n)]).map fun x => pairAt L x.1) = ls ++ [pairAt L k] := by rw [List.map_append, hls]; rfl
    rw [hls] at ov
    have HNX := Lib.hid hnext; clear hnext hls
    have ov' : OwnS W w.heap.size v ls := ov
    clear ov
    by_cases h2 : 2 * k + 1 < n
    · have hm : min 2 (n - 2 * k) = 2 := by omega
      rw [hm]
      have hp : pairAt L k = nodeD (L.getD (2 * k) []) (L.getD (2 * k + 1) []) := by unfold pairAt; rw [if_pos (by rw [hn]; exact h2)]
      have hx0 := hcell (2 * k) hk
      have hx1 := hcell (2 * k + 1) h2
      have hl0 := htj (2 * k) hk
      have hl1 := htj (2 * k + 1) h2
      clear hcell htj hc1 hc2 bX bC1 bC2 hown0 hB0 hE hr ht hRW
      generalize L.getD (2 * k) [] = a at *
      generalize L.getD (2 * k + 1) [] = b at *
      obtain ⟨t, hnt⟩ : ∃ t, nodeD a b = t := ⟨_, rfl⟩
      rw [hnt] at hp
      have HP := Lib.hid hp; have HNT := Lib.hid hnt; clear hp hnt
      gi_wp2
      refine region_round (by kernel_rfl) (by kernel_rfl) (fun ⟨_, _, h⟩ => h) ?_
      refine any_of_held (S := fun w' => Below W.drew.heap.size W.drew w') (N := [9, 10]) _ _ _ _ ?_
      have hS0 : Below W.drew.heap.size W.drew W.drew := Below.refl _ _
      have hbd : Below W.heap.size W W.drew := below_drewN (Below.refl _ _) 1
      refine held_take [2, 3, 7, 8, 9, 10] (i := 1) (v := .slice (some ⟨g, 2 * k, none⟩) 2 2) rfl (by kernel_rfl) (fun _ _ _ h => h) (Or.inl ⟨by rfl, fun w' hS => by go_simp⟩) hS0 ?_
      try simp only [Act.put, List.setIfInBounds_toArray, List.set_cons_zero, List.set_cons_succ]
      refine held_take [3, 7, 8, 9, 10] (i := 2) (v := .pointer (some ⟨g, 2 * k, none⟩)) rfl (by kernel_rfl) (fun _ _ _ h => h) (Or.inl ⟨by rfl, fun w' hS => by go_simp⟩) hS0 ?_
      try simp only [Act.put, List.setIfInBounds_toArray, List.set_cons_zero, List.set_cons_succ]
      refine held_take [7, 8, 9, 10] (i := 3) (v := .string ⟨a.toArray⟩) rfl (by kernel_rfl) (fun _ _ _ h => h) (Or.inl ⟨by rfl, fun w' hS => by have hc := (hS.cell (p := ⟨g, 2 * k, none⟩) hgW).trans hx0; go_simp⟩) hS0 ?_
      try simp only [Act.put, List.setIfInBounds_toArray, List.set_cons_zero, List.set_cons_succ]
      refine held_take [5, 6, 7, 8, 9, 10] (i := 4) (v := .slice (some ⟨g, 2 * k, none⟩) 2 2) rfl (by kernel_rfl) (fun _ _ _ h => h) (Or.inl ⟨by rfl, fun w' hS => by go_simp⟩) hS0 ?_
      try simp only [Act.put, List.setIfInBounds_toArray, List.set_cons_zero, List.set_cons_succ]
      refine held_take [6, 7, 8, 9, 10] (i := 5) (v := .pointer (some ⟨g, 2 * k + 1, none⟩)) rfl (by kernel_rfl) (fun _ _ _ h => h) (Or.inl ⟨by rfl, fun w' hS => by go_simp⟩) hS0 ?_
      try simp only [Act.put, List.setIfInBounds_toArray, List.set_cons_zero, List.set_cons_succ]
      refine held_take [7, 8, 9, 10] (i := 6) (v := .string ⟨b.toArray⟩) rfl (by kernel_rfl) (fun _ _ _ h => h) (Or.inl ⟨by rfl, fun w' hS => by have hc := (hS.cell (p := ⟨g, 2 * k + 1, none⟩) hgW).trans hx1; go_simp⟩) hS0 ?_
      try simp only [Act.put, List.setIfInBounds_toArray, List.set_cons_zero, List.set_cons_succ]
      refine held_take [9, 10] (i := 0) (v := v) rfl (by kernel_rfl) (fun _ _ _ h => h) (Or.inl ⟨by rfl, fun w' hS => by have hc := (hS.cell (p := ⟨w1.heap.size, 0, none⟩) bv.lt).trans hcb; go_simp⟩) hS0 ?_
      try simp only [Act.put, List.setIfInBounds_toArray, List.set_cons_zero, List.set_cons_succ]
      refine held_one (i := 7) rfl (by kernel_rfl) (fun K hK => ?_)
      go_simp
      refine (nodeDigest_any a b t HNT.out hl0 hl1 _ (hE2.below hbd)).mono ?_; rintro e wa ⟨rfl, hba⟩
      refine hK.out _ _ (fun _ => hba) ?_
      clear hK K
      try simp only [Act.put, List.setIfInBounds_toArray, List.set_cons_zero, List.set_cons_succ]
      have hba0 : Below W.heap.size W wa := hbd.trans hba
      have ova : OwnS wa w.heap.size v ls := ov'.kept hba0
      have bva : Boxed wa w1.heap.size 22 v := bv.kept (grown_of_below hba0) (fun e => by cases e)
      have bD1a := bD1.kept (grown_of_below hba0) (fun e => by cases e)
      have bD2a := bD2.kept (grown_of_below hba0) (fun e => by cases e)
      refine held_one (i := 8) rfl (by kernel_rfl) (fun K hK => ?_)
      go_simp
      refine hK.out _ _ (fun _ => hba.alloc hba.size _) ?_
      clear hK K
      try simp only [Act.put, List.setIfInBounds_toArray, List.set_cons_zero, List.set_cons_succ]
      refine held_one (i := 9) rfl (by kernel_rfl) (fun K hK => ?_)
      refine step_append_w _ (by kernel_rfl) (.tmp 15) (.tmp 23) rfl w.heap.size v ls pre.length hlsl (by kernel_rfl) (ova.alloc _) wa.heap.size 0 1 [t] 1 rfl (by decide) (by kernel_rfl) ?c1 ?d3 ?d5 ?_
      case c1 =>
        intro j hj
        match j, hj with
        | 0, _ => exact (Boxed.new wa 9 (.string ⟨t.toArray⟩)).cell
      case d3 => omega
      case d5 => have := hB.size; have := hba.size; simp at *; omega
      intro g2 cap2 wx hox hgx _
      obtain ⟨bx1, bx2, ox2, kx2, hbx2⟩ := bva.appended (by decide) ova (Nat.le_trans hB.size hba.size) hw1 hox hgx
      refine hK.out _ _ (fun hn => (hn (by decide)).elim) ?_
      clear hK K
      try simp only [Act.put, List.setIfInBounds_toArray, List.set_cons_zero, List.set_cons_succ]
      refine held_one (i := 10) rfl (by kernel_rfl) (fun K hK => ?_)
      have hc1 := bx1.cell
      have hf1 := bx1.frozen
      go_simp
      refine hK.out _ _ (fun hn => (hn (by decide)).elim) ?_
      clear hK K
      refine held_done (by kernel_rfl) ?_ _
      have bE1 := ((bD1a.alloc _).kept hgx (bD1a.not_row (by decide) ova)).other (B' := w1.heap.size) (by omega) (.slice (some ⟨g2, 0, none⟩) (pre.length + 1) cap2)
      have bE2 := ((bD2a.alloc _).kept hgx (bD2a.not_row (by decide) ova)).other (B' := w1.heap.size) (by omega) (.slice (some ⟨g2, 0, none⟩) (pre.length + 1) cap2)
      refine ⟨(KeepsOthers.of_grownBy (grown_of_below hba0) (fun j o e => by cases e)).trans kx2, ⟨bE1.cell.trans bD1.cell.symm, bE2.cell.trans bD2.cell.symm⟩, ⟨_, bx2, ?_, trivial⟩, ⟨bE1, bE2⟩, ?_⟩
      · rw [HNX.out, HP.out]; exact ox2
      · exact (hB.trans (hba0.mono hB.size)).trans hbx2
    · have hm : min 2 (n - 2 * k) = 1 := by omega
      rw [hm]
      have hp : pairAt L k = L.getD (2 * k) [] := by unfold pairAt; rw [if_neg (by rw [hn]; exact h2)]
      have hx0 := hcell (2 * k) hk
      clear hcell htj hc1 hc2 bX bC1 bC2 hown0 hB0 hE hr ht hRW
      generalize L.getD (2 * k) [] = t at *
      have HP := Lib.hid hp; clear hp
      gi_wp2
      refine region_round (by kernel_rfl) (by kernel_rfl) (fun ⟨_, _, h⟩ => h) ?_
      refine any_of_held (S := fun w' => Below W.drew.heap.size W.drew w') (N := [5, 6]) _ _ _ _ ?_
      have hS0 : Below W.drew.heap.size W.drew W.drew := Below.refl _ _
      have hba0 : Below W.heap.size W W.drew := below_drewN (Below.refl _ _) 1
      refine held_take [2, 3, 4, 5, 6] (i := 1) (v := .slice (some ⟨g, 2 * k, none⟩) 1 1) rfl (by kernel_rfl) (fun _ _ _ h => h) (Or.inl ⟨by rfl, fun w' hS => by go_simp⟩) hS0 ?_
      try simp only [Act.put, List.setIfInBounds_toArray, List.set_cons_zero, List.set_cons_succ]
      refine held_take [3, 4, 5, 6] (i := 2) (v := .pointer (some ⟨g, 2 * k, none⟩)) rfl (by kernel_rfl) (fun _ _ _ h => h) (Or.inl ⟨by rfl, fun w' hS => by go_simp⟩) hS0 ?_
      try simp only [Act.put, List.setIfInBounds_toArray, List.set_cons_zero, List.set_cons_succ]
      refine held_take [4, 5, 6] (i := 3) (v := .string ⟨t.toArray⟩) rfl (by kernel_rfl) (fun _ _ _ h => h) (Or.inl ⟨by rfl, fun w' hS => by have hc := (hS.cell (p := ⟨g, 2 * k, none⟩) hgW).trans hx0; go_simp⟩) hS0 ?_
      try simp only [Act.put, List.setIfInBounds_toArray, List.set_cons_zero, List.set_cons_succ]
      refine held_take [5, 6] (i := 0) (v := v) rfl (by kernel_rfl) (fun _ _ _ h => h) (Or.inl ⟨by rfl, fun w' hS => by have hc := (hS.cell (p := ⟨w1.heap.size, 0, none⟩) bv.lt).trans hcb; go_simp⟩) hS0 ?_
      try simp only [Act.put, List.setIfInBounds_toArray, List.set_cons_zero, List.set_cons_succ]
      obtain ⟨wa, hwa⟩ : ∃ wa, W.drew = wa := ⟨_, rfl⟩
      rw [hwa] at hS0 hba0 ⊢
      have ova : OwnS wa w.heap.size v ls := ov'.kept hba0
      have bva : Boxed wa w1.heap.size 22 v := bv.kept (grown_of_below hba0) (fun e => by cases e)
      have bD1a := bD1.kept (grown_of_below hba0) (fun e => by cases e)
      have bD2a := bD2.kept (grown_of_below hba0) (fun e => by cases e)
      refine held_one (i := 4) rfl (by kernel_rfl) (fun K hK => ?_)
      go_simp
      refine hK.out _ _ (fun _ => hS0.alloc hS0.size _) ?_
      clear hK K
      try simp only [Act.put, List.setIfInBounds_toArray, List.set_cons_zero, List.set_cons_succ]
      refine held_one (i := 5) rfl (by kernel_rfl) (fun K hK => ?_)
      refine step_append_w _ (by kernel_rfl) (.tmp 25) (.tmp 29) rfl w.heap.size v ls pre.length hlsl (by kernel_rfl) (ova.alloc _) wa.heap.size 0 1 [t] 1 rfl (by decide) (by kernel_rfl) ?c1 ?d3 ?d5 ?_
      case c1 =>
        intro j hj
        match j, hj with
        | 0, _ => exact (Boxed.new wa 9 (.string ⟨t.toArray⟩)).cell
      case d3 => omega
      case d5 => have := hB.size; have := hba0.size; simp at *; omega
      intro g2 cap2 wx hox hgx _
      obtain ⟨bx1, bx2, ox2, kx2, hbx2⟩ := bva.appended (by decide) ova (Nat.le_trans hB.size hba0.size) hw1 hox hgx
      refine hK.out _ _ (fun hn => (hn (by decide)).elim) ?_
      clear hK K
      try simp only [Act.put, List.setIfInBounds_toArray, List.set_cons_zero, List.set_cons_succ]
      refine held_one (i := 6) rfl (by kernel_rfl) (fun K hK => ?_)
      have hc1 := bx1.cell
      have hf1 := bx1.frozen
      go_simp
      refine hK.out _ _ (fun hn => (hn (by decide)).elim) ?_
      clear hK K
      refine held_done (by kernel_rfl) ?_ _
      have bE1 := ((bD1a.alloc _).kept hgx (bD1a.not_row (by decide) ova)).other (B' := w1.heap.size) (by omega) (.slice (some ⟨g2, 0, none⟩) (pre.length + 1) cap2)
      have bE2 := ((bD2a.alloc _).kept hgx (bD2a.not_row (by decide) ova)).other (B' := w1.heap.size) (by omega) (.slice (some ⟨g2, 0, none⟩) (pre.length + 1) cap2)
      refine ⟨(KeepsOthers.of_grownBy (grown_of_below hba0) (fun j o e => by cases e)).trans kx2, ⟨bE1.cell.trans bD1.cell.symm, bE2.cell.trans bD2.cell.symm⟩, ⟨_, bx2, ?_, trivial⟩, ⟨bE1, bE2⟩, ?_⟩
      · rw [HNX.out, HP.out]; exact ox2
      · exact (hB.trans (hba0.mono hB.size)).trans hbx2
  case done =>
    rintro D ys W hD hS ⟨⟨v, bv, ov, _⟩, _, hB⟩ hK
    have hys : (ys.map fun x => pairAt L x.1) = up L := by
      rw [← up_pairs L, hn, ← hS, List.map_map]; rfl
    rw [hys] at ov
    have hc := bv.cell
    have HB := Lib.hid hB; have HO := Lib.hid ov; have HK := Lib.hid hK
    clear hB ov bX bC1 bC2 hown0 hB0 hc1 hc2 hr ht hE hys hS hK
    gi_wp2
    refine ⟨by simp, .inl ⟨_, _, rfl, run_takeDeferred HK.out, ?_⟩⟩
    refine ⟨_, results_tmp rfl _ _ _, v, rfl, ownsRow_putObj HO.out _ HK.out rfl, HB.out.trans (belowK_b (w := w) (Nat.le_refl _) W D _ _ (by omega) HK.out rfl rfl)⟩
  case stop =>
    rintro D c pre W _ _ h _
    exact h.elim
end Go.Proofs.YtkjgdgocjnocaaaDoor
