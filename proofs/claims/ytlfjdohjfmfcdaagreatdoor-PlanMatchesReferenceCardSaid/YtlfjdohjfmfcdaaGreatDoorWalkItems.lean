/-
  The walks of items.
-/
import Derived.Test.YtlfjdohjfmfcdaaGreatDoorLevelSt
import Derived.Test.YtlfjdohjfmfcdaaGreatDoorKinds

/-! ## The walks of items. -/
namespace Go.Proofs.YtlfjdohjfmfcdaaGreatDoor
open Go.RowKit Go.Sort Go.Shelf Foyer.Plan Foyer.Round

theorem item1_ent (args : Array Value) (w : World) : (callFunc 60 args).run Tryz.prog w = .ok (.enter 60 args) w := enters_of Tryz.func60 (by kernel_rfl) rfl args w
theorem item1_info : (Tryz.prog.info? 41).map (fun i => (i.zero, i.size, i.bytes)) = some (some (.agg #[.string ⟨#[]⟩, .slice none 0 0, .int .i64 0]), blockK.size, 48) := by kernel_rfl
set_option linter.unusedSimpArgs false in
set_option maxRecDepth 100000 in
set_option maxHeartbeats 4000000 in
theorem item1_any (bp L lb lvb ppb base at_ : Nat) (ts : List TokP) (c0 c1 c7 v1 v2 v3 v4 v5 : Value) (is : List ItemP) (w : World) (hA : At w bp L ts) (hSt : LvSt w lb base c0 c1 c7 v1 v2 v3 v4 v5 is) (hL : Blk w lvb 107 [.pointer (some ⟨lb, 0, none⟩)]) (hP : Blk w ppb 71 [.pointer (some ⟨bp, 0, none⟩)])
    (hbw : base ≤ w.heap.size) (hlb : lb < base) (hlv : lvb < base) (hpp : ppb < base) (hbp : bp < base) (hbl : bp < lb) (hbv : bp < lvb) (hbq : bp < ppb) (hlen : is.length + 1 ≤ 1000000) (hts : ts.length ≤ 5000) :
    Calls Tryz.prog 60 #[.int .i64 (at_ : Nat), .pointer (some ⟨lvb, 0, none⟩), .pointer (some ⟨ppb, 0, none⟩)] w fun e w' =>
      (∃ it r, itemRest 1 at_ ts = .ok it r ∧ e = .returned (.tuple #[]) ∧ (∃ v', LvSt w' lb base c0 c1 c7 v' v2 v3 v4 v5 (is ++ [it])) ∧ At w' bp L r ∧ Kp (fun k => k = bp ∨ k = lb ∨ base ≤ k) w w') ∨ ∃ r, itemRest 1 at_ ts = .bad r ∧ e = failP r L ∧ Kp (fun k => k = bp ∨ k = lb ∨ base ≤ k) w w' := by
  have HA := Lib.hid hA; have HST := Lib.hid hSt; have HL := Lib.hid hL; have HP := Lib.hid hP
  clear hA hSt hL hP
  go_enter Tryz.func60, Tryz.ntmps60
  refine wp_region_any (by kernel_rfl) ?_
  have hS0 : Blk w.drew lb 38 [c0, c1, v1, v2, v3, v4, v5, c7] ∧ Blk w.drew lvb 107 [.pointer (some ⟨lb, 0, none⟩)] ∧ Blk w.drew ppb 71 [.pointer (some ⟨bp, 0, none⟩)] := ⟨HST.out.blk, HL.out, HP.out⟩
  have hA0 : At w.drew bp L ts := HA.out.kept (E := fun _ => False) (Kp.refl _ _).drew (fun _ h => h.elim)
  have hK0 : Kp (fun k => k = bp ∨ k = lb ∨ base ≤ k) w w.drew := (Kp.refl _ _).drew
  have hB0 : LvSt w.drew lb base c0 c1 c7 v1 v2 v3 v4 v5 is := HST.out.kept (E := fun _ => False) (Kp.refl _ _).drew (fun _ h => h.elim)
  have hz0 : base ≤ w.drew.heap.size := hbw
  refine any_of_held (S := fun W => Blk W lb 38 [c0, c1, v1, v2, v3, v4, v5, c7] ∧ Blk W lvb 107 [.pointer (some ⟨lb, 0, none⟩)] ∧ Blk W ppb 71 [.pointer (some ⟨bp, 0, none⟩)]) (N := [12]) _ _ _ _ ?_
  change held _ _ _ _ _ _ _ _ _ w.drew
  obtain ⟨wa, hwa⟩ : ∃ wa, w.drew = wa := ⟨_, rfl⟩
  rw [hwa] at hS0 hA0 hK0 hB0 hz0 ⊢
  have HK0 := Lib.hid hK0; have HA0 := Lib.hid hA0; have HB0 := Lib.hid hB0
  clear hK0 hA0 hB0 hwa HA HST HL HP
  refine held_take [10, 11, 12] (i := 0) (v := .pointer (some ⟨lb, 0, none⟩)) rfl (by kernel_rfl) (fun _ _ _ h => h) (Or.inl ⟨by rfl, fun w' hS => by have hc := hS.2.1.cell (i := 0) rfl; go_simp⟩) hS0 ?_
  try simp only [Act.put, List.setIfInBounds_toArray, List.set_cons_zero, List.set_cons_succ]
  refine held_take [2, 3, 4, 9, 12] (i := 1) (v := .pointer (some ⟨lb, 0, none⟩)) rfl (by kernel_rfl) (fun _ _ _ h => h) (Or.inl ⟨by rfl, fun w' hS => by have hc := hS.2.1.cell (i := 0) rfl; go_simp⟩) hS0 ?_
  try simp only [Act.put, List.setIfInBounds_toArray, List.set_cons_zero, List.set_cons_succ]
  refine held_take [3, 4, 9, 12] (i := 2) (v := .pointer (some ⟨lb, 0, none⟩)) rfl (by kernel_rfl) (fun _ _ _ h => h) (Or.inl ⟨by rfl, fun w' hS => by go_simp⟩) hS0 ?_
  try simp only [Act.put, List.setIfInBounds_toArray, List.set_cons_zero, List.set_cons_succ]
  refine held_take [4, 9, 12] (i := 3) (v := .pointer (some ⟨lb, 2, none⟩)) rfl (by kernel_rfl) (fun _ _ _ h => h) (Or.inl ⟨by rfl, fun w' hS => by go_simp⟩) hS0 ?_
  try simp only [Act.put, List.setIfInBounds_toArray, List.set_cons_zero, List.set_cons_succ]
  refine held_take [9, 12] (i := 4) (v := v1) rfl (by kernel_rfl) (fun _ _ _ h => h) (Or.inl ⟨by rfl, fun w' hS => by have hc := hS.1.cell (i := 2) rfl; go_simp⟩) hS0 ?_
  try simp only [Act.put, List.setIfInBounds_toArray, List.set_cons_zero, List.set_cons_succ]
  refine held_take [7, 8, 9, 12] (i := 5) (v := .pointer (some ⟨bp, 0, none⟩)) rfl (by kernel_rfl) (fun _ _ _ h => h) (Or.inl ⟨by rfl, fun w' hS => by have hc := hS.2.2.cell (i := 0) rfl; go_simp⟩) hS0 ?_
  try simp only [Act.put, List.setIfInBounds_toArray, List.set_cons_zero, List.set_cons_succ]
  refine held_take [7, 8, 9, 12] (i := 6) (v := .int .i64 (at_ : Nat)) rfl (by kernel_rfl) (fun _ _ _ h => h) (Or.inl ⟨by rfl, fun w' hS => by go_simp⟩) hS0 ?_
  try simp only [Act.put, List.setIfInBounds_toArray, List.set_cons_zero, List.set_cons_succ]
  refine held_one (i := 7) rfl (by kernel_rfl) (fun K hK => ?_)
  go_simp
  refine (block_any bp L at_ ts wa hts HA0.out).mono ?_
  rintro e W1 (⟨m, r, h1, ⟨c, rfl, hc⟩, a1, k1⟩ | ⟨r, h1, rfl, k1⟩)
  rotate_left
  · unfold failP
    refine ⟨rfl, Or.inr ⟨r, ?_, rfl, HK0.out.call k1 (fun k hk => Or.inl (Or.inl hk))⟩⟩
    show andThen _ _ ts = _ 
    exact then_bad h1
  have hS1 : Blk W1 lb 38 [c0, c1, v1, v2, v3, v4, v5, c7] ∧ Blk W1 lvb 107 [.pointer (some ⟨lb, 0, none⟩)] ∧ Blk W1 ppb 71 [.pointer (some ⟨bp, 0, none⟩)] :=
    ⟨hS0.1.kept k1 (fun h => by have : lb = bp := h; omega), hS0.2.1.kept k1 (fun h => by have : lvb = bp := h; omega), hS0.2.2.kept k1 (fun h => by have : ppb = bp := h; omega)⟩
  have hz1 : base ≤ W1.heap.size := Nat.le_trans hz0 k1.size
  have hb1 : LvSt W1 lb base c0 c1 c7 v1 v2 v3 v4 v5 is := HB0.out.kept k1 (fun k hk => by have : k = bp := hk; omega)
  have hsz1 := k1.size
  have hold := HB0.out.lt
  have K1 := Lib.hid (HK0.out.call k1 (fun k hk => Or.inl (Or.inl hk))); have A1 := Lib.hid a1; have H1 := Lib.hid h1; have HB1 := Lib.hid hb1; have HOW := Lib.hid hold
  clear a1 k1 h1 hb1 hold HB0 HK0 HA0
  obtain ⟨v0, rfl, hl0⟩ := hc
  obtain ⟨sa, sn, sc, rfl⟩ := hl0.slice
  unfold blockCl
  have hc : blockK.is W1 (fun k => wa.heap.size ≤ k) (blockCl m (.slice sa sn sc)) m := ⟨_, rfl, hl0⟩
  clear hl0
  refine hK.out _ _ (fun _ => hS1) ?_
  clear hK K
  try simp only [Act.put, List.setIfInBounds_toArray, List.set_cons_zero, List.set_cons_succ]
  refine held_one (i := 8) rfl (by kernel_rfl) (fun K hK => ?_)
  go_simp
  refine hK.out _ _ (fun _ => ⟨hS1.1.alloc _, hS1.2.1.alloc _, hS1.2.2.alloc _⟩) ?_
  clear hK K
  try simp only [Act.put, List.setIfInBounds_toArray, List.set_cons_zero, List.set_cons_succ]
  refine held_one (i := 9) rfl (by kernel_rfl) (fun K hK => ?_)
  rw [if_pos (by kernel_rfl)]
  obtain ⟨i0, hi, hz0', hz1', hz2⟩ := info_parts item1_info
  obtain ⟨css, hcon, hall⟩ := HB1.out.b1
  have hlc : (blocksOf is).length ≤ is.length := List.length_filterMap_le _ _
  refine con_append (t := 33) (T := 41) (m := blockK.size) (B := base) Tryz.underlying33 hi hz0' hz1' hz2 rfl (by decide) (by decide) (.tmp 8) (.tmp 12) rfl v1 css (blockCl m (.slice sa sn sc)) rfl (hcon.of_block (fun k hk => Below.heap_alloc _ _ _ (by have := (HOW.out v1 (by simp) k hk).2; omega))) W1.heap.size rfl (Blk.new W1 41 (blockCl m (.slice sa sn sc))) (blockK.len hc) (blockK.one hc) (by rw [All2.length hall]; omega) (by rw [World.size_alloc]; omega) ?_
  intro v' W2 hcon' hg hat hone
  obtain ⟨g, cap, rfl⟩ : ∃ g cap, v' = .slice (some ⟨g, 0, none⟩) (css ++ [(blockCl m (.slice sa sn sc))]).length cap := by
    rcases hcon'.form with ⟨_, h⟩ | ⟨g, cap, cur, h1, h2, h3, h4, _⟩
    · simp at h
    · exact ⟨g, cap, h1⟩
  have hgr : ∀ k, k < W1.heap.size → v1.ownBlock ≠ some k → W2.heap[k]? = W1.heap[k]? := fun k hk hn => (hg.block k (by rw [World.size_alloc]; omega) (fun h => hn h.symm)).trans (Below.heap_alloc _ _ _ hk)
  have hnv : ∀ q, q < base → v1.ownBlock ≠ some q := fun q hq h => by have := (own_lt hcon.own h).1; omega
  have hS2 : Blk W2 lb 38 [c0, c1, v1, v2, v3, v4, v5, c7] ∧ Blk W2 lvb 107 [.pointer (some ⟨lb, 0, none⟩)] ∧ Blk W2 ppb 71 [.pointer (some ⟨bp, 0, none⟩)] := ⟨(hgr lb (by omega) (hnv lb hlb)).trans hS1.1, (hgr lvb (by omega) (hnv lvb hlv)).trans hS1.2.1, (hgr ppb (by omega) (hnv ppb hpp)).trans hS1.2.2⟩
  have K2 : Kp (fun k => k = bp ∨ k = lb ∨ base ≤ k) w W2 := (K1.out.alloc (.cells ((blockCl m (.slice sa sn sc))).toArray 41)).grown hg (fun k hk => Or.inl (Or.inr (Or.inr (own_lt hcon.own hk).1)))
  have A2 : At W2 bp L r := A1.out.kept (E := fun k => base ≤ k) (((Kp.refl _ W1).alloc (.cells ((blockCl m (.slice sa sn sc))).toArray 41)).grown hg (fun k hk => Or.inl (own_lt hcon.own hk).1)) (fun k hk => by have : base ≤ k := hk; omega)
  have hst := HB1.out.block hlb hall hc (by omega) (fun v hv k hk => (HOW.out v hv k hk).2) hcon' hgr hat (by rw [World.size_alloc]; omega)
  have HK2 := Lib.hid K2; have HA2 := Lib.hid A2; have HST2 := Lib.hid hst; have HP2 := Lib.hid hS2.2.2
  have hc2 := hS2.1.cell (i := 2) rfl
  have hf2 := hS2.1.free 2
  clear K2 A2 hst hgr hg hat hcon hall hc hS0 hS1 hcon' HB1
  generalize (css ++ [(blockCl m (.slice sa sn sc))]).length = n2 at *
  refine hK.out _ _ (fun _ => hS2) ?_
  clear hK K
  try simp only [Act.put, List.setIfInBounds_toArray, List.set_cons_zero, List.set_cons_succ]
  refine held_one (i := 10) rfl (by kernel_rfl) (fun K hK => ?_)
  go_simp
  refine hK.out _ _ (fun _ => hS2) ?_
  clear hK K
  try simp only [Act.put, List.setIfInBounds_toArray, List.set_cons_zero, List.set_cons_succ]
  refine held_one (i := 11) rfl (by kernel_rfl) (fun K hK => ?_)
  go_simp
  refine hK.out _ _ (fun _ => hS2) ?_
  clear hK K
  try simp only [Act.put, List.setIfInBounds_toArray, List.set_cons_zero, List.set_cons_succ]
  refine held_one (i := 12) rfl (by kernel_rfl) (fun K hK => ?_)
  go_simp
  refine hK.out _ _ (fun h => absurd (by decide) h) ?_
  clear hK K hS2 hc2 hf2
  try simp only [Act.put, List.setIfInBounds_toArray, List.set_cons_zero, List.set_cons_succ]
  refine held_done (by kernel_rfl) ?_ _
  go_end0
  refine Or.inl ⟨.block m, r, then_of H1.out, rfl, ⟨_, HST2.out⟩, ?_, HK2.out.setOld lb 2 (Or.inr (Or.inl rfl)) _⟩
  exact HA2.out.kept (E := onlyB lb) ((Kp.refl (onlyB lb) W2).setOld lb 2 rfl _) (fun k hk => by have : k = lb := hk; omega)
theorem item2_ent (args : Array Value) (w : World) : (callFunc 62 args).run Tryz.prog w = .ok (.enter 62 args) w := enters_of Tryz.func62 (by kernel_rfl) rfl args w
theorem item2_info : (Tryz.prog.info? 50).map (fun i => (i.zero, i.size, i.bytes)) = some (some (.agg #[.string ⟨#[]⟩, .int .i64 0, .int .i64 0, .int .i64 0, .int .i64 0, .int .i64 0, .int .i64 0]), areaK.size, 64) := by kernel_rfl
set_option linter.unusedSimpArgs false in
set_option maxRecDepth 100000 in
set_option maxHeartbeats 4000000 in
theorem item2_any (bp L lb lvb ppb base at_ : Nat) (ts : List TokP) (c0 c1 c7 v1 v2 v3 v4 v5 : Value) (is : List ItemP) (w : World) (hA : At w bp L ts) (hSt : LvSt w lb base c0 c1 c7 v1 v2 v3 v4 v5 is) (hL : Blk w lvb 107 [.pointer (some ⟨lb, 0, none⟩)]) (hP : Blk w ppb 71 [.pointer (some ⟨bp, 0, none⟩)])
    (hbw : base ≤ w.heap.size) (hlb : lb < base) (hlv : lvb < base) (hpp : ppb < base) (hbp : bp < base) (hbl : bp < lb) (hbv : bp < lvb) (hbq : bp < ppb) (hlen : is.length + 1 ≤ 1000000) :
    Calls Tryz.prog 62 #[.int .i64 (at_ : Nat), .pointer (some ⟨lvb, 0, none⟩), .pointer (some ⟨ppb, 0, none⟩)] w fun e w' =>
      (∃ it r, itemRest 2 at_ ts = .ok it r ∧ e = .returned (.tuple #[]) ∧ (∃ v', LvSt w' lb base c0 c1 c7 v1 v' v3 v4 v5 (is ++ [it])) ∧ At w' bp L r ∧ Kp (fun k => k = bp ∨ k = lb ∨ base ≤ k) w w') ∨ ∃ r, itemRest 2 at_ ts = .bad r ∧ e = failP r L ∧ Kp (fun k => k = bp ∨ k = lb ∨ base ≤ k) w w' := by
  have HA := Lib.hid hA; have HST := Lib.hid hSt; have HL := Lib.hid hL; have HP := Lib.hid hP
  clear hA hSt hL hP
  go_enter Tryz.func62, Tryz.ntmps62
  refine wp_region_any (by kernel_rfl) ?_
  have hS0 : Blk w.drew lb 38 [c0, c1, v1, v2, v3, v4, v5, c7] ∧ Blk w.drew lvb 107 [.pointer (some ⟨lb, 0, none⟩)] ∧ Blk w.drew ppb 71 [.pointer (some ⟨bp, 0, none⟩)] := ⟨HST.out.blk, HL.out, HP.out⟩
  have hA0 : At w.drew bp L ts := HA.out.kept (E := fun _ => False) (Kp.refl _ _).drew (fun _ h => h.elim)
  have hK0 : Kp (fun k => k = bp ∨ k = lb ∨ base ≤ k) w w.drew := (Kp.refl _ _).drew
  have hB0 : LvSt w.drew lb base c0 c1 c7 v1 v2 v3 v4 v5 is := HST.out.kept (E := fun _ => False) (Kp.refl _ _).drew (fun _ h => h.elim)
  have hz0 : base ≤ w.drew.heap.size := hbw
  refine any_of_held (S := fun W => Blk W lb 38 [c0, c1, v1, v2, v3, v4, v5, c7] ∧ Blk W lvb 107 [.pointer (some ⟨lb, 0, none⟩)] ∧ Blk W ppb 71 [.pointer (some ⟨bp, 0, none⟩)]) (N := [12]) _ _ _ _ ?_
  change held _ _ _ _ _ _ _ _ _ w.drew
  obtain ⟨wa, hwa⟩ : ∃ wa, w.drew = wa := ⟨_, rfl⟩
  rw [hwa] at hS0 hA0 hK0 hB0 hz0 ⊢
  have HK0 := Lib.hid hK0; have HA0 := Lib.hid hA0; have HB0 := Lib.hid hB0
  clear hK0 hA0 hB0 hwa HA HST HL HP
  refine held_take [10, 11, 12] (i := 0) (v := .pointer (some ⟨lb, 0, none⟩)) rfl (by kernel_rfl) (fun _ _ _ h => h) (Or.inl ⟨by rfl, fun w' hS => by have hc := hS.2.1.cell (i := 0) rfl; go_simp⟩) hS0 ?_
  try simp only [Act.put, List.setIfInBounds_toArray, List.set_cons_zero, List.set_cons_succ]
  refine held_take [2, 3, 4, 9, 12] (i := 1) (v := .pointer (some ⟨lb, 0, none⟩)) rfl (by kernel_rfl) (fun _ _ _ h => h) (Or.inl ⟨by rfl, fun w' hS => by have hc := hS.2.1.cell (i := 0) rfl; go_simp⟩) hS0 ?_
  try simp only [Act.put, List.setIfInBounds_toArray, List.set_cons_zero, List.set_cons_succ]
  refine held_take [3, 4, 9, 12] (i := 2) (v := .pointer (some ⟨lb, 0, none⟩)) rfl (by kernel_rfl) (fun _ _ _ h => h) (Or.inl ⟨by rfl, fun w' hS => by go_simp⟩) hS0 ?_
  try simp only [Act.put, List.setIfInBounds_toArray, List.set_cons_zero, List.set_cons_succ]
  refine held_take [4, 9, 12] (i := 3) (v := .pointer (some ⟨lb, 3, none⟩)) rfl (by kernel_rfl) (fun _ _ _ h => h) (Or.inl ⟨by rfl, fun w' hS => by go_simp⟩) hS0 ?_
  try simp only [Act.put, List.setIfInBounds_toArray, List.set_cons_zero, List.set_cons_succ]
  refine held_take [9, 12] (i := 4) (v := v2) rfl (by kernel_rfl) (fun _ _ _ h => h) (Or.inl ⟨by rfl, fun w' hS => by have hc := hS.1.cell (i := 3) rfl; go_simp⟩) hS0 ?_
  try simp only [Act.put, List.setIfInBounds_toArray, List.set_cons_zero, List.set_cons_succ]
  refine held_take [7, 8, 9, 12] (i := 5) (v := .pointer (some ⟨bp, 0, none⟩)) rfl (by kernel_rfl) (fun _ _ _ h => h) (Or.inl ⟨by rfl, fun w' hS => by have hc := hS.2.2.cell (i := 0) rfl; go_simp⟩) hS0 ?_
  try simp only [Act.put, List.setIfInBounds_toArray, List.set_cons_zero, List.set_cons_succ]
  refine held_take [7, 8, 9, 12] (i := 6) (v := .int .i64 (at_ : Nat)) rfl (by kernel_rfl) (fun _ _ _ h => h) (Or.inl ⟨by rfl, fun w' hS => by go_simp⟩) hS0 ?_
  try simp only [Act.put, List.setIfInBounds_toArray, List.set_cons_zero, List.set_cons_succ]
  refine held_one (i := 7) rfl (by kernel_rfl) (fun K hK => ?_)
  go_simp
  refine (area_any bp L at_ ts wa HA0.out).mono ?_
  rintro e W1 (⟨m, r, h1, ⟨c, rfl, hc⟩, a1, k1⟩ | ⟨r, h1, rfl, k1⟩)
  rotate_left
  · unfold failP
    refine ⟨rfl, Or.inr ⟨r, ?_, rfl, HK0.out.call k1 (fun k hk => Or.inl (Or.inl hk))⟩⟩
    show andThen _ _ ts = _ 
    exact then_bad h1
  have hS1 : Blk W1 lb 38 [c0, c1, v1, v2, v3, v4, v5, c7] ∧ Blk W1 lvb 107 [.pointer (some ⟨lb, 0, none⟩)] ∧ Blk W1 ppb 71 [.pointer (some ⟨bp, 0, none⟩)] :=
    ⟨hS0.1.kept k1 (fun h => by have : lb = bp := h; omega), hS0.2.1.kept k1 (fun h => by have : lvb = bp := h; omega), hS0.2.2.kept k1 (fun h => by have : ppb = bp := h; omega)⟩
  have hz1 : base ≤ W1.heap.size := Nat.le_trans hz0 k1.size
  have hb1 : LvSt W1 lb base c0 c1 c7 v1 v2 v3 v4 v5 is := HB0.out.kept k1 (fun k hk => by have : k = bp := hk; omega)
  have hsz1 := k1.size
  have hold := HB0.out.lt
  have K1 := Lib.hid (HK0.out.call k1 (fun k hk => Or.inl (Or.inl hk))); have A1 := Lib.hid a1; have H1 := Lib.hid h1; have HB1 := Lib.hid hb1; have HOW := Lib.hid hold
  clear a1 k1 h1 hb1 hold HB0 HK0 HA0
  obtain rfl : c = areaC m := hc
  unfold areaC
  have hc : areaK.is W1 (fun k => wa.heap.size ≤ k) (areaC m) m := rfl
  refine hK.out _ _ (fun _ => hS1) ?_
  clear hK K
  try simp only [Act.put, List.setIfInBounds_toArray, List.set_cons_zero, List.set_cons_succ]
  refine held_one (i := 8) rfl (by kernel_rfl) (fun K hK => ?_)
  go_simp
  refine hK.out _ _ (fun _ => ⟨hS1.1.alloc _, hS1.2.1.alloc _, hS1.2.2.alloc _⟩) ?_
  clear hK K
  try simp only [Act.put, List.setIfInBounds_toArray, List.set_cons_zero, List.set_cons_succ]
  refine held_one (i := 9) rfl (by kernel_rfl) (fun K hK => ?_)
  rw [if_pos (by kernel_rfl)]
  obtain ⟨i0, hi, hz0', hz1', hz2⟩ := info_parts item2_info
  obtain ⟨css, hcon, hall⟩ := HB1.out.b2
  have hlc : (areasOf is).length ≤ is.length := List.length_filterMap_le _ _
  refine con_append (t := 34) (T := 50) (m := areaK.size) (B := base) Tryz.underlying34 hi hz0' hz1' hz2 rfl (by decide) (by decide) (.tmp 8) (.tmp 12) rfl v2 css (areaC m) rfl (hcon.of_block (fun k hk => Below.heap_alloc _ _ _ (by have := (HOW.out v2 (by simp) k hk).2; omega))) W1.heap.size rfl (Blk.new W1 50 (areaC m)) (areaK.len hc) (areaK.one hc) (by rw [All2.length hall]; omega) (by rw [World.size_alloc]; omega) ?_
  intro v' W2 hcon' hg hat hone
  obtain ⟨g, cap, rfl⟩ : ∃ g cap, v' = .slice (some ⟨g, 0, none⟩) (css ++ [(areaC m)]).length cap := by
    rcases hcon'.form with ⟨_, h⟩ | ⟨g, cap, cur, h1, h2, h3, h4, _⟩
    · simp at h
    · exact ⟨g, cap, h1⟩
  have hgr : ∀ k, k < W1.heap.size → v2.ownBlock ≠ some k → W2.heap[k]? = W1.heap[k]? := fun k hk hn => (hg.block k (by rw [World.size_alloc]; omega) (fun h => hn h.symm)).trans (Below.heap_alloc _ _ _ hk)
  have hnv : ∀ q, q < base → v2.ownBlock ≠ some q := fun q hq h => by have := (own_lt hcon.own h).1; omega
  have hS2 : Blk W2 lb 38 [c0, c1, v1, v2, v3, v4, v5, c7] ∧ Blk W2 lvb 107 [.pointer (some ⟨lb, 0, none⟩)] ∧ Blk W2 ppb 71 [.pointer (some ⟨bp, 0, none⟩)] := ⟨(hgr lb (by omega) (hnv lb hlb)).trans hS1.1, (hgr lvb (by omega) (hnv lvb hlv)).trans hS1.2.1, (hgr ppb (by omega) (hnv ppb hpp)).trans hS1.2.2⟩
  have K2 : Kp (fun k => k = bp ∨ k = lb ∨ base ≤ k) w W2 := (K1.out.alloc (.cells ((areaC m)).toArray 50)).grown hg (fun k hk => Or.inl (Or.inr (Or.inr (own_lt hcon.own hk).1)))
  have A2 : At W2 bp L r := A1.out.kept (E := fun k => base ≤ k) (((Kp.refl _ W1).alloc (.cells ((areaC m)).toArray 50)).grown hg (fun k hk => Or.inl (own_lt hcon.own hk).1)) (fun k hk => by have : base ≤ k := hk; omega)
  have hst := HB1.out.area hlb hall hc (by omega) (fun v hv k hk => (HOW.out v hv k hk).2) hcon' hgr hat (by rw [World.size_alloc]; omega)
  have HK2 := Lib.hid K2; have HA2 := Lib.hid A2; have HST2 := Lib.hid hst; have HP2 := Lib.hid hS2.2.2
  have hc2 := hS2.1.cell (i := 3) rfl
  have hf2 := hS2.1.free 3
  clear K2 A2 hst hgr hg hat hcon hall hc hS0 hS1 hcon' HB1
  generalize (css ++ [(areaC m)]).length = n2 at *
  refine hK.out _ _ (fun _ => hS2) ?_
  clear hK K
  try simp only [Act.put, List.setIfInBounds_toArray, List.set_cons_zero, List.set_cons_succ]
  refine held_one (i := 10) rfl (by kernel_rfl) (fun K hK => ?_)
  go_simp
  refine hK.out _ _ (fun _ => hS2) ?_
  clear hK K
  try simp only [Act.put, List.setIfInBounds_toArray, List.set_cons_zero, List.set_cons_succ]
  refine held_one (i := 11) rfl (by kernel_rfl) (fun K hK => ?_)
  go_simp
  refine hK.out _ _ (fun _ => hS2) ?_
  clear hK K
  try simp only [Act.put, List.setIfInBounds_toArray, List.set_cons_zero, List.set_cons_succ]
  refine held_one (i := 12) rfl (by kernel_rfl) (fun K hK => ?_)
  go_simp
  refine hK.out _ _ (fun h => absurd (by decide) h) ?_
  clear hK K hS2 hc2 hf2
  try simp only [Act.put, List.setIfInBounds_toArray, List.set_cons_zero, List.set_cons_succ]
  refine held_done (by kernel_rfl) ?_ _
  go_end0
  refine Or.inl ⟨.area m, r, then_of H1.out, rfl, ⟨_, HST2.out⟩, ?_, HK2.out.setOld lb 3 (Or.inr (Or.inl rfl)) _⟩
  exact HA2.out.kept (E := onlyB lb) ((Kp.refl (onlyB lb) W2).setOld lb 3 rfl _) (fun k hk => by have : k = lb := hk; omega)
end Go.Proofs.YtlfjdohjfmfcdaaGreatDoor

/-! ## The walks of items. -/
namespace Go.Proofs.YtlfjdohjfmfcdaaGreatDoor
open Go.RowKit Go.Sort Go.Shelf Foyer.Plan Foyer.Round

theorem item3_ent (args : Array Value) (w : World) : (callFunc 64 args).run Tryz.prog w = .ok (.enter 64 args) w := enters_of Tryz.func64 (by kernel_rfl) rfl args w
theorem item3_info : (Tryz.prog.info? 48).map (fun i => (i.zero, i.size, i.bytes)) = some (some (.agg #[.int .i64 0, .int .i64 0, .int .i64 0, .int .i64 0]), boxK.size, 32) := by kernel_rfl
set_option linter.unusedSimpArgs false in
set_option maxRecDepth 100000 in
set_option maxHeartbeats 4000000 in
theorem item3_any (bp L lb lvb ppb base at_ : Nat) (ts : List TokP) (c0 c1 c7 v1 v2 v3 v4 v5 : Value) (is : List ItemP) (w : World) (hA : At w bp L ts) (hSt : LvSt w lb base c0 c1 c7 v1 v2 v3 v4 v5 is) (hL : Blk w lvb 107 [.pointer (some ⟨lb, 0, none⟩)]) (hP : Blk w ppb 71 [.pointer (some ⟨bp, 0, none⟩)])
    (hbw : base ≤ w.heap.size) (hlb : lb < base) (hlv : lvb < base) (hpp : ppb < base) (hbp : bp < base) (hbl : bp < lb) (hbv : bp < lvb) (hbq : bp < ppb) (hpq : lb ≠ ppb) (hlen : is.length + 1 ≤ 1000000) :
    Calls Tryz.prog 64 #[.int .i64 (at_ : Nat), .pointer (some ⟨lvb, 0, none⟩), .pointer (some ⟨ppb, 0, none⟩)] w fun e w' =>
      (∃ it r, itemRest 3 at_ ts = .ok it r ∧ e = .returned (.tuple #[]) ∧ (∃ v', LvSt w' lb base c0 c1 c7 v1 v2 v' v4 v5 (is ++ [it])) ∧ At w' bp L r ∧ Kp (fun k => k = bp ∨ k = lb ∨ base ≤ k) w w') ∨ ∃ r, itemRest 3 at_ ts = .bad r ∧ e = failP r L ∧ Kp (fun k => k = bp ∨ k = lb ∨ base ≤ k) w w' := by
  have HA := Lib.hid hA; have HST := Lib.hid hSt; have HL := Lib.hid hL; have HP := Lib.hid hP
  clear hA hSt hL hP
  go_enter Tryz.func64, Tryz.ntmps64
  refine wp_seq (wp_region_any (by kernel_rfl) ?_)
  have hS0 : Blk w.drew lb 38 [c0, c1, v1, v2, v3, v4, v5, c7] ∧ Blk w.drew lvb 107 [.pointer (some ⟨lb, 0, none⟩)] ∧ Blk w.drew ppb 71 [.pointer (some ⟨bp, 0, none⟩)] := ⟨HST.out.blk, HL.out, HP.out⟩
  have hA0 : At w.drew bp L ts := HA.out.kept (E := fun _ => False) (Kp.refl _ _).drew (fun _ h => h.elim)
  have hK0 : Kp (fun k => k = bp ∨ k = lb ∨ base ≤ k) w w.drew := (Kp.refl _ _).drew
  have hB0 : LvSt w.drew lb base c0 c1 c7 v1 v2 v3 v4 v5 is := HST.out.kept (E := fun _ => False) (Kp.refl _ _).drew (fun _ h => h.elim)
  have hz0 : base ≤ w.drew.heap.size := hbw
  refine any_of_held (S := fun W => Blk W lb 38 [c0, c1, v1, v2, v3, v4, v5, c7] ∧ Blk W lvb 107 [.pointer (some ⟨lb, 0, none⟩)] ∧ Blk W ppb 71 [.pointer (some ⟨bp, 0, none⟩)]) (N := [11]) _ _ _ _ ?_
  change held _ _ _ _ _ _ _ _ _ w.drew
  obtain ⟨wa, hwa⟩ : ∃ wa, w.drew = wa := ⟨_, rfl⟩
  rw [hwa] at hS0 hA0 hK0 hB0 hz0 ⊢
  have HK0 := Lib.hid hK0; have HA0 := Lib.hid hA0; have HB0 := Lib.hid hB0
  clear hK0 hA0 hB0 hwa HA HST HL HP
  refine held_take [9, 10, 11] (i := 0) (v := .pointer (some ⟨lb, 0, none⟩)) rfl (by kernel_rfl) (fun _ _ _ h => h) (Or.inl ⟨by rfl, fun w' hS => by have hc := hS.2.1.cell (i := 0) rfl; go_simp⟩) hS0 ?_
  try simp only [Act.put, List.setIfInBounds_toArray, List.set_cons_zero, List.set_cons_succ]
  refine held_take [2, 3, 4, 8, 11] (i := 1) (v := .pointer (some ⟨lb, 0, none⟩)) rfl (by kernel_rfl) (fun _ _ _ h => h) (Or.inl ⟨by rfl, fun w' hS => by have hc := hS.2.1.cell (i := 0) rfl; go_simp⟩) hS0 ?_
  try simp only [Act.put, List.setIfInBounds_toArray, List.set_cons_zero, List.set_cons_succ]
  refine held_take [3, 4, 8, 11] (i := 2) (v := .pointer (some ⟨lb, 0, none⟩)) rfl (by kernel_rfl) (fun _ _ _ h => h) (Or.inl ⟨by rfl, fun w' hS => by go_simp⟩) hS0 ?_
  try simp only [Act.put, List.setIfInBounds_toArray, List.set_cons_zero, List.set_cons_succ]
  refine held_take [4, 8, 11] (i := 3) (v := .pointer (some ⟨lb, 4, none⟩)) rfl (by kernel_rfl) (fun _ _ _ h => h) (Or.inl ⟨by rfl, fun w' hS => by go_simp⟩) hS0 ?_
  try simp only [Act.put, List.setIfInBounds_toArray, List.set_cons_zero, List.set_cons_succ]
  refine held_take [8, 11] (i := 4) (v := v3) rfl (by kernel_rfl) (fun _ _ _ h => h) (Or.inl ⟨by rfl, fun w' hS => by have hc := hS.1.cell (i := 4) rfl; go_simp⟩) hS0 ?_
  try simp only [Act.put, List.setIfInBounds_toArray, List.set_cons_zero, List.set_cons_succ]
  refine held_take [6, 7, 8, 11] (i := 5) (v := .pointer (some ⟨bp, 0, none⟩)) rfl (by kernel_rfl) (fun _ _ _ h => h) (Or.inl ⟨by rfl, fun w' hS => by have hc := hS.2.2.cell (i := 0) rfl; go_simp⟩) hS0 ?_
  try simp only [Act.put, List.setIfInBounds_toArray, List.set_cons_zero, List.set_cons_succ]
  refine held_one (i := 6) rfl (by kernel_rfl) (fun K hK => ?_)
  go_simp
  refine (box_any bp L ts wa HA0.out).mono ?_
  rintro e W1 (⟨m, r, h1, rfl, a1, k1⟩ | ⟨r, h1, rfl, k1⟩)
  rotate_left
  · unfold failP
    refine ⟨rfl, Or.inr ⟨r, ?_, rfl, HK0.out.call k1 (fun k hk => Or.inl (Or.inl hk))⟩⟩
    show andThen _ _ ts = _ 
    exact then_bad h1
  have hS1 : Blk W1 lb 38 [c0, c1, v1, v2, v3, v4, v5, c7] ∧ Blk W1 lvb 107 [.pointer (some ⟨lb, 0, none⟩)] ∧ Blk W1 ppb 71 [.pointer (some ⟨bp, 0, none⟩)] :=
    ⟨hS0.1.kept k1 (fun h => by have : lb = bp := h; omega), hS0.2.1.kept k1 (fun h => by have : lvb = bp := h; omega), hS0.2.2.kept k1 (fun h => by have : ppb = bp := h; omega)⟩
  have hz1 : base ≤ W1.heap.size := Nat.le_trans hz0 k1.size
  have hb1 : LvSt W1 lb base c0 c1 c7 v1 v2 v3 v4 v5 is := HB0.out.kept k1 (fun k hk => by have : k = bp := hk; omega)
  have hsz1 := k1.size
  have hold := HB0.out.lt
  have K1 := Lib.hid (HK0.out.call k1 (fun k hk => Or.inl (Or.inl hk))); have A1 := Lib.hid a1; have H1 := Lib.hid h1; have HB1 := Lib.hid hb1; have HOW := Lib.hid hold
  clear a1 k1 h1 hb1 hold HB0 HK0 HA0
  unfold boxC
  have hc : boxK.is W1 (fun k => wa.heap.size ≤ k) (boxC m) m := rfl
  refine hK.out _ _ (fun _ => hS1) ?_
  clear hK K
  try simp only [Act.put, List.setIfInBounds_toArray, List.set_cons_zero, List.set_cons_succ]
  refine held_one (i := 7) rfl (by kernel_rfl) (fun K hK => ?_)
  go_simp
  refine hK.out _ _ (fun _ => ⟨hS1.1.alloc _, hS1.2.1.alloc _, hS1.2.2.alloc _⟩) ?_
  clear hK K
  try simp only [Act.put, List.setIfInBounds_toArray, List.set_cons_zero, List.set_cons_succ]
  refine held_one (i := 8) rfl (by kernel_rfl) (fun K hK => ?_)
  rw [if_pos (by kernel_rfl)]
  obtain ⟨i0, hi, hz0', hz1', hz2⟩ := info_parts item3_info
  obtain ⟨css, hcon, hall⟩ := HB1.out.b3
  have hlc : (aislesOf is).length ≤ is.length := List.length_filterMap_le _ _
  refine con_append (t := 35) (T := 48) (m := boxK.size) (B := base) Tryz.underlying35 hi hz0' hz1' hz2 rfl (by decide) (by decide) (.tmp 8) (.tmp 11) rfl v3 css (boxC m) rfl (hcon.of_block (fun k hk => Below.heap_alloc _ _ _ (by have := (HOW.out v3 (by simp) k hk).2; omega))) W1.heap.size rfl (Blk.new W1 48 (boxC m)) (boxK.len hc) (boxK.one hc) (by rw [All2.length hall]; omega) (by rw [World.size_alloc]; omega) ?_
  intro v' W2 hcon' hg hat hone
  obtain ⟨g, cap, rfl⟩ : ∃ g cap, v' = .slice (some ⟨g, 0, none⟩) (css ++ [(boxC m)]).length cap := by
    rcases hcon'.form with ⟨_, h⟩ | ⟨g, cap, cur, h1, h2, h3, h4, _⟩
    · simp at h
    · exact ⟨g, cap, h1⟩
  have hgr : ∀ k, k < W1.heap.size → v3.ownBlock ≠ some k → W2.heap[k]? = W1.heap[k]? := fun k hk hn => (hg.block k (by rw [World.size_alloc]; omega) (fun h => hn h.symm)).trans (Below.heap_alloc _ _ _ hk)
  have hnv : ∀ q, q < base → v3.ownBlock ≠ some q := fun q hq h => by have := (own_lt hcon.own h).1; omega
  have hS2 : Blk W2 lb 38 [c0, c1, v1, v2, v3, v4, v5, c7] ∧ Blk W2 lvb 107 [.pointer (some ⟨lb, 0, none⟩)] ∧ Blk W2 ppb 71 [.pointer (some ⟨bp, 0, none⟩)] := ⟨(hgr lb (by omega) (hnv lb hlb)).trans hS1.1, (hgr lvb (by omega) (hnv lvb hlv)).trans hS1.2.1, (hgr ppb (by omega) (hnv ppb hpp)).trans hS1.2.2⟩
  have K2 : Kp (fun k => k = bp ∨ k = lb ∨ base ≤ k) w W2 := (K1.out.alloc (.cells ((boxC m)).toArray 48)).grown hg (fun k hk => Or.inl (Or.inr (Or.inr (own_lt hcon.own hk).1)))
  have A2 : At W2 bp L r := A1.out.kept (E := fun k => base ≤ k) (((Kp.refl _ W1).alloc (.cells ((boxC m)).toArray 48)).grown hg (fun k hk => Or.inl (own_lt hcon.own hk).1)) (fun k hk => by have : base ≤ k := hk; omega)
  have hst := HB1.out.aisle hlb hall hc (by omega) (fun v hv k hk => (HOW.out v hv k hk).2) hcon' hgr hat (by rw [World.size_alloc]; omega)
  have HK2 := Lib.hid K2; have HA2 := Lib.hid A2; have HST2 := Lib.hid hst; have HP2 := Lib.hid hS2.2.2
  have hc2 := hS2.1.cell (i := 4) rfl
  have hf2 := hS2.1.free 4
  clear K2 A2 hst hgr hg hat hcon hall hc hS0 hS1 hcon' HB1
  generalize (css ++ [(boxC m)]).length = n2 at *
  refine hK.out _ _ (fun _ => hS2) ?_
  clear hK K
  try simp only [Act.put, List.setIfInBounds_toArray, List.set_cons_zero, List.set_cons_succ]
  refine held_one (i := 9) rfl (by kernel_rfl) (fun K hK => ?_)
  go_simp
  refine hK.out _ _ (fun _ => hS2) ?_
  clear hK K
  try simp only [Act.put, List.setIfInBounds_toArray, List.set_cons_zero, List.set_cons_succ]
  refine held_one (i := 10) rfl (by kernel_rfl) (fun K hK => ?_)
  go_simp
  refine hK.out _ _ (fun _ => hS2) ?_
  clear hK K
  try simp only [Act.put, List.setIfInBounds_toArray, List.set_cons_zero, List.set_cons_succ]
  refine held_one (i := 11) rfl (by kernel_rfl) (fun K hK => ?_)
  go_simp
  refine hK.out _ _ (fun h => absurd (by decide) h) ?_
  clear hK K hS2 hc2 hf2
  try simp only [Act.put, List.setIfInBounds_toArray, List.set_cons_zero, List.set_cons_succ]
  refine held_done (by kernel_rfl) ?_ _
  have A3 := HA2.out.kept (E := onlyB lb) ((Kp.refl (onlyB lb) W2).setOld lb 4 rfl (.slice (some ⟨g, 0, none⟩) n2 cap)) (fun k hk => by have : k = lb := hk; omega)
  have K3 := HK2.out.setOld lb 4 (Or.inr (Or.inl rfl)) (.slice (some ⟨g, 0, none⟩) n2 cap)
  have P3 := HP2.out.other (p := ⟨lb, 4, none⟩) (by show ¬ lb = ppb; omega) (.slice (some ⟨g, 0, none⟩) n2 cap)
  have HST3 := HST2
  clear HST2
  generalize W2.setCell ⟨lb, 4, none⟩ (.slice (some ⟨g, 0, none⟩) n2 cap) = W3 at *
  have hc3 := P3.cell (i := 0) rfl
  have HA3 := Lib.hid A3; have HK3 := Lib.hid K3
  clear A3 K3 P3 HA2 HK2 HP2 K1 A1
  show Code.wp _ _ _ _ _
  go_wp2_with fail
  refine (word_any bp L r wSemi _ HA3.out).mono ?_
  rintro e W4 (⟨x, q, h4, rfl, a4, k4⟩ | ⟨q, h4, rfl, k4⟩)
  · have A4 := Lib.hid a4; have H4 := Lib.hid h4; have K4 := Lib.hid (HK3.out.call k4 (fun k hk => Or.inl (Or.inl hk))); have ST4 := Lib.hid (HST3.out.kept k4 (fun k hk => by have : k = bp := hk; omega))
    clear a4 h4 k4
    go_wp2
    go_end0
    refine Or.inl ⟨.aisle m, q, ?_, rfl, ⟨_, ST4.out⟩, A4.out, K4.out⟩
    show andThen _ _ ts = _
    rw [then_of H1.out, then_of H4.out]; rfl
  · have H4 := Lib.hid h4; have K4 := Lib.hid (HK3.out.call k4 (fun k hk => Or.inl (Or.inl hk)))
    clear h4 k4
    unfold failP
    go_wp2
    refine ⟨rfl, Or.inr ⟨q, ?_, rfl, K4.out⟩⟩
    show andThen _ _ ts = _
    rw [then_of H1.out, then_bad H4.out]
theorem item4_ent (args : Array Value) (w : World) : (callFunc 66 args).run Tryz.prog w = .ok (.enter 66 args) w := enters_of Tryz.func66 (by kernel_rfl) rfl args w
theorem item4_info : (Tryz.prog.info? 48).map (fun i => (i.zero, i.size, i.bytes)) = some (some (.agg #[.int .i64 0, .int .i64 0, .int .i64 0, .int .i64 0]), boxK.size, 32) := by kernel_rfl
set_option linter.unusedSimpArgs false in
set_option maxRecDepth 100000 in
set_option maxHeartbeats 4000000 in
theorem item4_any (bp L lb lvb ppb base at_ : Nat) (ts : List TokP) (c0 c1 c7 v1 v2 v3 v4 v5 : Value) (is : List ItemP) (w : World) (hA : At w bp L ts) (hSt : LvSt w lb base c0 c1 c7 v1 v2 v3 v4 v5 is) (hL : Blk w lvb 107 [.pointer (some ⟨lb, 0, none⟩)]) (hP : Blk w ppb 71 [.pointer (some ⟨bp, 0, none⟩)])
    (hbw : base ≤ w.heap.size) (hlb : lb < base) (hlv : lvb < base) (hpp : ppb < base) (hbp : bp < base) (hbl : bp < lb) (hbv : bp < lvb) (hbq : bp < ppb) (hpq : lb ≠ ppb) (hlen : is.length + 1 ≤ 1000000) :
    Calls Tryz.prog 66 #[.int .i64 (at_ : Nat), .pointer (some ⟨lvb, 0, none⟩), .pointer (some ⟨ppb, 0, none⟩)] w fun e w' =>
      (∃ it r, itemRest 4 at_ ts = .ok it r ∧ e = .returned (.tuple #[]) ∧ (∃ v', LvSt w' lb base c0 c1 c7 v1 v2 v3 v' v5 (is ++ [it])) ∧ At w' bp L r ∧ Kp (fun k => k = bp ∨ k = lb ∨ base ≤ k) w w') ∨ ∃ r, itemRest 4 at_ ts = .bad r ∧ e = failP r L ∧ Kp (fun k => k = bp ∨ k = lb ∨ base ≤ k) w w' := by
  have HA := Lib.hid hA; have HST := Lib.hid hSt; have HL := Lib.hid hL; have HP := Lib.hid hP
  clear hA hSt hL hP
  go_enter Tryz.func66, Tryz.ntmps66
  refine wp_seq (wp_region_any (by kernel_rfl) ?_)
  have hS0 : Blk w.drew lb 38 [c0, c1, v1, v2, v3, v4, v5, c7] ∧ Blk w.drew lvb 107 [.pointer (some ⟨lb, 0, none⟩)] ∧ Blk w.drew ppb 71 [.pointer (some ⟨bp, 0, none⟩)] := ⟨HST.out.blk, HL.out, HP.out⟩
  have hA0 : At w.drew bp L ts := HA.out.kept (E := fun _ => False) (Kp.refl _ _).drew (fun _ h => h.elim)
  have hK0 : Kp (fun k => k = bp ∨ k = lb ∨ base ≤ k) w w.drew := (Kp.refl _ _).drew
  have hB0 : LvSt w.drew lb base c0 c1 c7 v1 v2 v3 v4 v5 is := HST.out.kept (E := fun _ => False) (Kp.refl _ _).drew (fun _ h => h.elim)
  have hz0 : base ≤ w.drew.heap.size := hbw
  refine any_of_held (S := fun W => Blk W lb 38 [c0, c1, v1, v2, v3, v4, v5, c7] ∧ Blk W lvb 107 [.pointer (some ⟨lb, 0, none⟩)] ∧ Blk W ppb 71 [.pointer (some ⟨bp, 0, none⟩)]) (N := [11]) _ _ _ _ ?_
  change held _ _ _ _ _ _ _ _ _ w.drew
  obtain ⟨wa, hwa⟩ : ∃ wa, w.drew = wa := ⟨_, rfl⟩
  rw [hwa] at hS0 hA0 hK0 hB0 hz0 ⊢
  have HK0 := Lib.hid hK0; have HA0 := Lib.hid hA0; have HB0 := Lib.hid hB0
  clear hK0 hA0 hB0 hwa HA HST HL HP
  refine held_take [9, 10, 11] (i := 0) (v := .pointer (some ⟨lb, 0, none⟩)) rfl (by kernel_rfl) (fun _ _ _ h => h) (Or.inl ⟨by rfl, fun w' hS => by have hc := hS.2.1.cell (i := 0) rfl; go_simp⟩) hS0 ?_
  try simp only [Act.put, List.setIfInBounds_toArray, List.set_cons_zero, List.set_cons_succ]
  refine held_take [2, 3, 4, 8, 11] (i := 1) (v := .pointer (some ⟨lb, 0, none⟩)) rfl (by kernel_rfl) (fun _ _ _ h => h) (Or.inl ⟨by rfl, fun w' hS => by have hc := hS.2.1.cell (i := 0) rfl; go_simp⟩) hS0 ?_
  try simp only [Act.put, List.setIfInBounds_toArray, List.set_cons_zero, List.set_cons_succ]
  refine held_take [3, 4, 8, 11] (i := 2) (v := .pointer (some ⟨lb, 0, none⟩)) rfl (by kernel_rfl) (fun _ _ _ h => h) (Or.inl ⟨by rfl, fun w' hS => by go_simp⟩) hS0 ?_
  try simp only [Act.put, List.setIfInBounds_toArray, List.set_cons_zero, List.set_cons_succ]
  refine held_take [4, 8, 11] (i := 3) (v := .pointer (some ⟨lb, 5, none⟩)) rfl (by kernel_rfl) (fun _ _ _ h => h) (Or.inl ⟨by rfl, fun w' hS => by go_simp⟩) hS0 ?_
  try simp only [Act.put, List.setIfInBounds_toArray, List.set_cons_zero, List.set_cons_succ]
  refine held_take [8, 11] (i := 4) (v := v4) rfl (by kernel_rfl) (fun _ _ _ h => h) (Or.inl ⟨by rfl, fun w' hS => by have hc := hS.1.cell (i := 5) rfl; go_simp⟩) hS0 ?_
  try simp only [Act.put, List.setIfInBounds_toArray, List.set_cons_zero, List.set_cons_succ]
  refine held_take [6, 7, 8, 11] (i := 5) (v := .pointer (some ⟨bp, 0, none⟩)) rfl (by kernel_rfl) (fun _ _ _ h => h) (Or.inl ⟨by rfl, fun w' hS => by have hc := hS.2.2.cell (i := 0) rfl; go_simp⟩) hS0 ?_
  try simp only [Act.put, List.setIfInBounds_toArray, List.set_cons_zero, List.set_cons_succ]
  refine held_one (i := 6) rfl (by kernel_rfl) (fun K hK => ?_)
  go_simp
  refine (box_any bp L ts wa HA0.out).mono ?_
  rintro e W1 (⟨m, r, h1, rfl, a1, k1⟩ | ⟨r, h1, rfl, k1⟩)
  rotate_left
  · unfold failP
    refine ⟨rfl, Or.inr ⟨r, ?_, rfl, HK0.out.call k1 (fun k hk => Or.inl (Or.inl hk))⟩⟩
    show andThen _ _ ts = _ 
    exact then_bad h1
  have hS1 : Blk W1 lb 38 [c0, c1, v1, v2, v3, v4, v5, c7] ∧ Blk W1 lvb 107 [.pointer (some ⟨lb, 0, none⟩)] ∧ Blk W1 ppb 71 [.pointer (some ⟨bp, 0, none⟩)] :=
    ⟨hS0.1.kept k1 (fun h => by have : lb = bp := h; omega), hS0.2.1.kept k1 (fun h => by have : lvb = bp := h; omega), hS0.2.2.kept k1 (fun h => by have : ppb = bp := h; omega)⟩
  have hz1 : base ≤ W1.heap.size := Nat.le_trans hz0 k1.size
  have hb1 : LvSt W1 lb base c0 c1 c7 v1 v2 v3 v4 v5 is := HB0.out.kept k1 (fun k hk => by have : k = bp := hk; omega)
  have hsz1 := k1.size
  have hold := HB0.out.lt
  have K1 := Lib.hid (HK0.out.call k1 (fun k hk => Or.inl (Or.inl hk))); have A1 := Lib.hid a1; have H1 := Lib.hid h1; have HB1 := Lib.hid hb1; have HOW := Lib.hid hold
  clear a1 k1 h1 hb1 hold HB0 HK0 HA0
  unfold boxC
  have hc : boxK.is W1 (fun k => wa.heap.size ≤ k) (boxC m) m := rfl
  refine hK.out _ _ (fun _ => hS1) ?_
  clear hK K
  try simp only [Act.put, List.setIfInBounds_toArray, List.set_cons_zero, List.set_cons_succ]
  refine held_one (i := 7) rfl (by kernel_rfl) (fun K hK => ?_)
  go_simp
  refine hK.out _ _ (fun _ => ⟨hS1.1.alloc _, hS1.2.1.alloc _, hS1.2.2.alloc _⟩) ?_
  clear hK K
  try simp only [Act.put, List.setIfInBounds_toArray, List.set_cons_zero, List.set_cons_succ]
  refine held_one (i := 8) rfl (by kernel_rfl) (fun K hK => ?_)
  rw [if_pos (by kernel_rfl)]
  obtain ⟨i0, hi, hz0', hz1', hz2⟩ := info_parts item4_info
  obtain ⟨css, hcon, hall⟩ := HB1.out.b4
  have hlc : (pillarsOf is).length ≤ is.length := List.length_filterMap_le _ _
  refine con_append (t := 35) (T := 48) (m := boxK.size) (B := base) Tryz.underlying35 hi hz0' hz1' hz2 rfl (by decide) (by decide) (.tmp 8) (.tmp 11) rfl v4 css (boxC m) rfl (hcon.of_block (fun k hk => Below.heap_alloc _ _ _ (by have := (HOW.out v4 (by simp) k hk).2; omega))) W1.heap.size rfl (Blk.new W1 48 (boxC m)) (boxK.len hc) (boxK.one hc) (by rw [All2.length hall]; omega) (by rw [World.size_alloc]; omega) ?_
  intro v' W2 hcon' hg hat hone
  obtain ⟨g, cap, rfl⟩ : ∃ g cap, v' = .slice (some ⟨g, 0, none⟩) (css ++ [(boxC m)]).length cap := by
    rcases hcon'.form with ⟨_, h⟩ | ⟨g, cap, cur, h1, h2, h3, h4, _⟩
    · simp at h
    · exact ⟨g, cap, h1⟩
  have hgr : ∀ k, k < W1.heap.size → v4.ownBlock ≠ some k → W2.heap[k]? = W1.heap[k]? := fun k hk hn => (hg.block k (by rw [World.size_alloc]; omega) (fun h => hn h.symm)).trans (Below.heap_alloc _ _ _ hk)
  have hnv : ∀ q, q < base → v4.ownBlock ≠ some q := fun q hq h => by have := (own_lt hcon.own h).1; omega
  have hS2 : Blk W2 lb 38 [c0, c1, v1, v2, v3, v4, v5, c7] ∧ Blk W2 lvb 107 [.pointer (some ⟨lb, 0, none⟩)] ∧ Blk W2 ppb 71 [.pointer (some ⟨bp, 0, none⟩)] := ⟨(hgr lb (by omega) (hnv lb hlb)).trans hS1.1, (hgr lvb (by omega) (hnv lvb hlv)).trans hS1.2.1, (hgr ppb (by omega) (hnv ppb hpp)).trans hS1.2.2⟩
  have K2 : Kp (fun k => k = bp ∨ k = lb ∨ base ≤ k) w W2 := (K1.out.alloc (.cells ((boxC m)).toArray 48)).grown hg (fun k hk => Or.inl (Or.inr (Or.inr (own_lt hcon.own hk).1)))
  have A2 : At W2 bp L r := A1.out.kept (E := fun k => base ≤ k) (((Kp.refl _ W1).alloc (.cells ((boxC m)).toArray 48)).grown hg (fun k hk => Or.inl (own_lt hcon.own hk).1)) (fun k hk => by have : base ≤ k := hk; omega)
  have hst := HB1.out.pillar hlb hall hc (by omega) (fun v hv k hk => (HOW.out v hv k hk).2) hcon' hgr hat (by rw [World.size_alloc]; omega)
  have HK2 := Lib.hid K2; have HA2 := Lib.hid A2; have HST2 := Lib.hid hst; have HP2 := Lib.hid hS2.2.2
  have hc2 := hS2.1.cell (i := 5) rfl
  have hf2 := hS2.1.free 5
  clear K2 A2 hst hgr hg hat hcon hall hc hS0 hS1 hcon' HB1
  generalize (css ++ [(boxC m)]).length = n2 at *
  refine hK.out _ _ (fun _ => hS2) ?_
  clear hK K
  try simp only [Act.put, List.setIfInBounds_toArray, List.set_cons_zero, List.set_cons_succ]
  refine held_one (i := 9) rfl (by kernel_rfl) (fun K hK => ?_)
  go_simp
  refine hK.out _ _ (fun _ => hS2) ?_
  clear hK K
  try simp only [Act.put, List.setIfInBounds_toArray, List.set_cons_zero, List.set_cons_succ]
  refine held_one (i := 10) rfl (by kernel_rfl) (fun K hK => ?_)
  go_simp
  refine hK.out _ _ (fun _ => hS2) ?_
  clear hK K
  try simp only [Act.put, List.setIfInBounds_toArray, List.set_cons_zero, List.set_cons_succ]
  refine held_one (i := 11) rfl (by kernel_rfl) (fun K hK => ?_)
  go_simp
  refine hK.out _ _ (fun h => absurd (by decide) h) ?_
  clear hK K hS2 hc2 hf2
  try simp only [Act.put, List.setIfInBounds_toArray, List.set_cons_zero, List.set_cons_succ]
  refine held_done (by kernel_rfl) ?_ _
  have A3 := HA2.out.kept (E := onlyB lb) ((Kp.refl (onlyB lb) W2).setOld lb 5 rfl (.slice (some ⟨g, 0, none⟩) n2 cap)) (fun k hk => by have : k = lb := hk; omega)
  have K3 := HK2.out.setOld lb 5 (Or.inr (Or.inl rfl)) (.slice (some ⟨g, 0, none⟩) n2 cap)
  have P3 := HP2.out.other (p := ⟨lb, 5, none⟩) (by show ¬ lb = ppb; omega) (.slice (some ⟨g, 0, none⟩) n2 cap)
  have HST3 := HST2
  clear HST2
  generalize W2.setCell ⟨lb, 5, none⟩ (.slice (some ⟨g, 0, none⟩) n2 cap) = W3 at *
  have hc3 := P3.cell (i := 0) rfl
  have HA3 := Lib.hid A3; have HK3 := Lib.hid K3
  clear A3 K3 P3 HA2 HK2 HP2 K1 A1
  show Code.wp _ _ _ _ _
  go_wp2_with fail
  refine (word_any bp L r wSemi _ HA3.out).mono ?_
  rintro e W4 (⟨x, q, h4, rfl, a4, k4⟩ | ⟨q, h4, rfl, k4⟩)
  · have A4 := Lib.hid a4; have H4 := Lib.hid h4; have K4 := Lib.hid (HK3.out.call k4 (fun k hk => Or.inl (Or.inl hk))); have ST4 := Lib.hid (HST3.out.kept k4 (fun k hk => by have : k = bp := hk; omega))
    clear a4 h4 k4
    go_wp2
    go_end0
    refine Or.inl ⟨.pillar m, q, ?_, rfl, ⟨_, ST4.out⟩, A4.out, K4.out⟩
    show andThen _ _ ts = _
    rw [then_of H1.out, then_of H4.out]; rfl
  · have H4 := Lib.hid h4; have K4 := Lib.hid (HK3.out.call k4 (fun k hk => Or.inl (Or.inl hk)))
    clear h4 k4
    unfold failP
    go_wp2
    refine ⟨rfl, Or.inr ⟨q, ?_, rfl, K4.out⟩⟩
    show andThen _ _ ts = _
    rw [then_of H1.out, then_bad H4.out]
theorem item5_ent (args : Array Value) (w : World) : (callFunc 67 args).run Tryz.prog w = .ok (.enter 67 args) w := enters_of Tryz.func67 (by kernel_rfl) rfl args w
theorem item5_info : (Tryz.prog.info? 24).map (fun i => (i.zero, i.size, i.bytes)) = some (some (.agg #[.int .i64 0, .int .i64 0]), pointK.size, 16) := by kernel_rfl
set_option linter.unusedSimpArgs false in
set_option maxRecDepth 100000 in
set_option maxHeartbeats 4000000 in
theorem item5_any (bp L lb lvb ppb base at_ : Nat) (ts : List TokP) (c0 c1 c7 v1 v2 v3 v4 v5 : Value) (is : List ItemP) (w : World) (hA : At w bp L ts) (hSt : LvSt w lb base c0 c1 c7 v1 v2 v3 v4 v5 is) (hL : Blk w lvb 107 [.pointer (some ⟨lb, 0, none⟩)]) (hP : Blk w ppb 71 [.pointer (some ⟨bp, 0, none⟩)])
    (hbw : base ≤ w.heap.size) (hlb : lb < base) (hlv : lvb < base) (hpp : ppb < base) (hbp : bp < base) (hbl : bp < lb) (hbv : bp < lvb) (hbq : bp < ppb) (hpq : lb ≠ ppb) (hlen : is.length + 1 ≤ 1000000) :
    Calls Tryz.prog 67 #[.int .i64 (at_ : Nat), .pointer (some ⟨lvb, 0, none⟩), .pointer (some ⟨ppb, 0, none⟩)] w fun e w' =>
      (∃ it r, itemRest 5 at_ ts = .ok it r ∧ e = .returned (.tuple #[]) ∧ (∃ v', LvSt w' lb base c0 c1 c7 v1 v2 v3 v4 v' (is ++ [it])) ∧ At w' bp L r ∧ Kp (fun k => k = bp ∨ k = lb ∨ base ≤ k) w w') ∨ ∃ r, itemRest 5 at_ ts = .bad r ∧ e = failP r L ∧ Kp (fun k => k = bp ∨ k = lb ∨ base ≤ k) w w' := by
  have HA := Lib.hid hA; have HST := Lib.hid hSt; have HL := Lib.hid hL; have HP := Lib.hid hP
  clear hA hSt hL hP
  go_enter Tryz.func67, Tryz.ntmps67
  refine wp_seq (wp_region_any (by kernel_rfl) ?_)
  have hS0 : Blk w.drew lb 38 [c0, c1, v1, v2, v3, v4, v5, c7] ∧ Blk w.drew lvb 107 [.pointer (some ⟨lb, 0, none⟩)] ∧ Blk w.drew ppb 71 [.pointer (some ⟨bp, 0, none⟩)] := ⟨HST.out.blk, HL.out, HP.out⟩
  have hA0 : At w.drew bp L ts := HA.out.kept (E := fun _ => False) (Kp.refl _ _).drew (fun _ h => h.elim)
  have hK0 : Kp (fun k => k = bp ∨ k = lb ∨ base ≤ k) w w.drew := (Kp.refl _ _).drew
  have hB0 : LvSt w.drew lb base c0 c1 c7 v1 v2 v3 v4 v5 is := HST.out.kept (E := fun _ => False) (Kp.refl _ _).drew (fun _ h => h.elim)
  have hz0 : base ≤ w.drew.heap.size := hbw
  refine any_of_held (S := fun W => Blk W lb 38 [c0, c1, v1, v2, v3, v4, v5, c7] ∧ Blk W lvb 107 [.pointer (some ⟨lb, 0, none⟩)] ∧ Blk W ppb 71 [.pointer (some ⟨bp, 0, none⟩)]) (N := [11]) _ _ _ _ ?_
  change held _ _ _ _ _ _ _ _ _ w.drew
  obtain ⟨wa, hwa⟩ : ∃ wa, w.drew = wa := ⟨_, rfl⟩
  rw [hwa] at hS0 hA0 hK0 hB0 hz0 ⊢
  have HK0 := Lib.hid hK0; have HA0 := Lib.hid hA0; have HB0 := Lib.hid hB0
  clear hK0 hA0 hB0 hwa HA HST HL HP
  refine held_take [9, 10, 11] (i := 0) (v := .pointer (some ⟨lb, 0, none⟩)) rfl (by kernel_rfl) (fun _ _ _ h => h) (Or.inl ⟨by rfl, fun w' hS => by have hc := hS.2.1.cell (i := 0) rfl; go_simp⟩) hS0 ?_
  try simp only [Act.put, List.setIfInBounds_toArray, List.set_cons_zero, List.set_cons_succ]
  refine held_take [2, 3, 4, 8, 11] (i := 1) (v := .pointer (some ⟨lb, 0, none⟩)) rfl (by kernel_rfl) (fun _ _ _ h => h) (Or.inl ⟨by rfl, fun w' hS => by have hc := hS.2.1.cell (i := 0) rfl; go_simp⟩) hS0 ?_
  try simp only [Act.put, List.setIfInBounds_toArray, List.set_cons_zero, List.set_cons_succ]
  refine held_take [3, 4, 8, 11] (i := 2) (v := .pointer (some ⟨lb, 0, none⟩)) rfl (by kernel_rfl) (fun _ _ _ h => h) (Or.inl ⟨by rfl, fun w' hS => by go_simp⟩) hS0 ?_
  try simp only [Act.put, List.setIfInBounds_toArray, List.set_cons_zero, List.set_cons_succ]
  refine held_take [4, 8, 11] (i := 3) (v := .pointer (some ⟨lb, 6, none⟩)) rfl (by kernel_rfl) (fun _ _ _ h => h) (Or.inl ⟨by rfl, fun w' hS => by go_simp⟩) hS0 ?_
  try simp only [Act.put, List.setIfInBounds_toArray, List.set_cons_zero, List.set_cons_succ]
  refine held_take [8, 11] (i := 4) (v := v5) rfl (by kernel_rfl) (fun _ _ _ h => h) (Or.inl ⟨by rfl, fun w' hS => by have hc := hS.1.cell (i := 6) rfl; go_simp⟩) hS0 ?_
  try simp only [Act.put, List.setIfInBounds_toArray, List.set_cons_zero, List.set_cons_succ]
  refine held_take [6, 7, 8, 11] (i := 5) (v := .pointer (some ⟨bp, 0, none⟩)) rfl (by kernel_rfl) (fun _ _ _ h => h) (Or.inl ⟨by rfl, fun w' hS => by have hc := hS.2.2.cell (i := 0) rfl; go_simp⟩) hS0 ?_
  try simp only [Act.put, List.setIfInBounds_toArray, List.set_cons_zero, List.set_cons_succ]
  refine held_one (i := 6) rfl (by kernel_rfl) (fun K hK => ?_)
  go_simp
  refine (point_any bp L ts wa HA0.out).mono ?_
  rintro e W1 (⟨m, r, h1, rfl, a1, k1⟩ | ⟨r, h1, rfl, k1⟩)
  rotate_left
  · unfold failP
    refine ⟨rfl, Or.inr ⟨r, ?_, rfl, HK0.out.call k1 (fun k hk => Or.inl (Or.inl hk))⟩⟩
    show andThen _ _ ts = _ 
    exact then_bad h1
  have hS1 : Blk W1 lb 38 [c0, c1, v1, v2, v3, v4, v5, c7] ∧ Blk W1 lvb 107 [.pointer (some ⟨lb, 0, none⟩)] ∧ Blk W1 ppb 71 [.pointer (some ⟨bp, 0, none⟩)] :=
    ⟨hS0.1.kept k1 (fun h => by have : lb = bp := h; omega), hS0.2.1.kept k1 (fun h => by have : lvb = bp := h; omega), hS0.2.2.kept k1 (fun h => by have : ppb = bp := h; omega)⟩
  have hz1 : base ≤ W1.heap.size := Nat.le_trans hz0 k1.size
  have hb1 : LvSt W1 lb base c0 c1 c7 v1 v2 v3 v4 v5 is := HB0.out.kept k1 (fun k hk => by have : k = bp := hk; omega)
  have hsz1 := k1.size
  have hold := HB0.out.lt
  have K1 := Lib.hid (HK0.out.call k1 (fun k hk => Or.inl (Or.inl hk))); have A1 := Lib.hid a1; have H1 := Lib.hid h1; have HB1 := Lib.hid hb1; have HOW := Lib.hid hold
  clear a1 k1 h1 hb1 hold HB0 HK0 HA0
  unfold pointC
  have hc : pointK.is W1 (fun k => wa.heap.size ≤ k) (pointC m) m := rfl
  refine hK.out _ _ (fun _ => hS1) ?_
  clear hK K
  try simp only [Act.put, List.setIfInBounds_toArray, List.set_cons_zero, List.set_cons_succ]
  refine held_one (i := 7) rfl (by kernel_rfl) (fun K hK => ?_)
  go_simp
  refine hK.out _ _ (fun _ => ⟨hS1.1.alloc _, hS1.2.1.alloc _, hS1.2.2.alloc _⟩) ?_
  clear hK K
  try simp only [Act.put, List.setIfInBounds_toArray, List.set_cons_zero, List.set_cons_succ]
  refine held_one (i := 8) rfl (by kernel_rfl) (fun K hK => ?_)
  rw [if_pos (by kernel_rfl)]
  obtain ⟨i0, hi, hz0', hz1', hz2⟩ := info_parts item5_info
  obtain ⟨css, hcon, hall⟩ := HB1.out.b5
  have hlc : (doorsOf is).length ≤ is.length := List.length_filterMap_le _ _
  refine con_append (t := 36) (T := 24) (m := pointK.size) (B := base) Tryz.underlying36 hi hz0' hz1' hz2 rfl (by decide) (by decide) (.tmp 8) (.tmp 11) rfl v5 css (pointC m) rfl (hcon.of_block (fun k hk => Below.heap_alloc _ _ _ (by have := (HOW.out v5 (by simp) k hk).2; omega))) W1.heap.size rfl (Blk.new W1 24 (pointC m)) (pointK.len hc) (pointK.one hc) (by rw [All2.length hall]; omega) (by rw [World.size_alloc]; omega) ?_
  intro v' W2 hcon' hg hat hone
  obtain ⟨g, cap, rfl⟩ : ∃ g cap, v' = .slice (some ⟨g, 0, none⟩) (css ++ [(pointC m)]).length cap := by
    rcases hcon'.form with ⟨_, h⟩ | ⟨g, cap, cur, h1, h2, h3, h4, _⟩
    · simp at h
    · exact ⟨g, cap, h1⟩
  have hgr : ∀ k, k < W1.heap.size → v5.ownBlock ≠ some k → W2.heap[k]? = W1.heap[k]? := fun k hk hn => (hg.block k (by rw [World.size_alloc]; omega) (fun h => hn h.symm)).trans (Below.heap_alloc _ _ _ hk)
  have hnv : ∀ q, q < base → v5.ownBlock ≠ some q := fun q hq h => by have := (own_lt hcon.own h).1; omega
  have hS2 : Blk W2 lb 38 [c0, c1, v1, v2, v3, v4, v5, c7] ∧ Blk W2 lvb 107 [.pointer (some ⟨lb, 0, none⟩)] ∧ Blk W2 ppb 71 [.pointer (some ⟨bp, 0, none⟩)] := ⟨(hgr lb (by omega) (hnv lb hlb)).trans hS1.1, (hgr lvb (by omega) (hnv lvb hlv)).trans hS1.2.1, (hgr ppb (by omega) (hnv ppb hpp)).trans hS1.2.2⟩
  have K2 : Kp (fun k => k = bp ∨ k = lb ∨ base ≤ k) w W2 := (K1.out.alloc (.cells ((pointC m)).toArray 24)).grown hg (fun k hk => Or.inl (Or.inr (Or.inr (own_lt hcon.own hk).1)))
  have A2 : At W2 bp L r := A1.out.kept (E := fun k => base ≤ k) (((Kp.refl _ W1).alloc (.cells ((pointC m)).toArray 24)).grown hg (fun k hk => Or.inl (own_lt hcon.own hk).1)) (fun k hk => by have : base ≤ k := hk; omega)
  have hst := HB1.out.door hlb hall hc (by omega) (fun v hv k hk => (HOW.out v hv k hk).2) hcon' hgr hat (by rw [World.size_alloc]; omega)
  have HK2 := Lib.hid K2; have HA2 := Lib.hid A2; have HST2 := Lib.hid hst; have HP2 := Lib.hid hS2.2.2
  have hc2 := hS2.1.cell (i := 6) rfl
  have hf2 := hS2.1.free 6
  clear K2 A2 hst hgr hg hat hcon hall hc hS0 hS1 hcon' HB1
  generalize (css ++ [(pointC m)]).length = n2 at *
  refine hK.out _ _ (fun _ => hS2) ?_
  clear hK K
  try simp only [Act.put, List.setIfInBounds_toArray, List.set_cons_zero, List.set_cons_succ]
  refine held_one (i := 9) rfl (by kernel_rfl) (fun K hK => ?_)
  go_simp
  refine hK.out _ _ (fun _ => hS2) ?_
  clear hK K
  try simp only [Act.put, List.setIfInBounds_toArray, List.set_cons_zero, List.set_cons_succ]
  refine held_one (i := 10) rfl (by kernel_rfl) (fun K hK => ?_)
  go_simp
  refine hK.out _ _ (fun _ => hS2) ?_
  clear hK K
  try simp only [Act.put, List.setIfInBounds_toArray, List.set_cons_zero, List.set_cons_succ]
  refine held_one (i := 11) rfl (by kernel_rfl) (fun K hK => ?_)
  go_simp
  refine hK.out _ _ (fun h => absurd (by decide) h) ?_
  clear hK K hS2 hc2 hf2
  try simp only [Act.put, List.setIfInBounds_toArray, List.set_cons_zero, List.set_cons_succ]
  refine held_done (by kernel_rfl) ?_ _
  have A3 := HA2.out.kept (E := onlyB lb) ((Kp.refl (onlyB lb) W2).setOld lb 6 rfl (.slice (some ⟨g, 0, none⟩) n2 cap)) (fun k hk => by have : k = lb := hk; omega)
  have K3 := HK2.out.setOld lb 6 (Or.inr (Or.inl rfl)) (.slice (some ⟨g, 0, none⟩) n2 cap)
  have P3 := HP2.out.other (p := ⟨lb, 6, none⟩) (by show ¬ lb = ppb; omega) (.slice (some ⟨g, 0, none⟩) n2 cap)
  have HST3 := HST2
  clear HST2
  generalize W2.setCell ⟨lb, 6, none⟩ (.slice (some ⟨g, 0, none⟩) n2 cap) = W3 at *
  have hc3 := P3.cell (i := 0) rfl
  have HA3 := Lib.hid A3; have HK3 := Lib.hid K3
  clear A3 K3 P3 HA2 HK2 HP2 K1 A1
  show Code.wp _ _ _ _ _
  go_wp2_with fail
  refine (word_any bp L r wSemi _ HA3.out).mono ?_
  rintro e W4 (⟨x, q, h4, rfl, a4, k4⟩ | ⟨q, h4, rfl, k4⟩)
  · have A4 := Lib.hid a4; have H4 := Lib.hid h4; have K4 := Lib.hid (HK3.out.call k4 (fun k hk => Or.inl (Or.inl hk))); have ST4 := Lib.hid (HST3.out.kept k4 (fun k hk => by have : k = bp := hk; omega))
    clear a4 h4 k4
    go_wp2
    go_end0
    refine Or.inl ⟨.door m, q, ?_, rfl, ⟨_, ST4.out⟩, A4.out, K4.out⟩
    show andThen _ _ ts = _
    rw [then_of H1.out, then_of H4.out]; rfl
  · have H4 := Lib.hid h4; have K4 := Lib.hid (HK3.out.call k4 (fun k hk => Or.inl (Or.inl hk)))
    clear h4 k4
    unfold failP
    go_wp2
    refine ⟨rfl, Or.inr ⟨q, ?_, rfl, K4.out⟩⟩
    show andThen _ _ ts = _
    rw [then_of H1.out, then_bad H4.out]
end Go.Proofs.YtlfjdohjfmfcdaaGreatDoor

/-! ## The walk of the items' functions. -/
namespace Go.Proofs.YtlfjdohjfmfcdaaGreatDoor
open Go.RowKit Go.Sort Go.Shelf Foyer.Plan Foyer.Round

/-- An item's function. -/
def itemV (f l p : Nat) : Value := .func (.func f) #[] #[.pointer (some ⟨l, 0, none⟩), .pointer (some ⟨p, 0, none⟩)]
def itemsL (l p : Nat) : List (List UInt8 × Value) := [(wBlock, itemV 60 l p), (wArea, itemV 62 l p), (wAisle, itemV 64 l p), (wPillar, itemV 66 l p), (wDoor, itemV 67 l p)]
def itemAt (k l p : Nat) : Value := if k = 1 then itemV 60 l p else if k = 2 then itemV 62 l p else if k = 3 then itemV 64 l p else if k = 4 then itemV 66 l p else if k = 5 then itemV 67 l p else .nilFunc
theorem items_at (s : List UInt8) (l p : Nat) : (entryAt s (itemsL l p)).getD .nilFunc = itemAt (sort s) l p := by
  unfold itemsL Foyer.Plan.sort
  simp only [entryAt]
  repeat' split
  all_goals rfl
theorem sort_lt (s : List UInt8) : sort s = 0 ∨ sort s = 1 ∨ sort s = 2 ∨ sort s = 3 ∨ sort s = 4 ∨ sort s = 5 := by
  unfold Foyer.Plan.sort
  repeat' split
  all_goals simp
theorem items_look (w : World) {b c l p : Nat} (h : MapB w b (itemsL l p) c) (s : List UInt8) : (Instr.lookup 105 (.map (some b)) (.string ⟨s.toArray⟩) false).run Tryz.prog w = .ok (itemAt (sort s) l p) w := by
  rw [map_lookup Tryz.underlying105 Tryz.underlying9 w (z := .nilFunc) (by kernel_rfl) h, items_at]
theorem nil_nil (w : World) : (binOp BinOp.neq 108 .nilFunc .nilFunc).run Tryz.prog w = .ok (.bool false) w := by kernel_rfl
theorem func_nil (f : Fn) (a b : Array Value) (w : World) : (binOp BinOp.neq 108 (.func f a b) .nilFunc).run Tryz.prog w = .ok (.bool true) w := by kernel_rfl
theorem nil_guard (w : World) : (eqGuard BinOp.neq 108 (.tmp 7) (.const .nilFunc) .nilFunc .nilFunc).run Tryz.prog w = .ok () w := by kernel_rfl
theorem func_guard (f : Fn) (a b : Array Value) (w : World) : (eqGuard BinOp.neq 108 (.tmp 7) (.const .nilFunc) (.func f a b) .nilFunc).run Tryz.prog w = .ok () w := by kernel_rfl
set_option maxRecDepth 100000 in
set_option maxHeartbeats 1000000 in
theorem itemsOf_any (bp lb : Nat) (w : World) : Calls Tryz.prog 55 #[.pointer (some ⟨bp, 0, none⟩), .pointer (some ⟨lb, 0, none⟩)] w fun e w' =>
    e = .returned (.map (some (w.heap.size + 2))) ∧ Kp (fun _ => False) w w' ∧ Blk w' w.heap.size 71 [.pointer (some ⟨bp, 0, none⟩)] ∧ Blk w' (w.heap.size + 1) 107 [.pointer (some ⟨lb, 0, none⟩)] ∧ MapB w' (w.heap.size + 2) (itemsL (w.heap.size + 1) w.heap.size) 5 ∧ w.heap.size + 3 ≤ w'.heap.size := by
  have hmf := makes_func
  obtain ⟨w1, hw1⟩ : ∃ w1, (w.alloc (.cells #[.pointer (some ⟨bp, 0, none⟩)] 71)).alloc (.cells #[.pointer (some ⟨lb, 0, none⟩)] 107) = w1 := ⟨_, rfl⟩
  have hsz : w1.heap.size = w.heap.size + 2 := by rw [← hw1]; simp
  have P1 : Blk w1 w.heap.size 71 [.pointer (some ⟨bp, 0, none⟩)] := by rw [← hw1]; exact (Blk.new w _ [.pointer (some ⟨bp, 0, none⟩)]).alloc _
  have L1 : Blk w1 (w.heap.size + 1) 107 [.pointer (some ⟨lb, 0, none⟩)] := by
    have := Blk.new (w.alloc (.cells #[.pointer (some ⟨bp, 0, none⟩)] 71)) 107 [.pointer (some ⟨lb, 0, none⟩)]
    rw [World.size_alloc] at this
    rw [← hw1]; exact this
  have K1 : Kp (fun _ => False) w w1 := by rw [← hw1]; exact ((Kp.refl _ _).alloc _).alloc _
  have i0 : (Instr.mapUpdate 105 (.map (some (w.heap.size + 2))) (.string ⟨#[98, 108, 111, 99, 107]⟩) (.func (.func 60) #[] #[.pointer (some ⟨w.heap.size + 1, 0, none⟩), .pointer (some ⟨w.heap.size, 0, none⟩)])).run Tryz.prog (w1.alloc (.map #[] 0)) = .ok () (w1.alloc (.map (entriesOf 0 [(wBlock, itemV 60 (w.heap.size + 1) w.heap.size)]).toArray 1)) :=
    map_insert Tryz.underlying105 Tryz.underlying9 w1 [] wBlock (itemV 60 (w.heap.size + 1) w.heap.size) rfl 0 rfl _ hsz.symm
  have i1 : (Instr.mapUpdate 105 (.map (some (w.heap.size + 2))) (.string ⟨#[97, 114, 101, 97]⟩) (.func (.func 62) #[] #[.pointer (some ⟨w.heap.size + 1, 0, none⟩), .pointer (some ⟨w.heap.size, 0, none⟩)])).run Tryz.prog (w1.alloc (.map (entriesOf 0 [(wBlock, itemV 60 (w.heap.size + 1) w.heap.size)]).toArray 1)) = .ok () (w1.alloc (.map (entriesOf 0 [(wBlock, itemV 60 (w.heap.size + 1) w.heap.size), (wArea, itemV 62 (w.heap.size + 1) w.heap.size)]).toArray 2)) :=
    map_insert Tryz.underlying105 Tryz.underlying9 w1 [(wBlock, itemV 60 (w.heap.size + 1) w.heap.size)] wArea (itemV 62 (w.heap.size + 1) w.heap.size) rfl 1 rfl _ hsz.symm
  have i2 : (Instr.mapUpdate 105 (.map (some (w.heap.size + 2))) (.string ⟨#[97, 105, 115, 108, 101]⟩) (.func (.func 64) #[] #[.pointer (some ⟨w.heap.size + 1, 0, none⟩), .pointer (some ⟨w.heap.size, 0, none⟩)])).run Tryz.prog (w1.alloc (.map (entriesOf 0 [(wBlock, itemV 60 (w.heap.size + 1) w.heap.size), (wArea, itemV 62 (w.heap.size + 1) w.heap.size)]).toArray 2)) = .ok () (w1.alloc (.map (entriesOf 0 [(wBlock, itemV 60 (w.heap.size + 1) w.heap.size), (wArea, itemV 62 (w.heap.size + 1) w.heap.size), (wAisle, itemV 64 (w.heap.size + 1) w.heap.size)]).toArray 3)) :=
    map_insert Tryz.underlying105 Tryz.underlying9 w1 [(wBlock, itemV 60 (w.heap.size + 1) w.heap.size), (wArea, itemV 62 (w.heap.size + 1) w.heap.size)] wAisle (itemV 64 (w.heap.size + 1) w.heap.size) rfl 2 rfl _ hsz.symm
  have i3 : (Instr.mapUpdate 105 (.map (some (w.heap.size + 2))) (.string ⟨#[112, 105, 108, 108, 97, 114]⟩) (.func (.func 66) #[] #[.pointer (some ⟨w.heap.size + 1, 0, none⟩), .pointer (some ⟨w.heap.size, 0, none⟩)])).run Tryz.prog (w1.alloc (.map (entriesOf 0 [(wBlock, itemV 60 (w.heap.size + 1) w.heap.size), (wArea, itemV 62 (w.heap.size + 1) w.heap.size), (wAisle, itemV 64 (w.heap.size + 1) w.heap.size)]).toArray 3)) = .ok () (w1.alloc (.map (entriesOf 0 [(wBlock, itemV 60 (w.heap.size + 1) w.heap.size), (wArea, itemV 62 (w.heap.size + 1) w.heap.size), (wAisle, itemV 64 (w.heap.size + 1) w.heap.size), (wPillar, itemV 66 (w.heap.size + 1) w.heap.size)]).toArray 4)) :=
    map_insert Tryz.underlying105 Tryz.underlying9 w1 [(wBlock, itemV 60 (w.heap.size + 1) w.heap.size), (wArea, itemV 62 (w.heap.size + 1) w.heap.size), (wAisle, itemV 64 (w.heap.size + 1) w.heap.size)] wPillar (itemV 66 (w.heap.size + 1) w.heap.size) rfl 3 rfl _ hsz.symm
  have i4 : (Instr.mapUpdate 105 (.map (some (w.heap.size + 2))) (.string ⟨#[100, 111, 111, 114]⟩) (.func (.func 67) #[] #[.pointer (some ⟨w.heap.size + 1, 0, none⟩), .pointer (some ⟨w.heap.size, 0, none⟩)])).run Tryz.prog (w1.alloc (.map (entriesOf 0 [(wBlock, itemV 60 (w.heap.size + 1) w.heap.size), (wArea, itemV 62 (w.heap.size + 1) w.heap.size), (wAisle, itemV 64 (w.heap.size + 1) w.heap.size), (wPillar, itemV 66 (w.heap.size + 1) w.heap.size)]).toArray 4)) = .ok () (w1.alloc (.map (entriesOf 0 (itemsL (w.heap.size + 1) w.heap.size)).toArray 5)) :=
    map_insert Tryz.underlying105 Tryz.underlying9 w1 [(wBlock, itemV 60 (w.heap.size + 1) w.heap.size), (wArea, itemV 62 (w.heap.size + 1) w.heap.size), (wAisle, itemV 64 (w.heap.size + 1) w.heap.size), (wPillar, itemV 66 (w.heap.size + 1) w.heap.size)] wDoor (itemV 67 (w.heap.size + 1) w.heap.size) rfl 4 rfl _ hsz.symm
  have hmm : (Instr.makeMap 105 none).run Tryz.prog w1 = .ok (.map (some w1.heap.size)) (w1.alloc (.map #[] 0)) := run_makeMap _ _
  have P2 := P1.alloc (.map (entriesOf 0 (itemsL (w.heap.size + 1) w.heap.size)).toArray 5)
  have L2 := L1.alloc (.map (entriesOf 0 (itemsL (w.heap.size + 1) w.heap.size)).toArray 5)
  have K2 := K1.alloc (.map (entriesOf 0 (itemsL (w.heap.size + 1) w.heap.size)).toArray 5)
  have M2 : MapB (w1.alloc (.map (entriesOf 0 (itemsL (w.heap.size + 1) w.heap.size)).toArray 5)) (w.heap.size + 2) (itemsL (w.heap.size + 1) w.heap.size) 5 := by rw [← hsz]; exact (MapKept.heap_alloc w1 _).1
  have Z2 : w.heap.size + 3 ≤ (w1.alloc (.map (entriesOf 0 (itemsL (w.heap.size + 1) w.heap.size)).toArray 5)).heap.size := by simp [hsz]
  have P2 := Lib.hid P2; have L2 := Lib.hid L2; have K2 := Lib.hid K2; have M2 := Lib.hid M2; have Z2 := Lib.hid Z2
  clear P1 L1 K1
  go_enter Tryz.func55, Tryz.ntmps55
  go_wp2

  refine bodyPost_ret (results_tmp rfl _ _ _) rfl ?_
  exact ⟨rfl, K2.out, P2.out, L2.out, M2.out, Z2.out⟩

theorem levelT_ent (args : Array Value) (w : World) : (callFunc 57 args).run Tryz.prog w = .ok (.enter 57 args) w := enters_of Tryz.func57 (by kernel_rfl) rfl args w
set_option maxRecDepth 100000 in
theorem levelT_asks (ib mb c l p : Nat) (E : Nat → Prop) (w : World) (hk : Blk w ib 105 [.map (some mb)]) (hm : MapB w mb (itemsL l p) c) (h1 : ¬ E ib) (h2 : ¬ E mb) : Asks 57 #[.pointer (some ⟨ib, 0, none⟩)] (fun t => decide (sort t.text ≠ 0)) E w := by
  intro w1 t k
  have hB := (hk.kept k h1).alloc (.cells #[.int .i64 (t.kind : Nat), .string ⟨t.text.toArray⟩, .int .i64 (t.val : Nat), .int .i64 (t.pos : Nat)] 67)
  have hM := (hm.kept k h2).kept (E := fun _ => False) ((Kp.refl _ _).alloc (.cells #[.int .i64 (t.kind : Nat), .string ⟨t.text.toArray⟩, .int .i64 (t.val : Nat), .int .i64 (t.pos : Nat)] 67)) (fun h => h)
  have h0 := hB.cell (i := 0) rfl
  have hl := items_look _ hM t.text
  show Calls Tryz.prog 57 #[.agg #[.int .i64 (t.kind : Nat), .string ⟨t.text.toArray⟩, .int .i64 (t.val : Nat), .int .i64 (t.pos : Nat)], .pointer (some ⟨ib, 0, none⟩)] w1 _
  have hw : ∃ b, decide (sort t.text ≠ 0) = b ∧ (∀ w, (binOp BinOp.neq 108 (itemAt (sort t.text) l p) .nilFunc).run Tryz.prog w = .ok (.bool b) w) ∧ ∀ w, (eqGuard BinOp.neq 108 (.tmp 7) (.const .nilFunc) (itemAt (sort t.text) l p) .nilFunc).run Tryz.prog w = .ok () w := by
    rcases sort_lt t.text with h | h | h | h | h | h <;> rw [h]
    · exact ⟨false, by decide, nil_nil, nil_guard⟩
    all_goals exact ⟨true, by decide, fun w => func_nil _ _ _ w, fun w => func_guard _ _ _ w⟩
  obtain ⟨b, hb, hw, hgd⟩ := hw
  obtain ⟨v, hv⟩ : ∃ v, itemAt (sort t.text) l p = v := ⟨_, rfl⟩
  rw [hv] at hl hw hgd
  have HB := Lib.hid hb
  clear hB hM k hk hm h1 h2 hb hv
  go_enter Tryz.func57, Tryz.ntmps57
  go_wp2
  refine bodyPost_ret (results_tmp rfl _ _ _) rfl ⟨?_, (Kp.refl _ _).alloc _⟩
  show Ending.returned (.bool b) = Ending.returned (.bool (decide (sort t.text ≠ 0)))
  rw [HB.out]
end Go.Proofs.YtlfjdohjfmfcdaaGreatDoor
