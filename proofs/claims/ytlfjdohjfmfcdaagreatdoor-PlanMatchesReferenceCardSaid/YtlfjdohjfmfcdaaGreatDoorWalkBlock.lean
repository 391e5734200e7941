/-
  The walk of blocks.
-/
import Derived.Test.YtlfjdohjfmfcdaaGreatDoorWalkRow
namespace Go.Proofs.YtlfjdohjfmfcdaaGreatDoor
open Go.RowKit Go.Sort Go.Shelf Foyer.Plan Foyer.Round

theorem blockC_ent (args : Array Value) (w : World) : (callFunc 72 args).run Tryz.prog w = .ok (.enter 72 args) w := enters_of Tryz.func72 (by kernel_rfl) rfl args w
theorem blockC_info : (Tryz.prog.info? 44).map (fun i => (i.zero, i.size, i.bytes)) = some (some (.agg #[.string ⟨#[]⟩, .int .i64 0, .int .i64 0, .int .i64 0, .int .i64 0, .int .i64 0, .slice none 0 0, .int .i64 0]), rowK.size, 88) := by kernel_rfl
set_option linter.unusedSimpArgs false in
set_option maxRecDepth 100000 in
set_option maxHeartbeats 2000000 in
theorem blockC_any (bp L vb pb base : Nat) (ts : List TokP) (nm at_ v : Value) (ms : List RowP) (w : World) (hA : At w bp L ts) (hV : Blk w vb 41 [nm, v, at_]) (hP : Blk w pb 71 [.pointer (some ⟨bp, 0, none⟩)])
    (hB : Building rowK w (fun k => base ≤ k ∧ v.ownBlock ≠ some k) base 44 v ms) (hbw : base ≤ w.heap.size) (hvb : vb < base) (hpb : pb < base) (hbp : bp < base) (hbv : bp < vb) (hbpb : bp ≠ pb) (hlen : ms.length + 1 ≤ 1000000) (hts : ts.length ≤ 5000) :
    Calls Tryz.prog 72 #[.pointer (some ⟨vb, 0, none⟩), .pointer (some ⟨pb, 0, none⟩)] w fun e w' =>
      (∃ m r, rowP ts = .ok m r ∧ e = .returned (.tuple #[]) ∧ (∃ v', Blk w' vb 41 [nm, v', at_] ∧ Building rowK w' (fun k => base ≤ k ∧ v'.ownBlock ≠ some k) base 44 v' (ms ++ [m])) ∧ At w' bp L r ∧ Kp (fun k => k = bp ∨ k = vb ∨ base ≤ k) w w') ∨ ∃ r, rowP ts = .bad r ∧ e = failP r L ∧ Kp (fun k => k = bp ∨ k = vb ∨ base ≤ k) w w' := by
  have HA := Lib.hid hA; have HB := Lib.hid hB; have HV := Lib.hid hV; have HP := Lib.hid hP
  clear hA hB hV hP
  go_enter Tryz.func72, Tryz.ntmps72
  refine wp_region_any (by kernel_rfl) ?_
  have hS0 : Blk w.drew vb 41 [nm, v, at_] ∧ Blk w.drew pb 71 [.pointer (some ⟨bp, 0, none⟩)] := ⟨HV.out, HP.out⟩
  have hA0 : At w.drew bp L ts := HA.out.kept (E := fun _ => False) (Kp.refl _ _).drew (fun _ h => h.elim)
  have hK0 : Kp (fun k => k = bp ∨ k = vb ∨ base ≤ k) w w.drew := (Kp.refl _ _).drew
  have hB0 : Building rowK w.drew (fun k => base ≤ k ∧ v.ownBlock ≠ some k) base 44 v ms := HB.out.kept (fun _ _ => rfl) (fun _ _ _ => rfl) (fun _ h _ => h)
  have hz0 : base ≤ w.drew.heap.size := hbw
  refine any_of_held (S := fun W => Blk W vb 41 [nm, v, at_] ∧ Blk W pb 71 [.pointer (some ⟨bp, 0, none⟩)]) (N := [5, 6, 7]) _ _ _ _ ?_
  change held _ _ _ _ _ _ _ _ _ w.drew
  obtain ⟨wa, hwa⟩ : ∃ wa, w.drew = wa := ⟨_, rfl⟩
  rw [hwa] at hS0 hA0 hK0 hB0 hz0 ⊢
  have HK0 := Lib.hid hK0; have HA0 := Lib.hid hA0; have HB0 := Lib.hid hB0
  clear hK0 hA0 hB0 hwa HA HB HV HP
  refine held_take [1, 5, 6, 7] (i := 0) (v := .pointer (some ⟨vb, 1, none⟩)) rfl (by kernel_rfl) (fun _ _ _ h => h) (Or.inl ⟨by rfl, fun w' hS => by go_simp⟩) hS0 ?_
  try simp only [Act.put, List.setIfInBounds_toArray, List.set_cons_zero, List.set_cons_succ]
  refine held_take [5, 6, 7] (i := 1) (v := v) rfl (by kernel_rfl) (fun _ _ _ h => h) (Or.inl ⟨by rfl, fun w' hS => by have hc := hS.1.cell (i := 1) rfl; go_simp⟩) hS0 ?_
  try simp only [Act.put, List.setIfInBounds_toArray, List.set_cons_zero, List.set_cons_succ]
  refine held_take [3, 4, 5, 6, 7] (i := 2) (v := .pointer (some ⟨bp, 0, none⟩)) rfl (by kernel_rfl) (fun _ _ _ h => h) (Or.inl ⟨by rfl, fun w' hS => by have hc := hS.2.cell (i := 0) rfl; go_simp⟩) hS0 ?_
  try simp only [Act.put, List.setIfInBounds_toArray, List.set_cons_zero, List.set_cons_succ]
  refine held_one (i := 3) rfl (by kernel_rfl) (fun K hK => ?_)
  go_simp
  refine (row_any bp L ts wa hts HA0.out).mono ?_
  rintro e W1 (⟨m, r, h1, ⟨c, rfl, hc⟩, a1, k1⟩ | ⟨r, h1, rfl, k1⟩)
  rotate_left
  · unfold failP
    exact ⟨rfl, Or.inr ⟨r, h1, rfl, HK0.out.call k1 (fun k hk => Or.inl (Or.inl hk))⟩⟩
  have hS1 : Blk W1 vb 41 [nm, v, at_] ∧ Blk W1 pb 71 [.pointer (some ⟨bp, 0, none⟩)] := ⟨hS0.1.kept k1 (fun h => by have : vb = bp := h; omega), hS0.2.kept k1 (fun h => hbpb h.symm)⟩
  have hz1' : base ≤ W1.heap.size := Nat.le_trans hz0 k1.size
  have hb1 : Building rowK W1 (fun k => base ≤ k ∧ v.ownBlock ≠ some k) base 44 v ms := HB0.out.kept (fun k hk => k1.block k (HB0.out.lt hk).2 (fun h => by have h2 := (HB0.out.lt hk).1; have : k = bp := h; omega)) (fun k hk hlt => k1.block k hlt (fun h => by have h2 := hk.1; have : k = bp := h; omega)) (fun _ h _ => h)
  have hsz1 := k1.size
  have hown : ∀ k, v.ownBlock = some k → k < wa.heap.size := fun k hk => (HB0.out.lt hk).2
  have K1 := Lib.hid (HK0.out.call k1 (fun k hk => Or.inl (Or.inl hk))); have A1 := Lib.hid a1; have H1 := Lib.hid h1; have HB1 := Lib.hid hb1; have HOW := Lib.hid hown
  clear a1 k1 h1 hb1 hown HB0 HK0 HA0
  obtain ⟨v0, rfl, hl0⟩ := hc
  obtain ⟨sa, sn, sc, rfl⟩ := hl0.slice
  unfold rowC
  have hc : rowK.is W1 (fun k => wa.heap.size ≤ k) (rowC m (.slice sa sn sc)) m := ⟨_, rfl, hl0⟩
  clear hl0
  refine hK.out _ _ (fun _ => hS1) ?_
  clear hK K
  try simp only [Act.put, List.setIfInBounds_toArray, List.set_cons_zero, List.set_cons_succ]
  refine held_one (i := 4) rfl (by kernel_rfl) (fun K hK => ?_)
  go_simp
  refine hK.out _ _ (fun _ => ⟨hS1.1.alloc _, hS1.2.alloc _⟩) ?_
  clear hK K
  try simp only [Act.put, List.setIfInBounds_toArray, List.set_cons_zero, List.set_cons_succ]
  refine held_one (i := 5) rfl (by kernel_rfl) (fun K hK => ?_)
  rw [if_pos (by kernel_rfl)]
  obtain ⟨i0, hi, hz0', hz1, hz2⟩ := info_parts blockC_info
  obtain ⟨css, hcon, hall⟩ := HB1.out
  refine con_append (t := 39) (T := 44) (m := rowK.size) (B := base) Tryz.underlying39 hi hz0' hz1 hz2 rfl (by decide) (by decide) (.tmp 3) (.tmp 6) rfl v css (rowC m (.slice sa sn sc)) rfl (hcon.of_block (fun k hk => Below.heap_alloc _ _ _ (by have := HOW.out k hk; omega))) W1.heap.size rfl (Blk.new W1 44 (rowC m (.slice sa sn sc))) (rowK.len hc) (rowK.one hc) (by rw [All2.length hall]; exact hlen) (by rw [World.size_alloc]; omega) ?_
  intro v' W2 hcon' hg hat hone
  obtain ⟨g, cap, cur, rfl, hgb, hgl, _⟩ : ∃ g cap cur, v' = .slice (some ⟨g, 0, none⟩) (css ++ [(rowC m (.slice sa sn sc))]).length cap ∧ base ≤ g ∧ g < W2.heap.size ∧ W2.heap[g]? = some (.cells cur 44 (0, 0)) := by
    rcases hcon'.form with ⟨_, h⟩ | ⟨g, cap, cur, h1, h2, h3, h4, _⟩
    · simp at h
    · exact ⟨g, cap, cur, h1, h2, h3, h4⟩
  have hgr : ∀ k, k < W1.heap.size → v.ownBlock ≠ some k → W2.heap[k]? = W1.heap[k]? := fun k hk hn => (hg.block k (by rw [World.size_alloc]; omega) (fun h => hn h.symm)).trans (Below.heap_alloc _ _ _ hk)
  have hnv : v.ownBlock ≠ some vb := fun h => by have := (own_lt hcon.own h).1; omega
  have hnp : v.ownBlock ≠ some pb := fun h => by have := (own_lt hcon.own h).1; omega
  have hnb : v.ownBlock ≠ some bp := fun h => by have := (own_lt hcon.own h).1; omega
  have hS2 : Blk W2 vb 41 [nm, v, at_] := (hgr vb (by omega) hnv).trans hS1.1
  have K2 : Kp (fun k => k = bp ∨ k = vb ∨ base ≤ k) w W2 := (K1.out.alloc (.cells ((rowC m (.slice sa sn sc))).toArray 44)).grown hg (fun k hk => Or.inl (Or.inr (Or.inr (own_lt hcon.own hk).1)))
  have A2 : At W2 bp L r := A1.out.kept (E := fun k => base ≤ k) (((Kp.refl _ W1).alloc (.cells ((rowC m (.slice sa sn sc))).toArray 44)).grown hg (fun k hk => Or.inl (own_lt hcon.own hk).1)) (fun k hk => by have : base ≤ k := hk; omega)
  have hg' : v.ownBlock = some g ∨ g = W1.heap.size + 1 := by
    rcases hat with h | h
    · exact Or.inl h.symm
    · exact Or.inr (by simpa [Value.ownBlock] using h)
  have hall2 : All2 (rowK.is W2 (fun k => base ≤ k ∧ (Value.slice (some ⟨g, 0, none⟩) (css ++ [(rowC m (.slice sa sn sc))]).length cap).ownBlock ≠ some k)) (css ++ [(rowC m (.slice sa sn sc))]) (ms ++ [m]) := by
    refine All2.snoc (All2.imp hall fun b x h => rowK.moved h (fun k hk hlt => hgr k hlt hk.2) (fun k hk hlt => ⟨hk.1, fun e => ?_⟩)) (rowK.moved hc (fun k hk hlt => hgr k hlt (fun e => by have := HOW.out k e; have : wa.heap.size ≤ k := hk; omega)) (fun k hk hlt => ⟨by have : wa.heap.size ≤ k := hk; omega, fun e => ?_⟩))
    · have e' : g = k := by simpa [Value.ownBlock] using e
      subst e'
      rcases hg' with h | h
      · have := HOW.out g h; have : wa.heap.size ≤ g := hk; omega
      · omega
    · have e' : g = k := by simpa [Value.ownBlock] using e
      subst e'
      rcases hg' with h | h
      · exact hk.2 h
      · omega
  have HS2 := Lib.hid hS2; have HK2 := Lib.hid K2; have HA2 := Lib.hid A2; have HC2 := Lib.hid hcon'; have HALL := Lib.hid hall2
  have hc2 := hS2.cell (i := 1) rfl
  have hf2 := hS2.free 1
  clear hS2 K2 A2 hcon' hall2 hgr hg hat hg' hcon hall hc hS0 hS1
  generalize (css ++ [(rowC m (.slice sa sn sc))]).length = n2 at *
  refine hK.out _ _ (fun h => absurd (by decide) h) ?_
  clear hK K
  try simp only [Act.put, List.setIfInBounds_toArray, List.set_cons_zero, List.set_cons_succ]
  refine held_one (i := 6) rfl (by kernel_rfl) (fun K hK => ?_)
  go_simp
  refine hK.out _ _ (fun h => absurd (by decide) h) ?_
  clear hK K
  try simp only [Act.put, List.setIfInBounds_toArray, List.set_cons_zero, List.set_cons_succ]
  refine held_one (i := 7) rfl (by kernel_rfl) (fun K hK => ?_)
  go_simp
  refine hK.out _ _ (fun h => absurd (by decide) h) ?_
  clear hK K
  try simp only [Act.put, List.setIfInBounds_toArray, List.set_cons_zero, List.set_cons_succ]
  refine held_done (by kernel_rfl) ?_ _
  go_end0
  refine Or.inl ⟨m, r, H1.out, rfl, ⟨_, HS2.out.set 1 (.slice (some ⟨g, 0, none⟩) n2 cap), ?_⟩, ?_, HK2.out.setOld vb 1 (Or.inr (Or.inl rfl)) _⟩
  rotate_left
  · exact HA2.out.kept (E := onlyB vb) ((Kp.refl (onlyB vb) W2).setOld vb 1 rfl _) (fun k hk => by have : k = vb := hk; omega)
  have hne : ∀ k, base ≤ k → (W2.setCell ⟨vb, 1, none⟩ (.slice (some ⟨g, 0, none⟩) n2 cap)).heap[k]? = W2.heap[k]? := fun k hk => Below.heap_setCell _ _ _ _ (by show k ≠ vb; omega)
  have hbu : Building rowK W2 (fun k => base ≤ k ∧ (Value.slice (some ⟨g, 0, none⟩) n2 cap).ownBlock ≠ some k) base 44 (.slice (some ⟨g, 0, none⟩) n2 cap) (ms ++ [m]) := ⟨_, HC2.out, HALL.out⟩
  exact hbu.kept (fun k hk => hne k (own_lt HC2.out.own hk).1) (fun k hk _ => hne k hk.1) (fun _ h _ => h)
set_option maxRecDepth 100000 in
set_option maxHeartbeats 4000000 in
theorem block_any (bp L at_ : Nat) (ts : List TokP) (w : World) (hts : ts.length ≤ 5000) (h : At w bp L ts) : Calls Tryz.prog 61 #[.pointer (some ⟨bp, 0, none⟩), .int .i64 (at_ : Nat)] w (Gives bp L (onlyB bp) w (blockP at_ ts) (KindV blockK w.heap.size)) := by
  have hlt := h.lt
  have hmf := makes_func
  have P0 := (Blk.new w 71 [.pointer (some ⟨bp, 0, none⟩)]).alloc (.cells #[.string ⟨#[]⟩, .slice none 0 0, .int .i64 0] 41)
  have R0 := Blk.new (w.alloc (.cells #[.pointer (some ⟨bp, 0, none⟩)] 71)) 41 [.string ⟨#[]⟩, .slice none 0 0, .int .i64 0]
  rw [show (w.alloc (.cells #[.pointer (some ⟨bp, 0, none⟩)] 71)).heap.size = w.heap.size + 1 by simp] at R0
  have K0 : Kp (onlyB bp) w ((w.alloc (.cells #[.pointer (some ⟨bp, 0, none⟩)] 71)).alloc (.cells #[.string ⟨#[]⟩, .slice none 0 0, .int .i64 0] 41)) := ((Kp.refl _ _).alloc _).alloc _
  have A0 := h.kept (E := fun _ => False) (((Kp.refl _ w).alloc (.cells #[.pointer (some ⟨bp, 0, none⟩)] 71)).alloc (.cells #[.string ⟨#[]⟩, .slice none 0 0, .int .i64 0] 41)) (fun _ h => h.elim)
  have hs0 : w.heap.size + 2 ≤ ((w.alloc (.cells #[.pointer (some ⟨bp, 0, none⟩)] 71)).alloc (.cells #[.string ⟨#[]⟩, .slice none 0 0, .int .i64 0] 41)).heap.size := by simp
  clear h
  go_enter Tryz.func61, Tryz.ntmps61
  go_upto_region 1 with fail
  generalize (w.alloc (.cells #[.pointer (some ⟨bp, 0, none⟩)] 71)).alloc (.cells #[.string ⟨#[]⟩, .slice none 0 0, .int .i64 0] 41) = W0 at *
  have P0 := Lib.hid P0; have R0 := Lib.hid R0; have K0 := Lib.hid K0; have A0 := Lib.hid A0
  have cP0 := P0.out.cell (i := 0) rfl
  go_wp2_with fail
  refine (name_any bp L ts _ A0.out).mono ?_
  rintro e W1 (⟨nm, r1, h1, rfl, a1, k1⟩ | ⟨r1, h1, rfl, k1⟩)
  rotate_left
  · have KK := Lib.hid (K0.out.trans k1); have HB := Lib.hid h1
    clear h1 k1
    unfold failP
    go_wp2
    refine ⟨rfl, gives_bad _ ?_ KK.out⟩
    show blockP at_ ts = _
    unfold blockP
    rw [then_bad HB.out]
  have P1 := Lib.hid (P0.out.kept k1 (fun h => by have : w.heap.size = bp := h; omega))
  have R1 := Lib.hid (R0.out.kept k1 (fun h => by have : (w.heap.size + 1) = bp := h; omega))
  have K1 := Lib.hid (K0.out.trans k1); have A1 := Lib.hid a1; have H1 := Lib.hid h1; have hs1 := k1.size
  clear h1 a1 k1 cP0 P0 R0 K0 A0
  go_upto_region 2 with fail
  have V2 := Blk.new W1 41 [.string ⟨nm.toArray⟩, .slice none 0 0, .int .i64 (at_ : Nat)]
  have P2 := P1.out.alloc (.cells #[.string ⟨nm.toArray⟩, .slice none 0 0, .int .i64 (at_ : Nat)] 41)
  have R2 := R1.out.alloc (.cells #[.string ⟨nm.toArray⟩, .slice none 0 0, .int .i64 (at_ : Nat)] 41)
  have K2 := K1.out.alloc (.cells #[.string ⟨nm.toArray⟩, .slice none 0 0, .int .i64 (at_ : Nat)] 41)
  have A2 := A1.out.kept (E := fun _ => False) ((Kp.refl _ _).alloc (.cells #[.string ⟨nm.toArray⟩, .slice none 0 0, .int .i64 (at_ : Nat)] 41)) (fun _ h => h.elim)
  have hs2 : W1.heap.size < (W1.alloc (.cells #[.string ⟨nm.toArray⟩, .slice none 0 0, .int .i64 (at_ : Nat)] 41)).heap.size := by simp
  generalize W1.alloc (.cells #[.string ⟨nm.toArray⟩, .slice none 0 0, .int .i64 (at_ : Nat)] 41) = W2 at *
  generalize W1.heap.size = vb at *
  have P2 := Lib.hid P2
  have R2 := Lib.hid R2
  have V2 := Lib.hid V2
  have K2 := Lib.hid K2; have A2 := Lib.hid A2
  clear P1 R1 K1 A1
  have cP0 := P2.out.cell (i := 0) rfl
  go_wp2_with fail
  refine (word_any bp L r1 wOpen _ A2.out).mono ?_
  rintro e W3 (⟨x2, r3, h3, rfl, a3, k3⟩ | ⟨r3, h3, rfl, k3⟩)
  rotate_left
  · have KK := Lib.hid (K2.out.trans k3); have HB := Lib.hid h3
    clear h3 k3
    unfold failP
    go_wp2
    refine ⟨rfl, gives_bad _ ?_ KK.out⟩
    show blockP at_ ts = _
    unfold blockP
    rw [then_of H1.out, then_bad HB.out]
  have P3 := Lib.hid (P2.out.kept k3 (fun h => by have : w.heap.size = bp := h; omega))
  have R3 := Lib.hid (R2.out.kept k3 (fun h => by have : (w.heap.size + 1) = bp := h; omega))
  have V3 := Lib.hid (V2.out.kept k3 (fun h => by have : vb = bp := h; omega))
  have K3 := Lib.hid (K2.out.trans k3); have A3 := Lib.hid a3; have H3 := Lib.hid h3; have hs3 := k3.size
  clear h3 a3 k3 cP0 P2 R2 V2 K2 A2
  have hln : r3.length ≤ 5000 := by
      have l0 := shrink det_name H1.out
      have l1 := shrink (det_word _) H3.out
      omega
  have hpl := P3.out.lt; have hvl := V3.out.lt; have hbl := A3.out.lt
  have cP := P3.out.cell (i := 0) rfl
  go_wp2_with fail
  refine (until_any bp L wClose rowP eats_row 72 blockC_ent #[.pointer (some ⟨vb, 0, none⟩), .pointer (some ⟨w.heap.size, 0, none⟩)]
    (fun ms W => ∃ v, Blk W vb 41 [.string ⟨nm.toArray⟩, v, .int .i64 (at_ : Nat)] ∧ Building rowK W (fun k => W3.heap.size ≤ k ∧ v.ownBlock ≠ some k) W3.heap.size 44 v ms ∧ Kp (fun k => k = bp ∨ k = vb ∨ W3.heap.size ≤ k) W3 W)
    (fun W => Kp (fun k => k = bp ∨ k = vb ∨ W3.heap.size ≤ k) W3 W) ?keep ?fin 5000 ?step fuel r3 (by unfold fuel; omega) [] (by simpa using hln) W3 ⟨_, V3.out, building_nil _ _ _ _ _, Kp.refl _ _⟩ A3.out).mono ?_
  case keep =>
    rintro ms W W' ⟨v, h1, h2, h3⟩ hk
    exact ⟨v, h1.kept hk (fun h => by have : vb = bp := h; omega), h2.kept (fun k hk' => hk.block k (h2.lt hk').2 (fun h => by have := (h2.lt hk').1; have : k = bp := h; omega)) (fun k hk' hlt => hk.block k hlt (fun h => by have := hk'.1; have : k = bp := h; omega)) (fun _ h _ => h), h3.call hk (fun k h => Or.inl (Or.inl h))⟩
  case fin =>
    rintro ms W W' ⟨v, h1, h2, h3⟩ hk
    exact h3.call hk (fun k h => Or.inl (Or.inl h))
  case step =>
    rintro ms W us ⟨v, h1, h2, h3⟩ hA hN
    refine (blockC_any bp L vb w.heap.size W3.heap.size us (.string ⟨nm.toArray⟩) (.int .i64 (at_ : Nat)) v ms W hA h1 (P3.out.kept h3 (fun h => by omega)) h2 h3.size (by omega) (by omega) (by omega) (by omega) (by omega) (by omega) (by omega)).mono ?_
    rintro e W2 (⟨m, q, k1, rfl, ⟨v', k2, k3⟩, k4, k5⟩ | ⟨q, k1, rfl, k5⟩)
    · exact Or.inl ⟨m, q, k1, rfl, ⟨v', k2, k3, h3.trans k5⟩, k4⟩
    · exact Or.inr ⟨q, k1, rfl, h3.trans k5⟩
  rintro e W4 (⟨rs, r4, h4, rfl, ⟨v, v4, b4, k4⟩, a4⟩ | ⟨r4, h4, rfl, k4⟩)
  rotate_left
  · have KK := Lib.hid (K3.out.call k4 (fun k hk => by rcases hk with h | h | h; exact Or.inl h; exact Or.inr (by omega); exact Or.inr (by omega))); have HB := Lib.hid h4
    clear h4 k4
    unfold failP
    go_wp2
    refine ⟨rfl, gives_bad _ ?_ KK.out⟩
    show blockP at_ ts = _
    unfold blockP
    rw [then_of H1.out, then_of H3.out, then_bad HB.out]
  obtain ⟨sa, sn, sc, rfl⟩ := b4.slice
  have P4 := Lib.hid (P3.out.kept k4 (fun h => by omega))
  have R4 := Lib.hid (R3.out.kept k4 (fun h => by omega))
  have V4 := Lib.hid v4
  have K4 := Lib.hid (K3.out.call k4 (fun k hk => by rcases hk with h | h | h; exact Or.inl h; exact Or.inr (by omega); exact Or.inr (by omega))); have A4 := Lib.hid a4; have H4 := Lib.hid h4; have HBU := Lib.hid b4; have hs4 := k4.size
  clear h4 a4 k4 v4 b4 cP hln P3 R3 V3 K3 A3
  have x0 := V4.out.cell (i := 0) rfl
  have x1 := V4.out.cell (i := 1) rfl
  have x2 := V4.out.cell (i := 2) rfl
  have z0 := R4.out.cell (i := 0) rfl
  have z1 := R4.out.cell (i := 1) rfl
  have z2 := R4.out.cell (i := 2) rfl
  have zf := R4.out.free
  go_wp2
  rw [setCells_three]
  refine bodyPost_ret (results_cell_mid rfl _ _ ((w.heap.size + 1)) [.string ⟨nm.toArray⟩, .slice sa sn sc, .int .i64 (at_ : Nat)] _ rfl (R4.out.whole (vs := [.string ⟨nm.toArray⟩, .slice sa sn sc, .int .i64 (at_ : Nat)]) rfl).range Tryz.underlying41 rfl (by kernel_rfl)) rfl ?_
  refine gives_ok (⟨nm, rs, at_⟩) r4 ?_ ?_ (A4.out.result (by omega) _) (K4.out.result (by omega) _)
  · show blockP at_ ts = _
    unfold blockP
    rw [then_of H1.out, then_of H3.out, then_of H4.out]
    rfl
  · exact ⟨_, rfl, _, rfl, HBU.out.result (by omega) (by omega) _⟩
end Go.Proofs.YtlfjdohjfmfcdaaGreatDoor
