/-
  The walk of rows.
-/
import Derived.Test.YtlfjdohjfmfcdaaGreatDoorWalkMark
import Derived.Test.YtlfjdohjfmfcdaaGreatDoorRound
namespace Go.Proofs.YtlfjdohjfmfcdaaGreatDoor
open Go.RowKit Go.Sort Go.Shelf Foyer.Plan Foyer.Round

theorem rowC_ent (args : Array Value) (w : World) : (callFunc 80 args).run Tryz.prog w = .ok (.enter 80 args) w := enters_of Tryz.func80 (by kernel_rfl) rfl args w
theorem rowC_info : (Tryz.prog.info? 46).map (fun i => (i.zero, i.size, i.bytes)) = some (some (.agg #[.int .i64 0, .int .i64 0, .int .i64 0]), markK.size, 24) := by kernel_rfl
set_option linter.unusedSimpArgs false in
set_option maxRecDepth 100000 in
set_option maxHeartbeats 2000000 in
theorem rowC_any (bp L vb pb base : Nat) (ts : List TokP) (nm x y f l s at_ v : Value) (ms : List MarkP) (w : World) (hA : At w bp L ts) (hV : Blk w vb 44 [nm, x, y, f, l, s, v, at_]) (hP : Blk w pb 71 [.pointer (some ⟨bp, 0, none⟩)])
    (hB : Building markK w (fun k => base ≤ k ∧ v.ownBlock ≠ some k) base 46 v ms) (hbw : base ≤ w.heap.size) (hvb : vb < base) (hpb : pb < base) (hbp : bp < base) (hbv : bp < vb) (hbpb : bp ≠ pb) (hlen : ms.length + 1 ≤ 1000000) :
    Calls Tryz.prog 80 #[.pointer (some ⟨vb, 0, none⟩), .pointer (some ⟨pb, 0, none⟩)] w fun e w' =>
      (∃ m r, markP ts = .ok m r ∧ e = .returned (.tuple #[]) ∧ (∃ v', Blk w' vb 44 [nm, x, y, f, l, s, v', at_] ∧ Building markK w' (fun k => base ≤ k ∧ v'.ownBlock ≠ some k) base 46 v' (ms ++ [m])) ∧ At w' bp L r ∧ Kp (fun k => k = bp ∨ k = vb ∨ base ≤ k) w w') ∨ ∃ r, markP ts = .bad r ∧ e = failP r L ∧ Kp (fun k => k = bp ∨ k = vb ∨ base ≤ k) w w' := by
  have HA := Lib.hid hA; have HB := Lib.hid hB; have HV := Lib.hid hV; have HP := Lib.hid hP
  clear hA hB hV hP
  go_enter Tryz.func80, Tryz.ntmps80
  refine wp_region_any (by kernel_rfl) ?_
  have hS0 : Blk w.drew vb 44 [nm, x, y, f, l, s, v, at_] ∧ Blk w.drew pb 71 [.pointer (some ⟨bp, 0, none⟩)] := ⟨HV.out, HP.out⟩
  have hA0 : At w.drew bp L ts := HA.out.kept (E := fun _ => False) (Kp.refl _ _).drew (fun _ h => h.elim)
  have hK0 : Kp (fun k => k = bp ∨ k = vb ∨ base ≤ k) w w.drew := (Kp.refl _ _).drew
  have hB0 : Building markK w.drew (fun k => base ≤ k ∧ v.ownBlock ≠ some k) base 46 v ms := HB.out.kept (fun _ _ => rfl) (fun _ _ _ => rfl) (fun _ h _ => h)
  have hz0 : base ≤ w.drew.heap.size := hbw
  refine any_of_held (S := fun W => Blk W vb 44 [nm, x, y, f, l, s, v, at_] ∧ Blk W pb 71 [.pointer (some ⟨bp, 0, none⟩)]) (N := [5, 6, 7]) _ _ _ _ ?_
  change held _ _ _ _ _ _ _ _ _ w.drew
  obtain ⟨wa, hwa⟩ : ∃ wa, w.drew = wa := ⟨_, rfl⟩
  rw [hwa] at hS0 hA0 hK0 hB0 hz0 ⊢
  have HK0 := Lib.hid hK0; have HA0 := Lib.hid hA0; have HB0 := Lib.hid hB0
  clear hK0 hA0 hB0 hwa HA HB HV HP
  refine held_take [1, 5, 6, 7] (i := 0) (v := .pointer (some ⟨vb, 6, none⟩)) rfl (by kernel_rfl) (fun _ _ _ h => h) (Or.inl ⟨by rfl, fun w' hS => by go_simp⟩) hS0 ?_
  try simp only [Act.put, List.setIfInBounds_toArray, List.set_cons_zero, List.set_cons_succ]
  refine held_take [5, 6, 7] (i := 1) (v := v) rfl (by kernel_rfl) (fun _ _ _ h => h) (Or.inl ⟨by rfl, fun w' hS => by have hc := hS.1.cell (i := 6) rfl; go_simp⟩) hS0 ?_
  try simp only [Act.put, List.setIfInBounds_toArray, List.set_cons_zero, List.set_cons_succ]
  refine held_take [3, 4, 5, 6, 7] (i := 2) (v := .pointer (some ⟨bp, 0, none⟩)) rfl (by kernel_rfl) (fun _ _ _ h => h) (Or.inl ⟨by rfl, fun w' hS => by have hc := hS.2.cell (i := 0) rfl; go_simp⟩) hS0 ?_
  try simp only [Act.put, List.setIfInBounds_toArray, List.set_cons_zero, List.set_cons_succ]
  refine held_one (i := 3) rfl (by kernel_rfl) (fun K hK => ?_)
  go_simp
  refine (markp_any bp L ts wa HA0.out).mono ?_
  rintro e W1 (⟨m, r, h1, ⟨c, rfl, hc⟩, a1, k1⟩ | ⟨r, h1, rfl, k1⟩)
  rotate_left
  · unfold failP
    exact ⟨rfl, Or.inr ⟨r, h1, rfl, HK0.out.call k1 (fun k hk => Or.inl (Or.inl hk))⟩⟩
  have hS1 : Blk W1 vb 44 [nm, x, y, f, l, s, v, at_] ∧ Blk W1 pb 71 [.pointer (some ⟨bp, 0, none⟩)] := ⟨hS0.1.kept k1 (fun h => by have : vb = bp := h; omega), hS0.2.kept k1 (fun h => hbpb h.symm)⟩
  have hz1' : base ≤ W1.heap.size := Nat.le_trans hz0 k1.size
  have hb1 : Building markK W1 (fun k => base ≤ k ∧ v.ownBlock ≠ some k) base 46 v ms := HB0.out.kept (fun k hk => k1.block k (HB0.out.lt hk).2 (fun h => by have h2 := (HB0.out.lt hk).1; have : k = bp := h; omega)) (fun k hk hlt => k1.block k hlt (fun h => by have h2 := hk.1; have : k = bp := h; omega)) (fun _ h _ => h)
  have hsz1 := k1.size
  have hown : ∀ k, v.ownBlock = some k → k < wa.heap.size := fun k hk => (HB0.out.lt hk).2
  have K1 := Lib.hid (HK0.out.call k1 (fun k hk => Or.inl (Or.inl hk))); have A1 := Lib.hid a1; have H1 := Lib.hid h1; have HB1 := Lib.hid hb1; have HOW := Lib.hid hown
  clear a1 k1 h1 hb1 hown HB0 HK0 HA0
  obtain rfl : c = markCl m := hc
  unfold markCl
  have hc : markK.is W1 (fun k => wa.heap.size ≤ k) (markCl m) m := rfl
  refine hK.out _ _ (fun _ => hS1) ?_
  clear hK K
  try simp only [Act.put, List.setIfInBounds_toArray, List.set_cons_zero, List.set_cons_succ]
  refine held_one (i := 4) rfl (by kernel_rfl) (fun K hK => ?_)
  go_simp
  refine hK.out _ _ (fun _ => ⟨hS1.1.alloc _, hS1.2.alloc _⟩) ?_
  clear hK K
  try simp only [Act.put, List.setIfInBounds_toArray, List.set_cons_zero, List.set_cons_succ]
  refine held_one (i := 5) rfl (by kernel_rfl) (fun K hK => ?_)
  rw [if_pos (by kernel_rfl)]
  obtain ⟨i0, hi, hz0', hz1, hz2⟩ := info_parts rowC_info
  obtain ⟨css, hcon, hall⟩ := HB1.out
  refine con_append (t := 42) (T := 46) (m := markK.size) (B := base) Tryz.underlying42 hi hz0' hz1 hz2 rfl (by decide) (by decide) (.tmp 3) (.tmp 6) rfl v css (markCl m) rfl (hcon.of_block (fun k hk => Below.heap_alloc _ _ _ (by have := HOW.out k hk; omega))) W1.heap.size rfl (Blk.new W1 46 (markCl m)) (markK.len hc) (markK.one hc) (by rw [All2.length hall]; exact hlen) (by rw [World.size_alloc]; omega) ?_
  intro v' W2 hcon' hg hat hone
  obtain ⟨g, cap, cur, rfl, hgb, hgl, _⟩ : ∃ g cap cur, v' = .slice (some ⟨g, 0, none⟩) (css ++ [(markCl m)]).length cap ∧ base ≤ g ∧ g < W2.heap.size ∧ W2.heap[g]? = some (.cells cur 46 (0, 0)) := by
    rcases hcon'.form with ⟨_, h⟩ | ⟨g, cap, cur, h1, h2, h3, h4, _⟩
    · simp at h
    · exact ⟨g, cap, cur, h1, h2, h3, h4⟩
  have hgr : ∀ k, k < W1.heap.size → v.ownBlock ≠ some k → W2.heap[k]? = W1.heap[k]? := fun k hk hn => (hg.block k (by rw [World.size_alloc]; omega) (fun h => hn h.symm)).trans (Below.heap_alloc _ _ _ hk)
  have hnv : v.ownBlock ≠ some vb := fun h => by have := (own_lt hcon.own h).1; omega
  have hnp : v.ownBlock ≠ some pb := fun h => by have := (own_lt hcon.own h).1; omega
  have hnb : v.ownBlock ≠ some bp := fun h => by have := (own_lt hcon.own h).1; omega
  have hS2 : Blk W2 vb 44 [nm, x, y, f, l, s, v, at_] := (hgr vb (by omega) hnv).trans hS1.1
  have K2 : Kp (fun k => k = bp ∨ k = vb ∨ base ≤ k) w W2 := (K1.out.alloc (.cells ((markCl m)).toArray 46)).grown hg (fun k hk => Or.inl (Or.inr (Or.inr (own_lt hcon.own hk).1)))
  have A2 : At W2 bp L r := A1.out.kept (E := fun k => base ≤ k) (((Kp.refl _ W1).alloc (.cells ((markCl m)).toArray 46)).grown hg (fun k hk => Or.inl (own_lt hcon.own hk).1)) (fun k hk => by have : base ≤ k := hk; omega)
  have hg' : v.ownBlock = some g ∨ g = W1.heap.size + 1 := by
    rcases hat with h | h
    · exact Or.inl h.symm
    · exact Or.inr (by simpa [Value.ownBlock] using h)
  have hall2 : All2 (markK.is W2 (fun k => base ≤ k ∧ (Value.slice (some ⟨g, 0, none⟩) (css ++ [(markCl m)]).length cap).ownBlock ≠ some k)) (css ++ [(markCl m)]) (ms ++ [m]) := by
    refine All2.snoc (All2.imp hall fun b x h => markK.moved h (fun k hk hlt => hgr k hlt hk.2) (fun k hk hlt => ⟨hk.1, fun e => ?_⟩)) (markK.moved hc (fun k hk hlt => hgr k hlt (fun e => by have := HOW.out k e; have : wa.heap.size ≤ k := hk; omega)) (fun k hk hlt => ⟨by have : wa.heap.size ≤ k := hk; omega, fun e => ?_⟩))
    · have e' : g = k := by simpa [Value.ownBlock] using e
      subst e'
      rcases hg' with h | h
      · have := HOW.out g h; have : wa.heap.size ≤ g := hk; omega
      · omega
    · have e' : g = k := by simpa [Value.ownBlock] using e
      subst e'
      rcases hg' with h | h
      · exact hk.2 h
      · omega
  have HS2 := Lib.hid hS2; have HK2 := Lib.hid K2; have HA2 := Lib.hid A2; have HC2 := Lib.hid hcon'; have HALL := Lib.hid hall2
  have hc2 := hS2.cell (i := 6) rfl
  have hf2 := hS2.free 6
  clear hS2 K2 A2 hcon' hall2 hgr hg hat hg' hcon hall hc hS0 hS1
  generalize (css ++ [(markCl m)]).length = n2 at *
  refine hK.out _ _ (fun h => absurd (by decide) h) ?_
  clear hK K
  try simp only [Act.put, List.setIfInBounds_toArray, List.set_cons_zero, List.set_cons_succ]
  refine held_one (i := 6) rfl (by kernel_rfl) (fun K hK => ?_)
  go_simp
  refine hK.out _ _ (fun h => absurd (by decide) h) ?_
  clear hK K
  try simp only [Act.put, List.setIfInBounds_toArray, List.set_cons_zero, List.set_cons_succ]
  refine held_one (i := 7) rfl (by kernel_rfl) (fun K hK => ?_)
  go_simp
  refine hK.out _ _ (fun h => absurd (by decide) h) ?_
  clear hK K
  try simp only [Act.put, List.setIfInBounds_toArray, List.set_cons_zero, List.set_cons_succ]
  refine held_done (by kernel_rfl) ?_ _
  go_end0
  refine Or.inl ⟨m, r, H1.out, rfl, ⟨_, HS2.out.set 6 (.slice (some ⟨g, 0, none⟩) n2 cap), ?_⟩, ?_, HK2.out.setOld vb 6 (Or.inr (Or.inl rfl)) _⟩
  rotate_left
  · exact HA2.out.kept (E := onlyB vb) ((Kp.refl (onlyB vb) W2).setOld vb 6 rfl _) (fun k hk => by have : k = vb := hk; omega)
  have hne : ∀ k, base ≤ k → (W2.setCell ⟨vb, 6, none⟩ (.slice (some ⟨g, 0, none⟩) n2 cap)).heap[k]? = W2.heap[k]? := fun k hk => Below.heap_setCell _ _ _ _ (by show k ≠ vb; omega)
  have hbu : Building markK W2 (fun k => base ≤ k ∧ (Value.slice (some ⟨g, 0, none⟩) n2 cap).ownBlock ≠ some k) base 46 (.slice (some ⟨g, 0, none⟩) n2 cap) (ms ++ [m]) := ⟨_, HC2.out, HALL.out⟩
  exact hbu.kept (fun k hk => hne k (own_lt HC2.out.own hk).1) (fun k hk _ => hne k hk.1) (fun _ h _ => h)
set_option maxRecDepth 100000 in
set_option maxHeartbeats 4000000 in
theorem row_any (bp L : Nat) (ts : List TokP) (w : World) (hts : ts.length ≤ 5000) (h : At w bp L ts) : Calls Tryz.prog 73 #[.pointer (some ⟨bp, 0, none⟩)] w (Gives bp L (onlyB bp) w (rowP ts) (KindV rowK w.heap.size)) := by
  have hlt := h.lt
  have hmf := makes_func
  have P0 := (Blk.new w 71 [.pointer (some ⟨bp, 0, none⟩)]).alloc (.cells #[.string ⟨#[]⟩, .int .i64 0, .int .i64 0, .int .i64 0, .int .i64 0, .int .i64 0, .slice none 0 0, .int .i64 0] 44)
  have R0 := Blk.new (w.alloc (.cells #[.pointer (some ⟨bp, 0, none⟩)] 71)) 44 [.string ⟨#[]⟩, .int .i64 0, .int .i64 0, .int .i64 0, .int .i64 0, .int .i64 0, .slice none 0 0, .int .i64 0]
  rw [show (w.alloc (.cells #[.pointer (some ⟨bp, 0, none⟩)] 71)).heap.size = w.heap.size + 1 by simp] at R0
  have K0 : Kp (onlyB bp) w ((w.alloc (.cells #[.pointer (some ⟨bp, 0, none⟩)] 71)).alloc (.cells #[.string ⟨#[]⟩, .int .i64 0, .int .i64 0, .int .i64 0, .int .i64 0, .int .i64 0, .slice none 0 0, .int .i64 0] 44)) := ((Kp.refl _ _).alloc _).alloc _
  have A0 := h.kept (E := fun _ => False) (((Kp.refl _ w).alloc (.cells #[.pointer (some ⟨bp, 0, none⟩)] 71)).alloc (.cells #[.string ⟨#[]⟩, .int .i64 0, .int .i64 0, .int .i64 0, .int .i64 0, .int .i64 0, .slice none 0 0, .int .i64 0] 44)) (fun _ h => h.elim)
  have hs0 : w.heap.size + 2 ≤ ((w.alloc (.cells #[.pointer (some ⟨bp, 0, none⟩)] 71)).alloc (.cells #[.string ⟨#[]⟩, .int .i64 0, .int .i64 0, .int .i64 0, .int .i64 0, .int .i64 0, .slice none 0 0, .int .i64 0] 44)).heap.size := by simp
  clear h
  go_enter Tryz.func73, Tryz.ntmps73
  go_upto_region 1 with fail
  generalize (w.alloc (.cells #[.pointer (some ⟨bp, 0, none⟩)] 71)).alloc (.cells #[.string ⟨#[]⟩, .int .i64 0, .int .i64 0, .int .i64 0, .int .i64 0, .int .i64 0, .slice none 0 0, .int .i64 0] 44) = W0 at *
  have P0 := Lib.hid P0; have R0 := Lib.hid R0; have K0 := Lib.hid K0; have A0 := Lib.hid A0
  have cP0 := P0.out.cell (i := 0) rfl
  go_wp2_with fail
  refine (word_any bp L ts wRow _ A0.out).mono ?_
  rintro e W1 (⟨at_, r1, h1, rfl, a1, k1⟩ | ⟨r1, h1, rfl, k1⟩)
  rotate_left
  · have KK := Lib.hid (K0.out.trans k1); have HB := Lib.hid h1
    clear h1 k1
    unfold failP
    go_wp2
    refine ⟨rfl, gives_bad _ ?_ KK.out⟩
    show rowP ts = _
    unfold rowP
    rw [then_bad HB.out]
  have P1 := Lib.hid (P0.out.kept k1 (fun h => by have : w.heap.size = bp := h; omega))
  have R1 := Lib.hid (R0.out.kept k1 (fun h => by have : (w.heap.size + 1) = bp := h; omega))
  have K1 := Lib.hid (K0.out.trans k1); have A1 := Lib.hid a1; have H1 := Lib.hid h1; have hs1 := k1.size
  clear h1 a1 k1 cP0 P0 R0 K0 A0
  go_upto_region 2 with fail
  have V2 := Blk.new W1 44 [.string ⟨#[]⟩, .int .i64 0, .int .i64 0, .int .i64 0, .int .i64 0, .int .i64 0, .slice none 0 0, .int .i64 (at_ : Nat)]
  have P2 := P1.out.alloc (.cells #[.string ⟨#[]⟩, .int .i64 0, .int .i64 0, .int .i64 0, .int .i64 0, .int .i64 0, .slice none 0 0, .int .i64 (at_ : Nat)] 44)
  have R2 := R1.out.alloc (.cells #[.string ⟨#[]⟩, .int .i64 0, .int .i64 0, .int .i64 0, .int .i64 0, .int .i64 0, .slice none 0 0, .int .i64 (at_ : Nat)] 44)
  have K2 := K1.out.alloc (.cells #[.string ⟨#[]⟩, .int .i64 0, .int .i64 0, .int .i64 0, .int .i64 0, .int .i64 0, .slice none 0 0, .int .i64 (at_ : Nat)] 44)
  have A2 := A1.out.kept (E := fun _ => False) ((Kp.refl _ _).alloc (.cells #[.string ⟨#[]⟩, .int .i64 0, .int .i64 0, .int .i64 0, .int .i64 0, .int .i64 0, .slice none 0 0, .int .i64 (at_ : Nat)] 44)) (fun _ h => h.elim)
  have hs2 : W1.heap.size < (W1.alloc (.cells #[.string ⟨#[]⟩, .int .i64 0, .int .i64 0, .int .i64 0, .int .i64 0, .int .i64 0, .slice none 0 0, .int .i64 (at_ : Nat)] 44)).heap.size := by simp
  generalize W1.alloc (.cells #[.string ⟨#[]⟩, .int .i64 0, .int .i64 0, .int .i64 0, .int .i64 0, .int .i64 0, .slice none 0 0, .int .i64 (at_ : Nat)] 44) = W2 at *
  generalize W1.heap.size = vb at *
  have P2 := Lib.hid P2
  have R2 := Lib.hid R2
  have V2 := Lib.hid V2
  have K2 := Lib.hid K2; have A2 := Lib.hid A2
  clear P1 R1 K1 A1
  have cP0 := P2.out.cell (i := 0) rfl
  go_wp2_with fail
  refine (name_any bp L r1 _ A2.out).mono ?_
  rintro e W3 (⟨nm, r3, h3, rfl, a3, k3⟩ | ⟨r3, h3, rfl, k3⟩)
  rotate_left
  · have KK := Lib.hid (K2.out.trans k3); have HB := Lib.hid h3
    clear h3 k3
    unfold failP
    go_wp2
    refine ⟨rfl, gives_bad _ ?_ KK.out⟩
    show rowP ts = _
    unfold rowP
    rw [then_of H1.out, then_bad HB.out]
  have P3 := Lib.hid (P2.out.kept k3 (fun h => by have : w.heap.size = bp := h; omega))
  have R3 := Lib.hid (R2.out.kept k3 (fun h => by have : (w.heap.size + 1) = bp := h; omega))
  have V3 := Lib.hid (V2.out.kept k3 (fun h => by have : vb = bp := h; omega))
  have K3 := Lib.hid (K2.out.trans k3); have A3 := Lib.hid a3; have H3 := Lib.hid h3; have hs3 := k3.size
  clear h3 a3 k3 cP0 P2 R2 V2 K2 A2
  have cs := V3.out.cell (i := 0) rfl
  have cf := V3.out.free 0
  go_upto_region 3 with fail
  have P4 := P3.out.other (p := ⟨vb, 0, none⟩) (by show ¬ vb = w.heap.size; omega) (.string ⟨nm.toArray⟩)
  have R4 := R3.out.other (p := ⟨vb, 0, none⟩) (by show ¬ vb = (w.heap.size + 1); omega) (.string ⟨nm.toArray⟩)
  have V4 : Blk (W3.setCell ⟨vb, 0, none⟩ (.string ⟨nm.toArray⟩)) vb 44 [.string ⟨nm.toArray⟩, .int .i64 0, .int .i64 0, .int .i64 0, .int .i64 0, .int .i64 0, .slice none 0 0, .int .i64 (at_ : Nat)] := V3.out.set 0 (.string ⟨nm.toArray⟩)
  have K4 := K3.out.setNew vb 0 (by omega) (.string ⟨nm.toArray⟩)
  have A4 := A3.out.kept (E := onlyB vb) ((Kp.refl (onlyB vb) W3).setOld vb 0 rfl (.string ⟨nm.toArray⟩)) (fun k hk => by have : k = vb := hk; omega)
  have hs4 : W3.heap.size ≤ (W3.setCell ⟨vb, 0, none⟩ (.string ⟨nm.toArray⟩)).heap.size := by simp
  generalize W3.setCell ⟨vb, 0, none⟩ (.string ⟨nm.toArray⟩) = W4 at *
  have P4 := Lib.hid P4
  have R4 := Lib.hid R4
  have V4 := Lib.hid V4
  have K4 := Lib.hid K4; have A4 := Lib.hid A4
  clear cs cf P3 R3 V3 K3 A3
  have cP0 := P4.out.cell (i := 0) rfl
  go_wp2_with fail
  refine (word_any bp L r3 wAt _ A4.out).mono ?_
  rintro e W5 (⟨y1, r5, h5, rfl, a5, k5⟩ | ⟨r5, h5, rfl, k5⟩)
  rotate_left
  · have KK := Lib.hid (K4.out.trans k5); have HB := Lib.hid h5
    clear h5 k5
    unfold failP
    go_wp2
    refine ⟨rfl, gives_bad _ ?_ KK.out⟩
    show rowP ts = _
    unfold rowP
    rw [then_of H1.out, then_of H3.out, then_bad HB.out]
  have P5 := Lib.hid (P4.out.kept k5 (fun h => by have : w.heap.size = bp := h; omega))
  have R5 := Lib.hid (R4.out.kept k5 (fun h => by have : (w.heap.size + 1) = bp := h; omega))
  have V5 := Lib.hid (V4.out.kept k5 (fun h => by have : vb = bp := h; omega))
  have K5 := Lib.hid (K4.out.trans k5); have A5 := Lib.hid a5; have H5 := Lib.hid h5; have hs5 := k5.size
  clear h5 a5 k5 cP0 P4 R4 V4 K4 A4
  have cP0 := P5.out.cell (i := 0) rfl
  go_wp2_with fail
  refine (numbers2_any bp L r5 W5.heap.size vb 44 92 [.string ⟨nm.toArray⟩, .int .i64 0, .int .i64 0, .int .i64 0, .int .i64 0, .int .i64 0, .slice none 0 0, .int .i64 (at_ : Nat)] _ (A5.out.kept (E := fun _ => False) ((Kp.refl _ _).alloc _) (fun _ h => h.elim)) (V5.out.alloc _) (by omega) (by have := V5.out.lt; omega) (by have := A5.out.lt; omega) 1 2 (by simp) (by simp) (Blk.new W5 _ [.pointer (some ⟨vb, 1, none⟩), .pointer (some ⟨vb, 2, none⟩)])).mono ?_
  rintro e W6 (⟨xy, r6, h6, ⟨rfl, v6⟩, a6, k6⟩ | ⟨r6, h6, rfl, k6⟩)
  rotate_left
  · have KK := Lib.hid ((K5.out.alloc _).call k6 (fun k hk => hk.elim (fun h => Or.inl h) (fun h => Or.inr (by have : k = vb := h; omega)))); have HB := Lib.hid h6
    clear h6 k6
    unfold failP
    go_wp2
    refine ⟨rfl, gives_bad _ ?_ KK.out⟩
    show rowP ts = _
    unfold rowP
    rw [then_of H1.out, then_of H3.out, then_of H5.out, point_bad HB.out]
  have P6 := Lib.hid ((P5.out.alloc (.cells #[.pointer (some ⟨vb, 1, none⟩), .pointer (some ⟨vb, 2, none⟩)] 92)).kept k6 (fun h => h.elim (fun h => by have : w.heap.size = bp := h; omega) (fun h => by have : w.heap.size = vb := h; omega)))
  have R6 := Lib.hid ((R5.out.alloc (.cells #[.pointer (some ⟨vb, 1, none⟩), .pointer (some ⟨vb, 2, none⟩)] 92)).kept k6 (fun h => h.elim (fun h => by have : (w.heap.size + 1) = bp := h; omega) (fun h => by have : (w.heap.size + 1) = vb := h; omega)))
  have V6 : Hid (Blk W6 vb 44 [.string ⟨nm.toArray⟩, .int .i64 (xy.1 : Nat), .int .i64 (xy.2 : Nat), .int .i64 0, .int .i64 0, .int .i64 0, .slice none 0 0, .int .i64 (at_ : Nat)]) := Lib.hid v6
  have K6 := Lib.hid ((K5.out.alloc _).call k6 (fun k hk => hk.elim (fun h => Or.inl h) (fun h => Or.inr (by have : k = vb := h; omega)))); have A6 := Lib.hid a6; have H6 := Lib.hid h6
  have hs6 : W5.heap.size ≤ W6.heap.size := Nat.le_trans (by simp) k6.size
  clear h6 a6 k6 v6 cP0 P5 R5 V5 K5 A5
  have cP0 := P6.out.cell (i := 0) rfl
  go_wp2_with fail
  refine (word_any bp L r6 wSeats _ A6.out).mono ?_
  rintro e W7 (⟨y2, r7, h7, rfl, a7, k7⟩ | ⟨r7, h7, rfl, k7⟩)
  rotate_left
  · have KK := Lib.hid (K6.out.trans k7); have HB := Lib.hid h7
    clear h7 k7
    unfold failP
    go_wp2
    refine ⟨rfl, gives_bad _ ?_ KK.out⟩
    show rowP ts = _
    unfold rowP
    rw [then_of H1.out, then_of H3.out, then_of H5.out, point_then H6.out, then_bad HB.out]
  have P7 := Lib.hid (P6.out.kept k7 (fun h => by have : w.heap.size = bp := h; omega))
  have R7 := Lib.hid (R6.out.kept k7 (fun h => by have : (w.heap.size + 1) = bp := h; omega))
  have V7 := Lib.hid (V6.out.kept k7 (fun h => by have : vb = bp := h; omega))
  have K7 := Lib.hid (K6.out.trans k7); have A7 := Lib.hid a7; have H7 := Lib.hid h7; have hs7 := k7.size
  clear h7 a7 k7 cP0 P6 R6 V6 K6 A6
  have cP0 := P7.out.cell (i := 0) rfl
  go_wp2_with fail
  refine (numbers1_any bp L r7 W7.heap.size vb 44 92 [.string ⟨nm.toArray⟩, .int .i64 (xy.1 : Nat), .int .i64 (xy.2 : Nat), .int .i64 0, .int .i64 0, .int .i64 0, .slice none 0 0, .int .i64 (at_ : Nat)] _ (A7.out.kept (E := fun _ => False) ((Kp.refl _ _).alloc _) (fun _ h => h.elim)) (V7.out.alloc _) (by omega) (by have := V7.out.lt; omega) (by have := A7.out.lt; omega) 3 (by simp) (Blk.new W7 _ [.pointer (some ⟨vb, 3, none⟩)])).mono ?_
  rintro e W8 (⟨fi, r8, h8, ⟨rfl, v8⟩, a8, k8⟩ | ⟨r8, h8, rfl, k8⟩)
  rotate_left
  · have KK := Lib.hid ((K7.out.alloc _).call k8 (fun k hk => hk.elim (fun h => Or.inl h) (fun h => Or.inr (by have : k = vb := h; omega)))); have HB := Lib.hid h8
    clear h8 k8
    unfold failP
    go_wp2
    refine ⟨rfl, gives_bad _ ?_ KK.out⟩
    show rowP ts = _
    unfold rowP
    rw [then_of H1.out, then_of H3.out, then_of H5.out, point_then H6.out, then_of H7.out, then_bad HB.out]
  have P8 := Lib.hid ((P7.out.alloc (.cells #[.pointer (some ⟨vb, 3, none⟩)] 92)).kept k8 (fun h => h.elim (fun h => by have : w.heap.size = bp := h; omega) (fun h => by have : w.heap.size = vb := h; omega)))
  have R8 := Lib.hid ((R7.out.alloc (.cells #[.pointer (some ⟨vb, 3, none⟩)] 92)).kept k8 (fun h => h.elim (fun h => by have : (w.heap.size + 1) = bp := h; omega) (fun h => by have : (w.heap.size + 1) = vb := h; omega)))
  have V8 : Hid (Blk W8 vb 44 [.string ⟨nm.toArray⟩, .int .i64 (xy.1 : Nat), .int .i64 (xy.2 : Nat), .int .i64 (fi : Nat), .int .i64 0, .int .i64 0, .slice none 0 0, .int .i64 (at_ : Nat)]) := Lib.hid v8
  have K8 := Lib.hid ((K7.out.alloc _).call k8 (fun k hk => hk.elim (fun h => Or.inl h) (fun h => Or.inr (by have : k = vb := h; omega)))); have A8 := Lib.hid a8; have H8 := Lib.hid h8
  have hs8 : W7.heap.size ≤ W8.heap.size := Nat.le_trans (by simp) k8.size
  clear h8 a8 k8 v8 cP0 P7 R7 V7 K7 A7
  have cP0 := P8.out.cell (i := 0) rfl
  go_wp2_with fail
  refine (word_any bp L r8 wTo _ A8.out).mono ?_
  rintro e W9 (⟨y3, r9, h9, rfl, a9, k9⟩ | ⟨r9, h9, rfl, k9⟩)
  rotate_left
  · have KK := Lib.hid (K8.out.trans k9); have HB := Lib.hid h9
    clear h9 k9
    unfold failP
    go_wp2
    refine ⟨rfl, gives_bad _ ?_ KK.out⟩
    show rowP ts = _
    unfold rowP
    rw [then_of H1.out, then_of H3.out, then_of H5.out, point_then H6.out, then_of H7.out, then_of H8.out, then_bad HB.out]
  have P9 := Lib.hid (P8.out.kept k9 (fun h => by have : w.heap.size = bp := h; omega))
  have R9 := Lib.hid (R8.out.kept k9 (fun h => by have : (w.heap.size + 1) = bp := h; omega))
  have V9 := Lib.hid (V8.out.kept k9 (fun h => by have : vb = bp := h; omega))
  have K9 := Lib.hid (K8.out.trans k9); have A9 := Lib.hid a9; have H9 := Lib.hid h9; have hs9 := k9.size
  clear h9 a9 k9 cP0 P8 R8 V8 K8 A8
  have cP0 := P9.out.cell (i := 0) rfl
  go_wp2_with fail
  refine (numbers1_any bp L r9 W9.heap.size vb 44 92 [.string ⟨nm.toArray⟩, .int .i64 (xy.1 : Nat), .int .i64 (xy.2 : Nat), .int .i64 (fi : Nat), .int .i64 0, .int .i64 0, .slice none 0 0, .int .i64 (at_ : Nat)] _ (A9.out.kept (E := fun _ => False) ((Kp.refl _ _).alloc _) (fun _ h => h.elim)) (V9.out.alloc _) (by omega) (by have := V9.out.lt; omega) (by have := A9.out.lt; omega) 4 (by simp) (Blk.new W9 _ [.pointer (some ⟨vb, 4, none⟩)])).mono ?_
  rintro e W10 (⟨la, r10, h10, ⟨rfl, v10⟩, a10, k10⟩ | ⟨r10, h10, rfl, k10⟩)
  rotate_left
  · have KK := Lib.hid ((K9.out.alloc _).call k10 (fun k hk => hk.elim (fun h => Or.inl h) (fun h => Or.inr (by have : k = vb := h; omega)))); have HB := Lib.hid h10
    clear h10 k10
    unfold failP
    go_wp2
    refine ⟨rfl, gives_bad _ ?_ KK.out⟩
    show rowP ts = _
    unfold rowP
    rw [then_of H1.out, then_of H3.out, then_of H5.out, point_then H6.out, then_of H7.out, then_of H8.out, then_of H9.out, then_bad HB.out]
  have P10 := Lib.hid ((P9.out.alloc (.cells #[.pointer (some ⟨vb, 4, none⟩)] 92)).kept k10 (fun h => h.elim (fun h => by have : w.heap.size = bp := h; omega) (fun h => by have : w.heap.size = vb := h; omega)))
  have R10 := Lib.hid ((R9.out.alloc (.cells #[.pointer (some ⟨vb, 4, none⟩)] 92)).kept k10 (fun h => h.elim (fun h => by have : (w.heap.size + 1) = bp := h; omega) (fun h => by have : (w.heap.size + 1) = vb := h; omega)))
  have V10 : Hid (Blk W10 vb 44 [.string ⟨nm.toArray⟩, .int .i64 (xy.1 : Nat), .int .i64 (xy.2 : Nat), .int .i64 (fi : Nat), .int .i64 (la : Nat), .int .i64 0, .slice none 0 0, .int .i64 (at_ : Nat)]) := Lib.hid v10
  have K10 := Lib.hid ((K9.out.alloc _).call k10 (fun k hk => hk.elim (fun h => Or.inl h) (fun h => Or.inr (by have : k = vb := h; omega)))); have A10 := Lib.hid a10; have H10 := Lib.hid h10
  have hs10 : W9.heap.size ≤ W10.heap.size := Nat.le_trans (by simp) k10.size
  clear h10 a10 k10 v10 cP0 P9 R9 V9 K9 A9
  have cP0 := P10.out.cell (i := 0) rfl
  go_wp2_with fail
  refine (word_any bp L r10 wStep _ A10.out).mono ?_
  rintro e W11 (⟨y4, r11, h11, rfl, a11, k11⟩ | ⟨r11, h11, rfl, k11⟩)
  rotate_left
  · have KK := Lib.hid (K10.out.trans k11); have HB := Lib.hid h11
    clear h11 k11
    unfold failP
    go_wp2
    refine ⟨rfl, gives_bad _ ?_ KK.out⟩
    show rowP ts = _
    unfold rowP
    rw [then_of H1.out, then_of H3.out, then_of H5.out, point_then H6.out, then_of H7.out, then_of H8.out, then_of H9.out, then_of H10.out, then_bad HB.out]
  have P11 := Lib.hid (P10.out.kept k11 (fun h => by have : w.heap.size = bp := h; omega))
  have R11 := Lib.hid (R10.out.kept k11 (fun h => by have : (w.heap.size + 1) = bp := h; omega))
  have V11 := Lib.hid (V10.out.kept k11 (fun h => by have : vb = bp := h; omega))
  have K11 := Lib.hid (K10.out.trans k11); have A11 := Lib.hid a11; have H11 := Lib.hid h11; have hs11 := k11.size
  clear h11 a11 k11 cP0 P10 R10 V10 K10 A10
  have cP0 := P11.out.cell (i := 0) rfl
  go_wp2_with fail
  refine (numbers1_any bp L r11 W11.heap.size vb 44 92 [.string ⟨nm.toArray⟩, .int .i64 (xy.1 : Nat), .int .i64 (xy.2 : Nat), .int .i64 (fi : Nat), .int .i64 (la : Nat), .int .i64 0, .slice none 0 0, .int .i64 (at_ : Nat)] _ (A11.out.kept (E := fun _ => False) ((Kp.refl _ _).alloc _) (fun _ h => h.elim)) (V11.out.alloc _) (by omega) (by have := V11.out.lt; omega) (by have := A11.out.lt; omega) 5 (by simp) (Blk.new W11 _ [.pointer (some ⟨vb, 5, none⟩)])).mono ?_
  rintro e W12 (⟨stp, r12, h12, ⟨rfl, v12⟩, a12, k12⟩ | ⟨r12, h12, rfl, k12⟩)
  rotate_left
  · have KK := Lib.hid ((K11.out.alloc _).call k12 (fun k hk => hk.elim (fun h => Or.inl h) (fun h => Or.inr (by have : k = vb := h; omega)))); have HB := Lib.hid h12
    clear h12 k12
    unfold failP
    go_wp2
    refine ⟨rfl, gives_bad _ ?_ KK.out⟩
    show rowP ts = _
    unfold rowP
    rw [then_of H1.out, then_of H3.out, then_of H5.out, point_then H6.out, then_of H7.out, then_of H8.out, then_of H9.out, then_of H10.out, then_of H11.out, then_bad HB.out]
  have P12 := Lib.hid ((P11.out.alloc (.cells #[.pointer (some ⟨vb, 5, none⟩)] 92)).kept k12 (fun h => h.elim (fun h => by have : w.heap.size = bp := h; omega) (fun h => by have : w.heap.size = vb := h; omega)))
  have R12 := Lib.hid ((R11.out.alloc (.cells #[.pointer (some ⟨vb, 5, none⟩)] 92)).kept k12 (fun h => h.elim (fun h => by have : (w.heap.size + 1) = bp := h; omega) (fun h => by have : (w.heap.size + 1) = vb := h; omega)))
  have V12 : Hid (Blk W12 vb 44 [.string ⟨nm.toArray⟩, .int .i64 (xy.1 : Nat), .int .i64 (xy.2 : Nat), .int .i64 (fi : Nat), .int .i64 (la : Nat), .int .i64 (stp : Nat), .slice none 0 0, .int .i64 (at_ : Nat)]) := Lib.hid v12
  have K12 := Lib.hid ((K11.out.alloc _).call k12 (fun k hk => hk.elim (fun h => Or.inl h) (fun h => Or.inr (by have : k = vb := h; omega)))); have A12 := Lib.hid a12; have H12 := Lib.hid h12
  have hs12 : W11.heap.size ≤ W12.heap.size := Nat.le_trans (by simp) k12.size
  clear h12 a12 k12 v12 cP0 P11 R11 V11 K11 A11
  have hln : r12.length ≤ 5000 := by
      have l0 := shrink (det_word _) H1.out
      have l1 := shrink det_name H3.out
      have l2 := shrink (det_word _) H5.out
      have l3 := shrink det_point H6.out
      have l4 := shrink (det_word _) H7.out
      have l5 := shrink det_num H8.out
      have l6 := shrink (det_word _) H9.out
      have l7 := shrink det_num H10.out
      have l8 := shrink (det_word _) H11.out
      have l9 := shrink det_num H12.out
      omega
  have hpl := P12.out.lt; have hvl := V12.out.lt; have hbl := A12.out.lt
  have cP := P12.out.cell (i := 0) rfl
  go_wp2_with fail
  refine (until_any bp L wSemi markP eats_mark 80 rowC_ent #[.pointer (some ⟨vb, 0, none⟩), .pointer (some ⟨w.heap.size, 0, none⟩)]
    (fun ms W => ∃ v, Blk W vb 44 [.string ⟨nm.toArray⟩, .int .i64 (xy.1 : Nat), .int .i64 (xy.2 : Nat), .int .i64 (fi : Nat), .int .i64 (la : Nat), .int .i64 (stp : Nat), v, .int .i64 (at_ : Nat)] ∧ Building markK W (fun k => W12.heap.size ≤ k ∧ v.ownBlock ≠ some k) W12.heap.size 46 v ms ∧ Kp (fun k => k = bp ∨ k = vb ∨ W12.heap.size ≤ k) W12 W)
    (fun W => Kp (fun k => k = bp ∨ k = vb ∨ W12.heap.size ≤ k) W12 W) ?keep ?fin 5000 ?step fuel r12 (by unfold fuel; omega) [] (by simpa using hln) W12 ⟨_, V12.out, building_nil _ _ _ _ _, Kp.refl _ _⟩ A12.out).mono ?_
  case keep =>
    rintro ms W W' ⟨v, h1, h2, h3⟩ hk
    exact ⟨v, h1.kept hk (fun h => by have : vb = bp := h; omega), h2.kept (fun k hk' => hk.block k (h2.lt hk').2 (fun h => by have := (h2.lt hk').1; have : k = bp := h; omega)) (fun k hk' hlt => hk.block k hlt (fun h => by have := hk'.1; have : k = bp := h; omega)) (fun _ h _ => h), h3.call hk (fun k h => Or.inl (Or.inl h))⟩
  case fin =>
    rintro ms W W' ⟨v, h1, h2, h3⟩ hk
    exact h3.call hk (fun k h => Or.inl (Or.inl h))
  case step =>
    rintro ms W us ⟨v, h1, h2, h3⟩ hA hN
    refine (rowC_any bp L vb w.heap.size W12.heap.size us (.string ⟨nm.toArray⟩) (.int .i64 (xy.1 : Nat)) (.int .i64 (xy.2 : Nat)) (.int .i64 (fi : Nat)) (.int .i64 (la : Nat)) (.int .i64 (stp : Nat)) (.int .i64 (at_ : Nat)) v ms W hA h1 (P12.out.kept h3 (fun h => by omega)) h2 h3.size (by omega) (by omega) (by omega) (by omega) (by omega) (by omega)).mono ?_
    rintro e W2 (⟨m, q, k1, rfl, ⟨v', k2, k3⟩, k4, k5⟩ | ⟨q, k1, rfl, k5⟩)
    · exact Or.inl ⟨m, q, k1, rfl, ⟨v', k2, k3, h3.trans k5⟩, k4⟩
    · exact Or.inr ⟨q, k1, rfl, h3.trans k5⟩
  rintro e W13 (⟨ms, r13, h13, rfl, ⟨v, v13, b13, k13⟩, a13⟩ | ⟨r13, h13, rfl, k13⟩)
  rotate_left
  · have KK := Lib.hid (K12.out.call k13 (fun k hk => by rcases hk with h | h | h; exact Or.inl h; exact Or.inr (by omega); exact Or.inr (by omega))); have HB := Lib.hid h13
    clear h13 k13
    unfold failP
    go_wp2
    refine ⟨rfl, gives_bad _ ?_ KK.out⟩
    show rowP ts = _
    unfold rowP
    rw [then_of H1.out, then_of H3.out, then_of H5.out, point_then H6.out, then_of H7.out, then_of H8.out, then_of H9.out, then_of H10.out, then_of H11.out, then_of H12.out, then_bad HB.out]
  obtain ⟨sa, sn, sc, rfl⟩ := b13.slice
  have P13 := Lib.hid (P12.out.kept k13 (fun h => by omega))
  have R13 := Lib.hid (R12.out.kept k13 (fun h => by omega))
  have V13 := Lib.hid v13
  have K13 := Lib.hid (K12.out.call k13 (fun k hk => by rcases hk with h | h | h; exact Or.inl h; exact Or.inr (by omega); exact Or.inr (by omega))); have A13 := Lib.hid a13; have H13 := Lib.hid h13; have HBU := Lib.hid b13; have hs13 := k13.size
  clear h13 a13 k13 v13 b13 cP hln P12 R12 V12 K12 A12
  have x0 := V13.out.cell (i := 0) rfl
  have x1 := V13.out.cell (i := 1) rfl
  have x2 := V13.out.cell (i := 2) rfl
  have x3 := V13.out.cell (i := 3) rfl
  have x4 := V13.out.cell (i := 4) rfl
  have x5 := V13.out.cell (i := 5) rfl
  have x6 := V13.out.cell (i := 6) rfl
  have x7 := V13.out.cell (i := 7) rfl
  have z0 := R13.out.cell (i := 0) rfl
  have z1 := R13.out.cell (i := 1) rfl
  have z2 := R13.out.cell (i := 2) rfl
  have z3 := R13.out.cell (i := 3) rfl
  have z4 := R13.out.cell (i := 4) rfl
  have z5 := R13.out.cell (i := 5) rfl
  have z6 := R13.out.cell (i := 6) rfl
  have z7 := R13.out.cell (i := 7) rfl
  have zf := R13.out.free
  go_wp2
  rw [setCells_eight]
  refine bodyPost_ret (results_cell_mid rfl _ _ ((w.heap.size + 1)) [.string ⟨nm.toArray⟩, .int .i64 (xy.1 : Nat), .int .i64 (xy.2 : Nat), .int .i64 (fi : Nat), .int .i64 (la : Nat), .int .i64 (stp : Nat), .slice sa sn sc, .int .i64 (at_ : Nat)] _ rfl (R13.out.whole (vs := [.string ⟨nm.toArray⟩, .int .i64 (xy.1 : Nat), .int .i64 (xy.2 : Nat), .int .i64 (fi : Nat), .int .i64 (la : Nat), .int .i64 (stp : Nat), .slice sa sn sc, .int .i64 (at_ : Nat)]) rfl).range Tryz.underlying44 rfl (by kernel_rfl)) rfl ?_
  refine gives_ok (⟨nm, xy.1, xy.2, fi, la, stp, ms, at_⟩) r13 ?_ ?_ (A13.out.result (by omega) _) (K13.out.result (by omega) _)
  · show rowP ts = _
    unfold rowP
    rw [then_of H1.out, then_of H3.out, then_of H5.out, point_then H6.out, then_of H7.out, then_of H8.out, then_of H9.out, then_of H10.out, then_of H11.out, then_of H12.out, then_of H13.out]
    rfl
  · exact ⟨_, rfl, _, rfl, HBU.out.result (by omega) (by omega) _⟩
end Go.Proofs.YtlfjdohjfmfcdaaGreatDoor
