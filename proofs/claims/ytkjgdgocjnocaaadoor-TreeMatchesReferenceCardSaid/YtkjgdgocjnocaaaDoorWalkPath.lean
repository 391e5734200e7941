/-
  The walk of the path of an element.
-/
import Derived.Test.YtkjgdgocjnocaaaDoorWalkRoot
namespace Go.Proofs.YtkjgdgocjnocaaaDoor
open Go.RowKit Go.Sort Go.Shelf Foyer.Digest Foyer.Tree Foyer.Round Foyer.Hands
attribute [local go_sem] Oper.semAt_some

theorem OwnS.atj {W : World} {B g n cap : Nat} {ls : List (List UInt8)} (h : OwnS W B (.slice (some ⟨g, 0, none⟩) n cap) ls) (j : Nat) (hj : j < ls.length) : W.cell? ⟨g, j, none⟩ = some (.string ⟨(ls.getD j []).toArray⟩) := by
  obtain ⟨g', c', e, _, _, _, _, hr⟩ := h.form (by omega)
  simp only [Value.slice.injEq, Option.some.injEq, Addr.mk.injEq, and_true] at e
  obtain ⟨rfl, _, _⟩ := e
  have := rdS_at' hr j hj
  rwa [Nat.zero_add] at this
theorem OwnS.block {W : World} {B g n cap : Nat} {ls : List (List UInt8)} (h : OwnS W B (.slice (some ⟨g, 0, none⟩) n cap) ls) : g < W.heap.size := (World.ownsRow.lt h g rfl).2
theorem path_done {l : List (List UInt8)} {xs : List Lev} {i : Nat} (hi : i < l.length) (h : LevS l xs) : pathTo (leaves l) i xs.length = path l i := by
  rcases h with ⟨rfl, rfl⟩ | ⟨k, hx, hk, h1⟩
  · simp at hi
  · have h2 : (ups (leaves l) k).length ≤ 1 := by
      have : (lvl l k).length = 1 := h1
      unfold lvl at this; omega
    rw [hx, path_at hi hk (by unfold lvl; exact h2)]
    exact pathTo_small (by rw [leaves_length]; exact hi) h2 1

theorem path_bad (l : List (List UInt8)) (p : Option Addr) (n cap : Nat) (i : Int) (w : World) (_ : l.length = n) (_ : n ≤ 100000) (hi : ¬ (0 ≤ i ∧ i < n)) :
    Calls Tryd.prog 11 #[.slice p n cap, .int .i64 i] w fun e w' => e = .returned (.tuple #[.slice none 0 0, .int .i64 1]) ∧ Below w.heap.size w w' := by
  have HS : Hid (Since w w) := Below.refl _ _
  by_cases h0 : i < 0
  · have hd : decide (i < 0) = true := by simp; omega
    go_enter Tryd.func11, Tryd.ntmps11
    go_wp2
    go_ret2
    exact ⟨rfl, HS.out.alloc _⟩
  · have hd : decide (i < 0) = false := by simp; omega
    have hge : (n : Int) ≤ i := by omega
    have hd2 : decide ((n : Int) ≤ i) = true := by simp; omega
    go_enter Tryd.func11, Tryd.ntmps11
    go_wp2
    go_ret2
    exact ⟨rfl, HS.out.alloc _⟩

set_option linter.unusedSimpArgs false in
set_option maxRecDepth 100000 in
set_option maxHeartbeats 1000000 in
theorem path_any (l : List (List UInt8)) (p : Option Addr) (n cap i : Nat) (w : World) (hr : RdS w p l) (hn : l.length = n) (hl : n ≤ 100000) (ht : ∀ t ∈ l, t.length ≤ 1000000) (hi : i < n) (hE : Env w) :
    Calls Tryd.prog 11 #[.slice p n cap, .int .i64 i] w fun e w' => ∃ v, e = .returned (.tuple #[v, .int .i64 0]) ∧ OwnS w' w.heap.size v (path l i) ∧ Below w.heap.size w w' := by
  refine (callsIn_wide (n := 3)).1 ?_
  refine callsIn_of_wp_marks Tryd.func11 rfl trivial ?_ rfl
  simp only [Tryd.ntmps11, List.size_toArray, List.length_cons, List.length_nil, Nat.reduceAdd, Nat.reduceSub, Array.replicate_succ, Array.replicate_zero, List.push_toArray, List.append_toArray, List.nil_append, List.cons_append]
  have HE := Lib.hid hE; have HR := Lib.hid hr
  have HS : Hid (Since w w) := Below.refl _ _
  have hd0 : decide ((i : Int) < 0) = false := by simp
  clear hE hr
  gi_wp2_with (refine ⟨trivial, ?_⟩; gi_at_call 22; refine (callsIn_wide.2 (levels_any _ _ _ _)).mono ?_; rintro e W2 ⟨rfl, rfl⟩)
  have bI0 := ((Boxed.new w 3 (.int .i64 i)).alloc (.cells #[.slice none 0 0] 22)).alloc (.cells #[.slice p n cap] 22)
  have bP0 := (Boxed.new (w.alloc (.cells #[.int .i64 i] 3)) 22 (.slice none 0 0)).alloc (.cells #[.slice p n cap] 22)
  have bL0 := Boxed.new ((w.alloc (.cells #[.int .i64 i] 3)).alloc (.cells #[.slice none 0 0] 22)) 22 (.slice p n cap)
  have hB0 : Below w.heap.size w (((w.alloc (.cells #[.int .i64 i] 3)).alloc (.cells #[.slice none 0 0] 22)).alloc (.cells #[.slice p n cap] 22)) := ((HS.out.alloc _).alloc _).alloc _
  have hsz : (((w.alloc (.cells #[.int .i64 i] 3)).alloc (.cells #[.slice none 0 0] 22)).alloc (.cells #[.slice p n cap] 22)).heap.size = w.heap.size + 3 := by simp
  simp only [World.size_alloc] at bL0 bP0
  generalize ((w.alloc (.cells #[.int .i64 i] 3)).alloc (.cells #[.slice none 0 0] 22)).alloc (.cells #[.slice p n cap] 22) = W0 at *
  refine wpIn_rangeFunc_hands (by omega) (gf := 39) (lb := #[.pointer (some ⟨w.heap.size + 1 + 1, 0, none⟩)]) rfl (enters_of Tryd.func39 (by kernel_rfl) rfl)
    (each_hands l p n cap (w.heap.size + 1 + 1) hn hl ht W0 bL0.cell (HR.out.below (Nat.le_refl _) hB0) w HE.out hB0) (Below.refl _ _) (fun _ => rfl) (levG_own l w _ hB0.size)
    (fun H pre W => (∃ v, Boxed W (w.heap.size + 1) 22 v ∧ W.ownsRow w.heap.size 9 1 v (pathTo (leaves l) i pre.length).length ((pathTo (leaves l) i pre.length).map fun l => Value.string ⟨l.toArray⟩) ∧ (∀ q, v.ownBlock = some q → q < H)) ∧ (Boxed W w.heap.size 3 (.int .i64 (i / 2 ^ pre.length : Nat)) ∧ w.heap.size + 1 < H) ∧ Below w.heap.size w W)
    (fun H => OwnFrom.and (Own.from (holdsRow_own w.heap.size (w.heap.size + 1) 22 9 1 (fun (pre : List Lev) => (pathTo (leaves l) i pre.length).length) (fun (pre : List Lev) => (pathTo (leaves l) i pre.length).map fun l => Value.string ⟨l.toArray⟩) (fun _ v => ∀ q, v.ownBlock = some q → q < H)) _) (OwnFrom.and (OwnFrom.and (Own.from (boxed_own w.heap.size 3 (fun (pre : List Lev) => .int .i64 (i / 2 ^ pre.length : Nat))) _) (ownFrom_pure _ (fun _ => w.heap.size + 1 < H))) (ownFrom_below (Nat.le_refl _) hB0.size)))
    (fun H hH => ⟨⟨_, bP0, World.ownsRow_nil _ _ _ _, fun q e => by cases e⟩, ⟨by simpa using bI0, by omega⟩, hB0⟩)
    (fun x => { tmps := #[.slice p n cap, .int .i64 i, undef, .pointer (some ⟨w.heap.size, 0, none⟩), .slice none 0 0, .int .i64 0, .pointer (some ⟨w.heap.size + 1, 0, none⟩), levV x, undef, .int .i64 i, .bool false, .bool false, .int .i64 i, .slice p n cap, .int .i64 n, .bool false, .bool false, .slice p n cap, .func (.func 39) #[] #[.pointer (some ⟨w.heap.size + 1 + 1, 0, none⟩)], levV x, undef, undef, undef, undef, undef, undef, undef, undef, undef, undef, undef, undef, undef, undef, undef, undef], defers := [] }) ?assign ?body ?done
  case assign =>
    intro y x W K hK
    gi_wp2
    exact hK
  case body =>
    rintro y pre ⟨g, m, c⟩ H W ⟨⟨v, bv, ov, hq⟩, ⟨bI, hbH⟩, hB⟩ hH hfr ⟨_, ⟨hm, hm1⟩, hO⟩ hlt
    dsimp only [levV] at hm hm1 hO ⊢
    have hnextI : i / 2 ^ (pre ++ [((g, m, c) : Lev)]).length = i / 2 ^ pre.length / 2 := by
      rw [List.length_append, List.length_singleton, Nat.pow_succ, Nat.div_div_eq_div_mul]
    have hnextP : pathTo (leaves l) i (pre ++ [((g, m, c) : Lev)]).length = pathTo (leaves l) i pre.length ++ beside (lvl l pre.length) (i / 2 ^ pre.length) := by
      rw [List.length_append, List.length_singleton]; rfl
    have hpl := (pathTo_length (leaves l) i pre.length).1
    have hil : i / 2 ^ pre.length ≤ i := Nat.div_le_self _ _
    have hgb : w.heap.size + 1 < g := Nat.lt_of_lt_of_le hbH hfr
    have hgW : g < W.heap.size := hO.block
    obtain ⟨ii, hii⟩ : ∃ ii, i / 2 ^ pre.length = ii := ⟨_, rfl⟩
    rw [hii] at hnextI hnextP hil bI
    obtain ⟨ps, hps⟩ : ∃ ps, pathTo (leaves l) i pre.length = ps := ⟨_, rfl⟩
    rw [hps] at hnextP ov hpl
    obtain ⟨L, hL⟩ : ∃ L, lvl l pre.length = L := ⟨_, rfl⟩
    rw [hL] at hnextP hm hO
    have ov' : OwnS W w.heap.size v ps := ov
    have HNI := Lib.hid hnextI; have HNP := Lib.hid hnextP; have HO := Lib.hid hO; have HB := Lib.hid hB; have HL := Lib.hid hL
    clear hnextI hnextP hO hB ov hL bI0 bP0 bL0 hB0 ht hii hps hi
    have hcI := bI.cell
    have hcv := bv.cell
    have hw : w.heap.size ≤ W.heap.size := HB.out.size
    by_cases hs : sib ii < m
    · have hx := HO.out.atj (sib ii) (by omega)
      have hbe : beside L ii = [L.getD (sib ii) []] := by unfold beside; rw [if_pos (by omega)]
      generalize L.getD (sib ii) [] = t at *
      have HBE := Lib.hid hbe; clear hbe
      have HM := Lib.hid hm; clear hm
      gi_wp2_with (refine ⟨trivial, ?_⟩; gi_at_call 23; refine (CallsIn.inRound y (callsIn_wide.2 (neighbour_any ii (by omega) _))).mono ?_; rintro e W5 ⟨rfl, rfl⟩)
      refine region_round (by kernel_rfl) (by kernel_rfl) (fun ⟨_, _, h⟩ => h) ?_
      refine any_of_held (S := fun w' => Below W.drew.heap.size W.drew w') (N := [6, 7]) _ _ _ _ ?_
      have hS0 : Below W.drew.heap.size W.drew W.drew := Below.refl _ _
      have hba0 : Below W.heap.size W W.drew := below_drewN (Below.refl _ _) 1
      refine held_take [3, 4, 5, 6, 7] (i := 1) (v := .slice (some ⟨g, 0, none⟩) m c) rfl (by kernel_rfl) (fun _ _ _ h => h) (Or.inl ⟨by rfl, fun w' hS => by go_simp⟩) hS0 ?_
      try simp only [Act.put, List.setIfInBounds_toArray, List.set_cons_zero, List.set_cons_succ]
      refine held_take [3, 4, 5, 6, 7] (i := 2) (v := .int .i64 (sib ii : Nat)) rfl (by kernel_rfl) (fun _ _ _ h => h) (Or.inl ⟨by rfl, fun w' hS => by go_simp⟩) hS0 ?_
      try simp only [Act.put, List.setIfInBounds_toArray, List.set_cons_zero, List.set_cons_succ]
      refine held_take [4, 5, 6, 7] (i := 3) (v := .pointer (some ⟨g, sib ii, none⟩)) rfl (by kernel_rfl) (fun _ _ _ h => h) (Or.inl ⟨by rfl, fun w' hS => by go_simp⟩) hS0 ?_
      try simp only [Act.put, List.setIfInBounds_toArray, List.set_cons_zero, List.set_cons_succ]
      refine held_take [5, 6, 7] (i := 4) (v := .string ⟨t.toArray⟩) rfl (by kernel_rfl) (fun _ _ _ h => h) (Or.inl ⟨by rfl, fun w' hS => by have hc := (hS.cell (p := ⟨g, sib ii, none⟩) hgW).trans hx; go_simp⟩) hS0 ?_
      try simp only [Act.put, List.setIfInBounds_toArray, List.set_cons_zero, List.set_cons_succ]
      refine held_take [6, 7] (i := 0) (v := v) rfl (by kernel_rfl) (fun _ _ _ h => h) (Or.inl ⟨by rfl, fun w' hS => by have hc := (hS.cell (p := ⟨w.heap.size + 1, 0, none⟩) bv.lt).trans hcv; go_simp⟩) hS0 ?_
      try simp only [Act.put, List.setIfInBounds_toArray, List.set_cons_zero, List.set_cons_succ]
      obtain ⟨wa, hwa⟩ : ∃ wa, W.drew = wa := ⟨_, rfl⟩
      rw [hwa] at hS0 hba0 ⊢
      have ova : OwnS wa w.heap.size v ps := ov'.kept hba0
      have bva : Boxed wa (w.heap.size + 1) 22 v := bv.kept (grown_of_below hba0) (fun e => by cases e)
      have bIa : Boxed wa w.heap.size 3 (.int .i64 ii) := bI.kept (grown_of_below hba0) (fun e => by cases e)
      have oLa : OwnS wa 0 (.slice (some ⟨g, 0, none⟩) m c) L := HO.out.kept hba0
      have hgv : v.ownBlock ≠ some g := fun e => by
        have := hq g e
        have : H ≤ g := hfr
        omega
      refine held_one (i := 5) rfl (by kernel_rfl) (fun K hK => ?_)
      go_simp
      refine hK.out _ _ (fun _ => hS0.alloc hS0.size _) ?_
      clear hK K
      try simp only [Act.put, List.setIfInBounds_toArray, List.set_cons_zero, List.set_cons_succ]
      refine held_one (i := 6) rfl (by kernel_rfl) (fun K hK => ?_)
      refine step_append_w _ (by kernel_rfl) (.tmp 26) (.tmp 31) rfl w.heap.size v ps ps.length rfl (by kernel_rfl) (ova.alloc _) wa.heap.size 0 1 [t] 1 rfl (by decide) (by kernel_rfl) ?c1 ?d3 ?d5 ?_
      case c1 =>
        intro j hj
        match j, hj with
        | 0, _ => exact (Boxed.new wa 9 (.string ⟨t.toArray⟩)).cell
      case d3 => omega
      case d5 => have := hba0.size; simp at *; omega
      intro g2 cap2 wx hox hgx _
      obtain ⟨bx1, bx2, ox2, kx2, hbx2⟩ := bva.appended (by decide) ova (Nat.le_trans hw hba0.size) (Nat.le_succ _) hox hgx
      have bI2 := ((bIa.alloc _).kept hgx (bIa.not_row (by decide) ova)).other (B' := w.heap.size + 1) (by omega) (.slice (some ⟨g2, 0, none⟩) (ps.length + 1) cap2)
      have oL2 : OwnS (wx.setCell ⟨w.heap.size + 1, 0, none⟩ (.slice (some ⟨g2, 0, none⟩) (ps.length + 1) cap2)) 0 (.slice (some ⟨g, 0, none⟩) m c) L :=
        OwnS.away (World.ownsRow.kept (World.ownsRow.alloc oLa _) hgx (.inr hgv.symm)) (by simp [Value.ownBlock]; omega) _
      refine hK.out _ _ (fun hn => (hn (by decide)).elim) ?_
      clear hK K
      try simp only [Act.put, List.setIfInBounds_toArray, List.set_cons_zero, List.set_cons_succ]
      refine held_one (i := 7) rfl (by kernel_rfl) (fun K hK => ?_)
      have hc1 := bx1.cell
      have hf1 := bx1.frozen
      go_simp
      refine hK.out _ _ (fun hn => (hn (by decide)).elim) ?_
      clear hK K hc1 hf1
      refine held_done (by kernel_rfl) ?_ _
      have hBx : Below w.heap.size w (wx.setCell ⟨w.heap.size + 1, 0, none⟩ (.slice (some ⟨g2, 0, none⟩) (ps.length + 1) cap2)) := (HB.out.trans (hba0.mono HB.out.size)).trans hbx2
      have kx3 : KeepsOthers W (wx.setCell ⟨w.heap.size + 1, 0, none⟩ (.slice (some ⟨g2, 0, none⟩) (ps.length + 1) cap2)) := (KeepsOthers.of_grownBy (grown_of_below hba0) (fun j o e => by cases e)).trans kx2
      clear hcv hcI hx bx1 hgx hox hS0 hba0 ova bva bIa oLa kx2 hbx2 hwa
      generalize wx.setCell ⟨w.heap.size + 1, 0, none⟩ (.slice (some ⟨g2, 0, none⟩) (ps.length + 1) cap2) = wy at *
      have hcI := bI2.cell
      have hfI := bI2.frozen
      have HBx := Lib.hid hBx; have HKx := Lib.hid kx3; have HOL := Lib.hid oL2; have HBI := Lib.hid bI2; have HBP := Lib.hid bx2; have HOX := Lib.hid ox2
      clear hBx kx3 oL2 bI2 bx2 ox2
      gi_wp2
      have eI : ((ii : Int) / 2) = ((ii / 2 : Nat) : Int) := by omega
      rw [eI]
      refine ⟨HKx.out.trans (KeepsOthers.setCell _ _ _), ⟨wy.heap.size, by simp, ⟨_, HBP.out.other (by omega) _, ?_, fun q e => (World.ownsRow.lt HOX.out q e).2⟩, ⟨by rw [HNI.out]; exact HBI.out.set _, HBP.out.lt⟩, HBx.out.setCell (p := ⟨w.heap.size, 0, none⟩) (Nat.le_refl _) _⟩, HBx.out.setCell (p := ⟨w.heap.size, 0, none⟩) (Nat.le_refl _) _, ⟨by rw [HL.out]; exact HM.out, hm1⟩, ?_⟩
      · rw [HNP.out, HBE.out]
        exact World.ownsRow.kept HOX.out (grownBy_setCell' wy w.heap.size _) (.inr (HBI.out.not_row (by decide) HOX.out).symm)
      · rw [HL.out]
        exact HOL.out.away (by simp [Value.ownBlock]; omega) _
    · have hbe : beside L ii = [] := by unfold beside; rw [if_neg (by omega)]
      have HBE := Lib.hid hbe; clear hbe
      have HM := Lib.hid hm; clear hm
      have hfI := bI.frozen
      have HBI := Lib.hid bI; have HBP := Lib.hid bv; have HOX := Lib.hid ov'; have HQ := Lib.hid hq
      clear bI bv ov' hq hcv
      gi_wp2_with (refine ⟨trivial, ?_⟩; gi_at_call 23; refine (CallsIn.inRound y (callsIn_wide.2 (neighbour_any ii (by omega) _))).mono ?_; rintro e W5 ⟨rfl, rfl⟩)
      have eI : ((ii : Int) / 2) = ((ii / 2 : Nat) : Int) := by omega
      rw [eI]
      refine ⟨KeepsOthers.setCell _ _ _, ⟨H, by simpa using hH, ⟨_, HBP.out.other (by omega) _, ?_, HQ.out⟩, ⟨by rw [HNI.out]; exact HBI.out.set _, hbH⟩, HB.out.setCell (p := ⟨w.heap.size, 0, none⟩) (Nat.le_refl _) _⟩, HB.out.setCell (p := ⟨w.heap.size, 0, none⟩) (Nat.le_refl _) _, ⟨by rw [HL.out]; exact HM.out, hm1⟩, ?_⟩
      · rw [HNP.out, HBE.out, List.append_nil]
        exact World.ownsRow.kept HOX.out (grownBy_setCell' W w.heap.size _) (.inr (HBI.out.not_row (by decide) HOX.out).symm)
      · rw [HL.out]
        exact HO.out.away (by simp [Value.ownBlock]; omega) _
  case done =>
    rintro D xs H W hD hS hH ⟨⟨v, bv, ov, _⟩, _, hB⟩ hK
    have hpd := path_done (by rw [hn]; exact hi) hS
    rw [hpd] at ov
    have hc := bv.cell
    have HB := Lib.hid hB; have HK := Lib.hid hK; have HO := Lib.hid ov
    clear hB hK ov bI0 bP0 bL0 hB0 hS hpd ht
    gi_wp2
    refine ⟨by simp, .inl ⟨_, _, rfl, run_takeDeferred HK.out, ?_⟩⟩
    exact ⟨_, results_tmp2 rfl _ _ _, v, rfl, ownsRow_putObj HO.out _ HK.out rfl, HB.out.trans (belowK_b (w := w) (Nat.le_refl _) W D _ _ (by omega) HK.out rfl rfl)⟩
end Go.Proofs.YtkjgdgocjnocaaaDoor
