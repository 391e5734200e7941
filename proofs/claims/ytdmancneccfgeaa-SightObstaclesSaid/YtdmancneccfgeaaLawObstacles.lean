/-
  Obstacles.
-/
import Derived.Test.YtdmancneccfgeaaObst9
namespace Go.Proofs.Ytdmancneccfgeaa.Sg
open Go.RowKit Go.Sort Foyer.Hall Foyer.Sight Go.Proofs.Ytdmancneccfgeaa.Hl Foyer.Loose

open Foyer.Round in
/-- Two operations may come up. -/
theorem held_two {P : Program} {ops : Array Oper} {md : Region.Mode} {Q : Exit → Act → World → Prop} {S : World → Prop} {N : List Nat} {i j : Nat} {o o' : Oper} {f : Nat} {listed : Array Bool} {a : Act} {w : World} (hi : ops[i]? = some o) (hj : ops[j]? = some o') (hr : Region.ready md ops listed = [i, j])
    (h : ∀ K' : Act → World → Prop, RowKit.Hid (∀ a' w', (i ∉ N → S w') → held P md ops Q S N f (listed.setIfInBounds i true) a' w' → K' a' w') → if Region.wanted o (yielded ops a.tmps) = true then Oper.wp P o a w K' Q else K' (a.put o.dst undef) w)
    (h' : ∀ K' : Act → World → Prop, RowKit.Hid (∀ a' w', (j ∉ N → S w') → held P md ops Q S N f (listed.setIfInBounds j true) a' w' → K' a' w') → if Region.wanted o' (yielded ops a.tmps) = true then Oper.wp P o' a w K' Q else K' (a.put o'.dst undef) w) : held P md ops Q S N (f + 1) listed a w := by
  refine ⟨fun h0 => (by rw [hr] at h0; cases h0), fun k hk => ?_⟩
  rw [hr] at hk
  simp only [List.mem_cons, List.not_mem_nil, or_false] at hk
  rcases hk with rfl | rfl
  · exact wpOp_step hi fun K' hK => h K' (Lib.hid fun a' w' h1 h2 => hK a' w' ⟨h1, h2⟩)
  · exact wpOp_step hj fun K' hK => h' K' (Lib.hid fun a' w' h1 h2 => hK a' w' ⟨h1, h2⟩)
theorem high_call (h : HallZ) (ls : List LevelZ) (q : Option Addr) (n cap : Nat) (k : Int) (p : Pt) (VH : Int) (hv : view { h with levels := ls } k p = VH) (w : World) (hl : Lk levelL w w.heap.size (.slice q n cap) ls) :
    Calls Try.prog 13 #[.agg #[.string ⟨h.name.toArray⟩, .int .i64 h.stage.x, .int .i64 h.stage.y, .slice q n cap], .int .i64 k, .agg #[.int .i64 p.x, .int .i64 p.y]] w fun e w' => e = .returned (.int .i64 VH) ∧ Below w.heap.size w w' := by
  have := view_any { h with levels := ls } q n cap k p w hl
  rw [hv] at this
  exact this
theorem frozen_same {W W' : World} {b o : Nat} (h : W'.heap[b]? = W.heap[b]?) : W'.frozen? ⟨b, o, none⟩ = W.frozen? ⟨b, o, none⟩ := by
  unfold World.frozen?
  rw [show W'.heap[(⟨b, o, none⟩ : Addr).block]? = W.heap[(⟨b, o, none⟩ : Addr).block]? from h]
theorem made_form {w : World} {B H : Nat} {T : TypeId} {v : Value} {xs : List LevelZ} {n : Nat} (h : Made levelL w B T v xs) (hn : xs.length = n) (h0 : 0 < n) (hv : ∀ k, v.ownBlock = some k → H ≤ k) :
    ∃ g cp, v = .slice (some ⟨g, 0, none⟩) n cp ∧ H ≤ g ∧ g < w.heap.size ∧ ∀ i k, i < n → k < 8 → ∃ u, w.cell? ⟨g, i * 8 + k, none⟩ = some u ∧ w.frozen? ⟨g, i * 8 + k, none⟩ = false := by
  obtain ⟨css, h1, h2, h3⟩ := h
  rcases h1.form with ⟨_, hc⟩ | ⟨g, cap, cur, hv', hB', hg', hcur, hc1, hc2, hcell⟩
  · rw [hc] at h2; simp at h2; omega
  · subst hv'
    refine ⟨g, cap, by rw [h2, hn], hv g rfl, hg', fun i k hi hk => ?_⟩
    obtain ⟨c, hc⟩ : ∃ c, css[i]? = some c := ⟨_, List.getElem?_eq_getElem (by omega)⟩
    have hl : c.length = 8 := h1.each c (List.mem_of_getElem? hc)
    refine ⟨c[k], hcell i c k c[k] hc (List.getElem?_eq_getElem (by omega)), ?_⟩
    unfold World.frozen?
    rw [show w.heap[(⟨g, i * 8 + k, none⟩ : Addr).block]? = _ from hcur]
    simp
set_option linter.unusedSimpArgs false in
set_option maxRecDepth 100000 in
set_option maxHeartbeats 8000000 in
theorem obstacles_walk (h : HallZ) (q : Option Addr) (n cap : Nat) (raw : Int) (p : Pt) (X : Bx) (hh : Int) (w : World) (hl : Lk levelL w w.heap.size (.slice q n cap) h.levels) (_ : HallZ.Wide h) (hraw : (Lit.int .u8 raw).wf = true) (_ : PointZ.Fit p) (_ : BoxZ.Fit X) (hhh : (Lit.int .u16 hh).wf = true) :
    Calls Try.prog 8 #[.agg #[.string ⟨h.name.toArray⟩, .int .i64 h.stage.x, .int .i64 h.stage.y, .slice q n cap], .int .u8 raw, .agg #[.int .i64 p.x, .int .i64 p.y], .agg #[.int .i64 X.x, .int .i64 X.y, .int .i64 X.x2, .int .i64 X.y2], .int .u16 hh] w fun e w' => e = .returned (.bool true) ∧ Below w.heap.size w w' := by
  replace hraw := u8_bounds hraw
  replace hhh := u16_bounds hhh
  obtain ⟨w3, hw3, sw3, bw3, kh, kp, kx⟩ : ∃ w3, ((w.alloc (.cells #[.string ⟨h.name.toArray⟩, .int .i64 h.stage.x, .int .i64 h.stage.y, .slice q n cap] 28)).alloc (.cells #[.int .i64 p.x, .int .i64 p.y] 23)).alloc (.cells #[.int .i64 X.x, .int .i64 X.y, .int .i64 X.x2, .int .i64 X.y2] 25) = w3 ∧ w3.heap.size = w.heap.size + 1 + 1 + 1 ∧ Since w w3 ∧ Blk w3 (w.heap.size) 28 [.string ⟨h.name.toArray⟩, .int .i64 h.stage.x, .int .i64 h.stage.y, .slice q n cap] ∧ Blk w3 (w.heap.size + 1) 23 [.int .i64 p.x, .int .i64 p.y] ∧ Blk w3 (w.heap.size + 1 + 1) 25 [.int .i64 X.x, .int .i64 X.y, .int .i64 X.x2, .int .i64 X.y2] := by
    obtain ⟨v1, e1⟩ : ∃ wq, w.alloc (.cells #[.string ⟨h.name.toArray⟩, .int .i64 h.stage.x, .int .i64 h.stage.y, .slice q n cap] 28) = wq := ⟨_, rfl⟩
    have s1 : v1.heap.size = w.heap.size + 1 := by rw [← e1, World.size_alloc]
    have b1 : Since w v1 := by rw [← e1]; exact (Since.refl w).alloc _
    have k1_1 : Blk v1 (w.heap.size) 28 [.string ⟨h.name.toArray⟩, .int .i64 h.stage.x, .int .i64 h.stage.y, .slice q n cap] := by rw [← e1]; exact Blk.new _ _ _
    obtain ⟨v2, e2⟩ : ∃ wq, v1.alloc (.cells #[.int .i64 p.x, .int .i64 p.y] 23) = wq := ⟨_, rfl⟩
    have s2 : v2.heap.size = w.heap.size + 1 + 1 := by rw [← e2, World.size_alloc, s1]
    have b2 : Since w v2 := by rw [← e2]; exact b1.alloc _
    have k2_2 : Blk v2 (w.heap.size + 1) 23 [.int .i64 p.x, .int .i64 p.y] := by rw [← e2, ← s1]; exact Blk.new _ _ _
    have k1_2 : Blk v2 (w.heap.size) 28 [.string ⟨h.name.toArray⟩, .int .i64 h.stage.x, .int .i64 h.stage.y, .slice q n cap] := by rw [← e2]; exact k1_1.alloc _
    obtain ⟨v3, e3⟩ : ∃ wq, v2.alloc (.cells #[.int .i64 X.x, .int .i64 X.y, .int .i64 X.x2, .int .i64 X.y2] 25) = wq := ⟨_, rfl⟩
    have s3 : v3.heap.size = w.heap.size + 1 + 1 + 1 := by rw [← e3, World.size_alloc, s2]
    have b3 : Since w v3 := by rw [← e3]; exact b2.alloc _
    have k3_3 : Blk v3 (w.heap.size + 1 + 1) 25 [.int .i64 X.x, .int .i64 X.y, .int .i64 X.x2, .int .i64 X.y2] := by rw [← e3, ← s2]; exact Blk.new _ _ _
    have k1_3 : Blk v3 (w.heap.size) 28 [.string ⟨h.name.toArray⟩, .int .i64 h.stage.x, .int .i64 h.stage.y, .slice q n cap] := by rw [← e3]; exact k1_2.alloc _
    have k2_3 : Blk v3 (w.heap.size + 1) 23 [.int .i64 p.x, .int .i64 p.y] := by rw [← e3]; exact k2_2.alloc _
    rw [e1, e2, e3]
    exact ⟨_, rfl, s3, b3, k1_3, k2_3, k3_3⟩
  have hnl := hl.len
  have hnb : n ≤ 9223372036854775807 := by have := hnl.2; unfold maxLen at this; omega
  have HW3 := Lib.hid hw3
  have KS : Hid (∀ w', Below w3.heap.size w3 w' → Blk w' w.heap.size 28 [.string ⟨h.name.toArray⟩, .int .i64 h.stage.x, .int .i64 h.stage.y, .slice q n cap] ∧ Blk w' (w.heap.size + 1) 23 [.int .i64 p.x, .int .i64 p.y] ∧ Blk w' (w.heap.size + 1 + 1) 25 [.int .i64 X.x, .int .i64 X.y, .int .i64 X.x2, .int .i64 X.y2] ∧ Lk levelL w' w.heap.size (.slice q n cap) h.levels ∧ Below w.heap.size w w' ∧ w.heap.size + 3 ≤ w'.heap.size) := Lib.hid fun w' hb => by
    have hbw : Below w.heap.size w w' := bw3.call hb
    exact ⟨(hb.block _ kh.lt).trans kh, (hb.block _ kp.lt).trans kp, (hb.block _ kx.lt).trans kx, hl.below hbw, hbw, by have := hb.size; omega⟩
  have HNL := Lib.hid hnl.1; have HRAW := Lib.hid hraw; have HHH := Lib.hid hhh
  clear hw3 sw3 bw3 kh kp kx hl hnl hhh
  go_enter Try.func8, Try.ntmps8
  go_upto_region 1 with fail
  rw [HW3.out]
  go_wp2_with fail
  refine (head_any _).mono ?_; rintro e w4 ⟨rfl, hb4⟩
  have HB4 := Lib.hid hb4
  clear hb4
  have ca0 := (KS.out w4 HB4.out).1.cell (i := 0) rfl
  have ca1 := (KS.out w4 HB4.out).1.cell (i := 1) rfl
  have ca2 := (KS.out w4 HB4.out).1.cell (i := 2) rfl
  have ca3 := (KS.out w4 HB4.out).1.cell (i := 3) rfl
  go_wp2_with fail
  refine (few_any h q n cap w4 ((KS.out w4 HB4.out).2.2.2.1.mono (KS.out w4 HB4.out).2.2.2.2.1.size)).mono ?_; rintro e w5 ⟨⟨y, rfl, hy⟩, hb5⟩
  have HB5 := Lib.hid (HB4.out.trans (hb5.mono HB4.out.size))
  clear ca0 ca1 ca2 ca3 hb5 HB4
  cases y
  · go_wp2
    go_ret
    exact ⟨rfl, (KS.out _ HB5.out).2.2.2.2.1⟩
  have hs := hy rfl
  clear hy
  have HSM := Lib.hid hs
  clear hs
  have ca0 := (KS.out w5 HB5.out).1.cell (i := 0) rfl
  have ca1 := (KS.out w5 HB5.out).1.cell (i := 1) rfl
  have ca2 := (KS.out w5 HB5.out).1.cell (i := 2) rfl
  have ca3 := (KS.out w5 HB5.out).1.cell (i := 3) rfl
  by_cases hn0 : n = 0
  · have e0 : ((n : Int) == 0) = true := by simp [hn0]
    have e1 : (n : Int) = 0 := by omega
    go_wp2
    go_ret
    exact ⟨rfl, (KS.out _ HB5.out).2.2.2.2.1⟩
  have e0 : ((n : Int) == 0) = false := by simp [hn0]
  have e1 : ¬ (n : Int) = 0 := by omega
  obtain ⟨i, hi⟩ : ∃ i : Nat, raw % (n : Int) = i := ⟨(raw % (n : Int)).toNat, by have := Int.emod_nonneg raw e1; omega⟩
  have hin : i < n := by have := Int.emod_lt_of_pos raw (show (0 : Int) < n by omega); omega
  have hi2 : Int.tmod raw (n : Int) = i := by rw [Int.tmod_eq_emod_of_nonneg hraw.1]; exact hi
  obtain ⟨xl, hxl⟩ : ∃ x, h.levels[i]? = some x := ⟨_, List.getElem?_eq_getElem (by have := HNL.out; omega)⟩
  have hxm : xl ∈ h.levels := List.mem_of_getElem? hxl
  have hx100 := HSM.out.pillars xl hxm
  have h40 : n ≤ 40 := by have := HSM.out.levels; have := HNL.out; omega
  obtain ⟨V, hV⟩ : ∃ V, view h i p = V := ⟨_, rfl⟩
  have hVr := view_range h i p
  rw [hV] at hVr
  have v1 : decide (V < 0) = false := decide_eq_false (by omega)
  have v2 : decide ((3 : Int) < V) = false := decide_eq_false (by omega)
  have HV := Lib.hid hV; have HXL := Lib.hid hxl
  clear hV hxm
  have pq0 := (KS.out w5 HB5.out).2.1.cell (i := 0) rfl
  have pq1 := (KS.out w5 HB5.out).2.1.cell (i := 1) rfl
  go_wp2_with fail
  refine (view_any h q n cap i p w5 ((KS.out w5 HB5.out).2.2.2.1.mono (KS.out w5 HB5.out).2.2.2.2.1.size)).mono ?_; rintro e w6 ⟨rfl, hb6⟩
  rw [HV.out]
  have HB6 := Lib.hid (HB5.out.trans (hb6.mono HB5.out.size))
  clear ca0 ca1 ca2 ca3 pq0 pq1 hb6 HB5
  have ca0 := (KS.out w6 HB6.out).1.cell (i := 0) rfl
  have ca1 := (KS.out w6 HB6.out).1.cell (i := 1) rfl
  have ca2 := (KS.out w6 HB6.out).1.cell (i := 2) rfl
  have ca3 := (KS.out w6 HB6.out).1.cell (i := 3) rfl
  go_upto_region 8 with fail
  go_upto_region 9 with fail
  obtain ⟨wD1, hwD1, swD1, bwD1, kd⟩ : ∃ wD1, w6.alloc (.cells #[.string ⟨h.name.toArray⟩, .int .i64 h.stage.x, .int .i64 h.stage.y, .slice q n cap] 28) = wD1 ∧ wD1.heap.size = w6.heap.size + 1 ∧ Since w6 wD1 ∧ Blk wD1 (w6.heap.size) 28 [.string ⟨h.name.toArray⟩, .int .i64 h.stage.x, .int .i64 h.stage.y, .slice q n cap] := by
    obtain ⟨v1, e1⟩ : ∃ wq, w6.alloc (.cells #[.string ⟨h.name.toArray⟩, .int .i64 h.stage.x, .int .i64 h.stage.y, .slice q n cap] 28) = wq := ⟨_, rfl⟩
    have s1 : v1.heap.size = w6.heap.size + 1 := by rw [← e1, World.size_alloc]
    have b1 : Since w6 v1 := by rw [← e1]; exact (Since.refl w6).alloc _
    have k1_1 : Blk v1 (w6.heap.size) 28 [.string ⟨h.name.toArray⟩, .int .i64 h.stage.x, .int .i64 h.stage.y, .slice q n cap] := by rw [← e1]; exact Blk.new _ _ _
    rw [e1]
    exact ⟨_, rfl, s1, b1, k1_1⟩
  rw [hwD1]
  have HSD := Lib.hid swD1
  clear hwD1 swD1 ca0 ca1 ca2 ca3
  obtain ⟨i0, hi0, hz0, hz1, hz2⟩ := info_of level_info
  have hbD : Below w3.heap.size w3 wD1 := HB6.out.trans (bwD1.mono HB6.out.size)
  have hH : w.heap.size ≤ wD1.heap.size := (KS.out _ hbD).2.2.2.2.1.size
  have m0 := made_nil levelL wD1 hH 51
  have k6 : Below w3.heap.size w3 (wD1.alloc (.cells #[] 51)) := hbD.alloc hbD.size _
  have ca3 := (KS.out _ k6).1.cell (i := 3) rfl
  have lv : Src levelL (wD1.alloc (.cells #[] 51)) w.heap.size (.slice q n cap) h.levels := (KS.out _ k6).2.2.2.1.src (Nat.le_refl _)
  have hB0 : w.heap.size ≤ (wD1.alloc (.cells #[] 51)).heap.size := by simp; omega
  have hl0 : ([] : List LevelZ).length + h.levels.length ≤ 1000000 := by have := HNL.out; simp; omega
  go_wp2_with (at_builtin; refine wpList_appends_lk (t := 26) Try.underlying26 hi0 hz0 hz1 hz2 rfl (by decide) (by decide) rfl _ _ rfl _ _ [] h.levels rfl rfl m0 lv hl0 hB0 ?_)
  intro v1 X1 m1 gr1 gro1
  replace m1 : Made levelL X1 w.heap.size 51 v1 h.levels := m1
  have kb : Below wD1.heap.size wD1 X1 := Below.grew ((Below.refl _ wD1).alloc (Nat.le_refl _) (.cells #[] 51)) gr1 (fun k hk => by cases hk; exact Nat.le_refl _) (by simp)
  have hv1 := own_beyond (H := wD1.heap.size) gro1 (fun k hk => by cases hk; exact Nat.le_refl _) (by simp)
  obtain ⟨g1, cp1, rfl, hgD, hgX, hgc⟩ := made_form m1 HNL.out (by omega) hv1
  have d2 : Blk X1 _ _ _ := (kb.block _ kd.lt).trans kd
  have g3 := d2.cell (i := 3) rfl
  have f3 := d2.free 3
  obtain ⟨D1, hD1⟩ : ∃ D, w6.heap.size = D := ⟨_, rfl⟩
  rw [hD1] at d2 g3 f3 ⊢
  have kb3 := hbD.trans (kb.mono hbD.size)
  have ksi : Below w6.heap.size w6 X1 := bwD1.call kb
  have KSI := Lib.hid ksi
  have HDI : Hid (w6.heap.size = D1) := Lib.hid hD1
  clear ksi
  clear hi0 hz0 hz1 hz2 m0 k6 lv hB0 hl0 ca3 gro1 gr1 hH
  have KB3 := Lib.hid kb3; have MZ := Lib.hid m1; have DZ := Lib.hid d2; have HGC := Lib.hid hgc
  have HDS : Hid (w3.heap.size ≤ D1 ∧ D1 < g1 ∧ g1 < X1.heap.size) := Lib.hid ⟨by have := HB6.out.size; omega, by have := HSD.out; omega, hgX⟩
  clear kb3 m1 d2 hgc hgD hgX kd bwD1 HSD hbD kb hv1 hD1
  go_upto_region 10 with fail
  obtain ⟨h1, h2, h3⟩ := HDS.out
  have d4 : Blk (X1.setCell ⟨D1, 3, none⟩ (.slice (some ⟨g1, 0, none⟩) n cp1)) D1 28 [.string ⟨h.name.toArray⟩, .int .i64 h.stage.x, .int .i64 h.stage.y, .slice (some ⟨g1, 0, none⟩) n cp1] := DZ.out.set 3 _
  have hB9 : w.heap.size ≤ D1 := by have := (KS.out _ (Below.refl _ _)).2.2.2.2.2; omega
  have m4 := MZ.out.other (d := D1) (i := 3) hB9 (fun e => by have e : some g1 = some D1 := e; have e := Option.some.inj e; omega) (.slice (some ⟨g1, 0, none⟩) n cp1)
  have hb4 := KB3.out.setCell (p := ⟨D1, 3, none⟩) h1 (.slice (some ⟨g1, 0, none⟩) n cp1)
  have hc4 : ∀ i k, i < n → k < 8 → ∃ u, (X1.setCell ⟨D1, 3, none⟩ (.slice (some ⟨g1, 0, none⟩) n cp1)).cell? ⟨g1, i * 8 + k, none⟩ = some u ∧ (X1.setCell ⟨D1, 3, none⟩ (.slice (some ⟨g1, 0, none⟩) n cp1)).frozen? ⟨g1, i * 8 + k, none⟩ = false := fun i k hi hk => let ⟨u, e1, e2⟩ := HGC.out i k hi hk; ⟨u, (cell_same (Below.heap_setCell _ _ _ _ (show g1 ≠ D1 by omega))).trans e1, (frozen_same (Below.heap_setCell _ _ _ _ (show g1 ≠ D1 by omega))).trans e2⟩
  have hsi := KSI.out.setCell (p := ⟨D1, 3, none⟩) (by have := HDI.out; show _ ≤ D1; omega) (.slice (some ⟨g1, 0, none⟩) n cp1)
  clear KSI
  have hsz : (X1.setCell ⟨D1, 3, none⟩ (.slice (some ⟨g1, 0, none⟩) n cp1)).heap.size = X1.heap.size := by simp [World.setCell]
  clear g3 f3 MZ DZ KB3 HGC HDS
  obtain ⟨w7, hwo⟩ : ∃ x, X1.setCell ⟨D1, 3, none⟩ (.slice (some ⟨g1, 0, none⟩) n cp1) = x := ⟨_, rfl⟩
  rw [hwo] at d4 m4 hb4 hc4 hsz hsi ⊢
  have KD1 := Lib.hid d4; have M1 := Lib.hid m4; have HB7 := Lib.hid hb4; have HC1 := Lib.hid hc4; have HG1 : Hid (w3.heap.size ≤ D1 ∧ D1 < g1 ∧ g1 < w7.heap.size ∧ w.heap.size ≤ g1) := Lib.hid ⟨h1, h2, by omega, by omega⟩
  have HSI1 := Lib.hid hsi
  clear hsi
  have HD1I := HDI
  clear HDI
  clear d4 m4 hb4 hc4 hsz hwo h1 h2 h3 hB9
  obtain ⟨hd1, hd2, hd3, hd4⟩ := HG1.out
  obtain ⟨r1, r2, r3, r4, r5, r6⟩ := KS.out _ HB7.out
  obtain ⟨lb, lo, c, rfl, hlb, hc, hcell⟩ := r4.at hxl
  obtain ⟨v1, v2, v3, v4, v5, rfl, hm0⟩ := hc
  obtain ⟨p4, m4, rfl⟩ := hm0.pillars.slice
  obtain ⟨n4, hn4⟩ : ∃ n, xl.pillars.length = n := ⟨_, rfl⟩
  rw [hn4] at hm0 hcell hx100
  have HXC : Hid (∀ w', Below w7.heap.size w7 w' → w'.cell? ⟨lb, lo + i * 8 + 5, none⟩ = some (.slice p4 n4 m4) ∧ w'.cell? ⟨lb, lo + i * 8 + 1, none⟩ = some (.int .i64 xl.height) ∧ Lk boxL w' w.heap.size (.slice p4 n4 m4) xl.pillars) := Lib.hid fun w' hb => ⟨(hb.cell (p := ⟨lb, lo + i * 8 + 5, none⟩) (show lb < w7.heap.size by omega)).trans (hcell 5 _ rfl), (hb.cell (p := ⟨lb, lo + i * 8 + 1, none⟩) (show lb < w7.heap.size by omega)).trans (hcell 1 _ rfl), hm0.pillars.kept (fun k hk => hb.block k (by omega))⟩
  have hki : (0 : Int) ≤ i ∧ (i : Int) < n := by omega
  have HLB : Hid (lb < w.heap.size) := Lib.hid hlb
  clear r1 r2 r3 r4 r5 r6 hm0 hcell hlb
  go_upto_region 10 with fail
  go_cut [52] from 52 (fun v wx => v = .pointer (some ⟨D1, 3, none⟩) ∧ Hid (Kp (fun k => k = g1) w7 wx) ∧ Hid (Lk levelL wx wx.heap.size (.slice (some ⟨g1, 0, none⟩) n cp1) (h.levels.set i (plus xl X))))
  case first =>
    rename_i J KM hRJ hMK
    refine wp_region_any (by kernel_rfl) ?_
    refine Foyer.Round.any_of_held (S := fun W => Below w7.heap.size w7 W) (N := [16]) _ _ _ _ ?_
    have hS0 : Below w7.heap.size w7 w7.drew := (Below.refl _ _).drew
    change Foyer.Round.held _ _ _ _ _ _ _ _ _ w7.drew
    generalize w7.drew = wd at *
    have HK7 : Hid (∀ w', Below w7.heap.size w7 w' → (Blk w' D1 28 [.string ⟨h.name.toArray⟩, .int .i64 h.stage.x, .int .i64 h.stage.y, .slice (some ⟨g1, 0, none⟩) n cp1] ∧ Blk w' w.heap.size 28 [.string ⟨h.name.toArray⟩, .int .i64 h.stage.x, .int .i64 h.stage.y, .slice (some ⟨lb, lo, none⟩) n cap] ∧ Blk w' (w.heap.size + 1 + 1) 25 [.int .i64 X.x, .int .i64 X.y, .int .i64 X.x2, .int .i64 X.y2])) := Lib.hid fun w' hb => by
      have hb3 := HB7.out.trans (hb.mono HB7.out.size)
      exact ⟨(hb.block _ KD1.out.lt).trans KD1.out, (KS.out _ hb3).1, (KS.out _ hb3).2.2.1⟩
    refine Foyer.Round.held_take [14, 15, 16] (i := 0) (v := .pointer (some ⟨D1, 3, none⟩)) rfl (by kernel_rfl) (fun _ _ _ h => h) (Or.inl ⟨by rfl, fun w' hS => by go_simp⟩) hS0 ?_
    try simp only [Act.put, List.setIfInBounds_toArray, List.set_cons_zero, List.set_cons_succ]
    refine Foyer.Round.held_take [14, 15, 16] (i := 1) (v := .slice (some ⟨g1, 0, none⟩) n cp1) rfl (by kernel_rfl) (fun _ _ _ h => h) (Or.inl ⟨by rfl, fun w' hS => by have := (HK7.out w' hS).1.cell (i := 3) rfl; go_simp⟩) hS0 ?_
    try simp only [Act.put, List.setIfInBounds_toArray, List.set_cons_zero, List.set_cons_succ]
    refine Foyer.Round.held_take [14, 15, 16] (i := 2) (v := .int .i64 i) rfl (by kernel_rfl) (fun _ _ _ h => h) (Or.inl ⟨by rfl, fun w' hS => by go_simp⟩) hS0 ?_
    try simp only [Act.put, List.setIfInBounds_toArray, List.set_cons_zero, List.set_cons_succ]
    refine Foyer.Round.held_take [14, 15, 16] (i := 4) (v := .pointer (some ⟨w.heap.size, 3, none⟩)) rfl (by kernel_rfl) (fun _ _ _ h => h) (Or.inl ⟨by rfl, fun w' hS => by go_simp⟩) hS0 ?_
    try simp only [Act.put, List.setIfInBounds_toArray, List.set_cons_zero, List.set_cons_succ]
    refine Foyer.Round.held_take [14, 15, 16] (i := 5) (v := .slice (some ⟨lb, lo, none⟩) n cap) rfl (by kernel_rfl) (fun _ _ _ h => h) (Or.inl ⟨by rfl, fun w' hS => by have := (HK7.out w' hS).2.1.cell (i := 3) rfl; go_simp⟩) hS0 ?_
    try simp only [Act.put, List.setIfInBounds_toArray, List.set_cons_zero, List.set_cons_succ]
    refine Foyer.Round.held_take [14, 15, 16] (i := 6) (v := .int .i64 i) rfl (by kernel_rfl) (fun _ _ _ h => h) (Or.inl ⟨by rfl, fun w' hS => by go_simp⟩) hS0 ?_
    try simp only [Act.put, List.setIfInBounds_toArray, List.set_cons_zero, List.set_cons_succ]
    refine Foyer.Round.held_take [14, 15, 16] (i := 7) (v := .pointer (some ⟨lb, lo + i * 8, none⟩)) rfl (by kernel_rfl) (fun _ _ _ h => h) (Or.inl ⟨by rfl, fun w' hS => by go_simp⟩) hS0 ?_
    try simp only [Act.put, List.setIfInBounds_toArray, List.set_cons_zero, List.set_cons_succ]
    refine Foyer.Round.held_take [14, 15, 16] (i := 8) (v := .pointer (some ⟨lb, lo + i * 8 + 5, none⟩)) rfl (by kernel_rfl) (fun _ _ _ h => h) (Or.inl ⟨by rfl, fun w' hS => by go_simp⟩) hS0 ?_
    try simp only [Act.put, List.setIfInBounds_toArray, List.set_cons_zero, List.set_cons_succ]
    refine Foyer.Round.held_take [14, 15, 16] (i := 9) (v := .slice p4 n4 m4) rfl (by kernel_rfl) (fun _ _ _ h => h) (Or.inl ⟨by rfl, fun w' hS => by have := (HXC.out w' hS).1; go_simp⟩) hS0 ?_
    try simp only [Act.put, List.setIfInBounds_toArray, List.set_cons_zero, List.set_cons_succ]
    refine Foyer.Round.held_take [14, 15, 16] (i := 11) (v := .agg #[.int .i64 X.x, .int .i64 X.y, .int .i64 X.x2, .int .i64 X.y2]) rfl (by kernel_rfl) (fun _ _ _ h => h) (Or.inl ⟨by rfl, fun w' hS => by have b0 := (HK7.out w' hS).2.2.cell (i := 0) rfl; have b1 := (HK7.out w' hS).2.2.cell (i := 1) rfl; have b2 := (HK7.out w' hS).2.2.cell (i := 2) rfl; have b3 := (HK7.out w' hS).2.2.cell (i := 3) rfl; go_simp⟩) hS0 ?_
    try simp only [Act.put, List.setIfInBounds_toArray, List.set_cons_zero, List.set_cons_succ]
    obtain ⟨i0, hi0, hz0, hz1, hz2⟩ := info_of box_info
    have hBw : w.heap.size ≤ w7.heap.size := (KS.out _ HB7.out).2.2.2.2.1.size
    refine held_two (i := 3) (j := 12) rfl rfl (by kernel_rfl) (fun K hK => ?_) (fun K hK => ?_)
    · go_simp
      have hS1 : Below w7.heap.size w7 (wd.alloc (.cells #[] 25)) := hS0.alloc hS0.size _
      refine hK.out _ _ (fun _ => hS1) ?_
      clear hK K
      try simp only [Act.put, List.setIfInBounds_toArray, List.set_cons_zero, List.set_cons_succ]
      have hE := made_nil boxL wd (Nat.le_trans hBw hS0.size) 25
      have hstep : Below wd.heap.size wd (wd.alloc (.cells #[] 25)) := (Below.refl _ _).alloc (Nat.le_refl _) _
      obtain ⟨be, hbz⟩ : ∃ x, wd.heap.size = x := ⟨_, rfl⟩
      have hbe7 : w7.heap.size ≤ be := by have := hS0.size; omega
      rw [hbz] at hE ⊢
      obtain ⟨y1, hy⟩ : ∃ x, wd.alloc (.cells #[] 25) = x := ⟨_, rfl⟩
      rw [hy] at hS1 hE
      try rw [hy]
      clear hy hstep hbz
      refine held_two (i := 10) (j := 12) rfl rfl (by kernel_rfl) (fun K hK => ?_) (fun K hK => ?_)
      · rw [if_pos (by kernel_rfl)]
        have hl1 : ([] : List BoxZ).length + xl.pillars.length ≤ 1000000 := by simp; omega
        refine oper_appends_lk (K := boxL) (t := 46) Try.underlying46 hi0 hz0 hz1 hz2 rfl (by decide) (by decide) (.tmp 55) (.tmp 61) rfl (.slice (some ⟨be, 0, none⟩) 0 0) (.slice p4 n4 m4) [] xl.pillars rfl rfl hE ((HXC.out _ hS1).2.2.src (Nat.le_refl _)) hl1 (Nat.le_trans hBw hS1.size) ?_
        intro va y2 hA gr1 ow1
        replace hA : Made boxL y2 w.heap.size 25 va xl.pillars := hA
        have hS2 : Below w7.heap.size w7 y2 := Below.grew hS1 gr1 (fun k hk => by have e : some be = some k := hk; cases e; exact hbe7) hS1.size
        have hva := own_beyond (H := w7.heap.size) ow1 (fun k hk => by have e : some be = some k := hk; cases e; exact hbe7) hS1.size
        refine hK.out _ _ (fun _ => hS2) ?_
        clear hK K hE hl1 gr1 ow1
        try simp only [Act.put, List.setIfInBounds_toArray, List.set_cons_zero, List.set_cons_succ]
        refine Foyer.Round.held_one (i := 12) rfl (by kernel_rfl) (fun K hK => ?_)
        go_simp
        have hS3 : Below w7.heap.size w7 (y2.alloc (.cells #[.int .i64 X.x, .int .i64 X.y, .int .i64 X.x2, .int .i64 X.y2] 25)) := hS2.alloc hS2.size _
        refine hK.out _ _ (fun _ => hS3) ?_
        clear hK K
        try simp only [Act.put, List.setIfInBounds_toArray, List.set_cons_zero, List.set_cons_succ]
        have hX := Blk.new y2 25 [.int .i64 X.x, .int .i64 X.y, .int .i64 X.x2, .int .i64 X.y2]
        have hstep : Below y2.heap.size y2 (y2.alloc (.cells #[.int .i64 X.x, .int .i64 X.y, .int .i64 X.x2, .int .i64 X.y2] 25)) := (Below.refl _ _).alloc (Nat.le_refl _) _
        replace hA := hA.since hstep (Nat.le_trans hBw hS2.size)
        obtain ⟨bq, hbz⟩ : ∃ x, y2.heap.size = x := ⟨_, rfl⟩
        rw [hbz] at hX ⊢
        obtain ⟨y3, hy⟩ : ∃ x, y2.alloc (.cells #[.int .i64 X.x, .int .i64 X.y, .int .i64 X.x2, .int .i64 X.y2] 25) = x := ⟨_, rfl⟩
        rw [hy] at hS3 hX hA
        try rw [hy]
        clear hy hstep hbz
        refine Foyer.Round.held_one (i := 13) rfl (by kernel_rfl) (fun K hK => ?_)
        rw [if_pos (by kernel_rfl)]
        have hl1 : xl.pillars.length + [X].length ≤ 1000000 := by simp; omega
        refine oper_appends_lk (K := boxL) (t := 46) Try.underlying46 hi0 hz0 hz1 hz2 rfl (by decide) (by decide) (.tmp 62) (.tmp 64) rfl va (.slice (some ⟨bq, 0, none⟩) 1 1) xl.pillars [X] rfl rfl hA (src_blk (x := X) hX) hl1 (Nat.le_trans hBw hS3.size) ?_
        intro vb y4 hF gr2 ow2
        have hS4 : Below w7.heap.size w7 y4 := Below.grew hS3 gr2 hva hS3.size
        have hvb := own_beyond (H := w7.heap.size) ow2 hva hS3.size
        refine hK.out _ _ (fun _ => hS4) ?_
        clear hK K hA hX hl1 gr2 ow2 hva
        try simp only [Act.put, List.setIfInBounds_toArray, List.set_cons_zero, List.set_cons_succ]
        obtain ⟨pf, cf, evb⟩ := hF.lk.slice
        obtain ⟨nf, hnf⟩ : ∃ m, (xl.pillars ++ [X]).length = m := ⟨_, rfl⟩
        rw [hnf] at evb
        subst evb
        have HNF := Lib.hid hnf
        clear hnf
        obtain ⟨uo, hu1, hu2⟩ := HC1.out i 5 hin (by omega)
        have hu3 := (hS4.cell (p := ⟨g1, i * 8 + 5, none⟩) hd3).trans hu1
        have hu4 : y4.frozen? ⟨g1, i * 8 + 5, none⟩ = false := (frozen_same (hS4.block g1 hd3)).trans hu2
        refine Foyer.Round.held_one (i := 14) rfl (by kernel_rfl) (fun K hK => ?_)
        go_simp
        refine hK.out _ _ (fun _ => hS4) ?_
        clear hK K
        try simp only [Act.put, List.setIfInBounds_toArray, List.set_cons_zero, List.set_cons_succ]
        refine Foyer.Round.held_one (i := 15) rfl (by kernel_rfl) (fun K hK => ?_)
        go_simp
        refine hK.out _ _ (fun _ => hS4) ?_
        clear hK K
        try simp only [Act.put, List.setIfInBounds_toArray, List.set_cons_zero, List.set_cons_succ]
        refine Foyer.Round.held_one (i := 16) rfl (by kernel_rfl) (fun K hK => ?_)
        go_simp
        refine hK.out _ _ (fun hh => absurd (by simp) hh) ?_
        clear hK K
        try simp only [Act.put, List.setIfInBounds_toArray, List.set_cons_zero, List.set_cons_succ]
        refine Foyer.Round.held_done (by kernel_rfl) ?_ _
        refine hMK _ _ (Met.intro (hRJ _ _ ?_))
        (repeat apply Exists.intro)
        refine ⟨?relo1, rfl⟩
        have hmm := M1.out.since (show Below w7.heap.size w7 y4 from hS4) hBw
        have hsz := hS4.size
        have hsc : (y4.setCell ⟨g1, i * 8 + 5, none⟩ (.slice pf nf cf)).heap.size = y4.heap.size := by simp [World.setCell]
        refine ⟨rfl, Lib.hid ((Kp.of_below (E := fun k => k = g1) hS4).setCell (p := ⟨g1, i * 8 + 5, none⟩) (Or.inl rfl) _), Lib.hid ?_⟩
        refine made_set hmm (by omega) (by omega) (by omega) hxl (by omega) (fun c hc => ?_)
        obtain ⟨z1, z2, z3, z4, z5, rfl, hz⟩ := hc
        have hkeep : ∀ k, k < w.heap.size → (y4.setCell ⟨g1, i * 8 + 5, none⟩ (.slice pf nf cf)).heap[k]? = y4.heap[k]? := fun k hk => Below.heap_setCell _ _ _ _ (show k ≠ g1 by omega)
        have hz7 := hz.kept hkeep
        have hbig : w.heap.size ≤ (y4.setCell ⟨g1, i * 8 + 5, none⟩ (.slice pf nf cf)).heap.size := by omega
        have hF2 := hF.other (d := g1) (i := i * 8 + 5) (by omega) (fun e => by have := hvb g1 e; omega) (.slice pf nf cf)
        exact ⟨z1, z2, z3, _, z5, rfl, ⟨hz7.blocks.mono hbig, hz7.areas.mono hbig, hz7.aisles.mono hbig, hF2.lk, hz7.doors.mono hbig⟩⟩
      · go_simp
        have hS2 : Below w7.heap.size w7 (y1.alloc (.cells #[.int .i64 X.x, .int .i64 X.y, .int .i64 X.x2, .int .i64 X.y2] 25)) := hS1.alloc hS1.size _
        refine hK.out _ _ (fun _ => hS2) ?_
        clear hK K
        try simp only [Act.put, List.setIfInBounds_toArray, List.set_cons_zero, List.set_cons_succ]
        have hX := Blk.new y1 25 [.int .i64 X.x, .int .i64 X.y, .int .i64 X.x2, .int .i64 X.y2]
        have hstep : Below y1.heap.size y1 (y1.alloc (.cells #[.int .i64 X.x, .int .i64 X.y, .int .i64 X.x2, .int .i64 X.y2] 25)) := (Below.refl _ _).alloc (Nat.le_refl _) _
        have hlt := (hE.lt (k := be) rfl).2
        replace hE := hE.since hstep (Nat.le_trans hBw hS1.size)
        obtain ⟨bq, hbz⟩ : ∃ x, y1.heap.size = x := ⟨_, rfl⟩
        have hne : bq ≠ be := by omega
        rw [hbz] at hX ⊢
        obtain ⟨y2, hy⟩ : ∃ x, y1.alloc (.cells #[.int .i64 X.x, .int .i64 X.y, .int .i64 X.x2, .int .i64 X.y2] 25) = x := ⟨_, rfl⟩
        rw [hy] at hS2 hE hX
        try rw [hy]
        clear hy hstep hbz
        refine Foyer.Round.held_one (i := 10) rfl (by kernel_rfl) (fun K hK => ?_)
        rw [if_pos (by kernel_rfl)]
        have hl1 : ([] : List BoxZ).length + xl.pillars.length ≤ 1000000 := by simp; omega
        refine oper_appends_lk (K := boxL) (t := 46) Try.underlying46 hi0 hz0 hz1 hz2 rfl (by decide) (by decide) (.tmp 55) (.tmp 61) rfl (.slice (some ⟨be, 0, none⟩) 0 0) (.slice p4 n4 m4) [] xl.pillars rfl rfl hE ((HXC.out _ hS2).2.2.src (Nat.le_refl _)) hl1 (Nat.le_trans hBw hS2.size) ?_
        intro va y3 hA gr1 ow1
        replace hA : Made boxL y3 w.heap.size 25 va xl.pillars := hA
        have hS3 : Below w7.heap.size w7 y3 := Below.grew hS2 gr1 (fun k hk => by have e : some be = some k := hk; cases e; exact hbe7) hS2.size
        have hva := own_beyond (H := w7.heap.size) ow1 (fun k hk => by have e : some be = some k := hk; cases e; exact hbe7) hS2.size
        replace hX : Blk y3 bq _ _ := (gr1.block _ hX.lt (fun e => by have e : some bq = some be := e; exact hne (Option.some.inj e))).trans hX
        refine hK.out _ _ (fun _ => hS3) ?_
        clear hK K hE hl1 gr1 ow1
        try simp only [Act.put, List.setIfInBounds_toArray, List.set_cons_zero, List.set_cons_succ]
        refine Foyer.Round.held_one (i := 13) rfl (by kernel_rfl) (fun K hK => ?_)
        rw [if_pos (by kernel_rfl)]
        have hl1 : xl.pillars.length + [X].length ≤ 1000000 := by simp; omega
        refine oper_appends_lk (K := boxL) (t := 46) Try.underlying46 hi0 hz0 hz1 hz2 rfl (by decide) (by decide) (.tmp 62) (.tmp 64) rfl va (.slice (some ⟨bq, 0, none⟩) 1 1) xl.pillars [X] rfl rfl hA (src_blk (x := X) hX) hl1 (Nat.le_trans hBw hS3.size) ?_
        intro vb y4 hF gr2 ow2
        have hS4 : Below w7.heap.size w7 y4 := Below.grew hS3 gr2 hva hS3.size
        have hvb := own_beyond (H := w7.heap.size) ow2 hva hS3.size
        refine hK.out _ _ (fun _ => hS4) ?_
        clear hK K hA hX hl1 gr2 ow2 hva
        try simp only [Act.put, List.setIfInBounds_toArray, List.set_cons_zero, List.set_cons_succ]
        obtain ⟨pf, cf, evb⟩ := hF.lk.slice
        obtain ⟨nf, hnf⟩ : ∃ m, (xl.pillars ++ [X]).length = m := ⟨_, rfl⟩
        rw [hnf] at evb
        subst evb
        have HNF := Lib.hid hnf
        clear hnf
        obtain ⟨uo, hu1, hu2⟩ := HC1.out i 5 hin (by omega)
        have hu3 := (hS4.cell (p := ⟨g1, i * 8 + 5, none⟩) hd3).trans hu1
        have hu4 : y4.frozen? ⟨g1, i * 8 + 5, none⟩ = false := (frozen_same (hS4.block g1 hd3)).trans hu2
        refine Foyer.Round.held_one (i := 14) rfl (by kernel_rfl) (fun K hK => ?_)
        go_simp
        refine hK.out _ _ (fun _ => hS4) ?_
        clear hK K
        try simp only [Act.put, List.setIfInBounds_toArray, List.set_cons_zero, List.set_cons_succ]
        refine Foyer.Round.held_one (i := 15) rfl (by kernel_rfl) (fun K hK => ?_)
        go_simp
        refine hK.out _ _ (fun _ => hS4) ?_
        clear hK K
        try simp only [Act.put, List.setIfInBounds_toArray, List.set_cons_zero, List.set_cons_succ]
        refine Foyer.Round.held_one (i := 16) rfl (by kernel_rfl) (fun K hK => ?_)
        go_simp
        refine hK.out _ _ (fun hh => absurd (by simp) hh) ?_
        clear hK K
        try simp only [Act.put, List.setIfInBounds_toArray, List.set_cons_zero, List.set_cons_succ]
        refine Foyer.Round.held_done (by kernel_rfl) ?_ _
        refine hMK _ _ (Met.intro (hRJ _ _ ?_))
        (repeat apply Exists.intro)
        refine ⟨?relo2, rfl⟩
        have hmm := M1.out.since (show Below w7.heap.size w7 y4 from hS4) hBw
        have hsz := hS4.size
        have hsc : (y4.setCell ⟨g1, i * 8 + 5, none⟩ (.slice pf nf cf)).heap.size = y4.heap.size := by simp [World.setCell]
        refine ⟨rfl, Lib.hid ((Kp.of_below (E := fun k => k = g1) hS4).setCell (p := ⟨g1, i * 8 + 5, none⟩) (Or.inl rfl) _), Lib.hid ?_⟩
        refine made_set hmm (by omega) (by omega) (by omega) hxl (by omega) (fun c hc => ?_)
        obtain ⟨z1, z2, z3, z4, z5, rfl, hz⟩ := hc
        have hkeep : ∀ k, k < w.heap.size → (y4.setCell ⟨g1, i * 8 + 5, none⟩ (.slice pf nf cf)).heap[k]? = y4.heap[k]? := fun k hk => Below.heap_setCell _ _ _ _ (show k ≠ g1 by omega)
        have hz7 := hz.kept hkeep
        have hbig : w.heap.size ≤ (y4.setCell ⟨g1, i * 8 + 5, none⟩ (.slice pf nf cf)).heap.size := by omega
        have hF2 := hF.other (d := g1) (i := i * 8 + 5) (by omega) (fun e => by have := hvb g1 e; omega) (.slice pf nf cf)
        exact ⟨z1, z2, z3, _, z5, rfl, ⟨hz7.blocks.mono hbig, hz7.areas.mono hbig, hz7.aisles.mono hbig, hF2.lk, hz7.doors.mono hbig⟩⟩
    · go_simp
      have hS1 : Below w7.heap.size w7 (wd.alloc (.cells #[.int .i64 X.x, .int .i64 X.y, .int .i64 X.x2, .int .i64 X.y2] 25)) := hS0.alloc hS0.size _
      refine hK.out _ _ (fun _ => hS1) ?_
      clear hK K
      try simp only [Act.put, List.setIfInBounds_toArray, List.set_cons_zero, List.set_cons_succ]
      have hX := Blk.new wd 25 [.int .i64 X.x, .int .i64 X.y, .int .i64 X.x2, .int .i64 X.y2]
      have hstep : Below wd.heap.size wd (wd.alloc (.cells #[.int .i64 X.x, .int .i64 X.y, .int .i64 X.x2, .int .i64 X.y2] 25)) := (Below.refl _ _).alloc (Nat.le_refl _) _
      obtain ⟨bq, hbz⟩ : ∃ x, wd.heap.size = x := ⟨_, rfl⟩
      rw [hbz] at hX ⊢
      obtain ⟨y1, hy⟩ : ∃ x, wd.alloc (.cells #[.int .i64 X.x, .int .i64 X.y, .int .i64 X.x2, .int .i64 X.y2] 25) = x := ⟨_, rfl⟩
      rw [hy] at hS1 hX
      try rw [hy]
      clear hy hstep hbz
      refine Foyer.Round.held_one (i := 3) rfl (by kernel_rfl) (fun K hK => ?_)
      go_simp
      have hS2 : Below w7.heap.size w7 (y1.alloc (.cells #[] 25)) := hS1.alloc hS1.size _
      refine hK.out _ _ (fun _ => hS2) ?_
      clear hK K
      try simp only [Act.put, List.setIfInBounds_toArray, List.set_cons_zero, List.set_cons_succ]
      have hE := made_nil boxL y1 (Nat.le_trans hBw hS1.size) 25
      have hstep : Below y1.heap.size y1 (y1.alloc (.cells #[] 25)) := (Below.refl _ _).alloc (Nat.le_refl _) _
      have hlt := hX.lt
      replace hX : Blk _ _ _ _ := (hstep.block _ hX.lt).trans hX
      obtain ⟨be, hbz⟩ : ∃ x, y1.heap.size = x := ⟨_, rfl⟩
      have hbe7 : w7.heap.size ≤ be := by have := hS1.size; omega
      have hne : bq ≠ be := by omega
      rw [hbz] at hE ⊢
      obtain ⟨y2, hy⟩ : ∃ x, y1.alloc (.cells #[] 25) = x := ⟨_, rfl⟩
      rw [hy] at hS2 hE hX
      try rw [hy]
      clear hy hstep hbz
      refine Foyer.Round.held_one (i := 10) rfl (by kernel_rfl) (fun K hK => ?_)
      rw [if_pos (by kernel_rfl)]
      have hl1 : ([] : List BoxZ).length + xl.pillars.length ≤ 1000000 := by simp; omega
      refine oper_appends_lk (K := boxL) (t := 46) Try.underlying46 hi0 hz0 hz1 hz2 rfl (by decide) (by decide) (.tmp 55) (.tmp 61) rfl (.slice (some ⟨be, 0, none⟩) 0 0) (.slice p4 n4 m4) [] xl.pillars rfl rfl hE ((HXC.out _ hS2).2.2.src (Nat.le_refl _)) hl1 (Nat.le_trans hBw hS2.size) ?_
      intro va y3 hA gr1 ow1
      replace hA : Made boxL y3 w.heap.size 25 va xl.pillars := hA
      have hS3 : Below w7.heap.size w7 y3 := Below.grew hS2 gr1 (fun k hk => by have e : some be = some k := hk; cases e; exact hbe7) hS2.size
      have hva := own_beyond (H := w7.heap.size) ow1 (fun k hk => by have e : some be = some k := hk; cases e; exact hbe7) hS2.size
      replace hX : Blk y3 bq _ _ := (gr1.block _ hX.lt (fun e => by have e : some bq = some be := e; exact hne (Option.some.inj e))).trans hX
      refine hK.out _ _ (fun _ => hS3) ?_
      clear hK K hE hl1 gr1 ow1
      try simp only [Act.put, List.setIfInBounds_toArray, List.set_cons_zero, List.set_cons_succ]
      refine Foyer.Round.held_one (i := 13) rfl (by kernel_rfl) (fun K hK => ?_)
      rw [if_pos (by kernel_rfl)]
      have hl1 : xl.pillars.length + [X].length ≤ 1000000 := by simp; omega
      refine oper_appends_lk (K := boxL) (t := 46) Try.underlying46 hi0 hz0 hz1 hz2 rfl (by decide) (by decide) (.tmp 62) (.tmp 64) rfl va (.slice (some ⟨bq, 0, none⟩) 1 1) xl.pillars [X] rfl rfl hA (src_blk (x := X) hX) hl1 (Nat.le_trans hBw hS3.size) ?_
      intro vb y4 hF gr2 ow2
      have hS4 : Below w7.heap.size w7 y4 := Below.grew hS3 gr2 hva hS3.size
      have hvb := own_beyond (H := w7.heap.size) ow2 hva hS3.size
      refine hK.out _ _ (fun _ => hS4) ?_
      clear hK K hA hX hl1 gr2 ow2 hva
      try simp only [Act.put, List.setIfInBounds_toArray, List.set_cons_zero, List.set_cons_succ]
      obtain ⟨pf, cf, evb⟩ := hF.lk.slice
      obtain ⟨nf, hnf⟩ : ∃ m, (xl.pillars ++ [X]).length = m := ⟨_, rfl⟩
      rw [hnf] at evb
      subst evb
      have HNF := Lib.hid hnf
      clear hnf
      obtain ⟨uo, hu1, hu2⟩ := HC1.out i 5 hin (by omega)
      have hu3 := (hS4.cell (p := ⟨g1, i * 8 + 5, none⟩) hd3).trans hu1
      have hu4 : y4.frozen? ⟨g1, i * 8 + 5, none⟩ = false := (frozen_same (hS4.block g1 hd3)).trans hu2
      refine Foyer.Round.held_one (i := 14) rfl (by kernel_rfl) (fun K hK => ?_)
      go_simp
      refine hK.out _ _ (fun _ => hS4) ?_
      clear hK K
      try simp only [Act.put, List.setIfInBounds_toArray, List.set_cons_zero, List.set_cons_succ]
      refine Foyer.Round.held_one (i := 15) rfl (by kernel_rfl) (fun K hK => ?_)
      go_simp
      refine hK.out _ _ (fun _ => hS4) ?_
      clear hK K
      try simp only [Act.put, List.setIfInBounds_toArray, List.set_cons_zero, List.set_cons_succ]
      refine Foyer.Round.held_one (i := 16) rfl (by kernel_rfl) (fun K hK => ?_)
      go_simp
      refine hK.out _ _ (fun hh => absurd (by simp) hh) ?_
      clear hK K
      try simp only [Act.put, List.setIfInBounds_toArray, List.set_cons_zero, List.set_cons_succ]
      refine Foyer.Round.held_done (by kernel_rfl) ?_ _
      refine hMK _ _ (Met.intro (hRJ _ _ ?_))
      (repeat apply Exists.intro)
      refine ⟨?relo3, rfl⟩
      have hmm := M1.out.since (show Below w7.heap.size w7 y4 from hS4) hBw
      have hsz := hS4.size
      have hsc : (y4.setCell ⟨g1, i * 8 + 5, none⟩ (.slice pf nf cf)).heap.size = y4.heap.size := by simp [World.setCell]
      refine ⟨rfl, Lib.hid ((Kp.of_below (E := fun k => k = g1) hS4).setCell (p := ⟨g1, i * 8 + 5, none⟩) (Or.inl rfl) _), Lib.hid ?_⟩
      refine made_set hmm (by omega) (by omega) (by omega) hxl (by omega) (fun c hc => ?_)
      obtain ⟨z1, z2, z3, z4, z5, rfl, hz⟩ := hc
      have hkeep : ∀ k, k < w.heap.size → (y4.setCell ⟨g1, i * 8 + 5, none⟩ (.slice pf nf cf)).heap[k]? = y4.heap[k]? := fun k hk => Below.heap_setCell _ _ _ _ (show k ≠ g1 by omega)
      have hz7 := hz.kept hkeep
      have hbig : w.heap.size ≤ (y4.setCell ⟨g1, i * 8 + 5, none⟩ (.slice pf nf cf)).heap.size := by omega
      have hF2 := hF.other (d := g1) (i := i * 8 + 5) (by omega) (fun e => by have := hvb g1 e; omega) (.slice pf nf cf)
      exact ⟨z1, z2, z3, _, z5, rfl, ⟨hz7.blocks.mono hbig, hz7.areas.mono hbig, hz7.aisles.mono hbig, hF2.lk, hz7.doors.mono hbig⟩⟩
  case rest =>
  obtain ⟨rfl, HKP, HLW⟩ := hcut
  obtain ⟨w8, hw8⟩ : ∃ x, x = wc := ⟨_, rfl⟩
  subst hw8
  have HB8 : Hid (Below w3.heap.size w3 w8) := Lib.hid (HB7.out.trans (HKP.out.below HB7.out.size (fun k e => by have e : k = g1 := e; omega)))
  have kd1 := KD1.out.kept HKP.out (show ¬ D1 = g1 by omega)
  have hkb : w8.heap[lb]? = w7.heap[lb]? := HKP.out.block lb (by have := HLB.out; omega) (show ¬ lb = g1 by have := HLB.out; omega)
  have hx8 : w8.cell? ⟨lb, lo + i * 8 + 1, none⟩ = some (.int .i64 xl.height) := (cell_same hkb).trans (HXC.out w7 (Below.refl _ _)).2.1
  have HK8 : Hid (∀ w', Below w8.heap.size w8 w' → Blk w' D1 28 [.string ⟨h.name.toArray⟩, .int .i64 h.stage.x, .int .i64 h.stage.y, .slice (some ⟨g1, 0, none⟩) n cp1] ∧ Lk levelL w' w'.heap.size (.slice (some ⟨g1, 0, none⟩) n cp1) (h.levels.set i (plus xl X)) ∧ Below w3.heap.size w3 w' ∧ w'.cell? ⟨lb, lo + i * 8 + 1, none⟩ = some (.int .i64 xl.height)) := Lib.hid fun w' hb =>
    ⟨(hb.block _ kd1.lt).trans kd1, (HLW.out.below hb).mono hb.size, HB8.out.trans (hb.mono HB8.out.size), (hb.cell (p := ⟨lb, lo + i * 8 + 1, none⟩) (lt_of_cell hx8)).trans hx8⟩
  obtain ⟨cr, hcr⟩ : ∃ b, cross p h.stage X = b := ⟨_, rfl⟩
  have hvl : viewL h.stage xl p = V := by rw [← view_at hxl p]; exact HV.out
  have HMORE : Hid (view { h with levels := h.levels.set i (plus xl X) } i p = bump cr V) := Lib.hid (by rw [view_set_same hxl, viewL_plus, hvl, hcr])
  have HOTH : Hid (∀ k : Nat, k ≠ i → view { h with levels := h.levels.set i (plus xl X) } k p = view h k p) := Lib.hid fun k hk => view_set_other hk p
  obtain ⟨nh, hnh⟩ : ∃ z, max xl.height (hh % 10001) = z := ⟨_, rfl⟩
  have hcoh : coord (hh % 10001) := by have := HHH.out; unfold coord; omega
  have HHI : Hid (∀ hn : ¬ xl.height < 0, V ≤ view { h with levels := h.levels.set i (high xl nh) } i p) := Lib.hid fun hn => by
    rw [view_set_same hxl, ← hvl, ← hnh]
    exact viewL_high h.stage xl p _ hcoh hn
  have HNH := Lib.hid hnh; have HCR := Lib.hid hcr
  have HKI := Lib.hid hki; have HHN : Hid (D1 < w8.heap.size) := Lib.hid kd1.lt
  clear hcr hvl hcoh hnh kd1 hkb hx8 HKP HLW KD1 HXC HLB HC1 M1 HSI1 HD1I HB7 HG1 hd1 hd2 hd3 hd4
  have d0 := (HK8.out w8 (Below.refl _ _)).1.cell (i := 0) rfl
  have d1 := (HK8.out w8 (Below.refl _ _)).1.cell (i := 1) rfl
  have d2 := (HK8.out w8 (Below.refl _ _)).1.cell (i := 2) rfl
  have d3 := (HK8.out w8 (Below.refl _ _)).1.cell (i := 3) rfl
  have pq0 := (KS.out w8 HB8.out).2.1.cell (i := 0) rfl
  have pq1 := (KS.out w8 HB8.out).2.1.cell (i := 1) rfl
  go_wp2_with fail
  refine (view_any { h with levels := h.levels.set i (plus xl X) } (some ⟨g1, 0, none⟩) n cp1 i p w8 (HK8.out w8 (Below.refl _ _)).2.1).mono ?_; rintro e w9 ⟨rfl, hb9⟩
  rw [HMORE.out]
  obtain ⟨BV, hBV⟩ : ∃ z, bump cr V = z := ⟨_, rfl⟩
  obtain ⟨b3, hb3⟩ : ∃ b, decide (V < 3) = b := ⟨_, rfl⟩
  have hBV2 : BV = if (b3 && cr) = true then V + 1 else V := by
    rw [← hBV, want_eq, ← hb3]
    simp only [Bool.and_eq_true, decide_eq_true_eq]
  rw [hBV]
  have HBV := Lib.hid hBV2
  have HB9 := Lib.hid hb9
  clear d0 d1 d2 d3 pq0 pq1 hb9 hBV hBV2 HMORE
  have HB9' := Lib.hid (HK8.out w9 HB9.out).2.2.1
  have pq0 := (KS.out w9 HB9'.out).2.1.cell (i := 0) rfl
  have pq1 := (KS.out w9 HB9'.out).2.1.cell (i := 1) rfl
  have cs1 := (KS.out _ HB9'.out).1.cell (i := 1) rfl
  have cs2 := (KS.out _ HB9'.out).1.cell (i := 2) rfl
  have cx0 := (KS.out _ HB9'.out).2.2.1.cell (i := 0) rfl
  have cx1 := (KS.out _ HB9'.out).2.2.1.cell (i := 1) rfl
  have cx2 := (KS.out _ HB9'.out).2.2.1.cell (i := 2) rfl
  have cx3 := (KS.out _ HB9'.out).2.2.1.cell (i := 3) rfl
  go_upto_region 13 with fail
  go_cut [81] from 73 (fun v wx => v = .bool (b3 && cr) ∧ Hid (Below w8.heap.size w8 wx))
  case first =>
    cases b3
    · go_wp2
      go_meet
      exact ⟨rfl, HB9⟩
    · go_wp2_with fail
      refine (crosses_any p h.stage X w9).mono ?_; rintro e wq ⟨rfl, hbq⟩
      rw [HCR.out]
      have HBQ := Lib.hid (HB9.out.trans (hbq.mono HB9.out.size))
      clear hbq
      go_wp2
      go_meet
      exact ⟨rfl, HBQ⟩
  case rest =>
  obtain ⟨rfl, HBC⟩ := hcut
  obtain ⟨w10, hw10⟩ : ∃ x, x = wc := ⟨_, rfl⟩
  subst hw10
  clear pq0 pq1 cs1 cs2 cx0 cx1 cx2 cx3 HB9 HB9' hb3 HCR
  have HB10 := Lib.hid (HK8.out w10 HBC.out).2.2.1
  obtain ⟨tt, htt⟩ : ∃ b, (b3 && cr) = b := ⟨_, rfl⟩
  rw [htt] at HBV ⊢
  clear htt
  have ew : wrap64 (V + 1) = V + 1 := wrap_in (by omega) (by omega)
  have HEW := Lib.hid ew
  clear ew
  cases tt
  · obtain rfl : BV = V := HBV.out
    go_upto_region 15 with fail
    have ca0 := (KS.out w10 HB10.out).1.cell (i := 0) rfl
    have ca1 := (KS.out w10 HB10.out).1.cell (i := 1) rfl
    have ca2 := (KS.out w10 HB10.out).1.cell (i := 2) rfl
    have ca3 := (KS.out w10 HB10.out).1.cell (i := 3) rfl
    go_upto_region 15 with fail
    go_upto_region 16 with fail
    obtain ⟨wD2, hwD2, swD2, bwD2, kd⟩ : ∃ wD2, w10.alloc (.cells #[.string ⟨h.name.toArray⟩, .int .i64 h.stage.x, .int .i64 h.stage.y, .slice (some ⟨lb, lo, none⟩) n cap] 28) = wD2 ∧ wD2.heap.size = w10.heap.size + 1 ∧ Since w10 wD2 ∧ Blk wD2 (w10.heap.size) 28 [.string ⟨h.name.toArray⟩, .int .i64 h.stage.x, .int .i64 h.stage.y, .slice (some ⟨lb, lo, none⟩) n cap] := by
      obtain ⟨v1, e1⟩ : ∃ wq, w10.alloc (.cells #[.string ⟨h.name.toArray⟩, .int .i64 h.stage.x, .int .i64 h.stage.y, .slice (some ⟨lb, lo, none⟩) n cap] 28) = wq := ⟨_, rfl⟩
      have s1 : v1.heap.size = w10.heap.size + 1 := by rw [← e1, World.size_alloc]
      have b1 : Since w10 v1 := by rw [← e1]; exact (Since.refl w10).alloc _
      have k1_1 : Blk v1 (w10.heap.size) 28 [.string ⟨h.name.toArray⟩, .int .i64 h.stage.x, .int .i64 h.stage.y, .slice (some ⟨lb, lo, none⟩) n cap] := by rw [← e1]; exact Blk.new _ _ _
      rw [e1]
      exact ⟨_, rfl, s1, b1, k1_1⟩
    rw [hwD2]
    have HSD := Lib.hid swD2
    clear hwD2 swD2 ca0 ca1 ca2 ca3
    obtain ⟨i0, hi0, hz0, hz1, hz2⟩ := info_of level_info
    have hbD : Below w3.heap.size w3 wD2 := HB10.out.trans (bwD2.mono HB10.out.size)
    have hH : w.heap.size ≤ wD2.heap.size := (KS.out _ hbD).2.2.2.2.1.size
    have m0 := made_nil levelL wD2 hH 51
    have k6 : Below w3.heap.size w3 (wD2.alloc (.cells #[] 51)) := hbD.alloc hbD.size _
    have ca3 := (KS.out _ k6).1.cell (i := 3) rfl
    have lv : Src levelL (wD2.alloc (.cells #[] 51)) w.heap.size (.slice (some ⟨lb, lo, none⟩) n cap) h.levels := (KS.out _ k6).2.2.2.1.src (Nat.le_refl _)
    have hB0 : w.heap.size ≤ (wD2.alloc (.cells #[] 51)).heap.size := by simp; omega
    have hl0 : ([] : List LevelZ).length + h.levels.length ≤ 1000000 := by have := HNL.out; simp; omega
    go_wp2_with (at_builtin; refine wpList_appends_lk (t := 26) Try.underlying26 hi0 hz0 hz1 hz2 rfl (by decide) (by decide) rfl _ _ rfl _ _ [] h.levels rfl rfl m0 lv hl0 hB0 ?_)
    intro v1 X1 m1 gr1 gro1
    replace m1 : Made levelL X1 w.heap.size 51 v1 h.levels := m1
    have kb : Below wD2.heap.size wD2 X1 := Below.grew ((Below.refl _ wD2).alloc (Nat.le_refl _) (.cells #[] 51)) gr1 (fun k hk => by cases hk; exact Nat.le_refl _) (by simp)
    have hv1 := own_beyond (H := wD2.heap.size) gro1 (fun k hk => by cases hk; exact Nat.le_refl _) (by simp)
    obtain ⟨g2, cp2, rfl, hgD, hgX, hgc⟩ := made_form m1 HNL.out (by omega) hv1
    have d2 : Blk X1 _ _ _ := (kb.block _ kd.lt).trans kd
    have g3 := d2.cell (i := 3) rfl
    have f3 := d2.free 3
    obtain ⟨D2, hD2⟩ : ∃ D, w10.heap.size = D := ⟨_, rfl⟩
    rw [hD2] at d2 g3 f3 ⊢
    have kb3 := hbD.trans (kb.mono hbD.size)
    have ksi : Below w10.heap.size w10 X1 := bwD2.call kb
    have KSI := Lib.hid ksi
    have HDI : Hid (w10.heap.size = D2) := Lib.hid hD2
    clear ksi
    clear hi0 hz0 hz1 hz2 m0 k6 lv hB0 hl0 ca3 gro1 gr1 hH
    have KB3 := Lib.hid kb3; have MZ := Lib.hid m1; have DZ := Lib.hid d2; have HGC := Lib.hid hgc
    have HDS : Hid (w3.heap.size ≤ D2 ∧ D2 < g2 ∧ g2 < X1.heap.size) := Lib.hid ⟨by have := HB10.out.size; omega, by have := HSD.out; omega, hgX⟩
    clear kb3 m1 d2 hgc hgD hgX kd bwD2 HSD hbD kb hv1 hD2
    go_upto_region 17 with fail
    obtain ⟨h1, h2, h3⟩ := HDS.out
    have d4 : Blk (X1.setCell ⟨D2, 3, none⟩ (.slice (some ⟨g2, 0, none⟩) n cp2)) D2 28 [.string ⟨h.name.toArray⟩, .int .i64 h.stage.x, .int .i64 h.stage.y, .slice (some ⟨g2, 0, none⟩) n cp2] := DZ.out.set 3 _
    have hB9 : w.heap.size ≤ D2 := by have := (KS.out _ (Below.refl _ _)).2.2.2.2.2; omega
    have m4 := MZ.out.other (d := D2) (i := 3) hB9 (fun e => by have e : some g2 = some D2 := e; have e := Option.some.inj e; omega) (.slice (some ⟨g2, 0, none⟩) n cp2)
    have hb4 := KB3.out.setCell (p := ⟨D2, 3, none⟩) h1 (.slice (some ⟨g2, 0, none⟩) n cp2)
    have hc4 : ∀ i k, i < n → k < 8 → ∃ u, (X1.setCell ⟨D2, 3, none⟩ (.slice (some ⟨g2, 0, none⟩) n cp2)).cell? ⟨g2, i * 8 + k, none⟩ = some u ∧ (X1.setCell ⟨D2, 3, none⟩ (.slice (some ⟨g2, 0, none⟩) n cp2)).frozen? ⟨g2, i * 8 + k, none⟩ = false := fun i k hi hk => let ⟨u, e1, e2⟩ := HGC.out i k hi hk; ⟨u, (cell_same (Below.heap_setCell _ _ _ _ (show g2 ≠ D2 by omega))).trans e1, (frozen_same (Below.heap_setCell _ _ _ _ (show g2 ≠ D2 by omega))).trans e2⟩
    have hsi := KSI.out.setCell (p := ⟨D2, 3, none⟩) (by have := HDI.out; show _ ≤ D2; omega) (.slice (some ⟨g2, 0, none⟩) n cp2)
    clear KSI
    have hsz : (X1.setCell ⟨D2, 3, none⟩ (.slice (some ⟨g2, 0, none⟩) n cp2)).heap.size = X1.heap.size := by simp [World.setCell]
    clear g3 f3 MZ DZ KB3 HGC HDS
    obtain ⟨w11, hwo⟩ : ∃ x, X1.setCell ⟨D2, 3, none⟩ (.slice (some ⟨g2, 0, none⟩) n cp2) = x := ⟨_, rfl⟩
    rw [hwo] at d4 m4 hb4 hc4 hsz hsi ⊢
    have KD2 := Lib.hid d4; have M2 := Lib.hid m4; have HB11 := Lib.hid hb4; have HC2 := Lib.hid hc4; have HG2 : Hid (w3.heap.size ≤ D2 ∧ D2 < g2 ∧ g2 < w11.heap.size ∧ w.heap.size ≤ g2) := Lib.hid ⟨h1, h2, by omega, by omega⟩
    have HSI2 := Lib.hid hsi
    clear hsi
    have HD2I := HDI
    clear HDI
    clear d4 m4 hb4 hc4 hsz hwo h1 h2 h3 hB9
    obtain ⟨he1, he2, he3, he4⟩ := HG2.out
    have H811 : Hid (Below w8.heap.size w8 w11) := Lib.hid (HBC.out.trans (HSI2.out.mono HBC.out.size))
    have hD2 : w10.heap.size ≤ D2 := by have := HD2I.out; omega
    have HK11 : Hid (∀ w', Below w11.heap.size w11 w' → Blk w' D2 28 [.string ⟨h.name.toArray⟩, .int .i64 h.stage.x, .int .i64 h.stage.y, .slice (some ⟨g2, 0, none⟩) n cp2] ∧ Blk w' w.heap.size 28 [.string ⟨h.name.toArray⟩, .int .i64 h.stage.x, .int .i64 h.stage.y, .slice (some ⟨lb, lo, none⟩) n cap] ∧ w'.cell? ⟨lb, lo + i * 8 + 1, none⟩ = some (.int .i64 xl.height)) := Lib.hid fun w' hb =>
      ⟨(hb.block _ KD2.out.lt).trans KD2.out, (KS.out _ (HB11.out.trans (hb.mono HB11.out.size))).1, (HK8.out w' (H811.out.trans (hb.mono H811.out.size))).2.2.2⟩
    have hki := HKI.out
    go_upto_region 17 with fail
    refine region_loose [] 12 [12, 13, 14] (by kernel_rfl) rfl (by simp) (by simp [Act.put]) #[true, true, true, true, true, true, true, true, true, true, true, true, false, false, false] (by kernel_rfl) (by kernel_rfl) ?_
    try simp only [Act.put, List.setIfInBounds_toArray, List.set_cons_zero, List.set_cons_succ, ptr]
    refine anyL_take 0 (.pointer (some ⟨D2, 3, none⟩)) rfl (d := some 90) rfl (by kernel_rfl) (quiet_read (by kernel_rfl) (by simp) (fun w' hS => by go_simp)) ?_
    try simp only [Act.put, List.setIfInBounds_toArray, List.set_cons_zero, List.set_cons_succ, ptr]
    refine anyL_take 1 (.slice (some ⟨g2, 0, none⟩) n cp2) rfl (d := some 91) rfl (by kernel_rfl) (quiet_read (by kernel_rfl) (by simp) (fun w' hS => by have := (HK11.out w' hS).1.cell (i := 3) rfl; go_simp)) ?_
    try simp only [Act.put, List.setIfInBounds_toArray, List.set_cons_zero, List.set_cons_succ, ptr]
    refine anyL_take 2 (.int .i64 i) rfl (d := some 92) rfl (by kernel_rfl) (quiet_read (by kernel_rfl) (by simp) (fun w' hS => by go_simp)) ?_
    try simp only [Act.put, List.setIfInBounds_toArray, List.set_cons_zero, List.set_cons_succ, ptr]
    refine anyL_take 3 (.pointer (some ⟨w.heap.size, 3, none⟩)) rfl (d := some 93) rfl (by kernel_rfl) (quiet_read (by kernel_rfl) (by simp) (fun w' hS => by go_simp)) ?_
    try simp only [Act.put, List.setIfInBounds_toArray, List.set_cons_zero, List.set_cons_succ, ptr]
    refine anyL_take 4 (.slice (some ⟨lb, lo, none⟩) n cap) rfl (d := some 94) rfl (by kernel_rfl) (quiet_read (by kernel_rfl) (by simp) (fun w' hS => by have := (HK11.out w' hS).2.1.cell (i := 3) rfl; go_simp)) ?_
    try simp only [Act.put, List.setIfInBounds_toArray, List.set_cons_zero, List.set_cons_succ, ptr]
    refine anyL_take 5 (.int .i64 i) rfl (d := some 95) rfl (by kernel_rfl) (quiet_read (by kernel_rfl) (by simp) (fun w' hS => by go_simp)) ?_
    try simp only [Act.put, List.setIfInBounds_toArray, List.set_cons_zero, List.set_cons_succ, ptr]
    refine anyL_take 6 (.pointer (some ⟨lb, lo + i * 8, none⟩)) rfl (d := some 96) rfl (by kernel_rfl) (quiet_read (by kernel_rfl) (by simp) (fun w' hS => by go_simp)) ?_
    try simp only [Act.put, List.setIfInBounds_toArray, List.set_cons_zero, List.set_cons_succ, ptr]
    refine anyL_take 7 (.pointer (some ⟨lb, lo + i * 8 + 1, none⟩)) rfl (d := some 97) rfl (by kernel_rfl) (quiet_read (by kernel_rfl) (by simp) (fun w' hS => by go_simp)) ?_
    try simp only [Act.put, List.setIfInBounds_toArray, List.set_cons_zero, List.set_cons_succ, ptr]
    refine anyL_take 8 (.int .i64 xl.height) rfl (d := some 98) rfl (by kernel_rfl) (quiet_read (by kernel_rfl) (by simp) (fun w' hS => by have := (HK11.out w' hS).2.2; go_simp)) ?_
    try simp only [Act.put, List.setIfInBounds_toArray, List.set_cons_zero, List.set_cons_succ, ptr]
    refine anyL_take 9 (.int .u16 hh) rfl (d := some 99) rfl (by kernel_rfl) (quiet_read (by kernel_rfl) (by simp) (fun w' hS => by go_simp)) ?_
    try simp only [Act.put, List.setIfInBounds_toArray, List.set_cons_zero, List.set_cons_succ, ptr]
    refine anyL_take 10 (.int .i64 (hh % 10001)) rfl (d := some 100) rfl (by kernel_rfl) (quiet_call 16 #[.int .u16 hh] (by kernel_rfl) (by simp) (fun w' => by go_simp) (fun w' hS => coordinate_any hh (hh % 10001) HHH.out.1 HHH.out.2 rfl w')) ?_
    try simp only [Act.put, List.setIfInBounds_toArray, List.set_cons_zero, List.set_cons_succ, ptr]
    refine anyL_take 11 (.int .i64 nh) rfl (d := some 101) rfl (by kernel_rfl) (quiet_read (by kernel_rfl) (by simp) (fun w' hS => by have := HNH.out; go_simp; split <;> omega)) ?_
    try simp only [Act.put, List.setIfInBounds_toArray, List.set_cons_zero, List.set_cons_succ, ptr]
    refine anyL_done rfl (fun w12 hI => ?_)
    have hb12 := hI.below
    clear hI
    simp only [List.filterMap_cons, List.filterMap_nil, Act.put, List.setIfInBounds_toArray, List.set_cons_zero, List.set_cons_succ, List.getElem?_toArray, List.getElem?_cons_succ, List.getElem?_cons_zero, ptr]
    obtain ⟨uo, hu1, hu2⟩ := HC2.out i 1 hin (by omega)
    have hu3 := (hb12.cell (p := ⟨g2, i * 8 + 1, none⟩) he3).trans hu1
    have hu4 : w12.frozen? ⟨g2, i * 8 + 1, none⟩ = false := (frozen_same (hb12.block g2 he3)).trans hu2
    have HB12 := Lib.hid hb12
    clear hb12 hu1 hu2
    go_upto_region 18 with fail
    have hsc : (w12.setCell ⟨g2, i * 8 + 1, none⟩ (.int .i64 nh)).heap.size = w12.heap.size := by simp [World.setCell]
    have hs12 := HB12.out.size
    have hbw : w.heap.size ≤ w11.heap.size := (KS.out _ HB11.out).2.2.2.2.1.size
    have hlk : Lk levelL (w12.setCell ⟨g2, i * 8 + 1, none⟩ (.int .i64 nh)) (w12.setCell ⟨g2, i * 8 + 1, none⟩ (.int .i64 nh)).heap.size (.slice (some ⟨g2, 0, none⟩) n cp2) (h.levels.set i (high xl nh)) := by
      refine made_set (M2.out.since HB12.out hbw) he4 (by omega) (by omega) HXL.out (by omega) (fun c hc => ?_)
      obtain ⟨z1, z2, z3, z4, z5, rfl, hz⟩ := hc
      have hz7 := hz.kept (W' := w12.setCell ⟨g2, i * 8 + 1, none⟩ (.int .i64 nh)) (fun k hk => Below.heap_setCell _ _ _ _ (show k ≠ g2 by omega))
      have hbig : w.heap.size ≤ (w12.setCell ⟨g2, i * 8 + 1, none⟩ (.int .i64 nh)).heap.size := by omega
      exact ⟨z1, z2, z3, z4, z5, rfl, ⟨hz7.blocks.mono hbig, hz7.areas.mono hbig, hz7.aisles.mono hbig, hz7.pillars.mono hbig, hz7.doors.mono hbig⟩⟩
    have h8 : w8.heap.size ≤ w10.heap.size := HBC.out.size
    have h813 : Below w8.heap.size w8 (w12.setCell ⟨g2, i * 8 + 1, none⟩ (.int .i64 nh)) := (H811.out.trans (HB12.out.mono H811.out.size)).setCell (p := ⟨g2, i * 8 + 1, none⟩) (show w8.heap.size ≤ g2 by omega) _
    have kd0 : Blk w12 D2 28 [.string ⟨h.name.toArray⟩, .int .i64 h.stage.x, .int .i64 h.stage.y, .slice (some ⟨g2, 0, none⟩) n cp2] := (HB12.out.block _ KD2.out.lt).trans KD2.out
    have hgd : g2 ≠ D2 := by clear h813 hlk kd0; omega
    have kd2 : Blk (w12.setCell ⟨g2, i * 8 + 1, none⟩ (.int .i64 nh)) D2 28 [.string ⟨h.name.toArray⟩, .int .i64 h.stage.x, .int .i64 h.stage.y, .slice (some ⟨g2, 0, none⟩) n cp2] := kd0.other (p := ⟨g2, i * 8 + 1, none⟩) hgd (.int .i64 nh)
    clear kd0 hgd
    obtain ⟨w13, hw13⟩ : ∃ x, w12.setCell ⟨g2, i * 8 + 1, none⟩ (.int .i64 nh) = x := ⟨_, rfl⟩
    rw [hw13] at hlk h813 kd2 ⊢
    have H813 := Lib.hid h813
    have HK13 : Hid (∀ w', Below w13.heap.size w13 w' → Blk w' D1 28 [.string ⟨h.name.toArray⟩, .int .i64 h.stage.x, .int .i64 h.stage.y, .slice (some ⟨g1, 0, none⟩) n cp1] ∧ Lk levelL w' w'.heap.size (.slice (some ⟨g1, 0, none⟩) n cp1) (h.levels.set i (plus xl X)) ∧ Blk w' D2 28 [.string ⟨h.name.toArray⟩, .int .i64 h.stage.x, .int .i64 h.stage.y, .slice (some ⟨g2, 0, none⟩) n cp2] ∧ Lk levelL w' w'.heap.size (.slice (some ⟨g2, 0, none⟩) n cp2) (h.levels.set i (high xl nh)) ∧ Below w3.heap.size w3 w' ∧ w'.cell? ⟨lb, lo + i * 8 + 1, none⟩ = some (.int .i64 xl.height)) := Lib.hid fun w' hb => by
      obtain ⟨u1, u2, u3, u4⟩ := HK8.out w' (h813.trans (hb.mono h813.size))
      exact ⟨u1, u2, (hb.block _ kd2.lt).trans kd2, (hlk.below hb).mono hb.size, u3, u4⟩
    clear hlk h813 kd2 hw13 hsc hs12 hbw h8 hu3 hu4 HK11 HB12 H811 HC2 M2 KD2 HSI2 HG2 HB11 HB10 HBC he1 he2 he3 he4 hD2 HD2I
    have H3 := Lib.hid (HK13.out w13 (Below.refl _ _)).2.2.2.2.1
    have ch3 := (KS.out _ H3.out).1.cell (i := 3) rfl
    obtain ⟨kk, hkk⟩ : ∃ k : Nat, ((i : Int) + 1) % (n : Int) = k := ⟨(((i : Int) + 1) % (n : Int)).toNat, by have := Int.emod_nonneg ((i : Int) + 1) e1; omega⟩
    have hkk2 : Int.tmod ((i : Int) + 1) (n : Int) = kk := by rw [Int.tmod_eq_emod_of_nonneg (by omega)]; exact hkk
    have hwi : wrap64 ((i : Int) + 1) = (i : Int) + 1 := wrap_in (by omega) (by omega)
    have HKK := Lib.hid hkk
    clear hkk hkk2 hwi
    go_upto_region 19 with fail
    rw [HKK.out]
    clear ch3
    go_cut [123] from 110 (fun v wx => v = .bool false ∧ Hid (Below w13.heap.size w13 wx))
    case first =>
      rename_i J KM hRJ hMK
      obtain ⟨k1, _, _, _, k5, _⟩ := HK13.out w13 (Below.refl _ _)
      obtain ⟨k6, k7, _⟩ := KS.out _ k5
      have qd0 := fun d os => cell_regrown (k1.cell (i := 0) rfl) d os
      have qh0 := fun d os => cell_regrown (k6.cell (i := 0) rfl) d os
      have qd1 := fun d os => cell_regrown (k1.cell (i := 1) rfl) d os
      have qh1 := fun d os => cell_regrown (k6.cell (i := 1) rfl) d os
      have qd2 := fun d os => cell_regrown (k1.cell (i := 2) rfl) d os
      have qh2 := fun d os => cell_regrown (k6.cell (i := 2) rfl) d os
      have qd3 := fun d os => cell_regrown (k1.cell (i := 3) rfl) d os
      have qh3 := fun d os => cell_regrown (k6.cell (i := 3) rfl) d os
      have qp0 := fun d os => cell_regrown (k7.cell (i := 0) rfl) d os
      have qp1 := fun d os => cell_regrown (k7.cell (i := 1) rfl) d os
      clear k1 k5 k6 k7
      have F2 : Hid (∀ d os, Calls Try.prog 13 #[.agg #[.string ⟨h.name.toArray⟩, .int .i64 h.stage.x, .int .i64 h.stage.y, .slice (some ⟨lb, lo, none⟩) n cap], .int .i64 kk, .agg #[.int .i64 p.x, .int .i64 p.y]] (grow (redrawn w13 d) os) fun e w'' => e = .returned (.int .i64 (view h kk p)) ∧ ∃ p : Regrown, w'' = grow (redrawn w13 p.d) p.os) := Lib.hid fun d os => Calls.regrown_of (view_any h (some ⟨lb, lo, none⟩) n cap kk p _ (by
          have h3 := (HK13.out _ (below_regrown w13 d os)).2.2.2.2.1
          exact (KS.out _ h3).2.2.2.1.mono (KS.out _ h3).2.2.2.2.1.size))
      by_cases hki2 : kk = i
      · have en : ((kk : Int) != (i : Int)) = false := by simp [hki2]
        have en2 : decide ((kk : Int) = (i : Int)) = true := by simp [hki2]
        have F1 := F2
        refine wp_region_quiet_below (by kernel_rfl) (by kernel_rfl) ?_
        iterate 14 (go_big_quiet_step (first | with_reducible exact F1.out _ _ | with_reducible exact F2.out _ _))
        refine wpQuiet_nil ?_
        intro _ hw'
        obtain ⟨⟨dq, osq⟩, hw''⟩ := hw'
        subst hw''
        refine hMK _ _ (Met.intro (hRJ _ _ ?_))
        (repeat apply Exists.intro)
        refine ⟨?relq2, rfl⟩
        exact ⟨rfl, Lib.hid (below_regrown w13 dq osq)⟩
      · have en : ((kk : Int) != (i : Int)) = true := by simp; omega
        have en2 : decide ((kk : Int) = (i : Int)) = false := by simp; omega
        have F1 : Hid (∀ d os, Calls Try.prog 13 #[.agg #[.string ⟨h.name.toArray⟩, .int .i64 h.stage.x, .int .i64 h.stage.y, .slice (some ⟨g1, 0, none⟩) n cp1], .int .i64 kk, .agg #[.int .i64 p.x, .int .i64 p.y]] (grow (redrawn w13 d) os) fun e w'' => e = .returned (.int .i64 (view h kk p)) ∧ ∃ p : Regrown, w'' = grow (redrawn w13 p.d) p.os) := Lib.hid fun d os => Calls.regrown_of ((view_any { h with levels := h.levels.set i (plus xl X) } (some ⟨g1, 0, none⟩) n cp1 kk p _ (HK13.out _ (below_regrown w13 d os)).2.1).mono fun e w' ⟨h1, h2⟩ => ⟨by rw [h1, HOTH.out kk hki2], h2⟩)
        generalize view h kk p = VK at *
        have ev : (VK != VK) = false := by simp
        refine wp_region_quiet_below (by kernel_rfl) (by kernel_rfl) ?_
        iterate 14 (go_big_quiet_step (first | with_reducible exact F1.out _ _ | with_reducible exact F2.out _ _))
        refine wpQuiet_nil ?_
        intro _ hw'
        obtain ⟨⟨dq, osq⟩, hw''⟩ := hw'
        subst hw''
        refine hMK _ _ (Met.intro (hRJ _ _ ?_))
        (repeat apply Exists.intro)
        refine ⟨?relq3, rfl⟩
        exact ⟨rfl, Lib.hid (below_regrown w13 dq osq)⟩
    case rest =>
    obtain ⟨rfl, HBR⟩ := hcut
    obtain ⟨w14, hw14⟩ : ∃ x, x = wc := ⟨_, rfl⟩
    subst hw14
    obtain ⟨_, _, k3, k4, k5, k6⟩ := HK13.out w14 HBR.out
    have qe0 := k3.cell (i := 0) rfl
    have qe1 := k3.cell (i := 1) rfl
    have qe2 := k3.cell (i := 2) rfl
    have qe3 := k3.cell (i := 3) rfl
    have K5 := Lib.hid k5; have K4 := Lib.hid k4
    have pq0 := (KS.out w14 K5.out).2.1.cell (i := 0) rfl
    have pq1 := (KS.out w14 K5.out).2.1.cell (i := 1) rfl
    obtain ⟨VH, hVH⟩ : ∃ z, view { h with levels := h.levels.set i (high xl nh) } i p = z := ⟨_, rfl⟩
    have hhi := HHI.out
    rw [hVH] at hhi
    have C1 : Hid (∀ w', Lk levelL w' w'.heap.size (.slice (some ⟨g2, 0, none⟩) n cp2) (h.levels.set i (high xl nh)) → Calls Try.prog 13 #[.agg #[.string ⟨h.name.toArray⟩, .int .i64 h.stage.x, .int .i64 h.stage.y, .slice (some ⟨g2, 0, none⟩) n cp2], .int .i64 i, .agg #[.int .i64 p.x, .int .i64 p.y]] w' fun e w'' => e = .returned (.int .i64 VH) ∧ Below w'.heap.size w' w'') := Lib.hid fun w' hl => high_call h (h.levels.set i (high xl nh)) (some ⟨g2, 0, none⟩) n cp2 (i : Int) p VH hVH w' hl
    clear hVH k3 k4 k5 k6 HHI HOTH
    have eb : ((BV) == (BV)) = true := beq_self_eq_true _
    have HHI2 := Lib.hid hhi
    clear hhi
    go_upto_region 21 with fail
    go_wp2_with fail
    refine (C1.out w14 K4.out).mono ?_; rintro e w15 ⟨rfl, hb15⟩
    have HB15 := Lib.hid (HBR.out.trans (hb15.mono HBR.out.size))
    clear hb15 qe0 qe1 qe2 qe3 pq0 pq1 C1
    obtain ⟨_, _, _, _, k5, k6⟩ := HK13.out w15 HB15.out
    obtain ⟨k7, _, _, _, k8, _⟩ := KS.out _ k5
    have ch3 := k7.cell (i := 3) rfl
    have HFIN := Lib.hid k8
    clear k5 k7 k8
    by_cases hle : BV ≤ VH
    · have el : decide (BV ≤ VH) = true := decide_eq_true hle
      go_wp2
      go_ret
      exact ⟨rfl, HFIN.out⟩
    · have el : decide (BV ≤ VH) = false := decide_eq_false hle
      have hneg : xl.height < 0 := Decidable.byContradiction fun hn => hle (HHI2.out (by omega))
      have eh : decide (xl.height < 0) = true := decide_eq_true hneg
      go_wp2
      go_ret
      exact ⟨rfl, HFIN.out⟩
  · obtain rfl : BV = V + 1 := HBV.out
    have ew := HEW.out
    go_upto_region 15 with fail
    clear ew
    have ca0 := (KS.out w10 HB10.out).1.cell (i := 0) rfl
    have ca1 := (KS.out w10 HB10.out).1.cell (i := 1) rfl
    have ca2 := (KS.out w10 HB10.out).1.cell (i := 2) rfl
    have ca3 := (KS.out w10 HB10.out).1.cell (i := 3) rfl
    go_upto_region 15 with fail
    go_upto_region 16 with fail
    obtain ⟨wD2, hwD2, swD2, bwD2, kd⟩ : ∃ wD2, w10.alloc (.cells #[.string ⟨h.name.toArray⟩, .int .i64 h.stage.x, .int .i64 h.stage.y, .slice (some ⟨lb, lo, none⟩) n cap] 28) = wD2 ∧ wD2.heap.size = w10.heap.size + 1 ∧ Since w10 wD2 ∧ Blk wD2 (w10.heap.size) 28 [.string ⟨h.name.toArray⟩, .int .i64 h.stage.x, .int .i64 h.stage.y, .slice (some ⟨lb, lo, none⟩) n cap] := by
      obtain ⟨v1, e1⟩ : ∃ wq, w10.alloc (.cells #[.string ⟨h.name.toArray⟩, .int .i64 h.stage.x, .int .i64 h.stage.y, .slice (some ⟨lb, lo, none⟩) n cap] 28) = wq := ⟨_, rfl⟩
      have s1 : v1.heap.size = w10.heap.size + 1 := by rw [← e1, World.size_alloc]
      have b1 : Since w10 v1 := by rw [← e1]; exact (Since.refl w10).alloc _
      have k1_1 : Blk v1 (w10.heap.size) 28 [.string ⟨h.name.toArray⟩, .int .i64 h.stage.x, .int .i64 h.stage.y, .slice (some ⟨lb, lo, none⟩) n cap] := by rw [← e1]; exact Blk.new _ _ _
      rw [e1]
      exact ⟨_, rfl, s1, b1, k1_1⟩
    rw [hwD2]
    have HSD := Lib.hid swD2
    clear hwD2 swD2 ca0 ca1 ca2 ca3
    obtain ⟨i0, hi0, hz0, hz1, hz2⟩ := info_of level_info
    have hbD : Below w3.heap.size w3 wD2 := HB10.out.trans (bwD2.mono HB10.out.size)
    have hH : w.heap.size ≤ wD2.heap.size := (KS.out _ hbD).2.2.2.2.1.size
    have m0 := made_nil levelL wD2 hH 51
    have k6 : Below w3.heap.size w3 (wD2.alloc (.cells #[] 51)) := hbD.alloc hbD.size _
    have ca3 := (KS.out _ k6).1.cell (i := 3) rfl
    have lv : Src levelL (wD2.alloc (.cells #[] 51)) w.heap.size (.slice (some ⟨lb, lo, none⟩) n cap) h.levels := (KS.out _ k6).2.2.2.1.src (Nat.le_refl _)
    have hB0 : w.heap.size ≤ (wD2.alloc (.cells #[] 51)).heap.size := by simp; omega
    have hl0 : ([] : List LevelZ).length + h.levels.length ≤ 1000000 := by have := HNL.out; simp; omega
    go_wp2_with (at_builtin; refine wpList_appends_lk (t := 26) Try.underlying26 hi0 hz0 hz1 hz2 rfl (by decide) (by decide) rfl _ _ rfl _ _ [] h.levels rfl rfl m0 lv hl0 hB0 ?_)
    intro v1 X1 m1 gr1 gro1
    replace m1 : Made levelL X1 w.heap.size 51 v1 h.levels := m1
    have kb : Below wD2.heap.size wD2 X1 := Below.grew ((Below.refl _ wD2).alloc (Nat.le_refl _) (.cells #[] 51)) gr1 (fun k hk => by cases hk; exact Nat.le_refl _) (by simp)
    have hv1 := own_beyond (H := wD2.heap.size) gro1 (fun k hk => by cases hk; exact Nat.le_refl _) (by simp)
    obtain ⟨g2, cp2, rfl, hgD, hgX, hgc⟩ := made_form m1 HNL.out (by omega) hv1
    have d2 : Blk X1 _ _ _ := (kb.block _ kd.lt).trans kd
    have g3 := d2.cell (i := 3) rfl
    have f3 := d2.free 3
    obtain ⟨D2, hD2⟩ : ∃ D, w10.heap.size = D := ⟨_, rfl⟩
    rw [hD2] at d2 g3 f3 ⊢
    have kb3 := hbD.trans (kb.mono hbD.size)
    have ksi : Below w10.heap.size w10 X1 := bwD2.call kb
    have KSI := Lib.hid ksi
    have HDI : Hid (w10.heap.size = D2) := Lib.hid hD2
    clear ksi
    clear hi0 hz0 hz1 hz2 m0 k6 lv hB0 hl0 ca3 gro1 gr1 hH
    have KB3 := Lib.hid kb3; have MZ := Lib.hid m1; have DZ := Lib.hid d2; have HGC := Lib.hid hgc
    have HDS : Hid (w3.heap.size ≤ D2 ∧ D2 < g2 ∧ g2 < X1.heap.size) := Lib.hid ⟨by have := HB10.out.size; omega, by have := HSD.out; omega, hgX⟩
    clear kb3 m1 d2 hgc hgD hgX kd bwD2 HSD hbD kb hv1 hD2
    go_upto_region 17 with fail
    obtain ⟨h1, h2, h3⟩ := HDS.out
    have d4 : Blk (X1.setCell ⟨D2, 3, none⟩ (.slice (some ⟨g2, 0, none⟩) n cp2)) D2 28 [.string ⟨h.name.toArray⟩, .int .i64 h.stage.x, .int .i64 h.stage.y, .slice (some ⟨g2, 0, none⟩) n cp2] := DZ.out.set 3 _
    have hB9 : w.heap.size ≤ D2 := by have := (KS.out _ (Below.refl _ _)).2.2.2.2.2; omega
    have m4 := MZ.out.other (d := D2) (i := 3) hB9 (fun e => by have e : some g2 = some D2 := e; have e := Option.some.inj e; omega) (.slice (some ⟨g2, 0, none⟩) n cp2)
    have hb4 := KB3.out.setCell (p := ⟨D2, 3, none⟩) h1 (.slice (some ⟨g2, 0, none⟩) n cp2)
    have hc4 : ∀ i k, i < n → k < 8 → ∃ u, (X1.setCell ⟨D2, 3, none⟩ (.slice (some ⟨g2, 0, none⟩) n cp2)).cell? ⟨g2, i * 8 + k, none⟩ = some u ∧ (X1.setCell ⟨D2, 3, none⟩ (.slice (some ⟨g2, 0, none⟩) n cp2)).frozen? ⟨g2, i * 8 + k, none⟩ = false := fun i k hi hk => let ⟨u, e1, e2⟩ := HGC.out i k hi hk; ⟨u, (cell_same (Below.heap_setCell _ _ _ _ (show g2 ≠ D2 by omega))).trans e1, (frozen_same (Below.heap_setCell _ _ _ _ (show g2 ≠ D2 by omega))).trans e2⟩
    have hsi := KSI.out.setCell (p := ⟨D2, 3, none⟩) (by have := HDI.out; show _ ≤ D2; omega) (.slice (some ⟨g2, 0, none⟩) n cp2)
    clear KSI
    have hsz : (X1.setCell ⟨D2, 3, none⟩ (.slice (some ⟨g2, 0, none⟩) n cp2)).heap.size = X1.heap.size := by simp [World.setCell]
    clear g3 f3 MZ DZ KB3 HGC HDS
    obtain ⟨w11, hwo⟩ : ∃ x, X1.setCell ⟨D2, 3, none⟩ (.slice (some ⟨g2, 0, none⟩) n cp2) = x := ⟨_, rfl⟩
    rw [hwo] at d4 m4 hb4 hc4 hsz hsi ⊢
    have KD2 := Lib.hid d4; have M2 := Lib.hid m4; have HB11 := Lib.hid hb4; have HC2 := Lib.hid hc4; have HG2 : Hid (w3.heap.size ≤ D2 ∧ D2 < g2 ∧ g2 < w11.heap.size ∧ w.heap.size ≤ g2) := Lib.hid ⟨h1, h2, by omega, by omega⟩
    have HSI2 := Lib.hid hsi
    clear hsi
    have HD2I := HDI
    clear HDI
    clear d4 m4 hb4 hc4 hsz hwo h1 h2 h3 hB9
    obtain ⟨he1, he2, he3, he4⟩ := HG2.out
    have H811 : Hid (Below w8.heap.size w8 w11) := Lib.hid (HBC.out.trans (HSI2.out.mono HBC.out.size))
    have hD2 : w10.heap.size ≤ D2 := by have := HD2I.out; omega
    have HK11 : Hid (∀ w', Below w11.heap.size w11 w' → Blk w' D2 28 [.string ⟨h.name.toArray⟩, .int .i64 h.stage.x, .int .i64 h.stage.y, .slice (some ⟨g2, 0, none⟩) n cp2] ∧ Blk w' w.heap.size 28 [.string ⟨h.name.toArray⟩, .int .i64 h.stage.x, .int .i64 h.stage.y, .slice (some ⟨lb, lo, none⟩) n cap] ∧ w'.cell? ⟨lb, lo + i * 8 + 1, none⟩ = some (.int .i64 xl.height)) := Lib.hid fun w' hb =>
      ⟨(hb.block _ KD2.out.lt).trans KD2.out, (KS.out _ (HB11.out.trans (hb.mono HB11.out.size))).1, (HK8.out w' (H811.out.trans (hb.mono H811.out.size))).2.2.2⟩
    have hki := HKI.out
    go_upto_region 17 with fail
    refine region_loose [] 12 [12, 13, 14] (by kernel_rfl) rfl (by simp) (by simp [Act.put]) #[true, true, true, true, true, true, true, true, true, true, true, true, false, false, false] (by kernel_rfl) (by kernel_rfl) ?_
    try simp only [Act.put, List.setIfInBounds_toArray, List.set_cons_zero, List.set_cons_succ, ptr]
    refine anyL_take 0 (.pointer (some ⟨D2, 3, none⟩)) rfl (d := some 90) rfl (by kernel_rfl) (quiet_read (by kernel_rfl) (by simp) (fun w' hS => by go_simp)) ?_
    try simp only [Act.put, List.setIfInBounds_toArray, List.set_cons_zero, List.set_cons_succ, ptr]
    refine anyL_take 1 (.slice (some ⟨g2, 0, none⟩) n cp2) rfl (d := some 91) rfl (by kernel_rfl) (quiet_read (by kernel_rfl) (by simp) (fun w' hS => by have := (HK11.out w' hS).1.cell (i := 3) rfl; go_simp)) ?_
    try simp only [Act.put, List.setIfInBounds_toArray, List.set_cons_zero, List.set_cons_succ, ptr]
    refine anyL_take 2 (.int .i64 i) rfl (d := some 92) rfl (by kernel_rfl) (quiet_read (by kernel_rfl) (by simp) (fun w' hS => by go_simp)) ?_
    try simp only [Act.put, List.setIfInBounds_toArray, List.set_cons_zero, List.set_cons_succ, ptr]
    refine anyL_take 3 (.pointer (some ⟨w.heap.size, 3, none⟩)) rfl (d := some 93) rfl (by kernel_rfl) (quiet_read (by kernel_rfl) (by simp) (fun w' hS => by go_simp)) ?_
    try simp only [Act.put, List.setIfInBounds_toArray, List.set_cons_zero, List.set_cons_succ, ptr]
    refine anyL_take 4 (.slice (some ⟨lb, lo, none⟩) n cap) rfl (d := some 94) rfl (by kernel_rfl) (quiet_read (by kernel_rfl) (by simp) (fun w' hS => by have := (HK11.out w' hS).2.1.cell (i := 3) rfl; go_simp)) ?_
    try simp only [Act.put, List.setIfInBounds_toArray, List.set_cons_zero, List.set_cons_succ, ptr]
    refine anyL_take 5 (.int .i64 i) rfl (d := some 95) rfl (by kernel_rfl) (quiet_read (by kernel_rfl) (by simp) (fun w' hS => by go_simp)) ?_
    try simp only [Act.put, List.setIfInBounds_toArray, List.set_cons_zero, List.set_cons_succ, ptr]
    refine anyL_take 6 (.pointer (some ⟨lb, lo + i * 8, none⟩)) rfl (d := some 96) rfl (by kernel_rfl) (quiet_read (by kernel_rfl) (by simp) (fun w' hS => by go_simp)) ?_
    try simp only [Act.put, List.setIfInBounds_toArray, List.set_cons_zero, List.set_cons_succ, ptr]
    refine anyL_take 7 (.pointer (some ⟨lb, lo + i * 8 + 1, none⟩)) rfl (d := some 97) rfl (by kernel_rfl) (quiet_read (by kernel_rfl) (by simp) (fun w' hS => by go_simp)) ?_
    try simp only [Act.put, List.setIfInBounds_toArray, List.set_cons_zero, List.set_cons_succ, ptr]
    refine anyL_take 8 (.int .i64 xl.height) rfl (d := some 98) rfl (by kernel_rfl) (quiet_read (by kernel_rfl) (by simp) (fun w' hS => by have := (HK11.out w' hS).2.2; go_simp)) ?_
    try simp only [Act.put, List.setIfInBounds_toArray, List.set_cons_zero, List.set_cons_succ, ptr]
    refine anyL_take 9 (.int .u16 hh) rfl (d := some 99) rfl (by kernel_rfl) (quiet_read (by kernel_rfl) (by simp) (fun w' hS => by go_simp)) ?_
    try simp only [Act.put, List.setIfInBounds_toArray, List.set_cons_zero, List.set_cons_succ, ptr]
    refine anyL_take 10 (.int .i64 (hh % 10001)) rfl (d := some 100) rfl (by kernel_rfl) (quiet_call 16 #[.int .u16 hh] (by kernel_rfl) (by simp) (fun w' => by go_simp) (fun w' hS => coordinate_any hh (hh % 10001) HHH.out.1 HHH.out.2 rfl w')) ?_
    try simp only [Act.put, List.setIfInBounds_toArray, List.set_cons_zero, List.set_cons_succ, ptr]
    refine anyL_take 11 (.int .i64 nh) rfl (d := some 101) rfl (by kernel_rfl) (quiet_read (by kernel_rfl) (by simp) (fun w' hS => by have := HNH.out; go_simp; split <;> omega)) ?_
    try simp only [Act.put, List.setIfInBounds_toArray, List.set_cons_zero, List.set_cons_succ, ptr]
    refine anyL_done rfl (fun w12 hI => ?_)
    have hb12 := hI.below
    clear hI
    simp only [List.filterMap_cons, List.filterMap_nil, Act.put, List.setIfInBounds_toArray, List.set_cons_zero, List.set_cons_succ, List.getElem?_toArray, List.getElem?_cons_succ, List.getElem?_cons_zero, ptr]
    obtain ⟨uo, hu1, hu2⟩ := HC2.out i 1 hin (by omega)
    have hu3 := (hb12.cell (p := ⟨g2, i * 8 + 1, none⟩) he3).trans hu1
    have hu4 : w12.frozen? ⟨g2, i * 8 + 1, none⟩ = false := (frozen_same (hb12.block g2 he3)).trans hu2
    have HB12 := Lib.hid hb12
    clear hb12 hu1 hu2
    go_upto_region 18 with fail
    have hsc : (w12.setCell ⟨g2, i * 8 + 1, none⟩ (.int .i64 nh)).heap.size = w12.heap.size := by simp [World.setCell]
    have hs12 := HB12.out.size
    have hbw : w.heap.size ≤ w11.heap.size := (KS.out _ HB11.out).2.2.2.2.1.size
    have hlk : Lk levelL (w12.setCell ⟨g2, i * 8 + 1, none⟩ (.int .i64 nh)) (w12.setCell ⟨g2, i * 8 + 1, none⟩ (.int .i64 nh)).heap.size (.slice (some ⟨g2, 0, none⟩) n cp2) (h.levels.set i (high xl nh)) := by
      refine made_set (M2.out.since HB12.out hbw) he4 (by omega) (by omega) HXL.out (by omega) (fun c hc => ?_)
      obtain ⟨z1, z2, z3, z4, z5, rfl, hz⟩ := hc
      have hz7 := hz.kept (W' := w12.setCell ⟨g2, i * 8 + 1, none⟩ (.int .i64 nh)) (fun k hk => Below.heap_setCell _ _ _ _ (show k ≠ g2 by omega))
      have hbig : w.heap.size ≤ (w12.setCell ⟨g2, i * 8 + 1, none⟩ (.int .i64 nh)).heap.size := by omega
      exact ⟨z1, z2, z3, z4, z5, rfl, ⟨hz7.blocks.mono hbig, hz7.areas.mono hbig, hz7.aisles.mono hbig, hz7.pillars.mono hbig, hz7.doors.mono hbig⟩⟩
    have h8 : w8.heap.size ≤ w10.heap.size := HBC.out.size
    have h813 : Below w8.heap.size w8 (w12.setCell ⟨g2, i * 8 + 1, none⟩ (.int .i64 nh)) := (H811.out.trans (HB12.out.mono H811.out.size)).setCell (p := ⟨g2, i * 8 + 1, none⟩) (show w8.heap.size ≤ g2 by omega) _
    have kd0 : Blk w12 D2 28 [.string ⟨h.name.toArray⟩, .int .i64 h.stage.x, .int .i64 h.stage.y, .slice (some ⟨g2, 0, none⟩) n cp2] := (HB12.out.block _ KD2.out.lt).trans KD2.out
    have hgd : g2 ≠ D2 := by clear h813 hlk kd0; omega
    have kd2 : Blk (w12.setCell ⟨g2, i * 8 + 1, none⟩ (.int .i64 nh)) D2 28 [.string ⟨h.name.toArray⟩, .int .i64 h.stage.x, .int .i64 h.stage.y, .slice (some ⟨g2, 0, none⟩) n cp2] := kd0.other (p := ⟨g2, i * 8 + 1, none⟩) hgd (.int .i64 nh)
    clear kd0 hgd
    obtain ⟨w13, hw13⟩ : ∃ x, w12.setCell ⟨g2, i * 8 + 1, none⟩ (.int .i64 nh) = x := ⟨_, rfl⟩
    rw [hw13] at hlk h813 kd2 ⊢
    have H813 := Lib.hid h813
    have HK13 : Hid (∀ w', Below w13.heap.size w13 w' → Blk w' D1 28 [.string ⟨h.name.toArray⟩, .int .i64 h.stage.x, .int .i64 h.stage.y, .slice (some ⟨g1, 0, none⟩) n cp1] ∧ Lk levelL w' w'.heap.size (.slice (some ⟨g1, 0, none⟩) n cp1) (h.levels.set i (plus xl X)) ∧ Blk w' D2 28 [.string ⟨h.name.toArray⟩, .int .i64 h.stage.x, .int .i64 h.stage.y, .slice (some ⟨g2, 0, none⟩) n cp2] ∧ Lk levelL w' w'.heap.size (.slice (some ⟨g2, 0, none⟩) n cp2) (h.levels.set i (high xl nh)) ∧ Below w3.heap.size w3 w' ∧ w'.cell? ⟨lb, lo + i * 8 + 1, none⟩ = some (.int .i64 xl.height)) := Lib.hid fun w' hb => by
      obtain ⟨u1, u2, u3, u4⟩ := HK8.out w' (h813.trans (hb.mono h813.size))
      exact ⟨u1, u2, (hb.block _ kd2.lt).trans kd2, (hlk.below hb).mono hb.size, u3, u4⟩
    clear hlk h813 kd2 hw13 hsc hs12 hbw h8 hu3 hu4 HK11 HB12 H811 HC2 M2 KD2 HSI2 HG2 HB11 HB10 HBC he1 he2 he3 he4 hD2 HD2I
    have H3 := Lib.hid (HK13.out w13 (Below.refl _ _)).2.2.2.2.1
    have ch3 := (KS.out _ H3.out).1.cell (i := 3) rfl
    obtain ⟨kk, hkk⟩ : ∃ k : Nat, ((i : Int) + 1) % (n : Int) = k := ⟨(((i : Int) + 1) % (n : Int)).toNat, by have := Int.emod_nonneg ((i : Int) + 1) e1; omega⟩
    have hkk2 : Int.tmod ((i : Int) + 1) (n : Int) = kk := by rw [Int.tmod_eq_emod_of_nonneg (by omega)]; exact hkk
    have hwi : wrap64 ((i : Int) + 1) = (i : Int) + 1 := wrap_in (by omega) (by omega)
    have HKK := Lib.hid hkk
    clear hkk hkk2 hwi
    go_upto_region 19 with fail
    rw [HKK.out]
    clear ch3
    go_cut [123] from 110 (fun v wx => v = .bool false ∧ Hid (Below w13.heap.size w13 wx))
    case first =>
      rename_i J KM hRJ hMK
      obtain ⟨k1, _, _, _, k5, _⟩ := HK13.out w13 (Below.refl _ _)
      obtain ⟨k6, k7, _⟩ := KS.out _ k5
      have qd0 := fun d os => cell_regrown (k1.cell (i := 0) rfl) d os
      have qh0 := fun d os => cell_regrown (k6.cell (i := 0) rfl) d os
      have qd1 := fun d os => cell_regrown (k1.cell (i := 1) rfl) d os
      have qh1 := fun d os => cell_regrown (k6.cell (i := 1) rfl) d os
      have qd2 := fun d os => cell_regrown (k1.cell (i := 2) rfl) d os
      have qh2 := fun d os => cell_regrown (k6.cell (i := 2) rfl) d os
      have qd3 := fun d os => cell_regrown (k1.cell (i := 3) rfl) d os
      have qh3 := fun d os => cell_regrown (k6.cell (i := 3) rfl) d os
      have qp0 := fun d os => cell_regrown (k7.cell (i := 0) rfl) d os
      have qp1 := fun d os => cell_regrown (k7.cell (i := 1) rfl) d os
      clear k1 k5 k6 k7
      have F2 : Hid (∀ d os, Calls Try.prog 13 #[.agg #[.string ⟨h.name.toArray⟩, .int .i64 h.stage.x, .int .i64 h.stage.y, .slice (some ⟨lb, lo, none⟩) n cap], .int .i64 kk, .agg #[.int .i64 p.x, .int .i64 p.y]] (grow (redrawn w13 d) os) fun e w'' => e = .returned (.int .i64 (view h kk p)) ∧ ∃ p : Regrown, w'' = grow (redrawn w13 p.d) p.os) := Lib.hid fun d os => Calls.regrown_of (view_any h (some ⟨lb, lo, none⟩) n cap kk p _ (by
          have h3 := (HK13.out _ (below_regrown w13 d os)).2.2.2.2.1
          exact (KS.out _ h3).2.2.2.1.mono (KS.out _ h3).2.2.2.2.1.size))
      by_cases hki2 : kk = i
      · have en : ((kk : Int) != (i : Int)) = false := by simp [hki2]
        have en2 : decide ((kk : Int) = (i : Int)) = true := by simp [hki2]
        have F1 := F2
        refine wp_region_quiet_below (by kernel_rfl) (by kernel_rfl) ?_
        iterate 14 (go_big_quiet_step (first | with_reducible exact F1.out _ _ | with_reducible exact F2.out _ _))
        refine wpQuiet_nil ?_
        intro _ hw'
        obtain ⟨⟨dq, osq⟩, hw''⟩ := hw'
        subst hw''
        refine hMK _ _ (Met.intro (hRJ _ _ ?_))
        (repeat apply Exists.intro)
        refine ⟨?relq4, rfl⟩
        exact ⟨rfl, Lib.hid (below_regrown w13 dq osq)⟩
      · have en : ((kk : Int) != (i : Int)) = true := by simp; omega
        have en2 : decide ((kk : Int) = (i : Int)) = false := by simp; omega
        have F1 : Hid (∀ d os, Calls Try.prog 13 #[.agg #[.string ⟨h.name.toArray⟩, .int .i64 h.stage.x, .int .i64 h.stage.y, .slice (some ⟨g1, 0, none⟩) n cp1], .int .i64 kk, .agg #[.int .i64 p.x, .int .i64 p.y]] (grow (redrawn w13 d) os) fun e w'' => e = .returned (.int .i64 (view h kk p)) ∧ ∃ p : Regrown, w'' = grow (redrawn w13 p.d) p.os) := Lib.hid fun d os => Calls.regrown_of ((view_any { h with levels := h.levels.set i (plus xl X) } (some ⟨g1, 0, none⟩) n cp1 kk p _ (HK13.out _ (below_regrown w13 d os)).2.1).mono fun e w' ⟨h1, h2⟩ => ⟨by rw [h1, HOTH.out kk hki2], h2⟩)
        generalize view h kk p = VK at *
        have ev : (VK != VK) = false := by simp
        refine wp_region_quiet_below (by kernel_rfl) (by kernel_rfl) ?_
        iterate 14 (go_big_quiet_step (first | with_reducible exact F1.out _ _ | with_reducible exact F2.out _ _))
        refine wpQuiet_nil ?_
        intro _ hw'
        obtain ⟨⟨dq, osq⟩, hw''⟩ := hw'
        subst hw''
        refine hMK _ _ (Met.intro (hRJ _ _ ?_))
        (repeat apply Exists.intro)
        refine ⟨?relq5, rfl⟩
        exact ⟨rfl, Lib.hid (below_regrown w13 dq osq)⟩
    case rest =>
    obtain ⟨rfl, HBR⟩ := hcut
    obtain ⟨w14, hw14⟩ : ∃ x, x = wc := ⟨_, rfl⟩
    subst hw14
    obtain ⟨_, _, k3, k4, k5, k6⟩ := HK13.out w14 HBR.out
    have qe0 := k3.cell (i := 0) rfl
    have qe1 := k3.cell (i := 1) rfl
    have qe2 := k3.cell (i := 2) rfl
    have qe3 := k3.cell (i := 3) rfl
    have K5 := Lib.hid k5; have K4 := Lib.hid k4
    have pq0 := (KS.out w14 K5.out).2.1.cell (i := 0) rfl
    have pq1 := (KS.out w14 K5.out).2.1.cell (i := 1) rfl
    obtain ⟨VH, hVH⟩ : ∃ z, view { h with levels := h.levels.set i (high xl nh) } i p = z := ⟨_, rfl⟩
    have hhi := HHI.out
    rw [hVH] at hhi
    have C1 : Hid (∀ w', Lk levelL w' w'.heap.size (.slice (some ⟨g2, 0, none⟩) n cp2) (h.levels.set i (high xl nh)) → Calls Try.prog 13 #[.agg #[.string ⟨h.name.toArray⟩, .int .i64 h.stage.x, .int .i64 h.stage.y, .slice (some ⟨g2, 0, none⟩) n cp2], .int .i64 i, .agg #[.int .i64 p.x, .int .i64 p.y]] w' fun e w'' => e = .returned (.int .i64 VH) ∧ Below w'.heap.size w' w'') := Lib.hid fun w' hl => high_call h (h.levels.set i (high xl nh)) (some ⟨g2, 0, none⟩) n cp2 (i : Int) p VH hVH w' hl
    clear hVH k3 k4 k5 k6 HHI HOTH
    have eb : ((V + 1) == (V + 1)) = true := beq_self_eq_true _
    have HHI2 := Lib.hid hhi
    clear hhi
    go_upto_region 21 with fail
    go_wp2_with fail
    refine (C1.out w14 K4.out).mono ?_; rintro e w15 ⟨rfl, hb15⟩
    have HB15 := Lib.hid (HBR.out.trans (hb15.mono HBR.out.size))
    clear hb15 qe0 qe1 qe2 qe3 pq0 pq1 C1
    obtain ⟨_, _, _, _, k5, k6⟩ := HK13.out w15 HB15.out
    obtain ⟨k7, _, _, _, k8, _⟩ := KS.out _ k5
    have ch3 := k7.cell (i := 3) rfl
    have HFIN := Lib.hid k8
    clear k5 k7 k8
    by_cases hle : V ≤ VH
    · have el : decide (V ≤ VH) = true := decide_eq_true hle
      go_wp2
      go_ret
      exact ⟨rfl, HFIN.out⟩
    · have el : decide (V ≤ VH) = false := decide_eq_false hle
      have hneg : xl.height < 0 := Decidable.byContradiction fun hn => hle (HHI2.out (by omega))
      have eh : decide (xl.height < 0) = true := decide_eq_true hneg
      go_wp2
      go_ret
      exact ⟨rfl, HFIN.out⟩
end Go.Proofs.Ytdmancneccfgeaa.Sg
