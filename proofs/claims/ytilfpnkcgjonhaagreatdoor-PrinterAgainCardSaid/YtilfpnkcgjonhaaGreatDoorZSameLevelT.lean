/-
  The document's own comparison of levels but for their offsets: what it answers.
-/
import Derived.Test.YtilfpnkcgjonhaaGreatDoorZSameRow
import Derived.Test.YtilfpnkcgjonhaaGreatDoorZRound
namespace Go.Proofs.YtilfpnkcgjonhaaGreatDoor.Pr
open Go.RowKit Go.Sort Foyer.Printer Foyer.Lexer Foyer.Round
section
variable {P : Program} {ops : Array Oper} {md : Region.Mode} {Q : Exit → Act → World → Prop} {S : World → Prop} {N : List Nat}
theorem held_takeD {i d : Nat} {oi : Oper} {v : Value} {f : Nat} {listed : Array Bool} {t : Array Value} {ds : List Deferred} {w : World} (hi : ops[i]? = some oi) (hd : oi.dst = some d) (hB : takeB md ops i [] N listed = true)
  (hQ : ∀ c a w, Q (.panic c) (a.put oi.dst v) w → Q (.panic c) a w) (hy : YieldsIf P ops S oi v ⟨t, ds⟩) (hS : S w)
  (h : held P md ops Q S N f (listed.setIfInBounds i true) ⟨t.setIfInBounds d v, ds⟩ w) : held P md ops Q S N (f + 1) listed ⟨t, ds⟩ w :=
 held_take [] hi hB hQ hy hS (by rw [hd]; exact h)
end
theorem map_take_same {α β : Type} {f : α → β} {xs ys : List α} {k : Nat} {x y : α} (h : (xs.take k).map f = (ys.take k).map f) (hx : xs[k]? = some x) (hy : ys[k]? = some y) (hf : f x = f y) : (xs.take (k + 1)).map f = (ys.take (k + 1)).map f := by
 obtain ⟨h1, h2⟩ := List.getElem?_eq_some_iff.1 hx
 obtain ⟨h3, h4⟩ := List.getElem?_eq_some_iff.1 hy
 rw [List.take_succ_eq_append_getElem h1, List.take_succ_eq_append_getElem h3, List.map_append, List.map_append, h, h2, h4, List.map_singleton, List.map_singleton, hf]
theorem map_ne_at {α β : Type} {f : α → β} {xs ys : List α} {k : Nat} {x y : α} (hx : xs[k]? = some x) (hy : ys[k]? = some y) (h : ¬ f x = f y) : ¬ xs.map f = ys.map f := by
 intro e
 have h1 : (xs.map f)[k]? = some (f x) := by rw [List.getElem?_map, hx]; rfl
 rw [e, List.getElem?_map, hy] at h1
 exact h (Option.some.inj h1).symm
theorem map_same_end {α β : Type} {f : α → β} {xs ys : List α} {k : Nat} (h : (xs.take k).map f = (ys.take k).map f) (hx : xs.length = k) (hy : ys.length = k) : xs.map f = ys.map f := by
 rw [List.take_of_length_le (by omega), List.take_of_length_le (by omega)] at h
 exact h
set_option linter.unusedSimpArgs false in
set_option maxRecDepth 100000 in
set_option maxHeartbeats 8000000 in
theorem level_true (a b : LevelZ) (hab : a.bare = b.bare) (v1 v2 v3 v4 v5 u1 u2 u3 u4 u5 : Value) (w : World) (h : LevelIn w w.heap.size a v1 v2 v3 v4 v5) (h' : LevelIn w w.heap.size b u1 u2 u3 u4 u5) :
  Calls Tryz.prog 36 #[.agg (levelZC a v1 v2 v3 v4 v5).toArray, .agg (levelZC b u1 u2 u3 u4 u5).toArray] w fun e w' => e = .returned (.bool true) ∧ Below w.heap.size w w' := by
 have hr := hab
 clear hab
 obtain ⟨h1, h2, h3, h4, h5⟩ := h
 obtain ⟨h1', h2', h3', h4', h5'⟩ := h'
 obtain ⟨p1, c1, rfl⟩ := h1.slice
 obtain ⟨q1, d1, rfl⟩ := h1'.slice
 obtain ⟨p2, c2, rfl⟩ := h2.slice
 obtain ⟨q2, d2, rfl⟩ := h2'.slice
 obtain ⟨p3, c3, rfl⟩ := h3.slice
 obtain ⟨q3, d3, rfl⟩ := h3'.slice
 obtain ⟨p4, c4, rfl⟩ := h4.slice
 obtain ⟨q4, d4, rfl⟩ := h4'.slice
 obtain ⟨p5, c5, rfl⟩ := h5.slice
 obtain ⟨q5, d5, rfl⟩ := h5'.slice
 obtain ⟨nm, ht, bs, ars, ais, pls, ds, ps⟩ := a
 obtain ⟨nm', ht', bs', ars', ais', pls', ds', ps'⟩ := b
 simp only [LevelZ.bare] at h1 h2 h3 h4 h5 h1' h2' h3' h4' h5' hr ⊢
 obtain ⟨n1, hn1⟩ : ∃ n, bs.length = n := ⟨_, rfl⟩
 obtain ⟨m1, hm1⟩ : ∃ n, bs'.length = n := ⟨_, rfl⟩
 rw [hn1] at h1; rw [hm1] at h1'
 obtain ⟨n2, hn2⟩ : ∃ n, ars.length = n := ⟨_, rfl⟩
 obtain ⟨m2, hm2⟩ : ∃ n, ars'.length = n := ⟨_, rfl⟩
 rw [hn2] at h2; rw [hm2] at h2'
 obtain ⟨n3, hn3⟩ : ∃ n, ais.length = n := ⟨_, rfl⟩
 obtain ⟨m3, hm3⟩ : ∃ n, ais'.length = n := ⟨_, rfl⟩
 rw [hn3] at h3; rw [hm3] at h3'
 obtain ⟨n4, hn4⟩ : ∃ n, pls.length = n := ⟨_, rfl⟩
 obtain ⟨m4, hm4⟩ : ∃ n, pls'.length = n := ⟨_, rfl⟩
 rw [hn4] at h4; rw [hm4] at h4'
 obtain ⟨n5, hn5⟩ : ∃ n, ds.length = n := ⟨_, rfl⟩
 obtain ⟨m5, hm5⟩ : ∃ n, ds'.length = n := ⟨_, rfl⟩
 rw [hn5] at h5; rw [hm5] at h5'
 rw [hn1, hn2, hn3, hn4, hn5, hm1, hm2, hm3, hm4, hm5]
 show Calls Tryz.prog 36 #[.agg #[.string ⟨nm.toArray⟩, .int .i64 ht, .slice p1 n1 c1, .slice p2 n2 c2, .slice p3 n3 c3, .slice p4 n4 c4, .slice p5 n5 c5, .int .i64 ps], .agg #[.string ⟨nm'.toArray⟩, .int .i64 ht', .slice q1 m1 d1, .slice q2 m2 d2, .slice q3 m3 d3, .slice q4 m4 d4, .slice q5 m5 d5, .int .i64 ps']] w _
 have hb1 : n1 ≤ 9223372036854775807 := by have := h1.len.2; unfold maxLen at this; omega
 have hb2 : n2 ≤ 9223372036854775807 := by have := h2.len.2; unfold maxLen at this; omega
 have hb5 : n5 ≤ 9223372036854775807 := by have := h5.len.2; unfold maxLen at this; omega
 have H1 := hid h1; have H1' := hid h1'; have HN1 := hid hn1; have HM1 := hid hm1
 have H2 := hid h2; have H2' := hid h2'; have HN2 := hid hn2; have HM2 := hid hm2
 have H3 := hid h3; have H3' := hid h3'; have HN3 := hid hn3; have HM3 := hid hm3
 have H4 := hid h4; have H4' := hid h4'; have HN4 := hid hn4; have HM4 := hid hm4
 have H5 := hid h5; have H5' := hid h5'; have HN5 := hid hn5; have HM5 := hid hm5
 have HR := hid hr
 clear hn1 hn2 hn3 hn4 hn5 hm1 hm2 hm3 hm4 hm5 h1 h2 h3 h4 h5 h1' h2' h3' h4' h5' hr
 rcases (Decidable.em (nm = nm')).symm with g0 | g0
 ·have e0 : (nm != nm') = true := by simpa using g0
  exfalso
  have e := HR.out
  simp only [LevelZ.mk.injEq] at e
  exact g0 e.1
 subst g0
 have e0 : (nm != nm) = false := by simp
 rcases (Decidable.em (ht = ht')).symm with g1 | g1
 ·have e1 : ¬ (ht = ht') := g1
  exfalso
  have e := HR.out
  simp only [LevelZ.mk.injEq] at e
  exact g1 e.2.1
 subst g1
 rcases (Decidable.em (n1 = m1)).symm with g2 | g2
 ·have e2 : ¬ ((n1 : Int) = m1) := by omega
  exfalso
  have e := HR.out
  simp only [LevelZ.mk.injEq] at e
  have := congrArg List.length (e.2.2.1); (try simp only [List.length_map] at this); exact g2 (by rw [← HN1.out, ← HM1.out, this])
 subst g2
 rcases (Decidable.em (n2 = m2)).symm with g3 | g3
 ·have e3 : ¬ ((n2 : Int) = m2) := by omega
  exfalso
  have e := HR.out
  simp only [LevelZ.mk.injEq] at e
  have := congrArg List.length (e.2.2.2.1); (try simp only [List.length_map] at this); exact g3 (by rw [← HN2.out, ← HM2.out, this])
 subst g3
 rcases (Decidable.em (n5 = m5)).symm with g4 | g4
 ·have e4 : ¬ ((n5 : Int) = m5) := by omega
  exfalso
  have e := HR.out
  simp only [LevelZ.mk.injEq] at e
  have := congrArg List.length (e.2.2.2.2.2.2.1); (try simp only [List.length_map] at this); exact g4 (by rw [← HN5.out, ← HM5.out, this])
 subst g4
 have hb : Below w.heap.size w ((w.alloc (.cells #[.string ⟨nm.toArray⟩, .int .i64 ht, .slice p1 n1 c1, .slice p2 n2 c2, .slice p3 n3 c3, .slice p4 n4 c4, .slice p5 n5 c5, .int .i64 ps] 50)).alloc (.cells #[.string ⟨nm.toArray⟩, .int .i64 ht, .slice q1 n1 d1, .slice q2 n2 d2, .slice q3 m3 d3, .slice q4 m4 d4, .slice q5 n5 d5, .int .i64 ps'] 50)) := ((Below.refl _ _).alloc (Nat.le_refl _) _).alloc (by simp) _
 have X1 := hid ((Blk.new w 50 [.string ⟨nm.toArray⟩, .int .i64 ht, .slice p1 n1 c1, .slice p2 n2 c2, .slice p3 n3 c3, .slice p4 n4 c4, .slice p5 n5 c5, .int .i64 ps]).alloc (.cells #[.string ⟨nm.toArray⟩, .int .i64 ht, .slice q1 n1 d1, .slice q2 n2 d2, .slice q3 m3 d3, .slice q4 m4 d4, .slice q5 n5 d5, .int .i64 ps'] 50))
 have x2 := Blk.new (w.alloc (.cells #[.string ⟨nm.toArray⟩, .int .i64 ht, .slice p1 n1 c1, .slice p2 n2 c2, .slice p3 n3 c3, .slice p4 n4 c4, .slice p5 n5 c5, .int .i64 ps] 50)) 50 [.string ⟨nm.toArray⟩, .int .i64 ht, .slice q1 n1 d1, .slice q2 n2 d2, .slice q3 m3 d3, .slice q4 m4 d4, .slice q5 n5 d5, .int .i64 ps']
 rw [World.size_alloc] at x2
 have X2 := hid x2
 have K1 := hid ((H1.out.below hb).mono hb.size); have K1' := hid ((H1'.out.below hb).mono hb.size)
 have K2 := hid ((H2.out.below hb).mono hb.size); have K2' := hid ((H2'.out.below hb).mono hb.size)
 have K3 := hid ((H3.out.below hb).mono hb.size); have K3' := hid ((H3'.out.below hb).mono hb.size)
 have K4 := hid ((H4.out.below hb).mono hb.size); have K4' := hid ((H4'.out.below hb).mono hb.size)
 have K5 := hid ((H5.out.below hb).mono hb.size); have K5' := hid ((H5'.out.below hb).mono hb.size)
 have WB := hid hb
 clear hb x2 H1 H2 H3 H4 H5 H1' H2' H3' H4' H5'
 go_enter Tryz.func36, Tryz.ntmps36
 go_upto_region 1 with fail
 generalize (w.alloc (.cells #[.string ⟨nm.toArray⟩, .int .i64 ht, .slice p1 n1 c1, .slice p2 n2 c2, .slice p3 n3 c3, .slice p4 n4 c4, .slice p5 n5 c5, .int .i64 ps] 50)).alloc (.cells #[.string ⟨nm.toArray⟩, .int .i64 ht, .slice q1 n1 d1, .slice q2 n2 d2, .slice q3 m3 d3, .slice q4 m4 d4, .slice q5 n5 d5, .int .i64 ps'] 50) = W at *
 have y0 := X1.out.cell (i := 0) rfl
 have z0 := X2.out.cell (i := 0) rfl
 have y1 := X1.out.cell (i := 1) rfl
 have z1 := X2.out.cell (i := 1) rfl
 have y2 := X1.out.cell (i := 2) rfl
 have z2 := X2.out.cell (i := 2) rfl
 have y3 := X1.out.cell (i := 3) rfl
 have z3 := X2.out.cell (i := 3) rfl
 have y4 := X1.out.cell (i := 4) rfl
 have z4 := X2.out.cell (i := 4) rfl
 have y5 := X1.out.cell (i := 5) rfl
 have z5 := X2.out.cell (i := 5) rfl
 have y6 := X1.out.cell (i := 6) rfl
 have z6 := X2.out.cell (i := 6) rfl
 rcases (Decidable.em (ais = ais')).symm with g5 | g5
 ·have e5 : decide (ais = ais') = false := decide_eq_false g5
  exfalso
  have e := HR.out
  simp only [LevelZ.mk.injEq] at e
  exact g5 e.2.2.2.2.1
 ·have e5 : decide (ais = ais') = true := decide_eq_true g5
  go_wp2_with fail
  refine (boxes_same ais ais' _ _ W K3.out K3'.out).mono ?_; rintro e W1 ⟨rfl, hb1⟩
  rw [e5]
  have HB1 := hid hb1
  clear hb1 y0 z0 y1 z1 y2 z2 y3 z3 y4 z4 y5 z5 y6 z6
  have y0 := (blk_later X1.out HB1.out).cell (i := 0) rfl
  have z0 := (blk_later X2.out HB1.out).cell (i := 0) rfl
  have y1 := (blk_later X1.out HB1.out).cell (i := 1) rfl
  have z1 := (blk_later X2.out HB1.out).cell (i := 1) rfl
  have y2 := (blk_later X1.out HB1.out).cell (i := 2) rfl
  have z2 := (blk_later X2.out HB1.out).cell (i := 2) rfl
  have y3 := (blk_later X1.out HB1.out).cell (i := 3) rfl
  have z3 := (blk_later X2.out HB1.out).cell (i := 3) rfl
  have y4 := (blk_later X1.out HB1.out).cell (i := 4) rfl
  have z4 := (blk_later X2.out HB1.out).cell (i := 4) rfl
  have y5 := (blk_later X1.out HB1.out).cell (i := 5) rfl
  have z5 := (blk_later X2.out HB1.out).cell (i := 5) rfl
  have y6 := (blk_later X1.out HB1.out).cell (i := 6) rfl
  have z6 := (blk_later X2.out HB1.out).cell (i := 6) rfl
  rcases (Decidable.em (pls = pls')).symm with g6 | g6
  ·have e6 : decide (pls = pls') = false := decide_eq_false g6
   exfalso
   have e := HR.out
   simp only [LevelZ.mk.injEq] at e
   exact g6 e.2.2.2.2.2.1
  ·have e6 : decide (pls = pls') = true := decide_eq_true g6
   go_wp2_with fail
   refine (boxes_same pls pls' _ _ W1 ((K4.out.below HB1.out).mono HB1.out.size) ((K4'.out.below HB1.out).mono HB1.out.size)).mono ?_; rintro e W2 ⟨rfl, hb2⟩
   rw [e6]
   have HB2 := hid (HB1.out.trans (hb2.mono HB1.out.size))
   clear hb2 y0 z0 y1 z1 y2 z2 y3 z3 y4 z4 y5 z5 y6 z6
   have G5 := hid g5; have G6 := hid g6
   clear g5 g6 e5 e6 K3 K3' K4 K4'
   have y0 := (blk_later X1.out HB2.out).cell (i := 0) rfl
   have z0 := (blk_later X2.out HB2.out).cell (i := 0) rfl
   have y1 := (blk_later X1.out HB2.out).cell (i := 1) rfl
   have z1 := (blk_later X2.out HB2.out).cell (i := 1) rfl
   have y2 := (blk_later X1.out HB2.out).cell (i := 2) rfl
   have z2 := (blk_later X2.out HB2.out).cell (i := 2) rfl
   have y3 := (blk_later X1.out HB2.out).cell (i := 3) rfl
   have z3 := (blk_later X2.out HB2.out).cell (i := 3) rfl
   have y4 := (blk_later X1.out HB2.out).cell (i := 4) rfl
   have z4 := (blk_later X2.out HB2.out).cell (i := 4) rfl
   have y5 := (blk_later X1.out HB2.out).cell (i := 5) rfl
   have z5 := (blk_later X2.out HB2.out).cell (i := 5) rfl
   have y6 := (blk_later X1.out HB2.out).cell (i := 6) rfl
   have z6 := (blk_later X2.out HB2.out).cell (i := 6) rfl
   go_wp2
   go_loopw [5] (fun i wr => ∃ k : Nat, i = .int .i64 k ∧ k ≤ n1 ∧ Hid ((bs.take k).map BlockZ.bare = (bs'.take k).map BlockZ.bare) ∧ Hid (Below W.heap.size W wr)) (fun i _ => n1 - (intOf i).toNat)
   case atStart => exact ⟨0, rfl, Nat.zero_le _, hid (by simp), HB2⟩
   case round =>
    obtain ⟨k, rfl, hk, HS, HB⟩ := hrel
    obtain ⟨wo, hwo⟩ : ∃ wo, wo = wr := ⟨_, rfl⟩
    subst hwo
    clear y0 z0 y1 z1 y2 z2 y3 z3 y4 z4 y5 z5 y6 z6
    have y2 := (blk_later X1.out HB.out).cell (i := 2) rfl
    have z2 := (blk_later X2.out HB.out).cell (i := 2) rfl
    by_cases hk2 : k < n1
    ·obtain ⟨x, hx⟩ : ∃ m, bs[k]? = some m := ⟨_, List.getElem?_eq_getElem (by have := HN1.out; omega)⟩
     obtain ⟨y, hy⟩ : ∃ m, bs'[k]? = some m := ⟨_, List.getElem?_eq_getElem (by have := HM1.out; omega)⟩
     obtain ⟨g, go, cs, rfl, hg, hc, hcell⟩ := (K1.out.below HB.out).at hx
     obtain ⟨v6, rfl, hr6⟩ := hc
     obtain ⟨g', go', cs', rfl, hg', hc', hcell'⟩ := (K1'.out.below HB.out).at hy
     obtain ⟨u6, rfl, hr6'⟩ := hc'
     obtain ⟨p6, c6, rfl⟩ := hr6.slice
     obtain ⟨q6, d6, rfl⟩ := hr6'.slice
     obtain ⟨n6, hn6⟩ : ∃ n, x.rows.length = n := ⟨_, rfl⟩
     obtain ⟨m6, hm6⟩ : ∃ n, y.rows.length = n := ⟨_, rfl⟩
     rw [hn6] at hr6 hcell; rw [hm6] at hr6' hcell'
     have d0 := hcell 0 _ rfl
     have d0' := hcell' 0 _ rfl
     have d1 := hcell 1 _ rfl
     have d1' := hcell' 1 _ rfl
     rw [show blockL.size = 3 from rfl] at d0 d1 d0' d1'
     rw [Nat.add_zero] at d0 d0'
     have hki : (0 : Int) ≤ k ∧ (k : Int) < n1 := by omega
     have HX := hid hx; have HY := hid hy; have HN6 := hid hn6; have HM6 := hid hm6; have K6 := hid hr6; have K6' := hid hr6'; have HG := hid hg; have HG' := hid hg'
     clear hcell hcell' hx hy hg hg' hn6 hm6 hr6 hr6'
     obtain ⟨bn, hbn⟩ : ∃ s, x.name = s := ⟨_, rfl⟩
     obtain ⟨bn', hbn'⟩ : ∃ s, y.name = s := ⟨_, rfl⟩
     rw [hbn] at d0; rw [hbn'] at d0'
     have HBN := hid hbn; have HBN' := hid hbn'
     clear hbn hbn'
     rcases (Decidable.em (bn = bn')).symm with g7 | g7
     ·have e7 : (bn != bn') = true := by simpa using g7
      exfalso
      have e := HR.out
      simp only [LevelZ.mk.injEq] at e
      exact map_ne_at HX.out HY.out (fun e => g7 (by have h9 : x.bare.name = y.bare.name := congrArg BlockZ.name e; rw [← HBN.out, ← HBN'.out]; exact h9)) e.2.2.1
     ·subst g7
      have e7 : (bn != bn) = false := by simp
      rcases (Decidable.em (n6 = m6)).symm with g8 | g8
      ·have e8 : ¬ ((n6 : Int) = m6) := by omega
       exfalso
       have e := HR.out
       simp only [LevelZ.mk.injEq] at e
       exact map_ne_at HX.out HY.out (fun e => g8 (by have := congrArg (fun b => b.rows.length) e; simp only [BlockZ.bare, List.length_map] at this; rw [← HN6.out, ← HM6.out, this])) e.2.2.1
      ·subst g8
       have hb6 : n6 ≤ 9223372036854775807 := by have := K6.out.len.2; unfold maxLen at this; omega
       go_wp2
       go_quiet (fail)
       go_wp2
       go_loopw [6] (fun i wr => ∃ j : Nat, i = .int .i64 j ∧ j ≤ n6 ∧ Hid ((x.rows.take j).map RowZ.bare = (y.rows.take j).map RowZ.bare) ∧ Hid (Below W.heap.size W wr) ∧ Hid (Below wo.heap.size wo wr)) (fun i _ => n6 - (intOf i).toNat)
       case atStart => exact ⟨0, rfl, Nat.zero_le _, hid (by simp), hid (below_drewN HB.out _), hid (below_drewN (Below.refl _ _) _)⟩
       case round =>
        obtain ⟨j, rfl, hj, HT, HC, HD⟩ := hrel
        clear y2 z2
        have xb := blk_later X1.out HC.out; have zb := blk_later X2.out HC.out
        have y2 := xb.cell (i := 2) rfl
        have z2 := zb.cell (i := 2) rfl
        have hy2 := xb.lt; have hz2 := zb.lt
        clear xb zb
        have bg : g < wo.heap.size := Nat.lt_of_lt_of_le HG.out HB.out.size
        have bg' : g' < wo.heap.size := Nat.lt_of_lt_of_le HG'.out HB.out.size
        have f1 := (HD.out.cell (p := ⟨g, go + k * 3 + 1, none⟩) bg).trans d1
        have f1' := (HD.out.cell (p := ⟨g', go' + k * 3 + 1, none⟩) bg').trans d1'
        by_cases hj2 : j < n6
        ·obtain ⟨s, hs⟩ : ∃ m, x.rows[j]? = some m := ⟨_, List.getElem?_eq_getElem (by have := HN6.out; omega)⟩
         obtain ⟨t, ht2⟩ : ∃ m, y.rows[j]? = some m := ⟨_, List.getElem?_eq_getElem (by have := HM6.out; omega)⟩
         have kz := (K6.out.kept fun q hq => HD.out.block q (Nat.lt_of_lt_of_le hq HB.out.size))
         have kz' := (K6'.out.kept fun q hq => HD.out.block q (Nat.lt_of_lt_of_le hq HB.out.size))
         obtain ⟨rg, ro, cs, rfl, hrg, hc, hcell⟩ := kz.at hs
         obtain ⟨v7, rfl, hr7⟩ := hc
         obtain ⟨rg', ro', cs', rfl, hrg', hc', hcell'⟩ := kz'.at ht2
         obtain ⟨u7, rfl, hr7'⟩ := hc'
         clear kz kz'
         have hrg2 : rg < wr.heap.size := Nat.lt_of_lt_of_le hrg HC.out.size
         have hrg2' : rg' < wr.heap.size := Nat.lt_of_lt_of_le hrg' HC.out.size
         have r0 := hcell 0 _ rfl
         have r0' := hcell' 0 _ rfl
         have r1 := hcell 1 _ rfl
         have r1' := hcell' 1 _ rfl
         have r2 := hcell 2 _ rfl
         have r2' := hcell' 2 _ rfl
         have r3 := hcell 3 _ rfl
         have r3' := hcell' 3 _ rfl
         have r4 := hcell 4 _ rfl
         have r4' := hcell' 4 _ rfl
         have r5 := hcell 5 _ rfl
         have r5' := hcell' 5 _ rfl
         have r6 := hcell 6 _ rfl
         have r6' := hcell' 6 _ rfl
         have r7 := hcell 7 _ rfl
         have r7' := hcell' 7 _ rfl
         rw [show rowL.size = 8 from rfl] at r0 r0' r1 r1' r2 r2' r3 r3' r4 r4' r5 r5' r6 r6' r7 r7'
         rw [Nat.add_zero] at r0 r0'
         have hji : (0 : Int) ≤ j ∧ (j : Int) < n6 := by omega
         have gz : g < wr.heap.size := Nat.lt_of_lt_of_le bg HD.out.size
         have gz' : g' < wr.heap.size := Nat.lt_of_lt_of_le bg' HD.out.size
         have HS2 := hid hs; have HT2 := hid ht2; have HM1' := hid (hr7.mono (Nat.le_trans (Nat.le_refl _) HC.out.size)); have HM2' := hid (hr7'.mono (Nat.le_trans (Nat.le_refl _) HC.out.size))
         clear hcell hcell' hs ht2 hr7 hr7' d0 d1 d0' d1' hrg hrg' bg bg'
         obtain ⟨q, hq⟩ : ∃ q, decide (s.bare = t.bare) = q := ⟨_, rfl⟩
         have HQ := hid hq
         clear hq
         go_wp2
         refine wp_region_any (by kernel_rfl) ?_
         have hS0 : Below wr.heap.size wr wr.drew := (Below.refl _ _).drew
         refine any_of_held (S := fun W => Below wr.heap.size wr W) (N := []) _ _ _ _ ?_
         change held _ _ _ _ _ _ _ _ _ wr.drew
         obtain ⟨wa, hwa⟩ : ∃ wa, wr.drew = wa := ⟨_, rfl⟩
         rw [hwa] at hS0 ⊢
         clear hwa
         refine held_takeD (i := 0) (d := 112) (v := .pointer (some ⟨w.heap.size, 2, none⟩)) rfl rfl (by kernel_rfl) (fun _ _ _ h => h) (Or.inl ⟨by rfl, fun w' hS => by go_simp⟩) hS0 ?_
         simp only [aA, aB, aC]
         refine held_takeD (i := 1) (d := 113) (v := .slice (some ⟨g, go, none⟩) n1 c1) rfl rfl (by kernel_rfl) (fun _ _ _ h => h) (Or.inl ⟨by rfl, fun w' hS => by have := (hS.cell (p := ⟨w.heap.size, 2, none⟩) hy2).trans y2; go_simp⟩) hS0 ?_
         simp only [aA, aB, aC]
         refine held_takeD (i := 2) (d := 114) (v := .int .i64 (k : Nat)) rfl rfl (by kernel_rfl) (fun _ _ _ h => h) (Or.inl ⟨by rfl, fun w' hS => by go_simp⟩) hS0 ?_
         simp only [aA, aB, aC]
         refine held_takeD (i := 3) (d := 115) (v := .pointer (some ⟨g, go + k * 3, none⟩)) rfl rfl (by kernel_rfl) (fun _ _ _ h => h) (Or.inl ⟨by rfl, fun w' hS => by go_simp⟩) hS0 ?_
         simp only [aA, aB, aC]
         refine held_takeD (i := 4) (d := 116) (v := .pointer (some ⟨g, go + k * 3 + 1, none⟩)) rfl rfl (by kernel_rfl) (fun _ _ _ h => h) (Or.inl ⟨by rfl, fun w' hS => by go_simp⟩) hS0 ?_
         simp only [aA, aB, aC]
         refine held_takeD (i := 5) (d := 117) (v := .slice (some ⟨rg, ro, none⟩) n6 c6) rfl rfl (by kernel_rfl) (fun _ _ _ h => h) (Or.inl ⟨by rfl, fun w' hS => by have := (hS.cell (p := ⟨g, go + k * 3 + 1, none⟩) gz).trans f1; go_simp⟩) hS0 ?_
         simp only [aA, aB, aC]
         refine held_takeD (i := 6) (d := 118) (v := .int .i64 (j : Nat)) rfl rfl (by kernel_rfl) (fun _ _ _ h => h) (Or.inl ⟨by rfl, fun w' hS => by go_simp⟩) hS0 ?_
         simp only [aA, aB, aC]
         refine held_takeD (i := 7) (d := 119) (v := .pointer (some ⟨rg, ro + j * 8, none⟩)) rfl rfl (by kernel_rfl) (fun _ _ _ h => h) (Or.inl ⟨by rfl, fun w' hS => by go_simp⟩) hS0 ?_
         simp only [aA, aB, aC]
         refine held_takeD (i := 8) (d := 120) (v := .agg #[.string ⟨s.name.toArray⟩, .int .i64 s.x, .int .i64 s.y, .int .i64 s.first, .int .i64 s.last, .int .i64 s.step, v7, .int .i64 s.pos]) rfl rfl (by kernel_rfl) (fun _ _ _ h => h) (Or.inl ⟨by rfl, fun w' hS => by have := (hS.cell (p := ⟨rg, ro + j * 8, none⟩) hrg2).trans r0; have := (hS.cell (p := ⟨rg, ro + j * 8 + 1, none⟩) hrg2).trans r1; have := (hS.cell (p := ⟨rg, ro + j * 8 + 2, none⟩) hrg2).trans r2; have := (hS.cell (p := ⟨rg, ro + j * 8 + 3, none⟩) hrg2).trans r3; have := (hS.cell (p := ⟨rg, ro + j * 8 + 4, none⟩) hrg2).trans r4; have := (hS.cell (p := ⟨rg, ro + j * 8 + 5, none⟩) hrg2).trans r5; have := (hS.cell (p := ⟨rg, ro + j * 8 + 6, none⟩) hrg2).trans r6; have := (hS.cell (p := ⟨rg, ro + j * 8 + 7, none⟩) hrg2).trans r7; go_simp⟩) hS0 ?_
         simp only [aA, aB, aC]
         refine held_takeD (i := 9) (d := 121) (v := .pointer (some ⟨w.heap.size + 1, 2, none⟩)) rfl rfl (by kernel_rfl) (fun _ _ _ h => h) (Or.inl ⟨by rfl, fun w' hS => by go_simp⟩) hS0 ?_
         simp only [aA, aB, aC]
         refine held_takeD (i := 10) (d := 122) (v := .slice (some ⟨g', go', none⟩) n1 d1) rfl rfl (by kernel_rfl) (fun _ _ _ h => h) (Or.inl ⟨by rfl, fun w' hS => by have := (hS.cell (p := ⟨w.heap.size + 1, 2, none⟩) hz2).trans z2; go_simp⟩) hS0 ?_
         simp only [aA, aB, aC]
         refine held_takeD (i := 11) (d := 123) (v := .int .i64 (k : Nat)) rfl rfl (by kernel_rfl) (fun _ _ _ h => h) (Or.inl ⟨by rfl, fun w' hS => by go_simp⟩) hS0 ?_
         simp only [aA, aB, aC]
         refine held_takeD (i := 12) (d := 124) (v := .pointer (some ⟨g', go' + k * 3, none⟩)) rfl rfl (by kernel_rfl) (fun _ _ _ h => h) (Or.inl ⟨by rfl, fun w' hS => by go_simp⟩) hS0 ?_
         simp only [aA, aB, aC]
         refine held_takeD (i := 13) (d := 125) (v := .pointer (some ⟨g', go' + k * 3 + 1, none⟩)) rfl rfl (by kernel_rfl) (fun _ _ _ h => h) (Or.inl ⟨by rfl, fun w' hS => by go_simp⟩) hS0 ?_
         simp only [aA, aB, aC]
         refine held_takeD (i := 14) (d := 126) (v := .slice (some ⟨rg', ro', none⟩) n6 d6) rfl rfl (by kernel_rfl) (fun _ _ _ h => h) (Or.inl ⟨by rfl, fun w' hS => by have := (hS.cell (p := ⟨g', go' + k * 3 + 1, none⟩) gz').trans f1'; go_simp⟩) hS0 ?_
         simp only [aA, aB, aC]
         refine held_takeD (i := 15) (d := 127) (v := .int .i64 (j : Nat)) rfl rfl (by kernel_rfl) (fun _ _ _ h => h) (Or.inl ⟨by rfl, fun w' hS => by go_simp⟩) hS0 ?_
         simp only [aA, aB, aC]
         refine held_takeD (i := 16) (d := 128) (v := .pointer (some ⟨rg', ro' + j * 8, none⟩)) rfl rfl (by kernel_rfl) (fun _ _ _ h => h) (Or.inl ⟨by rfl, fun w' hS => by go_simp⟩) hS0 ?_
         simp only [aA, aB, aC]
         refine held_takeD (i := 17) (d := 129) (v := .agg #[.string ⟨t.name.toArray⟩, .int .i64 t.x, .int .i64 t.y, .int .i64 t.first, .int .i64 t.last, .int .i64 t.step, u7, .int .i64 t.pos]) rfl rfl (by kernel_rfl) (fun _ _ _ h => h) (Or.inl ⟨by rfl, fun w' hS => by have := (hS.cell (p := ⟨rg', ro' + j * 8, none⟩) hrg2').trans r0'; have := (hS.cell (p := ⟨rg', ro' + j * 8 + 1, none⟩) hrg2').trans r1'; have := (hS.cell (p := ⟨rg', ro' + j * 8 + 2, none⟩) hrg2').trans r2'; have := (hS.cell (p := ⟨rg', ro' + j * 8 + 3, none⟩) hrg2').trans r3'; have := (hS.cell (p := ⟨rg', ro' + j * 8 + 4, none⟩) hrg2').trans r4'; have := (hS.cell (p := ⟨rg', ro' + j * 8 + 5, none⟩) hrg2').trans r5'; have := (hS.cell (p := ⟨rg', ro' + j * 8 + 6, none⟩) hrg2').trans r6'; have := (hS.cell (p := ⟨rg', ro' + j * 8 + 7, none⟩) hrg2').trans r7'; go_simp⟩) hS0 ?_
         simp only [aA, aB, aC]
         refine held_one (i := 18) rfl (by kernel_rfl) (fun K hK => ?_)
         go_simp
         refine (row_same s t v7 u7 wa ((HM1'.out.below hS0).mono hS0.size) ((HM2'.out.below hS0).mono hS0.size)).mono ?_
         rintro e W3 ⟨rfl, hw3⟩
         rw [HQ.out]
         have hS1 : Below wr.heap.size wr W3 := hS0.trans (hw3.mono hS0.size)
         clear hS0 hw3
         refine hK.out _ _ (fun _ => hS1) ?_
         clear hK K
         try simp only [Act.put, aA, aB, aC]
         refine held_take [] (i := 19) (v := .bool (!q)) rfl (by kernel_rfl) (fun _ _ _ h => h) (Or.inl ⟨by rfl, fun w' hS => by go_simp⟩) hS1 ?_
         try simp only [Act.put, aA, aB, aC]
         refine held_done (by kernel_rfl) ?_ _
         have HC1 := hid (HC.out.trans (hS1.mono HC.out.size))
         have HD1 := hid (HD.out.trans (hS1.mono HD.out.size))
         clear hS1
         cases q with
         | false =>
          exfalso
          have e := HR.out
          simp only [LevelZ.mk.injEq] at e
          exact map_ne_at HX.out HY.out (fun e => map_ne_at HS2.out HT2.out (of_decide_eq_false HQ.out) (congrArg BlockZ.rows e)) e.2.2.1
         | true =>
          have HT3 := hid (map_take_same HT.out HS2.out HT2.out (of_decide_eq_true HQ.out))
          go_wp2
          refine ⟨⟨j + 1, by go_num, by omega, HT3, HC1, HD1⟩, ?_⟩
          simp [intOf]; omega
        ·obtain rfl : j = n6 := by omega
         have HT3 := hid (map_take_same HS.out HX.out HY.out (by
          have e := map_same_end HT.out HN6.out HM6.out
          have hn : x.name = y.name := by rw [HBN.out, HBN'.out]
          unfold BlockZ.bare; rw [hn, e]))
         go_wp2
         refine ⟨⟨k + 1, by go_num, by omega, HT3, HC⟩, ?_⟩
         simp [intOf]; omega
    ·obtain rfl : k = n1 := by omega
     have G1 := hid (map_same_end HS.out HN1.out HM1.out)
     clear HS hk hk2 hb1
     have y3 := (blk_later X1.out HB.out).cell (i := 3) rfl
     have z3 := (blk_later X2.out HB.out).cell (i := 3) rfl
     go_wp2
     go_loopw [7] (fun i wr => ∃ j : Nat, i = .int .i64 j ∧ j ≤ n2 ∧ Hid ((ars.take j).map AreaZ.bare = (ars'.take j).map AreaZ.bare) ∧ Hid (Below W.heap.size W wr)) (fun i _ => n2 - (intOf i).toNat)
     case atStart => exact ⟨0, rfl, Nat.zero_le _, hid (by simp), HB⟩
     case round =>
      clear HB y2 z2 y3 z3
      obtain ⟨j, rfl, hj, HS, HB⟩ := hrel
      have y3 := (blk_later X1.out HB.out).cell (i := 3) rfl
      have z3 := (blk_later X2.out HB.out).cell (i := 3) rfl
      have hy3 := (blk_later X1.out HB.out).lt; have hz3 := (blk_later X2.out HB.out).lt
      by_cases hj2 : j < n2
      ·obtain ⟨x, hx⟩ : ∃ m, ars[j]? = some m := ⟨_, List.getElem?_eq_getElem (by have := HN2.out; omega)⟩
       obtain ⟨y, hy⟩ : ∃ m, ars'[j]? = some m := ⟨_, List.getElem?_eq_getElem (by have := HM2.out; omega)⟩
       obtain ⟨g, go, cs, rfl, hg, hc, hcell⟩ := (K2.out.below HB.out).at hx
       obtain rfl := hc
       obtain ⟨g', go', cs', rfl, hg', hc', hcell'⟩ := (K2'.out.below HB.out).at hy
       obtain rfl := hc'
       have k0 := hcell 0 _ rfl
       have k0' := hcell' 0 _ rfl
       have k1 := hcell 1 _ rfl
       have k1' := hcell' 1 _ rfl
       have k2 := hcell 2 _ rfl
       have k2' := hcell' 2 _ rfl
       have k3 := hcell 3 _ rfl
       have k3' := hcell' 3 _ rfl
       have k4 := hcell 4 _ rfl
       have k4' := hcell' 4 _ rfl
       have k5 := hcell 5 _ rfl
       have k5' := hcell' 5 _ rfl
       rw [show areaL.size = 7 from rfl] at k0 k0' k1 k1' k2 k2' k3 k3' k4 k4' k5 k5'
       rw [Nat.add_zero] at k0 k0'
       have hg2 : g < wr.heap.size := Nat.lt_of_lt_of_le hg HB.out.size
       have hg2' : g' < wr.heap.size := Nat.lt_of_lt_of_le hg' HB.out.size
       have hji : (0 : Int) ≤ j ∧ (j : Int) < n2 := by omega
       have mg := fun x y xs ys w => box_gneq x y xs ys w
       have HX := hid hx; have HY := hid hy
       clear hcell hcell' hx hy hg hg'
       obtain ⟨an, ⟨bx, by1, bx2, by2⟩, ah, ap⟩ := x
       obtain ⟨an', ⟨bx', by1', bx2', by2'⟩, ah', ap'⟩ := y
       simp only at k0 k0' k1 k1' k2 k2' k3 k3' k4 k4' k5 k5'
       rcases (Decidable.em (an = an')).symm with g7 | g7
       ·have e7 : (an != an') = true := by simpa using g7
        exfalso
        have e := HR.out
        simp only [LevelZ.mk.injEq] at e
        exact map_ne_at HX.out HY.out (fun e => g7 (by have h9 := congrArg AreaZ.name e; exact h9)) e.2.2.2.1
       ·subst g7
        have e7 : (an != an) = false := by simp
        rcases (Decidable.em (bx = bx' ∧ by1 = by1' ∧ bx2 = bx2' ∧ by2 = by2')).symm with g8 | g8
        ·have me := fun w => box_neq bx by1 bx2 by2 bx' by1' bx2' by2' true (by rw [decide_eq_false g8]; rfl) w
         exfalso
         have e := HR.out
         simp only [LevelZ.mk.injEq] at e
         exact map_ne_at HX.out HY.out (fun e => g8 (by have := congrArg AreaZ.box e; simpa [AreaZ.bare] using this)) e.2.2.2.1
        ·obtain ⟨rfl, rfl, rfl, rfl⟩ := g8
         have me := fun w => box_neq bx by1 bx2 by2 bx by1 bx2 by2 false (by simp) w
         rcases (Decidable.em (ah = ah')).symm with g9 | g9
         ·have e9 : ¬ (ah = ah') := g9
          exfalso
          have e := HR.out
          simp only [LevelZ.mk.injEq] at e
          exact map_ne_at HX.out HY.out (fun e => g9 (by have h9 := congrArg AreaZ.holds e; exact h9)) e.2.2.2.1
         ·subst g9
          have HT := hid (map_take_same HS.out HX.out HY.out rfl)
          go_wp2
          refine wp_region_any (by kernel_rfl) ?_
          have hS0 : Below wr.heap.size wr wr.drew := (Below.refl _ _).drew
          refine any_of_held (S := fun W => Below wr.heap.size wr W) (N := []) _ _ _ _ ?_
          change held _ _ _ _ _ _ _ _ _ wr.drew
          obtain ⟨wa, hwa⟩ : ∃ wa, wr.drew = wa := ⟨_, rfl⟩
          rw [hwa] at hS0 ⊢
          clear hwa
          refine held_takeD (i := 0) (d := 139) (v := .pointer (some ⟨w.heap.size, 3, none⟩)) rfl rfl (by kernel_rfl) (fun _ _ _ h => h) (Or.inl ⟨by kernel_rfl, fun w' hS => by go_simp⟩) hS0 ?_
          simp only [aA, aB, aC]
          refine held_takeD (i := 1) (d := 140) (v := .slice (some ⟨g, go, none⟩) n2 c2) rfl rfl (by kernel_rfl) (fun _ _ _ h => h) (Or.inl ⟨by kernel_rfl, fun w' hS => by have := (hS.cell (p := ⟨w.heap.size, 3, none⟩) hy3).trans y3; go_simp⟩) hS0 ?_
          simp only [aA, aB, aC]
          refine held_takeD (i := 2) (d := 141) (v := .int .i64 (j : Nat)) rfl rfl (by kernel_rfl) (fun _ _ _ h => h) (Or.inl ⟨by kernel_rfl, fun w' hS => by go_simp⟩) hS0 ?_
          simp only [aA, aB, aC]
          refine held_takeD (i := 3) (d := 142) (v := .pointer (some ⟨g, go + j * 7, none⟩)) rfl rfl (by kernel_rfl) (fun _ _ _ h => h) (Or.inl ⟨by kernel_rfl, fun w' hS => by go_simp⟩) hS0 ?_
          simp only [aA, aB, aC]
          refine held_takeD (i := 4) (d := 143) (v := .pointer (some ⟨g, go + j * 7, none⟩)) rfl rfl (by kernel_rfl) (fun _ _ _ h => h) (Or.inl ⟨by kernel_rfl, fun w' hS => by go_simp⟩) hS0 ?_
          simp only [aA, aB, aC]
          refine held_takeD (i := 5) (d := 144) (v := .string ⟨an.toArray⟩) rfl rfl (by kernel_rfl) (fun _ _ _ h => h) (Or.inl ⟨by kernel_rfl, fun w' hS => by have := (hS.cell (p := ⟨g, go + j * 7, none⟩) hg2).trans k0; go_simp⟩) hS0 ?_
          simp only [aA, aB, aC]
          refine held_takeD (i := 6) (d := 145) (v := .pointer (some ⟨w.heap.size + 1, 3, none⟩)) rfl rfl (by kernel_rfl) (fun _ _ _ h => h) (Or.inl ⟨by kernel_rfl, fun w' hS => by go_simp⟩) hS0 ?_
          simp only [aA, aB, aC]
          refine held_takeD (i := 7) (d := 146) (v := .slice (some ⟨g', go', none⟩) n2 d2) rfl rfl (by kernel_rfl) (fun _ _ _ h => h) (Or.inl ⟨by kernel_rfl, fun w' hS => by have := (hS.cell (p := ⟨w.heap.size + 1, 3, none⟩) hz3).trans z3; go_simp⟩) hS0 ?_
          simp only [aA, aB, aC]
          refine held_takeD (i := 8) (d := 147) (v := .int .i64 (j : Nat)) rfl rfl (by kernel_rfl) (fun _ _ _ h => h) (Or.inl ⟨by kernel_rfl, fun w' hS => by go_simp⟩) hS0 ?_
          simp only [aA, aB, aC]
          refine held_takeD (i := 9) (d := 148) (v := .pointer (some ⟨g', go' + j * 7, none⟩)) rfl rfl (by kernel_rfl) (fun _ _ _ h => h) (Or.inl ⟨by kernel_rfl, fun w' hS => by go_simp⟩) hS0 ?_
          simp only [aA, aB, aC]
          refine held_takeD (i := 10) (d := 149) (v := .pointer (some ⟨g', go' + j * 7, none⟩)) rfl rfl (by kernel_rfl) (fun _ _ _ h => h) (Or.inl ⟨by kernel_rfl, fun w' hS => by go_simp⟩) hS0 ?_
          simp only [aA, aB, aC]
          refine held_takeD (i := 11) (d := 150) (v := .string ⟨an.toArray⟩) rfl rfl (by kernel_rfl) (fun _ _ _ h => h) (Or.inl ⟨by kernel_rfl, fun w' hS => by have := (hS.cell (p := ⟨g', go' + j * 7, none⟩) hg2').trans k0'; go_simp⟩) hS0 ?_
          simp only [aA, aB, aC]
          refine held_takeD (i := 12) (d := 151) (v := .bool false) rfl rfl (by kernel_rfl) (fun _ _ _ h => h) (Or.inl ⟨by kernel_rfl, fun w' hS => by go_simp⟩) hS0 ?_
          simp only [aA, aB, aC]
          refine held_takeD (i := 13) (d := 152) (v := .bool false) rfl rfl (by kernel_rfl) (fun _ _ _ h => h) (Or.inl ⟨by kernel_rfl, fun w' hS => by go_simp⟩) hS0 ?_
          simp only [aA, aB, aC]
          refine held_takeD (i := 14) (d := 153) (v := .pointer (some ⟨w.heap.size, 3, none⟩)) rfl rfl (by kernel_rfl) (fun _ _ _ h => h) (Or.inl ⟨by kernel_rfl, fun w' hS => by go_simp⟩) hS0 ?_
          simp only [aA, aB, aC]
          refine held_takeD (i := 15) (d := 154) (v := .slice (some ⟨g, go, none⟩) n2 c2) rfl rfl (by kernel_rfl) (fun _ _ _ h => h) (Or.inl ⟨by kernel_rfl, fun w' hS => by have := (hS.cell (p := ⟨w.heap.size, 3, none⟩) hy3).trans y3; go_simp⟩) hS0 ?_
          simp only [aA, aB, aC]
          refine held_takeD (i := 16) (d := 155) (v := .int .i64 (j : Nat)) rfl rfl (by kernel_rfl) (fun _ _ _ h => h) (Or.inl ⟨by kernel_rfl, fun w' hS => by go_simp⟩) hS0 ?_
          simp only [aA, aB, aC]
          refine held_takeD (i := 17) (d := 156) (v := .pointer (some ⟨g, go + j * 7, none⟩)) rfl rfl (by kernel_rfl) (fun _ _ _ h => h) (Or.inl ⟨by kernel_rfl, fun w' hS => by go_simp⟩) hS0 ?_
          simp only [aA, aB, aC]
          refine held_takeD (i := 18) (d := 157) (v := .pointer (some ⟨g, go + j * 7 + 1, none⟩)) rfl rfl (by kernel_rfl) (fun _ _ _ h => h) (Or.inl ⟨by kernel_rfl, fun w' hS => by go_simp⟩) hS0 ?_
          simp only [aA, aB, aC]
          refine held_takeD (i := 19) (d := 158) (v := .agg #[.int .i64 bx, .int .i64 by1, .int .i64 bx2, .int .i64 by2]) rfl rfl (by kernel_rfl) (fun _ _ _ h => h) (Or.inl ⟨by kernel_rfl, fun w' hS => by have := (hS.cell (p := ⟨g, go + j * 7 + 1, none⟩) hg2).trans k1; have := (hS.cell (p := ⟨g, go + j * 7 + 2, none⟩) hg2).trans k2; have := (hS.cell (p := ⟨g, go + j * 7 + 3, none⟩) hg2).trans k3; have := (hS.cell (p := ⟨g, go + j * 7 + 4, none⟩) hg2).trans k4; go_simp⟩) hS0 ?_
          simp only [aA, aB, aC]
          refine held_takeD (i := 20) (d := 159) (v := .pointer (some ⟨w.heap.size + 1, 3, none⟩)) rfl rfl (by kernel_rfl) (fun _ _ _ h => h) (Or.inl ⟨by kernel_rfl, fun w' hS => by go_simp⟩) hS0 ?_
          simp only [aA, aB, aC]
          refine held_takeD (i := 21) (d := 160) (v := .slice (some ⟨g', go', none⟩) n2 d2) rfl rfl (by kernel_rfl) (fun _ _ _ h => h) (Or.inl ⟨by kernel_rfl, fun w' hS => by have := (hS.cell (p := ⟨w.heap.size + 1, 3, none⟩) hz3).trans z3; go_simp⟩) hS0 ?_
          simp only [aA, aB, aC]
          refine held_takeD (i := 22) (d := 161) (v := .int .i64 (j : Nat)) rfl rfl (by kernel_rfl) (fun _ _ _ h => h) (Or.inl ⟨by kernel_rfl, fun w' hS => by go_simp⟩) hS0 ?_
          simp only [aA, aB, aC]
          refine held_takeD (i := 23) (d := 162) (v := .pointer (some ⟨g', go' + j * 7, none⟩)) rfl rfl (by kernel_rfl) (fun _ _ _ h => h) (Or.inl ⟨by kernel_rfl, fun w' hS => by go_simp⟩) hS0 ?_
          simp only [aA, aB, aC]
          refine held_takeD (i := 24) (d := 163) (v := .pointer (some ⟨g', go' + j * 7 + 1, none⟩)) rfl rfl (by kernel_rfl) (fun _ _ _ h => h) (Or.inl ⟨by kernel_rfl, fun w' hS => by go_simp⟩) hS0 ?_
          simp only [aA, aB, aC]
          refine held_takeD (i := 25) (d := 164) (v := .agg #[.int .i64 bx, .int .i64 by1, .int .i64 bx2, .int .i64 by2]) rfl rfl (by kernel_rfl) (fun _ _ _ h => h) (Or.inl ⟨by kernel_rfl, fun w' hS => by have := (hS.cell (p := ⟨g', go' + j * 7 + 1, none⟩) hg2').trans k1'; have := (hS.cell (p := ⟨g', go' + j * 7 + 2, none⟩) hg2').trans k2'; have := (hS.cell (p := ⟨g', go' + j * 7 + 3, none⟩) hg2').trans k3'; have := (hS.cell (p := ⟨g', go' + j * 7 + 4, none⟩) hg2').trans k4'; go_simp⟩) hS0 ?_
          simp only [aA, aB, aC]
          refine held_takeD (i := 26) (d := 165) (v := .bool false) rfl rfl (by kernel_rfl) (fun _ _ _ h => h) (Or.inl ⟨by kernel_rfl, fun w' hS => by go_simp⟩) hS0 ?_
          simp only [aA, aB, aC]
          refine held_takeD (i := 27) (d := 166) (v := .bool false) rfl rfl (by kernel_rfl) (fun _ _ _ h => h) (Or.inl ⟨by kernel_rfl, fun w' hS => by go_simp⟩) hS0 ?_
          simp only [aA, aB, aC]
          refine held_takeD (i := 28) (d := 167) (v := .bool false) rfl rfl (by kernel_rfl) (fun _ _ _ h => h) (Or.inl ⟨by kernel_rfl, fun w' hS => by go_simp⟩) hS0 ?_
          simp only [aA, aB, aC]
          refine held_takeD (i := 29) (d := 168) (v := .pointer (some ⟨w.heap.size, 3, none⟩)) rfl rfl (by kernel_rfl) (fun _ _ _ h => h) (Or.inl ⟨by kernel_rfl, fun w' hS => by go_simp⟩) hS0 ?_
          simp only [aA, aB, aC]
          refine held_takeD (i := 30) (d := 169) (v := .slice (some ⟨g, go, none⟩) n2 c2) rfl rfl (by kernel_rfl) (fun _ _ _ h => h) (Or.inl ⟨by kernel_rfl, fun w' hS => by have := (hS.cell (p := ⟨w.heap.size, 3, none⟩) hy3).trans y3; go_simp⟩) hS0 ?_
          simp only [aA, aB, aC]
          refine held_takeD (i := 31) (d := 170) (v := .int .i64 (j : Nat)) rfl rfl (by kernel_rfl) (fun _ _ _ h => h) (Or.inl ⟨by kernel_rfl, fun w' hS => by go_simp⟩) hS0 ?_
          simp only [aA, aB, aC]
          refine held_takeD (i := 32) (d := 171) (v := .pointer (some ⟨g, go + j * 7, none⟩)) rfl rfl (by kernel_rfl) (fun _ _ _ h => h) (Or.inl ⟨by kernel_rfl, fun w' hS => by go_simp⟩) hS0 ?_
          simp only [aA, aB, aC]
          refine held_takeD (i := 33) (d := 172) (v := .pointer (some ⟨g, go + j * 7 + 5, none⟩)) rfl rfl (by kernel_rfl) (fun _ _ _ h => h) (Or.inl ⟨by kernel_rfl, fun w' hS => by go_simp⟩) hS0 ?_
          simp only [aA, aB, aC]
          refine held_takeD (i := 34) (d := 173) (v := .int .i64 ah) rfl rfl (by kernel_rfl) (fun _ _ _ h => h) (Or.inl ⟨by kernel_rfl, fun w' hS => by have := (hS.cell (p := ⟨g, go + j * 7 + 5, none⟩) hg2).trans k5; go_simp⟩) hS0 ?_
          simp only [aA, aB, aC]
          refine held_takeD (i := 35) (d := 174) (v := .pointer (some ⟨w.heap.size + 1, 3, none⟩)) rfl rfl (by kernel_rfl) (fun _ _ _ h => h) (Or.inl ⟨by kernel_rfl, fun w' hS => by go_simp⟩) hS0 ?_
          simp only [aA, aB, aC]
          refine held_takeD (i := 36) (d := 175) (v := .slice (some ⟨g', go', none⟩) n2 d2) rfl rfl (by kernel_rfl) (fun _ _ _ h => h) (Or.inl ⟨by kernel_rfl, fun w' hS => by have := (hS.cell (p := ⟨w.heap.size + 1, 3, none⟩) hz3).trans z3; go_simp⟩) hS0 ?_
          simp only [aA, aB, aC]
          refine held_takeD (i := 37) (d := 176) (v := .int .i64 (j : Nat)) rfl rfl (by kernel_rfl) (fun _ _ _ h => h) (Or.inl ⟨by kernel_rfl, fun w' hS => by go_simp⟩) hS0 ?_
          simp only [aA, aB, aC]
          refine held_takeD (i := 38) (d := 177) (v := .pointer (some ⟨g', go' + j * 7, none⟩)) rfl rfl (by kernel_rfl) (fun _ _ _ h => h) (Or.inl ⟨by kernel_rfl, fun w' hS => by go_simp⟩) hS0 ?_
          simp only [aA, aB, aC]
          refine held_takeD (i := 39) (d := 178) (v := .pointer (some ⟨g', go' + j * 7 + 5, none⟩)) rfl rfl (by kernel_rfl) (fun _ _ _ h => h) (Or.inl ⟨by kernel_rfl, fun w' hS => by go_simp⟩) hS0 ?_
          simp only [aA, aB, aC]
          refine held_takeD (i := 40) (d := 179) (v := .int .i64 ah) rfl rfl (by kernel_rfl) (fun _ _ _ h => h) (Or.inl ⟨by kernel_rfl, fun w' hS => by have := (hS.cell (p := ⟨g', go' + j * 7 + 5, none⟩) hg2').trans k5'; go_simp⟩) hS0 ?_
          simp only [aA, aB, aC]
          refine held_takeD (i := 41) (d := 180) (v := .bool false) rfl rfl (by kernel_rfl) (fun _ _ _ h => h) (Or.inl ⟨by kernel_rfl, fun w' hS => by go_simp⟩) hS0 ?_
          simp only [aA, aB, aC]
          refine held_takeD (i := 42) (d := 181) (v := .bool false) rfl rfl (by kernel_rfl) (fun _ _ _ h => h) (Or.inl ⟨by kernel_rfl, fun w' hS => by go_simp⟩) hS0 ?_
          simp only [aA, aB, aC]
          refine held_done (by kernel_rfl) ?_ _
          have HB1 := hid (HB.out.trans (hS0.mono HB.out.size))
          clear hS0
          go_wp2
          refine ⟨⟨j + 1, by go_num, by omega, HT, HB1⟩, ?_⟩
          simp [intOf]; omega
      ·obtain rfl : j = n2 := by omega
       have G2 := hid (map_same_end HS.out HN2.out HM2.out)
       clear HS hj hj2 hb2
       have y6 := (blk_later X1.out HB.out).cell (i := 6) rfl
       have z6 := (blk_later X2.out HB.out).cell (i := 6) rfl
       go_wp2
       go_loopw [8] (fun i wr => ∃ m : Nat, i = .int .i64 m ∧ m ≤ n5 ∧ Hid (ds.take m = ds'.take m) ∧ Hid (Below W.heap.size W wr)) (fun i _ => n5 - (intOf i).toNat)
       case atStart => exact ⟨0, rfl, Nat.zero_le _, hid (by simp), HB⟩
       case round =>
        clear HB y3 z3 y6 z6
        obtain ⟨m, rfl, hm, HS, HB⟩ := hrel
        have y6 := (blk_later X1.out HB.out).cell (i := 6) rfl
        have z6 := (blk_later X2.out HB.out).cell (i := 6) rfl
        by_cases hm2 : m < n5
        ·obtain ⟨x, hx⟩ : ∃ q, ds[m]? = some q := ⟨_, List.getElem?_eq_getElem (by have := HN5.out; omega)⟩
         obtain ⟨y, hy⟩ : ∃ q, ds'[m]? = some q := ⟨_, List.getElem?_eq_getElem (by have := HM5.out; omega)⟩
         obtain ⟨g, go, cs, rfl, hg, hc, hcell⟩ := (K5.out.below HB.out).at hx
         obtain rfl := hc
         obtain ⟨g', go', cs', rfl, hg', hc', hcell'⟩ := (K5'.out.below HB.out).at hy
         obtain rfl := hc'
         have d0 := hcell 0 _ rfl
         have d0' := hcell' 0 _ rfl
         have d1 := hcell 1 _ rfl
         have d1' := hcell' 1 _ rfl
         rw [show pointL.size = 2 from rfl] at d0 d1 d0' d1'
         rw [Nat.add_zero] at d0 d0'
         have hmi : (0 : Int) ≤ m ∧ (m : Int) < n5 := by omega
         have mg := fun x y xs ys w => point_gneq x y xs ys w
         have HX := hid hx; have HY := hid hy
         clear hcell hcell' hx hy hg hg'
         by_cases hxy : x = y
         ·have me := fun w => point_neq x.x x.y y.x y.y false (by subst hxy; simp) w
          have HT := hid (take_same HS.out HX.out (by rw [hxy]; exact HY.out))
          clear hxy
          go_wp2
          go_quiet (fail)
          go_wp2
          refine ⟨⟨m + 1, by go_num, by omega, HT, hid (below_drewN HB.out _)⟩, ?_⟩
          simp [intOf]; omega
         ·have me := fun w => point_neq x.x x.y y.x y.y true (by rw [decide_eq_false (fun ⟨e1, e2⟩ => hxy (by cases x; cases y; simp_all))]; rfl) w
          exfalso
          have e := HR.out
          simp only [LevelZ.mk.injEq] at e
          exact ne_at HX.out HY.out hxy e.2.2.2.2.2.2.1
        ·obtain rfl : m = n5 := by omega
         have G7 : ds = ds' := by have := map_same_end (f := id) (by rw [HS.out]) HN5.out HM5.out; simpa using this
         clear G7
         go_wp2
         go_ret
         exact ⟨rfl, WB.out.trans (HB.out.mono WB.out.size)⟩
end Go.Proofs.YtilfpnkcgjonhaaGreatDoor.Pr
