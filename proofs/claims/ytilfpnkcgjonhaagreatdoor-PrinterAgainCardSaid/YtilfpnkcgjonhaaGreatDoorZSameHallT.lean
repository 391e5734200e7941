/-
  The document's own comparison of halls but for their offsets: what it answers.
-/
import Derived.Test.YtilfpnkcgjonhaaGreatDoorZSameLevelT
namespace Go.Proofs.YtilfpnkcgjonhaaGreatDoor.Pr
open Go.RowKit Go.Sort Foyer.Printer Foyer.Lexer Foyer.Round
theorem levelIn_later {w w' : World} {B : Nat} {l : LevelZ} {v1 v2 v3 v4 v5 : Value} (h : LevelIn w B l v1 v2 v3 v4 v5) (hB : B ≤ w.heap.size) (hb : Below w.heap.size w w') : LevelIn w' w'.heap.size l v1 v2 v3 v4 v5 :=
 have hk := h.kept (W' := w') fun k hk => hb.block k (by omega)
 have hm : B ≤ w'.heap.size := Nat.le_trans hB hb.size
 ⟨hk.blocks.mono hm, hk.areas.mono hm, hk.aisles.mono hm, hk.pillars.mono hm, hk.doors.mono hm⟩
set_option linter.unusedSimpArgs false in
set_option maxRecDepth 100000 in
set_option maxHeartbeats 8000000 in
theorem hall_true (a b : HallZ) (hab : a.bare = b.bare) (p p' : Option Addr) (n n' c c' : Nat) (w : World) (h : Lk levelL w w.heap.size (.slice p n c) a.levels) (h' : Lk levelL w w.heap.size (.slice p' n' c') b.levels) :
  Calls Tryz.prog 19 #[.agg #[.string ⟨a.name.toArray⟩, .int .i64 a.stage.x, .int .i64 a.stage.y, .slice p n c], .agg #[.string ⟨b.name.toArray⟩, .int .i64 b.stage.x, .int .i64 b.stage.y, .slice p' n' c']] w fun e w' => e = .returned (.bool true) ∧ Below w.heap.size w w' := by
 have hr := hab
 clear hab
 obtain ⟨nm, ⟨sx, sy⟩, ls⟩ := a
 obtain ⟨nm', ⟨sx', sy'⟩, ls'⟩ := b
 simp only [HallZ.bare] at h h' hr ⊢
 have hn9 : n ≤ 9223372036854775807 := by have := h.len.2; unfold maxLen at this; omega
 have HN := hid h.len.1; have HN' := hid h'.len.1
 have HL := hid h; have HL' := hid h'; have HR := hid hr
 clear h h' hr
 have pg := fun x y xs ys w => point_gneq x y xs ys w
 rcases (Decidable.em (nm = nm')).symm with g0 | g0
 ·have e0 : (nm != nm') = true := by simpa using g0
  exfalso
  have e := HR.out
  simp only [HallZ.mk.injEq, PointZ.mk.injEq] at e
  exact g0 e.1
 subst g0
 have e0 : (nm != nm) = false := by simp
 rcases (Decidable.em (sx = sx' ∧ sy = sy')).symm with g1 | g1
 ·have e1 := fun w => point_neq sx sy sx' sy' true (by rw [decide_eq_false g1]; rfl) w
  exfalso
  have e := HR.out
  simp only [HallZ.mk.injEq, PointZ.mk.injEq] at e
  exact g1 e.2.1
 obtain ⟨rfl, rfl⟩ := g1
 have e1 := fun w => point_neq sx sy sx sy false (by simp) w
 rcases (Decidable.em (n = n')).symm with g2 | g2
 ·have e2 : ¬ ((n : Int) = n') := by omega
  exfalso
  have e := HR.out
  simp only [HallZ.mk.injEq, PointZ.mk.injEq] at e
  have := congrArg List.length e.2.2; simp only [List.length_map] at this; exact g2 (by rw [← HN.out, ← HN'.out]; exact this)
 subst g2
 have hb : Below w.heap.size w ((w.alloc (.cells #[.string ⟨nm.toArray⟩, .int .i64 sx, .int .i64 sy, .slice p n c] 26)).alloc (.cells #[.string ⟨nm.toArray⟩, .int .i64 sx, .int .i64 sy, .slice p' n c'] 26)) := ((Below.refl _ _).alloc (Nat.le_refl _) _).alloc (by simp) _
 have X1 := hid ((Blk.new w 26 [.string ⟨nm.toArray⟩, .int .i64 sx, .int .i64 sy, .slice p n c]).alloc (.cells #[.string ⟨nm.toArray⟩, .int .i64 sx, .int .i64 sy, .slice p' n c'] 26))
 have x2 := Blk.new (w.alloc (.cells #[.string ⟨nm.toArray⟩, .int .i64 sx, .int .i64 sy, .slice p n c] 26)) 26 [.string ⟨nm.toArray⟩, .int .i64 sx, .int .i64 sy, .slice p' n c']
 rw [World.size_alloc] at x2
 have X2 := hid x2
 have K1 := hid ((HL.out.below hb).mono hb.size); have K1' := hid ((HL'.out.below hb).mono hb.size)
 have WB := hid hb
 clear hb x2 HL HL'
 go_enter Tryz.func19, Tryz.ntmps19
 go_upto_region 1 with fail
 generalize (w.alloc (.cells #[.string ⟨nm.toArray⟩, .int .i64 sx, .int .i64 sy, .slice p n c] 26)).alloc (.cells #[.string ⟨nm.toArray⟩, .int .i64 sx, .int .i64 sy, .slice p' n c'] 26) = W at *
 have y0 := X1.out.cell (i := 0) rfl
 have z0 := X2.out.cell (i := 0) rfl
 have y1 := X1.out.cell (i := 1) rfl
 have z1 := X2.out.cell (i := 1) rfl
 have y2 := X1.out.cell (i := 2) rfl
 have z2 := X2.out.cell (i := 2) rfl
 have y3 := X1.out.cell (i := 3) rfl
 have z3 := X2.out.cell (i := 3) rfl
 have HB0 := hid (Below.refl W.heap.size W)
 go_wp2
 go_loopw [5] (fun i wr => ∃ k : Nat, i = .int .i64 k ∧ k ≤ n ∧ Hid ((ls.take k).map LevelZ.bare = (ls'.take k).map LevelZ.bare) ∧ Hid (Below W.heap.size W wr)) (fun i _ => n - (intOf i).toNat)
 case atStart => exact ⟨0, rfl, Nat.zero_le _, hid (by simp), HB0⟩
 case round =>
  obtain ⟨k, rfl, hk, HS, HB⟩ := hrel
  clear y0 z0 y1 z1 y2 z2 y3 z3
  have xb := blk_later X1.out HB.out; have zb := blk_later X2.out HB.out
  have y3 := xb.cell (i := 3) rfl
  have z3 := zb.cell (i := 3) rfl
  have hy3 := xb.lt; have hz3 := zb.lt
  clear xb zb
  by_cases hk2 : k < n
  ·obtain ⟨s, hs⟩ : ∃ m, ls[k]? = some m := ⟨_, List.getElem?_eq_getElem (by have := HN.out; (try simp only at this); omega)⟩
   obtain ⟨t, ht2⟩ : ∃ m, ls'[k]? = some m := ⟨_, List.getElem?_eq_getElem (by have := HN'.out; (try simp only at this); omega)⟩
   obtain ⟨rg, ro, cs, rfl, hrg, hc, hcell⟩ := (K1.out.below HB.out).at hs
   obtain ⟨v1, v2, v3, v4, v5, rfl, hin⟩ := hc
   obtain ⟨rg', ro', cs', rfl, hrg', hc', hcell'⟩ := (K1'.out.below HB.out).at ht2
   obtain ⟨u1, u2, u3, u4, u5, rfl, hin'⟩ := hc'
   have hrg2 : rg < wr.heap.size := Nat.lt_of_lt_of_le hrg HB.out.size
   have hrg2' : rg' < wr.heap.size := Nat.lt_of_lt_of_le hrg' HB.out.size
   have r0 := hcell 0 _ rfl
   have r0' := hcell' 0 _ rfl
   have r1 := hcell 1 _ rfl
   have r1' := hcell' 1 _ rfl
   have r2 := hcell 2 _ rfl
   have r2' := hcell' 2 _ rfl
   have r3 := hcell 3 _ rfl
   have r3' := hcell' 3 _ rfl
   have r4 := hcell 4 _ rfl
   have r4' := hcell' 4 _ rfl
   have r5 := hcell 5 _ rfl
   have r5' := hcell' 5 _ rfl
   have r6 := hcell 6 _ rfl
   have r6' := hcell' 6 _ rfl
   have r7 := hcell 7 _ rfl
   have r7' := hcell' 7 _ rfl
   rw [show levelL.size = 8 from rfl] at r0 r0' r1 r1' r2 r2' r3 r3' r4 r4' r5 r5' r6 r6' r7 r7'
   rw [Nat.add_zero] at r0 r0'
   have hki : (0 : Int) ≤ k ∧ (k : Int) < n := by omega
   have o1 := hin.blocks.one; have o2 := hin.areas.one; have o3 := hin.aisles.one; have o4 := hin.pillars.one; have o5 := hin.doors.one
   have o1' := hin'.blocks.one; have o2' := hin'.areas.one; have o3' := hin'.aisles.one; have o4' := hin'.pillars.one; have o5' := hin'.doors.one
   have HS2 := hid hs; have HT2 := hid ht2; have HI := hid hin; have HI' := hid hin'; have HBS := hid HB.out.size
   clear hcell hcell' hs ht2 hin hin' hrg hrg'
   have HQ : Hid (s.bare = t.bare) := hid (by
    have e := HR.out
    simp only [HallZ.mk.injEq, PointZ.mk.injEq] at e
    rcases Decidable.em (s.bare = t.bare) with h9 | h9
    ·exact h9
    ·exact (map_ne_at HS2.out HT2.out h9 e.2.2).elim)
   go_wp2
   refine wp_region_any (by kernel_rfl) ?_
   have hS0 : Below wr.heap.size wr wr.drew := (Below.refl _ _).drew
   refine any_of_held (S := fun W => Below wr.heap.size wr W) (N := []) _ _ _ _ ?_
   change held _ _ _ _ _ _ _ _ _ wr.drew
   obtain ⟨wa, hwa⟩ : ∃ wa, wr.drew = wa := ⟨_, rfl⟩
   rw [hwa] at hS0 ⊢
   clear hwa
   refine held_take [] (i := 0) (v := .pointer (some ⟨w.heap.size, 3, none⟩)) rfl (by kernel_rfl) (fun _ _ _ h => h) (Or.inl ⟨by rfl, fun w' hS => by go_simp⟩) hS0 ?_
   try simp only [Act.put, aA, aB, aC]
   refine held_take [] (i := 1) (v := .slice (some ⟨rg, ro, none⟩) n c) rfl (by kernel_rfl) (fun _ _ _ h => h) (Or.inl ⟨by rfl, fun w' hS => by have := (hS.cell (p := ⟨w.heap.size, 3, none⟩) hy3).trans y3; go_simp⟩) hS0 ?_
   try simp only [Act.put, aA, aB, aC]
   refine held_take [] (i := 2) (v := .int .i64 (k : Nat)) rfl (by kernel_rfl) (fun _ _ _ h => h) (Or.inl ⟨by rfl, fun w' hS => by go_simp⟩) hS0 ?_
   try simp only [Act.put, aA, aB, aC]
   refine held_take [] (i := 3) (v := .pointer (some ⟨rg, ro + k * 8, none⟩)) rfl (by kernel_rfl) (fun _ _ _ h => h) (Or.inl ⟨by rfl, fun w' hS => by go_simp⟩) hS0 ?_
   try simp only [Act.put, aA, aB, aC]
   refine held_take [] (i := 4) (v := .agg #[.string ⟨s.name.toArray⟩, .int .i64 s.height, v1, v2, v3, v4, v5, .int .i64 s.pos]) rfl (by kernel_rfl) (fun _ _ _ h => h) (Or.inl ⟨by rfl, fun w' hS => by have := (hS.cell (p := ⟨rg, ro + k * 8, none⟩) hrg2).trans r0; have := (hS.cell (p := ⟨rg, ro + k * 8 + 1, none⟩) hrg2).trans r1; have := (hS.cell (p := ⟨rg, ro + k * 8 + 2, none⟩) hrg2).trans r2; have := (hS.cell (p := ⟨rg, ro + k * 8 + 3, none⟩) hrg2).trans r3; have := (hS.cell (p := ⟨rg, ro + k * 8 + 4, none⟩) hrg2).trans r4; have := (hS.cell (p := ⟨rg, ro + k * 8 + 5, none⟩) hrg2).trans r5; have := (hS.cell (p := ⟨rg, ro + k * 8 + 6, none⟩) hrg2).trans r6; have := (hS.cell (p := ⟨rg, ro + k * 8 + 7, none⟩) hrg2).trans r7; go_simp⟩) hS0 ?_
   try simp only [Act.put, aA, aB, aC]
   refine held_take [] (i := 5) (v := .pointer (some ⟨w.heap.size + 1, 3, none⟩)) rfl (by kernel_rfl) (fun _ _ _ h => h) (Or.inl ⟨by rfl, fun w' hS => by go_simp⟩) hS0 ?_
   try simp only [Act.put, aA, aB, aC]
   refine held_take [] (i := 6) (v := .slice (some ⟨rg', ro', none⟩) n c') rfl (by kernel_rfl) (fun _ _ _ h => h) (Or.inl ⟨by rfl, fun w' hS => by have := (hS.cell (p := ⟨w.heap.size + 1, 3, none⟩) hz3).trans z3; go_simp⟩) hS0 ?_
   try simp only [Act.put, aA, aB, aC]
   refine held_take [] (i := 7) (v := .int .i64 (k : Nat)) rfl (by kernel_rfl) (fun _ _ _ h => h) (Or.inl ⟨by rfl, fun w' hS => by go_simp⟩) hS0 ?_
   try simp only [Act.put, aA, aB, aC]
   refine held_take [] (i := 8) (v := .pointer (some ⟨rg', ro' + k * 8, none⟩)) rfl (by kernel_rfl) (fun _ _ _ h => h) (Or.inl ⟨by rfl, fun w' hS => by go_simp⟩) hS0 ?_
   try simp only [Act.put, aA, aB, aC]
   refine held_take [] (i := 9) (v := .agg #[.string ⟨t.name.toArray⟩, .int .i64 t.height, u1, u2, u3, u4, u5, .int .i64 t.pos]) rfl (by kernel_rfl) (fun _ _ _ h => h) (Or.inl ⟨by rfl, fun w' hS => by have := (hS.cell (p := ⟨rg', ro' + k * 8, none⟩) hrg2').trans r0'; have := (hS.cell (p := ⟨rg', ro' + k * 8 + 1, none⟩) hrg2').trans r1'; have := (hS.cell (p := ⟨rg', ro' + k * 8 + 2, none⟩) hrg2').trans r2'; have := (hS.cell (p := ⟨rg', ro' + k * 8 + 3, none⟩) hrg2').trans r3'; have := (hS.cell (p := ⟨rg', ro' + k * 8 + 4, none⟩) hrg2').trans r4'; have := (hS.cell (p := ⟨rg', ro' + k * 8 + 5, none⟩) hrg2').trans r5'; have := (hS.cell (p := ⟨rg', ro' + k * 8 + 6, none⟩) hrg2').trans r6'; have := (hS.cell (p := ⟨rg', ro' + k * 8 + 7, none⟩) hrg2').trans r7'; go_simp⟩) hS0 ?_
   try simp only [Act.put, aA, aB, aC]
   refine held_one (i := 10) rfl (by kernel_rfl) (fun K hK => ?_)
   go_simp
   refine (level_true s t HQ.out v1 v2 v3 v4 v5 u1 u2 u3 u4 u5 wa (levelIn_later HI.out HBS.out hS0) (levelIn_later HI'.out HBS.out hS0)).mono ?_
   rintro e W3 ⟨rfl, hw3⟩
   have hS1 : Below wr.heap.size wr W3 := hS0.trans (hw3.mono hS0.size)
   clear hS0 hw3
   refine hK.out _ _ (fun _ => hS1) ?_
   clear hK K
   try simp only [Act.put, aA, aB, aC]
   refine held_take [] (i := 11) (v := .bool false) rfl (by kernel_rfl) (fun _ _ _ h => h) (Or.inl ⟨by rfl, fun w' hS => by go_simp⟩) hS1 ?_
   try simp only [Act.put, aA, aB, aC]
   refine held_done (by kernel_rfl) ?_ _
   have HB1 := hid (HB.out.trans (hS1.mono HB.out.size))
   clear hS1
   have HT3 := hid (map_take_same HS.out HS2.out HT2.out HQ.out)
   go_wp2
   refine ⟨⟨k + 1, by go_num, by omega, HT3, HB1⟩, ?_⟩
   simp [intOf]; omega
  ·obtain rfl : k = n := by omega
   have G := map_same_end HS.out HN.out HN'.out
   clear G
   go_wp2
   go_ret
   exact ⟨rfl, WB.out.trans (HB.out.mono WB.out.size)⟩
end Go.Proofs.YtilfpnkcgjonhaaGreatDoor.Pr
