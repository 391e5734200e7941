/-
  The document's own comparison of halls, of equal ones.
-/
import Derived.Test.YtlfjdohjfmfcdaaGreatDoorHead6
import Derived.Test.YtlfjdohjfmfcdaaGreatDoorRound
namespace Go.Proofs.YtlfjdohjfmfcdaaGreatDoor
open Go.RowKit Go.Sort Go.Shelf Foyer.Plan Foyer.Round

theorem below_boxes {w : World} (o1 o2 : Obj) : Below w.heap.size w ((w.alloc o1).alloc o2) := ((Below.refl _ _).alloc (Nat.le_refl _) _).alloc (by simp) _
theorem bound6 {α : Type} {K : Kind α} {W : World} {F : Nat → Prop} {T : TypeId} {v : Value} {xs : List α} (h : IsList K W F T v xs) : xs.length ≤ 9223372036854775807 := by
  obtain ⟨css, h1, h2, h3⟩ := h
  have hl := All2.length h3
  rcases h1.form with ⟨rfl, hn⟩ | ⟨g, cap, cur, rfl, hB, hg, hh, hcap, hm, hcell⟩
  · rw [hn] at hl; rw [← hl]; simp
  · unfold maxLen at hm; omega
theorem map_at {α β : Type} {f : α → β} {xs ys : List α} {k : Nat} {x : α} (h : xs.map f = ys.map f) (hx : xs[k]? = some x) : ∃ y, ys[k]? = some y ∧ f x = f y := by
  have h1 : (xs.map f)[k]? = some (f x) := by rw [List.getElem?_map, hx]; rfl
  rw [h, List.getElem?_map] at h1
  cases hy : ys[k]? with
  | none => rw [hy] at h1; simp at h1
  | some y => rw [hy] at h1; exact ⟨y, rfl, (by simpa using h1.symm)⟩
theorem Blk.below {X W : World} {b : Nat} {T : TypeId} {vs : List Value} (h : Blk X b T vs) (hB : Below X.heap.size X W) : Blk W b T vs :=
  h.kept (E := fun _ => False) (Kp.mk hB.os hB.tape hB.output hB.size (fun q hq _ => hB.block q hq)) (fun h => h)
theorem IsList.below {α : Type} {K : Kind α} {X W : World} {F : Nat → Prop} {T : TypeId} {v : Value} {xs : List α} (h : IsList K X F T v xs) (hB : Below X.heap.size X W) : IsList K W F T v xs := h.kept fun q _ hq => hB.block q hq
theorem LevelIs.below {X W : World} {F : Nat → Prop} {c : List Value} {l : LevelP} {v1 v2 v3 v4 v5 : Value} (h : LevelIs X F c l v1 v2 v3 v4 v5) (hB : Below X.heap.size X W) : LevelIs W F c l v1 v2 v3 v4 v5 := ⟨h.cells, h.blocks.below hB, h.areas.below hB, h.aisles.below hB, h.pillars.below hB, h.doors.below hB⟩
section
variable {P : Program} {ops : Array Oper} {md : Region.Mode} {Q : Exit → Act → World → Prop} {S : World → Prop} {N : List Nat}
/-- Two operations may come up. -/
theorem held_two {i j : Nat} {o o' : Oper} {f : Nat} {listed : Array Bool} {a : Act} {w : World} (hi : ops[i]? = some o) (hj : ops[j]? = some o') (hr : Region.ready md ops listed = [i, j])
    (h : ∀ K' : Act → World → Prop, RowKit.Hid (∀ a' w', (i ∉ N → S w') → held P md ops Q S N f (listed.setIfInBounds i true) a' w' → K' a' w') → if Region.wanted o (yielded ops a.tmps) = true then Oper.wp P o a w K' Q else K' (a.put o.dst undef) w)
    (h' : ∀ K' : Act → World → Prop, RowKit.Hid (∀ a' w', (j ∉ N → S w') → held P md ops Q S N f (listed.setIfInBounds j true) a' w' → K' a' w') → if Region.wanted o' (yielded ops a.tmps) = true then Oper.wp P o' a w K' Q else K' (a.put o'.dst undef) w) : held P md ops Q S N (f + 1) listed a w := by
  refine ⟨fun h0 => (by rw [hr] at h0; cases h0), fun k hk => ?_⟩
  rw [hr] at hk
  simp only [List.mem_cons, List.not_mem_nil, or_false] at hk
  rcases hk with rfl | rfl
  · exact wpOp_step hi fun K' hK => h K' (Lib.hid fun a' w' h1 h2 => hK a' w' ⟨h1, h2⟩)
  · exact wpOp_step hj fun K' hK => h' K' (Lib.hid fun a' w' h1 h2 => hK a' w' ⟨h1, h2⟩)
end
set_option linter.unusedSimpArgs false in
set_option maxRecDepth 100000 in
set_option maxHeartbeats 8000000 in
theorem row_false (nm : List UInt8) (x y f l st p p' : Nat) (ms : List MarkP) (v v' : Value) (F F' : Nat → Prop) (w : World) (h : IsList markK w F 46 v ms) (h' : IsList markK w F' 46 v' ms) :
    Calls Tryz.prog 45 #[.agg #[.string ⟨nm.toArray⟩, .int .i64 (x : Nat), .int .i64 (y : Nat), .int .i64 (f : Nat), .int .i64 (l : Nat), .int .i64 (st : Nat), v, .int .i64 (p : Nat)], .agg #[.string ⟨nm.toArray⟩, .int .i64 (x : Nat), .int .i64 (y : Nat), .int .i64 (f : Nat), .int .i64 (l : Nat), .int .i64 (st : Nat), v', .int .i64 (p' : Nat)], .bool false] w fun e w' => e = .returned (.bool true) ∧ Below w.heap.size w w' := by
  obtain ⟨a, c, rfl⟩ := h.len
  obtain ⟨a', c', rfl⟩ := h'.len
  obtain ⟨n, hn⟩ : ∃ n, ms.length = n := ⟨_, rfl⟩
  have hn9 := bound6 h
  rw [hn] at h h' hn9 ⊢
  have e0 : (nm != nm) = false := by simp
  have hb := below_boxes (w := w) (.cells #[.string ⟨nm.toArray⟩, .int .i64 (x : Nat), .int .i64 (y : Nat), .int .i64 (f : Nat), .int .i64 (l : Nat), .int .i64 (st : Nat), .slice a n c, .int .i64 (p : Nat)] 44) (.cells #[.string ⟨nm.toArray⟩, .int .i64 (x : Nat), .int .i64 (y : Nat), .int .i64 (f : Nat), .int .i64 (l : Nat), .int .i64 (st : Nat), .slice a' n c', .int .i64 (p' : Nat)] 44)
  have X1 := Lib.hid ((Blk.new w 44 [.string ⟨nm.toArray⟩, .int .i64 (x : Nat), .int .i64 (y : Nat), .int .i64 (f : Nat), .int .i64 (l : Nat), .int .i64 (st : Nat), .slice a n c, .int .i64 (p : Nat)]).alloc (.cells #[.string ⟨nm.toArray⟩, .int .i64 (x : Nat), .int .i64 (y : Nat), .int .i64 (f : Nat), .int .i64 (l : Nat), .int .i64 (st : Nat), .slice a' n c', .int .i64 (p' : Nat)] 44))
  have x2 := Blk.new (w.alloc (.cells #[.string ⟨nm.toArray⟩, .int .i64 (x : Nat), .int .i64 (y : Nat), .int .i64 (f : Nat), .int .i64 (l : Nat), .int .i64 (st : Nat), .slice a n c, .int .i64 (p : Nat)] 44)) 44 [.string ⟨nm.toArray⟩, .int .i64 (x : Nat), .int .i64 (y : Nat), .int .i64 (f : Nat), .int .i64 (l : Nat), .int .i64 (st : Nat), .slice a' n c', .int .i64 (p' : Nat)]
  rw [World.size_alloc] at x2
  have X2 := Lib.hid x2
  have HL := Lib.hid (h.late hb)
  have HL' := Lib.hid (h'.late hb)
  have WB := Lib.hid hb
  clear hb x2
  go_enter Tryz.func45, Tryz.ntmps45
  go_upto_region 1 with fail
  generalize (w.alloc (.cells #[.string ⟨nm.toArray⟩, .int .i64 (x : Nat), .int .i64 (y : Nat), .int .i64 (f : Nat), .int .i64 (l : Nat), .int .i64 (st : Nat), .slice a n c, .int .i64 (p : Nat)] 44)).alloc (.cells #[.string ⟨nm.toArray⟩, .int .i64 (x : Nat), .int .i64 (y : Nat), .int .i64 (f : Nat), .int .i64 (l : Nat), .int .i64 (st : Nat), .slice a' n c', .int .i64 (p' : Nat)] 44) = W at *
  have y0 := X1.out.cell (i := 0) rfl
  have y1 := X1.out.cell (i := 1) rfl
  have y2 := X1.out.cell (i := 2) rfl
  have y3 := X1.out.cell (i := 3) rfl
  have y4 := X1.out.cell (i := 4) rfl
  have y5 := X1.out.cell (i := 5) rfl
  have y6 := X1.out.cell (i := 6) rfl
  have y7 := X1.out.cell (i := 7) rfl
  have z0 := X2.out.cell (i := 0) rfl
  have z1 := X2.out.cell (i := 1) rfl
  have z2 := X2.out.cell (i := 2) rfl
  have z3 := X2.out.cell (i := 3) rfl
  have z4 := X2.out.cell (i := 4) rfl
  have z5 := X2.out.cell (i := 5) rfl
  have z6 := X2.out.cell (i := 6) rfl
  have z7 := X2.out.cell (i := 7) rfl
  have HB0 := Lib.hid (Below.refl W.heap.size W)
  have HN := Lib.hid hn
  clear hn h h'
  go_wp2
  go_loopw [7] (fun i wr => ∃ k : Nat, i = .int .i64 k ∧ k ≤ n ∧ Hid (Below W.heap.size W wr)) (fun i _ => n - (intOf i).toNat)
  case atStart => exact ⟨0, rfl, Nat.zero_le _, HB0⟩
  case round =>
    obtain ⟨k, rfl, hk, HB⟩ := hrel
    clear y0 z0 y1 z1 y2 z2 y3 z3 y4 z4 y5 z5 y6 z6 y7 z7
    have xb := X1.out.below HB.out
    have zb := X2.out.below HB.out
    have y6 := xb.cell (i := 6) rfl
    have z6 := zb.cell (i := 6) rfl
    clear xb zb
    by_cases hk2 : k < n
    · obtain ⟨m, hx⟩ : ∃ m, ms[k]? = some m := ⟨_, List.getElem?_eq_getElem (by have := HN.out; omega)⟩
      obtain ⟨g, cap, cs, hv, _, _, _, hg, rfl, hcell⟩ := (HL.out.below HB.out).at hx
      obtain ⟨g', cap', cs', hv', _, _, _, hg', rfl, hcell'⟩ := (HL'.out.below HB.out).at hx
      rw [HN.out] at hv hv'
      injection hv with hv1 hv2 hv3
      injection hv' with hv1' hv2' hv3'
      subst hv1 hv3 hv1' hv3'
      have d0 := hcell 0 _ rfl
      have d1 := hcell 1 _ rfl
      have d2 := hcell 2 _ rfl
      have d0' := hcell' 0 _ rfl
      have d1' := hcell' 1 _ rfl
      have d2' := hcell' 2 _ rfl
      rw [show markK.size = 3 from rfl] at d0 d1 d2 d0' d1' d2'
      rw [Nat.add_zero] at d0 d0'
      have hki : (0 : Int) ≤ k ∧ (k : Int) < n := by omega
      have mg := fun x y xs ys w => mark_gneq x y xs ys w
      have me := fun w => mark_neq m.kind m.seat m.other m.kind m.seat m.other false (by simp) w
      clear hcell hcell' hx
      go_wp2
      go_quiet (fail)
      go_wp2
      refine ⟨⟨k + 1, by go_num, by omega, Lib.hid (below_drewN HB.out _)⟩, ?_⟩
      simp [intOf]; omega
    · obtain rfl : k = n := by omega
      go_wp2
      go_ret
      exact ⟨rfl, WB.out.trans (HB.out.mono WB.out.size)⟩
theorem rowv_false (x y : RowP) (hxy : x.bare = y.bare) (v v' : Value) (F F' : Nat → Prop) (w : World) (h : IsList markK w F 46 v x.marks) (h' : IsList markK w F' 46 v' y.marks) :
    Calls Tryz.prog 45 #[.agg (rowC x v).toArray, .agg (rowC y v').toArray, .bool false] w fun e w' => e = .returned (.bool true) ∧ Below w.heap.size w w' := by
  cases x; cases y
  simp only [RowP.bare, RowP.mk.injEq, and_true] at hxy
  obtain ⟨rfl, rfl, rfl, rfl, rfl, rfl, rfl⟩ := hxy
  exact row_false _ _ _ _ _ _ _ _ _ v v' F F' w h h'
set_option maxRecDepth 100000 in
set_option maxHeartbeats 8000000 in
theorem boxes_same (ms : List BoxP) (v v' : Value) (F F' : Nat → Prop) (W : World) (h : IsList boxK W F 48 v ms) (h' : IsList boxK W F' 48 v' ms) :
    Calls Tryz.prog 28 #[v, v'] W fun e w' => e = .returned (.bool true) ∧ Below W.heap.size W w' := by
  obtain ⟨a, c, rfl⟩ := h.len
  obtain ⟨a', c', rfl⟩ := h'.len
  obtain ⟨n, hn⟩ : ∃ n, ms.length = n := ⟨_, rfl⟩
  have hn9 := bound6 h
  rw [hn] at h h' hn9 ⊢
  have HL := Lib.hid h; have HL' := Lib.hid h'; have HN := Lib.hid hn
  have HB0 := Lib.hid (Below.refl W.heap.size W)
  clear hn h h'
  go_enter Tryz.func28, Tryz.ntmps28
  go_wp2
  go_loopw [5] (fun i wr => ∃ k : Nat, i = .int .i64 k ∧ k ≤ n ∧ Hid (Below W.heap.size W wr)) (fun i _ => n - (intOf i).toNat)
  case atStart => exact ⟨0, rfl, Nat.zero_le _, HB0⟩
  case round =>
    obtain ⟨k, rfl, hk, HB⟩ := hrel
    by_cases hk2 : k < n
    · obtain ⟨m, hx⟩ : ∃ m, ms[k]? = some m := ⟨_, List.getElem?_eq_getElem (by have := HN.out; omega)⟩
      obtain ⟨g, cap, cs, hv, _, _, _, hg, rfl, hcell⟩ := (HL.out.below HB.out).at hx
      obtain ⟨g', cap', cs', hv', _, _, _, hg', rfl, hcell'⟩ := (HL'.out.below HB.out).at hx
      rw [HN.out] at hv hv'
      injection hv with hv1 hv2 hv3
      injection hv' with hv1' hv2' hv3'
      subst hv1 hv3 hv1' hv3'
      have d0 := hcell 0 _ rfl
      have d1 := hcell 1 _ rfl
      have d2 := hcell 2 _ rfl
      have d3 := hcell 3 _ rfl
      have d0' := hcell' 0 _ rfl
      have d1' := hcell' 1 _ rfl
      have d2' := hcell' 2 _ rfl
      have d3' := hcell' 3 _ rfl
      rw [show boxK.size = 4 from rfl] at d0 d1 d2 d3 d0' d1' d2' d3'
      rw [Nat.add_zero] at d0 d0'
      have hki : (0 : Int) ≤ k ∧ (k : Int) < n := by omega
      have mg := fun x y xs ys w => box_gneq x y xs ys w
      have me := fun w => box_neq m.x m.y m.x2 m.y2 m.x m.y m.x2 m.y2 false (by simp) w
      clear hcell hcell' hx
      go_wp2
      go_quiet (fail)
      go_wp2
      refine ⟨⟨k + 1, by go_num, by omega, Lib.hid (below_drewN HB.out _)⟩, ?_⟩
      simp [intOf]; omega
    · obtain rfl : k = n := by omega
      go_wp2
      go_ret
      exact ⟨rfl, HB.out⟩
set_option linter.unusedSimpArgs false in
set_option maxRecDepth 100000 in
set_option maxHeartbeats 8000000 in
theorem block_false (nm : List UInt8) (p p' : Nat) (rs rs' : List RowP) (hr : rs.map RowP.bare = rs'.map RowP.bare) (v v' : Value) (F F' : Nat → Prop) (w : World) (h : IsList rowK w F 44 v rs) (h' : IsList rowK w F' 44 v' rs') :
    Calls Tryz.prog 27 #[.agg #[.string ⟨nm.toArray⟩, v, .int .i64 (p : Nat)], .agg #[.string ⟨nm.toArray⟩, v', .int .i64 (p' : Nat)], .bool false] w fun e w' => e = .returned (.bool true) ∧ Below w.heap.size w w' := by
  obtain ⟨a, c, rfl⟩ := h.len
  obtain ⟨a', c', rfl⟩ := h'.len
  have hl : rs'.length = rs.length := by simpa using (congrArg List.length hr).symm
  obtain ⟨n, hn⟩ : ∃ n, rs.length = n := ⟨_, rfl⟩
  have hn9 := bound6 h
  rw [hl, hn] at h' 
  rw [hn] at h hn9
  rw [hl, hn]
  have e0 : (nm != nm) = false := by simp
  have hb := below_boxes (w := w) (.cells #[.string ⟨nm.toArray⟩, .slice a n c, .int .i64 (p : Nat)] 41) (.cells #[.string ⟨nm.toArray⟩, .slice a' n c', .int .i64 (p' : Nat)] 41)
  have X1 := Lib.hid ((Blk.new w 41 [.string ⟨nm.toArray⟩, .slice a n c, .int .i64 (p : Nat)]).alloc (.cells #[.string ⟨nm.toArray⟩, .slice a' n c', .int .i64 (p' : Nat)] 41))
  have x2 := Blk.new (w.alloc (.cells #[.string ⟨nm.toArray⟩, .slice a n c, .int .i64 (p : Nat)] 41)) 41 [.string ⟨nm.toArray⟩, .slice a' n c', .int .i64 (p' : Nat)]
  rw [World.size_alloc] at x2
  have X2 := Lib.hid x2
  have HL := Lib.hid (h.late hb)
  have HL' := Lib.hid (h'.late hb)
  have WB := Lib.hid hb
  clear hb x2
  go_enter Tryz.func27, Tryz.ntmps27
  go_upto_region 1 with fail
  generalize (w.alloc (.cells #[.string ⟨nm.toArray⟩, .slice a n c, .int .i64 (p : Nat)] 41)).alloc (.cells #[.string ⟨nm.toArray⟩, .slice a' n c', .int .i64 (p' : Nat)] 41) = W at *
  have y0 := X1.out.cell (i := 0) rfl
  have y1 := X1.out.cell (i := 1) rfl
  have y2 := X1.out.cell (i := 2) rfl
  have z0 := X2.out.cell (i := 0) rfl
  have z1 := X2.out.cell (i := 1) rfl
  have z2 := X2.out.cell (i := 2) rfl
  have HB0 := Lib.hid (Below.refl W.heap.size W)
  have HN := Lib.hid hn; have HR := Lib.hid hr; have HN2 := Lib.hid (hl.trans hn)
  clear hn h h' hr hl
  go_wp2
  go_loopw [7] (fun i wr => ∃ k : Nat, i = .int .i64 k ∧ k ≤ n ∧ Hid (Below W.heap.size W wr)) (fun i _ => n - (intOf i).toNat)
  case atStart => exact ⟨0, rfl, Nat.zero_le _, HB0⟩
  case round =>
    obtain ⟨k, rfl, hk, HB⟩ := hrel
    clear y0 y1 y2 z0 z1 z2
    have xb := X1.out.below HB.out
    have zb := X2.out.below HB.out
    have y1 := xb.cell (i := 1) rfl
    have z1 := zb.cell (i := 1) rfl
    have hy1 := xb.lt
    have hz1 := zb.lt
    clear xb zb
    by_cases hk2 : k < n
    · obtain ⟨m, hx⟩ : ∃ m, rs[k]? = some m := ⟨_, List.getElem?_eq_getElem (by have := HN.out; omega)⟩
      obtain ⟨m', hx', hm⟩ := map_at HR.out hx
      obtain ⟨g, cap, cs, hv, _, _, _, hg, ⟨vm, rfl, hm1⟩, hcell⟩ := (HL.out.below HB.out).at hx
      obtain ⟨g', cap', cs', hv', _, _, _, hg', ⟨vm', rfl, hm2⟩, hcell'⟩ := (HL'.out.below HB.out).at hx'
      rw [HN.out] at hv
      rw [HN2.out] at hv'
      injection hv with hv1 hv2 hv3
      injection hv' with hv1' hv2' hv3'
      subst hv1 hv3 hv1' hv3'
      have d0 := hcell 0 _ rfl
      have d0' := hcell' 0 _ rfl
      have d1 := hcell 1 _ rfl
      have d1' := hcell' 1 _ rfl
      have d2 := hcell 2 _ rfl
      have d2' := hcell' 2 _ rfl
      have d3 := hcell 3 _ rfl
      have d3' := hcell' 3 _ rfl
      have d4 := hcell 4 _ rfl
      have d4' := hcell' 4 _ rfl
      have d5 := hcell 5 _ rfl
      have d5' := hcell' 5 _ rfl
      have d6 := hcell 6 _ rfl
      have d6' := hcell' 6 _ rfl
      have d7 := hcell 7 _ rfl
      have d7' := hcell' 7 _ rfl
      rw [show rowK.size = 8 from rfl] at d0 d0' d1 d1' d2 d2' d3 d3' d4 d4' d5 d5' d6 d6' d7 d7'
      rw [Nat.add_zero] at d0 d0'
      have hki : (0 : Int) ≤ k ∧ (k : Int) < n := by omega
      clear hcell hcell' hx hx'
      have HM := Lib.hid hm; have HM1 := Lib.hid hm1; have HM2 := Lib.hid hm2
      clear hm hm1 hm2
      go_wp2
      refine wp_region_any (by kernel_rfl) ?_
      have hS0 : Below wr.heap.size wr wr.drew := (Below.refl _ _).drew
      refine any_of_held (S := fun W => Below wr.heap.size wr W) (N := []) _ _ _ _ ?_
      change held _ _ _ _ _ _ _ _ _ wr.drew
      obtain ⟨wa, hwa⟩ : ∃ wa, wr.drew = wa := ⟨_, rfl⟩
      rw [hwa] at hS0 ⊢
      clear hwa
      refine held_take [] (i := 0) (v := .pointer (some ⟨w.heap.size, 1, none⟩)) rfl (by kernel_rfl) (fun _ _ _ h => h) (Or.inl ⟨by rfl, fun w' hS => by go_simp⟩) hS0 ?_
      try simp only [Act.put, List.setIfInBounds_toArray, List.set_cons_zero, List.set_cons_succ]
      refine held_take [] (i := 1) (v := .slice (some ⟨g, 0, none⟩) n c) rfl (by kernel_rfl) (fun _ _ _ h => h) (Or.inl ⟨by rfl, fun w' hS => by have := (hS.cell (p := ⟨w.heap.size, 1, none⟩) hy1).trans y1; go_simp⟩) hS0 ?_
      try simp only [Act.put, List.setIfInBounds_toArray, List.set_cons_zero, List.set_cons_succ]
      refine held_take [] (i := 2) (v := .int .i64 (k : Nat)) rfl (by kernel_rfl) (fun _ _ _ h => h) (Or.inl ⟨by rfl, fun w' hS => by go_simp⟩) hS0 ?_
      try simp only [Act.put, List.setIfInBounds_toArray, List.set_cons_zero, List.set_cons_succ]
      refine held_take [] (i := 3) (v := .pointer (some ⟨g, k * 8, none⟩)) rfl (by kernel_rfl) (fun _ _ _ h => h) (Or.inl ⟨by rfl, fun w' hS => by go_simp⟩) hS0 ?_
      try simp only [Act.put, List.setIfInBounds_toArray, List.set_cons_zero, List.set_cons_succ]
      refine held_take [] (i := 4) (v := .agg #[.string ⟨m.name.toArray⟩, .int .i64 (m.x : Nat), .int .i64 (m.y : Nat), .int .i64 (m.first : Nat), .int .i64 (m.last : Nat), .int .i64 (m.step : Nat), vm, .int .i64 (m.pos : Nat)]) rfl (by kernel_rfl) (fun _ _ _ h => h) (Or.inl ⟨by rfl, fun w' hS => by have := (hS.cell (p := ⟨g, k * 8, none⟩) hg).trans d0; have := (hS.cell (p := ⟨g, k * 8 + 1, none⟩) hg).trans d1; have := (hS.cell (p := ⟨g, k * 8 + 2, none⟩) hg).trans d2; have := (hS.cell (p := ⟨g, k * 8 + 3, none⟩) hg).trans d3; have := (hS.cell (p := ⟨g, k * 8 + 4, none⟩) hg).trans d4; have := (hS.cell (p := ⟨g, k * 8 + 5, none⟩) hg).trans d5; have := (hS.cell (p := ⟨g, k * 8 + 6, none⟩) hg).trans d6; have := (hS.cell (p := ⟨g, k * 8 + 7, none⟩) hg).trans d7; go_simp⟩) hS0 ?_
      try simp only [Act.put, List.setIfInBounds_toArray, List.set_cons_zero, List.set_cons_succ]
      refine held_take [] (i := 5) (v := .pointer (some ⟨w.heap.size + 1, 1, none⟩)) rfl (by kernel_rfl) (fun _ _ _ h => h) (Or.inl ⟨by rfl, fun w' hS => by go_simp⟩) hS0 ?_
      try simp only [Act.put, List.setIfInBounds_toArray, List.set_cons_zero, List.set_cons_succ]
      refine held_take [] (i := 6) (v := .slice (some ⟨g', 0, none⟩) n c') rfl (by kernel_rfl) (fun _ _ _ h => h) (Or.inl ⟨by rfl, fun w' hS => by have := (hS.cell (p := ⟨w.heap.size + 1, 1, none⟩) hz1).trans z1; go_simp⟩) hS0 ?_
      try simp only [Act.put, List.setIfInBounds_toArray, List.set_cons_zero, List.set_cons_succ]
      refine held_take [] (i := 7) (v := .int .i64 (k : Nat)) rfl (by kernel_rfl) (fun _ _ _ h => h) (Or.inl ⟨by rfl, fun w' hS => by go_simp⟩) hS0 ?_
      try simp only [Act.put, List.setIfInBounds_toArray, List.set_cons_zero, List.set_cons_succ]
      refine held_take [] (i := 8) (v := .pointer (some ⟨g', k * 8, none⟩)) rfl (by kernel_rfl) (fun _ _ _ h => h) (Or.inl ⟨by rfl, fun w' hS => by go_simp⟩) hS0 ?_
      try simp only [Act.put, List.setIfInBounds_toArray, List.set_cons_zero, List.set_cons_succ]
      refine held_take [] (i := 9) (v := .agg #[.string ⟨m'.name.toArray⟩, .int .i64 (m'.x : Nat), .int .i64 (m'.y : Nat), .int .i64 (m'.first : Nat), .int .i64 (m'.last : Nat), .int .i64 (m'.step : Nat), vm', .int .i64 (m'.pos : Nat)]) rfl (by kernel_rfl) (fun _ _ _ h => h) (Or.inl ⟨by rfl, fun w' hS => by have := (hS.cell (p := ⟨g', k * 8, none⟩) hg').trans d0'; have := (hS.cell (p := ⟨g', k * 8 + 1, none⟩) hg').trans d1'; have := (hS.cell (p := ⟨g', k * 8 + 2, none⟩) hg').trans d2'; have := (hS.cell (p := ⟨g', k * 8 + 3, none⟩) hg').trans d3'; have := (hS.cell (p := ⟨g', k * 8 + 4, none⟩) hg').trans d4'; have := (hS.cell (p := ⟨g', k * 8 + 5, none⟩) hg').trans d5'; have := (hS.cell (p := ⟨g', k * 8 + 6, none⟩) hg').trans d6'; have := (hS.cell (p := ⟨g', k * 8 + 7, none⟩) hg').trans d7'; go_simp⟩) hS0 ?_
      try simp only [Act.put, List.setIfInBounds_toArray, List.set_cons_zero, List.set_cons_succ]
      refine held_take [] (i := 10) (v := .bool false) rfl (by kernel_rfl) (fun _ _ _ h => h) (Or.inl ⟨by rfl, fun w' hS => by go_simp⟩) hS0 ?_
      try simp only [Act.put, List.setIfInBounds_toArray, List.set_cons_zero, List.set_cons_succ]
      refine held_one (i := 11) rfl (by kernel_rfl) (fun K hK => ?_)
      go_simp
      refine (rowv_false m m' HM.out vm vm' _ _ wa (HM1.out.below hS0) (HM2.out.below hS0)).mono ?_
      rintro e W1 ⟨rfl, hw1⟩
      have hS1 : Below wr.heap.size wr W1 := hS0.trans (hw1.mono hS0.size)
      clear hS0 hw1
      refine hK.out _ _ (fun _ => hS1) ?_
      clear hK K
      try simp only [Act.put, List.setIfInBounds_toArray, List.set_cons_zero, List.set_cons_succ]
      refine held_take [] (i := 12) (v := .bool false) rfl (by kernel_rfl) (fun _ _ _ h => h) (Or.inl ⟨by rfl, fun w' hS => by go_simp⟩) hS1 ?_
      try simp only [Act.put, List.setIfInBounds_toArray, List.set_cons_zero, List.set_cons_succ]
      refine held_done (by kernel_rfl) ?_ _
      have HB1 := Lib.hid (HB.out.trans (hS1.mono HB.out.size))
      clear hS1
      go_wp2
      refine ⟨⟨k + 1, by go_num, by omega, HB1⟩, ?_⟩
      simp [intOf]; omega

    · obtain rfl : k = n := by omega
      go_wp2
      go_ret
      exact ⟨rfl, WB.out.trans (HB.out.mono WB.out.size)⟩
theorem blockv_false (x y : BlockP) (hxy : x.bare = y.bare) (v v' : Value) (F F' : Nat → Prop) (w : World) (h : IsList rowK w F 44 v x.rows) (h' : IsList rowK w F' 44 v' y.rows) :
    Calls Tryz.prog 27 #[.agg (blockCl x v).toArray, .agg (blockCl y v').toArray, .bool false] w fun e w' => e = .returned (.bool true) ∧ Below w.heap.size w w' := by
  cases x; cases y
  simp only [BlockP.bare, BlockP.mk.injEq, and_true] at hxy
  obtain ⟨rfl, hr⟩ := hxy
  exact block_false _ _ _ _ _ hr v v' F F' w h h'
set_option linter.unusedSimpArgs false in
set_option maxRecDepth 100000 in
set_option maxHeartbeats 8000000 in
theorem level_false (nm : List UInt8) (ht p p' : Nat) (bs bs' : List BlockP) (hr : bs.map BlockP.bare = bs'.map BlockP.bare) (ars ars' : List AreaP) (ha : ars.map AreaP.bare = ars'.map AreaP.bare) (ais pls : List BoxP) (ds : List (Nat × Nat)) (v1 v2 v3 v4 v5 v1' v2' v3' v4' v5' : Value) (F F' : Nat → Prop) (w : World) (h1 : IsList blockK w F 41 v1 bs) (h2 : IsList areaK w F 50 v2 ars) (h3 : IsList boxK w F 48 v3 ais) (h4 : IsList boxK w F 48 v4 pls) (h5 : IsList pointK w F 24 v5 ds) (h1' : IsList blockK w F' 41 v1' bs') (h2' : IsList areaK w F' 50 v2' ars') (h3' : IsList boxK w F' 48 v3' ais) (h4' : IsList boxK w F' 48 v4' pls) (h5' : IsList pointK w F' 24 v5' ds) :
    Calls Tryz.prog 17 #[.agg #[.string ⟨nm.toArray⟩, .int .i64 (ht : Nat), v1, v2, v3, v4, v5, .int .i64 (p : Nat)], .agg #[.string ⟨nm.toArray⟩, .int .i64 (ht : Nat), v1', v2', v3', v4', v5', .int .i64 (p' : Nat)], .bool false] w fun e w' => e = .returned (.bool true) ∧ Below w.heap.size w w' := by
  obtain ⟨a, c, rfl⟩ := h1.len
  obtain ⟨a', c', rfl⟩ := h1'.len
  obtain ⟨b, d, rfl⟩ := h2.len
  obtain ⟨b', d', rfl⟩ := h2'.len
  obtain ⟨e, f, rfl⟩ := h5.len
  obtain ⟨e', f', rfl⟩ := h5'.len
  obtain ⟨x3, m3, y3, rfl⟩ := h3.slice
  obtain ⟨x3', m3', y3', rfl⟩ := h3'.slice
  obtain ⟨x4, m4, y4, rfl⟩ := h4.slice
  obtain ⟨x4', m4', y4', rfl⟩ := h4'.slice
  have hl : bs'.length = bs.length := by simpa using (congrArg List.length hr).symm
  have hl2 : ars'.length = ars.length := by simpa using (congrArg List.length ha).symm
  rw [hl] at h1'
  rw [hl2] at h2'
  have hn9 := bound6 h1
  have hna9 := bound6 h2
  have hnd9 := bound6 h5
  rw [hl, hl2]
  obtain ⟨n, hn⟩ : ∃ n, bs.length = n := ⟨_, rfl⟩
  obtain ⟨na, hna⟩ : ∃ n, ars.length = n := ⟨_, rfl⟩
  obtain ⟨nd, hnd⟩ : ∃ n, ds.length = n := ⟨_, rfl⟩
  rw [hn] at h1 h1' hn9
  rw [hna] at h2 h2' hna9
  rw [hnd] at h5 h5' hnd9
  rw [hn, hna, hnd]
  have e0 : (nm != nm) = false := by simp
  have hb := below_boxes (w := w) (.cells #[.string ⟨nm.toArray⟩, .int .i64 (ht : Nat), .slice a n c, .slice b na d, (.slice x3 m3 y3), (.slice x4 m4 y4), .slice e nd f, .int .i64 (p : Nat)] 38) (.cells #[.string ⟨nm.toArray⟩, .int .i64 (ht : Nat), .slice a' n c', .slice b' na d', (.slice x3' m3' y3'), (.slice x4' m4' y4'), .slice e' nd f', .int .i64 (p' : Nat)] 38)
  have X1 := Lib.hid ((Blk.new w 38 [.string ⟨nm.toArray⟩, .int .i64 (ht : Nat), .slice a n c, .slice b na d, (.slice x3 m3 y3), (.slice x4 m4 y4), .slice e nd f, .int .i64 (p : Nat)]).alloc (.cells #[.string ⟨nm.toArray⟩, .int .i64 (ht : Nat), .slice a' n c', .slice b' na d', (.slice x3' m3' y3'), (.slice x4' m4' y4'), .slice e' nd f', .int .i64 (p' : Nat)] 38))
  have x2 := Blk.new (w.alloc (.cells #[.string ⟨nm.toArray⟩, .int .i64 (ht : Nat), .slice a n c, .slice b na d, (.slice x3 m3 y3), (.slice x4 m4 y4), .slice e nd f, .int .i64 (p : Nat)] 38)) 38 [.string ⟨nm.toArray⟩, .int .i64 (ht : Nat), .slice a' n c', .slice b' na d', (.slice x3' m3' y3'), (.slice x4' m4' y4'), .slice e' nd f', .int .i64 (p' : Nat)]
  rw [World.size_alloc] at x2
  have X2 := Lib.hid x2
  have HL := Lib.hid (h1.late hb)
  have HL' := Lib.hid (h1'.late hb)
  have HA := Lib.hid (h2.late hb)
  have HA' := Lib.hid (h2'.late hb)
  have HC := Lib.hid (h3.late hb)
  have HC' := Lib.hid (h3'.late hb)
  have HE := Lib.hid (h4.late hb)
  have HE' := Lib.hid (h4'.late hb)
  have HD := Lib.hid (h5.late hb)
  have HD' := Lib.hid (h5'.late hb)
  have WB := Lib.hid hb
  clear hb x2
  go_enter Tryz.func17, Tryz.ntmps17
  go_upto_region 1 with fail
  generalize (w.alloc (.cells #[.string ⟨nm.toArray⟩, .int .i64 (ht : Nat), .slice a n c, .slice b na d, (.slice x3 m3 y3), (.slice x4 m4 y4), .slice e nd f, .int .i64 (p : Nat)] 38)).alloc (.cells #[.string ⟨nm.toArray⟩, .int .i64 (ht : Nat), .slice a' n c', .slice b' na d', (.slice x3' m3' y3'), (.slice x4' m4' y4'), .slice e' nd f', .int .i64 (p' : Nat)] 38) = W at *
  have y0 := X1.out.cell (i := 0) rfl
  have y1 := X1.out.cell (i := 1) rfl
  have y2 := X1.out.cell (i := 2) rfl
  have y3 := X1.out.cell (i := 3) rfl
  have y4 := X1.out.cell (i := 4) rfl
  have y5 := X1.out.cell (i := 5) rfl
  have y6 := X1.out.cell (i := 6) rfl
  have y7 := X1.out.cell (i := 7) rfl
  have z0 := X2.out.cell (i := 0) rfl
  have z1 := X2.out.cell (i := 1) rfl
  have z2 := X2.out.cell (i := 2) rfl
  have z3 := X2.out.cell (i := 3) rfl
  have z4 := X2.out.cell (i := 4) rfl
  have z5 := X2.out.cell (i := 5) rfl
  have z6 := X2.out.cell (i := 6) rfl
  have z7 := X2.out.cell (i := 7) rfl
  have HB0 := Lib.hid (Below.refl W.heap.size W)
  have HN := Lib.hid hn; have HNA := Lib.hid hna; have HND := Lib.hid hnd
  have HR := Lib.hid hr; have HR2 := Lib.hid ha; have HN2 := Lib.hid (hl.trans hn); have HNA2 := Lib.hid (hl2.trans hna)
  clear hr ha hl hl2
  clear hn hna hnd h1 h2 h3 h4 h5 h1' h2' h3' h4' h5'
  go_wp2
  go_loopw [7] (fun i wr => ∃ k : Nat, i = .int .i64 k ∧ k ≤ n ∧ Hid (Below W.heap.size W wr)) (fun i _ => n - (intOf i).toNat)
  case atStart => exact ⟨0, rfl, Nat.zero_le _, HB0⟩
  case round =>
    clear y0 z0 y1 z1 y2 z2 y3 z3 y4 z4 y5 z5 y6 z6 y7 z7
    obtain ⟨k, rfl, hk, HB⟩ := hrel
    have xb := X1.out.below HB.out
    have zb := X2.out.below HB.out
    have y2 := xb.cell (i := 2) rfl
    have z2 := zb.cell (i := 2) rfl
    have y3 := xb.cell (i := 3) rfl
    have z3 := zb.cell (i := 3) rfl
    have y4 := xb.cell (i := 4) rfl
    have z4 := zb.cell (i := 4) rfl
    have y6 := xb.cell (i := 6) rfl
    have z6 := zb.cell (i := 6) rfl
    have hy1 := xb.lt
    have hz1 := zb.lt
    clear xb zb
    by_cases hk2 : k < n
    · obtain ⟨m, hx⟩ : ∃ m, bs[k]? = some m := ⟨_, List.getElem?_eq_getElem (by have := HN.out; omega)⟩
      obtain ⟨m', hx', hm⟩ := map_at HR.out hx
      obtain ⟨g, cap, cs, hv, _, _, _, hg, ⟨vm, rfl, hm1⟩, hcell⟩ := (HL.out.below HB.out).at hx
      obtain ⟨g', cap', cs', hv', _, _, _, hg', ⟨vm', rfl, hm2⟩, hcell'⟩ := (HL'.out.below HB.out).at hx'
      rw [HN.out] at hv
      rw [HN2.out] at hv'
      injection hv with hv1 hv2 hv3
      injection hv' with hv1' hv2' hv3'
      subst hv1 hv3 hv1' hv3'
      have d0 := hcell 0 _ rfl
      have d0' := hcell' 0 _ rfl
      have d1 := hcell 1 _ rfl
      have d1' := hcell' 1 _ rfl
      have d2 := hcell 2 _ rfl
      have d2' := hcell' 2 _ rfl
      rw [show blockK.size = 3 from rfl] at d0 d0' d1 d1' d2 d2'
      rw [Nat.add_zero] at d0 d0'
      have hki : (0 : Int) ≤ k ∧ (k : Int) < n := by omega
      clear hcell hcell' hx hx'
      have HM := Lib.hid hm; have HM1 := Lib.hid hm1; have HM2 := Lib.hid hm2
      clear hm hm1 hm2
      go_wp2
      refine wp_region_any (by kernel_rfl) ?_
      have hS0 : Below wr.heap.size wr wr.drew := (Below.refl _ _).drew
      refine any_of_held (S := fun W => Below wr.heap.size wr W) (N := []) _ _ _ _ ?_
      change held _ _ _ _ _ _ _ _ _ wr.drew
      obtain ⟨wa, hwa⟩ : ∃ wa, wr.drew = wa := ⟨_, rfl⟩
      rw [hwa] at hS0 ⊢
      clear hwa
      refine held_take [] (i := 0) (v := .pointer (some ⟨w.heap.size, 2, none⟩)) rfl (by kernel_rfl) (fun _ _ _ h => h) (Or.inl ⟨by rfl, fun w' hS => by go_simp⟩) hS0 ?_
      try simp only [Act.put, List.setIfInBounds_toArray, List.set_cons_zero, List.set_cons_succ]
      refine held_take [] (i := 1) (v := .slice (some ⟨g, 0, none⟩) n c) rfl (by kernel_rfl) (fun _ _ _ h => h) (Or.inl ⟨by rfl, fun w' hS => by have := (hS.cell (p := ⟨w.heap.size, 2, none⟩) hy1).trans y2; go_simp⟩) hS0 ?_
      try simp only [Act.put, List.setIfInBounds_toArray, List.set_cons_zero, List.set_cons_succ]
      refine held_take [] (i := 2) (v := .int .i64 (k : Nat)) rfl (by kernel_rfl) (fun _ _ _ h => h) (Or.inl ⟨by rfl, fun w' hS => by go_simp⟩) hS0 ?_
      try simp only [Act.put, List.setIfInBounds_toArray, List.set_cons_zero, List.set_cons_succ]
      refine held_take [] (i := 3) (v := .pointer (some ⟨g, k * 3, none⟩)) rfl (by kernel_rfl) (fun _ _ _ h => h) (Or.inl ⟨by rfl, fun w' hS => by go_simp⟩) hS0 ?_
      try simp only [Act.put, List.setIfInBounds_toArray, List.set_cons_zero, List.set_cons_succ]
      refine held_take [] (i := 4) (v := .agg #[.string ⟨m.name.toArray⟩, vm, .int .i64 (m.pos : Nat)]) rfl (by kernel_rfl) (fun _ _ _ h => h) (Or.inl ⟨by rfl, fun w' hS => by have := (hS.cell (p := ⟨g, k * 3, none⟩) hg).trans d0; have := (hS.cell (p := ⟨g, k * 3 + 1, none⟩) hg).trans d1; have := (hS.cell (p := ⟨g, k * 3 + 2, none⟩) hg).trans d2; go_simp⟩) hS0 ?_
      try simp only [Act.put, List.setIfInBounds_toArray, List.set_cons_zero, List.set_cons_succ]
      refine held_take [] (i := 5) (v := .pointer (some ⟨w.heap.size + 1, 2, none⟩)) rfl (by kernel_rfl) (fun _ _ _ h => h) (Or.inl ⟨by rfl, fun w' hS => by go_simp⟩) hS0 ?_
      try simp only [Act.put, List.setIfInBounds_toArray, List.set_cons_zero, List.set_cons_succ]
      refine held_take [] (i := 6) (v := .slice (some ⟨g', 0, none⟩) n c') rfl (by kernel_rfl) (fun _ _ _ h => h) (Or.inl ⟨by rfl, fun w' hS => by have := (hS.cell (p := ⟨w.heap.size + 1, 2, none⟩) hz1).trans z2; go_simp⟩) hS0 ?_
      try simp only [Act.put, List.setIfInBounds_toArray, List.set_cons_zero, List.set_cons_succ]
      refine held_take [] (i := 7) (v := .int .i64 (k : Nat)) rfl (by kernel_rfl) (fun _ _ _ h => h) (Or.inl ⟨by rfl, fun w' hS => by go_simp⟩) hS0 ?_
      try simp only [Act.put, List.setIfInBounds_toArray, List.set_cons_zero, List.set_cons_succ]
      refine held_take [] (i := 8) (v := .pointer (some ⟨g', k * 3, none⟩)) rfl (by kernel_rfl) (fun _ _ _ h => h) (Or.inl ⟨by rfl, fun w' hS => by go_simp⟩) hS0 ?_
      try simp only [Act.put, List.setIfInBounds_toArray, List.set_cons_zero, List.set_cons_succ]
      refine held_take [] (i := 9) (v := .agg #[.string ⟨m'.name.toArray⟩, vm', .int .i64 (m'.pos : Nat)]) rfl (by kernel_rfl) (fun _ _ _ h => h) (Or.inl ⟨by rfl, fun w' hS => by have := (hS.cell (p := ⟨g', k * 3, none⟩) hg').trans d0'; have := (hS.cell (p := ⟨g', k * 3 + 1, none⟩) hg').trans d1'; have := (hS.cell (p := ⟨g', k * 3 + 2, none⟩) hg').trans d2'; go_simp⟩) hS0 ?_
      try simp only [Act.put, List.setIfInBounds_toArray, List.set_cons_zero, List.set_cons_succ]
      refine held_take [] (i := 10) (v := .bool false) rfl (by kernel_rfl) (fun _ _ _ h => h) (Or.inl ⟨by rfl, fun w' hS => by go_simp⟩) hS0 ?_
      try simp only [Act.put, List.setIfInBounds_toArray, List.set_cons_zero, List.set_cons_succ]
      refine held_one (i := 11) rfl (by kernel_rfl) (fun K hK => ?_)
      go_simp
      refine (blockv_false m m' HM.out vm vm' _ _ wa (HM1.out.below hS0) (HM2.out.below hS0)).mono ?_
      rintro e W1 ⟨rfl, hw1⟩
      have hS1 : Below wr.heap.size wr W1 := hS0.trans (hw1.mono hS0.size)
      clear hS0 hw1
      refine hK.out _ _ (fun _ => hS1) ?_
      clear hK K
      try simp only [Act.put, List.setIfInBounds_toArray, List.set_cons_zero, List.set_cons_succ]
      refine held_take [] (i := 12) (v := .bool false) rfl (by kernel_rfl) (fun _ _ _ h => h) (Or.inl ⟨by rfl, fun w' hS => by go_simp⟩) hS1 ?_
      try simp only [Act.put, List.setIfInBounds_toArray, List.set_cons_zero, List.set_cons_succ]
      refine held_done (by kernel_rfl) ?_ _
      have HB1 := Lib.hid (HB.out.trans (hS1.mono HB.out.size))
      clear hS1
      go_wp2
      refine ⟨⟨k + 1, by go_num, by omega, HB1⟩, ?_⟩
      simp [intOf]; omega
    · obtain rfl : k = n := by omega
      go_wp2
      go_loopw [8] (fun i wr => ∃ k : Nat, i = .int .i64 k ∧ k ≤ na ∧ Hid (Below W.heap.size W wr)) (fun i _ => na - (intOf i).toNat)
      case atStart => exact ⟨0, rfl, Nat.zero_le _, (Lib.hid HB.out)⟩
      case round =>
        obtain ⟨k, rfl, hk, HB⟩ := hrel
        have xb := X1.out.below HB.out
        have zb := X2.out.below HB.out
        have y2 := xb.cell (i := 2) rfl
        have z2 := zb.cell (i := 2) rfl
        have y3 := xb.cell (i := 3) rfl
        have z3 := zb.cell (i := 3) rfl
        have y4 := xb.cell (i := 4) rfl
        have z4 := zb.cell (i := 4) rfl
        have y6 := xb.cell (i := 6) rfl
        have z6 := zb.cell (i := 6) rfl
        have hy1 := xb.lt
        have hz1 := zb.lt
        clear xb zb
        by_cases hk2 : k < na
        · obtain ⟨m, hx⟩ : ∃ m, ars[k]? = some m := ⟨_, List.getElem?_eq_getElem (by have := HNA.out; omega)⟩
          obtain ⟨m', hx', hm⟩ := map_at HR2.out hx
          obtain ⟨g, cap, cs, hv, _, _, _, hg, rfl, hcell⟩ := (HA.out.below HB.out).at hx
          obtain ⟨g', cap', cs', hv', _, _, _, hg', rfl, hcell'⟩ := (HA'.out.below HB.out).at hx'
          rw [HNA.out] at hv
          rw [HNA2.out] at hv'
          injection hv with hv1 hv2 hv3
          injection hv' with hv1' hv2' hv3'
          subst hv1 hv3 hv1' hv3'
          have d0 := hcell 0 _ rfl
          have d0' := hcell' 0 _ rfl
          have d1 := hcell 1 _ rfl
          have d1' := hcell' 1 _ rfl
          have d2 := hcell 2 _ rfl
          have d2' := hcell' 2 _ rfl
          have d3 := hcell 3 _ rfl
          have d3' := hcell' 3 _ rfl
          have d4 := hcell 4 _ rfl
          have d4' := hcell' 4 _ rfl
          have d5 := hcell 5 _ rfl
          have d5' := hcell' 5 _ rfl
          have d6 := hcell 6 _ rfl
          have d6' := hcell' 6 _ rfl
          rw [show areaK.size = 7 from rfl] at d0 d0' d1 d1' d2 d2' d3 d3' d4 d4' d5 d5' d6 d6'
          rw [Nat.add_zero] at d0 d0'
          clear hcell hcell' hx hx'
          obtain ⟨an, ⟨ax, ay, az, at_⟩, ah, ap⟩ := m
          obtain ⟨an', ⟨ax', ay', az', at'⟩, ah', ap'⟩ := m'
          simp only [AreaP.bare, AreaP.mk.injEq, BoxP.mk.injEq, and_true] at hm
          obtain ⟨rfl, ⟨rfl, rfl, rfl, rfl⟩, rfl⟩ := hm
          have e1 : (an != an) = false := by simp
          have hki : (0 : Int) ≤ k ∧ (k : Int) < na := by omega
          have mg := fun x y xs ys w => box_gneq x y xs ys w
          have me := fun w => box_neq ax ay az at_ ax ay az at_ false (by simp) w
          go_wp2
          refine wp_region_any (by kernel_rfl) ?_
          have hS0 : Below wr.heap.size wr wr.drew := (Below.refl _ _).drew
          refine any_of_held (S := fun W => Below wr.heap.size wr W) (N := []) _ _ _ _ ?_
          change held _ _ _ _ _ _ _ _ _ wr.drew
          obtain ⟨wa, hwa⟩ : ∃ wa, wr.drew = wa := ⟨_, rfl⟩
          rw [hwa] at hS0 ⊢
          clear hwa
          refine held_take [] (i := 0) (v := .pointer (some ⟨w.heap.size, 3, none⟩)) rfl (by kernel_rfl) (fun _ _ _ h => h) (Or.inl ⟨by rfl, fun w' hS => by go_simp⟩) hS0 ?_
          try simp only [Act.put, List.setIfInBounds_toArray, List.set_cons_zero, List.set_cons_succ]
          refine held_take [] (i := 1) (v := .slice (some ⟨g, 0, none⟩) na d) rfl (by kernel_rfl) (fun _ _ _ h => h) (Or.inl ⟨by rfl, fun w' hS => by have := (hS.cell (p := ⟨w.heap.size, 3, none⟩) hy1).trans y3; go_simp⟩) hS0 ?_
          try simp only [Act.put, List.setIfInBounds_toArray, List.set_cons_zero, List.set_cons_succ]
          refine held_take [] (i := 2) (v := .int .i64 (k : Nat)) rfl (by kernel_rfl) (fun _ _ _ h => h) (Or.inl ⟨by rfl, fun w' hS => by go_simp⟩) hS0 ?_
          try simp only [Act.put, List.setIfInBounds_toArray, List.set_cons_zero, List.set_cons_succ]
          refine held_take [] (i := 3) (v := .pointer (some ⟨g, k * 7, none⟩)) rfl (by kernel_rfl) (fun _ _ _ h => h) (Or.inl ⟨by rfl, fun w' hS => by go_simp⟩) hS0 ?_
          try simp only [Act.put, List.setIfInBounds_toArray, List.set_cons_zero, List.set_cons_succ]
          refine held_take [] (i := 4) (v := .agg #[.string ⟨an.toArray⟩, .int .i64 (ax : Nat), .int .i64 (ay : Nat), .int .i64 (az : Nat), .int .i64 (at_ : Nat), .int .i64 (ah : Nat), .int .i64 (ap : Nat)]) rfl (by kernel_rfl) (fun _ _ _ h => h) (Or.inl ⟨by rfl, fun w' hS => by have := (hS.cell (p := ⟨g, k * 7, none⟩) hg).trans d0; have := (hS.cell (p := ⟨g, k * 7 + 1, none⟩) hg).trans d1; have := (hS.cell (p := ⟨g, k * 7 + 2, none⟩) hg).trans d2; have := (hS.cell (p := ⟨g, k * 7 + 3, none⟩) hg).trans d3; have := (hS.cell (p := ⟨g, k * 7 + 4, none⟩) hg).trans d4; have := (hS.cell (p := ⟨g, k * 7 + 5, none⟩) hg).trans d5; have := (hS.cell (p := ⟨g, k * 7 + 6, none⟩) hg).trans d6; go_simp⟩) hS0 ?_
          try simp only [Act.put, List.setIfInBounds_toArray, List.set_cons_zero, List.set_cons_succ]
          refine held_take [] (i := 5) (v := .pointer (some ⟨w.heap.size + 1, 3, none⟩)) rfl (by kernel_rfl) (fun _ _ _ h => h) (Or.inl ⟨by rfl, fun w' hS => by go_simp⟩) hS0 ?_
          try simp only [Act.put, List.setIfInBounds_toArray, List.set_cons_zero, List.set_cons_succ]
          refine held_take [] (i := 6) (v := .slice (some ⟨g', 0, none⟩) na d') rfl (by kernel_rfl) (fun _ _ _ h => h) (Or.inl ⟨by rfl, fun w' hS => by have := (hS.cell (p := ⟨w.heap.size + 1, 3, none⟩) hz1).trans z3; go_simp⟩) hS0 ?_
          try simp only [Act.put, List.setIfInBounds_toArray, List.set_cons_zero, List.set_cons_succ]
          refine held_take [] (i := 7) (v := .int .i64 (k : Nat)) rfl (by kernel_rfl) (fun _ _ _ h => h) (Or.inl ⟨by rfl, fun w' hS => by go_simp⟩) hS0 ?_
          try simp only [Act.put, List.setIfInBounds_toArray, List.set_cons_zero, List.set_cons_succ]
          refine held_take [] (i := 8) (v := .pointer (some ⟨g', k * 7, none⟩)) rfl (by kernel_rfl) (fun _ _ _ h => h) (Or.inl ⟨by rfl, fun w' hS => by go_simp⟩) hS0 ?_
          try simp only [Act.put, List.setIfInBounds_toArray, List.set_cons_zero, List.set_cons_succ]
          refine held_take [] (i := 9) (v := .agg #[.string ⟨an.toArray⟩, .int .i64 (ax : Nat), .int .i64 (ay : Nat), .int .i64 (az : Nat), .int .i64 (at_ : Nat), .int .i64 (ah : Nat), .int .i64 (ap' : Nat)]) rfl (by kernel_rfl) (fun _ _ _ h => h) (Or.inl ⟨by rfl, fun w' hS => by have := (hS.cell (p := ⟨g', k * 7, none⟩) hg').trans d0'; have := (hS.cell (p := ⟨g', k * 7 + 1, none⟩) hg').trans d1'; have := (hS.cell (p := ⟨g', k * 7 + 2, none⟩) hg').trans d2'; have := (hS.cell (p := ⟨g', k * 7 + 3, none⟩) hg').trans d3'; have := (hS.cell (p := ⟨g', k * 7 + 4, none⟩) hg').trans d4'; have := (hS.cell (p := ⟨g', k * 7 + 5, none⟩) hg').trans d5'; have := (hS.cell (p := ⟨g', k * 7 + 6, none⟩) hg').trans d6'; go_simp⟩) hS0 ?_
          try simp only [Act.put, List.setIfInBounds_toArray, List.set_cons_zero, List.set_cons_succ]
          refine held_two (i := 10) (j := 11) rfl rfl (by kernel_rfl) (fun K hK => ?_) (fun K hK => ?_)
          · go_simp
            refine hK.out _ _ (fun _ => hS0.alloc hS0.size _) ?_
            clear hK K
            try simp only [Act.put, List.setIfInBounds_toArray, List.set_cons_zero, List.set_cons_succ]
            refine held_one (i := 11) rfl (by kernel_rfl) (fun K hK => ?_)
            go_simp
            refine hK.out _ _ (fun _ => (hS0.alloc hS0.size _).alloc (by rw [World.size_alloc]; have := hS0.size; omega) _) ?_
            clear hK K
            try simp only [Act.put, List.setIfInBounds_toArray, List.set_cons_zero, List.set_cons_succ]
            refine held_one (i := 12) rfl (by kernel_rfl) (fun K hK => ?_)
            go_simp
            refine hK.out _ _ (fun _ => ((hS0.alloc hS0.size _).alloc (by rw [World.size_alloc]; have := hS0.size; omega) _)) ?_
            clear hK K
            try simp only [Act.put, List.setIfInBounds_toArray, List.set_cons_zero, List.set_cons_succ]
            refine held_one (i := 13) rfl (by kernel_rfl) (fun K hK => ?_)
            go_simp
            refine hK.out _ _ (fun _ => ((hS0.alloc hS0.size _).alloc (by rw [World.size_alloc]; have := hS0.size; omega) _)) ?_
            clear hK K
            try simp only [Act.put, List.setIfInBounds_toArray, List.set_cons_zero, List.set_cons_succ]
            refine held_done (by kernel_rfl) ?_ _
            have b1 := (Blk.new wa 50 [.string ⟨an.toArray⟩, .int .i64 (ax : Nat), .int .i64 (ay : Nat), .int .i64 (az : Nat), .int .i64 (at_ : Nat), .int .i64 (ah : Nat), .int .i64 (ap : Nat)]).alloc (.cells #[.string ⟨an.toArray⟩, .int .i64 (ax : Nat), .int .i64 (ay : Nat), .int .i64 (az : Nat), .int .i64 (at_ : Nat), .int .i64 (ah : Nat), .int .i64 (ap' : Nat)] 50)
            have b2 := Blk.new (wa.alloc (.cells #[.string ⟨an.toArray⟩, .int .i64 (ax : Nat), .int .i64 (ay : Nat), .int .i64 (az : Nat), .int .i64 (at_ : Nat), .int .i64 (ah : Nat), .int .i64 (ap : Nat)] 50)) 50 [.string ⟨an.toArray⟩, .int .i64 (ax : Nat), .int .i64 (ay : Nat), .int .i64 (az : Nat), .int .i64 (at_ : Nat), .int .i64 (ah : Nat), .int .i64 (ap' : Nat)]
            rw [World.size_alloc] at b2
            have HB1 := Lib.hid (HB.out.trans (((hS0.alloc hS0.size (.cells #[.string ⟨an.toArray⟩, .int .i64 (ax : Nat), .int .i64 (ay : Nat), .int .i64 (az : Nat), .int .i64 (at_ : Nat), .int .i64 (ah : Nat), .int .i64 (ap : Nat)] 50)).alloc (by rw [World.size_alloc]; have := hS0.size; omega) (.cells #[.string ⟨an.toArray⟩, .int .i64 (ax : Nat), .int .i64 (ay : Nat), .int .i64 (az : Nat), .int .i64 (at_ : Nat), .int .i64 (ah : Nat), .int .i64 (ap' : Nat)] 50)).mono HB.out.size))
            generalize (wa.alloc (.cells #[.string ⟨an.toArray⟩, .int .i64 (ax : Nat), .int .i64 (ay : Nat), .int .i64 (az : Nat), .int .i64 (at_ : Nat), .int .i64 (ah : Nat), .int .i64 (ap : Nat)] 50)).alloc (.cells #[.string ⟨an.toArray⟩, .int .i64 (ax : Nat), .int .i64 (ay : Nat), .int .i64 (az : Nat), .int .i64 (at_ : Nat), .int .i64 (ah : Nat), .int .i64 (ap' : Nat)] 50) = V at *
            have q0 := b1.cell (i := 0) rfl
            have r0 := b2.cell (i := 0) rfl
            have q1 := b1.cell (i := 1) rfl
            have r1 := b2.cell (i := 1) rfl
            have q2 := b1.cell (i := 2) rfl
            have r2 := b2.cell (i := 2) rfl
            have q3 := b1.cell (i := 3) rfl
            have r3 := b2.cell (i := 3) rfl
            have q4 := b1.cell (i := 4) rfl
            have r4 := b2.cell (i := 4) rfl
            have q5 := b1.cell (i := 5) rfl
            have r5 := b2.cell (i := 5) rfl
            have q6 := b1.cell (i := 6) rfl
            have r6 := b2.cell (i := 6) rfl
            clear b1 b2 hS0
            go_wp2
            refine ⟨⟨k + 1, by go_num, by omega, HB1⟩, ?_⟩
            simp [intOf]; omega
          · go_simp
            refine hK.out _ _ (fun _ => hS0.alloc hS0.size _) ?_
            clear hK K
            try simp only [Act.put, List.setIfInBounds_toArray, List.set_cons_zero, List.set_cons_succ]
            refine held_one (i := 10) rfl (by kernel_rfl) (fun K hK => ?_)
            go_simp
            refine hK.out _ _ (fun _ => (hS0.alloc hS0.size _).alloc (by rw [World.size_alloc]; have := hS0.size; omega) _) ?_
            clear hK K
            try simp only [Act.put, List.setIfInBounds_toArray, List.set_cons_zero, List.set_cons_succ]
            refine held_one (i := 12) rfl (by kernel_rfl) (fun K hK => ?_)
            go_simp
            refine hK.out _ _ (fun _ => ((hS0.alloc hS0.size _).alloc (by rw [World.size_alloc]; have := hS0.size; omega) _)) ?_
            clear hK K
            try simp only [Act.put, List.setIfInBounds_toArray, List.set_cons_zero, List.set_cons_succ]
            refine held_one (i := 13) rfl (by kernel_rfl) (fun K hK => ?_)
            go_simp
            refine hK.out _ _ (fun _ => ((hS0.alloc hS0.size _).alloc (by rw [World.size_alloc]; have := hS0.size; omega) _)) ?_
            clear hK K
            try simp only [Act.put, List.setIfInBounds_toArray, List.set_cons_zero, List.set_cons_succ]
            refine held_done (by kernel_rfl) ?_ _
            have b1 := (Blk.new wa 50 [.string ⟨an.toArray⟩, .int .i64 (ax : Nat), .int .i64 (ay : Nat), .int .i64 (az : Nat), .int .i64 (at_ : Nat), .int .i64 (ah : Nat), .int .i64 (ap' : Nat)]).alloc (.cells #[.string ⟨an.toArray⟩, .int .i64 (ax : Nat), .int .i64 (ay : Nat), .int .i64 (az : Nat), .int .i64 (at_ : Nat), .int .i64 (ah : Nat), .int .i64 (ap : Nat)] 50)
            have b2 := Blk.new (wa.alloc (.cells #[.string ⟨an.toArray⟩, .int .i64 (ax : Nat), .int .i64 (ay : Nat), .int .i64 (az : Nat), .int .i64 (at_ : Nat), .int .i64 (ah : Nat), .int .i64 (ap' : Nat)] 50)) 50 [.string ⟨an.toArray⟩, .int .i64 (ax : Nat), .int .i64 (ay : Nat), .int .i64 (az : Nat), .int .i64 (at_ : Nat), .int .i64 (ah : Nat), .int .i64 (ap : Nat)]
            rw [World.size_alloc] at b2
            have HB1 := Lib.hid (HB.out.trans (((hS0.alloc hS0.size (.cells #[.string ⟨an.toArray⟩, .int .i64 (ax : Nat), .int .i64 (ay : Nat), .int .i64 (az : Nat), .int .i64 (at_ : Nat), .int .i64 (ah : Nat), .int .i64 (ap' : Nat)] 50)).alloc (by rw [World.size_alloc]; have := hS0.size; omega) (.cells #[.string ⟨an.toArray⟩, .int .i64 (ax : Nat), .int .i64 (ay : Nat), .int .i64 (az : Nat), .int .i64 (at_ : Nat), .int .i64 (ah : Nat), .int .i64 (ap : Nat)] 50)).mono HB.out.size))
            generalize (wa.alloc (.cells #[.string ⟨an.toArray⟩, .int .i64 (ax : Nat), .int .i64 (ay : Nat), .int .i64 (az : Nat), .int .i64 (at_ : Nat), .int .i64 (ah : Nat), .int .i64 (ap' : Nat)] 50)).alloc (.cells #[.string ⟨an.toArray⟩, .int .i64 (ax : Nat), .int .i64 (ay : Nat), .int .i64 (az : Nat), .int .i64 (at_ : Nat), .int .i64 (ah : Nat), .int .i64 (ap : Nat)] 50) = V at *
            have q0 := b1.cell (i := 0) rfl
            have r0 := b2.cell (i := 0) rfl
            have q1 := b1.cell (i := 1) rfl
            have r1 := b2.cell (i := 1) rfl
            have q2 := b1.cell (i := 2) rfl
            have r2 := b2.cell (i := 2) rfl
            have q3 := b1.cell (i := 3) rfl
            have r3 := b2.cell (i := 3) rfl
            have q4 := b1.cell (i := 4) rfl
            have r4 := b2.cell (i := 4) rfl
            have q5 := b1.cell (i := 5) rfl
            have r5 := b2.cell (i := 5) rfl
            have q6 := b1.cell (i := 6) rfl
            have r6 := b2.cell (i := 6) rfl
            clear b1 b2 hS0
            go_wp2
            refine ⟨⟨k + 1, by go_num, by omega, HB1⟩, ?_⟩
            simp [intOf]; omega
        · obtain rfl : k = na := by omega
          go_wp2
          go_loopw [11] (fun i wr => ∃ k : Nat, i = .int .i64 k ∧ k ≤ nd ∧ Hid (Below W.heap.size W wr)) (fun i _ => nd - (intOf i).toNat)
          case atStart => exact ⟨0, rfl, Nat.zero_le _, (Lib.hid HB.out)⟩
          case round =>
            obtain ⟨k, rfl, hk, HB⟩ := hrel
            have xb := X1.out.below HB.out
            have zb := X2.out.below HB.out
            have y2 := xb.cell (i := 2) rfl
            have z2 := zb.cell (i := 2) rfl
            have y3 := xb.cell (i := 3) rfl
            have z3 := zb.cell (i := 3) rfl
            have y4 := xb.cell (i := 4) rfl
            have z4 := zb.cell (i := 4) rfl
            have y6 := xb.cell (i := 6) rfl
            have z6 := zb.cell (i := 6) rfl
            have hy1 := xb.lt
            have hz1 := zb.lt
            clear xb zb
            by_cases hk2 : k < nd
            · obtain ⟨m, hx⟩ : ∃ m, ds[k]? = some m := ⟨_, List.getElem?_eq_getElem (by have := HND.out; omega)⟩
              obtain ⟨g, cap, cs, hv, _, _, _, hg, rfl, hcell⟩ := (HD.out.below HB.out).at hx
              obtain ⟨g', cap', cs', hv', _, _, _, hg', rfl, hcell'⟩ := (HD'.out.below HB.out).at hx
              rw [HND.out] at hv hv'
              injection hv with hv1 hv2 hv3
              injection hv' with hv1' hv2' hv3'
              subst hv1 hv3 hv1' hv3'
              have d0 := hcell 0 _ rfl
              have d1 := hcell 1 _ rfl
              have d0' := hcell' 0 _ rfl
              have d1' := hcell' 1 _ rfl
              rw [show pointK.size = 2 from rfl] at d0 d1 d0' d1'
              rw [Nat.add_zero] at d0 d0'
              have hki : (0 : Int) ≤ k ∧ (k : Int) < nd := by omega
              have mg := fun x y xs ys w => point_gneq x y xs ys w
              have me := fun w => point_neq m.1 m.2 m.1 m.2 false (by simp) w
              clear hcell hcell' hx
              go_wp2
              go_quiet (fail)
              go_wp2
              refine ⟨⟨k + 1, by go_num, by omega, Lib.hid (below_drewN HB.out _)⟩, ?_⟩
              simp [intOf]; omega
            · obtain rfl : k = nd := by omega
              go_wp2_with fail
              refine (boxes_same ais _ _ _ _ _ (HC.out.below HB.out) (HC'.out.below HB.out)).mono ?_; rintro q W1 ⟨rfl, hw1⟩
              have HB1 := Lib.hid (HB.out.trans (hw1.mono HB.out.size)); clear hw1
              have xb := X1.out.below HB1.out
              have zb := X2.out.below HB1.out
              have y5 := xb.cell (i := 5) rfl
              have z5 := zb.cell (i := 5) rfl
              clear xb zb
              go_wp2_with fail
              refine (boxes_same pls _ _ _ _ _ (HE.out.below HB1.out) (HE'.out.below HB1.out)).mono ?_; rintro q W2 ⟨rfl, hw2⟩
              have HB2 := Lib.hid (HB1.out.trans (hw2.mono HB1.out.size)); clear hw2
              go_wp2
              go_ret
              exact ⟨rfl, WB.out.trans (HB2.out.mono WB.out.size)⟩
theorem levelv_false (x y : LevelP) (hxy : x.bare = y.bare) (v1 v2 v3 v4 v5 v1' v2' v3' v4' v5' : Value) (F F' : Nat → Prop) (w : World) (h : LevelIs w F (levelCl x v1 v2 v3 v4 v5) x v1 v2 v3 v4 v5) (h' : LevelIs w F' (levelCl y v1' v2' v3' v4' v5') y v1' v2' v3' v4' v5') :
    Calls Tryz.prog 17 #[.agg (levelCl x v1 v2 v3 v4 v5).toArray, .agg (levelCl y v1' v2' v3' v4' v5').toArray, .bool false] w fun e w' => e = .returned (.bool true) ∧ Below w.heap.size w w' := by
  cases x; cases y
  simp only [LevelP.bare, LevelP.mk.injEq, and_true] at hxy
  obtain ⟨rfl, rfl, hr, ha, rfl, rfl, rfl⟩ := hxy
  exact level_false _ _ _ _ _ _ hr _ _ ha _ _ _ v1 v2 v3 v4 v5 v1' v2' v3' v4' v5' F F' w h.blocks h.areas h.aisles h.pillars h.doors h'.blocks h'.areas h'.aisles h'.pillars h'.doors
set_option linter.unusedSimpArgs false in
set_option maxRecDepth 100000 in
set_option maxHeartbeats 8000000 in
theorem same_false (nm : List UInt8) (sx sy : Nat) (ls ls' : List LevelP) (hr : ls.map LevelP.bare = ls'.map LevelP.bare) (v v' : Value) (F F' : Nat → Prop) (w : World) (h : IsList levelK w F 38 v ls) (h' : IsList levelK w F' 38 v' ls') :
    Calls Tryz.prog 7 #[.agg #[.string ⟨nm.toArray⟩, .int .i64 (sx : Nat), .int .i64 (sy : Nat), v], .agg #[.string ⟨nm.toArray⟩, .int .i64 (sx : Nat), .int .i64 (sy : Nat), v'], .bool false] w fun e w' => e = .returned (.bool true) ∧ Below w.heap.size w w' := by
  obtain ⟨a, c, rfl⟩ := h.len
  obtain ⟨a', c', rfl⟩ := h'.len
  have hl : ls'.length = ls.length := by simpa using (congrArg List.length hr).symm
  obtain ⟨n, hn⟩ : ∃ n, ls.length = n := ⟨_, rfl⟩
  have hn9 := bound6 h
  rw [hl, hn] at h' 
  rw [hn] at h hn9
  rw [hl, hn]
  have e0 : (nm != nm) = false := by simp
  have mg := fun x y xs ys w => point_gneq x y xs ys w
  have me := fun w => point_neq sx sy sx sy false (by simp) w
  have hb := below_boxes (w := w) (.cells #[.string ⟨nm.toArray⟩, .int .i64 (sx : Nat), .int .i64 (sy : Nat), .slice a n c] 27) (.cells #[.string ⟨nm.toArray⟩, .int .i64 (sx : Nat), .int .i64 (sy : Nat), .slice a' n c'] 27)
  have X1 := Lib.hid ((Blk.new w 27 [.string ⟨nm.toArray⟩, .int .i64 (sx : Nat), .int .i64 (sy : Nat), .slice a n c]).alloc (.cells #[.string ⟨nm.toArray⟩, .int .i64 (sx : Nat), .int .i64 (sy : Nat), .slice a' n c'] 27))
  have x2 := Blk.new (w.alloc (.cells #[.string ⟨nm.toArray⟩, .int .i64 (sx : Nat), .int .i64 (sy : Nat), .slice a n c] 27)) 27 [.string ⟨nm.toArray⟩, .int .i64 (sx : Nat), .int .i64 (sy : Nat), .slice a' n c']
  rw [World.size_alloc] at x2
  have X2 := Lib.hid x2
  have HL := Lib.hid (h.late hb)
  have HL' := Lib.hid (h'.late hb)
  have WB := Lib.hid hb
  clear hb x2
  go_enter Tryz.func7, Tryz.ntmps7
  go_upto_region 1 with fail
  generalize (w.alloc (.cells #[.string ⟨nm.toArray⟩, .int .i64 (sx : Nat), .int .i64 (sy : Nat), .slice a n c] 27)).alloc (.cells #[.string ⟨nm.toArray⟩, .int .i64 (sx : Nat), .int .i64 (sy : Nat), .slice a' n c'] 27) = W at *
  have y0 := X1.out.cell (i := 0) rfl
  have y1 := X1.out.cell (i := 1) rfl
  have y2 := X1.out.cell (i := 2) rfl
  have y3 := X1.out.cell (i := 3) rfl
  have z0 := X2.out.cell (i := 0) rfl
  have z1 := X2.out.cell (i := 1) rfl
  have z2 := X2.out.cell (i := 2) rfl
  have z3 := X2.out.cell (i := 3) rfl
  have HB0 := Lib.hid (Below.refl W.heap.size W)
  have HN := Lib.hid hn; have HR := Lib.hid hr; have HN2 := Lib.hid (hl.trans hn)
  clear hn h h' hr hl
  go_wp2
  go_loopw [7] (fun i wr => ∃ k : Nat, i = .int .i64 k ∧ k ≤ n ∧ Hid (Below W.heap.size W wr)) (fun i _ => n - (intOf i).toNat)
  case atStart => exact ⟨0, rfl, Nat.zero_le _, HB0⟩
  case round =>
    obtain ⟨k, rfl, hk, HB⟩ := hrel
    clear y0 y1 y2 y3 z0 z1 z2 z3
    have xb := X1.out.below HB.out
    have zb := X2.out.below HB.out
    have y3 := xb.cell (i := 3) rfl
    have z3 := zb.cell (i := 3) rfl
    have hy1 := xb.lt
    have hz1 := zb.lt
    clear xb zb
    by_cases hk2 : k < n
    · obtain ⟨m, hx⟩ : ∃ m, ls[k]? = some m := ⟨_, List.getElem?_eq_getElem (by have := HN.out; omega)⟩
      obtain ⟨m', hx', hm⟩ := map_at HR.out hx
      obtain ⟨g, cap, cs, hv, _, _, _, hg, ⟨v1, v2, v3, v4, v5, hm1⟩, hcell⟩ := (HL.out.below HB.out).at hx
      obtain ⟨g', cap', cs', hv', _, _, _, hg', ⟨v1', v2', v3', v4', v5', hm2⟩, hcell'⟩ := (HL'.out.below HB.out).at hx'
      obtain rfl := hm1.cells
      obtain rfl := hm2.cells
      rw [HN.out] at hv
      rw [HN2.out] at hv'
      injection hv with hv1 hv2 hv3
      injection hv' with hv1' hv2' hv3'
      subst hv1 hv3 hv1' hv3'
      have d0 := hcell 0 _ rfl
      have d0' := hcell' 0 _ rfl
      have d1 := hcell 1 _ rfl
      have d1' := hcell' 1 _ rfl
      have d2 := hcell 2 _ rfl
      have d2' := hcell' 2 _ rfl
      have d3 := hcell 3 _ rfl
      have d3' := hcell' 3 _ rfl
      have d4 := hcell 4 _ rfl
      have d4' := hcell' 4 _ rfl
      have d5 := hcell 5 _ rfl
      have d5' := hcell' 5 _ rfl
      have d6 := hcell 6 _ rfl
      have d6' := hcell' 6 _ rfl
      have d7 := hcell 7 _ rfl
      have d7' := hcell' 7 _ rfl
      rw [show levelK.size = 8 from rfl] at d0 d0' d1 d1' d2 d2' d3 d3' d4 d4' d5 d5' d6 d6' d7 d7'
      rw [Nat.add_zero] at d0 d0'
      have hki : (0 : Int) ≤ k ∧ (k : Int) < n := by omega
      clear hcell hcell' hx hx'
      have HM := Lib.hid hm; have HM1 := Lib.hid hm1; have HM2 := Lib.hid hm2
      clear hm hm1 hm2
      go_wp2
      refine wp_region_any (by kernel_rfl) ?_
      have hS0 : Below wr.heap.size wr wr.drew := (Below.refl _ _).drew
      refine any_of_held (S := fun W => Below wr.heap.size wr W) (N := []) _ _ _ _ ?_
      change held _ _ _ _ _ _ _ _ _ wr.drew
      obtain ⟨wa, hwa⟩ : ∃ wa, wr.drew = wa := ⟨_, rfl⟩
      rw [hwa] at hS0 ⊢
      clear hwa
      refine held_take [] (i := 0) (v := .pointer (some ⟨w.heap.size, 3, none⟩)) rfl (by kernel_rfl) (fun _ _ _ h => h) (Or.inl ⟨by rfl, fun w' hS => by go_simp⟩) hS0 ?_
      try simp only [Act.put, List.setIfInBounds_toArray, List.set_cons_zero, List.set_cons_succ]
      refine held_take [] (i := 1) (v := .slice (some ⟨g, 0, none⟩) n c) rfl (by kernel_rfl) (fun _ _ _ h => h) (Or.inl ⟨by rfl, fun w' hS => by have := (hS.cell (p := ⟨w.heap.size, 3, none⟩) hy1).trans y3; go_simp⟩) hS0 ?_
      try simp only [Act.put, List.setIfInBounds_toArray, List.set_cons_zero, List.set_cons_succ]
      refine held_take [] (i := 2) (v := .int .i64 (k : Nat)) rfl (by kernel_rfl) (fun _ _ _ h => h) (Or.inl ⟨by rfl, fun w' hS => by go_simp⟩) hS0 ?_
      try simp only [Act.put, List.setIfInBounds_toArray, List.set_cons_zero, List.set_cons_succ]
      refine held_take [] (i := 3) (v := .pointer (some ⟨g, k * 8, none⟩)) rfl (by kernel_rfl) (fun _ _ _ h => h) (Or.inl ⟨by rfl, fun w' hS => by go_simp⟩) hS0 ?_
      try simp only [Act.put, List.setIfInBounds_toArray, List.set_cons_zero, List.set_cons_succ]
      refine held_take [] (i := 4) (v := .agg #[.string ⟨m.name.toArray⟩, .int .i64 (m.height : Nat), v1, v2, v3, v4, v5, .int .i64 (m.pos : Nat)]) rfl (by kernel_rfl) (fun _ _ _ h => h) (Or.inl ⟨by rfl, fun w' hS => by have := (hS.cell (p := ⟨g, k * 8, none⟩) hg).trans d0; have := (hS.cell (p := ⟨g, k * 8 + 1, none⟩) hg).trans d1; have := (hS.cell (p := ⟨g, k * 8 + 2, none⟩) hg).trans d2; have := (hS.cell (p := ⟨g, k * 8 + 3, none⟩) hg).trans d3; have := (hS.cell (p := ⟨g, k * 8 + 4, none⟩) hg).trans d4; have := (hS.cell (p := ⟨g, k * 8 + 5, none⟩) hg).trans d5; have := (hS.cell (p := ⟨g, k * 8 + 6, none⟩) hg).trans d6; have := (hS.cell (p := ⟨g, k * 8 + 7, none⟩) hg).trans d7; go_simp⟩) hS0 ?_
      try simp only [Act.put, List.setIfInBounds_toArray, List.set_cons_zero, List.set_cons_succ]
      refine held_take [] (i := 5) (v := .pointer (some ⟨w.heap.size + 1, 3, none⟩)) rfl (by kernel_rfl) (fun _ _ _ h => h) (Or.inl ⟨by rfl, fun w' hS => by go_simp⟩) hS0 ?_
      try simp only [Act.put, List.setIfInBounds_toArray, List.set_cons_zero, List.set_cons_succ]
      refine held_take [] (i := 6) (v := .slice (some ⟨g', 0, none⟩) n c') rfl (by kernel_rfl) (fun _ _ _ h => h) (Or.inl ⟨by rfl, fun w' hS => by have := (hS.cell (p := ⟨w.heap.size + 1, 3, none⟩) hz1).trans z3; go_simp⟩) hS0 ?_
      try simp only [Act.put, List.setIfInBounds_toArray, List.set_cons_zero, List.set_cons_succ]
      refine held_take [] (i := 7) (v := .int .i64 (k : Nat)) rfl (by kernel_rfl) (fun _ _ _ h => h) (Or.inl ⟨by rfl, fun w' hS => by go_simp⟩) hS0 ?_
      try simp only [Act.put, List.setIfInBounds_toArray, List.set_cons_zero, List.set_cons_succ]
      refine held_take [] (i := 8) (v := .pointer (some ⟨g', k * 8, none⟩)) rfl (by kernel_rfl) (fun _ _ _ h => h) (Or.inl ⟨by rfl, fun w' hS => by go_simp⟩) hS0 ?_
      try simp only [Act.put, List.setIfInBounds_toArray, List.set_cons_zero, List.set_cons_succ]
      refine held_take [] (i := 9) (v := .agg #[.string ⟨m'.name.toArray⟩, .int .i64 (m'.height : Nat), v1', v2', v3', v4', v5', .int .i64 (m'.pos : Nat)]) rfl (by kernel_rfl) (fun _ _ _ h => h) (Or.inl ⟨by rfl, fun w' hS => by have := (hS.cell (p := ⟨g', k * 8, none⟩) hg').trans d0'; have := (hS.cell (p := ⟨g', k * 8 + 1, none⟩) hg').trans d1'; have := (hS.cell (p := ⟨g', k * 8 + 2, none⟩) hg').trans d2'; have := (hS.cell (p := ⟨g', k * 8 + 3, none⟩) hg').trans d3'; have := (hS.cell (p := ⟨g', k * 8 + 4, none⟩) hg').trans d4'; have := (hS.cell (p := ⟨g', k * 8 + 5, none⟩) hg').trans d5'; have := (hS.cell (p := ⟨g', k * 8 + 6, none⟩) hg').trans d6'; have := (hS.cell (p := ⟨g', k * 8 + 7, none⟩) hg').trans d7'; go_simp⟩) hS0 ?_
      try simp only [Act.put, List.setIfInBounds_toArray, List.set_cons_zero, List.set_cons_succ]
      refine held_take [] (i := 10) (v := .bool false) rfl (by kernel_rfl) (fun _ _ _ h => h) (Or.inl ⟨by rfl, fun w' hS => by go_simp⟩) hS0 ?_
      try simp only [Act.put, List.setIfInBounds_toArray, List.set_cons_zero, List.set_cons_succ]
      refine held_one (i := 11) rfl (by kernel_rfl) (fun K hK => ?_)
      go_simp
      refine (levelv_false m m' HM.out v1 v2 v3 v4 v5 v1' v2' v3' v4' v5' _ _ wa (HM1.out.below hS0) (HM2.out.below hS0)).mono ?_
      rintro e W1 ⟨rfl, hw1⟩
      have hS1 : Below wr.heap.size wr W1 := hS0.trans (hw1.mono hS0.size)
      clear hS0 hw1
      refine hK.out _ _ (fun _ => hS1) ?_
      clear hK K
      try simp only [Act.put, List.setIfInBounds_toArray, List.set_cons_zero, List.set_cons_succ]
      refine held_take [] (i := 12) (v := .bool false) rfl (by kernel_rfl) (fun _ _ _ h => h) (Or.inl ⟨by rfl, fun w' hS => by go_simp⟩) hS1 ?_
      try simp only [Act.put, List.setIfInBounds_toArray, List.set_cons_zero, List.set_cons_succ]
      refine held_done (by kernel_rfl) ?_ _
      have HB1 := Lib.hid (HB.out.trans (hS1.mono HB.out.size))
      clear hS1
      go_wp2
      refine ⟨⟨k + 1, by go_num, by omega, HB1⟩, ?_⟩
      simp [intOf]; omega

    · obtain rfl : k = n := by omega
      go_wp2
      go_ret
      exact ⟨rfl, WB.out.trans (HB.out.mono WB.out.size)⟩
set_option linter.unusedSimpArgs false in
set_option maxRecDepth 100000 in
set_option maxHeartbeats 8000000 in
theorem row_true (nm : List UInt8) (x y f l st p : Nat) (ms : List MarkP) (v v' : Value) (F F' : Nat → Prop) (w : World) (h : IsList markK w F 46 v ms) (h' : IsList markK w F' 46 v' ms) :
    Calls Tryz.prog 45 #[.agg #[.string ⟨nm.toArray⟩, .int .i64 (x : Nat), .int .i64 (y : Nat), .int .i64 (f : Nat), .int .i64 (l : Nat), .int .i64 (st : Nat), v, .int .i64 (p : Nat)], .agg #[.string ⟨nm.toArray⟩, .int .i64 (x : Nat), .int .i64 (y : Nat), .int .i64 (f : Nat), .int .i64 (l : Nat), .int .i64 (st : Nat), v', .int .i64 (p : Nat)], .bool true] w fun e w' => e = .returned (.bool true) ∧ Below w.heap.size w w' := by
  obtain ⟨a, c, rfl⟩ := h.len
  obtain ⟨a', c', rfl⟩ := h'.len
  obtain ⟨n, hn⟩ : ∃ n, ms.length = n := ⟨_, rfl⟩
  have hn9 := bound6 h
  rw [hn] at h h' hn9 ⊢
  have e0 : (nm != nm) = false := by simp
  have hb := below_boxes (w := w) (.cells #[.string ⟨nm.toArray⟩, .int .i64 (x : Nat), .int .i64 (y : Nat), .int .i64 (f : Nat), .int .i64 (l : Nat), .int .i64 (st : Nat), .slice a n c, .int .i64 (p : Nat)] 44) (.cells #[.string ⟨nm.toArray⟩, .int .i64 (x : Nat), .int .i64 (y : Nat), .int .i64 (f : Nat), .int .i64 (l : Nat), .int .i64 (st : Nat), .slice a' n c', .int .i64 (p : Nat)] 44)
  have X1 := Lib.hid ((Blk.new w 44 [.string ⟨nm.toArray⟩, .int .i64 (x : Nat), .int .i64 (y : Nat), .int .i64 (f : Nat), .int .i64 (l : Nat), .int .i64 (st : Nat), .slice a n c, .int .i64 (p : Nat)]).alloc (.cells #[.string ⟨nm.toArray⟩, .int .i64 (x : Nat), .int .i64 (y : Nat), .int .i64 (f : Nat), .int .i64 (l : Nat), .int .i64 (st : Nat), .slice a' n c', .int .i64 (p : Nat)] 44))
  have x2 := Blk.new (w.alloc (.cells #[.string ⟨nm.toArray⟩, .int .i64 (x : Nat), .int .i64 (y : Nat), .int .i64 (f : Nat), .int .i64 (l : Nat), .int .i64 (st : Nat), .slice a n c, .int .i64 (p : Nat)] 44)) 44 [.string ⟨nm.toArray⟩, .int .i64 (x : Nat), .int .i64 (y : Nat), .int .i64 (f : Nat), .int .i64 (l : Nat), .int .i64 (st : Nat), .slice a' n c', .int .i64 (p : Nat)]
  rw [World.size_alloc] at x2
  have X2 := Lib.hid x2
  have HL := Lib.hid (h.late hb)
  have HL' := Lib.hid (h'.late hb)
  have WB := Lib.hid hb
  clear hb x2
  go_enter Tryz.func45, Tryz.ntmps45
  go_upto_region 1 with fail
  generalize (w.alloc (.cells #[.string ⟨nm.toArray⟩, .int .i64 (x : Nat), .int .i64 (y : Nat), .int .i64 (f : Nat), .int .i64 (l : Nat), .int .i64 (st : Nat), .slice a n c, .int .i64 (p : Nat)] 44)).alloc (.cells #[.string ⟨nm.toArray⟩, .int .i64 (x : Nat), .int .i64 (y : Nat), .int .i64 (f : Nat), .int .i64 (l : Nat), .int .i64 (st : Nat), .slice a' n c', .int .i64 (p : Nat)] 44) = W at *
  have y0 := X1.out.cell (i := 0) rfl
  have y1 := X1.out.cell (i := 1) rfl
  have y2 := X1.out.cell (i := 2) rfl
  have y3 := X1.out.cell (i := 3) rfl
  have y4 := X1.out.cell (i := 4) rfl
  have y5 := X1.out.cell (i := 5) rfl
  have y6 := X1.out.cell (i := 6) rfl
  have y7 := X1.out.cell (i := 7) rfl
  have z0 := X2.out.cell (i := 0) rfl
  have z1 := X2.out.cell (i := 1) rfl
  have z2 := X2.out.cell (i := 2) rfl
  have z3 := X2.out.cell (i := 3) rfl
  have z4 := X2.out.cell (i := 4) rfl
  have z5 := X2.out.cell (i := 5) rfl
  have z6 := X2.out.cell (i := 6) rfl
  have z7 := X2.out.cell (i := 7) rfl
  have HB0 := Lib.hid (Below.refl W.heap.size W)
  have HN := Lib.hid hn
  clear hn h h'
  go_wp2
  go_loopw [7] (fun i wr => ∃ k : Nat, i = .int .i64 k ∧ k ≤ n ∧ Hid (Below W.heap.size W wr)) (fun i _ => n - (intOf i).toNat)
  case atStart => exact ⟨0, rfl, Nat.zero_le _, HB0⟩
  case round =>
    obtain ⟨k, rfl, hk, HB⟩ := hrel
    clear y0 z0 y1 z1 y2 z2 y3 z3 y4 z4 y5 z5 y6 z6 y7 z7
    have xb := X1.out.below HB.out
    have zb := X2.out.below HB.out
    have y6 := xb.cell (i := 6) rfl
    have z6 := zb.cell (i := 6) rfl
    clear xb zb
    by_cases hk2 : k < n
    · obtain ⟨m, hx⟩ : ∃ m, ms[k]? = some m := ⟨_, List.getElem?_eq_getElem (by have := HN.out; omega)⟩
      obtain ⟨g, cap, cs, hv, _, _, _, hg, rfl, hcell⟩ := (HL.out.below HB.out).at hx
      obtain ⟨g', cap', cs', hv', _, _, _, hg', rfl, hcell'⟩ := (HL'.out.below HB.out).at hx
      rw [HN.out] at hv hv'
      injection hv with hv1 hv2 hv3
      injection hv' with hv1' hv2' hv3'
      subst hv1 hv3 hv1' hv3'
      have d0 := hcell 0 _ rfl
      have d1 := hcell 1 _ rfl
      have d2 := hcell 2 _ rfl
      have d0' := hcell' 0 _ rfl
      have d1' := hcell' 1 _ rfl
      have d2' := hcell' 2 _ rfl
      rw [show markK.size = 3 from rfl] at d0 d1 d2 d0' d1' d2'
      rw [Nat.add_zero] at d0 d0'
      have hki : (0 : Int) ≤ k ∧ (k : Int) < n := by omega
      have mg := fun x y xs ys w => mark_gneq x y xs ys w
      have me := fun w => mark_neq m.kind m.seat m.other m.kind m.seat m.other false (by simp) w
      clear hcell hcell' hx
      go_wp2
      go_quiet (fail)
      go_wp2
      refine ⟨⟨k + 1, by go_num, by omega, Lib.hid (below_drewN HB.out _)⟩, ?_⟩
      simp [intOf]; omega
    · obtain rfl : k = n := by omega
      go_wp2
      go_ret
      exact ⟨rfl, WB.out.trans (HB.out.mono WB.out.size)⟩
theorem rowv_true (x y : RowP) (hxy : x = y) (v v' : Value) (F F' : Nat → Prop) (w : World) (h : IsList markK w F 46 v x.marks) (h' : IsList markK w F' 46 v' y.marks) :
    Calls Tryz.prog 45 #[.agg (rowC x v).toArray, .agg (rowC y v').toArray, .bool true] w fun e w' => e = .returned (.bool true) ∧ Below w.heap.size w w' := by
  subst hxy
  exact row_true _ _ _ _ _ _ _ _ v v' F F' w h h'
set_option linter.unusedSimpArgs false in
set_option maxRecDepth 100000 in
set_option maxHeartbeats 8000000 in
theorem block_true (nm : List UInt8) (p : Nat) (rs : List RowP) (v v' : Value) (F F' : Nat → Prop) (w : World) (h : IsList rowK w F 44 v rs) (h' : IsList rowK w F' 44 v' rs) :
    Calls Tryz.prog 27 #[.agg #[.string ⟨nm.toArray⟩, v, .int .i64 (p : Nat)], .agg #[.string ⟨nm.toArray⟩, v', .int .i64 (p : Nat)], .bool true] w fun e w' => e = .returned (.bool true) ∧ Below w.heap.size w w' := by
  obtain ⟨a, c, rfl⟩ := h.len
  obtain ⟨a', c', rfl⟩ := h'.len
  obtain ⟨n, hn⟩ : ∃ n, rs.length = n := ⟨_, rfl⟩
  have hn9 := bound6 h
  rw [hn] at h h' hn9 ⊢
  have e0 : (nm != nm) = false := by simp
  have hb := below_boxes (w := w) (.cells #[.string ⟨nm.toArray⟩, .slice a n c, .int .i64 (p : Nat)] 41) (.cells #[.string ⟨nm.toArray⟩, .slice a' n c', .int .i64 (p : Nat)] 41)
  have X1 := Lib.hid ((Blk.new w 41 [.string ⟨nm.toArray⟩, .slice a n c, .int .i64 (p : Nat)]).alloc (.cells #[.string ⟨nm.toArray⟩, .slice a' n c', .int .i64 (p : Nat)] 41))
  have x2 := Blk.new (w.alloc (.cells #[.string ⟨nm.toArray⟩, .slice a n c, .int .i64 (p : Nat)] 41)) 41 [.string ⟨nm.toArray⟩, .slice a' n c', .int .i64 (p : Nat)]
  rw [World.size_alloc] at x2
  have X2 := Lib.hid x2
  have HL := Lib.hid (h.late hb)
  have HL' := Lib.hid (h'.late hb)
  have WB := Lib.hid hb
  clear hb x2
  go_enter Tryz.func27, Tryz.ntmps27
  go_upto_region 1 with fail
  generalize (w.alloc (.cells #[.string ⟨nm.toArray⟩, .slice a n c, .int .i64 (p : Nat)] 41)).alloc (.cells #[.string ⟨nm.toArray⟩, .slice a' n c', .int .i64 (p : Nat)] 41) = W at *
  have y0 := X1.out.cell (i := 0) rfl
  have y1 := X1.out.cell (i := 1) rfl
  have y2 := X1.out.cell (i := 2) rfl
  have z0 := X2.out.cell (i := 0) rfl
  have z1 := X2.out.cell (i := 1) rfl
  have z2 := X2.out.cell (i := 2) rfl
  have HB0 := Lib.hid (Below.refl W.heap.size W)
  have HN := Lib.hid hn
  clear hn h h'
  go_wp2
  go_loopw [7] (fun i wr => ∃ k : Nat, i = .int .i64 k ∧ k ≤ n ∧ Hid (Below W.heap.size W wr)) (fun i _ => n - (intOf i).toNat)
  case atStart => exact ⟨0, rfl, Nat.zero_le _, HB0⟩
  case round =>
    obtain ⟨k, rfl, hk, HB⟩ := hrel
    clear y0 y1 y2 z0 z1 z2
    have xb := X1.out.below HB.out
    have zb := X2.out.below HB.out
    have y1 := xb.cell (i := 1) rfl
    have z1 := zb.cell (i := 1) rfl
    have hy1 := xb.lt
    have hz1 := zb.lt
    clear xb zb
    by_cases hk2 : k < n
    · obtain ⟨m, hx⟩ : ∃ m, rs[k]? = some m := ⟨_, List.getElem?_eq_getElem (by have := HN.out; omega)⟩
      obtain ⟨m', hx', hm⟩ : ∃ m', rs[k]? = some m' ∧ m = m' := ⟨m, hx, rfl⟩
      obtain ⟨g, cap, cs, hv, _, _, _, hg, ⟨vm, rfl, hm1⟩, hcell⟩ := (HL.out.below HB.out).at hx
      obtain ⟨g', cap', cs', hv', _, _, _, hg', ⟨vm', rfl, hm2⟩, hcell'⟩ := (HL'.out.below HB.out).at hx'
      rw [HN.out] at hv
      rw [HN.out] at hv'
      injection hv with hv1 hv2 hv3
      injection hv' with hv1' hv2' hv3'
      subst hv1 hv3 hv1' hv3'
      have d0 := hcell 0 _ rfl
      have d0' := hcell' 0 _ rfl
      have d1 := hcell 1 _ rfl
      have d1' := hcell' 1 _ rfl
      have d2 := hcell 2 _ rfl
      have d2' := hcell' 2 _ rfl
      have d3 := hcell 3 _ rfl
      have d3' := hcell' 3 _ rfl
      have d4 := hcell 4 _ rfl
      have d4' := hcell' 4 _ rfl
      have d5 := hcell 5 _ rfl
      have d5' := hcell' 5 _ rfl
      have d6 := hcell 6 _ rfl
      have d6' := hcell' 6 _ rfl
      have d7 := hcell 7 _ rfl
      have d7' := hcell' 7 _ rfl
      rw [show rowK.size = 8 from rfl] at d0 d0' d1 d1' d2 d2' d3 d3' d4 d4' d5 d5' d6 d6' d7 d7'
      rw [Nat.add_zero] at d0 d0'
      have hki : (0 : Int) ≤ k ∧ (k : Int) < n := by omega
      clear hcell hcell' hx hx'
      have HM := Lib.hid hm; have HM1 := Lib.hid hm1; have HM2 := Lib.hid hm2
      clear hm hm1 hm2
      go_wp2
      refine wp_region_any (by kernel_rfl) ?_
      have hS0 : Below wr.heap.size wr wr.drew := (Below.refl _ _).drew
      refine any_of_held (S := fun W => Below wr.heap.size wr W) (N := []) _ _ _ _ ?_
      change held _ _ _ _ _ _ _ _ _ wr.drew
      obtain ⟨wa, hwa⟩ : ∃ wa, wr.drew = wa := ⟨_, rfl⟩
      rw [hwa] at hS0 ⊢
      clear hwa
      refine held_take [] (i := 0) (v := .pointer (some ⟨w.heap.size, 1, none⟩)) rfl (by kernel_rfl) (fun _ _ _ h => h) (Or.inl ⟨by rfl, fun w' hS => by go_simp⟩) hS0 ?_
      try simp only [Act.put, List.setIfInBounds_toArray, List.set_cons_zero, List.set_cons_succ]
      refine held_take [] (i := 1) (v := .slice (some ⟨g, 0, none⟩) n c) rfl (by kernel_rfl) (fun _ _ _ h => h) (Or.inl ⟨by rfl, fun w' hS => by have := (hS.cell (p := ⟨w.heap.size, 1, none⟩) hy1).trans y1; go_simp⟩) hS0 ?_
      try simp only [Act.put, List.setIfInBounds_toArray, List.set_cons_zero, List.set_cons_succ]
      refine held_take [] (i := 2) (v := .int .i64 (k : Nat)) rfl (by kernel_rfl) (fun _ _ _ h => h) (Or.inl ⟨by rfl, fun w' hS => by go_simp⟩) hS0 ?_
      try simp only [Act.put, List.setIfInBounds_toArray, List.set_cons_zero, List.set_cons_succ]
      refine held_take [] (i := 3) (v := .pointer (some ⟨g, k * 8, none⟩)) rfl (by kernel_rfl) (fun _ _ _ h => h) (Or.inl ⟨by rfl, fun w' hS => by go_simp⟩) hS0 ?_
      try simp only [Act.put, List.setIfInBounds_toArray, List.set_cons_zero, List.set_cons_succ]
      refine held_take [] (i := 4) (v := .agg #[.string ⟨m.name.toArray⟩, .int .i64 (m.x : Nat), .int .i64 (m.y : Nat), .int .i64 (m.first : Nat), .int .i64 (m.last : Nat), .int .i64 (m.step : Nat), vm, .int .i64 (m.pos : Nat)]) rfl (by kernel_rfl) (fun _ _ _ h => h) (Or.inl ⟨by rfl, fun w' hS => by have := (hS.cell (p := ⟨g, k * 8, none⟩) hg).trans d0; have := (hS.cell (p := ⟨g, k * 8 + 1, none⟩) hg).trans d1; have := (hS.cell (p := ⟨g, k * 8 + 2, none⟩) hg).trans d2; have := (hS.cell (p := ⟨g, k * 8 + 3, none⟩) hg).trans d3; have := (hS.cell (p := ⟨g, k * 8 + 4, none⟩) hg).trans d4; have := (hS.cell (p := ⟨g, k * 8 + 5, none⟩) hg).trans d5; have := (hS.cell (p := ⟨g, k * 8 + 6, none⟩) hg).trans d6; have := (hS.cell (p := ⟨g, k * 8 + 7, none⟩) hg).trans d7; go_simp⟩) hS0 ?_
      try simp only [Act.put, List.setIfInBounds_toArray, List.set_cons_zero, List.set_cons_succ]
      refine held_take [] (i := 5) (v := .pointer (some ⟨w.heap.size + 1, 1, none⟩)) rfl (by kernel_rfl) (fun _ _ _ h => h) (Or.inl ⟨by rfl, fun w' hS => by go_simp⟩) hS0 ?_
      try simp only [Act.put, List.setIfInBounds_toArray, List.set_cons_zero, List.set_cons_succ]
      refine held_take [] (i := 6) (v := .slice (some ⟨g', 0, none⟩) n c') rfl (by kernel_rfl) (fun _ _ _ h => h) (Or.inl ⟨by rfl, fun w' hS => by have := (hS.cell (p := ⟨w.heap.size + 1, 1, none⟩) hz1).trans z1; go_simp⟩) hS0 ?_
      try simp only [Act.put, List.setIfInBounds_toArray, List.set_cons_zero, List.set_cons_succ]
      refine held_take [] (i := 7) (v := .int .i64 (k : Nat)) rfl (by kernel_rfl) (fun _ _ _ h => h) (Or.inl ⟨by rfl, fun w' hS => by go_simp⟩) hS0 ?_
      try simp only [Act.put, List.setIfInBounds_toArray, List.set_cons_zero, List.set_cons_succ]
      refine held_take [] (i := 8) (v := .pointer (some ⟨g', k * 8, none⟩)) rfl (by kernel_rfl) (fun _ _ _ h => h) (Or.inl ⟨by rfl, fun w' hS => by go_simp⟩) hS0 ?_
      try simp only [Act.put, List.setIfInBounds_toArray, List.set_cons_zero, List.set_cons_succ]
      refine held_take [] (i := 9) (v := .agg #[.string ⟨m'.name.toArray⟩, .int .i64 (m'.x : Nat), .int .i64 (m'.y : Nat), .int .i64 (m'.first : Nat), .int .i64 (m'.last : Nat), .int .i64 (m'.step : Nat), vm', .int .i64 (m'.pos : Nat)]) rfl (by kernel_rfl) (fun _ _ _ h => h) (Or.inl ⟨by rfl, fun w' hS => by have := (hS.cell (p := ⟨g', k * 8, none⟩) hg').trans d0'; have := (hS.cell (p := ⟨g', k * 8 + 1, none⟩) hg').trans d1'; have := (hS.cell (p := ⟨g', k * 8 + 2, none⟩) hg').trans d2'; have := (hS.cell (p := ⟨g', k * 8 + 3, none⟩) hg').trans d3'; have := (hS.cell (p := ⟨g', k * 8 + 4, none⟩) hg').trans d4'; have := (hS.cell (p := ⟨g', k * 8 + 5, none⟩) hg').trans d5'; have := (hS.cell (p := ⟨g', k * 8 + 6, none⟩) hg').trans d6'; have := (hS.cell (p := ⟨g', k * 8 + 7, none⟩) hg').trans d7'; go_simp⟩) hS0 ?_
      try simp only [Act.put, List.setIfInBounds_toArray, List.set_cons_zero, List.set_cons_succ]
      refine held_take [] (i := 10) (v := .bool true) rfl (by kernel_rfl) (fun _ _ _ h => h) (Or.inl ⟨by rfl, fun w' hS => by go_simp⟩) hS0 ?_
      try simp only [Act.put, List.setIfInBounds_toArray, List.set_cons_zero, List.set_cons_succ]
      refine held_one (i := 11) rfl (by kernel_rfl) (fun K hK => ?_)
      go_simp
      refine (rowv_true m m' HM.out vm vm' _ _ wa (HM1.out.below hS0) (HM2.out.below hS0)).mono ?_
      rintro e W1 ⟨rfl, hw1⟩
      have hS1 : Below wr.heap.size wr W1 := hS0.trans (hw1.mono hS0.size)
      clear hS0 hw1
      refine hK.out _ _ (fun _ => hS1) ?_
      clear hK K
      try simp only [Act.put, List.setIfInBounds_toArray, List.set_cons_zero, List.set_cons_succ]
      refine held_take [] (i := 12) (v := .bool false) rfl (by kernel_rfl) (fun _ _ _ h => h) (Or.inl ⟨by rfl, fun w' hS => by go_simp⟩) hS1 ?_
      try simp only [Act.put, List.setIfInBounds_toArray, List.set_cons_zero, List.set_cons_succ]
      refine held_done (by kernel_rfl) ?_ _
      have HB1 := Lib.hid (HB.out.trans (hS1.mono HB.out.size))
      clear hS1
      go_wp2
      refine ⟨⟨k + 1, by go_num, by omega, HB1⟩, ?_⟩
      simp [intOf]; omega

    · obtain rfl : k = n := by omega
      go_wp2
      go_ret
      exact ⟨rfl, WB.out.trans (HB.out.mono WB.out.size)⟩
theorem blockv_true (x y : BlockP) (hxy : x = y) (v v' : Value) (F F' : Nat → Prop) (w : World) (h : IsList rowK w F 44 v x.rows) (h' : IsList rowK w F' 44 v' y.rows) :
    Calls Tryz.prog 27 #[.agg (blockCl x v).toArray, .agg (blockCl y v').toArray, .bool true] w fun e w' => e = .returned (.bool true) ∧ Below w.heap.size w w' := by
  subst hxy
  exact block_true _ _ _ v v' F F' w h h'
set_option linter.unusedSimpArgs false in
set_option maxRecDepth 100000 in
set_option maxHeartbeats 8000000 in
theorem level_true (nm : List UInt8) (ht p : Nat) (bs : List BlockP) (ars : List AreaP) (ais pls : List BoxP) (ds : List (Nat × Nat)) (v1 v2 v3 v4 v5 v1' v2' v3' v4' v5' : Value) (F F' : Nat → Prop) (w : World) (h1 : IsList blockK w F 41 v1 bs) (h2 : IsList areaK w F 50 v2 ars) (h3 : IsList boxK w F 48 v3 ais) (h4 : IsList boxK w F 48 v4 pls) (h5 : IsList pointK w F 24 v5 ds) (h1' : IsList blockK w F' 41 v1' bs) (h2' : IsList areaK w F' 50 v2' ars) (h3' : IsList boxK w F' 48 v3' ais) (h4' : IsList boxK w F' 48 v4' pls) (h5' : IsList pointK w F' 24 v5' ds) :
    Calls Tryz.prog 17 #[.agg #[.string ⟨nm.toArray⟩, .int .i64 (ht : Nat), v1, v2, v3, v4, v5, .int .i64 (p : Nat)], .agg #[.string ⟨nm.toArray⟩, .int .i64 (ht : Nat), v1', v2', v3', v4', v5', .int .i64 (p : Nat)], .bool true] w fun e w' => e = .returned (.bool true) ∧ Below w.heap.size w w' := by
  obtain ⟨a, c, rfl⟩ := h1.len
  obtain ⟨a', c', rfl⟩ := h1'.len
  obtain ⟨b, d, rfl⟩ := h2.len
  obtain ⟨b', d', rfl⟩ := h2'.len
  obtain ⟨e, f, rfl⟩ := h5.len
  obtain ⟨e', f', rfl⟩ := h5'.len
  obtain ⟨x3, m3, y3, rfl⟩ := h3.slice
  obtain ⟨x3', m3', y3', rfl⟩ := h3'.slice
  obtain ⟨x4, m4, y4, rfl⟩ := h4.slice
  obtain ⟨x4', m4', y4', rfl⟩ := h4'.slice
  have hn9 := bound6 h1
  have hna9 := bound6 h2
  have hnd9 := bound6 h5
  obtain ⟨n, hn⟩ : ∃ n, bs.length = n := ⟨_, rfl⟩
  obtain ⟨na, hna⟩ : ∃ n, ars.length = n := ⟨_, rfl⟩
  obtain ⟨nd, hnd⟩ : ∃ n, ds.length = n := ⟨_, rfl⟩
  rw [hn] at h1 h1' hn9
  rw [hna] at h2 h2' hna9
  rw [hnd] at h5 h5' hnd9
  rw [hn, hna, hnd]
  have e0 : (nm != nm) = false := by simp
  have hb := below_boxes (w := w) (.cells #[.string ⟨nm.toArray⟩, .int .i64 (ht : Nat), .slice a n c, .slice b na d, (.slice x3 m3 y3), (.slice x4 m4 y4), .slice e nd f, .int .i64 (p : Nat)] 38) (.cells #[.string ⟨nm.toArray⟩, .int .i64 (ht : Nat), .slice a' n c', .slice b' na d', (.slice x3' m3' y3'), (.slice x4' m4' y4'), .slice e' nd f', .int .i64 (p : Nat)] 38)
  have X1 := Lib.hid ((Blk.new w 38 [.string ⟨nm.toArray⟩, .int .i64 (ht : Nat), .slice a n c, .slice b na d, (.slice x3 m3 y3), (.slice x4 m4 y4), .slice e nd f, .int .i64 (p : Nat)]).alloc (.cells #[.string ⟨nm.toArray⟩, .int .i64 (ht : Nat), .slice a' n c', .slice b' na d', (.slice x3' m3' y3'), (.slice x4' m4' y4'), .slice e' nd f', .int .i64 (p : Nat)] 38))
  have x2 := Blk.new (w.alloc (.cells #[.string ⟨nm.toArray⟩, .int .i64 (ht : Nat), .slice a n c, .slice b na d, (.slice x3 m3 y3), (.slice x4 m4 y4), .slice e nd f, .int .i64 (p : Nat)] 38)) 38 [.string ⟨nm.toArray⟩, .int .i64 (ht : Nat), .slice a' n c', .slice b' na d', (.slice x3' m3' y3'), (.slice x4' m4' y4'), .slice e' nd f', .int .i64 (p : Nat)]
  rw [World.size_alloc] at x2
  have X2 := Lib.hid x2
  have HL := Lib.hid (h1.late hb)
  have HL' := Lib.hid (h1'.late hb)
  have HA := Lib.hid (h2.late hb)
  have HA' := Lib.hid (h2'.late hb)
  have HC := Lib.hid (h3.late hb)
  have HC' := Lib.hid (h3'.late hb)
  have HE := Lib.hid (h4.late hb)
  have HE' := Lib.hid (h4'.late hb)
  have HD := Lib.hid (h5.late hb)
  have HD' := Lib.hid (h5'.late hb)
  have WB := Lib.hid hb
  clear hb x2
  go_enter Tryz.func17, Tryz.ntmps17
  go_upto_region 1 with fail
  generalize (w.alloc (.cells #[.string ⟨nm.toArray⟩, .int .i64 (ht : Nat), .slice a n c, .slice b na d, (.slice x3 m3 y3), (.slice x4 m4 y4), .slice e nd f, .int .i64 (p : Nat)] 38)).alloc (.cells #[.string ⟨nm.toArray⟩, .int .i64 (ht : Nat), .slice a' n c', .slice b' na d', (.slice x3' m3' y3'), (.slice x4' m4' y4'), .slice e' nd f', .int .i64 (p : Nat)] 38) = W at *
  have y0 := X1.out.cell (i := 0) rfl
  have y1 := X1.out.cell (i := 1) rfl
  have y2 := X1.out.cell (i := 2) rfl
  have y3 := X1.out.cell (i := 3) rfl
  have y4 := X1.out.cell (i := 4) rfl
  have y5 := X1.out.cell (i := 5) rfl
  have y6 := X1.out.cell (i := 6) rfl
  have y7 := X1.out.cell (i := 7) rfl
  have z0 := X2.out.cell (i := 0) rfl
  have z1 := X2.out.cell (i := 1) rfl
  have z2 := X2.out.cell (i := 2) rfl
  have z3 := X2.out.cell (i := 3) rfl
  have z4 := X2.out.cell (i := 4) rfl
  have z5 := X2.out.cell (i := 5) rfl
  have z6 := X2.out.cell (i := 6) rfl
  have z7 := X2.out.cell (i := 7) rfl
  have HB0 := Lib.hid (Below.refl W.heap.size W)
  have HN := Lib.hid hn; have HNA := Lib.hid hna; have HND := Lib.hid hnd
  clear hn hna hnd h1 h2 h3 h4 h5 h1' h2' h3' h4' h5'
  go_wp2
  go_loopw [7] (fun i wr => ∃ k : Nat, i = .int .i64 k ∧ k ≤ n ∧ Hid (Below W.heap.size W wr)) (fun i _ => n - (intOf i).toNat)
  case atStart => exact ⟨0, rfl, Nat.zero_le _, HB0⟩
  case round =>
    clear y0 z0 y1 z1 y2 z2 y3 z3 y4 z4 y5 z5 y6 z6 y7 z7
    obtain ⟨k, rfl, hk, HB⟩ := hrel
    have xb := X1.out.below HB.out
    have zb := X2.out.below HB.out
    have y2 := xb.cell (i := 2) rfl
    have z2 := zb.cell (i := 2) rfl
    have y3 := xb.cell (i := 3) rfl
    have z3 := zb.cell (i := 3) rfl
    have y4 := xb.cell (i := 4) rfl
    have z4 := zb.cell (i := 4) rfl
    have y6 := xb.cell (i := 6) rfl
    have z6 := zb.cell (i := 6) rfl
    have hy1 := xb.lt
    have hz1 := zb.lt
    clear xb zb
    by_cases hk2 : k < n
    · obtain ⟨m, hx⟩ : ∃ m, bs[k]? = some m := ⟨_, List.getElem?_eq_getElem (by have := HN.out; omega)⟩
      obtain ⟨m', hx', hm⟩ : ∃ m', bs[k]? = some m' ∧ m = m' := ⟨m, hx, rfl⟩
      obtain ⟨g, cap, cs, hv, _, _, _, hg, ⟨vm, rfl, hm1⟩, hcell⟩ := (HL.out.below HB.out).at hx
      obtain ⟨g', cap', cs', hv', _, _, _, hg', ⟨vm', rfl, hm2⟩, hcell'⟩ := (HL'.out.below HB.out).at hx'
      rw [HN.out] at hv
      rw [HN.out] at hv'
      injection hv with hv1 hv2 hv3
      injection hv' with hv1' hv2' hv3'
      subst hv1 hv3 hv1' hv3'
      have d0 := hcell 0 _ rfl
      have d0' := hcell' 0 _ rfl
      have d1 := hcell 1 _ rfl
      have d1' := hcell' 1 _ rfl
      have d2 := hcell 2 _ rfl
      have d2' := hcell' 2 _ rfl
      rw [show blockK.size = 3 from rfl] at d0 d0' d1 d1' d2 d2'
      rw [Nat.add_zero] at d0 d0'
      have hki : (0 : Int) ≤ k ∧ (k : Int) < n := by omega
      clear hcell hcell' hx hx'
      have HM := Lib.hid hm; have HM1 := Lib.hid hm1; have HM2 := Lib.hid hm2
      clear hm hm1 hm2
      go_wp2
      refine wp_region_any (by kernel_rfl) ?_
      have hS0 : Below wr.heap.size wr wr.drew := (Below.refl _ _).drew
      refine any_of_held (S := fun W => Below wr.heap.size wr W) (N := []) _ _ _ _ ?_
      change held _ _ _ _ _ _ _ _ _ wr.drew
      obtain ⟨wa, hwa⟩ : ∃ wa, wr.drew = wa := ⟨_, rfl⟩
      rw [hwa] at hS0 ⊢
      clear hwa
      refine held_take [] (i := 0) (v := .pointer (some ⟨w.heap.size, 2, none⟩)) rfl (by kernel_rfl) (fun _ _ _ h => h) (Or.inl ⟨by rfl, fun w' hS => by go_simp⟩) hS0 ?_
      try simp only [Act.put, List.setIfInBounds_toArray, List.set_cons_zero, List.set_cons_succ]
      refine held_take [] (i := 1) (v := .slice (some ⟨g, 0, none⟩) n c) rfl (by kernel_rfl) (fun _ _ _ h => h) (Or.inl ⟨by rfl, fun w' hS => by have := (hS.cell (p := ⟨w.heap.size, 2, none⟩) hy1).trans y2; go_simp⟩) hS0 ?_
      try simp only [Act.put, List.setIfInBounds_toArray, List.set_cons_zero, List.set_cons_succ]
      refine held_take [] (i := 2) (v := .int .i64 (k : Nat)) rfl (by kernel_rfl) (fun _ _ _ h => h) (Or.inl ⟨by rfl, fun w' hS => by go_simp⟩) hS0 ?_
      try simp only [Act.put, List.setIfInBounds_toArray, List.set_cons_zero, List.set_cons_succ]
      refine held_take [] (i := 3) (v := .pointer (some ⟨g, k * 3, none⟩)) rfl (by kernel_rfl) (fun _ _ _ h => h) (Or.inl ⟨by rfl, fun w' hS => by go_simp⟩) hS0 ?_
      try simp only [Act.put, List.setIfInBounds_toArray, List.set_cons_zero, List.set_cons_succ]
      refine held_take [] (i := 4) (v := .agg #[.string ⟨m.name.toArray⟩, vm, .int .i64 (m.pos : Nat)]) rfl (by kernel_rfl) (fun _ _ _ h => h) (Or.inl ⟨by rfl, fun w' hS => by have := (hS.cell (p := ⟨g, k * 3, none⟩) hg).trans d0; have := (hS.cell (p := ⟨g, k * 3 + 1, none⟩) hg).trans d1; have := (hS.cell (p := ⟨g, k * 3 + 2, none⟩) hg).trans d2; go_simp⟩) hS0 ?_
      try simp only [Act.put, List.setIfInBounds_toArray, List.set_cons_zero, List.set_cons_succ]
      refine held_take [] (i := 5) (v := .pointer (some ⟨w.heap.size + 1, 2, none⟩)) rfl (by kernel_rfl) (fun _ _ _ h => h) (Or.inl ⟨by rfl, fun w' hS => by go_simp⟩) hS0 ?_
      try simp only [Act.put, List.setIfInBounds_toArray, List.set_cons_zero, List.set_cons_succ]
      refine held_take [] (i := 6) (v := .slice (some ⟨g', 0, none⟩) n c') rfl (by kernel_rfl) (fun _ _ _ h => h) (Or.inl ⟨by rfl, fun w' hS => by have := (hS.cell (p := ⟨w.heap.size + 1, 2, none⟩) hz1).trans z2; go_simp⟩) hS0 ?_
      try simp only [Act.put, List.setIfInBounds_toArray, List.set_cons_zero, List.set_cons_succ]
      refine held_take [] (i := 7) (v := .int .i64 (k : Nat)) rfl (by kernel_rfl) (fun _ _ _ h => h) (Or.inl ⟨by rfl, fun w' hS => by go_simp⟩) hS0 ?_
      try simp only [Act.put, List.setIfInBounds_toArray, List.set_cons_zero, List.set_cons_succ]
      refine held_take [] (i := 8) (v := .pointer (some ⟨g', k * 3, none⟩)) rfl (by kernel_rfl) (fun _ _ _ h => h) (Or.inl ⟨by rfl, fun w' hS => by go_simp⟩) hS0 ?_
      try simp only [Act.put, List.setIfInBounds_toArray, List.set_cons_zero, List.set_cons_succ]
      refine held_take [] (i := 9) (v := .agg #[.string ⟨m'.name.toArray⟩, vm', .int .i64 (m'.pos : Nat)]) rfl (by kernel_rfl) (fun _ _ _ h => h) (Or.inl ⟨by rfl, fun w' hS => by have := (hS.cell (p := ⟨g', k * 3, none⟩) hg').trans d0'; have := (hS.cell (p := ⟨g', k * 3 + 1, none⟩) hg').trans d1'; have := (hS.cell (p := ⟨g', k * 3 + 2, none⟩) hg').trans d2'; go_simp⟩) hS0 ?_
      try simp only [Act.put, List.setIfInBounds_toArray, List.set_cons_zero, List.set_cons_succ]
      refine held_take [] (i := 10) (v := .bool true) rfl (by kernel_rfl) (fun _ _ _ h => h) (Or.inl ⟨by rfl, fun w' hS => by go_simp⟩) hS0 ?_
      try simp only [Act.put, List.setIfInBounds_toArray, List.set_cons_zero, List.set_cons_succ]
      refine held_one (i := 11) rfl (by kernel_rfl) (fun K hK => ?_)
      go_simp
      refine (blockv_true m m' HM.out vm vm' _ _ wa (HM1.out.below hS0) (HM2.out.below hS0)).mono ?_
      rintro e W1 ⟨rfl, hw1⟩
      have hS1 : Below wr.heap.size wr W1 := hS0.trans (hw1.mono hS0.size)
      clear hS0 hw1
      refine hK.out _ _ (fun _ => hS1) ?_
      clear hK K
      try simp only [Act.put, List.setIfInBounds_toArray, List.set_cons_zero, List.set_cons_succ]
      refine held_take [] (i := 12) (v := .bool false) rfl (by kernel_rfl) (fun _ _ _ h => h) (Or.inl ⟨by rfl, fun w' hS => by go_simp⟩) hS1 ?_
      try simp only [Act.put, List.setIfInBounds_toArray, List.set_cons_zero, List.set_cons_succ]
      refine held_done (by kernel_rfl) ?_ _
      have HB1 := Lib.hid (HB.out.trans (hS1.mono HB.out.size))
      clear hS1
      go_wp2
      refine ⟨⟨k + 1, by go_num, by omega, HB1⟩, ?_⟩
      simp [intOf]; omega
    · obtain rfl : k = n := by omega
      go_wp2
      go_loopw [8] (fun i wr => ∃ k : Nat, i = .int .i64 k ∧ k ≤ na ∧ Hid (Below W.heap.size W wr)) (fun i _ => na - (intOf i).toNat)
      case atStart => exact ⟨0, rfl, Nat.zero_le _, (Lib.hid HB.out)⟩
      case round =>
        obtain ⟨k, rfl, hk, HB⟩ := hrel
        have xb := X1.out.below HB.out
        have zb := X2.out.below HB.out
        have y2 := xb.cell (i := 2) rfl
        have z2 := zb.cell (i := 2) rfl
        have y3 := xb.cell (i := 3) rfl
        have z3 := zb.cell (i := 3) rfl
        have y4 := xb.cell (i := 4) rfl
        have z4 := zb.cell (i := 4) rfl
        have y6 := xb.cell (i := 6) rfl
        have z6 := zb.cell (i := 6) rfl
        have hy1 := xb.lt
        have hz1 := zb.lt
        clear xb zb
        by_cases hk2 : k < na
        · obtain ⟨m, hx⟩ : ∃ m, ars[k]? = some m := ⟨_, List.getElem?_eq_getElem (by have := HNA.out; omega)⟩
          obtain ⟨m', hx', hm⟩ : ∃ m', ars[k]? = some m' ∧ m = m' := ⟨m, hx, rfl⟩
          obtain ⟨g, cap, cs, hv, _, _, _, hg, rfl, hcell⟩ := (HA.out.below HB.out).at hx
          obtain ⟨g', cap', cs', hv', _, _, _, hg', rfl, hcell'⟩ := (HA'.out.below HB.out).at hx'
          rw [HNA.out] at hv
          rw [HNA.out] at hv'
          injection hv with hv1 hv2 hv3
          injection hv' with hv1' hv2' hv3'
          subst hv1 hv3 hv1' hv3'
          have d0 := hcell 0 _ rfl
          have d0' := hcell' 0 _ rfl
          have d1 := hcell 1 _ rfl
          have d1' := hcell' 1 _ rfl
          have d2 := hcell 2 _ rfl
          have d2' := hcell' 2 _ rfl
          have d3 := hcell 3 _ rfl
          have d3' := hcell' 3 _ rfl
          have d4 := hcell 4 _ rfl
          have d4' := hcell' 4 _ rfl
          have d5 := hcell 5 _ rfl
          have d5' := hcell' 5 _ rfl
          have d6 := hcell 6 _ rfl
          have d6' := hcell' 6 _ rfl
          rw [show areaK.size = 7 from rfl] at d0 d0' d1 d1' d2 d2' d3 d3' d4 d4' d5 d5' d6 d6'
          rw [Nat.add_zero] at d0 d0'
          clear hcell hcell' hx hx'
          obtain ⟨an, ⟨ax, ay, az, at_⟩, ah, ap⟩ := m
          obtain ⟨an', ⟨ax', ay', az', at'⟩, ah', ap'⟩ := m'
          simp only [AreaP.mk.injEq, BoxP.mk.injEq] at hm
          obtain ⟨rfl, ⟨rfl, rfl, rfl, rfl⟩, rfl, rfl⟩ := hm
          have e1 : (an != an) = false := by simp
          have hki : (0 : Int) ≤ k ∧ (k : Int) < na := by omega
          have mg := fun x y xs ys w => box_gneq x y xs ys w
          have me := fun w => box_neq ax ay az at_ ax ay az at_ false (by simp) w
          go_wp2
          refine wp_region_any (by kernel_rfl) ?_
          have hS0 : Below wr.heap.size wr wr.drew := (Below.refl _ _).drew
          refine any_of_held (S := fun W => Below wr.heap.size wr W) (N := []) _ _ _ _ ?_
          change held _ _ _ _ _ _ _ _ _ wr.drew
          obtain ⟨wa, hwa⟩ : ∃ wa, wr.drew = wa := ⟨_, rfl⟩
          rw [hwa] at hS0 ⊢
          clear hwa
          refine held_take [] (i := 0) (v := .pointer (some ⟨w.heap.size, 3, none⟩)) rfl (by kernel_rfl) (fun _ _ _ h => h) (Or.inl ⟨by rfl, fun w' hS => by go_simp⟩) hS0 ?_
          try simp only [Act.put, List.setIfInBounds_toArray, List.set_cons_zero, List.set_cons_succ]
          refine held_take [] (i := 1) (v := .slice (some ⟨g, 0, none⟩) na d) rfl (by kernel_rfl) (fun _ _ _ h => h) (Or.inl ⟨by rfl, fun w' hS => by have := (hS.cell (p := ⟨w.heap.size, 3, none⟩) hy1).trans y3; go_simp⟩) hS0 ?_
          try simp only [Act.put, List.setIfInBounds_toArray, List.set_cons_zero, List.set_cons_succ]
          refine held_take [] (i := 2) (v := .int .i64 (k : Nat)) rfl (by kernel_rfl) (fun _ _ _ h => h) (Or.inl ⟨by rfl, fun w' hS => by go_simp⟩) hS0 ?_
          try simp only [Act.put, List.setIfInBounds_toArray, List.set_cons_zero, List.set_cons_succ]
          refine held_take [] (i := 3) (v := .pointer (some ⟨g, k * 7, none⟩)) rfl (by kernel_rfl) (fun _ _ _ h => h) (Or.inl ⟨by rfl, fun w' hS => by go_simp⟩) hS0 ?_
          try simp only [Act.put, List.setIfInBounds_toArray, List.set_cons_zero, List.set_cons_succ]
          refine held_take [] (i := 4) (v := .agg #[.string ⟨an.toArray⟩, .int .i64 (ax : Nat), .int .i64 (ay : Nat), .int .i64 (az : Nat), .int .i64 (at_ : Nat), .int .i64 (ah : Nat), .int .i64 (ap : Nat)]) rfl (by kernel_rfl) (fun _ _ _ h => h) (Or.inl ⟨by rfl, fun w' hS => by have := (hS.cell (p := ⟨g, k * 7, none⟩) hg).trans d0; have := (hS.cell (p := ⟨g, k * 7 + 1, none⟩) hg).trans d1; have := (hS.cell (p := ⟨g, k * 7 + 2, none⟩) hg).trans d2; have := (hS.cell (p := ⟨g, k * 7 + 3, none⟩) hg).trans d3; have := (hS.cell (p := ⟨g, k * 7 + 4, none⟩) hg).trans d4; have := (hS.cell (p := ⟨g, k * 7 + 5, none⟩) hg).trans d5; have := (hS.cell (p := ⟨g, k * 7 + 6, none⟩) hg).trans d6; go_simp⟩) hS0 ?_
          try simp only [Act.put, List.setIfInBounds_toArray, List.set_cons_zero, List.set_cons_succ]
          refine held_take [] (i := 5) (v := .pointer (some ⟨w.heap.size + 1, 3, none⟩)) rfl (by kernel_rfl) (fun _ _ _ h => h) (Or.inl ⟨by rfl, fun w' hS => by go_simp⟩) hS0 ?_
          try simp only [Act.put, List.setIfInBounds_toArray, List.set_cons_zero, List.set_cons_succ]
          refine held_take [] (i := 6) (v := .slice (some ⟨g', 0, none⟩) na d') rfl (by kernel_rfl) (fun _ _ _ h => h) (Or.inl ⟨by rfl, fun w' hS => by have := (hS.cell (p := ⟨w.heap.size + 1, 3, none⟩) hz1).trans z3; go_simp⟩) hS0 ?_
          try simp only [Act.put, List.setIfInBounds_toArray, List.set_cons_zero, List.set_cons_succ]
          refine held_take [] (i := 7) (v := .int .i64 (k : Nat)) rfl (by kernel_rfl) (fun _ _ _ h => h) (Or.inl ⟨by rfl, fun w' hS => by go_simp⟩) hS0 ?_
          try simp only [Act.put, List.setIfInBounds_toArray, List.set_cons_zero, List.set_cons_succ]
          refine held_take [] (i := 8) (v := .pointer (some ⟨g', k * 7, none⟩)) rfl (by kernel_rfl) (fun _ _ _ h => h) (Or.inl ⟨by rfl, fun w' hS => by go_simp⟩) hS0 ?_
          try simp only [Act.put, List.setIfInBounds_toArray, List.set_cons_zero, List.set_cons_succ]
          refine held_take [] (i := 9) (v := .agg #[.string ⟨an.toArray⟩, .int .i64 (ax : Nat), .int .i64 (ay : Nat), .int .i64 (az : Nat), .int .i64 (at_ : Nat), .int .i64 (ah : Nat), .int .i64 (ap : Nat)]) rfl (by kernel_rfl) (fun _ _ _ h => h) (Or.inl ⟨by rfl, fun w' hS => by have := (hS.cell (p := ⟨g', k * 7, none⟩) hg').trans d0'; have := (hS.cell (p := ⟨g', k * 7 + 1, none⟩) hg').trans d1'; have := (hS.cell (p := ⟨g', k * 7 + 2, none⟩) hg').trans d2'; have := (hS.cell (p := ⟨g', k * 7 + 3, none⟩) hg').trans d3'; have := (hS.cell (p := ⟨g', k * 7 + 4, none⟩) hg').trans d4'; have := (hS.cell (p := ⟨g', k * 7 + 5, none⟩) hg').trans d5'; have := (hS.cell (p := ⟨g', k * 7 + 6, none⟩) hg').trans d6'; go_simp⟩) hS0 ?_
          try simp only [Act.put, List.setIfInBounds_toArray, List.set_cons_zero, List.set_cons_succ]
          refine held_two (i := 10) (j := 11) rfl rfl (by kernel_rfl) (fun K hK => ?_) (fun K hK => ?_)
          · go_simp
            refine hK.out _ _ (fun _ => hS0.alloc hS0.size _) ?_
            clear hK K
            try simp only [Act.put, List.setIfInBounds_toArray, List.set_cons_zero, List.set_cons_succ]
            refine held_one (i := 11) rfl (by kernel_rfl) (fun K hK => ?_)
            go_simp
            refine hK.out _ _ (fun _ => (hS0.alloc hS0.size _).alloc (by rw [World.size_alloc]; have := hS0.size; omega) _) ?_
            clear hK K
            try simp only [Act.put, List.setIfInBounds_toArray, List.set_cons_zero, List.set_cons_succ]
            refine held_one (i := 12) rfl (by kernel_rfl) (fun K hK => ?_)
            go_simp
            refine hK.out _ _ (fun _ => ((hS0.alloc hS0.size _).alloc (by rw [World.size_alloc]; have := hS0.size; omega) _)) ?_
            clear hK K
            try simp only [Act.put, List.setIfInBounds_toArray, List.set_cons_zero, List.set_cons_succ]
            refine held_one (i := 13) rfl (by kernel_rfl) (fun K hK => ?_)
            go_simp
            refine hK.out _ _ (fun _ => ((hS0.alloc hS0.size _).alloc (by rw [World.size_alloc]; have := hS0.size; omega) _)) ?_
            clear hK K
            try simp only [Act.put, List.setIfInBounds_toArray, List.set_cons_zero, List.set_cons_succ]
            refine held_done (by kernel_rfl) ?_ _
            have b1 := (Blk.new wa 50 [.string ⟨an.toArray⟩, .int .i64 (ax : Nat), .int .i64 (ay : Nat), .int .i64 (az : Nat), .int .i64 (at_ : Nat), .int .i64 (ah : Nat), .int .i64 (ap : Nat)]).alloc (.cells #[.string ⟨an.toArray⟩, .int .i64 (ax : Nat), .int .i64 (ay : Nat), .int .i64 (az : Nat), .int .i64 (at_ : Nat), .int .i64 (ah : Nat), .int .i64 (ap : Nat)] 50)
            have b2 := Blk.new (wa.alloc (.cells #[.string ⟨an.toArray⟩, .int .i64 (ax : Nat), .int .i64 (ay : Nat), .int .i64 (az : Nat), .int .i64 (at_ : Nat), .int .i64 (ah : Nat), .int .i64 (ap : Nat)] 50)) 50 [.string ⟨an.toArray⟩, .int .i64 (ax : Nat), .int .i64 (ay : Nat), .int .i64 (az : Nat), .int .i64 (at_ : Nat), .int .i64 (ah : Nat), .int .i64 (ap : Nat)]
            rw [World.size_alloc] at b2
            have HB1 := Lib.hid (HB.out.trans (((hS0.alloc hS0.size (.cells #[.string ⟨an.toArray⟩, .int .i64 (ax : Nat), .int .i64 (ay : Nat), .int .i64 (az : Nat), .int .i64 (at_ : Nat), .int .i64 (ah : Nat), .int .i64 (ap : Nat)] 50)).alloc (by rw [World.size_alloc]; have := hS0.size; omega) (.cells #[.string ⟨an.toArray⟩, .int .i64 (ax : Nat), .int .i64 (ay : Nat), .int .i64 (az : Nat), .int .i64 (at_ : Nat), .int .i64 (ah : Nat), .int .i64 (ap : Nat)] 50)).mono HB.out.size))
            generalize (wa.alloc (.cells #[.string ⟨an.toArray⟩, .int .i64 (ax : Nat), .int .i64 (ay : Nat), .int .i64 (az : Nat), .int .i64 (at_ : Nat), .int .i64 (ah : Nat), .int .i64 (ap : Nat)] 50)).alloc (.cells #[.string ⟨an.toArray⟩, .int .i64 (ax : Nat), .int .i64 (ay : Nat), .int .i64 (az : Nat), .int .i64 (at_ : Nat), .int .i64 (ah : Nat), .int .i64 (ap : Nat)] 50) = V at *
            have q0 := b1.cell (i := 0) rfl
            have r0 := b2.cell (i := 0) rfl
            have q1 := b1.cell (i := 1) rfl
            have r1 := b2.cell (i := 1) rfl
            have q2 := b1.cell (i := 2) rfl
            have r2 := b2.cell (i := 2) rfl
            have q3 := b1.cell (i := 3) rfl
            have r3 := b2.cell (i := 3) rfl
            have q4 := b1.cell (i := 4) rfl
            have r4 := b2.cell (i := 4) rfl
            have q5 := b1.cell (i := 5) rfl
            have r5 := b2.cell (i := 5) rfl
            have q6 := b1.cell (i := 6) rfl
            have r6 := b2.cell (i := 6) rfl
            clear b1 b2 hS0
            go_wp2
            refine ⟨⟨k + 1, by go_num, by omega, HB1⟩, ?_⟩
            simp [intOf]; omega
          · go_simp
            refine hK.out _ _ (fun _ => hS0.alloc hS0.size _) ?_
            clear hK K
            try simp only [Act.put, List.setIfInBounds_toArray, List.set_cons_zero, List.set_cons_succ]
            refine held_one (i := 10) rfl (by kernel_rfl) (fun K hK => ?_)
            go_simp
            refine hK.out _ _ (fun _ => (hS0.alloc hS0.size _).alloc (by rw [World.size_alloc]; have := hS0.size; omega) _) ?_
            clear hK K
            try simp only [Act.put, List.setIfInBounds_toArray, List.set_cons_zero, List.set_cons_succ]
            refine held_one (i := 12) rfl (by kernel_rfl) (fun K hK => ?_)
            go_simp
            refine hK.out _ _ (fun _ => ((hS0.alloc hS0.size _).alloc (by rw [World.size_alloc]; have := hS0.size; omega) _)) ?_
            clear hK K
            try simp only [Act.put, List.setIfInBounds_toArray, List.set_cons_zero, List.set_cons_succ]
            refine held_one (i := 13) rfl (by kernel_rfl) (fun K hK => ?_)
            go_simp
            refine hK.out _ _ (fun _ => ((hS0.alloc hS0.size _).alloc (by rw [World.size_alloc]; have := hS0.size; omega) _)) ?_
            clear hK K
            try simp only [Act.put, List.setIfInBounds_toArray, List.set_cons_zero, List.set_cons_succ]
            refine held_done (by kernel_rfl) ?_ _
            have b1 := (Blk.new wa 50 [.string ⟨an.toArray⟩, .int .i64 (ax : Nat), .int .i64 (ay : Nat), .int .i64 (az : Nat), .int .i64 (at_ : Nat), .int .i64 (ah : Nat), .int .i64 (ap : Nat)]).alloc (.cells #[.string ⟨an.toArray⟩, .int .i64 (ax : Nat), .int .i64 (ay : Nat), .int .i64 (az : Nat), .int .i64 (at_ : Nat), .int .i64 (ah : Nat), .int .i64 (ap : Nat)] 50)
            have b2 := Blk.new (wa.alloc (.cells #[.string ⟨an.toArray⟩, .int .i64 (ax : Nat), .int .i64 (ay : Nat), .int .i64 (az : Nat), .int .i64 (at_ : Nat), .int .i64 (ah : Nat), .int .i64 (ap : Nat)] 50)) 50 [.string ⟨an.toArray⟩, .int .i64 (ax : Nat), .int .i64 (ay : Nat), .int .i64 (az : Nat), .int .i64 (at_ : Nat), .int .i64 (ah : Nat), .int .i64 (ap : Nat)]
            rw [World.size_alloc] at b2
            have HB1 := Lib.hid (HB.out.trans (((hS0.alloc hS0.size (.cells #[.string ⟨an.toArray⟩, .int .i64 (ax : Nat), .int .i64 (ay : Nat), .int .i64 (az : Nat), .int .i64 (at_ : Nat), .int .i64 (ah : Nat), .int .i64 (ap : Nat)] 50)).alloc (by rw [World.size_alloc]; have := hS0.size; omega) (.cells #[.string ⟨an.toArray⟩, .int .i64 (ax : Nat), .int .i64 (ay : Nat), .int .i64 (az : Nat), .int .i64 (at_ : Nat), .int .i64 (ah : Nat), .int .i64 (ap : Nat)] 50)).mono HB.out.size))
            generalize (wa.alloc (.cells #[.string ⟨an.toArray⟩, .int .i64 (ax : Nat), .int .i64 (ay : Nat), .int .i64 (az : Nat), .int .i64 (at_ : Nat), .int .i64 (ah : Nat), .int .i64 (ap : Nat)] 50)).alloc (.cells #[.string ⟨an.toArray⟩, .int .i64 (ax : Nat), .int .i64 (ay : Nat), .int .i64 (az : Nat), .int .i64 (at_ : Nat), .int .i64 (ah : Nat), .int .i64 (ap : Nat)] 50) = V at *
            have q0 := b1.cell (i := 0) rfl
            have r0 := b2.cell (i := 0) rfl
            have q1 := b1.cell (i := 1) rfl
            have r1 := b2.cell (i := 1) rfl
            have q2 := b1.cell (i := 2) rfl
            have r2 := b2.cell (i := 2) rfl
            have q3 := b1.cell (i := 3) rfl
            have r3 := b2.cell (i := 3) rfl
            have q4 := b1.cell (i := 4) rfl
            have r4 := b2.cell (i := 4) rfl
            have q5 := b1.cell (i := 5) rfl
            have r5 := b2.cell (i := 5) rfl
            have q6 := b1.cell (i := 6) rfl
            have r6 := b2.cell (i := 6) rfl
            clear b1 b2 hS0
            go_wp2
            refine ⟨⟨k + 1, by go_num, by omega, HB1⟩, ?_⟩
            simp [intOf]; omega
        · obtain rfl : k = na := by omega
          go_wp2
          go_loopw [11] (fun i wr => ∃ k : Nat, i = .int .i64 k ∧ k ≤ nd ∧ Hid (Below W.heap.size W wr)) (fun i _ => nd - (intOf i).toNat)
          case atStart => exact ⟨0, rfl, Nat.zero_le _, (Lib.hid HB.out)⟩
          case round =>
            obtain ⟨k, rfl, hk, HB⟩ := hrel
            have xb := X1.out.below HB.out
            have zb := X2.out.below HB.out
            have y2 := xb.cell (i := 2) rfl
            have z2 := zb.cell (i := 2) rfl
            have y3 := xb.cell (i := 3) rfl
            have z3 := zb.cell (i := 3) rfl
            have y4 := xb.cell (i := 4) rfl
            have z4 := zb.cell (i := 4) rfl
            have y6 := xb.cell (i := 6) rfl
            have z6 := zb.cell (i := 6) rfl
            have hy1 := xb.lt
            have hz1 := zb.lt
            clear xb zb
            by_cases hk2 : k < nd
            · obtain ⟨m, hx⟩ : ∃ m, ds[k]? = some m := ⟨_, List.getElem?_eq_getElem (by have := HND.out; omega)⟩
              obtain ⟨g, cap, cs, hv, _, _, _, hg, rfl, hcell⟩ := (HD.out.below HB.out).at hx
              obtain ⟨g', cap', cs', hv', _, _, _, hg', rfl, hcell'⟩ := (HD'.out.below HB.out).at hx
              rw [HND.out] at hv hv'
              injection hv with hv1 hv2 hv3
              injection hv' with hv1' hv2' hv3'
              subst hv1 hv3 hv1' hv3'
              have d0 := hcell 0 _ rfl
              have d1 := hcell 1 _ rfl
              have d0' := hcell' 0 _ rfl
              have d1' := hcell' 1 _ rfl
              rw [show pointK.size = 2 from rfl] at d0 d1 d0' d1'
              rw [Nat.add_zero] at d0 d0'
              have hki : (0 : Int) ≤ k ∧ (k : Int) < nd := by omega
              have mg := fun x y xs ys w => point_gneq x y xs ys w
              have me := fun w => point_neq m.1 m.2 m.1 m.2 false (by simp) w
              clear hcell hcell' hx
              go_wp2
              go_quiet (fail)
              go_wp2
              refine ⟨⟨k + 1, by go_num, by omega, Lib.hid (below_drewN HB.out _)⟩, ?_⟩
              simp [intOf]; omega
            · obtain rfl : k = nd := by omega
              go_wp2_with fail
              refine (boxes_same ais _ _ _ _ _ (HC.out.below HB.out) (HC'.out.below HB.out)).mono ?_; rintro q W1 ⟨rfl, hw1⟩
              have HB1 := Lib.hid (HB.out.trans (hw1.mono HB.out.size)); clear hw1
              have xb := X1.out.below HB1.out
              have zb := X2.out.below HB1.out
              have y5 := xb.cell (i := 5) rfl
              have z5 := zb.cell (i := 5) rfl
              clear xb zb
              go_wp2_with fail
              refine (boxes_same pls _ _ _ _ _ (HE.out.below HB1.out) (HE'.out.below HB1.out)).mono ?_; rintro q W2 ⟨rfl, hw2⟩
              have HB2 := Lib.hid (HB1.out.trans (hw2.mono HB1.out.size)); clear hw2
              go_wp2
              go_ret
              exact ⟨rfl, WB.out.trans (HB2.out.mono WB.out.size)⟩
theorem levelv_true (x y : LevelP) (hxy : x = y) (v1 v2 v3 v4 v5 v1' v2' v3' v4' v5' : Value) (F F' : Nat → Prop) (w : World) (h : LevelIs w F (levelCl x v1 v2 v3 v4 v5) x v1 v2 v3 v4 v5) (h' : LevelIs w F' (levelCl y v1' v2' v3' v4' v5') y v1' v2' v3' v4' v5') :
    Calls Tryz.prog 17 #[.agg (levelCl x v1 v2 v3 v4 v5).toArray, .agg (levelCl y v1' v2' v3' v4' v5').toArray, .bool true] w fun e w' => e = .returned (.bool true) ∧ Below w.heap.size w w' := by
  subst hxy
  exact level_true _ _ _ _ _ _ _ _ v1 v2 v3 v4 v5 v1' v2' v3' v4' v5' F F' w h.blocks h.areas h.aisles h.pillars h.doors h'.blocks h'.areas h'.aisles h'.pillars h'.doors
set_option linter.unusedSimpArgs false in
set_option maxRecDepth 100000 in
set_option maxHeartbeats 8000000 in
theorem same_true (nm : List UInt8) (sx sy : Nat) (ls : List LevelP) (v v' : Value) (F F' : Nat → Prop) (w : World) (h : IsList levelK w F 38 v ls) (h' : IsList levelK w F' 38 v' ls) :
    Calls Tryz.prog 7 #[.agg #[.string ⟨nm.toArray⟩, .int .i64 (sx : Nat), .int .i64 (sy : Nat), v], .agg #[.string ⟨nm.toArray⟩, .int .i64 (sx : Nat), .int .i64 (sy : Nat), v'], .bool true] w fun e w' => e = .returned (.bool true) ∧ Below w.heap.size w w' := by
  obtain ⟨a, c, rfl⟩ := h.len
  obtain ⟨a', c', rfl⟩ := h'.len
  obtain ⟨n, hn⟩ : ∃ n, ls.length = n := ⟨_, rfl⟩
  have hn9 := bound6 h
  rw [hn] at h h' hn9 ⊢
  have e0 : (nm != nm) = false := by simp
  have mg := fun x y xs ys w => point_gneq x y xs ys w
  have me := fun w => point_neq sx sy sx sy false (by simp) w
  have hb := below_boxes (w := w) (.cells #[.string ⟨nm.toArray⟩, .int .i64 (sx : Nat), .int .i64 (sy : Nat), .slice a n c] 27) (.cells #[.string ⟨nm.toArray⟩, .int .i64 (sx : Nat), .int .i64 (sy : Nat), .slice a' n c'] 27)
  have X1 := Lib.hid ((Blk.new w 27 [.string ⟨nm.toArray⟩, .int .i64 (sx : Nat), .int .i64 (sy : Nat), .slice a n c]).alloc (.cells #[.string ⟨nm.toArray⟩, .int .i64 (sx : Nat), .int .i64 (sy : Nat), .slice a' n c'] 27))
  have x2 := Blk.new (w.alloc (.cells #[.string ⟨nm.toArray⟩, .int .i64 (sx : Nat), .int .i64 (sy : Nat), .slice a n c] 27)) 27 [.string ⟨nm.toArray⟩, .int .i64 (sx : Nat), .int .i64 (sy : Nat), .slice a' n c']
  rw [World.size_alloc] at x2
  have X2 := Lib.hid x2
  have HL := Lib.hid (h.late hb)
  have HL' := Lib.hid (h'.late hb)
  have WB := Lib.hid hb
  clear hb x2
  go_enter Tryz.func7, Tryz.ntmps7
  go_upto_region 1 with fail
  generalize (w.alloc (.cells #[.string ⟨nm.toArray⟩, .int .i64 (sx : Nat), .int .i64 (sy : Nat), .slice a n c] 27)).alloc (.cells #[.string ⟨nm.toArray⟩, .int .i64 (sx : Nat), .int .i64 (sy : Nat), .slice a' n c'] 27) = W at *
  have y0 := X1.out.cell (i := 0) rfl
  have y1 := X1.out.cell (i := 1) rfl
  have y2 := X1.out.cell (i := 2) rfl
  have y3 := X1.out.cell (i := 3) rfl
  have z0 := X2.out.cell (i := 0) rfl
  have z1 := X2.out.cell (i := 1) rfl
  have z2 := X2.out.cell (i := 2) rfl
  have z3 := X2.out.cell (i := 3) rfl
  have HB0 := Lib.hid (Below.refl W.heap.size W)
  have HN := Lib.hid hn
  clear hn h h'
  go_wp2
  go_loopw [7] (fun i wr => ∃ k : Nat, i = .int .i64 k ∧ k ≤ n ∧ Hid (Below W.heap.size W wr)) (fun i _ => n - (intOf i).toNat)
  case atStart => exact ⟨0, rfl, Nat.zero_le _, HB0⟩
  case round =>
    obtain ⟨k, rfl, hk, HB⟩ := hrel
    clear y0 y1 y2 y3 z0 z1 z2 z3
    have xb := X1.out.below HB.out
    have zb := X2.out.below HB.out
    have y3 := xb.cell (i := 3) rfl
    have z3 := zb.cell (i := 3) rfl
    have hy1 := xb.lt
    have hz1 := zb.lt
    clear xb zb
    by_cases hk2 : k < n
    · obtain ⟨m, hx⟩ : ∃ m, ls[k]? = some m := ⟨_, List.getElem?_eq_getElem (by have := HN.out; omega)⟩
      obtain ⟨m', hx', hm⟩ : ∃ m', ls[k]? = some m' ∧ m = m' := ⟨m, hx, rfl⟩
      obtain ⟨g, cap, cs, hv, _, _, _, hg, ⟨v1, v2, v3, v4, v5, hm1⟩, hcell⟩ := (HL.out.below HB.out).at hx
      obtain ⟨g', cap', cs', hv', _, _, _, hg', ⟨v1', v2', v3', v4', v5', hm2⟩, hcell'⟩ := (HL'.out.below HB.out).at hx'
      obtain rfl := hm1.cells
      obtain rfl := hm2.cells
      rw [HN.out] at hv
      rw [HN.out] at hv'
      injection hv with hv1 hv2 hv3
      injection hv' with hv1' hv2' hv3'
      subst hv1 hv3 hv1' hv3'
      have d0 := hcell 0 _ rfl
      have d0' := hcell' 0 _ rfl
      have d1 := hcell 1 _ rfl
      have d1' := hcell' 1 _ rfl
      have d2 := hcell 2 _ rfl
      have d2' := hcell' 2 _ rfl
      have d3 := hcell 3 _ rfl
      have d3' := hcell' 3 _ rfl
      have d4 := hcell 4 _ rfl
      have d4' := hcell' 4 _ rfl
      have d5 := hcell 5 _ rfl
      have d5' := hcell' 5 _ rfl
      have d6 := hcell 6 _ rfl
      have d6' := hcell' 6 _ rfl
      have d7 := hcell 7 _ rfl
      have d7' := hcell' 7 _ rfl
      rw [show levelK.size = 8 from rfl] at d0 d0' d1 d1' d2 d2' d3 d3' d4 d4' d5 d5' d6 d6' d7 d7'
      rw [Nat.add_zero] at d0 d0'
      have hki : (0 : Int) ≤ k ∧ (k : Int) < n := by omega
      clear hcell hcell' hx hx'
      have HM := Lib.hid hm; have HM1 := Lib.hid hm1; have HM2 := Lib.hid hm2
      clear hm hm1 hm2
      go_wp2
      refine wp_region_any (by kernel_rfl) ?_
      have hS0 : Below wr.heap.size wr wr.drew := (Below.refl _ _).drew
      refine any_of_held (S := fun W => Below wr.heap.size wr W) (N := []) _ _ _ _ ?_
      change held _ _ _ _ _ _ _ _ _ wr.drew
      obtain ⟨wa, hwa⟩ : ∃ wa, wr.drew = wa := ⟨_, rfl⟩
      rw [hwa] at hS0 ⊢
      clear hwa
      refine held_take [] (i := 0) (v := .pointer (some ⟨w.heap.size, 3, none⟩)) rfl (by kernel_rfl) (fun _ _ _ h => h) (Or.inl ⟨by rfl, fun w' hS => by go_simp⟩) hS0 ?_
      try simp only [Act.put, List.setIfInBounds_toArray, List.set_cons_zero, List.set_cons_succ]
      refine held_take [] (i := 1) (v := .slice (some ⟨g, 0, none⟩) n c) rfl (by kernel_rfl) (fun _ _ _ h => h) (Or.inl ⟨by rfl, fun w' hS => by have := (hS.cell (p := ⟨w.heap.size, 3, none⟩) hy1).trans y3; go_simp⟩) hS0 ?_
      try simp only [Act.put, List.setIfInBounds_toArray, List.set_cons_zero, List.set_cons_succ]
      refine held_take [] (i := 2) (v := .int .i64 (k : Nat)) rfl (by kernel_rfl) (fun _ _ _ h => h) (Or.inl ⟨by rfl, fun w' hS => by go_simp⟩) hS0 ?_
      try simp only [Act.put, List.setIfInBounds_toArray, List.set_cons_zero, List.set_cons_succ]
      refine held_take [] (i := 3) (v := .pointer (some ⟨g, k * 8, none⟩)) rfl (by kernel_rfl) (fun _ _ _ h => h) (Or.inl ⟨by rfl, fun w' hS => by go_simp⟩) hS0 ?_
      try simp only [Act.put, List.setIfInBounds_toArray, List.set_cons_zero, List.set_cons_succ]
      refine held_take [] (i := 4) (v := .agg #[.string ⟨m.name.toArray⟩, .int .i64 (m.height : Nat), v1, v2, v3, v4, v5, .int .i64 (m.pos : Nat)]) rfl (by kernel_rfl) (fun _ _ _ h => h) (Or.inl ⟨by rfl, fun w' hS => by have := (hS.cell (p := ⟨g, k * 8, none⟩) hg).trans d0; have := (hS.cell (p := ⟨g, k * 8 + 1, none⟩) hg).trans d1; have := (hS.cell (p := ⟨g, k * 8 + 2, none⟩) hg).trans d2; have := (hS.cell (p := ⟨g, k * 8 + 3, none⟩) hg).trans d3; have := (hS.cell (p := ⟨g, k * 8 + 4, none⟩) hg).trans d4; have := (hS.cell (p := ⟨g, k * 8 + 5, none⟩) hg).trans d5; have := (hS.cell (p := ⟨g, k * 8 + 6, none⟩) hg).trans d6; have := (hS.cell (p := ⟨g, k * 8 + 7, none⟩) hg).trans d7; go_simp⟩) hS0 ?_
      try simp only [Act.put, List.setIfInBounds_toArray, List.set_cons_zero, List.set_cons_succ]
      refine held_take [] (i := 5) (v := .pointer (some ⟨w.heap.size + 1, 3, none⟩)) rfl (by kernel_rfl) (fun _ _ _ h => h) (Or.inl ⟨by rfl, fun w' hS => by go_simp⟩) hS0 ?_
      try simp only [Act.put, List.setIfInBounds_toArray, List.set_cons_zero, List.set_cons_succ]
      refine held_take [] (i := 6) (v := .slice (some ⟨g', 0, none⟩) n c') rfl (by kernel_rfl) (fun _ _ _ h => h) (Or.inl ⟨by rfl, fun w' hS => by have := (hS.cell (p := ⟨w.heap.size + 1, 3, none⟩) hz1).trans z3; go_simp⟩) hS0 ?_
      try simp only [Act.put, List.setIfInBounds_toArray, List.set_cons_zero, List.set_cons_succ]
      refine held_take [] (i := 7) (v := .int .i64 (k : Nat)) rfl (by kernel_rfl) (fun _ _ _ h => h) (Or.inl ⟨by rfl, fun w' hS => by go_simp⟩) hS0 ?_
      try simp only [Act.put, List.setIfInBounds_toArray, List.set_cons_zero, List.set_cons_succ]
      refine held_take [] (i := 8) (v := .pointer (some ⟨g', k * 8, none⟩)) rfl (by kernel_rfl) (fun _ _ _ h => h) (Or.inl ⟨by rfl, fun w' hS => by go_simp⟩) hS0 ?_
      try simp only [Act.put, List.setIfInBounds_toArray, List.set_cons_zero, List.set_cons_succ]
      refine held_take [] (i := 9) (v := .agg #[.string ⟨m'.name.toArray⟩, .int .i64 (m'.height : Nat), v1', v2', v3', v4', v5', .int .i64 (m'.pos : Nat)]) rfl (by kernel_rfl) (fun _ _ _ h => h) (Or.inl ⟨by rfl, fun w' hS => by have := (hS.cell (p := ⟨g', k * 8, none⟩) hg').trans d0'; have := (hS.cell (p := ⟨g', k * 8 + 1, none⟩) hg').trans d1'; have := (hS.cell (p := ⟨g', k * 8 + 2, none⟩) hg').trans d2'; have := (hS.cell (p := ⟨g', k * 8 + 3, none⟩) hg').trans d3'; have := (hS.cell (p := ⟨g', k * 8 + 4, none⟩) hg').trans d4'; have := (hS.cell (p := ⟨g', k * 8 + 5, none⟩) hg').trans d5'; have := (hS.cell (p := ⟨g', k * 8 + 6, none⟩) hg').trans d6'; have := (hS.cell (p := ⟨g', k * 8 + 7, none⟩) hg').trans d7'; go_simp⟩) hS0 ?_
      try simp only [Act.put, List.setIfInBounds_toArray, List.set_cons_zero, List.set_cons_succ]
      refine held_take [] (i := 10) (v := .bool true) rfl (by kernel_rfl) (fun _ _ _ h => h) (Or.inl ⟨by rfl, fun w' hS => by go_simp⟩) hS0 ?_
      try simp only [Act.put, List.setIfInBounds_toArray, List.set_cons_zero, List.set_cons_succ]
      refine held_one (i := 11) rfl (by kernel_rfl) (fun K hK => ?_)
      go_simp
      refine (levelv_true m m' HM.out v1 v2 v3 v4 v5 v1' v2' v3' v4' v5' _ _ wa (HM1.out.below hS0) (HM2.out.below hS0)).mono ?_
      rintro e W1 ⟨rfl, hw1⟩
      have hS1 : Below wr.heap.size wr W1 := hS0.trans (hw1.mono hS0.size)
      clear hS0 hw1
      refine hK.out _ _ (fun _ => hS1) ?_
      clear hK K
      try simp only [Act.put, List.setIfInBounds_toArray, List.set_cons_zero, List.set_cons_succ]
      refine held_take [] (i := 12) (v := .bool false) rfl (by kernel_rfl) (fun _ _ _ h => h) (Or.inl ⟨by rfl, fun w' hS => by go_simp⟩) hS1 ?_
      try simp only [Act.put, List.setIfInBounds_toArray, List.set_cons_zero, List.set_cons_succ]
      refine held_done (by kernel_rfl) ?_ _
      have HB1 := Lib.hid (HB.out.trans (hS1.mono HB.out.size))
      clear hS1
      go_wp2
      refine ⟨⟨k + 1, by go_num, by omega, HB1⟩, ?_⟩
      simp [intOf]; omega

    · obtain rfl : k = n := by omega
      go_wp2
      go_ret
      exact ⟨rfl, WB.out.trans (HB.out.mono WB.out.size)⟩
end Go.Proofs.YtlfjdohjfmfcdaaGreatDoor
