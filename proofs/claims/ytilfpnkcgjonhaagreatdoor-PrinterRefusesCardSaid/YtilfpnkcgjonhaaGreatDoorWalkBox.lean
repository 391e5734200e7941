/-
  The walks of boxes.
-/
import Derived.Test.YtilfpnkcgjonhaaGreatDoorReads
import Derived.Test.YtilfpnkcgjonhaaGreatDoorRound
namespace Go.Proofs.YtilfpnkcgjonhaaGreatDoor.Pr
open Go.RowKit Go.Sort Foyer.Printer Foyer.Lexer Foyer.Round

set_option linter.unusedSimpArgs false in
set_option maxRecDepth 100000 in
set_option maxHeartbeats 4000000 in
theorem box_any {B b : Nat} {T : TypeId} (x : BoxZ) (hx : BoxZ.Fit x) (w : World) (v : Value) (s : St) (h : WR B b T w v s) (hB : B ≤ w.heap.size) (hE : EnvAt B w) :
    Calls Tryz.prog 71 #[.pointer (some ⟨b, 0, none⟩), .agg #[.int .i64 x.x, .int .i64 x.y, .int .i64 x.x2, .int .i64 x.y2]] w fun e w' => e = .returned (.tuple #[]) ∧ Step B b T w v (boxS x s) w' := by
  have hb0 : Below w.heap.size w (w.alloc (.cells #[.int .i64 x.x, .int .i64 x.y, .int .i64 x.x2, .int .i64 x.y2] 74)) := (Below.refl _ _).alloc (Nat.le_refl _) _
  have hR : Wrote b w v (w.alloc (.cells #[.int .i64 x.x, .int .i64 x.y, .int .i64 x.x2, .int .i64 x.y2] 74)) v := (Wrote.refl b _ v).later hb0
  have HBK : Hid (∀ w' v', Wrote b (w.alloc (.cells #[.int .i64 x.x, .int .i64 x.y, .int .i64 x.x2, .int .i64 x.y2] 74)) v w' v' → Blk w' w.heap.size 74 [.int .i64 x.x, .int .i64 x.y, .int .i64 x.x2, .int .i64 x.y2]) := Lib.hid fun w' v' k => (k.kept (k := w.heap.size) (by simp) (by have := h.lt; omega) (fun e => by have := (h.vlow e).2; omega)).1.trans (Blk.new w 74 [.int .i64 x.x, .int .i64 x.y, .int .i64 x.x2, .int .i64 x.y2])
  have HB0 : Hid (B ≤ (w.alloc (.cells #[.int .i64 x.x, .int .i64 x.y, .int .i64 x.x2, .int .i64 x.y2] 74)).heap.size) := Lib.hid (by simp; omega)
  have HEW : Hid (∀ w' v', Wrote b (w.alloc (.cells #[.int .i64 x.x, .int .i64 x.y, .int .i64 x.x2, .int .i64 x.y2] 74)) v w' v' → EnvAt B w') := Lib.hid fun w' v' k => hE.below ((hb0.mono hB).trans ((h.later hb0).wrote (by simp; omega) k))
  have HIN : Hid (∀ w' v', Wrote b (w.alloc (.cells #[.int .i64 x.x, .int .i64 x.y, .int .i64 x.x2, .int .i64 x.y2] 74)) v w' v' → Below B w w') := Lib.hid fun w' v' k => (hb0.mono hB).trans ((h.later hb0).wrote (by simp; omega) k)
  have K0 := Lib.hid (h.later hb0)
  have HFIN : Hid (∀ w' v', Wrote b (w.alloc (.cells #[.int .i64 x.x, .int .i64 x.y, .int .i64 x.x2, .int .i64 x.y2] 74)) v w' v' → Wrote b w v w' v') := Lib.hid fun w' v' k => hR.trans k
  obtain ⟨w0, hw0⟩ : ∃ w0, w.alloc (.cells #[.int .i64 x.x, .int .i64 x.y, .int .i64 x.x2, .int .i64 x.y2] 74) = w0 := ⟨_, rfl⟩
  obtain ⟨u0, hu0⟩ : ∃ u0, u0 = v := ⟨v, rfl⟩
  rw [hw0] at HBK HB0 HEW HIN HFIN K0
  rw [← hu0] at HBK HEW HIN HFIN K0
  have R0 := Lib.hid (Wrote.refl b w0 u0)
  clear h hb0 hR hE hB
  go_enter Tryz.func71, Tryz.ntmps71
  go_upto_region 1 with fail
  try rw [hw0]
  refine wp_region_any (by kernel_rfl) ?_
  have KA := Lib.hid K0.out.drew; have RA := Lib.hid R0.out.drew
  have hS0 : Blk w0.drew w.heap.size 74 [.int .i64 x.x, .int .i64 x.y, .int .i64 x.x2, .int .i64 x.y2] := HBK.out _ _ RA.out
  refine any_of_held (S := fun W => Blk W w.heap.size 74 [.int .i64 x.x, .int .i64 x.y, .int .i64 x.x2, .int .i64 x.y2]) (N := []) _ _ _ _ ?_
  change held _ _ _ _ _ _ _ _ _ w0.drew
  obtain ⟨wa, hwa⟩ : ∃ wa, w0.drew = wa := ⟨_, rfl⟩
  rw [hwa] at hS0 KA RA ⊢
  clear hwa K0 R0
  refine held_take [] (i := 0) (v := .pointer (some ⟨b, 0, none⟩)) rfl (by kernel_rfl) (fun _ _ _ h => h) (Or.inl ⟨by rfl, fun w' hS => by go_simp⟩) hS0 ?_
  try simp only [Act.put, List.setIfInBounds_toArray, List.set_cons_zero, List.set_cons_succ]
  refine held_take [] (i := 1) (v := .pointer (some ⟨b, 0, none⟩)) rfl (by kernel_rfl) (fun _ _ _ h => h) (Or.inl ⟨by rfl, fun w' hS => by go_simp⟩) hS0 ?_
  try simp only [Act.put, List.setIfInBounds_toArray, List.set_cons_zero, List.set_cons_succ]
  refine held_take [] (i := 2) (v := .pointer (some ⟨b, 0, none⟩)) rfl (by kernel_rfl) (fun _ _ _ h => h) (Or.inl ⟨by rfl, fun w' hS => by go_simp⟩) hS0 ?_
  try simp only [Act.put, List.setIfInBounds_toArray, List.set_cons_zero, List.set_cons_succ]
  refine held_take [] (i := 3) (v := .pointer (some ⟨w.heap.size, 0, none⟩)) rfl (by kernel_rfl) (fun _ _ _ h => h) (Or.inl ⟨by rfl, fun w' hS => by go_simp⟩) hS0 ?_
  try simp only [Act.put, List.setIfInBounds_toArray, List.set_cons_zero, List.set_cons_succ]
  refine held_take [] (i := 4) (v := .int .i64 x.x) rfl (by kernel_rfl) (fun _ _ _ h => h) (Or.inl ⟨by rfl, fun w' hS => by have hc := hS.cell (i := 0) rfl; go_simp⟩) hS0 ?_
  try simp only [Act.put, List.setIfInBounds_toArray, List.set_cons_zero, List.set_cons_succ]
  refine held_take [] (i := 5) (v := .pointer (some ⟨w.heap.size, 1, none⟩)) rfl (by kernel_rfl) (fun _ _ _ h => h) (Or.inl ⟨by rfl, fun w' hS => by go_simp⟩) hS0 ?_
  try simp only [Act.put, List.setIfInBounds_toArray, List.set_cons_zero, List.set_cons_succ]
  refine held_take [] (i := 6) (v := .int .i64 x.y) rfl (by kernel_rfl) (fun _ _ _ h => h) (Or.inl ⟨by rfl, fun w' hS => by have hc := hS.cell (i := 1) rfl; go_simp⟩) hS0 ?_
  try simp only [Act.put, List.setIfInBounds_toArray, List.set_cons_zero, List.set_cons_succ]
  refine held_take [] (i := 7) (v := .pointer (some ⟨w.heap.size, 2, none⟩)) rfl (by kernel_rfl) (fun _ _ _ h => h) (Or.inl ⟨by rfl, fun w' hS => by go_simp⟩) hS0 ?_
  try simp only [Act.put, List.setIfInBounds_toArray, List.set_cons_zero, List.set_cons_succ]
  refine held_take [] (i := 8) (v := .int .i64 x.x2) rfl (by kernel_rfl) (fun _ _ _ h => h) (Or.inl ⟨by rfl, fun w' hS => by have hc := hS.cell (i := 2) rfl; go_simp⟩) hS0 ?_
  try simp only [Act.put, List.setIfInBounds_toArray, List.set_cons_zero, List.set_cons_succ]
  refine held_take [] (i := 9) (v := .pointer (some ⟨w.heap.size, 3, none⟩)) rfl (by kernel_rfl) (fun _ _ _ h => h) (Or.inl ⟨by rfl, fun w' hS => by go_simp⟩) hS0 ?_
  try simp only [Act.put, List.setIfInBounds_toArray, List.set_cons_zero, List.set_cons_succ]
  refine held_take [] (i := 10) (v := .int .i64 x.y2) rfl (by kernel_rfl) (fun _ _ _ h => h) (Or.inl ⟨by rfl, fun w' hS => by have hc := hS.cell (i := 3) rfl; go_simp⟩) hS0 ?_
  try simp only [Act.put, List.setIfInBounds_toArray, List.set_cons_zero, List.set_cons_succ]
  refine held_one (i := 11) rfl (by kernel_rfl) (fun K hK => ?_)
  go_simp
  refine hK.out _ _ (fun _ => hS0.alloc _) ?_
  clear hK K
  try simp only [Act.put, List.setIfInBounds_toArray, List.set_cons_zero, List.set_cons_succ]
  refine held_one (i := 12) rfl (by kernel_rfl) (fun K hK => ?_)
  go_simp
  have HC := Lib.hid (numbers_new [x.x, x.y, x.x2, x.y2] (by intro z hz; simp only [List.mem_cons, List.not_mem_nil, or_false] at hz; rcases hz with rfl | rfl | rfl | rfl; exact hx.1; exact hx.2.1; exact hx.2.2.1; exact hx.2.2.2) (by simp) wa u0 _ KA.out (Nat.le_trans HB0.out RA.out.kp.size) (HEW.out _ _ RA.out))
  refine HC.out.mono ?_; rintro e w1 ⟨rfl, u1, k1, k2⟩
  have K1 := Lib.hid k1; have R1 := Lib.hid (RA.out.trans k2)
  refine hK.out _ _ (fun _ => HBK.out _ _ R1.out) ?_
  clear hK K k1 k2 HC KA RA hS0
  try simp only [Act.put, List.setIfInBounds_toArray, List.set_cons_zero, List.set_cons_succ]
  refine held_done (by kernel_rfl) ?_ _
  go_wp2
  go_end0
  subst hu0
  exact ⟨rfl, u1, K1.out, HFIN.out _ _ R1.out⟩
end Go.Proofs.YtilfpnkcgjonhaaGreatDoor.Pr
