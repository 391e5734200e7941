/-
  The walks of rows.
-/
import Derived.Test.YtilfpnkcgjonhaaGreatDoorWalkMark
namespace Go.Proofs.YtilfpnkcgjonhaaGreatDoor.Pr
open Go.RowKit Go.Sort Foyer.Printer Foyer.Lexer Foyer.Round

set_option linter.unusedSimpArgs false in
set_option maxRecDepth 100000 in
set_option maxHeartbeats 4000000 in
theorem row_any {B b : Nat} {T : TypeId} (r : RowZ) (hr : RowZ.Fit r) (p : Option Addr) (n cap : Nat) (w : World) (v : Value) (s : St) (h : WR B b T w v s) (hB : B ≤ w.heap.size) (hE : EnvAt B w) (hm : Lk markL w B (.slice p n cap) r.marks) :
    Calls Tryz.prog 101 #[.pointer (some ⟨b, 0, none⟩), .agg #[.string ⟨r.name.toArray⟩, .int .i64 r.x, .int .i64 r.y, .int .i64 r.first, .int .i64 r.last, .int .i64 r.step, .slice p n cap, .int .i64 r.pos]] w fun e w' => e = .returned (.tuple #[]) ∧ Step B b T w v (rowS r s) w' := by
  have hb0 : Below w.heap.size w (w.alloc (.cells #[.string ⟨r.name.toArray⟩, .int .i64 r.x, .int .i64 r.y, .int .i64 r.first, .int .i64 r.last, .int .i64 r.step, .slice p n cap, .int .i64 r.pos] 40)) := (Below.refl _ _).alloc (Nat.le_refl _) _
  have hR : Wrote b w v (w.alloc (.cells #[.string ⟨r.name.toArray⟩, .int .i64 r.x, .int .i64 r.y, .int .i64 r.first, .int .i64 r.last, .int .i64 r.step, .slice p n cap, .int .i64 r.pos] 40)) v := (Wrote.refl b _ v).later hb0
  have HBK : Hid (∀ w' v', Wrote b (w.alloc (.cells #[.string ⟨r.name.toArray⟩, .int .i64 r.x, .int .i64 r.y, .int .i64 r.first, .int .i64 r.last, .int .i64 r.step, .slice p n cap, .int .i64 r.pos] 40)) v w' v' → Blk w' w.heap.size 40 [.string ⟨r.name.toArray⟩, .int .i64 r.x, .int .i64 r.y, .int .i64 r.first, .int .i64 r.last, .int .i64 r.step, .slice p n cap, .int .i64 r.pos]) := Lib.hid fun w' v' k => (k.kept (k := w.heap.size) (by simp) (by have := h.lt; omega) (fun e => by have := (h.vlow e).2; omega)).1.trans (Blk.new w 40 [.string ⟨r.name.toArray⟩, .int .i64 r.x, .int .i64 r.y, .int .i64 r.first, .int .i64 r.last, .int .i64 r.step, .slice p n cap, .int .i64 r.pos])
  have HB0 : Hid (B ≤ (w.alloc (.cells #[.string ⟨r.name.toArray⟩, .int .i64 r.x, .int .i64 r.y, .int .i64 r.first, .int .i64 r.last, .int .i64 r.step, .slice p n cap, .int .i64 r.pos] 40)).heap.size) := Lib.hid (by simp; omega)
  have HEW : Hid (∀ w' v', Wrote b (w.alloc (.cells #[.string ⟨r.name.toArray⟩, .int .i64 r.x, .int .i64 r.y, .int .i64 r.first, .int .i64 r.last, .int .i64 r.step, .slice p n cap, .int .i64 r.pos] 40)) v w' v' → EnvAt B w') := Lib.hid fun w' v' k => hE.below ((hb0.mono hB).trans ((h.later hb0).wrote (by simp; omega) k))
  have HIN : Hid (∀ w' v', Wrote b (w.alloc (.cells #[.string ⟨r.name.toArray⟩, .int .i64 r.x, .int .i64 r.y, .int .i64 r.first, .int .i64 r.last, .int .i64 r.step, .slice p n cap, .int .i64 r.pos] 40)) v w' v' → Below B w w') := Lib.hid fun w' v' k => (hb0.mono hB).trans ((h.later hb0).wrote (by simp; omega) k)
  have K0 := Lib.hid (h.later hb0)
  have HFIN : Hid (∀ w' v', Wrote b (w.alloc (.cells #[.string ⟨r.name.toArray⟩, .int .i64 r.x, .int .i64 r.y, .int .i64 r.first, .int .i64 r.last, .int .i64 r.step, .slice p n cap, .int .i64 r.pos] 40)) v w' v' → Wrote b w v w' v') := Lib.hid fun w' v' k => hR.trans k
  obtain ⟨w0, hw0⟩ : ∃ w0, w.alloc (.cells #[.string ⟨r.name.toArray⟩, .int .i64 r.x, .int .i64 r.y, .int .i64 r.first, .int .i64 r.last, .int .i64 r.step, .slice p n cap, .int .i64 r.pos] 40) = w0 := ⟨_, rfl⟩
  obtain ⟨u0, hu0⟩ : ∃ u0, u0 = v := ⟨v, rfl⟩
  rw [hw0] at HBK HB0 HEW HIN HFIN K0
  rw [← hu0] at HBK HEW HIN HFIN K0
  have R0 := Lib.hid (Wrote.refl b w0 u0)
  have HL := Lib.hid hm
  obtain ⟨h1, h2, h3, h4, h5, h6, h7⟩ := hr
  clear hm
  clear h hb0 hR hE hB
  go_enter Tryz.func101, Tryz.ntmps101
  have HC := Lib.hid (word_any wRow (by decide) w0 u0 _ K0.out (Nat.le_trans HB0.out R0.out.kp.size))
  go_wp2_with fail
  try rw [hw0]
  refine HC.out.mono ?_; rintro e w1 ⟨rfl, u1, k1, k2⟩
  have K1 := Lib.hid k1; have R1 := Lib.hid (R0.out.trans k2)
  clear k1 k2 HC K0 R0
  go_upto_region 2 with fail
  refine wp_region_any (by kernel_rfl) ?_
  have KA := Lib.hid K1.out.drew; have RA := Lib.hid R1.out.drew
  have hS0 : Blk w1.drew w.heap.size 40 [.string ⟨r.name.toArray⟩, .int .i64 r.x, .int .i64 r.y, .int .i64 r.first, .int .i64 r.last, .int .i64 r.step, .slice p n cap, .int .i64 r.pos] := HBK.out _ _ RA.out
  refine any_of_held (S := fun W => Blk W w.heap.size 40 [.string ⟨r.name.toArray⟩, .int .i64 r.x, .int .i64 r.y, .int .i64 r.first, .int .i64 r.last, .int .i64 r.step, .slice p n cap, .int .i64 r.pos]) (N := []) _ _ _ _ ?_
  change held _ _ _ _ _ _ _ _ _ w1.drew
  obtain ⟨wa, hwa⟩ : ∃ wa, w1.drew = wa := ⟨_, rfl⟩
  rw [hwa] at hS0 KA RA ⊢
  clear hwa K1 R1
  refine held_take [] (i := 0) (v := .pointer (some ⟨b, 0, none⟩)) rfl (by kernel_rfl) (fun _ _ _ h => h) (Or.inl ⟨by rfl, fun w' hS => by go_simp⟩) hS0 ?_
  try simp only [Act.put, List.setIfInBounds_toArray, List.set_cons_zero, List.set_cons_succ]
  refine held_take [] (i := 1) (v := .pointer (some ⟨b, 0, none⟩)) rfl (by kernel_rfl) (fun _ _ _ h => h) (Or.inl ⟨by rfl, fun w' hS => by go_simp⟩) hS0 ?_
  try simp only [Act.put, List.setIfInBounds_toArray, List.set_cons_zero, List.set_cons_succ]
  refine held_take [] (i := 2) (v := .pointer (some ⟨b, 0, none⟩)) rfl (by kernel_rfl) (fun _ _ _ h => h) (Or.inl ⟨by rfl, fun w' hS => by go_simp⟩) hS0 ?_
  try simp only [Act.put, List.setIfInBounds_toArray, List.set_cons_zero, List.set_cons_succ]
  refine held_take [] (i := 3) (v := .pointer (some ⟨w.heap.size, 0, none⟩)) rfl (by kernel_rfl) (fun _ _ _ h => h) (Or.inl ⟨by rfl, fun w' hS => by go_simp⟩) hS0 ?_
  try simp only [Act.put, List.setIfInBounds_toArray, List.set_cons_zero, List.set_cons_succ]
  refine held_take [] (i := 4) (v := .string ⟨r.name.toArray⟩) rfl (by kernel_rfl) (fun _ _ _ h => h) (Or.inl ⟨by rfl, fun w' hS => by have hc := hS.cell (i := 0) rfl; go_simp⟩) hS0 ?_
  try simp only [Act.put, List.setIfInBounds_toArray, List.set_cons_zero, List.set_cons_succ]
  refine held_one (i := 5) rfl (by kernel_rfl) (fun K hK => ?_)
  go_simp
  refine hK.out _ _ (fun _ => hS0.alloc _) ?_
  clear hK K
  try simp only [Act.put, List.setIfInBounds_toArray, List.set_cons_zero, List.set_cons_succ]
  refine held_one (i := 6) rfl (by kernel_rfl) (fun K hK => ?_)
  go_simp
  have HC := Lib.hid (name_new r.name h1 wa u1 _ KA.out (Nat.le_trans HB0.out RA.out.kp.size))
  refine HC.out.mono ?_; rintro e w2 ⟨rfl, u2, k1, k2⟩
  have K2 := Lib.hid k1; have R2 := Lib.hid (RA.out.trans k2)
  refine hK.out _ _ (fun _ => HBK.out _ _ R2.out) ?_
  clear hK K k1 k2 HC KA RA hS0
  try simp only [Act.put, List.setIfInBounds_toArray, List.set_cons_zero, List.set_cons_succ]
  refine held_done (by kernel_rfl) ?_ _
  have HC := Lib.hid (word_any wAt (by decide) w2 u2 _ K2.out (Nat.le_trans HB0.out R2.out.kp.size))
  go_wp2_with fail
  refine HC.out.mono ?_; rintro e w3 ⟨rfl, u3, k1, k2⟩
  have K3 := Lib.hid k1; have R3 := Lib.hid (R2.out.trans k2)
  clear k1 k2 HC K2 R2
  go_upto_region 4 with fail
  refine wp_region_any (by kernel_rfl) ?_
  have KA := Lib.hid K3.out.drew; have RA := Lib.hid R3.out.drew
  have hS0 : Blk w3.drew w.heap.size 40 [.string ⟨r.name.toArray⟩, .int .i64 r.x, .int .i64 r.y, .int .i64 r.first, .int .i64 r.last, .int .i64 r.step, .slice p n cap, .int .i64 r.pos] := HBK.out _ _ RA.out
  refine any_of_held (S := fun W => Blk W w.heap.size 40 [.string ⟨r.name.toArray⟩, .int .i64 r.x, .int .i64 r.y, .int .i64 r.first, .int .i64 r.last, .int .i64 r.step, .slice p n cap, .int .i64 r.pos]) (N := []) _ _ _ _ ?_
  change held _ _ _ _ _ _ _ _ _ w3.drew
  obtain ⟨wa, hwa⟩ : ∃ wa, w3.drew = wa := ⟨_, rfl⟩
  rw [hwa] at hS0 KA RA ⊢
  clear hwa K3 R3
  refine held_take [] (i := 0) (v := .pointer (some ⟨b, 0, none⟩)) rfl (by kernel_rfl) (fun _ _ _ h => h) (Or.inl ⟨by rfl, fun w' hS => by go_simp⟩) hS0 ?_
  try simp only [Act.put, List.setIfInBounds_toArray, List.set_cons_zero, List.set_cons_succ]
  refine held_take [] (i := 1) (v := .pointer (some ⟨b, 0, none⟩)) rfl (by kernel_rfl) (fun _ _ _ h => h) (Or.inl ⟨by rfl, fun w' hS => by go_simp⟩) hS0 ?_
  try simp only [Act.put, List.setIfInBounds_toArray, List.set_cons_zero, List.set_cons_succ]
  refine held_take [] (i := 2) (v := .pointer (some ⟨b, 0, none⟩)) rfl (by kernel_rfl) (fun _ _ _ h => h) (Or.inl ⟨by rfl, fun w' hS => by go_simp⟩) hS0 ?_
  try simp only [Act.put, List.setIfInBounds_toArray, List.set_cons_zero, List.set_cons_succ]
  refine held_take [] (i := 3) (v := .pointer (some ⟨w.heap.size, 1, none⟩)) rfl (by kernel_rfl) (fun _ _ _ h => h) (Or.inl ⟨by rfl, fun w' hS => by go_simp⟩) hS0 ?_
  try simp only [Act.put, List.setIfInBounds_toArray, List.set_cons_zero, List.set_cons_succ]
  refine held_take [] (i := 4) (v := .int .i64 r.x) rfl (by kernel_rfl) (fun _ _ _ h => h) (Or.inl ⟨by rfl, fun w' hS => by have hc := hS.cell (i := 1) rfl; go_simp⟩) hS0 ?_
  try simp only [Act.put, List.setIfInBounds_toArray, List.set_cons_zero, List.set_cons_succ]
  refine held_take [] (i := 5) (v := .pointer (some ⟨w.heap.size, 2, none⟩)) rfl (by kernel_rfl) (fun _ _ _ h => h) (Or.inl ⟨by rfl, fun w' hS => by go_simp⟩) hS0 ?_
  try simp only [Act.put, List.setIfInBounds_toArray, List.set_cons_zero, List.set_cons_succ]
  refine held_take [] (i := 6) (v := .int .i64 r.y) rfl (by kernel_rfl) (fun _ _ _ h => h) (Or.inl ⟨by rfl, fun w' hS => by have hc := hS.cell (i := 2) rfl; go_simp⟩) hS0 ?_
  try simp only [Act.put, List.setIfInBounds_toArray, List.set_cons_zero, List.set_cons_succ]
  refine held_one (i := 7) rfl (by kernel_rfl) (fun K hK => ?_)
  go_simp
  refine hK.out _ _ (fun _ => hS0.alloc _) ?_
  clear hK K
  try simp only [Act.put, List.setIfInBounds_toArray, List.set_cons_zero, List.set_cons_succ]
  refine held_one (i := 8) rfl (by kernel_rfl) (fun K hK => ?_)
  go_simp
  have HC := Lib.hid (numbers_new [r.x, r.y] (by intro z hz; simp only [List.mem_cons, List.not_mem_nil, or_false] at hz; rcases hz with rfl | rfl <;> assumption) (by simp) wa u3 _ KA.out (Nat.le_trans HB0.out RA.out.kp.size) (HEW.out _ _ (RA.out)))
  refine HC.out.mono ?_; rintro e w4 ⟨rfl, u4, k1, k2⟩
  have K4 := Lib.hid k1; have R4 := Lib.hid (RA.out.trans k2)
  refine hK.out _ _ (fun _ => HBK.out _ _ R4.out) ?_
  clear hK K k1 k2 HC KA RA hS0
  try simp only [Act.put, List.setIfInBounds_toArray, List.set_cons_zero, List.set_cons_succ]
  refine held_done (by kernel_rfl) ?_ _
  have HC := Lib.hid (word_any wSeats (by decide) w4 u4 _ K4.out (Nat.le_trans HB0.out R4.out.kp.size))
  go_wp2_with fail
  refine HC.out.mono ?_; rintro e w5 ⟨rfl, u5, k1, k2⟩
  have K5 := Lib.hid k1; have R5 := Lib.hid (R4.out.trans k2)
  clear k1 k2 HC K4 R4
  go_upto_region 6 with fail
  refine wp_region_any (by kernel_rfl) ?_
  have KA := Lib.hid K5.out.drew; have RA := Lib.hid R5.out.drew
  have hS0 : Blk w5.drew w.heap.size 40 [.string ⟨r.name.toArray⟩, .int .i64 r.x, .int .i64 r.y, .int .i64 r.first, .int .i64 r.last, .int .i64 r.step, .slice p n cap, .int .i64 r.pos] := HBK.out _ _ RA.out
  refine any_of_held (S := fun W => Blk W w.heap.size 40 [.string ⟨r.name.toArray⟩, .int .i64 r.x, .int .i64 r.y, .int .i64 r.first, .int .i64 r.last, .int .i64 r.step, .slice p n cap, .int .i64 r.pos]) (N := []) _ _ _ _ ?_
  change held _ _ _ _ _ _ _ _ _ w5.drew
  obtain ⟨wa, hwa⟩ : ∃ wa, w5.drew = wa := ⟨_, rfl⟩
  rw [hwa] at hS0 KA RA ⊢
  clear hwa K5 R5
  refine held_take [] (i := 0) (v := .pointer (some ⟨b, 0, none⟩)) rfl (by kernel_rfl) (fun _ _ _ h => h) (Or.inl ⟨by rfl, fun w' hS => by go_simp⟩) hS0 ?_
  try simp only [Act.put, List.setIfInBounds_toArray, List.set_cons_zero, List.set_cons_succ]
  refine held_take [] (i := 1) (v := .pointer (some ⟨b, 0, none⟩)) rfl (by kernel_rfl) (fun _ _ _ h => h) (Or.inl ⟨by rfl, fun w' hS => by go_simp⟩) hS0 ?_
  try simp only [Act.put, List.setIfInBounds_toArray, List.set_cons_zero, List.set_cons_succ]
  refine held_take [] (i := 2) (v := .pointer (some ⟨b, 0, none⟩)) rfl (by kernel_rfl) (fun _ _ _ h => h) (Or.inl ⟨by rfl, fun w' hS => by go_simp⟩) hS0 ?_
  try simp only [Act.put, List.setIfInBounds_toArray, List.set_cons_zero, List.set_cons_succ]
  refine held_take [] (i := 3) (v := .pointer (some ⟨w.heap.size, 3, none⟩)) rfl (by kernel_rfl) (fun _ _ _ h => h) (Or.inl ⟨by rfl, fun w' hS => by go_simp⟩) hS0 ?_
  try simp only [Act.put, List.setIfInBounds_toArray, List.set_cons_zero, List.set_cons_succ]
  refine held_take [] (i := 4) (v := .int .i64 r.first) rfl (by kernel_rfl) (fun _ _ _ h => h) (Or.inl ⟨by rfl, fun w' hS => by have hc := hS.cell (i := 3) rfl; go_simp⟩) hS0 ?_
  try simp only [Act.put, List.setIfInBounds_toArray, List.set_cons_zero, List.set_cons_succ]
  refine held_one (i := 5) rfl (by kernel_rfl) (fun K hK => ?_)
  go_simp
  refine hK.out _ _ (fun _ => hS0.alloc _) ?_
  clear hK K
  try simp only [Act.put, List.setIfInBounds_toArray, List.set_cons_zero, List.set_cons_succ]
  refine held_one (i := 6) rfl (by kernel_rfl) (fun K hK => ?_)
  go_simp
  have HC := Lib.hid (numbers_new [r.first] (by intro z hz; simp only [List.mem_cons, List.not_mem_nil, or_false] at hz; rcases hz with rfl <;> assumption) (by simp) wa u5 _ KA.out (Nat.le_trans HB0.out RA.out.kp.size) (HEW.out _ _ (RA.out)))
  refine HC.out.mono ?_; rintro e w6 ⟨rfl, u6, k1, k2⟩
  have K6 := Lib.hid k1; have R6 := Lib.hid (RA.out.trans k2)
  refine hK.out _ _ (fun _ => HBK.out _ _ R6.out) ?_
  clear hK K k1 k2 HC KA RA hS0
  try simp only [Act.put, List.setIfInBounds_toArray, List.set_cons_zero, List.set_cons_succ]
  refine held_done (by kernel_rfl) ?_ _
  have HC := Lib.hid (word_any wTo (by decide) w6 u6 _ K6.out (Nat.le_trans HB0.out R6.out.kp.size))
  go_wp2_with fail
  refine HC.out.mono ?_; rintro e w7 ⟨rfl, u7, k1, k2⟩
  have K7 := Lib.hid k1; have R7 := Lib.hid (R6.out.trans k2)
  clear k1 k2 HC K6 R6
  go_upto_region 8 with fail
  refine wp_region_any (by kernel_rfl) ?_
  have KA := Lib.hid K7.out.drew; have RA := Lib.hid R7.out.drew
  have hS0 : Blk w7.drew w.heap.size 40 [.string ⟨r.name.toArray⟩, .int .i64 r.x, .int .i64 r.y, .int .i64 r.first, .int .i64 r.last, .int .i64 r.step, .slice p n cap, .int .i64 r.pos] := HBK.out _ _ RA.out
  refine any_of_held (S := fun W => Blk W w.heap.size 40 [.string ⟨r.name.toArray⟩, .int .i64 r.x, .int .i64 r.y, .int .i64 r.first, .int .i64 r.last, .int .i64 r.step, .slice p n cap, .int .i64 r.pos]) (N := []) _ _ _ _ ?_
  change held _ _ _ _ _ _ _ _ _ w7.drew
  obtain ⟨wa, hwa⟩ : ∃ wa, w7.drew = wa := ⟨_, rfl⟩
  rw [hwa] at hS0 KA RA ⊢
  clear hwa K7 R7
  refine held_take [] (i := 0) (v := .pointer (some ⟨b, 0, none⟩)) rfl (by kernel_rfl) (fun _ _ _ h => h) (Or.inl ⟨by rfl, fun w' hS => by go_simp⟩) hS0 ?_
  try simp only [Act.put, List.setIfInBounds_toArray, List.set_cons_zero, List.set_cons_succ]
  refine held_take [] (i := 1) (v := .pointer (some ⟨b, 0, none⟩)) rfl (by kernel_rfl) (fun _ _ _ h => h) (Or.inl ⟨by rfl, fun w' hS => by go_simp⟩) hS0 ?_
  try simp only [Act.put, List.setIfInBounds_toArray, List.set_cons_zero, List.set_cons_succ]
  refine held_take [] (i := 2) (v := .pointer (some ⟨b, 0, none⟩)) rfl (by kernel_rfl) (fun _ _ _ h => h) (Or.inl ⟨by rfl, fun w' hS => by go_simp⟩) hS0 ?_
  try simp only [Act.put, List.setIfInBounds_toArray, List.set_cons_zero, List.set_cons_succ]
  refine held_take [] (i := 3) (v := .pointer (some ⟨w.heap.size, 4, none⟩)) rfl (by kernel_rfl) (fun _ _ _ h => h) (Or.inl ⟨by rfl, fun w' hS => by go_simp⟩) hS0 ?_
  try simp only [Act.put, List.setIfInBounds_toArray, List.set_cons_zero, List.set_cons_succ]
  refine held_take [] (i := 4) (v := .int .i64 r.last) rfl (by kernel_rfl) (fun _ _ _ h => h) (Or.inl ⟨by rfl, fun w' hS => by have hc := hS.cell (i := 4) rfl; go_simp⟩) hS0 ?_
  try simp only [Act.put, List.setIfInBounds_toArray, List.set_cons_zero, List.set_cons_succ]
  refine held_one (i := 5) rfl (by kernel_rfl) (fun K hK => ?_)
  go_simp
  refine hK.out _ _ (fun _ => hS0.alloc _) ?_
  clear hK K
  try simp only [Act.put, List.setIfInBounds_toArray, List.set_cons_zero, List.set_cons_succ]
  refine held_one (i := 6) rfl (by kernel_rfl) (fun K hK => ?_)
  go_simp
  have HC := Lib.hid (numbers_new [r.last] (by intro z hz; simp only [List.mem_cons, List.not_mem_nil, or_false] at hz; rcases hz with rfl <;> assumption) (by simp) wa u7 _ KA.out (Nat.le_trans HB0.out RA.out.kp.size) (HEW.out _ _ (RA.out)))
  refine HC.out.mono ?_; rintro e w8 ⟨rfl, u8, k1, k2⟩
  have K8 := Lib.hid k1; have R8 := Lib.hid (RA.out.trans k2)
  refine hK.out _ _ (fun _ => HBK.out _ _ R8.out) ?_
  clear hK K k1 k2 HC KA RA hS0
  try simp only [Act.put, List.setIfInBounds_toArray, List.set_cons_zero, List.set_cons_succ]
  refine held_done (by kernel_rfl) ?_ _
  have HC := Lib.hid (word_any wStep (by decide) w8 u8 _ K8.out (Nat.le_trans HB0.out R8.out.kp.size))
  go_wp2_with fail
  refine HC.out.mono ?_; rintro e w9 ⟨rfl, u9, k1, k2⟩
  have K9 := Lib.hid k1; have R9 := Lib.hid (R8.out.trans k2)
  clear k1 k2 HC K8 R8
  go_upto_region 10 with fail
  refine wp_region_any (by kernel_rfl) ?_
  have KA := Lib.hid K9.out.drew; have RA := Lib.hid R9.out.drew
  have hS0 : Blk w9.drew w.heap.size 40 [.string ⟨r.name.toArray⟩, .int .i64 r.x, .int .i64 r.y, .int .i64 r.first, .int .i64 r.last, .int .i64 r.step, .slice p n cap, .int .i64 r.pos] := HBK.out _ _ RA.out
  refine any_of_held (S := fun W => Blk W w.heap.size 40 [.string ⟨r.name.toArray⟩, .int .i64 r.x, .int .i64 r.y, .int .i64 r.first, .int .i64 r.last, .int .i64 r.step, .slice p n cap, .int .i64 r.pos]) (N := []) _ _ _ _ ?_
  change held _ _ _ _ _ _ _ _ _ w9.drew
  obtain ⟨wa, hwa⟩ : ∃ wa, w9.drew = wa := ⟨_, rfl⟩
  rw [hwa] at hS0 KA RA ⊢
  clear hwa K9 R9
  refine held_take [] (i := 0) (v := .pointer (some ⟨b, 0, none⟩)) rfl (by kernel_rfl) (fun _ _ _ h => h) (Or.inl ⟨by rfl, fun w' hS => by go_simp⟩) hS0 ?_
  try simp only [Act.put, List.setIfInBounds_toArray, List.set_cons_zero, List.set_cons_succ]
  refine held_take [] (i := 1) (v := .pointer (some ⟨b, 0, none⟩)) rfl (by kernel_rfl) (fun _ _ _ h => h) (Or.inl ⟨by rfl, fun w' hS => by go_simp⟩) hS0 ?_
  try simp only [Act.put, List.setIfInBounds_toArray, List.set_cons_zero, List.set_cons_succ]
  refine held_take [] (i := 2) (v := .pointer (some ⟨b, 0, none⟩)) rfl (by kernel_rfl) (fun _ _ _ h => h) (Or.inl ⟨by rfl, fun w' hS => by go_simp⟩) hS0 ?_
  try simp only [Act.put, List.setIfInBounds_toArray, List.set_cons_zero, List.set_cons_succ]
  refine held_take [] (i := 3) (v := .pointer (some ⟨w.heap.size, 5, none⟩)) rfl (by kernel_rfl) (fun _ _ _ h => h) (Or.inl ⟨by rfl, fun w' hS => by go_simp⟩) hS0 ?_
  try simp only [Act.put, List.setIfInBounds_toArray, List.set_cons_zero, List.set_cons_succ]
  refine held_take [] (i := 4) (v := .int .i64 r.step) rfl (by kernel_rfl) (fun _ _ _ h => h) (Or.inl ⟨by rfl, fun w' hS => by have hc := hS.cell (i := 5) rfl; go_simp⟩) hS0 ?_
  try simp only [Act.put, List.setIfInBounds_toArray, List.set_cons_zero, List.set_cons_succ]
  refine held_one (i := 5) rfl (by kernel_rfl) (fun K hK => ?_)
  go_simp
  refine hK.out _ _ (fun _ => hS0.alloc _) ?_
  clear hK K
  try simp only [Act.put, List.setIfInBounds_toArray, List.set_cons_zero, List.set_cons_succ]
  refine held_one (i := 6) rfl (by kernel_rfl) (fun K hK => ?_)
  go_simp
  have HC := Lib.hid (numbers_new [r.step] (by intro z hz; simp only [List.mem_cons, List.not_mem_nil, or_false] at hz; rcases hz with rfl <;> assumption) (by simp) wa u9 _ KA.out (Nat.le_trans HB0.out RA.out.kp.size) (HEW.out _ _ (RA.out)))
  refine HC.out.mono ?_; rintro e w10 ⟨rfl, u10, k1, k2⟩
  have K10 := Lib.hid k1; have R10 := Lib.hid (RA.out.trans k2)
  refine hK.out _ _ (fun _ => HBK.out _ _ R10.out) ?_
  clear hK K k1 k2 HC KA RA hS0
  try simp only [Act.put, List.setIfInBounds_toArray, List.set_cons_zero, List.set_cons_succ]
  refine held_done (by kernel_rfl) ?_ _
  obtain ⟨S1, hS⟩ : ∃ S, numbersS [r.step] (wordS wStep (numbersS [r.last] (wordS wTo (numbersS [r.first] (wordS wSeats (numbersS [r.x, r.y] (wordS wAt (namesS [r.name] (wordS wRow (s)))))))))) = S := ⟨_, rfl⟩
  have HS1 := Lib.hid hS
  replace K10 : Hid (WR B b T w10 u10 S1) := Lib.hid (by rw [← hS]; exact K10.out)
  clear hS
  have cf := (HBK.out _ _ R10.out).cell (i := 6) rfl
  go_wp2
  go_loopw [66] (fun i wr => ∃ (k : Nat) (uo : Value), i = .int .i64 k ∧ k ≤ n ∧ Hid (WR B b T wr uo ((r.marks.take k).foldl (fun s x => markS x s) (S1))) ∧ Hid (Wrote b w0 u0 wr uo)) (fun i _ => n - (intOf i).toNat)
  case atStart => exact ⟨0, u10, rfl, Nat.zero_le _, Lib.hid (by rw [List.take_zero, List.foldl_nil]; exact K10.out), R10⟩
  case round =>
    have hnb : n ≤ 9223372036854775807 := by have := HL.out.len.2; unfold maxLen at this; omega
    obtain ⟨k, uo, rfl, hk, HV, HR⟩ := hrel
    clear cf
    have cf := (HBK.out _ _ HR.out).cell (i := 6) rfl
    by_cases hkn : k < n
    · obtain ⟨x, hx⟩ : ∃ x, r.marks[k]? = some x := ⟨_, List.getElem?_eq_getElem (by have := HL.out.len.1; omega)⟩
      have hm := List.mem_of_getElem? hx
      have hst := take_fold (fun s x => markS x s) r.marks (S1) hx
      obtain ⟨t, ht⟩ : ∃ t, (r.marks.take k).foldl (fun s x => markS x s) (S1) = t := ⟨_, rfl⟩
      rw [ht] at hst HV
      obtain ⟨lb, lo, c, rfl, hlb, hc, hcell⟩ := (HL.out.below (HIN.out _ _ HR.out)).at hx
      obtain rfl := hc
      obtain ⟨kind, seat, other⟩ := x
      have d0 := hcell 0 _ rfl
      have d1 := hcell 1 _ rfl
      have d2 := hcell 2 _ rfl
      rw [show markL.size = 3 from rfl] at d0 d1 d2
      rw [Nat.add_zero] at d0
      have hki : (0 : Int) ≤ k ∧ (k : Int) < n := by omega
      go_wp2_with fail
      have hbe : Below wr.heap.size wr (wr.alloc (.cells #[.int .i64 kind, .int .i64 seat, .int .i64 other] 72)) := (Below.refl _ _).alloc (Nat.le_refl _) _
      have hbB : B ≤ wr.heap.size := Nat.le_trans HB0.out HR.out.kp.size
      have HRE : Hid (Wrote b w0 u0 (wr.alloc (.cells #[.int .i64 kind, .int .i64 seat, .int .i64 other] 72)) uo) := Lib.hid (HR.out.trans ((Wrote.refl b _ uo).later hbe))
      have K100 := Lib.hid (HV.out.later hbe); have HB1 : Hid (B ≤ (wr.alloc (.cells #[.int .i64 kind, .int .i64 seat, .int .i64 other] 72)).heap.size) := Lib.hid (Nat.le_trans hbB hbe.size)
      have HBE : Hid (∀ w' v', Wrote b (wr.alloc (.cells #[.int .i64 kind, .int .i64 seat, .int .i64 other] 72)) uo w' v' → Blk w' wr.heap.size 72 [.int .i64 kind, .int .i64 seat, .int .i64 other]) := Lib.hid fun w' v' k => (k.kept (k := wr.heap.size) (by simp) (by have := HV.out.lt; omega) (fun e => by have := (HV.out.vlow e).2; omega)).1.trans (Blk.new wr 72 [.int .i64 kind, .int .i64 seat, .int .i64 other])
      obtain ⟨w100, hw100⟩ : ∃ w100, (wr.alloc (.cells #[.int .i64 kind, .int .i64 seat, .int .i64 other] 72)) = w100 := ⟨_, rfl⟩
      rw [hw100] at HRE K100 HB1 HBE
      have R100 := Lib.hid (Wrote.refl b w100 uo)
      have HST := Lib.hid hst
      clear hx hst ht hcell hbe hlb hbB
      have HC := Lib.hid (mark_any kind seat other (h7 _ hm) w100 uo t K100.out (Nat.le_trans HB1.out R100.out.kp.size) (HEW.out _ _ (HRE.out.trans R100.out)))
      try rw [hw100]
      refine HC.out.mono ?_; rintro e w101 ⟨rfl, u101, k1, k2⟩
      have K101 := Lib.hid k1; have R101 := Lib.hid (R100.out.trans k2)
      clear k1 k2 HC K100 R100
      have RZ := Lib.hid (HRE.out.trans R101.out)
      clear HRE cf d0 d1 d2
      have cf := (HBK.out _ _ RZ.out).cell (i := 6) rfl
      go_wp2
      go_roundw
      case rel => exact ⟨k + 1, u101, by go_num, by omega, by rw [HST.out]; exact K101, RZ⟩
      case measure => simp [intOf]; omega
    · have hkn2 : k = n := by omega
      subst hkn2
      rw [show r.marks.take k = r.marks from List.take_of_length_le (by have := HL.out.len.1; omega)] at HV
      clear cf hkn hk hnb
      obtain ⟨u11, hu11⟩ : ∃ u, u = uo := ⟨uo, rfl⟩
      rw [← hu11] at HV HR
      generalize wr = w11 at *
      have K11 := HV; have R11 := HR
      clear HV HR K10 R10 hu11
      have HC := Lib.hid (line_any [59] (by decide) w11 u11 _ K11.out (Nat.le_trans HB0.out R11.out.kp.size))
      go_wp2_with fail
      refine HC.out.mono ?_; rintro e w12 ⟨rfl, u12, k1, k2⟩
      have K12 := Lib.hid k1; have R12 := Lib.hid (R11.out.trans k2)
      clear k1 k2 HC K11 R11
      have HE : Hid (rowS r s = lineS [59] (r.marks.foldl (fun s x => markS x s) (S1))) := Lib.hid (by rw [← HS1.out]; rfl)
      go_wp2
      go_end0
      subst hu0
      exact ⟨rfl, u12, by rw [HE.out]; exact K12.out, HFIN.out _ _ R12.out⟩
end Go.Proofs.YtilfpnkcgjonhaaGreatDoor.Pr
