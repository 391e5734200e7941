/-
  The walks of boxes.
  The walks of marks.
  The walks of areas.
  The walks of rows.
  The walks of blocks.
  The walks of levels.
  The walks of halls.
  The walk of printer.Hall.
-/
import Derived.Test.YtilfpnkcgjonhaaGreatDoorZReads
import Derived.Test.YtilfpnkcgjonhaaGreatDoorZRound
namespace Go.Proofs.YtilfpnkcgjonhaaGreatDoor.Pr
open Go.RowKit Go.Sort Foyer.Printer Foyer.Lexer Foyer.Round
set_option linter.unusedSimpArgs false in
set_option maxRecDepth 100000 in
set_option maxHeartbeats 4000000 in
theorem box_any {B b : Nat} {T : TypeId} (x : BoxZ) (hx : BoxZ.Fit x) (w : World) (v : Value) (s : St) (h : WR B b T w v s) (hB : B ≤ w.heap.size) (hE : EnvAt B w) :
  Calls Tryz.prog 71 #[.pointer (some ⟨b, 0, none⟩), .agg #[.int .i64 x.x, .int .i64 x.y, .int .i64 x.x2, .int .i64 x.y2]] w fun e w' => e = .returned (.tuple #[]) ∧ Step B b T w v (boxS x s) w' := by
 have hb0 : Below w.heap.size w (w.alloc (.cells #[.int .i64 x.x, .int .i64 x.y, .int .i64 x.x2, .int .i64 x.y2] 74)) := (Below.refl _ _).alloc (Nat.le_refl _) _
 have hR : Wrote b w v (w.alloc (.cells #[.int .i64 x.x, .int .i64 x.y, .int .i64 x.x2, .int .i64 x.y2] 74)) v := (Wrote.refl b _ v).later hb0
 have HBK : Hid (∀ w' v', Wrote b (w.alloc (.cells #[.int .i64 x.x, .int .i64 x.y, .int .i64 x.x2, .int .i64 x.y2] 74)) v w' v' → Blk w' w.heap.size 74 [.int .i64 x.x, .int .i64 x.y, .int .i64 x.x2, .int .i64 x.y2]) := hid fun w' v' k => (k.kept (k := w.heap.size) (by simp) (by have := h.lt; omega) (fun e => by have := (h.vlow e).2; omega)).1.trans (Blk.new w 74 [.int .i64 x.x, .int .i64 x.y, .int .i64 x.x2, .int .i64 x.y2])
 have HB0 : Hid (B ≤ (w.alloc (.cells #[.int .i64 x.x, .int .i64 x.y, .int .i64 x.x2, .int .i64 x.y2] 74)).heap.size) := hid (by simp; omega)
 have HEW : Hid (∀ w' v', Wrote b (w.alloc (.cells #[.int .i64 x.x, .int .i64 x.y, .int .i64 x.x2, .int .i64 x.y2] 74)) v w' v' → EnvAt B w') := hid fun w' v' k => hE.below ((hb0.mono hB).trans ((h.later hb0).wrote (by simp; omega) k))
 have HIN : Hid (∀ w' v', Wrote b (w.alloc (.cells #[.int .i64 x.x, .int .i64 x.y, .int .i64 x.x2, .int .i64 x.y2] 74)) v w' v' → Below B w w') := hid fun w' v' k => (hb0.mono hB).trans ((h.later hb0).wrote (by simp; omega) k)
 have K0 := hid (h.later hb0)
 have HFIN : Hid (∀ w' v', Wrote b (w.alloc (.cells #[.int .i64 x.x, .int .i64 x.y, .int .i64 x.x2, .int .i64 x.y2] 74)) v w' v' → Wrote b w v w' v') := hid fun w' v' k => hR.trans k
 obtain ⟨w0, hw0⟩ : ∃ w0, w.alloc (.cells #[.int .i64 x.x, .int .i64 x.y, .int .i64 x.x2, .int .i64 x.y2] 74) = w0 := ⟨_, rfl⟩
 obtain ⟨u0, hu0⟩ : ∃ u0, u0 = v := ⟨v, rfl⟩
 rw [hw0] at HBK HB0 HEW HIN HFIN K0
 rw [← hu0] at HBK HEW HIN HFIN K0
 have R0 := hid (Wrote.refl b w0 u0)
 clear h hb0 hR hE hB
 go_enter Tryz.func71, Tryz.ntmps71
 go_upto_region 1 with fail
 try rw [hw0]
 refine wp_region_any (by kernel_rfl) ?_
 have KA := hid K0.out.drew; have RA := hid R0.out.drew
 have hS0 : Blk w0.drew w.heap.size 74 [.int .i64 x.x, .int .i64 x.y, .int .i64 x.x2, .int .i64 x.y2] := HBK.out _ _ RA.out
 refine any_of_held (S := fun W => Blk W w.heap.size 74 [.int .i64 x.x, .int .i64 x.y, .int .i64 x.x2, .int .i64 x.y2]) (N := []) _ _ _ _ ?_
 change held _ _ _ _ _ _ _ _ _ w0.drew
 obtain ⟨wa, hwa⟩ : ∃ wa, w0.drew = wa := ⟨_, rfl⟩
 rw [hwa] at hS0 KA RA ⊢
 clear hwa K0 R0
 refine held_take [] (i := 0) (v := .pointer (some ⟨b, 0, none⟩)) rfl (by kernel_rfl) (fun _ _ _ h => h) (Or.inl ⟨by rfl, fun w' hS => by go_simp⟩) hS0 ?_
 try simp only [Act.put, aA, aB, aC]
 refine held_take [] (i := 1) (v := .pointer (some ⟨b, 0, none⟩)) rfl (by kernel_rfl) (fun _ _ _ h => h) (Or.inl ⟨by rfl, fun w' hS => by go_simp⟩) hS0 ?_
 try simp only [Act.put, aA, aB, aC]
 refine held_take [] (i := 2) (v := .pointer (some ⟨b, 0, none⟩)) rfl (by kernel_rfl) (fun _ _ _ h => h) (Or.inl ⟨by rfl, fun w' hS => by go_simp⟩) hS0 ?_
 try simp only [Act.put, aA, aB, aC]
 refine held_take [] (i := 3) (v := .pointer (some ⟨w.heap.size, 0, none⟩)) rfl (by kernel_rfl) (fun _ _ _ h => h) (Or.inl ⟨by rfl, fun w' hS => by go_simp⟩) hS0 ?_
 try simp only [Act.put, aA, aB, aC]
 refine held_take [] (i := 4) (v := .int .i64 x.x) rfl (by kernel_rfl) (fun _ _ _ h => h) (Or.inl ⟨by rfl, fun w' hS => by have hc := hS.cell (i := 0) rfl; go_simp⟩) hS0 ?_
 try simp only [Act.put, aA, aB, aC]
 refine held_take [] (i := 5) (v := .pointer (some ⟨w.heap.size, 1, none⟩)) rfl (by kernel_rfl) (fun _ _ _ h => h) (Or.inl ⟨by rfl, fun w' hS => by go_simp⟩) hS0 ?_
 try simp only [Act.put, aA, aB, aC]
 refine held_take [] (i := 6) (v := .int .i64 x.y) rfl (by kernel_rfl) (fun _ _ _ h => h) (Or.inl ⟨by rfl, fun w' hS => by have hc := hS.cell (i := 1) rfl; go_simp⟩) hS0 ?_
 try simp only [Act.put, aA, aB, aC]
 refine held_take [] (i := 7) (v := .pointer (some ⟨w.heap.size, 2, none⟩)) rfl (by kernel_rfl) (fun _ _ _ h => h) (Or.inl ⟨by rfl, fun w' hS => by go_simp⟩) hS0 ?_
 try simp only [Act.put, aA, aB, aC]
 refine held_take [] (i := 8) (v := .int .i64 x.x2) rfl (by kernel_rfl) (fun _ _ _ h => h) (Or.inl ⟨by rfl, fun w' hS => by have hc := hS.cell (i := 2) rfl; go_simp⟩) hS0 ?_
 try simp only [Act.put, aA, aB, aC]
 refine held_take [] (i := 9) (v := .pointer (some ⟨w.heap.size, 3, none⟩)) rfl (by kernel_rfl) (fun _ _ _ h => h) (Or.inl ⟨by rfl, fun w' hS => by go_simp⟩) hS0 ?_
 try simp only [Act.put, aA, aB, aC]
 refine held_take [] (i := 10) (v := .int .i64 x.y2) rfl (by kernel_rfl) (fun _ _ _ h => h) (Or.inl ⟨by rfl, fun w' hS => by have hc := hS.cell (i := 3) rfl; go_simp⟩) hS0 ?_
 try simp only [Act.put, aA, aB, aC]
 refine held_one (i := 11) rfl (by kernel_rfl) (fun K hK => ?_)
 go_simp
 refine hK.out _ _ (fun _ => hS0.alloc _) ?_
 clear hK K
 try simp only [Act.put, aA, aB, aC]
 refine held_one (i := 12) rfl (by kernel_rfl) (fun K hK => ?_)
 go_simp
 have HC := hid (numbers_new [x.x, x.y, x.x2, x.y2] (by intro z hz; simp only [List.mem_cons, List.not_mem_nil, or_false] at hz; rcases hz with rfl | rfl | rfl | rfl; exact hx.1; exact hx.2.1; exact hx.2.2.1; exact hx.2.2.2) (by simp) wa u0 _ KA.out (Nat.le_trans HB0.out RA.out.kp.size) (HEW.out _ _ RA.out))
 refine HC.out.mono ?_; rintro e w1 ⟨rfl, u1, k1, k2⟩
 have K1 := hid k1; have R1 := hid (RA.out.trans k2)
 refine hK.out _ _ (fun _ => HBK.out _ _ R1.out) ?_
 clear hK K k1 k2 HC KA RA hS0
 try simp only [Act.put, aA, aB, aC]
 refine held_done (by kernel_rfl) ?_ _
 go_wp2
 go_end0
 subst hu0
 exact ⟨rfl, u1, K1.out, HFIN.out _ _ R1.out⟩
end Go.Proofs.YtilfpnkcgjonhaaGreatDoor.Pr
namespace Go.Proofs.YtilfpnkcgjonhaaGreatDoor.Pr
open Go.RowKit Go.Sort Foyer.Printer Foyer.Lexer Foyer.Round
set_option linter.unusedSimpArgs false in
set_option maxRecDepth 100000 in
set_option maxHeartbeats 4000000 in
theorem mark_any {B b : Nat} {T : TypeId} (kind seat other : Int) (hx : MarkZ.Fit ⟨kind, seat, other⟩) (w : World) (v : Value) (s : St) (h : WR B b T w v s) (hB : B ≤ w.heap.size) (hE : EnvAt B w) :
  Calls Tryz.prog 135 #[.pointer (some ⟨b, 0, none⟩), .agg #[.int .i64 kind, .int .i64 seat, .int .i64 other]] w fun e w' => e = .returned (.tuple #[]) ∧ Step B b T w v (markS ⟨kind, seat, other⟩ s) w' := by
 have hb0 : Below w.heap.size w (w.alloc (.cells #[.int .i64 kind, .int .i64 seat, .int .i64 other] 72)) := (Below.refl _ _).alloc (Nat.le_refl _) _
 have hR : Wrote b w v (w.alloc (.cells #[.int .i64 kind, .int .i64 seat, .int .i64 other] 72)) v := (Wrote.refl b _ v).later hb0
 have HBK : Hid (∀ w' v', Wrote b (w.alloc (.cells #[.int .i64 kind, .int .i64 seat, .int .i64 other] 72)) v w' v' → Blk w' w.heap.size 72 [.int .i64 kind, .int .i64 seat, .int .i64 other]) := hid fun w' v' k => (k.kept (k := w.heap.size) (by simp) (by have := h.lt; omega) (fun e => by have := (h.vlow e).2; omega)).1.trans (Blk.new w 72 [.int .i64 kind, .int .i64 seat, .int .i64 other])
 have HB0 : Hid (B ≤ (w.alloc (.cells #[.int .i64 kind, .int .i64 seat, .int .i64 other] 72)).heap.size) := hid (by simp; omega)
 have HEW : Hid (∀ w' v', Wrote b (w.alloc (.cells #[.int .i64 kind, .int .i64 seat, .int .i64 other] 72)) v w' v' → EnvAt B w') := hid fun w' v' k => hE.below ((hb0.mono hB).trans ((h.later hb0).wrote (by simp; omega) k))
 have HIN : Hid (∀ w' v', Wrote b (w.alloc (.cells #[.int .i64 kind, .int .i64 seat, .int .i64 other] 72)) v w' v' → Below B w w') := hid fun w' v' k => (hb0.mono hB).trans ((h.later hb0).wrote (by simp; omega) k)
 have K0 := hid (h.later hb0)
 have HFIN : Hid (∀ w' v', Wrote b (w.alloc (.cells #[.int .i64 kind, .int .i64 seat, .int .i64 other] 72)) v w' v' → Wrote b w v w' v') := hid fun w' v' k => hR.trans k
 obtain ⟨w0, hw0⟩ : ∃ w0, w.alloc (.cells #[.int .i64 kind, .int .i64 seat, .int .i64 other] 72) = w0 := ⟨_, rfl⟩
 obtain ⟨u0, hu0⟩ : ∃ u0, u0 = v := ⟨v, rfl⟩
 rw [hw0] at HBK HB0 HEW HIN HFIN K0
 rw [← hu0] at HBK HEW HIN HFIN K0
 have R0 := hid (Wrote.refl b w0 u0)
 clear h hb0 hR hE hB
 go_enter Tryz.func135, Tryz.ntmps135
 go_upto_region 2 with fail
 try rw [hw0]
 have hbq : Below w0.heap.size w0 (w0.alloc (.cells (strCells' markWords).toArray 223)) := (Below.refl _ _).alloc (Nat.le_refl _) _
 have HQ0 : Hid (Blk (w0.alloc (.cells (strCells' markWords).toArray 223)) w0.heap.size 223 (strCells' markWords)) := hid (Blk.new _ _ _)
 have hq1 : w0.heap.size ≠ b := by have := K0.out.lt; omega
 have hq2 : u0.ownBlock ≠ some w0.heap.size := fun e => by have := (K0.out.vlow e).2; omega
 have HQ1 := hid hq1; have HQ2 := hid hq2
 have K1 := hid (K0.out.later hbq); have R1 : Hid (Wrote b w0 u0 _ u0) := hid (R0.out.trans ((Wrote.refl b _ u0).later hbq))
 obtain ⟨q, hq⟩ : ∃ q, w0.heap.size = q := ⟨_, rfl⟩
 change Code.wp _ _ _ _ (w0.alloc (.cells (strCells' markWords).toArray 223))
 generalize w0.alloc (.cells (strCells' markWords).toArray 223) = w1 at *
 rw [hq] at HQ0 HQ1 HQ2
 try rw [hq]
 clear hbq hq1 hq2 K0 R0
 refine wp_region_any (by kernel_rfl) ?_
 have hQ : Blk w1.drew q 223 (strCells' markWords) := HQ0.out
 have KA := hid K1.out.drew; have RA := hid R1.out.drew
 have hS0 : Blk w1.drew w.heap.size 72 [.int .i64 kind, .int .i64 seat, .int .i64 other] := HBK.out _ _ RA.out
 refine any_of_held (S := fun W => Blk W w.heap.size 72 [.int .i64 kind, .int .i64 seat, .int .i64 other]) (N := []) _ _ _ _ ?_
 change held _ _ _ _ _ _ _ _ _ w1.drew
 obtain ⟨wa, hwa⟩ : ∃ wa, w1.drew = wa := ⟨_, rfl⟩
 rw [hwa] at hS0 KA RA hQ ⊢
 clear hwa K1 R1
 refine held_take [] (i := 0) (v := .pointer (some ⟨b, 0, none⟩)) rfl (by kernel_rfl) (fun _ _ _ h => h) (Or.inl ⟨by rfl, fun w' hS => by go_simp⟩) hS0 ?_
 try simp only [Act.put, aA, aB, aC]
 refine held_take [] (i := 1) (v := .pointer (some ⟨b, 0, none⟩)) rfl (by kernel_rfl) (fun _ _ _ h => h) (Or.inl ⟨by rfl, fun w' hS => by go_simp⟩) hS0 ?_
 try simp only [Act.put, aA, aB, aC]
 refine held_take [] (i := 2) (v := .pointer (some ⟨b, 0, none⟩)) rfl (by kernel_rfl) (fun _ _ _ h => h) (Or.inl ⟨by rfl, fun w' hS => by go_simp⟩) hS0 ?_
 try simp only [Act.put, aA, aB, aC]
 refine held_take [] (i := 3) (v := .slice (some ⟨q, 0, none⟩) 5 5) rfl (by kernel_rfl) (fun _ _ _ h => h) (Or.inl ⟨by rfl, fun w' hS => by go_simp⟩) hS0 ?_
 try simp only [Act.put, aA, aB, aC]
 refine held_take [] (i := 4) (v := .pointer (some ⟨w.heap.size, 0, none⟩)) rfl (by kernel_rfl) (fun _ _ _ h => h) (Or.inl ⟨by rfl, fun w' hS => by go_simp⟩) hS0 ?_
 try simp only [Act.put, aA, aB, aC]
 refine held_take [] (i := 5) (v := .int .i64 kind) rfl (by kernel_rfl) (fun _ _ _ h => h) (Or.inl ⟨by rfl, fun w' hS => by have hc := hS.cell (i := 0) rfl; go_simp⟩) hS0 ?_
 try simp only [Act.put, aA, aB, aC]
 refine held_one (i := 6) rfl (by kernel_rfl) (fun K hK => ?_)
 go_simp
 have HC := hid (oneOf_any markWords (by decide) kind hx.1 q _ wa u0 _ KA.out (Nat.le_trans HB0.out RA.out.kp.size) HQ1.out HQ2.out hQ)
 refine HC.out.mono ?_; rintro e w2 ⟨rfl, u2, k1, k2⟩
 have K2 := hid k1; have R2 := hid (RA.out.trans k2)
 refine hK.out _ _ (fun _ => HBK.out _ _ R2.out) ?_
 clear hK K k1 k2 HC KA RA hS0 hQ
 try simp only [Act.put, aA, aB, aC]
 refine held_done (by kernel_rfl) ?_ _
 clear HQ0 HQ1 HQ2
 go_upto_region 3 with fail
 refine wp_region_any (by kernel_rfl) ?_
 have KA := hid K2.out.drew; have RA := hid R2.out.drew
 have hS0 : Blk w2.drew w.heap.size 72 [.int .i64 kind, .int .i64 seat, .int .i64 other] := HBK.out _ _ RA.out
 refine any_of_held (S := fun W => Blk W w.heap.size 72 [.int .i64 kind, .int .i64 seat, .int .i64 other]) (N := []) _ _ _ _ ?_
 change held _ _ _ _ _ _ _ _ _ w2.drew
 obtain ⟨wa, hwa⟩ : ∃ wa, w2.drew = wa := ⟨_, rfl⟩
 rw [hwa] at hS0 KA RA ⊢
 clear hwa K2 R2
 refine held_take [] (i := 0) (v := .pointer (some ⟨b, 0, none⟩)) rfl (by kernel_rfl) (fun _ _ _ h => h) (Or.inl ⟨by rfl, fun w' hS => by go_simp⟩) hS0 ?_
 try simp only [Act.put, aA, aB, aC]
 refine held_take [] (i := 1) (v := .pointer (some ⟨b, 0, none⟩)) rfl (by kernel_rfl) (fun _ _ _ h => h) (Or.inl ⟨by rfl, fun w' hS => by go_simp⟩) hS0 ?_
 try simp only [Act.put, aA, aB, aC]
 refine held_take [] (i := 2) (v := .pointer (some ⟨b, 0, none⟩)) rfl (by kernel_rfl) (fun _ _ _ h => h) (Or.inl ⟨by rfl, fun w' hS => by go_simp⟩) hS0 ?_
 try simp only [Act.put, aA, aB, aC]
 refine held_take [] (i := 3) (v := .pointer (some ⟨w.heap.size, 1, none⟩)) rfl (by kernel_rfl) (fun _ _ _ h => h) (Or.inl ⟨by rfl, fun w' hS => by go_simp⟩) hS0 ?_
 try simp only [Act.put, aA, aB, aC]
 refine held_take [] (i := 4) (v := .int .i64 seat) rfl (by kernel_rfl) (fun _ _ _ h => h) (Or.inl ⟨by rfl, fun w' hS => by have hc := hS.cell (i := 1) rfl; go_simp⟩) hS0 ?_
 try simp only [Act.put, aA, aB, aC]
 refine held_one (i := 5) rfl (by kernel_rfl) (fun K hK => ?_)
 go_simp
 refine hK.out _ _ (fun _ => hS0.alloc _) ?_
 clear hK K
 try simp only [Act.put, aA, aB, aC]
 refine held_one (i := 6) rfl (by kernel_rfl) (fun K hK => ?_)
 go_simp
 have HC := hid (numbers_new [seat] (by intro z hz; rw [List.mem_singleton] at hz; subst hz; exact hx.2.1) (by simp) wa u2 _ KA.out (Nat.le_trans HB0.out RA.out.kp.size) (HEW.out _ _ RA.out))
 refine HC.out.mono ?_; rintro e w3 ⟨rfl, u3, k1, k2⟩
 have K3 := hid k1; have R3 := hid (RA.out.trans k2)
 refine hK.out _ _ (fun _ => HBK.out _ _ R3.out) ?_
 clear hK K k1 k2 HC KA RA hS0
 try simp only [Act.put, aA, aB, aC]
 refine held_done (by kernel_rfl) ?_ _
 have hbk := (HBK.out _ _ R3.out).cell (i := 0) rfl
 by_cases hk : kind = 4
 ·subst hk
  have hs : Hid (markS ⟨4, seat, other⟩ s = numbersS [other] (wordS wOf (numbersS [seat] (oneOfS markWords 4 s)))) := hid rfl
  have HC := hid (word_any wOf (by decide) w3 u3 _ K3.out (Nat.le_trans HB0.out R3.out.kp.size))
  go_wp2_with fail
  refine HC.out.mono ?_; rintro e w4 ⟨rfl, u4, k1, k2⟩
  have K4 := hid k1; have R4 := hid (R3.out.trans k2)
  clear k1 k2 HC K3 R3
  go_upto_region 7 with fail
  refine wp_region_any (by kernel_rfl) ?_
  have KA := hid K4.out.drew; have RA := hid R4.out.drew
  have hS0 : Blk w4.drew w.heap.size 72 [.int .i64 4, .int .i64 seat, .int .i64 other] := HBK.out _ _ RA.out
  refine any_of_held (S := fun W => Blk W w.heap.size 72 [.int .i64 4, .int .i64 seat, .int .i64 other]) (N := []) _ _ _ _ ?_
  change held _ _ _ _ _ _ _ _ _ w4.drew
  obtain ⟨wa, hwa⟩ : ∃ wa, w4.drew = wa := ⟨_, rfl⟩
  rw [hwa] at hS0 KA RA ⊢
  clear hwa K4 R4
  refine held_take [] (i := 0) (v := .pointer (some ⟨b, 0, none⟩)) rfl (by kernel_rfl) (fun _ _ _ h => h) (Or.inl ⟨by rfl, fun w' hS => by go_simp⟩) hS0 ?_
  try simp only [Act.put, aA, aB, aC]
  refine held_take [] (i := 1) (v := .pointer (some ⟨b, 0, none⟩)) rfl (by kernel_rfl) (fun _ _ _ h => h) (Or.inl ⟨by rfl, fun w' hS => by go_simp⟩) hS0 ?_
  try simp only [Act.put, aA, aB, aC]
  refine held_take [] (i := 2) (v := .pointer (some ⟨b, 0, none⟩)) rfl (by kernel_rfl) (fun _ _ _ h => h) (Or.inl ⟨by rfl, fun w' hS => by go_simp⟩) hS0 ?_
  try simp only [Act.put, aA, aB, aC]
  refine held_take [] (i := 3) (v := .pointer (some ⟨w.heap.size, 2, none⟩)) rfl (by kernel_rfl) (fun _ _ _ h => h) (Or.inl ⟨by rfl, fun w' hS => by go_simp⟩) hS0 ?_
  try simp only [Act.put, aA, aB, aC]
  refine held_take [] (i := 4) (v := .int .i64 other) rfl (by kernel_rfl) (fun _ _ _ h => h) (Or.inl ⟨by rfl, fun w' hS => by have hc := hS.cell (i := 2) rfl; go_simp⟩) hS0 ?_
  try simp only [Act.put, aA, aB, aC]
  refine held_one (i := 5) rfl (by kernel_rfl) (fun K hK => ?_)
  go_simp
  refine hK.out _ _ (fun _ => hS0.alloc _) ?_
  clear hK K
  try simp only [Act.put, aA, aB, aC]
  refine held_one (i := 6) rfl (by kernel_rfl) (fun K hK => ?_)
  go_simp
  have HC := hid (numbers_new [other] (by intro z hz; rw [List.mem_singleton] at hz; subst hz; exact hx.2.2) (by simp) wa u4 _ KA.out (Nat.le_trans HB0.out RA.out.kp.size) (HEW.out _ _ RA.out))
  refine HC.out.mono ?_; rintro e w5 ⟨rfl, u5, k1, k2⟩
  have K5 := hid k1; have R5 := hid (RA.out.trans k2)
  refine hK.out _ _ (fun _ => HBK.out _ _ R5.out) ?_
  clear hK K k1 k2 HC KA RA hS0
  try simp only [Act.put, aA, aB, aC]
  refine held_done (by kernel_rfl) ?_ _
  go_wp2
  go_end0
  subst hu0
  exact ⟨rfl, u5, by rw [hs.out]; exact K5.out, HFIN.out _ _ R5.out⟩
 ·have hs : Hid (markS ⟨kind, seat, other⟩ s = requireS (decide (other = 0)) (numbersS [seat] (oneOfS markWords kind s))) := hid (by unfold markS; simp only [ne_eq, hk, not_false_eq_true, if_true])
  have hk0 : (kind == 4) = false := by rw [beq_eq_false_iff_ne]; exact hk
  go_upto_region 5 with fail
  refine wp_region_any (by kernel_rfl) ?_
  have KA := hid K3.out.drew; have RA := hid R3.out.drew
  have hS0 : Blk w3.drew w.heap.size 72 [.int .i64 kind, .int .i64 seat, .int .i64 other] := HBK.out _ _ RA.out
  refine any_of_held (S := fun W => Blk W w.heap.size 72 [.int .i64 kind, .int .i64 seat, .int .i64 other]) (N := []) _ _ _ _ ?_
  change held _ _ _ _ _ _ _ _ _ w3.drew
  obtain ⟨wa, hwa⟩ : ∃ wa, w3.drew = wa := ⟨_, rfl⟩
  rw [hwa] at hS0 KA RA ⊢
  clear hwa K3 R3
  refine held_take [] (i := 0) (v := .pointer (some ⟨b, 0, none⟩)) rfl (by kernel_rfl) (fun _ _ _ h => h) (Or.inl ⟨by rfl, fun w' hS => by go_simp⟩) hS0 ?_
  try simp only [Act.put, aA, aB, aC]
  refine held_take [] (i := 1) (v := .pointer (some ⟨b, 0, none⟩)) rfl (by kernel_rfl) (fun _ _ _ h => h) (Or.inl ⟨by rfl, fun w' hS => by go_simp⟩) hS0 ?_
  try simp only [Act.put, aA, aB, aC]
  refine held_take [] (i := 2) (v := .pointer (some ⟨b, 0, none⟩)) rfl (by kernel_rfl) (fun _ _ _ h => h) (Or.inl ⟨by rfl, fun w' hS => by go_simp⟩) hS0 ?_
  try simp only [Act.put, aA, aB, aC]
  refine held_take [] (i := 3) (v := .pointer (some ⟨w.heap.size, 2, none⟩)) rfl (by kernel_rfl) (fun _ _ _ h => h) (Or.inl ⟨by rfl, fun w' hS => by go_simp⟩) hS0 ?_
  try simp only [Act.put, aA, aB, aC]
  refine held_take [] (i := 4) (v := .int .i64 other) rfl (by kernel_rfl) (fun _ _ _ h => h) (Or.inl ⟨by rfl, fun w' hS => by have hc := hS.cell (i := 2) rfl; go_simp⟩) hS0 ?_
  try simp only [Act.put, aA, aB, aC]
  refine held_take [] (i := 5) (v := .bool (other == 0)) rfl (by kernel_rfl) (fun _ _ _ h => h) (Or.inl ⟨by rfl, fun w' hS => by go_simp⟩) hS0 ?_
  try simp only [Act.put, aA, aB, aC]
  refine held_one (i := 6) rfl (by kernel_rfl) (fun K hK => ?_)
  go_simp
  have HC := hid (require_s (decide (other = 0)) wa u3 _ KA.out)
  refine HC.out.mono ?_; rintro e w4 ⟨rfl, u4, k1, k2⟩
  have K4 := hid k1; have R4 := hid (RA.out.trans k2)
  refine hK.out _ _ (fun _ => HBK.out _ _ R4.out) ?_
  clear hK K k1 k2 HC KA RA hS0
  try simp only [Act.put, aA, aB, aC]
  refine held_done (by kernel_rfl) ?_ _
  go_wp2
  refine bodyPost_ret (results_none rfl _ _ _) rfl ?_
  subst hu0
  exact ⟨rfl, u4, by rw [hs.out]; exact K4.out, HFIN.out _ _ R4.out⟩
end Go.Proofs.YtilfpnkcgjonhaaGreatDoor.Pr
namespace Go.Proofs.YtilfpnkcgjonhaaGreatDoor.Pr
open Go.RowKit Go.Sort Foyer.Printer Foyer.Lexer Foyer.Round
set_option linter.unusedSimpArgs false in
set_option maxRecDepth 100000 in
set_option maxHeartbeats 4000000 in
theorem area_any {B b : Nat} {T : TypeId} (x : AreaZ) (hx : AreaZ.Fit x) (w : World) (v : Value) (s : St) (h : WR B b T w v s) (hB : B ≤ w.heap.size) (hE : EnvAt B w) :
  Calls Tryz.prog 70 #[.pointer (some ⟨b, 0, none⟩), .agg #[.string ⟨x.name.toArray⟩, .int .i64 x.box.x, .int .i64 x.box.y, .int .i64 x.box.x2, .int .i64 x.box.y2, .int .i64 x.holds, .int .i64 x.pos]] w fun e w' => e = .returned (.tuple #[]) ∧ Step B b T w v (areaS x s) w' := by
 have hb0 : Below w.heap.size w (w.alloc (.cells #[.string ⟨x.name.toArray⟩, .int .i64 x.box.x, .int .i64 x.box.y, .int .i64 x.box.x2, .int .i64 x.box.y2, .int .i64 x.holds, .int .i64 x.pos] 76)) := (Below.refl _ _).alloc (Nat.le_refl _) _
 have hR : Wrote b w v (w.alloc (.cells #[.string ⟨x.name.toArray⟩, .int .i64 x.box.x, .int .i64 x.box.y, .int .i64 x.box.x2, .int .i64 x.box.y2, .int .i64 x.holds, .int .i64 x.pos] 76)) v := (Wrote.refl b _ v).later hb0
 have HBK : Hid (∀ w' v', Wrote b (w.alloc (.cells #[.string ⟨x.name.toArray⟩, .int .i64 x.box.x, .int .i64 x.box.y, .int .i64 x.box.x2, .int .i64 x.box.y2, .int .i64 x.holds, .int .i64 x.pos] 76)) v w' v' → Blk w' w.heap.size 76 [.string ⟨x.name.toArray⟩, .int .i64 x.box.x, .int .i64 x.box.y, .int .i64 x.box.x2, .int .i64 x.box.y2, .int .i64 x.holds, .int .i64 x.pos]) := hid fun w' v' k => (k.kept (k := w.heap.size) (by simp) (by have := h.lt; omega) (fun e => by have := (h.vlow e).2; omega)).1.trans (Blk.new w 76 [.string ⟨x.name.toArray⟩, .int .i64 x.box.x, .int .i64 x.box.y, .int .i64 x.box.x2, .int .i64 x.box.y2, .int .i64 x.holds, .int .i64 x.pos])
 have HB0 : Hid (B ≤ (w.alloc (.cells #[.string ⟨x.name.toArray⟩, .int .i64 x.box.x, .int .i64 x.box.y, .int .i64 x.box.x2, .int .i64 x.box.y2, .int .i64 x.holds, .int .i64 x.pos] 76)).heap.size) := hid (by simp; omega)
 have HEW : Hid (∀ w' v', Wrote b (w.alloc (.cells #[.string ⟨x.name.toArray⟩, .int .i64 x.box.x, .int .i64 x.box.y, .int .i64 x.box.x2, .int .i64 x.box.y2, .int .i64 x.holds, .int .i64 x.pos] 76)) v w' v' → EnvAt B w') := hid fun w' v' k => hE.below ((hb0.mono hB).trans ((h.later hb0).wrote (by simp; omega) k))
 have HIN : Hid (∀ w' v', Wrote b (w.alloc (.cells #[.string ⟨x.name.toArray⟩, .int .i64 x.box.x, .int .i64 x.box.y, .int .i64 x.box.x2, .int .i64 x.box.y2, .int .i64 x.holds, .int .i64 x.pos] 76)) v w' v' → Below B w w') := hid fun w' v' k => (hb0.mono hB).trans ((h.later hb0).wrote (by simp; omega) k)
 have K0 := hid (h.later hb0)
 have HFIN : Hid (∀ w' v', Wrote b (w.alloc (.cells #[.string ⟨x.name.toArray⟩, .int .i64 x.box.x, .int .i64 x.box.y, .int .i64 x.box.x2, .int .i64 x.box.y2, .int .i64 x.holds, .int .i64 x.pos] 76)) v w' v' → Wrote b w v w' v') := hid fun w' v' k => hR.trans k
 obtain ⟨w0, hw0⟩ : ∃ w0, w.alloc (.cells #[.string ⟨x.name.toArray⟩, .int .i64 x.box.x, .int .i64 x.box.y, .int .i64 x.box.x2, .int .i64 x.box.y2, .int .i64 x.holds, .int .i64 x.pos] 76) = w0 := ⟨_, rfl⟩
 obtain ⟨u0, hu0⟩ : ∃ u0, u0 = v := ⟨v, rfl⟩
 rw [hw0] at HBK HB0 HEW HIN HFIN K0
 rw [← hu0] at HBK HEW HIN HFIN K0
 have R0 := hid (Wrote.refl b w0 u0)
 obtain ⟨hx1, hx2, hx3⟩ := hx
 clear h hb0 hR hE hB
 go_enter Tryz.func70, Tryz.ntmps70
 have HC := hid (word_any wArea (by decide) w0 u0 _ K0.out (Nat.le_trans HB0.out R0.out.kp.size))
 go_wp2_with fail
 try rw [hw0]
 refine HC.out.mono ?_; rintro e w1 ⟨rfl, u1, k1, k2⟩
 have K1 := hid k1; have R1 := hid (R0.out.trans k2)
 clear k1 k2 HC K0 R0
 go_upto_region 2 with fail
 refine wp_region_any (by kernel_rfl) ?_
 have KA := hid K1.out.drew; have RA := hid R1.out.drew
 have hS0 : Blk w1.drew w.heap.size 76 [.string ⟨x.name.toArray⟩, .int .i64 x.box.x, .int .i64 x.box.y, .int .i64 x.box.x2, .int .i64 x.box.y2, .int .i64 x.holds, .int .i64 x.pos] := HBK.out _ _ RA.out
 refine any_of_held (S := fun W => Blk W w.heap.size 76 [.string ⟨x.name.toArray⟩, .int .i64 x.box.x, .int .i64 x.box.y, .int .i64 x.box.x2, .int .i64 x.box.y2, .int .i64 x.holds, .int .i64 x.pos]) (N := []) _ _ _ _ ?_
 change held _ _ _ _ _ _ _ _ _ w1.drew
 obtain ⟨wa, hwa⟩ : ∃ wa, w1.drew = wa := ⟨_, rfl⟩
 rw [hwa] at hS0 KA RA ⊢
 clear hwa K1 R1
 refine held_take [] (i := 0) (v := .pointer (some ⟨b, 0, none⟩)) rfl (by kernel_rfl) (fun _ _ _ h => h) (Or.inl ⟨by rfl, fun w' hS => by go_simp⟩) hS0 ?_
 try simp only [Act.put, aA, aB, aC]
 refine held_take [] (i := 1) (v := .pointer (some ⟨b, 0, none⟩)) rfl (by kernel_rfl) (fun _ _ _ h => h) (Or.inl ⟨by rfl, fun w' hS => by go_simp⟩) hS0 ?_
 try simp only [Act.put, aA, aB, aC]
 refine held_take [] (i := 2) (v := .pointer (some ⟨b, 0, none⟩)) rfl (by kernel_rfl) (fun _ _ _ h => h) (Or.inl ⟨by rfl, fun w' hS => by go_simp⟩) hS0 ?_
 try simp only [Act.put, aA, aB, aC]
 refine held_take [] (i := 3) (v := .pointer (some ⟨w.heap.size, 0, none⟩)) rfl (by kernel_rfl) (fun _ _ _ h => h) (Or.inl ⟨by rfl, fun w' hS => by go_simp⟩) hS0 ?_
 try simp only [Act.put, aA, aB, aC]
 refine held_take [] (i := 4) (v := .string ⟨x.name.toArray⟩) rfl (by kernel_rfl) (fun _ _ _ h => h) (Or.inl ⟨by rfl, fun w' hS => by have hc := hS.cell (i := 0) rfl; go_simp⟩) hS0 ?_
 try simp only [Act.put, aA, aB, aC]
 refine held_one (i := 5) rfl (by kernel_rfl) (fun K hK => ?_)
 go_simp
 refine hK.out _ _ (fun _ => hS0.alloc _) ?_
 clear hK K
 try simp only [Act.put, aA, aB, aC]
 refine held_one (i := 6) rfl (by kernel_rfl) (fun K hK => ?_)
 go_simp
 have HC := hid (name_new x.name hx1 wa u1 _ KA.out (Nat.le_trans HB0.out RA.out.kp.size))
 refine HC.out.mono ?_; rintro e w2 ⟨rfl, u2, k1, k2⟩
 have K2 := hid k1; have R2 := hid (RA.out.trans k2)
 refine hK.out _ _ (fun _ => HBK.out _ _ R2.out) ?_
 clear hK K k1 k2 HC KA RA hS0
 try simp only [Act.put, aA, aB, aC]
 refine held_done (by kernel_rfl) ?_ _
 have cb := HBK.out _ _ R2.out
 have c1 := cb.cell (i := 1) rfl
 have c2 := cb.cell (i := 2) rfl
 have c3 := cb.cell (i := 3) rfl
 have c4 := cb.cell (i := 4) rfl
 clear cb
 have HC := hid (box_any x.box hx2 w2 u2 _ K2.out (Nat.le_trans HB0.out R2.out.kp.size) (HEW.out _ _ R2.out))
 go_wp2_with fail
 refine HC.out.mono ?_; rintro e w3 ⟨rfl, u3, k1, k2⟩
 have K3 := hid k1; have R3 := hid (R2.out.trans k2)
 clear k1 k2 HC K2 R2
 clear c1 c2 c3 c4
 have HC := hid (word_any wHolds (by decide) w3 u3 _ K3.out (Nat.le_trans HB0.out R3.out.kp.size))
 go_wp2_with fail
 refine HC.out.mono ?_; rintro e w4 ⟨rfl, u4, k1, k2⟩
 have K4 := hid k1; have R4 := hid (R3.out.trans k2)
 clear k1 k2 HC K3 R3
 go_upto_region 5 with fail
 refine wp_region_any (by kernel_rfl) ?_
 have KA := hid K4.out.drew; have RA := hid R4.out.drew
 have hS0 : Blk w4.drew w.heap.size 76 [.string ⟨x.name.toArray⟩, .int .i64 x.box.x, .int .i64 x.box.y, .int .i64 x.box.x2, .int .i64 x.box.y2, .int .i64 x.holds, .int .i64 x.pos] := HBK.out _ _ RA.out
 refine any_of_held (S := fun W => Blk W w.heap.size 76 [.string ⟨x.name.toArray⟩, .int .i64 x.box.x, .int .i64 x.box.y, .int .i64 x.box.x2, .int .i64 x.box.y2, .int .i64 x.holds, .int .i64 x.pos]) (N := []) _ _ _ _ ?_
 change held _ _ _ _ _ _ _ _ _ w4.drew
 obtain ⟨wa, hwa⟩ : ∃ wa, w4.drew = wa := ⟨_, rfl⟩
 rw [hwa] at hS0 KA RA ⊢
 clear hwa K4 R4
 refine held_take [] (i := 0) (v := .pointer (some ⟨b, 0, none⟩)) rfl (by kernel_rfl) (fun _ _ _ h => h) (Or.inl ⟨by rfl, fun w' hS => by go_simp⟩) hS0 ?_
 try simp only [Act.put, aA, aB, aC]
 refine held_take [] (i := 1) (v := .pointer (some ⟨b, 0, none⟩)) rfl (by kernel_rfl) (fun _ _ _ h => h) (Or.inl ⟨by rfl, fun w' hS => by go_simp⟩) hS0 ?_
 try simp only [Act.put, aA, aB, aC]
 refine held_take [] (i := 2) (v := .pointer (some ⟨b, 0, none⟩)) rfl (by kernel_rfl) (fun _ _ _ h => h) (Or.inl ⟨by rfl, fun w' hS => by go_simp⟩) hS0 ?_
 try simp only [Act.put, aA, aB, aC]
 refine held_take [] (i := 3) (v := .pointer (some ⟨w.heap.size, 5, none⟩)) rfl (by kernel_rfl) (fun _ _ _ h => h) (Or.inl ⟨by rfl, fun w' hS => by go_simp⟩) hS0 ?_
 try simp only [Act.put, aA, aB, aC]
 refine held_take [] (i := 4) (v := .int .i64 x.holds) rfl (by kernel_rfl) (fun _ _ _ h => h) (Or.inl ⟨by rfl, fun w' hS => by have hc := hS.cell (i := 5) rfl; go_simp⟩) hS0 ?_
 try simp only [Act.put, aA, aB, aC]
 refine held_one (i := 5) rfl (by kernel_rfl) (fun K hK => ?_)
 go_simp
 refine hK.out _ _ (fun _ => hS0.alloc _) ?_
 clear hK K
 try simp only [Act.put, aA, aB, aC]
 refine held_one (i := 6) rfl (by kernel_rfl) (fun K hK => ?_)
 go_simp
 have HC := hid (numbers_new [x.holds] (by intro z hz; simp only [List.mem_cons, List.not_mem_nil, or_false] at hz; rcases hz with rfl <;> assumption) (by simp) wa u4 _ KA.out (Nat.le_trans HB0.out RA.out.kp.size) (HEW.out _ _ RA.out))
 refine HC.out.mono ?_; rintro e w5 ⟨rfl, u5, k1, k2⟩
 have K5 := hid k1; have R5 := hid (RA.out.trans k2)
 refine hK.out _ _ (fun _ => HBK.out _ _ R5.out) ?_
 clear hK K k1 k2 HC KA RA hS0
 try simp only [Act.put, aA, aB, aC]
 refine held_done (by kernel_rfl) ?_ _
 have HC := hid (line_any [59] (by decide) w5 u5 _ K5.out (Nat.le_trans HB0.out R5.out.kp.size))
 go_wp2_with fail
 refine HC.out.mono ?_; rintro e w6 ⟨rfl, u6, k1, k2⟩
 have K6 := hid k1; have R6 := hid (R5.out.trans k2)
 clear k1 k2 HC K5 R5
 go_wp2
 go_end0
 subst hu0
 exact ⟨rfl, u6, K6.out, HFIN.out _ _ R6.out⟩
end Go.Proofs.YtilfpnkcgjonhaaGreatDoor.Pr
namespace Go.Proofs.YtilfpnkcgjonhaaGreatDoor.Pr
open Go.RowKit Go.Sort Foyer.Printer Foyer.Lexer Foyer.Round
set_option linter.unusedSimpArgs false in
set_option maxRecDepth 100000 in
set_option maxHeartbeats 4000000 in
theorem row_any {B b : Nat} {T : TypeId} (r : RowZ) (hr : RowZ.Fit r) (p : Option Addr) (n cap : Nat) (w : World) (v : Value) (s : St) (h : WR B b T w v s) (hB : B ≤ w.heap.size) (hE : EnvAt B w) (hm : Lk markL w B (.slice p n cap) r.marks) :
  Calls Tryz.prog 101 #[.pointer (some ⟨b, 0, none⟩), .agg #[.string ⟨r.name.toArray⟩, .int .i64 r.x, .int .i64 r.y, .int .i64 r.first, .int .i64 r.last, .int .i64 r.step, .slice p n cap, .int .i64 r.pos]] w fun e w' => e = .returned (.tuple #[]) ∧ Step B b T w v (rowS r s) w' := by
 have hb0 : Below w.heap.size w (w.alloc (.cells #[.string ⟨r.name.toArray⟩, .int .i64 r.x, .int .i64 r.y, .int .i64 r.first, .int .i64 r.last, .int .i64 r.step, .slice p n cap, .int .i64 r.pos] 40)) := (Below.refl _ _).alloc (Nat.le_refl _) _
 have hR : Wrote b w v (w.alloc (.cells #[.string ⟨r.name.toArray⟩, .int .i64 r.x, .int .i64 r.y, .int .i64 r.first, .int .i64 r.last, .int .i64 r.step, .slice p n cap, .int .i64 r.pos] 40)) v := (Wrote.refl b _ v).later hb0
 have HBK : Hid (∀ w' v', Wrote b (w.alloc (.cells #[.string ⟨r.name.toArray⟩, .int .i64 r.x, .int .i64 r.y, .int .i64 r.first, .int .i64 r.last, .int .i64 r.step, .slice p n cap, .int .i64 r.pos] 40)) v w' v' → Blk w' w.heap.size 40 [.string ⟨r.name.toArray⟩, .int .i64 r.x, .int .i64 r.y, .int .i64 r.first, .int .i64 r.last, .int .i64 r.step, .slice p n cap, .int .i64 r.pos]) := hid fun w' v' k => (k.kept (k := w.heap.size) (by simp) (by have := h.lt; omega) (fun e => by have := (h.vlow e).2; omega)).1.trans (Blk.new w 40 [.string ⟨r.name.toArray⟩, .int .i64 r.x, .int .i64 r.y, .int .i64 r.first, .int .i64 r.last, .int .i64 r.step, .slice p n cap, .int .i64 r.pos])
 have HB0 : Hid (B ≤ (w.alloc (.cells #[.string ⟨r.name.toArray⟩, .int .i64 r.x, .int .i64 r.y, .int .i64 r.first, .int .i64 r.last, .int .i64 r.step, .slice p n cap, .int .i64 r.pos] 40)).heap.size) := hid (by simp; omega)
 have HEW : Hid (∀ w' v', Wrote b (w.alloc (.cells #[.string ⟨r.name.toArray⟩, .int .i64 r.x, .int .i64 r.y, .int .i64 r.first, .int .i64 r.last, .int .i64 r.step, .slice p n cap, .int .i64 r.pos] 40)) v w' v' → EnvAt B w') := hid fun w' v' k => hE.below ((hb0.mono hB).trans ((h.later hb0).wrote (by simp; omega) k))
 have HIN : Hid (∀ w' v', Wrote b (w.alloc (.cells #[.string ⟨r.name.toArray⟩, .int .i64 r.x, .int .i64 r.y, .int .i64 r.first, .int .i64 r.last, .int .i64 r.step, .slice p n cap, .int .i64 r.pos] 40)) v w' v' → Below B w w') := hid fun w' v' k => (hb0.mono hB).trans ((h.later hb0).wrote (by simp; omega) k)
 have K0 := hid (h.later hb0)
 have HFIN : Hid (∀ w' v', Wrote b (w.alloc (.cells #[.string ⟨r.name.toArray⟩, .int .i64 r.x, .int .i64 r.y, .int .i64 r.first, .int .i64 r.last, .int .i64 r.step, .slice p n cap, .int .i64 r.pos] 40)) v w' v' → Wrote b w v w' v') := hid fun w' v' k => hR.trans k
 obtain ⟨w0, hw0⟩ : ∃ w0, w.alloc (.cells #[.string ⟨r.name.toArray⟩, .int .i64 r.x, .int .i64 r.y, .int .i64 r.first, .int .i64 r.last, .int .i64 r.step, .slice p n cap, .int .i64 r.pos] 40) = w0 := ⟨_, rfl⟩
 obtain ⟨u0, hu0⟩ : ∃ u0, u0 = v := ⟨v, rfl⟩
 rw [hw0] at HBK HB0 HEW HIN HFIN K0
 rw [← hu0] at HBK HEW HIN HFIN K0
 have R0 := hid (Wrote.refl b w0 u0)
 have HL := hid hm
 obtain ⟨h1, h2, h3, h4, h5, h6, h7⟩ := hr
 clear hm
 clear h hb0 hR hE hB
 go_enter Tryz.func101, Tryz.ntmps101
 have HC := hid (word_any wRow (by decide) w0 u0 _ K0.out (Nat.le_trans HB0.out R0.out.kp.size))
 go_wp2_with fail
 try rw [hw0]
 refine HC.out.mono ?_; rintro e w1 ⟨rfl, u1, k1, k2⟩
 have K1 := hid k1; have R1 := hid (R0.out.trans k2)
 clear k1 k2 HC K0 R0
 go_upto_region 2 with fail
 refine wp_region_any (by kernel_rfl) ?_
 have KA := hid K1.out.drew; have RA := hid R1.out.drew
 have hS0 : Blk w1.drew w.heap.size 40 [.string ⟨r.name.toArray⟩, .int .i64 r.x, .int .i64 r.y, .int .i64 r.first, .int .i64 r.last, .int .i64 r.step, .slice p n cap, .int .i64 r.pos] := HBK.out _ _ RA.out
 refine any_of_held (S := fun W => Blk W w.heap.size 40 [.string ⟨r.name.toArray⟩, .int .i64 r.x, .int .i64 r.y, .int .i64 r.first, .int .i64 r.last, .int .i64 r.step, .slice p n cap, .int .i64 r.pos]) (N := []) _ _ _ _ ?_
 change held _ _ _ _ _ _ _ _ _ w1.drew
 obtain ⟨wa, hwa⟩ : ∃ wa, w1.drew = wa := ⟨_, rfl⟩
 rw [hwa] at hS0 KA RA ⊢
 clear hwa K1 R1
 refine held_take [] (i := 0) (v := .pointer (some ⟨b, 0, none⟩)) rfl (by kernel_rfl) (fun _ _ _ h => h) (Or.inl ⟨by rfl, fun w' hS => by go_simp⟩) hS0 ?_
 try simp only [Act.put, aA, aB, aC]
 refine held_take [] (i := 1) (v := .pointer (some ⟨b, 0, none⟩)) rfl (by kernel_rfl) (fun _ _ _ h => h) (Or.inl ⟨by rfl, fun w' hS => by go_simp⟩) hS0 ?_
 try simp only [Act.put, aA, aB, aC]
 refine held_take [] (i := 2) (v := .pointer (some ⟨b, 0, none⟩)) rfl (by kernel_rfl) (fun _ _ _ h => h) (Or.inl ⟨by rfl, fun w' hS => by go_simp⟩) hS0 ?_
 try simp only [Act.put, aA, aB, aC]
 refine held_take [] (i := 3) (v := .pointer (some ⟨w.heap.size, 0, none⟩)) rfl (by kernel_rfl) (fun _ _ _ h => h) (Or.inl ⟨by rfl, fun w' hS => by go_simp⟩) hS0 ?_
 try simp only [Act.put, aA, aB, aC]
 refine held_take [] (i := 4) (v := .string ⟨r.name.toArray⟩) rfl (by kernel_rfl) (fun _ _ _ h => h) (Or.inl ⟨by rfl, fun w' hS => by have hc := hS.cell (i := 0) rfl; go_simp⟩) hS0 ?_
 try simp only [Act.put, aA, aB, aC]
 refine held_one (i := 5) rfl (by kernel_rfl) (fun K hK => ?_)
 go_simp
 refine hK.out _ _ (fun _ => hS0.alloc _) ?_
 clear hK K
 try simp only [Act.put, aA, aB, aC]
 refine held_one (i := 6) rfl (by kernel_rfl) (fun K hK => ?_)
 go_simp
 have HC := hid (name_new r.name h1 wa u1 _ KA.out (Nat.le_trans HB0.out RA.out.kp.size))
 refine HC.out.mono ?_; rintro e w2 ⟨rfl, u2, k1, k2⟩
 have K2 := hid k1; have R2 := hid (RA.out.trans k2)
 refine hK.out _ _ (fun _ => HBK.out _ _ R2.out) ?_
 clear hK K k1 k2 HC KA RA hS0
 try simp only [Act.put, aA, aB, aC]
 refine held_done (by kernel_rfl) ?_ _
 have HC := hid (word_any wAt (by decide) w2 u2 _ K2.out (Nat.le_trans HB0.out R2.out.kp.size))
 go_wp2_with fail
 refine HC.out.mono ?_; rintro e w3 ⟨rfl, u3, k1, k2⟩
 have K3 := hid k1; have R3 := hid (R2.out.trans k2)
 clear k1 k2 HC K2 R2
 go_upto_region 4 with fail
 refine wp_region_any (by kernel_rfl) ?_
 have KA := hid K3.out.drew; have RA := hid R3.out.drew
 have hS0 : Blk w3.drew w.heap.size 40 [.string ⟨r.name.toArray⟩, .int .i64 r.x, .int .i64 r.y, .int .i64 r.first, .int .i64 r.last, .int .i64 r.step, .slice p n cap, .int .i64 r.pos] := HBK.out _ _ RA.out
 refine any_of_held (S := fun W => Blk W w.heap.size 40 [.string ⟨r.name.toArray⟩, .int .i64 r.x, .int .i64 r.y, .int .i64 r.first, .int .i64 r.last, .int .i64 r.step, .slice p n cap, .int .i64 r.pos]) (N := []) _ _ _ _ ?_
 change held _ _ _ _ _ _ _ _ _ w3.drew
 obtain ⟨wa, hwa⟩ : ∃ wa, w3.drew = wa := ⟨_, rfl⟩
 rw [hwa] at hS0 KA RA ⊢
 clear hwa K3 R3
 refine held_take [] (i := 0) (v := .pointer (some ⟨b, 0, none⟩)) rfl (by kernel_rfl) (fun _ _ _ h => h) (Or.inl ⟨by rfl, fun w' hS => by go_simp⟩) hS0 ?_
 try simp only [Act.put, aA, aB, aC]
 refine held_take [] (i := 1) (v := .pointer (some ⟨b, 0, none⟩)) rfl (by kernel_rfl) (fun _ _ _ h => h) (Or.inl ⟨by rfl, fun w' hS => by go_simp⟩) hS0 ?_
 try simp only [Act.put, aA, aB, aC]
 refine held_take [] (i := 2) (v := .pointer (some ⟨b, 0, none⟩)) rfl (by kernel_rfl) (fun _ _ _ h => h) (Or.inl ⟨by rfl, fun w' hS => by go_simp⟩) hS0 ?_
 try simp only [Act.put, aA, aB, aC]
 refine held_take [] (i := 3) (v := .pointer (some ⟨w.heap.size, 1, none⟩)) rfl (by kernel_rfl) (fun _ _ _ h => h) (Or.inl ⟨by rfl, fun w' hS => by go_simp⟩) hS0 ?_
 try simp only [Act.put, aA, aB, aC]
 refine held_take [] (i := 4) (v := .int .i64 r.x) rfl (by kernel_rfl) (fun _ _ _ h => h) (Or.inl ⟨by rfl, fun w' hS => by have hc := hS.cell (i := 1) rfl; go_simp⟩) hS0 ?_
 try simp only [Act.put, aA, aB, aC]
 refine held_take [] (i := 5) (v := .pointer (some ⟨w.heap.size, 2, none⟩)) rfl (by kernel_rfl) (fun _ _ _ h => h) (Or.inl ⟨by rfl, fun w' hS => by go_simp⟩) hS0 ?_
 try simp only [Act.put, aA, aB, aC]
 refine held_take [] (i := 6) (v := .int .i64 r.y) rfl (by kernel_rfl) (fun _ _ _ h => h) (Or.inl ⟨by rfl, fun w' hS => by have hc := hS.cell (i := 2) rfl; go_simp⟩) hS0 ?_
 try simp only [Act.put, aA, aB, aC]
 refine held_one (i := 7) rfl (by kernel_rfl) (fun K hK => ?_)
 go_simp
 refine hK.out _ _ (fun _ => hS0.alloc _) ?_
 clear hK K
 try simp only [Act.put, aA, aB, aC]
 refine held_one (i := 8) rfl (by kernel_rfl) (fun K hK => ?_)
 go_simp
 have HC := hid (numbers_new [r.x, r.y] (by intro z hz; simp only [List.mem_cons, List.not_mem_nil, or_false] at hz; rcases hz with rfl | rfl <;> assumption) (by simp) wa u3 _ KA.out (Nat.le_trans HB0.out RA.out.kp.size) (HEW.out _ _ (RA.out)))
 refine HC.out.mono ?_; rintro e w4 ⟨rfl, u4, k1, k2⟩
 have K4 := hid k1; have R4 := hid (RA.out.trans k2)
 refine hK.out _ _ (fun _ => HBK.out _ _ R4.out) ?_
 clear hK K k1 k2 HC KA RA hS0
 try simp only [Act.put, aA, aB, aC]
 refine held_done (by kernel_rfl) ?_ _
 have HC := hid (word_any wSeats (by decide) w4 u4 _ K4.out (Nat.le_trans HB0.out R4.out.kp.size))
 go_wp2_with fail
 refine HC.out.mono ?_; rintro e w5 ⟨rfl, u5, k1, k2⟩
 have K5 := hid k1; have R5 := hid (R4.out.trans k2)
 clear k1 k2 HC K4 R4
 go_upto_region 6 with fail
 refine wp_region_any (by kernel_rfl) ?_
 have KA := hid K5.out.drew; have RA := hid R5.out.drew
 have hS0 : Blk w5.drew w.heap.size 40 [.string ⟨r.name.toArray⟩, .int .i64 r.x, .int .i64 r.y, .int .i64 r.first, .int .i64 r.last, .int .i64 r.step, .slice p n cap, .int .i64 r.pos] := HBK.out _ _ RA.out
 refine any_of_held (S := fun W => Blk W w.heap.size 40 [.string ⟨r.name.toArray⟩, .int .i64 r.x, .int .i64 r.y, .int .i64 r.first, .int .i64 r.last, .int .i64 r.step, .slice p n cap, .int .i64 r.pos]) (N := []) _ _ _ _ ?_
 change held _ _ _ _ _ _ _ _ _ w5.drew
 obtain ⟨wa, hwa⟩ : ∃ wa, w5.drew = wa := ⟨_, rfl⟩
 rw [hwa] at hS0 KA RA ⊢
 clear hwa K5 R5
 refine held_take [] (i := 0) (v := .pointer (some ⟨b, 0, none⟩)) rfl (by kernel_rfl) (fun _ _ _ h => h) (Or.inl ⟨by rfl, fun w' hS => by go_simp⟩) hS0 ?_
 try simp only [Act.put, aA, aB, aC]
 refine held_take [] (i := 1) (v := .pointer (some ⟨b, 0, none⟩)) rfl (by kernel_rfl) (fun _ _ _ h => h) (Or.inl ⟨by rfl, fun w' hS => by go_simp⟩) hS0 ?_
 try simp only [Act.put, aA, aB, aC]
 refine held_take [] (i := 2) (v := .pointer (some ⟨b, 0, none⟩)) rfl (by kernel_rfl) (fun _ _ _ h => h) (Or.inl ⟨by rfl, fun w' hS => by go_simp⟩) hS0 ?_
 try simp only [Act.put, aA, aB, aC]
 refine held_take [] (i := 3) (v := .pointer (some ⟨w.heap.size, 3, none⟩)) rfl (by kernel_rfl) (fun _ _ _ h => h) (Or.inl ⟨by rfl, fun w' hS => by go_simp⟩) hS0 ?_
 try simp only [Act.put, aA, aB, aC]
 refine held_take [] (i := 4) (v := .int .i64 r.first) rfl (by kernel_rfl) (fun _ _ _ h => h) (Or.inl ⟨by rfl, fun w' hS => by have hc := hS.cell (i := 3) rfl; go_simp⟩) hS0 ?_
 try simp only [Act.put, aA, aB, aC]
 refine held_one (i := 5) rfl (by kernel_rfl) (fun K hK => ?_)
 go_simp
 refine hK.out _ _ (fun _ => hS0.alloc _) ?_
 clear hK K
 try simp only [Act.put, aA, aB, aC]
 refine held_one (i := 6) rfl (by kernel_rfl) (fun K hK => ?_)
 go_simp
 have HC := hid (numbers_new [r.first] (by intro z hz; simp only [List.mem_cons, List.not_mem_nil, or_false] at hz; rcases hz with rfl <;> assumption) (by simp) wa u5 _ KA.out (Nat.le_trans HB0.out RA.out.kp.size) (HEW.out _ _ (RA.out)))
 refine HC.out.mono ?_; rintro e w6 ⟨rfl, u6, k1, k2⟩
 have K6 := hid k1; have R6 := hid (RA.out.trans k2)
 refine hK.out _ _ (fun _ => HBK.out _ _ R6.out) ?_
 clear hK K k1 k2 HC KA RA hS0
 try simp only [Act.put, aA, aB, aC]
 refine held_done (by kernel_rfl) ?_ _
 have HC := hid (word_any wTo (by decide) w6 u6 _ K6.out (Nat.le_trans HB0.out R6.out.kp.size))
 go_wp2_with fail
 refine HC.out.mono ?_; rintro e w7 ⟨rfl, u7, k1, k2⟩
 have K7 := hid k1; have R7 := hid (R6.out.trans k2)
 clear k1 k2 HC K6 R6
 go_upto_region 8 with fail
 refine wp_region_any (by kernel_rfl) ?_
 have KA := hid K7.out.drew; have RA := hid R7.out.drew
 have hS0 : Blk w7.drew w.heap.size 40 [.string ⟨r.name.toArray⟩, .int .i64 r.x, .int .i64 r.y, .int .i64 r.first, .int .i64 r.last, .int .i64 r.step, .slice p n cap, .int .i64 r.pos] := HBK.out _ _ RA.out
 refine any_of_held (S := fun W => Blk W w.heap.size 40 [.string ⟨r.name.toArray⟩, .int .i64 r.x, .int .i64 r.y, .int .i64 r.first, .int .i64 r.last, .int .i64 r.step, .slice p n cap, .int .i64 r.pos]) (N := []) _ _ _ _ ?_
 change held _ _ _ _ _ _ _ _ _ w7.drew
 obtain ⟨wa, hwa⟩ : ∃ wa, w7.drew = wa := ⟨_, rfl⟩
 rw [hwa] at hS0 KA RA ⊢
 clear hwa K7 R7
 refine held_take [] (i := 0) (v := .pointer (some ⟨b, 0, none⟩)) rfl (by kernel_rfl) (fun _ _ _ h => h) (Or.inl ⟨by rfl, fun w' hS => by go_simp⟩) hS0 ?_
 try simp only [Act.put, aA, aB, aC]
 refine held_take [] (i := 1) (v := .pointer (some ⟨b, 0, none⟩)) rfl (by kernel_rfl) (fun _ _ _ h => h) (Or.inl ⟨by rfl, fun w' hS => by go_simp⟩) hS0 ?_
 try simp only [Act.put, aA, aB, aC]
 refine held_take [] (i := 2) (v := .pointer (some ⟨b, 0, none⟩)) rfl (by kernel_rfl) (fun _ _ _ h => h) (Or.inl ⟨by rfl, fun w' hS => by go_simp⟩) hS0 ?_
 try simp only [Act.put, aA, aB, aC]
 refine held_take [] (i := 3) (v := .pointer (some ⟨w.heap.size, 4, none⟩)) rfl (by kernel_rfl) (fun _ _ _ h => h) (Or.inl ⟨by rfl, fun w' hS => by go_simp⟩) hS0 ?_
 try simp only [Act.put, aA, aB, aC]
 refine held_take [] (i := 4) (v := .int .i64 r.last) rfl (by kernel_rfl) (fun _ _ _ h => h) (Or.inl ⟨by rfl, fun w' hS => by have hc := hS.cell (i := 4) rfl; go_simp⟩) hS0 ?_
 try simp only [Act.put, aA, aB, aC]
 refine held_one (i := 5) rfl (by kernel_rfl) (fun K hK => ?_)
 go_simp
 refine hK.out _ _ (fun _ => hS0.alloc _) ?_
 clear hK K
 try simp only [Act.put, aA, aB, aC]
 refine held_one (i := 6) rfl (by kernel_rfl) (fun K hK => ?_)
 go_simp
 have HC := hid (numbers_new [r.last] (by intro z hz; simp only [List.mem_cons, List.not_mem_nil, or_false] at hz; rcases hz with rfl <;> assumption) (by simp) wa u7 _ KA.out (Nat.le_trans HB0.out RA.out.kp.size) (HEW.out _ _ (RA.out)))
 refine HC.out.mono ?_; rintro e w8 ⟨rfl, u8, k1, k2⟩
 have K8 := hid k1; have R8 := hid (RA.out.trans k2)
 refine hK.out _ _ (fun _ => HBK.out _ _ R8.out) ?_
 clear hK K k1 k2 HC KA RA hS0
 try simp only [Act.put, aA, aB, aC]
 refine held_done (by kernel_rfl) ?_ _
 have HC := hid (word_any wStep (by decide) w8 u8 _ K8.out (Nat.le_trans HB0.out R8.out.kp.size))
 go_wp2_with fail
 refine HC.out.mono ?_; rintro e w9 ⟨rfl, u9, k1, k2⟩
 have K9 := hid k1; have R9 := hid (R8.out.trans k2)
 clear k1 k2 HC K8 R8
 go_upto_region 10 with fail
 refine wp_region_any (by kernel_rfl) ?_
 have KA := hid K9.out.drew; have RA := hid R9.out.drew
 have hS0 : Blk w9.drew w.heap.size 40 [.string ⟨r.name.toArray⟩, .int .i64 r.x, .int .i64 r.y, .int .i64 r.first, .int .i64 r.last, .int .i64 r.step, .slice p n cap, .int .i64 r.pos] := HBK.out _ _ RA.out
 refine any_of_held (S := fun W => Blk W w.heap.size 40 [.string ⟨r.name.toArray⟩, .int .i64 r.x, .int .i64 r.y, .int .i64 r.first, .int .i64 r.last, .int .i64 r.step, .slice p n cap, .int .i64 r.pos]) (N := []) _ _ _ _ ?_
 change held _ _ _ _ _ _ _ _ _ w9.drew
 obtain ⟨wa, hwa⟩ : ∃ wa, w9.drew = wa := ⟨_, rfl⟩
 rw [hwa] at hS0 KA RA ⊢
 clear hwa K9 R9
 refine held_take [] (i := 0) (v := .pointer (some ⟨b, 0, none⟩)) rfl (by kernel_rfl) (fun _ _ _ h => h) (Or.inl ⟨by rfl, fun w' hS => by go_simp⟩) hS0 ?_
 try simp only [Act.put, aA, aB, aC]
 refine held_take [] (i := 1) (v := .pointer (some ⟨b, 0, none⟩)) rfl (by kernel_rfl) (fun _ _ _ h => h) (Or.inl ⟨by rfl, fun w' hS => by go_simp⟩) hS0 ?_
 try simp only [Act.put, aA, aB, aC]
 refine held_take [] (i := 2) (v := .pointer (some ⟨b, 0, none⟩)) rfl (by kernel_rfl) (fun _ _ _ h => h) (Or.inl ⟨by rfl, fun w' hS => by go_simp⟩) hS0 ?_
 try simp only [Act.put, aA, aB, aC]
 refine held_take [] (i := 3) (v := .pointer (some ⟨w.heap.size, 5, none⟩)) rfl (by kernel_rfl) (fun _ _ _ h => h) (Or.inl ⟨by rfl, fun w' hS => by go_simp⟩) hS0 ?_
 try simp only [Act.put, aA, aB, aC]
 refine held_take [] (i := 4) (v := .int .i64 r.step) rfl (by kernel_rfl) (fun _ _ _ h => h) (Or.inl ⟨by rfl, fun w' hS => by have hc := hS.cell (i := 5) rfl; go_simp⟩) hS0 ?_
 try simp only [Act.put, aA, aB, aC]
 refine held_one (i := 5) rfl (by kernel_rfl) (fun K hK => ?_)
 go_simp
 refine hK.out _ _ (fun _ => hS0.alloc _) ?_
 clear hK K
 try simp only [Act.put, aA, aB, aC]
 refine held_one (i := 6) rfl (by kernel_rfl) (fun K hK => ?_)
 go_simp
 have HC := hid (numbers_new [r.step] (by intro z hz; simp only [List.mem_cons, List.not_mem_nil, or_false] at hz; rcases hz with rfl <;> assumption) (by simp) wa u9 _ KA.out (Nat.le_trans HB0.out RA.out.kp.size) (HEW.out _ _ (RA.out)))
 refine HC.out.mono ?_; rintro e w10 ⟨rfl, u10, k1, k2⟩
 have K10 := hid k1; have R10 := hid (RA.out.trans k2)
 refine hK.out _ _ (fun _ => HBK.out _ _ R10.out) ?_
 clear hK K k1 k2 HC KA RA hS0
 try simp only [Act.put, aA, aB, aC]
 refine held_done (by kernel_rfl) ?_ _
 obtain ⟨S1, hS⟩ : ∃ S, numbersS [r.step] (wordS wStep (numbersS [r.last] (wordS wTo (numbersS [r.first] (wordS wSeats (numbersS [r.x, r.y] (wordS wAt (namesS [r.name] (wordS wRow (s)))))))))) = S := ⟨_, rfl⟩
 have HS1 := hid hS
 replace K10 : Hid (WR B b T w10 u10 S1) := hid (by rw [← hS]; exact K10.out)
 clear hS
 have cf := (HBK.out _ _ R10.out).cell (i := 6) rfl
 go_wp2
 go_loopw [66] (fun i wr => ∃ (k : Nat) (uo : Value), i = .int .i64 k ∧ k ≤ n ∧ Hid (WR B b T wr uo ((r.marks.take k).foldl (fun s x => markS x s) (S1))) ∧ Hid (Wrote b w0 u0 wr uo)) (fun i _ => n - (intOf i).toNat)
 case atStart => exact ⟨0, u10, rfl, Nat.zero_le _, hid (by rw [List.take_zero, List.foldl_nil]; exact K10.out), R10⟩
 case round =>
  have hnb : n ≤ 9223372036854775807 := by have := HL.out.len.2; unfold maxLen at this; omega
  obtain ⟨k, uo, rfl, hk, HV, HR⟩ := hrel
  clear cf
  have cf := (HBK.out _ _ HR.out).cell (i := 6) rfl
  by_cases hkn : k < n
  ·obtain ⟨x, hx⟩ : ∃ x, r.marks[k]? = some x := ⟨_, List.getElem?_eq_getElem (by have := HL.out.len.1; omega)⟩
   have hm := List.mem_of_getElem? hx
   have hst := take_fold (fun s x => markS x s) r.marks (S1) hx
   obtain ⟨t, ht⟩ : ∃ t, (r.marks.take k).foldl (fun s x => markS x s) (S1) = t := ⟨_, rfl⟩
   rw [ht] at hst HV
   obtain ⟨lb, lo, c, rfl, hlb, hc, hcell⟩ := (HL.out.below (HIN.out _ _ HR.out)).at hx
   obtain rfl := hc
   obtain ⟨kind, seat, other⟩ := x
   have d0 := hcell 0 _ rfl
   have d1 := hcell 1 _ rfl
   have d2 := hcell 2 _ rfl
   rw [show markL.size = 3 from rfl] at d0 d1 d2
   rw [Nat.add_zero] at d0
   have hki : (0 : Int) ≤ k ∧ (k : Int) < n := by omega
   go_wp2_with fail
   have hbe : Below wr.heap.size wr (wr.alloc (.cells #[.int .i64 kind, .int .i64 seat, .int .i64 other] 72)) := (Below.refl _ _).alloc (Nat.le_refl _) _
   have hbB : B ≤ wr.heap.size := Nat.le_trans HB0.out HR.out.kp.size
   have HRE : Hid (Wrote b w0 u0 (wr.alloc (.cells #[.int .i64 kind, .int .i64 seat, .int .i64 other] 72)) uo) := hid (HR.out.trans ((Wrote.refl b _ uo).later hbe))
   have K100 := hid (HV.out.later hbe); have HB1 : Hid (B ≤ (wr.alloc (.cells #[.int .i64 kind, .int .i64 seat, .int .i64 other] 72)).heap.size) := hid (Nat.le_trans hbB hbe.size)
   have HBE : Hid (∀ w' v', Wrote b (wr.alloc (.cells #[.int .i64 kind, .int .i64 seat, .int .i64 other] 72)) uo w' v' → Blk w' wr.heap.size 72 [.int .i64 kind, .int .i64 seat, .int .i64 other]) := hid fun w' v' k => (k.kept (k := wr.heap.size) (by simp) (by have := HV.out.lt; omega) (fun e => by have := (HV.out.vlow e).2; omega)).1.trans (Blk.new wr 72 [.int .i64 kind, .int .i64 seat, .int .i64 other])
   obtain ⟨w100, hw100⟩ : ∃ w100, (wr.alloc (.cells #[.int .i64 kind, .int .i64 seat, .int .i64 other] 72)) = w100 := ⟨_, rfl⟩
   rw [hw100] at HRE K100 HB1 HBE
   have R100 := hid (Wrote.refl b w100 uo)
   have HST := hid hst
   clear hx hst ht hcell hbe hlb hbB
   have HC := hid (mark_any kind seat other (h7 _ hm) w100 uo t K100.out (Nat.le_trans HB1.out R100.out.kp.size) (HEW.out _ _ (HRE.out.trans R100.out)))
   try rw [hw100]
   refine HC.out.mono ?_; rintro e w101 ⟨rfl, u101, k1, k2⟩
   have K101 := hid k1; have R101 := hid (R100.out.trans k2)
   clear k1 k2 HC K100 R100
   have RZ := hid (HRE.out.trans R101.out)
   clear HRE cf d0 d1 d2
   have cf := (HBK.out _ _ RZ.out).cell (i := 6) rfl
   go_wp2
   go_roundw
   case rel => exact ⟨k + 1, u101, by go_num, by omega, by rw [HST.out]; exact K101, RZ⟩
   case measure => simp [intOf]; omega
  ·have hkn2 : k = n := by omega
   subst hkn2
   rw [show r.marks.take k = r.marks from List.take_of_length_le (by have := HL.out.len.1; omega)] at HV
   clear cf hkn hk hnb
   obtain ⟨u11, hu11⟩ : ∃ u, u = uo := ⟨uo, rfl⟩
   rw [← hu11] at HV HR
   generalize wr = w11 at *
   have K11 := HV; have R11 := HR
   clear HV HR K10 R10 hu11
   have HC := hid (line_any [59] (by decide) w11 u11 _ K11.out (Nat.le_trans HB0.out R11.out.kp.size))
   go_wp2_with fail
   refine HC.out.mono ?_; rintro e w12 ⟨rfl, u12, k1, k2⟩
   have K12 := hid k1; have R12 := hid (R11.out.trans k2)
   clear k1 k2 HC K11 R11
   have HE : Hid (rowS r s = lineS [59] (r.marks.foldl (fun s x => markS x s) (S1))) := hid (by rw [← HS1.out]; rfl)
   go_wp2
   go_end0
   subst hu0
   exact ⟨rfl, u12, by rw [HE.out]; exact K12.out, HFIN.out _ _ R12.out⟩
end Go.Proofs.YtilfpnkcgjonhaaGreatDoor.Pr
namespace Go.Proofs.YtilfpnkcgjonhaaGreatDoor.Pr
open Go.RowKit Go.Sort Foyer.Printer Foyer.Lexer Foyer.Round
set_option linter.unusedSimpArgs false in
set_option maxRecDepth 100000 in
set_option maxHeartbeats 4000000 in
theorem block_any {B b : Nat} {T : TypeId} (x0 : BlockZ) (hx : BlockZ.Fit x0) (p : Option Addr) (n cap : Nat) (w : World) (v : Value) (s : St) (h : WR B b T w v s) (hB : B ≤ w.heap.size) (hE : EnvAt B w) (hop : s.opn ≤ 5) (hm : Lk rowL w B (.slice p n cap) x0.rows) :
  Calls Tryz.prog 69 #[.pointer (some ⟨b, 0, none⟩), .agg #[.string ⟨x0.name.toArray⟩, .slice p n cap, .int .i64 x0.pos]] w fun e w' => e = .returned (.tuple #[]) ∧ Step B b T w v (blockS x0 s) w' := by
 have hb0 : Below w.heap.size w (w.alloc (.cells #[.string ⟨x0.name.toArray⟩, .slice p n cap, .int .i64 x0.pos] 44)) := (Below.refl _ _).alloc (Nat.le_refl _) _
 have hR : Wrote b w v (w.alloc (.cells #[.string ⟨x0.name.toArray⟩, .slice p n cap, .int .i64 x0.pos] 44)) v := (Wrote.refl b _ v).later hb0
 have HBK : Hid (∀ w' v', Wrote b (w.alloc (.cells #[.string ⟨x0.name.toArray⟩, .slice p n cap, .int .i64 x0.pos] 44)) v w' v' → Blk w' w.heap.size 44 [.string ⟨x0.name.toArray⟩, .slice p n cap, .int .i64 x0.pos]) := hid fun w' v' k => (k.kept (k := w.heap.size) (by simp) (by have := h.lt; omega) (fun e => by have := (h.vlow e).2; omega)).1.trans (Blk.new w 44 [.string ⟨x0.name.toArray⟩, .slice p n cap, .int .i64 x0.pos])
 have HB0 : Hid (B ≤ (w.alloc (.cells #[.string ⟨x0.name.toArray⟩, .slice p n cap, .int .i64 x0.pos] 44)).heap.size) := hid (by simp; omega)
 have HEW : Hid (∀ w' v', Wrote b (w.alloc (.cells #[.string ⟨x0.name.toArray⟩, .slice p n cap, .int .i64 x0.pos] 44)) v w' v' → EnvAt B w') := hid fun w' v' k => hE.below ((hb0.mono hB).trans ((h.later hb0).wrote (by simp; omega) k))
 have HIN : Hid (∀ w' v', Wrote b (w.alloc (.cells #[.string ⟨x0.name.toArray⟩, .slice p n cap, .int .i64 x0.pos] 44)) v w' v' → Below B w w') := hid fun w' v' k => (hb0.mono hB).trans ((h.later hb0).wrote (by simp; omega) k)
 have K0 := hid (h.later hb0)
 have HFIN : Hid (∀ w' v', Wrote b (w.alloc (.cells #[.string ⟨x0.name.toArray⟩, .slice p n cap, .int .i64 x0.pos] 44)) v w' v' → Wrote b w v w' v') := hid fun w' v' k => hR.trans k
 obtain ⟨w0, hw0⟩ : ∃ w0, w.alloc (.cells #[.string ⟨x0.name.toArray⟩, .slice p n cap, .int .i64 x0.pos] 44) = w0 := ⟨_, rfl⟩
 obtain ⟨u0, hu0⟩ : ∃ u0, u0 = v := ⟨v, rfl⟩
 rw [hw0] at HBK HB0 HEW HIN HFIN K0
 rw [← hu0] at HBK HEW HIN HFIN K0
 have R0 := hid (Wrote.refl b w0 u0)
 have HL := hid hm
 obtain ⟨hx1, hx2⟩ := hx
 clear hm
 clear h hb0 hR hE hB
 go_enter Tryz.func69, Tryz.ntmps69
 have HC := hid (word_any wBlock (by decide) w0 u0 _ K0.out (Nat.le_trans HB0.out R0.out.kp.size))
 go_wp2_with fail
 try rw [hw0]
 refine HC.out.mono ?_; rintro e w1 ⟨rfl, u1, k1, k2⟩
 have K1 := hid k1; have R1 := hid (R0.out.trans k2)
 clear k1 k2 HC K0 R0
 go_upto_region 2 with fail
 refine wp_region_any (by kernel_rfl) ?_
 have KA := hid K1.out.drew; have RA := hid R1.out.drew
 have hS0 : Blk w1.drew w.heap.size 44 [.string ⟨x0.name.toArray⟩, .slice p n cap, .int .i64 x0.pos] := HBK.out _ _ RA.out
 refine any_of_held (S := fun W => Blk W w.heap.size 44 [.string ⟨x0.name.toArray⟩, .slice p n cap, .int .i64 x0.pos]) (N := []) _ _ _ _ ?_
 change held _ _ _ _ _ _ _ _ _ w1.drew
 obtain ⟨wa, hwa⟩ : ∃ wa, w1.drew = wa := ⟨_, rfl⟩
 rw [hwa] at hS0 KA RA ⊢
 clear hwa K1 R1
 refine held_take [] (i := 0) (v := .pointer (some ⟨b, 0, none⟩)) rfl (by kernel_rfl) (fun _ _ _ h => h) (Or.inl ⟨by rfl, fun w' hS => by go_simp⟩) hS0 ?_
 try simp only [Act.put, aA, aB, aC]
 refine held_take [] (i := 1) (v := .pointer (some ⟨b, 0, none⟩)) rfl (by kernel_rfl) (fun _ _ _ h => h) (Or.inl ⟨by rfl, fun w' hS => by go_simp⟩) hS0 ?_
 try simp only [Act.put, aA, aB, aC]
 refine held_take [] (i := 2) (v := .pointer (some ⟨b, 0, none⟩)) rfl (by kernel_rfl) (fun _ _ _ h => h) (Or.inl ⟨by rfl, fun w' hS => by go_simp⟩) hS0 ?_
 try simp only [Act.put, aA, aB, aC]
 refine held_take [] (i := 3) (v := .pointer (some ⟨w.heap.size, 0, none⟩)) rfl (by kernel_rfl) (fun _ _ _ h => h) (Or.inl ⟨by rfl, fun w' hS => by go_simp⟩) hS0 ?_
 try simp only [Act.put, aA, aB, aC]
 refine held_take [] (i := 4) (v := .string ⟨x0.name.toArray⟩) rfl (by kernel_rfl) (fun _ _ _ h => h) (Or.inl ⟨by rfl, fun w' hS => by have hc := hS.cell (i := 0) rfl; go_simp⟩) hS0 ?_
 try simp only [Act.put, aA, aB, aC]
 refine held_one (i := 5) rfl (by kernel_rfl) (fun K hK => ?_)
 go_simp
 refine hK.out _ _ (fun _ => hS0.alloc _) ?_
 clear hK K
 try simp only [Act.put, aA, aB, aC]
 refine held_one (i := 6) rfl (by kernel_rfl) (fun K hK => ?_)
 go_simp
 have HC := hid (name_new x0.name hx1 wa u1 _ KA.out (Nat.le_trans HB0.out RA.out.kp.size))
 refine HC.out.mono ?_; rintro e w2 ⟨rfl, u2, k1, k2⟩
 have K2 := hid k1; have R2 := hid (RA.out.trans k2)
 refine hK.out _ _ (fun _ => HBK.out _ _ R2.out) ?_
 clear hK K k1 k2 HC KA RA hS0
 try simp only [Act.put, aA, aB, aC]
 refine held_done (by kernel_rfl) ?_ _
 have HC := hid (begin_any w2 u2 _ K2.out (Nat.le_trans HB0.out R2.out.kp.size) (by rw [opn_names, opn_word]; omega))
 go_wp2_with fail
 refine HC.out.mono ?_; rintro e w3 ⟨rfl, u3, k1, k2⟩
 have K3 := hid k1; have R3 := hid (R2.out.trans k2)
 clear k1 k2 HC K2 R2
 obtain ⟨S1, hS⟩ : ∃ S, beginS (namesS [x0.name] (wordS wBlock (s))) = S := ⟨_, rfl⟩
 have HS1 := hid hS
 replace K3 : Hid (WR B b T w3 u3 S1) := hid (by rw [← hS]; exact K3.out)
 clear hS
 have cf := (HBK.out _ _ R3.out).cell (i := 1) rfl
 go_wp2
 go_loopw [24] (fun i wr => ∃ (k : Nat) (uo : Value), i = .int .i64 k ∧ k ≤ n ∧ Hid (WR B b T wr uo ((x0.rows.take k).foldl (fun s x => rowS x s) (S1))) ∧ Hid (Wrote b w0 u0 wr uo)) (fun i _ => n - (intOf i).toNat)
 case atStart => exact ⟨0, u3, rfl, Nat.zero_le _, hid (by rw [List.take_zero, List.foldl_nil]; exact K3.out), R3⟩
 case round =>
  have hnb : n ≤ 9223372036854775807 := by have := HL.out.len.2; unfold maxLen at this; omega
  obtain ⟨k, uo, rfl, hk, HV, HR⟩ := hrel
  clear cf
  have cf := (HBK.out _ _ HR.out).cell (i := 1) rfl
  by_cases hkn : k < n
  ·obtain ⟨x, hx⟩ : ∃ x, x0.rows[k]? = some x := ⟨_, List.getElem?_eq_getElem (by have := HL.out.len.1; omega)⟩
   have hm := List.mem_of_getElem? hx
   have hst := take_fold (fun s x => rowS x s) x0.rows (S1) hx
   obtain ⟨t, ht⟩ : ∃ t, (x0.rows.take k).foldl (fun s x => rowS x s) (S1) = t := ⟨_, rfl⟩
   rw [ht] at hst HV
   obtain ⟨lb, lo, c, rfl, hlb, hc, hcell⟩ := (HL.out.below (HIN.out _ _ HR.out)).at hx
   obtain ⟨v0, rfl, hm0⟩ := hc
   obtain ⟨lp, lcap, rfl⟩ := hm0.slice
   obtain ⟨ln, hln⟩ : ∃ ln, x.marks.length = ln := ⟨_, rfl⟩
   rw [hln] at hm0 hcell
   clear hln
   have d0 := hcell 0 _ rfl
   have d1 := hcell 1 _ rfl
   have d2 := hcell 2 _ rfl
   have d3 := hcell 3 _ rfl
   have d4 := hcell 4 _ rfl
   have d5 := hcell 5 _ rfl
   have d6 := hcell 6 _ rfl
   have d7 := hcell 7 _ rfl
   rw [show rowL.size = 8 from rfl] at d0 d1 d2 d3 d4 d5 d6 d7
   rw [Nat.add_zero] at d0
   have hki : (0 : Int) ≤ k ∧ (k : Int) < n := by omega
   go_wp2_with fail
   have hbe : Below wr.heap.size wr (wr.alloc (.cells #[.string ⟨x.name.toArray⟩, .int .i64 x.x, .int .i64 x.y, .int .i64 x.first, .int .i64 x.last, .int .i64 x.step, .slice lp ln lcap, .int .i64 x.pos] 40)) := (Below.refl _ _).alloc (Nat.le_refl _) _
   have hbB : B ≤ wr.heap.size := Nat.le_trans HB0.out HR.out.kp.size
   have HRE : Hid (Wrote b w0 u0 (wr.alloc (.cells #[.string ⟨x.name.toArray⟩, .int .i64 x.x, .int .i64 x.y, .int .i64 x.first, .int .i64 x.last, .int .i64 x.step, .slice lp ln lcap, .int .i64 x.pos] 40)) uo) := hid (HR.out.trans ((Wrote.refl b _ uo).later hbe))
   have HM0 : Hid (Lk markL (wr.alloc (.cells #[.string ⟨x.name.toArray⟩, .int .i64 x.x, .int .i64 x.y, .int .i64 x.first, .int .i64 x.last, .int .i64 x.step, .slice lp ln lcap, .int .i64 x.pos] 40)) B (.slice lp ln lcap) x.marks) := hid (hm0.below (hbe.mono hbB))
   have K100 := hid (HV.out.later hbe); have HB1 : Hid (B ≤ (wr.alloc (.cells #[.string ⟨x.name.toArray⟩, .int .i64 x.x, .int .i64 x.y, .int .i64 x.first, .int .i64 x.last, .int .i64 x.step, .slice lp ln lcap, .int .i64 x.pos] 40)).heap.size) := hid (Nat.le_trans hbB hbe.size)
   have HBE : Hid (∀ w' v', Wrote b (wr.alloc (.cells #[.string ⟨x.name.toArray⟩, .int .i64 x.x, .int .i64 x.y, .int .i64 x.first, .int .i64 x.last, .int .i64 x.step, .slice lp ln lcap, .int .i64 x.pos] 40)) uo w' v' → Blk w' wr.heap.size 40 [.string ⟨x.name.toArray⟩, .int .i64 x.x, .int .i64 x.y, .int .i64 x.first, .int .i64 x.last, .int .i64 x.step, .slice lp ln lcap, .int .i64 x.pos]) := hid fun w' v' k => (k.kept (k := wr.heap.size) (by simp) (by have := HV.out.lt; omega) (fun e => by have := (HV.out.vlow e).2; omega)).1.trans (Blk.new wr 40 [.string ⟨x.name.toArray⟩, .int .i64 x.x, .int .i64 x.y, .int .i64 x.first, .int .i64 x.last, .int .i64 x.step, .slice lp ln lcap, .int .i64 x.pos])
   obtain ⟨w100, hw100⟩ : ∃ w100, (wr.alloc (.cells #[.string ⟨x.name.toArray⟩, .int .i64 x.x, .int .i64 x.y, .int .i64 x.first, .int .i64 x.last, .int .i64 x.step, .slice lp ln lcap, .int .i64 x.pos] 40)) = w100 := ⟨_, rfl⟩
   rw [hw100] at HRE K100 HB1 HBE HM0
   have R100 := hid (Wrote.refl b w100 uo)
   have HST := hid hst
   clear hx hst ht hcell hbe hlb hbB
   have HC := hid (row_any x (hx2 _ hm) lp ln lcap w100 uo t K100.out (Nat.le_trans HB1.out R100.out.kp.size) (HEW.out _ _ (HRE.out.trans R100.out)) HM0.out)
   try rw [hw100]
   refine HC.out.mono ?_; rintro e w101 ⟨rfl, u101, k1, k2⟩
   have K101 := hid k1; have R101 := hid (R100.out.trans k2)
   clear k1 k2 HC K100 R100
   have RZ := hid (HRE.out.trans R101.out)
   clear HRE cf d0 d1 d2 d3 d4 d5 d6 d7
   have cf := (HBK.out _ _ RZ.out).cell (i := 1) rfl
   go_wp2
   go_roundw
   case rel => exact ⟨k + 1, u101, by go_num, by omega, by rw [HST.out]; exact K101, RZ⟩
   case measure => simp [intOf]; omega
  ·have hkn2 : k = n := by omega
   subst hkn2
   rw [show x0.rows.take k = x0.rows from List.take_of_length_le (by have := HL.out.len.1; omega)] at HV
   clear cf hkn hk hnb
   obtain ⟨u4, hu4⟩ : ∃ u, u = uo := ⟨uo, rfl⟩
   rw [← hu4] at HV HR
   generalize wr = w4 at *
   have K4 := HV; have R4 := HR
   clear HV HR K3 R3 hu4
   have HC := hid (end_any w4 u4 _ K4.out (Nat.le_trans HB0.out R4.out.kp.size) (by rw [opn_fold (fun s r => opn_row r s), ← HS1.out, opn_begin]; omega))
   go_wp2_with fail
   refine HC.out.mono ?_; rintro e w5 ⟨rfl, u5, k1, k2⟩
   have K5 := hid k1; have R5 := hid (R4.out.trans k2)
   clear k1 k2 HC K4 R4
   have HE : Hid (blockS x0 s = endS (x0.rows.foldl (fun s x => rowS x s) (S1))) := hid (by rw [← HS1.out]; rfl)
   go_wp2
   go_end0
   subst hu0
   exact ⟨rfl, u5, by rw [HE.out]; exact K5.out, HFIN.out _ _ R5.out⟩
end Go.Proofs.YtilfpnkcgjonhaaGreatDoor.Pr
namespace Go.Proofs.YtilfpnkcgjonhaaGreatDoor.Pr
open Go.RowKit Go.Sort Foyer.Printer Foyer.Lexer Foyer.Round
set_option linter.unusedSimpArgs false in
set_option maxRecDepth 100000 in
set_option maxHeartbeats 4000000 in
theorem level_any {B b : Nat} {T : TypeId} (l : LevelZ) (hx : LevelZ.Fit l) (p1 p2 p3 p4 p5 : Option Addr) (n1 c1 n2 c2 n3 c3 n4 c4 n5 c5 : Nat) (w : World) (v : Value) (s : St) (h : WR B b T w v s) (hB : B ≤ w.heap.size) (hE : EnvAt B w) (hop : s.opn ≤ 4) (hm : LevelIn w B l (.slice p1 n1 c1) (.slice p2 n2 c2) (.slice p3 n3 c3) (.slice p4 n4 c4) (.slice p5 n5 c5)) :
  Calls Tryz.prog 42 #[.pointer (some ⟨b, 0, none⟩), .agg #[.string ⟨l.name.toArray⟩, .int .i64 l.height, .slice p1 n1 c1, .slice p2 n2 c2, .slice p3 n3 c3, .slice p4 n4 c4, .slice p5 n5 c5, .int .i64 l.pos]] w fun e w' => e = .returned (.tuple #[]) ∧ Step B b T w v (levelS l s) w' := by
 have hb0 : Below w.heap.size w (w.alloc (.cells #[.string ⟨l.name.toArray⟩, .int .i64 l.height, .slice p1 n1 c1, .slice p2 n2 c2, .slice p3 n3 c3, .slice p4 n4 c4, .slice p5 n5 c5, .int .i64 l.pos] 50)) := (Below.refl _ _).alloc (Nat.le_refl _) _
 have hR : Wrote b w v (w.alloc (.cells #[.string ⟨l.name.toArray⟩, .int .i64 l.height, .slice p1 n1 c1, .slice p2 n2 c2, .slice p3 n3 c3, .slice p4 n4 c4, .slice p5 n5 c5, .int .i64 l.pos] 50)) v := (Wrote.refl b _ v).later hb0
 have HBK : Hid (∀ w' v', Wrote b (w.alloc (.cells #[.string ⟨l.name.toArray⟩, .int .i64 l.height, .slice p1 n1 c1, .slice p2 n2 c2, .slice p3 n3 c3, .slice p4 n4 c4, .slice p5 n5 c5, .int .i64 l.pos] 50)) v w' v' → Blk w' w.heap.size 50 [.string ⟨l.name.toArray⟩, .int .i64 l.height, .slice p1 n1 c1, .slice p2 n2 c2, .slice p3 n3 c3, .slice p4 n4 c4, .slice p5 n5 c5, .int .i64 l.pos]) := hid fun w' v' k => (k.kept (k := w.heap.size) (by simp) (by have := h.lt; omega) (fun e => by have := (h.vlow e).2; omega)).1.trans (Blk.new w 50 [.string ⟨l.name.toArray⟩, .int .i64 l.height, .slice p1 n1 c1, .slice p2 n2 c2, .slice p3 n3 c3, .slice p4 n4 c4, .slice p5 n5 c5, .int .i64 l.pos])
 have HB0 : Hid (B ≤ (w.alloc (.cells #[.string ⟨l.name.toArray⟩, .int .i64 l.height, .slice p1 n1 c1, .slice p2 n2 c2, .slice p3 n3 c3, .slice p4 n4 c4, .slice p5 n5 c5, .int .i64 l.pos] 50)).heap.size) := hid (by simp; omega)
 have HEW : Hid (∀ w' v', Wrote b (w.alloc (.cells #[.string ⟨l.name.toArray⟩, .int .i64 l.height, .slice p1 n1 c1, .slice p2 n2 c2, .slice p3 n3 c3, .slice p4 n4 c4, .slice p5 n5 c5, .int .i64 l.pos] 50)) v w' v' → EnvAt B w') := hid fun w' v' k => hE.below ((hb0.mono hB).trans ((h.later hb0).wrote (by simp; omega) k))
 have HIN : Hid (∀ w' v', Wrote b (w.alloc (.cells #[.string ⟨l.name.toArray⟩, .int .i64 l.height, .slice p1 n1 c1, .slice p2 n2 c2, .slice p3 n3 c3, .slice p4 n4 c4, .slice p5 n5 c5, .int .i64 l.pos] 50)) v w' v' → Below B w w') := hid fun w' v' k => (hb0.mono hB).trans ((h.later hb0).wrote (by simp; omega) k)
 have K0 := hid (h.later hb0)
 have HFIN : Hid (∀ w' v', Wrote b (w.alloc (.cells #[.string ⟨l.name.toArray⟩, .int .i64 l.height, .slice p1 n1 c1, .slice p2 n2 c2, .slice p3 n3 c3, .slice p4 n4 c4, .slice p5 n5 c5, .int .i64 l.pos] 50)) v w' v' → Wrote b w v w' v') := hid fun w' v' k => hR.trans k
 obtain ⟨w0, hw0⟩ : ∃ w0, w.alloc (.cells #[.string ⟨l.name.toArray⟩, .int .i64 l.height, .slice p1 n1 c1, .slice p2 n2 c2, .slice p3 n3 c3, .slice p4 n4 c4, .slice p5 n5 c5, .int .i64 l.pos] 50) = w0 := ⟨_, rfl⟩
 obtain ⟨u0, hu0⟩ : ∃ u0, u0 = v := ⟨v, rfl⟩
 rw [hw0] at HBK HB0 HEW HIN HFIN K0
 rw [← hu0] at HBK HEW HIN HFIN K0
 have R0 := hid (Wrote.refl b w0 u0)
 have HL1 := hid hm.blocks; have HL2 := hid hm.areas; have HL3 := hid hm.aisles; have HL4 := hid hm.pillars; have HL5 := hid hm.doors
 obtain ⟨x1, x2, x3, x4, x5, x6, x7⟩ := hx
 clear hm
 clear h hb0 hR hE hB
 go_enter Tryz.func42, Tryz.ntmps42
 have HC := hid (word_any wLevel (by decide) w0 u0 _ K0.out (Nat.le_trans HB0.out R0.out.kp.size))
 go_wp2_with fail
 try rw [hw0]
 refine HC.out.mono ?_; rintro e w1 ⟨rfl, u1, k1, k2⟩
 have K1 := hid k1; have R1 := hid (R0.out.trans k2)
 clear k1 k2 HC K0 R0
 go_upto_region 2 with fail
 refine wp_region_any (by kernel_rfl) ?_
 have KA := hid K1.out.drew; have RA := hid R1.out.drew
 have hS0 : Blk w1.drew w.heap.size 50 [.string ⟨l.name.toArray⟩, .int .i64 l.height, .slice p1 n1 c1, .slice p2 n2 c2, .slice p3 n3 c3, .slice p4 n4 c4, .slice p5 n5 c5, .int .i64 l.pos] := HBK.out _ _ RA.out
 refine any_of_held (S := fun W => Blk W w.heap.size 50 [.string ⟨l.name.toArray⟩, .int .i64 l.height, .slice p1 n1 c1, .slice p2 n2 c2, .slice p3 n3 c3, .slice p4 n4 c4, .slice p5 n5 c5, .int .i64 l.pos]) (N := []) _ _ _ _ ?_
 change held _ _ _ _ _ _ _ _ _ w1.drew
 obtain ⟨wa, hwa⟩ : ∃ wa, w1.drew = wa := ⟨_, rfl⟩
 rw [hwa] at hS0 KA RA ⊢
 clear hwa K1 R1
 refine held_take [] (i := 0) (v := .pointer (some ⟨b, 0, none⟩)) rfl (by kernel_rfl) (fun _ _ _ h => h) (Or.inl ⟨by rfl, fun w' hS => by go_simp⟩) hS0 ?_
 try simp only [Act.put, aA, aB, aC]
 refine held_take [] (i := 1) (v := .pointer (some ⟨b, 0, none⟩)) rfl (by kernel_rfl) (fun _ _ _ h => h) (Or.inl ⟨by rfl, fun w' hS => by go_simp⟩) hS0 ?_
 try simp only [Act.put, aA, aB, aC]
 refine held_take [] (i := 2) (v := .pointer (some ⟨b, 0, none⟩)) rfl (by kernel_rfl) (fun _ _ _ h => h) (Or.inl ⟨by rfl, fun w' hS => by go_simp⟩) hS0 ?_
 try simp only [Act.put, aA, aB, aC]
 refine held_take [] (i := 3) (v := .pointer (some ⟨w.heap.size, 0, none⟩)) rfl (by kernel_rfl) (fun _ _ _ h => h) (Or.inl ⟨by rfl, fun w' hS => by go_simp⟩) hS0 ?_
 try simp only [Act.put, aA, aB, aC]
 refine held_take [] (i := 4) (v := .string ⟨l.name.toArray⟩) rfl (by kernel_rfl) (fun _ _ _ h => h) (Or.inl ⟨by rfl, fun w' hS => by have hc := hS.cell (i := 0) rfl; go_simp⟩) hS0 ?_
 try simp only [Act.put, aA, aB, aC]
 refine held_one (i := 5) rfl (by kernel_rfl) (fun K hK => ?_)
 go_simp
 refine hK.out _ _ (fun _ => hS0.alloc _) ?_
 clear hK K
 try simp only [Act.put, aA, aB, aC]
 refine held_one (i := 6) rfl (by kernel_rfl) (fun K hK => ?_)
 go_simp
 have HC := hid (name_new l.name x1 wa u1 _ KA.out (Nat.le_trans HB0.out RA.out.kp.size))
 refine HC.out.mono ?_; rintro e w2 ⟨rfl, u2, k1, k2⟩
 have K2 := hid k1; have R2 := hid (RA.out.trans k2)
 refine hK.out _ _ (fun _ => HBK.out _ _ R2.out) ?_
 clear hK K k1 k2 HC KA RA hS0
 try simp only [Act.put, aA, aB, aC]
 refine held_done (by kernel_rfl) ?_ _
 have HC := hid (word_any wHeight (by decide) w2 u2 _ K2.out (Nat.le_trans HB0.out R2.out.kp.size))
 go_wp2_with fail
 refine HC.out.mono ?_; rintro e w3 ⟨rfl, u3, k1, k2⟩
 have K3 := hid k1; have R3 := hid (R2.out.trans k2)
 clear k1 k2 HC K2 R2
 go_upto_region 4 with fail
 refine wp_region_any (by kernel_rfl) ?_
 have KA := hid K3.out.drew; have RA := hid R3.out.drew
 have hS0 : Blk w3.drew w.heap.size 50 [.string ⟨l.name.toArray⟩, .int .i64 l.height, .slice p1 n1 c1, .slice p2 n2 c2, .slice p3 n3 c3, .slice p4 n4 c4, .slice p5 n5 c5, .int .i64 l.pos] := HBK.out _ _ RA.out
 refine any_of_held (S := fun W => Blk W w.heap.size 50 [.string ⟨l.name.toArray⟩, .int .i64 l.height, .slice p1 n1 c1, .slice p2 n2 c2, .slice p3 n3 c3, .slice p4 n4 c4, .slice p5 n5 c5, .int .i64 l.pos]) (N := []) _ _ _ _ ?_
 change held _ _ _ _ _ _ _ _ _ w3.drew
 obtain ⟨wa, hwa⟩ : ∃ wa, w3.drew = wa := ⟨_, rfl⟩
 rw [hwa] at hS0 KA RA ⊢
 clear hwa K3 R3
 refine held_take [] (i := 0) (v := .pointer (some ⟨b, 0, none⟩)) rfl (by kernel_rfl) (fun _ _ _ h => h) (Or.inl ⟨by rfl, fun w' hS => by go_simp⟩) hS0 ?_
 try simp only [Act.put, aA, aB, aC]
 refine held_take [] (i := 1) (v := .pointer (some ⟨b, 0, none⟩)) rfl (by kernel_rfl) (fun _ _ _ h => h) (Or.inl ⟨by rfl, fun w' hS => by go_simp⟩) hS0 ?_
 try simp only [Act.put, aA, aB, aC]
 refine held_take [] (i := 2) (v := .pointer (some ⟨b, 0, none⟩)) rfl (by kernel_rfl) (fun _ _ _ h => h) (Or.inl ⟨by rfl, fun w' hS => by go_simp⟩) hS0 ?_
 try simp only [Act.put, aA, aB, aC]
 refine held_take [] (i := 3) (v := .pointer (some ⟨w.heap.size, 1, none⟩)) rfl (by kernel_rfl) (fun _ _ _ h => h) (Or.inl ⟨by rfl, fun w' hS => by go_simp⟩) hS0 ?_
 try simp only [Act.put, aA, aB, aC]
 refine held_take [] (i := 4) (v := .int .i64 l.height) rfl (by kernel_rfl) (fun _ _ _ h => h) (Or.inl ⟨by rfl, fun w' hS => by have hc := hS.cell (i := 1) rfl; go_simp⟩) hS0 ?_
 try simp only [Act.put, aA, aB, aC]
 refine held_one (i := 5) rfl (by kernel_rfl) (fun K hK => ?_)
 go_simp
 refine hK.out _ _ (fun _ => hS0.alloc _) ?_
 clear hK K
 try simp only [Act.put, aA, aB, aC]
 refine held_one (i := 6) rfl (by kernel_rfl) (fun K hK => ?_)
 go_simp
 have HC := hid (numbers_new [l.height] (by intro z hz; simp only [List.mem_cons, List.not_mem_nil, or_false] at hz; rcases hz with rfl <;> assumption) (by simp) wa u3 _ KA.out (Nat.le_trans HB0.out RA.out.kp.size) (HEW.out _ _ (RA.out)))
 refine HC.out.mono ?_; rintro e w4 ⟨rfl, u4, k1, k2⟩
 have K4 := hid k1; have R4 := hid (RA.out.trans k2)
 refine hK.out _ _ (fun _ => HBK.out _ _ R4.out) ?_
 clear hK K k1 k2 HC KA RA hS0
 try simp only [Act.put, aA, aB, aC]
 refine held_done (by kernel_rfl) ?_ _
 have HC := hid (begin_any w4 u4 _ K4.out (Nat.le_trans HB0.out R4.out.kp.size) (by simp only [opn_numbers, opn_names, opn_word]; omega))
 go_wp2_with fail
 refine HC.out.mono ?_; rintro e w5 ⟨rfl, u5, k1, k2⟩
 have K5 := hid k1; have R5 := hid (R4.out.trans k2)
 clear k1 k2 HC K4 R4
 obtain ⟨S1, hS⟩ : ∃ S, beginS (numbersS [l.height] (wordS wHeight (namesS [l.name] (wordS wLevel (s))))) = S := ⟨_, rfl⟩
 have HS1 := hid hS
 replace K5 : Hid (WR B b T w5 u5 S1) := hid (by rw [← hS]; exact K5.out)
 clear hS
 have cf := (HBK.out _ _ R5.out).cell (i := 2) rfl
 go_wp2
 go_loopw [43] (fun i wr => ∃ (k : Nat) (uo : Value), i = .int .i64 k ∧ k ≤ n1 ∧ Hid (WR B b T wr uo ((l.blocks.take k).foldl (fun s x => blockS x s) (S1))) ∧ Hid (Wrote b w0 u0 wr uo)) (fun i _ => n1 - (intOf i).toNat)
 case atStart => exact ⟨0, u5, rfl, Nat.zero_le _, hid (by rw [List.take_zero, List.foldl_nil]; exact K5.out), R5⟩
 case round =>
  have hnb : n1 ≤ 9223372036854775807 := by have := HL1.out.len.2; unfold maxLen at this; omega
  obtain ⟨k, uo, rfl, hk, HV, HR⟩ := hrel
  clear cf
  have cf := (HBK.out _ _ HR.out).cell (i := 2) rfl
  by_cases hkn : k < n1
  ·obtain ⟨x, hx⟩ : ∃ x, l.blocks[k]? = some x := ⟨_, List.getElem?_eq_getElem (by have := HL1.out.len.1; omega)⟩
   have hm := List.mem_of_getElem? hx
   have hst := take_fold (fun s x => blockS x s) l.blocks (S1) hx
   obtain ⟨t, ht⟩ : ∃ t, (l.blocks.take k).foldl (fun s x => blockS x s) (S1) = t := ⟨_, rfl⟩
   rw [ht] at hst HV
   obtain ⟨lb, lo, c, rfl, hlb, hc, hcell⟩ := (HL1.out.below (HIN.out _ _ HR.out)).at hx
   obtain ⟨v0, rfl, hm0⟩ := hc
   obtain ⟨lp, lcap, rfl⟩ := hm0.slice
   obtain ⟨ln, hln⟩ : ∃ ln, x.rows.length = ln := ⟨_, rfl⟩
   rw [hln] at hm0 hcell
   clear hln
   have d0 := hcell 0 _ rfl
   have d1 := hcell 1 _ rfl
   have d2 := hcell 2 _ rfl
   rw [show blockL.size = 3 from rfl] at d0 d1 d2
   rw [Nat.add_zero] at d0
   have hki : (0 : Int) ≤ k ∧ (k : Int) < n1 := by omega
   go_wp2_with fail
   have hbe : Below wr.heap.size wr (wr.alloc (.cells #[.string ⟨x.name.toArray⟩, .slice lp ln lcap, .int .i64 x.pos] 44)) := (Below.refl _ _).alloc (Nat.le_refl _) _
   have hbB : B ≤ wr.heap.size := Nat.le_trans HB0.out HR.out.kp.size
   have HRE : Hid (Wrote b w0 u0 (wr.alloc (.cells #[.string ⟨x.name.toArray⟩, .slice lp ln lcap, .int .i64 x.pos] 44)) uo) := hid (HR.out.trans ((Wrote.refl b _ uo).later hbe))
   have HM0 : Hid (Lk rowL (wr.alloc (.cells #[.string ⟨x.name.toArray⟩, .slice lp ln lcap, .int .i64 x.pos] 44)) B (.slice lp ln lcap) x.rows) := hid (hm0.below (hbe.mono hbB)); have HT : Hid (t.opn ≤ 5) := hid (by rw [← ht, opn_fold (fun s r => opn_block r s), ← HS1.out, opn_begin]; simp only [opn_numbers, opn_names, opn_word]; omega)
   have K100 := hid (HV.out.later hbe); have HB1 : Hid (B ≤ (wr.alloc (.cells #[.string ⟨x.name.toArray⟩, .slice lp ln lcap, .int .i64 x.pos] 44)).heap.size) := hid (Nat.le_trans hbB hbe.size)
   have HBE : Hid (∀ w' v', Wrote b (wr.alloc (.cells #[.string ⟨x.name.toArray⟩, .slice lp ln lcap, .int .i64 x.pos] 44)) uo w' v' → Blk w' wr.heap.size 44 [.string ⟨x.name.toArray⟩, .slice lp ln lcap, .int .i64 x.pos]) := hid fun w' v' k => (k.kept (k := wr.heap.size) (by simp) (by have := HV.out.lt; omega) (fun e => by have := (HV.out.vlow e).2; omega)).1.trans (Blk.new wr 44 [.string ⟨x.name.toArray⟩, .slice lp ln lcap, .int .i64 x.pos])
   obtain ⟨w100, hw100⟩ : ∃ w100, (wr.alloc (.cells #[.string ⟨x.name.toArray⟩, .slice lp ln lcap, .int .i64 x.pos] 44)) = w100 := ⟨_, rfl⟩
   rw [hw100] at HRE K100 HB1 HBE HM0
   have R100 := hid (Wrote.refl b w100 uo)
   have HST := hid hst
   clear hx hst ht hcell hbe hlb hbB
   have HC := hid (block_any x (x3 _ hm) lp ln lcap w100 uo t K100.out (Nat.le_trans HB1.out R100.out.kp.size) (HEW.out _ _ (HRE.out.trans R100.out)) HT.out HM0.out)
   try rw [hw100]
   refine HC.out.mono ?_; rintro e w101 ⟨rfl, u101, k1, k2⟩
   have K101 := hid k1; have R101 := hid (R100.out.trans k2)
   clear k1 k2 HC K100 R100
   have RZ := hid (HRE.out.trans R101.out)
   clear HRE cf d0 d1 d2
   have cf := (HBK.out _ _ RZ.out).cell (i := 2) rfl
   go_wp2
   go_roundw
   case rel => exact ⟨k + 1, u101, by go_num, by omega, by rw [HST.out]; exact K101, RZ⟩
   case measure => simp [intOf]; omega
  ·have hkn2 : k = n1 := by omega
   subst hkn2
   rw [show l.blocks.take k = l.blocks from List.take_of_length_le (by have := HL1.out.len.1; omega)] at HV
   clear cf hkn hk hnb
   obtain ⟨u6, hu6⟩ : ∃ u, u = uo := ⟨uo, rfl⟩
   rw [← hu6] at HV HR
   generalize wr = w6 at *
   have K6 := HV; have R6 := HR
   clear HV HR K5 R5 hu6
   obtain ⟨S2, hS⟩ : ∃ S, l.blocks.foldl (fun s x => blockS x s) (S1) = S := ⟨_, rfl⟩
   have HS2 := hid hS
   replace K6 : Hid (WR B b T w6 u6 S2) := hid (by rw [← hS]; exact K6.out)
   clear hS
   have cf := (HBK.out _ _ R6.out).cell (i := 3) rfl
   go_wp2
   go_loopw [54] (fun i wr => ∃ (k : Nat) (uo : Value), i = .int .i64 k ∧ k ≤ n2 ∧ Hid (WR B b T wr uo ((l.areas.take k).foldl (fun s x => areaS x s) (S2))) ∧ Hid (Wrote b w0 u0 wr uo)) (fun i _ => n2 - (intOf i).toNat)
   case atStart => exact ⟨0, u6, rfl, Nat.zero_le _, hid (by rw [List.take_zero, List.foldl_nil]; exact K6.out), R6⟩
   case round =>
    have hnb : n2 ≤ 9223372036854775807 := by have := HL2.out.len.2; unfold maxLen at this; omega
    obtain ⟨k, uo, rfl, hk, HV, HR⟩ := hrel
    clear cf
    have cf := (HBK.out _ _ HR.out).cell (i := 3) rfl
    by_cases hkn : k < n2
    ·obtain ⟨x, hx⟩ : ∃ x, l.areas[k]? = some x := ⟨_, List.getElem?_eq_getElem (by have := HL2.out.len.1; omega)⟩
     have hm := List.mem_of_getElem? hx
     have hst := take_fold (fun s x => areaS x s) l.areas (S2) hx
     obtain ⟨t, ht⟩ : ∃ t, (l.areas.take k).foldl (fun s x => areaS x s) (S2) = t := ⟨_, rfl⟩
     rw [ht] at hst HV
     obtain ⟨lb, lo, c, rfl, hlb, hc, hcell⟩ := (HL2.out.below (HIN.out _ _ HR.out)).at hx
     obtain rfl := hc
     have d0 := hcell 0 _ rfl
     have d1 := hcell 1 _ rfl
     have d2 := hcell 2 _ rfl
     have d3 := hcell 3 _ rfl
     have d4 := hcell 4 _ rfl
     have d5 := hcell 5 _ rfl
     have d6 := hcell 6 _ rfl
     rw [show areaL.size = 7 from rfl] at d0 d1 d2 d3 d4 d5 d6
     rw [Nat.add_zero] at d0
     have hki : (0 : Int) ≤ k ∧ (k : Int) < n2 := by omega
     go_wp2_with fail
     have hbe : Below wr.heap.size wr (wr.alloc (.cells #[.string ⟨x.name.toArray⟩, .int .i64 x.box.x, .int .i64 x.box.y, .int .i64 x.box.x2, .int .i64 x.box.y2, .int .i64 x.holds, .int .i64 x.pos] 76)) := (Below.refl _ _).alloc (Nat.le_refl _) _
     have hbB : B ≤ wr.heap.size := Nat.le_trans HB0.out HR.out.kp.size
     have HRE : Hid (Wrote b w0 u0 (wr.alloc (.cells #[.string ⟨x.name.toArray⟩, .int .i64 x.box.x, .int .i64 x.box.y, .int .i64 x.box.x2, .int .i64 x.box.y2, .int .i64 x.holds, .int .i64 x.pos] 76)) uo) := hid (HR.out.trans ((Wrote.refl b _ uo).later hbe))
     have K200 := hid (HV.out.later hbe); have HB1 : Hid (B ≤ (wr.alloc (.cells #[.string ⟨x.name.toArray⟩, .int .i64 x.box.x, .int .i64 x.box.y, .int .i64 x.box.x2, .int .i64 x.box.y2, .int .i64 x.holds, .int .i64 x.pos] 76)).heap.size) := hid (Nat.le_trans hbB hbe.size)
     have HBE : Hid (∀ w' v', Wrote b (wr.alloc (.cells #[.string ⟨x.name.toArray⟩, .int .i64 x.box.x, .int .i64 x.box.y, .int .i64 x.box.x2, .int .i64 x.box.y2, .int .i64 x.holds, .int .i64 x.pos] 76)) uo w' v' → Blk w' wr.heap.size 76 [.string ⟨x.name.toArray⟩, .int .i64 x.box.x, .int .i64 x.box.y, .int .i64 x.box.x2, .int .i64 x.box.y2, .int .i64 x.holds, .int .i64 x.pos]) := hid fun w' v' k => (k.kept (k := wr.heap.size) (by simp) (by have := HV.out.lt; omega) (fun e => by have := (HV.out.vlow e).2; omega)).1.trans (Blk.new wr 76 [.string ⟨x.name.toArray⟩, .int .i64 x.box.x, .int .i64 x.box.y, .int .i64 x.box.x2, .int .i64 x.box.y2, .int .i64 x.holds, .int .i64 x.pos])
     obtain ⟨w200, hw200⟩ : ∃ w200, (wr.alloc (.cells #[.string ⟨x.name.toArray⟩, .int .i64 x.box.x, .int .i64 x.box.y, .int .i64 x.box.x2, .int .i64 x.box.y2, .int .i64 x.holds, .int .i64 x.pos] 76)) = w200 := ⟨_, rfl⟩
     rw [hw200] at HRE K200 HB1 HBE
     have R200 := hid (Wrote.refl b w200 uo)
     have HST := hid hst
     clear hx hst ht hcell hbe hlb hbB
     have HC := hid (area_any x (x4 _ hm) w200 uo t K200.out (Nat.le_trans HB1.out R200.out.kp.size) (HEW.out _ _ (HRE.out.trans R200.out)))
     try rw [hw200]
     refine HC.out.mono ?_; rintro e w201 ⟨rfl, u201, k1, k2⟩
     have K201 := hid k1; have R201 := hid (R200.out.trans k2)
     clear k1 k2 HC K200 R200
     have RZ := hid (HRE.out.trans R201.out)
     clear HRE cf d0 d1 d2 d3 d4 d5 d6
     have cf := (HBK.out _ _ RZ.out).cell (i := 3) rfl
     go_wp2
     go_roundw
     case rel => exact ⟨k + 1, u201, by go_num, by omega, by rw [HST.out]; exact K201, RZ⟩
     case measure => simp [intOf]; omega
    ·have hkn2 : k = n2 := by omega
     subst hkn2
     rw [show l.areas.take k = l.areas from List.take_of_length_le (by have := HL2.out.len.1; omega)] at HV
     clear cf hkn hk hnb
     obtain ⟨u7, hu7⟩ : ∃ u, u = uo := ⟨uo, rfl⟩
     rw [← hu7] at HV HR
     generalize wr = w7 at *
     have K7 := HV; have R7 := HR
     clear HV HR K6 R6 hu7
     obtain ⟨S3, hS⟩ : ∃ S, l.areas.foldl (fun s x => areaS x s) (S2) = S := ⟨_, rfl⟩
     have HS3 := hid hS
     replace K7 : Hid (WR B b T w7 u7 S3) := hid (by rw [← hS]; exact K7.out)
     clear hS
     have cf := (HBK.out _ _ R7.out).cell (i := 4) rfl
     go_wp2
     go_loopw [65] (fun i wr => ∃ (k : Nat) (uo : Value), i = .int .i64 k ∧ k ≤ n3 ∧ Hid (WR B b T wr uo ((l.aisles.take k).foldl (fun s x => aisleS x s) (S3))) ∧ Hid (Wrote b w0 u0 wr uo)) (fun i _ => n3 - (intOf i).toNat)
     case atStart => exact ⟨0, u7, rfl, Nat.zero_le _, hid (by rw [List.take_zero, List.foldl_nil]; exact K7.out), R7⟩
     case round =>
      have hnb : n3 ≤ 9223372036854775807 := by have := HL3.out.len.2; unfold maxLen at this; omega
      obtain ⟨k, uo, rfl, hk, HV, HR⟩ := hrel
      clear cf
      have cf := (HBK.out _ _ HR.out).cell (i := 4) rfl
      by_cases hkn : k < n3
      ·obtain ⟨x, hx⟩ : ∃ x, l.aisles[k]? = some x := ⟨_, List.getElem?_eq_getElem (by have := HL3.out.len.1; omega)⟩
       have hm := List.mem_of_getElem? hx
       have hst := take_fold (fun s x => aisleS x s) l.aisles (S3) hx
       obtain ⟨t, ht⟩ : ∃ t, (l.aisles.take k).foldl (fun s x => aisleS x s) (S3) = t := ⟨_, rfl⟩
       rw [ht] at hst HV
       obtain ⟨lb, lo, c, rfl, hlb, hc, hcell⟩ := (HL3.out.below (HIN.out _ _ HR.out)).at hx
       obtain rfl := hc
       have d0 := hcell 0 _ rfl
       have d1 := hcell 1 _ rfl
       have d2 := hcell 2 _ rfl
       have d3 := hcell 3 _ rfl
       rw [show boxL.size = 4 from rfl] at d0 d1 d2 d3
       rw [Nat.add_zero] at d0
       have hki : (0 : Int) ≤ k ∧ (k : Int) < n3 := by omega
       go_wp2_with fail
       have hbe : Below wr.heap.size wr (wr.alloc (.cells #[.int .i64 x.x, .int .i64 x.y, .int .i64 x.x2, .int .i64 x.y2] 74)) := (Below.refl _ _).alloc (Nat.le_refl _) _
       have hbB : B ≤ wr.heap.size := Nat.le_trans HB0.out HR.out.kp.size
       have HRE : Hid (Wrote b w0 u0 (wr.alloc (.cells #[.int .i64 x.x, .int .i64 x.y, .int .i64 x.x2, .int .i64 x.y2] 74)) uo) := hid (HR.out.trans ((Wrote.refl b _ uo).later hbe))
       have K300 := hid (HV.out.later hbe); have HB1 : Hid (B ≤ (wr.alloc (.cells #[.int .i64 x.x, .int .i64 x.y, .int .i64 x.x2, .int .i64 x.y2] 74)).heap.size) := hid (Nat.le_trans hbB hbe.size)
       have HBE : Hid (∀ w' v', Wrote b (wr.alloc (.cells #[.int .i64 x.x, .int .i64 x.y, .int .i64 x.x2, .int .i64 x.y2] 74)) uo w' v' → Blk w' wr.heap.size 74 [.int .i64 x.x, .int .i64 x.y, .int .i64 x.x2, .int .i64 x.y2]) := hid fun w' v' k => (k.kept (k := wr.heap.size) (by simp) (by have := HV.out.lt; omega) (fun e => by have := (HV.out.vlow e).2; omega)).1.trans (Blk.new wr 74 [.int .i64 x.x, .int .i64 x.y, .int .i64 x.x2, .int .i64 x.y2])
       obtain ⟨w300, hw300⟩ : ∃ w300, (wr.alloc (.cells #[.int .i64 x.x, .int .i64 x.y, .int .i64 x.x2, .int .i64 x.y2] 74)) = w300 := ⟨_, rfl⟩
       rw [hw300] at HRE K300 HB1 HBE
       have R300 := hid (Wrote.refl b w300 uo)
       have HST := hid hst
       clear hx hst ht hcell hbe hlb hbB
       have HC := hid (word_any wAisle (by decide) w300 uo _ K300.out (Nat.le_trans HB1.out R300.out.kp.size))
       try rw [hw300]
       refine HC.out.mono ?_; rintro e w301 ⟨rfl, u301, k1, k2⟩
       have K301 := hid k1; have R301 := hid (R300.out.trans k2)
       clear k1 k2 HC K300 R300
       have ce := HBE.out _ _ R301.out
       have e0 := ce.cell (i := 0) rfl
       have e1 := ce.cell (i := 1) rfl
       have e2 := ce.cell (i := 2) rfl
       have e3 := ce.cell (i := 3) rfl
       clear ce
       have HC := hid (box_any x (x5 _ hm) w301 u301 _ K301.out (Nat.le_trans HB1.out R301.out.kp.size) (HEW.out _ _ (HRE.out.trans R301.out)))
       go_wp2_with fail
       refine HC.out.mono ?_; rintro e w302 ⟨rfl, u302, k1, k2⟩
       have K302 := hid k1; have R302 := hid (R301.out.trans k2)
       clear k1 k2 HC K301 R301
       clear e0 e1 e2 e3
       have HC := hid (line_any [59] (by decide) w302 u302 _ K302.out (Nat.le_trans HB1.out R302.out.kp.size))
       go_wp2_with fail
       refine HC.out.mono ?_; rintro e w303 ⟨rfl, u303, k1, k2⟩
       have K303 := hid k1; have R303 := hid (R302.out.trans k2)
       clear k1 k2 HC K302 R302
       have RZ := hid (HRE.out.trans R303.out)
       clear HRE cf d0 d1 d2 d3
       have cf := (HBK.out _ _ RZ.out).cell (i := 4) rfl
       go_wp2
       go_roundw
       case rel => exact ⟨k + 1, u303, by go_num, by omega, by rw [HST.out]; exact K303, RZ⟩
       case measure => simp [intOf]; omega
      ·have hkn2 : k = n3 := by omega
       subst hkn2
       rw [show l.aisles.take k = l.aisles from List.take_of_length_le (by have := HL3.out.len.1; omega)] at HV
       clear cf hkn hk hnb
       obtain ⟨u8, hu8⟩ : ∃ u, u = uo := ⟨uo, rfl⟩
       rw [← hu8] at HV HR
       generalize wr = w8 at *
       have K8 := HV; have R8 := HR
       clear HV HR K7 R7 hu8
       obtain ⟨S4, hS⟩ : ∃ S, l.aisles.foldl (fun s x => aisleS x s) (S3) = S := ⟨_, rfl⟩
       have HS4 := hid hS
       replace K8 : Hid (WR B b T w8 u8 S4) := hid (by rw [← hS]; exact K8.out)
       clear hS
       have cf := (HBK.out _ _ R8.out).cell (i := 5) rfl
       go_wp2
       go_loopw [84] (fun i wr => ∃ (k : Nat) (uo : Value), i = .int .i64 k ∧ k ≤ n4 ∧ Hid (WR B b T wr uo ((l.pillars.take k).foldl (fun s x => pillarS x s) (S4))) ∧ Hid (Wrote b w0 u0 wr uo)) (fun i _ => n4 - (intOf i).toNat)
       case atStart => exact ⟨0, u8, rfl, Nat.zero_le _, hid (by rw [List.take_zero, List.foldl_nil]; exact K8.out), R8⟩
       case round =>
        have hnb : n4 ≤ 9223372036854775807 := by have := HL4.out.len.2; unfold maxLen at this; omega
        obtain ⟨k, uo, rfl, hk, HV, HR⟩ := hrel
        clear cf
        have cf := (HBK.out _ _ HR.out).cell (i := 5) rfl
        by_cases hkn : k < n4
        ·obtain ⟨x, hx⟩ : ∃ x, l.pillars[k]? = some x := ⟨_, List.getElem?_eq_getElem (by have := HL4.out.len.1; omega)⟩
         have hm := List.mem_of_getElem? hx
         have hst := take_fold (fun s x => pillarS x s) l.pillars (S4) hx
         obtain ⟨t, ht⟩ : ∃ t, (l.pillars.take k).foldl (fun s x => pillarS x s) (S4) = t := ⟨_, rfl⟩
         rw [ht] at hst HV
         obtain ⟨lb, lo, c, rfl, hlb, hc, hcell⟩ := (HL4.out.below (HIN.out _ _ HR.out)).at hx
         obtain rfl := hc
         have d0 := hcell 0 _ rfl
         have d1 := hcell 1 _ rfl
         have d2 := hcell 2 _ rfl
         have d3 := hcell 3 _ rfl
         rw [show boxL.size = 4 from rfl] at d0 d1 d2 d3
         rw [Nat.add_zero] at d0
         have hki : (0 : Int) ≤ k ∧ (k : Int) < n4 := by omega
         go_wp2_with fail
         have hbe : Below wr.heap.size wr (wr.alloc (.cells #[.int .i64 x.x, .int .i64 x.y, .int .i64 x.x2, .int .i64 x.y2] 74)) := (Below.refl _ _).alloc (Nat.le_refl _) _
         have hbB : B ≤ wr.heap.size := Nat.le_trans HB0.out HR.out.kp.size
         have HRE : Hid (Wrote b w0 u0 (wr.alloc (.cells #[.int .i64 x.x, .int .i64 x.y, .int .i64 x.x2, .int .i64 x.y2] 74)) uo) := hid (HR.out.trans ((Wrote.refl b _ uo).later hbe))
         have K400 := hid (HV.out.later hbe); have HB1 : Hid (B ≤ (wr.alloc (.cells #[.int .i64 x.x, .int .i64 x.y, .int .i64 x.x2, .int .i64 x.y2] 74)).heap.size) := hid (Nat.le_trans hbB hbe.size)
         have HBE : Hid (∀ w' v', Wrote b (wr.alloc (.cells #[.int .i64 x.x, .int .i64 x.y, .int .i64 x.x2, .int .i64 x.y2] 74)) uo w' v' → Blk w' wr.heap.size 74 [.int .i64 x.x, .int .i64 x.y, .int .i64 x.x2, .int .i64 x.y2]) := hid fun w' v' k => (k.kept (k := wr.heap.size) (by simp) (by have := HV.out.lt; omega) (fun e => by have := (HV.out.vlow e).2; omega)).1.trans (Blk.new wr 74 [.int .i64 x.x, .int .i64 x.y, .int .i64 x.x2, .int .i64 x.y2])
         obtain ⟨w400, hw400⟩ : ∃ w400, (wr.alloc (.cells #[.int .i64 x.x, .int .i64 x.y, .int .i64 x.x2, .int .i64 x.y2] 74)) = w400 := ⟨_, rfl⟩
         rw [hw400] at HRE K400 HB1 HBE
         have R400 := hid (Wrote.refl b w400 uo)
         have HST := hid hst
         clear hx hst ht hcell hbe hlb hbB
         have HC := hid (word_any wPillar (by decide) w400 uo _ K400.out (Nat.le_trans HB1.out R400.out.kp.size))
         try rw [hw400]
         refine HC.out.mono ?_; rintro e w401 ⟨rfl, u401, k1, k2⟩
         have K401 := hid k1; have R401 := hid (R400.out.trans k2)
         clear k1 k2 HC K400 R400
         have ce := HBE.out _ _ R401.out
         have e0 := ce.cell (i := 0) rfl
         have e1 := ce.cell (i := 1) rfl
         have e2 := ce.cell (i := 2) rfl
         have e3 := ce.cell (i := 3) rfl
         clear ce
         have HC := hid (box_any x (x6 _ hm) w401 u401 _ K401.out (Nat.le_trans HB1.out R401.out.kp.size) (HEW.out _ _ (HRE.out.trans R401.out)))
         go_wp2_with fail
         refine HC.out.mono ?_; rintro e w402 ⟨rfl, u402, k1, k2⟩
         have K402 := hid k1; have R402 := hid (R401.out.trans k2)
         clear k1 k2 HC K401 R401
         clear e0 e1 e2 e3
         have HC := hid (line_any [59] (by decide) w402 u402 _ K402.out (Nat.le_trans HB1.out R402.out.kp.size))
         go_wp2_with fail
         refine HC.out.mono ?_; rintro e w403 ⟨rfl, u403, k1, k2⟩
         have K403 := hid k1; have R403 := hid (R402.out.trans k2)
         clear k1 k2 HC K402 R402
         have RZ := hid (HRE.out.trans R403.out)
         clear HRE cf d0 d1 d2 d3
         have cf := (HBK.out _ _ RZ.out).cell (i := 5) rfl
         go_wp2
         go_roundw
         case rel => exact ⟨k + 1, u403, by go_num, by omega, by rw [HST.out]; exact K403, RZ⟩
         case measure => simp [intOf]; omega
        ·have hkn2 : k = n4 := by omega
         subst hkn2
         rw [show l.pillars.take k = l.pillars from List.take_of_length_le (by have := HL4.out.len.1; omega)] at HV
         clear cf hkn hk hnb
         obtain ⟨u9, hu9⟩ : ∃ u, u = uo := ⟨uo, rfl⟩
         rw [← hu9] at HV HR
         generalize wr = w9 at *
         have K9 := HV; have R9 := HR
         clear HV HR K8 R8 hu9
         obtain ⟨S5, hS⟩ : ∃ S, l.pillars.foldl (fun s x => pillarS x s) (S4) = S := ⟨_, rfl⟩
         have HS5 := hid hS
         replace K9 : Hid (WR B b T w9 u9 S5) := hid (by rw [← hS]; exact K9.out)
         clear hS
         have cf := (HBK.out _ _ R9.out).cell (i := 6) rfl
         go_wp2
         go_loopw [103] (fun i wr => ∃ (k : Nat) (uo : Value), i = .int .i64 k ∧ k ≤ n5 ∧ Hid (WR B b T wr uo ((l.doors.take k).foldl (fun s x => doorS x s) (S5))) ∧ Hid (Wrote b w0 u0 wr uo)) (fun i _ => n5 - (intOf i).toNat)
         case atStart => exact ⟨0, u9, rfl, Nat.zero_le _, hid (by rw [List.take_zero, List.foldl_nil]; exact K9.out), R9⟩
         case round =>
          have hnb : n5 ≤ 9223372036854775807 := by have := HL5.out.len.2; unfold maxLen at this; omega
          obtain ⟨k, uo, rfl, hk, HV, HR⟩ := hrel
          clear cf
          have cf := (HBK.out _ _ HR.out).cell (i := 6) rfl
          by_cases hkn : k < n5
          ·obtain ⟨x, hx⟩ : ∃ x, l.doors[k]? = some x := ⟨_, List.getElem?_eq_getElem (by have := HL5.out.len.1; omega)⟩
           have hm := List.mem_of_getElem? hx
           have hst := take_fold (fun s x => doorS x s) l.doors (S5) hx
           obtain ⟨t, ht⟩ : ∃ t, (l.doors.take k).foldl (fun s x => doorS x s) (S5) = t := ⟨_, rfl⟩
           rw [ht] at hst HV
           obtain ⟨lb, lo, c, rfl, hlb, hc, hcell⟩ := (HL5.out.below (HIN.out _ _ HR.out)).at hx
           obtain rfl := hc
           have d0 := hcell 0 _ rfl
           have d1 := hcell 1 _ rfl
           rw [show pointL.size = 2 from rfl] at d0 d1
           rw [Nat.add_zero] at d0
           have hki : (0 : Int) ≤ k ∧ (k : Int) < n5 := by omega
           go_wp2_with fail
           have hbe : Below wr.heap.size wr (wr.alloc (.cells #[.int .i64 x.x, .int .i64 x.y] 23)) := (Below.refl _ _).alloc (Nat.le_refl _) _
           have hbB : B ≤ wr.heap.size := Nat.le_trans HB0.out HR.out.kp.size
           have HRE : Hid (Wrote b w0 u0 (wr.alloc (.cells #[.int .i64 x.x, .int .i64 x.y] 23)) uo) := hid (HR.out.trans ((Wrote.refl b _ uo).later hbe))
           have K500 := hid (HV.out.later hbe); have HB1 : Hid (B ≤ (wr.alloc (.cells #[.int .i64 x.x, .int .i64 x.y] 23)).heap.size) := hid (Nat.le_trans hbB hbe.size)
           have HBE : Hid (∀ w' v', Wrote b (wr.alloc (.cells #[.int .i64 x.x, .int .i64 x.y] 23)) uo w' v' → Blk w' wr.heap.size 23 [.int .i64 x.x, .int .i64 x.y]) := hid fun w' v' k => (k.kept (k := wr.heap.size) (by simp) (by have := HV.out.lt; omega) (fun e => by have := (HV.out.vlow e).2; omega)).1.trans (Blk.new wr 23 [.int .i64 x.x, .int .i64 x.y])
           obtain ⟨w500, hw500⟩ : ∃ w500, (wr.alloc (.cells #[.int .i64 x.x, .int .i64 x.y] 23)) = w500 := ⟨_, rfl⟩
           rw [hw500] at HRE K500 HB1 HBE
           have R500 := hid (Wrote.refl b w500 uo)
           have HST := hid hst
           clear hx hst ht hcell hbe hlb hbB
           have HC := hid (word_any wDoor (by decide) w500 uo _ K500.out (Nat.le_trans HB1.out R500.out.kp.size))
           try rw [hw500]
           refine HC.out.mono ?_; rintro e w501 ⟨rfl, u501, k1, k2⟩
           have K501 := hid k1; have R501 := hid (R500.out.trans k2)
           clear k1 k2 HC K500 R500
           obtain ⟨y1, y2⟩ := x7 _ hm
           go_upto_region 34 with fail
           refine wp_region_any (by kernel_rfl) ?_
           have KA := hid K501.out.drew; have RA := hid R501.out.drew
           have hS0 : Blk w501.drew wr.heap.size 23 [.int .i64 x.x, .int .i64 x.y] := HBE.out _ _ RA.out
           refine any_of_held (S := fun W => Blk W wr.heap.size 23 [.int .i64 x.x, .int .i64 x.y]) (N := []) _ _ _ _ ?_
           change held _ _ _ _ _ _ _ _ _ w501.drew
           obtain ⟨wa, hwa⟩ : ∃ wa, w501.drew = wa := ⟨_, rfl⟩
           rw [hwa] at hS0 KA RA ⊢
           clear hwa K501 R501
           refine held_take [] (i := 0) (v := .pointer (some ⟨b, 0, none⟩)) rfl (by kernel_rfl) (fun _ _ _ h => h) (Or.inl ⟨by rfl, fun w' hS => by go_simp⟩) hS0 ?_
           try simp only [Act.put, aA, aB, aC]
           refine held_take [] (i := 1) (v := .pointer (some ⟨b, 0, none⟩)) rfl (by kernel_rfl) (fun _ _ _ h => h) (Or.inl ⟨by rfl, fun w' hS => by go_simp⟩) hS0 ?_
           try simp only [Act.put, aA, aB, aC]
           refine held_take [] (i := 2) (v := .pointer (some ⟨b, 0, none⟩)) rfl (by kernel_rfl) (fun _ _ _ h => h) (Or.inl ⟨by rfl, fun w' hS => by go_simp⟩) hS0 ?_
           try simp only [Act.put, aA, aB, aC]
           refine held_take [] (i := 3) (v := .pointer (some ⟨wr.heap.size, 0, none⟩)) rfl (by kernel_rfl) (fun _ _ _ h => h) (Or.inl ⟨by rfl, fun w' hS => by go_simp⟩) hS0 ?_
           try simp only [Act.put, aA, aB, aC]
           refine held_take [] (i := 4) (v := .int .i64 x.x) rfl (by kernel_rfl) (fun _ _ _ h => h) (Or.inl ⟨by rfl, fun w' hS => by have hc := hS.cell (i := 0) rfl; go_simp⟩) hS0 ?_
           try simp only [Act.put, aA, aB, aC]
           refine held_take [] (i := 5) (v := .pointer (some ⟨wr.heap.size, 1, none⟩)) rfl (by kernel_rfl) (fun _ _ _ h => h) (Or.inl ⟨by rfl, fun w' hS => by go_simp⟩) hS0 ?_
           try simp only [Act.put, aA, aB, aC]
           refine held_take [] (i := 6) (v := .int .i64 x.y) rfl (by kernel_rfl) (fun _ _ _ h => h) (Or.inl ⟨by rfl, fun w' hS => by have hc := hS.cell (i := 1) rfl; go_simp⟩) hS0 ?_
           try simp only [Act.put, aA, aB, aC]
           refine held_one (i := 7) rfl (by kernel_rfl) (fun K hK => ?_)
           go_simp
           refine hK.out _ _ (fun _ => hS0.alloc _) ?_
           clear hK K
           try simp only [Act.put, aA, aB, aC]
           refine held_one (i := 8) rfl (by kernel_rfl) (fun K hK => ?_)
           go_simp
           have HC := hid (numbers_new [x.x, x.y] (by intro z hz; simp only [List.mem_cons, List.not_mem_nil, or_false] at hz; rcases hz with rfl | rfl <;> assumption) (by simp) wa u501 _ KA.out (Nat.le_trans HB1.out RA.out.kp.size) (HEW.out _ _ (HRE.out.trans RA.out)))
           refine HC.out.mono ?_; rintro e w502 ⟨rfl, u502, k1, k2⟩
           have K502 := hid k1; have R502 := hid (RA.out.trans k2)
           refine hK.out _ _ (fun _ => HBE.out _ _ R502.out) ?_
           clear hK K k1 k2 HC KA RA hS0
           try simp only [Act.put, aA, aB, aC]
           refine held_done (by kernel_rfl) ?_ _
           have HC := hid (line_any [59] (by decide) w502 u502 _ K502.out (Nat.le_trans HB1.out R502.out.kp.size))
           go_wp2_with fail
           refine HC.out.mono ?_; rintro e w503 ⟨rfl, u503, k1, k2⟩
           have K503 := hid k1; have R503 := hid (R502.out.trans k2)
           clear k1 k2 HC K502 R502
           have RZ := hid (HRE.out.trans R503.out)
           clear HRE cf d0 d1
           have cf := (HBK.out _ _ RZ.out).cell (i := 6) rfl
           go_wp2
           go_roundw
           case rel => exact ⟨k + 1, u503, by go_num, by omega, by rw [HST.out]; exact K503, RZ⟩
           case measure => simp [intOf]; omega
          ·have hkn2 : k = n5 := by omega
           subst hkn2
           rw [show l.doors.take k = l.doors from List.take_of_length_le (by have := HL5.out.len.1; omega)] at HV
           clear cf hkn hk hnb
           obtain ⟨u10, hu10⟩ : ∃ u, u = uo := ⟨uo, rfl⟩
           rw [← hu10] at HV HR
           generalize wr = w10 at *
           have K10 := HV; have R10 := HR
           clear HV HR K9 R9 hu10
           have HC := hid (end_any w10 u10 _ K10.out (Nat.le_trans HB0.out R10.out.kp.size) (by rw [opn_fold (fun s r => opn_door r s), ← HS5.out, opn_fold (fun s r => opn_pillar r s), ← HS4.out, opn_fold (fun s r => opn_aisle r s), ← HS3.out, opn_fold (fun s r => opn_area r s), ← HS2.out, opn_fold (fun s r => opn_block r s), ← HS1.out, opn_begin]; omega))
           go_wp2_with fail
           refine HC.out.mono ?_; rintro e w11 ⟨rfl, u11, k1, k2⟩
           have K11 := hid k1; have R11 := hid (R10.out.trans k2)
           clear k1 k2 HC K10 R10
           have HE : Hid (levelS l s = endS (l.doors.foldl (fun s x => doorS x s) (S5))) := hid (by rw [← HS5.out, ← HS4.out, ← HS3.out, ← HS2.out, ← HS1.out]; rfl)
           go_wp2
           go_end0
           subst hu0
           exact ⟨rfl, u11, by rw [HE.out]; exact K11.out, HFIN.out _ _ R11.out⟩
end Go.Proofs.YtilfpnkcgjonhaaGreatDoor.Pr
namespace Go.Proofs.YtilfpnkcgjonhaaGreatDoor.Pr
open Go.RowKit Go.Sort Foyer.Printer Foyer.Lexer Foyer.Round
set_option linter.unusedSimpArgs false in
set_option maxRecDepth 100000 in
set_option maxHeartbeats 4000000 in
theorem hall_any {B b : Nat} {T : TypeId} (h0 : HallZ) (hx : HallZ.Fit h0) (p : Option Addr) (n cap : Nat) (w : World) (v : Value) (s : St) (h : WR B b T w v s) (hB : B ≤ w.heap.size) (hE : EnvAt B w) (hop : s.opn ≤ 2) (hm : Lk levelL w B (.slice p n cap) h0.levels) :
  Calls Tryz.prog 23 #[.pointer (some ⟨b, 0, none⟩), .agg #[.string ⟨h0.name.toArray⟩, .int .i64 h0.stage.x, .int .i64 h0.stage.y, .slice p n cap]] w fun e w' => e = .returned (.tuple #[]) ∧ Step B b T w v (hallS h0 s) w' := by
 have hb0 : Below w.heap.size w (w.alloc (.cells #[.string ⟨h0.name.toArray⟩, .int .i64 h0.stage.x, .int .i64 h0.stage.y, .slice p n cap] 26)) := (Below.refl _ _).alloc (Nat.le_refl _) _
 have hR : Wrote b w v (w.alloc (.cells #[.string ⟨h0.name.toArray⟩, .int .i64 h0.stage.x, .int .i64 h0.stage.y, .slice p n cap] 26)) v := (Wrote.refl b _ v).later hb0
 have HBK : Hid (∀ w' v', Wrote b (w.alloc (.cells #[.string ⟨h0.name.toArray⟩, .int .i64 h0.stage.x, .int .i64 h0.stage.y, .slice p n cap] 26)) v w' v' → Blk w' w.heap.size 26 [.string ⟨h0.name.toArray⟩, .int .i64 h0.stage.x, .int .i64 h0.stage.y, .slice p n cap]) := hid fun w' v' k => (k.kept (k := w.heap.size) (by simp) (by have := h.lt; omega) (fun e => by have := (h.vlow e).2; omega)).1.trans (Blk.new w 26 [.string ⟨h0.name.toArray⟩, .int .i64 h0.stage.x, .int .i64 h0.stage.y, .slice p n cap])
 have HB0 : Hid (B ≤ (w.alloc (.cells #[.string ⟨h0.name.toArray⟩, .int .i64 h0.stage.x, .int .i64 h0.stage.y, .slice p n cap] 26)).heap.size) := hid (by simp; omega)
 have HEW : Hid (∀ w' v', Wrote b (w.alloc (.cells #[.string ⟨h0.name.toArray⟩, .int .i64 h0.stage.x, .int .i64 h0.stage.y, .slice p n cap] 26)) v w' v' → EnvAt B w') := hid fun w' v' k => hE.below ((hb0.mono hB).trans ((h.later hb0).wrote (by simp; omega) k))
 have HIN : Hid (∀ w' v', Wrote b (w.alloc (.cells #[.string ⟨h0.name.toArray⟩, .int .i64 h0.stage.x, .int .i64 h0.stage.y, .slice p n cap] 26)) v w' v' → Below B w w') := hid fun w' v' k => (hb0.mono hB).trans ((h.later hb0).wrote (by simp; omega) k)
 have K0 := hid (h.later hb0)
 have HFIN : Hid (∀ w' v', Wrote b (w.alloc (.cells #[.string ⟨h0.name.toArray⟩, .int .i64 h0.stage.x, .int .i64 h0.stage.y, .slice p n cap] 26)) v w' v' → Wrote b w v w' v') := hid fun w' v' k => hR.trans k
 obtain ⟨w0, hw0⟩ : ∃ w0, w.alloc (.cells #[.string ⟨h0.name.toArray⟩, .int .i64 h0.stage.x, .int .i64 h0.stage.y, .slice p n cap] 26) = w0 := ⟨_, rfl⟩
 obtain ⟨u0, hu0⟩ : ∃ u0, u0 = v := ⟨v, rfl⟩
 rw [hw0] at HBK HB0 HEW HIN HFIN K0
 rw [← hu0] at HBK HEW HIN HFIN K0
 have R0 := hid (Wrote.refl b w0 u0)
 have HL := hid hm
 obtain ⟨x1, ⟨x2, x3⟩, x4⟩ := hx
 clear hm
 clear h hb0 hR hE hB
 go_enter Tryz.func23, Tryz.ntmps23
 have HC := hid (word_any Foyer.Printer.wHall (by decide) w0 u0 _ K0.out (Nat.le_trans HB0.out R0.out.kp.size))
 go_wp2_with fail
 try rw [hw0]
 refine HC.out.mono ?_; rintro e w1 ⟨rfl, u1, k1, k2⟩
 have K1 := hid k1; have R1 := hid (R0.out.trans k2)
 clear k1 k2 HC K0 R0
 go_upto_region 2 with fail
 refine wp_region_any (by kernel_rfl) ?_
 have KA := hid K1.out.drew; have RA := hid R1.out.drew
 have hS0 : Blk w1.drew w.heap.size 26 [.string ⟨h0.name.toArray⟩, .int .i64 h0.stage.x, .int .i64 h0.stage.y, .slice p n cap] := HBK.out _ _ RA.out
 refine any_of_held (S := fun W => Blk W w.heap.size 26 [.string ⟨h0.name.toArray⟩, .int .i64 h0.stage.x, .int .i64 h0.stage.y, .slice p n cap]) (N := []) _ _ _ _ ?_
 change held _ _ _ _ _ _ _ _ _ w1.drew
 obtain ⟨wa, hwa⟩ : ∃ wa, w1.drew = wa := ⟨_, rfl⟩
 rw [hwa] at hS0 KA RA ⊢
 clear hwa K1 R1
 refine held_take [] (i := 0) (v := .pointer (some ⟨b, 0, none⟩)) rfl (by kernel_rfl) (fun _ _ _ h => h) (Or.inl ⟨by rfl, fun w' hS => by go_simp⟩) hS0 ?_
 try simp only [Act.put, aA, aB, aC]
 refine held_take [] (i := 1) (v := .pointer (some ⟨b, 0, none⟩)) rfl (by kernel_rfl) (fun _ _ _ h => h) (Or.inl ⟨by rfl, fun w' hS => by go_simp⟩) hS0 ?_
 try simp only [Act.put, aA, aB, aC]
 refine held_take [] (i := 2) (v := .pointer (some ⟨b, 0, none⟩)) rfl (by kernel_rfl) (fun _ _ _ h => h) (Or.inl ⟨by rfl, fun w' hS => by go_simp⟩) hS0 ?_
 try simp only [Act.put, aA, aB, aC]
 refine held_take [] (i := 3) (v := .pointer (some ⟨w.heap.size, 0, none⟩)) rfl (by kernel_rfl) (fun _ _ _ h => h) (Or.inl ⟨by rfl, fun w' hS => by go_simp⟩) hS0 ?_
 try simp only [Act.put, aA, aB, aC]
 refine held_take [] (i := 4) (v := .string ⟨h0.name.toArray⟩) rfl (by kernel_rfl) (fun _ _ _ h => h) (Or.inl ⟨by rfl, fun w' hS => by have hc := hS.cell (i := 0) rfl; go_simp⟩) hS0 ?_
 try simp only [Act.put, aA, aB, aC]
 refine held_one (i := 5) rfl (by kernel_rfl) (fun K hK => ?_)
 go_simp
 refine hK.out _ _ (fun _ => hS0.alloc _) ?_
 clear hK K
 try simp only [Act.put, aA, aB, aC]
 refine held_one (i := 6) rfl (by kernel_rfl) (fun K hK => ?_)
 go_simp
 have HC := hid (name_new h0.name x1 wa u1 _ KA.out (Nat.le_trans HB0.out RA.out.kp.size))
 refine HC.out.mono ?_; rintro e w2 ⟨rfl, u2, k1, k2⟩
 have K2 := hid k1; have R2 := hid (RA.out.trans k2)
 refine hK.out _ _ (fun _ => HBK.out _ _ R2.out) ?_
 clear hK K k1 k2 HC KA RA hS0
 try simp only [Act.put, aA, aB, aC]
 refine held_done (by kernel_rfl) ?_ _
 have HC := hid (word_any wStage (by decide) w2 u2 _ K2.out (Nat.le_trans HB0.out R2.out.kp.size))
 go_wp2_with fail
 refine HC.out.mono ?_; rintro e w3 ⟨rfl, u3, k1, k2⟩
 have K3 := hid k1; have R3 := hid (R2.out.trans k2)
 clear k1 k2 HC K2 R2
 go_upto_region 4 with fail
 refine wp_region_any (by kernel_rfl) ?_
 have KA := hid K3.out.drew; have RA := hid R3.out.drew
 have hS0 : Blk w3.drew w.heap.size 26 [.string ⟨h0.name.toArray⟩, .int .i64 h0.stage.x, .int .i64 h0.stage.y, .slice p n cap] := HBK.out _ _ RA.out
 refine any_of_held (S := fun W => Blk W w.heap.size 26 [.string ⟨h0.name.toArray⟩, .int .i64 h0.stage.x, .int .i64 h0.stage.y, .slice p n cap]) (N := []) _ _ _ _ ?_
 change held _ _ _ _ _ _ _ _ _ w3.drew
 obtain ⟨wa, hwa⟩ : ∃ wa, w3.drew = wa := ⟨_, rfl⟩
 rw [hwa] at hS0 KA RA ⊢
 clear hwa K3 R3
 refine held_take [] (i := 0) (v := .pointer (some ⟨b, 0, none⟩)) rfl (by kernel_rfl) (fun _ _ _ h => h) (Or.inl ⟨by rfl, fun w' hS => by go_simp⟩) hS0 ?_
 try simp only [Act.put, aA, aB, aC]
 refine held_take [] (i := 1) (v := .pointer (some ⟨b, 0, none⟩)) rfl (by kernel_rfl) (fun _ _ _ h => h) (Or.inl ⟨by rfl, fun w' hS => by go_simp⟩) hS0 ?_
 try simp only [Act.put, aA, aB, aC]
 refine held_take [] (i := 2) (v := .pointer (some ⟨b, 0, none⟩)) rfl (by kernel_rfl) (fun _ _ _ h => h) (Or.inl ⟨by rfl, fun w' hS => by go_simp⟩) hS0 ?_
 try simp only [Act.put, aA, aB, aC]
 refine held_take [] (i := 3) (v := .pointer (some ⟨w.heap.size, 1, none⟩)) rfl (by kernel_rfl) (fun _ _ _ h => h) (Or.inl ⟨by rfl, fun w' hS => by go_simp⟩) hS0 ?_
 try simp only [Act.put, aA, aB, aC]
 refine held_take [] (i := 4) (v := .pointer (some ⟨w.heap.size, 1, none⟩)) rfl (by kernel_rfl) (fun _ _ _ h => h) (Or.inl ⟨by rfl, fun w' hS => by go_simp⟩) hS0 ?_
 try simp only [Act.put, aA, aB, aC]
 refine held_take [] (i := 5) (v := .int .i64 h0.stage.x) rfl (by kernel_rfl) (fun _ _ _ h => h) (Or.inl ⟨by rfl, fun w' hS => by have hc := hS.cell (i := 1) rfl; go_simp⟩) hS0 ?_
 try simp only [Act.put, aA, aB, aC]
 refine held_take [] (i := 6) (v := .pointer (some ⟨w.heap.size, 1, none⟩)) rfl (by kernel_rfl) (fun _ _ _ h => h) (Or.inl ⟨by rfl, fun w' hS => by go_simp⟩) hS0 ?_
 try simp only [Act.put, aA, aB, aC]
 refine held_take [] (i := 7) (v := .pointer (some ⟨w.heap.size, 2, none⟩)) rfl (by kernel_rfl) (fun _ _ _ h => h) (Or.inl ⟨by rfl, fun w' hS => by go_simp⟩) hS0 ?_
 try simp only [Act.put, aA, aB, aC]
 refine held_take [] (i := 8) (v := .int .i64 h0.stage.y) rfl (by kernel_rfl) (fun _ _ _ h => h) (Or.inl ⟨by rfl, fun w' hS => by have hc := hS.cell (i := 2) rfl; go_simp⟩) hS0 ?_
 try simp only [Act.put, aA, aB, aC]
 refine held_one (i := 9) rfl (by kernel_rfl) (fun K hK => ?_)
 go_simp
 refine hK.out _ _ (fun _ => hS0.alloc _) ?_
 clear hK K
 try simp only [Act.put, aA, aB, aC]
 refine held_one (i := 10) rfl (by kernel_rfl) (fun K hK => ?_)
 go_simp
 have HC := hid (numbers_new [h0.stage.x, h0.stage.y] (by intro z hz; simp only [List.mem_cons, List.not_mem_nil, or_false] at hz; rcases hz with rfl | rfl <;> assumption) (by simp) wa u3 _ KA.out (Nat.le_trans HB0.out RA.out.kp.size) (HEW.out _ _ (RA.out)))
 refine HC.out.mono ?_; rintro e w4 ⟨rfl, u4, k1, k2⟩
 have K4 := hid k1; have R4 := hid (RA.out.trans k2)
 refine hK.out _ _ (fun _ => HBK.out _ _ R4.out) ?_
 clear hK K k1 k2 HC KA RA hS0
 try simp only [Act.put, aA, aB, aC]
 refine held_done (by kernel_rfl) ?_ _
 have HC := hid (begin_any w4 u4 _ K4.out (Nat.le_trans HB0.out R4.out.kp.size) (by simp only [opn_numbers, opn_names, opn_word]; omega))
 go_wp2_with fail
 refine HC.out.mono ?_; rintro e w5 ⟨rfl, u5, k1, k2⟩
 have K5 := hid k1; have R5 := hid (R4.out.trans k2)
 clear k1 k2 HC K4 R4
 obtain ⟨S1, hS⟩ : ∃ S, beginS (numbersS [h0.stage.x, h0.stage.y] (wordS wStage (namesS [h0.name] (wordS Foyer.Printer.wHall (s))))) = S := ⟨_, rfl⟩
 have HS1 := hid hS
 replace K5 : Hid (WR B b T w5 u5 S1) := hid (by rw [← hS]; exact K5.out)
 clear hS
 have cf := (HBK.out _ _ R5.out).cell (i := 3) rfl
 go_wp2
 go_loopw [39] (fun i wr => ∃ (k : Nat) (uo : Value), i = .int .i64 k ∧ k ≤ n ∧ Hid (WR B b T wr uo ((h0.levels.take k).foldl (fun s x => levelS x s) (S1))) ∧ Hid (Wrote b w0 u0 wr uo)) (fun i _ => n - (intOf i).toNat)
 case atStart => exact ⟨0, u5, rfl, Nat.zero_le _, hid (by rw [List.take_zero, List.foldl_nil]; exact K5.out), R5⟩
 case round =>
  have hnb : n ≤ 9223372036854775807 := by have := HL.out.len.2; unfold maxLen at this; omega
  obtain ⟨k, uo, rfl, hk, HV, HR⟩ := hrel
  clear cf
  have cf := (HBK.out _ _ HR.out).cell (i := 3) rfl
  by_cases hkn : k < n
  ·obtain ⟨x, hx⟩ : ∃ x, h0.levels[k]? = some x := ⟨_, List.getElem?_eq_getElem (by have := HL.out.len.1; omega)⟩
   have hm := List.mem_of_getElem? hx
   have hst := take_fold (fun s x => levelS x s) h0.levels (S1) hx
   obtain ⟨t, ht⟩ : ∃ t, (h0.levels.take k).foldl (fun s x => levelS x s) (S1) = t := ⟨_, rfl⟩
   rw [ht] at hst HV
   obtain ⟨lb, lo, c, rfl, hlb, hc, hcell⟩ := (HL.out.below (HIN.out _ _ HR.out)).at hx
   obtain ⟨v1, v2, v3, v4, v5, rfl, hm0⟩ := hc
   obtain ⟨p1, c1, rfl⟩ := hm0.blocks.slice
   obtain ⟨n1, hn1⟩ : ∃ n, x.blocks.length = n := ⟨_, rfl⟩
   rw [hn1] at hm0 hcell
   clear hn1
   obtain ⟨p2, c2, rfl⟩ := hm0.areas.slice
   obtain ⟨n2, hn2⟩ : ∃ n, x.areas.length = n := ⟨_, rfl⟩
   rw [hn2] at hm0 hcell
   clear hn2
   obtain ⟨p3, c3, rfl⟩ := hm0.aisles.slice
   obtain ⟨n3, hn3⟩ : ∃ n, x.aisles.length = n := ⟨_, rfl⟩
   rw [hn3] at hm0 hcell
   clear hn3
   obtain ⟨p4, c4, rfl⟩ := hm0.pillars.slice
   obtain ⟨n4, hn4⟩ : ∃ n, x.pillars.length = n := ⟨_, rfl⟩
   rw [hn4] at hm0 hcell
   clear hn4
   obtain ⟨p5, c5, rfl⟩ := hm0.doors.slice
   obtain ⟨n5, hn5⟩ : ∃ n, x.doors.length = n := ⟨_, rfl⟩
   rw [hn5] at hm0 hcell
   clear hn5
   have d0 := hcell 0 _ rfl
   have d1 := hcell 1 _ rfl
   have d2 := hcell 2 _ rfl
   have d3 := hcell 3 _ rfl
   have d4 := hcell 4 _ rfl
   have d5 := hcell 5 _ rfl
   have d6 := hcell 6 _ rfl
   have d7 := hcell 7 _ rfl
   rw [show levelL.size = 8 from rfl] at d0 d1 d2 d3 d4 d5 d6 d7
   rw [Nat.add_zero] at d0
   have hki : (0 : Int) ≤ k ∧ (k : Int) < n := by omega
   go_wp2_with fail
   have hbe : Below wr.heap.size wr (wr.alloc (.cells #[.string ⟨x.name.toArray⟩, .int .i64 x.height, .slice p1 n1 c1, .slice p2 n2 c2, .slice p3 n3 c3, .slice p4 n4 c4, .slice p5 n5 c5, .int .i64 x.pos] 50)) := (Below.refl _ _).alloc (Nat.le_refl _) _
   have hbB : B ≤ wr.heap.size := Nat.le_trans HB0.out HR.out.kp.size
   have HRE : Hid (Wrote b w0 u0 (wr.alloc (.cells #[.string ⟨x.name.toArray⟩, .int .i64 x.height, .slice p1 n1 c1, .slice p2 n2 c2, .slice p3 n3 c3, .slice p4 n4 c4, .slice p5 n5 c5, .int .i64 x.pos] 50)) uo) := hid (HR.out.trans ((Wrote.refl b _ uo).later hbe))
   have HM0 : Hid (LevelIn (wr.alloc (.cells #[.string ⟨x.name.toArray⟩, .int .i64 x.height, .slice p1 n1 c1, .slice p2 n2 c2, .slice p3 n3 c3, .slice p4 n4 c4, .slice p5 n5 c5, .int .i64 x.pos] 50)) B x (.slice p1 n1 c1) (.slice p2 n2 c2) (.slice p3 n3 c3) (.slice p4 n4 c4) (.slice p5 n5 c5)) := hid (hm0.kept (hbe.mono hbB).block); have HT : Hid (t.opn ≤ 4) := hid (by rw [← ht, opn_fold (fun s r => opn_level r s), ← HS1.out, opn_begin]; simp only [opn_numbers, opn_names, opn_word]; omega)
   have K100 := hid (HV.out.later hbe); have HB1 : Hid (B ≤ (wr.alloc (.cells #[.string ⟨x.name.toArray⟩, .int .i64 x.height, .slice p1 n1 c1, .slice p2 n2 c2, .slice p3 n3 c3, .slice p4 n4 c4, .slice p5 n5 c5, .int .i64 x.pos] 50)).heap.size) := hid (Nat.le_trans hbB hbe.size)
   have HBE : Hid (∀ w' v', Wrote b (wr.alloc (.cells #[.string ⟨x.name.toArray⟩, .int .i64 x.height, .slice p1 n1 c1, .slice p2 n2 c2, .slice p3 n3 c3, .slice p4 n4 c4, .slice p5 n5 c5, .int .i64 x.pos] 50)) uo w' v' → Blk w' wr.heap.size 50 [.string ⟨x.name.toArray⟩, .int .i64 x.height, .slice p1 n1 c1, .slice p2 n2 c2, .slice p3 n3 c3, .slice p4 n4 c4, .slice p5 n5 c5, .int .i64 x.pos]) := hid fun w' v' k => (k.kept (k := wr.heap.size) (by simp) (by have := HV.out.lt; omega) (fun e => by have := (HV.out.vlow e).2; omega)).1.trans (Blk.new wr 50 [.string ⟨x.name.toArray⟩, .int .i64 x.height, .slice p1 n1 c1, .slice p2 n2 c2, .slice p3 n3 c3, .slice p4 n4 c4, .slice p5 n5 c5, .int .i64 x.pos])
   obtain ⟨w100, hw100⟩ : ∃ w100, (wr.alloc (.cells #[.string ⟨x.name.toArray⟩, .int .i64 x.height, .slice p1 n1 c1, .slice p2 n2 c2, .slice p3 n3 c3, .slice p4 n4 c4, .slice p5 n5 c5, .int .i64 x.pos] 50)) = w100 := ⟨_, rfl⟩
   rw [hw100] at HRE K100 HB1 HBE HM0
   have R100 := hid (Wrote.refl b w100 uo)
   have HST := hid hst
   clear hx hst ht hcell hbe hlb hbB
   have HC := hid (level_any x (x4 _ hm) p1 p2 p3 p4 p5 n1 c1 n2 c2 n3 c3 n4 c4 n5 c5 w100 uo t K100.out (Nat.le_trans HB1.out R100.out.kp.size) (HEW.out _ _ (HRE.out.trans R100.out)) HT.out HM0.out)
   try rw [hw100]
   refine HC.out.mono ?_; rintro e w101 ⟨rfl, u101, k1, k2⟩
   have K101 := hid k1; have R101 := hid (R100.out.trans k2)
   clear k1 k2 HC K100 R100
   have RZ := hid (HRE.out.trans R101.out)
   clear HRE cf d0 d1 d2 d3 d4 d5 d6 d7
   have cf := (HBK.out _ _ RZ.out).cell (i := 3) rfl
   go_wp2
   go_roundw
   case rel => exact ⟨k + 1, u101, by go_num, by omega, by rw [HST.out]; exact K101, RZ⟩
   case measure => simp [intOf]; omega
  ·have hkn2 : k = n := by omega
   subst hkn2
   rw [show h0.levels.take k = h0.levels from List.take_of_length_le (by have := HL.out.len.1; omega)] at HV
   clear cf hkn hk hnb
   obtain ⟨u6, hu6⟩ : ∃ u, u = uo := ⟨uo, rfl⟩
   rw [← hu6] at HV HR
   generalize wr = w6 at *
   have K6 := HV; have R6 := HR
   clear HV HR K5 R5 hu6
   have HC := hid (end_any w6 u6 _ K6.out (Nat.le_trans HB0.out R6.out.kp.size) (by rw [opn_fold (fun s r => opn_level r s), ← HS1.out, opn_begin]; omega))
   go_wp2_with fail
   refine HC.out.mono ?_; rintro e w7 ⟨rfl, u7, k1, k2⟩
   have K7 := hid k1; have R7 := hid (R6.out.trans k2)
   clear k1 k2 HC K6 R6
   have HE : Hid (hallS h0 s = endS (h0.levels.foldl (fun s x => levelS x s) (S1))) := hid (by rw [← HS1.out]; rfl)
   go_wp2
   go_end0
   subst hu0
   exact ⟨rfl, u7, by rw [HE.out]; exact K7.out, HFIN.out _ _ R7.out⟩
end Go.Proofs.YtilfpnkcgjonhaaGreatDoor.Pr
namespace Go.Proofs.YtilfpnkcgjonhaaGreatDoor.Pr
open Go.RowKit Go.Sort Foyer.Printer Foyer.Lexer
theorem fresh_wr (B : Nat) (T : TypeId) (w : World) (hB : B ≤ w.heap.size) : WR B w.heap.size T (w.alloc (.cells #[.slice none 0 0, .int .i64 0, .bool false] T)) (.slice none 0 0) startS :=
 ⟨hB, Blk.new w T [.slice none 0 0, .int .i64 0, .bool false], World.ownsRow_nil _ _ _ _, by simp [Value.ownBlock], by decide, by decide⟩
set_option linter.unusedSimpArgs false in
set_option maxRecDepth 100000 in
set_option maxHeartbeats 400000 in
theorem printHall_any (h0 : HallZ) (hx : HallZ.Fit h0) (p : Option Addr) (n cap : Nat) (w : World) (hE : Env w) (hm : Lk levelL w w.heap.size (.slice p n cap) h0.levels) :
  Calls Tryz.prog 14 #[.agg #[.string ⟨h0.name.toArray⟩, .int .i64 h0.stage.x, .int .i64 h0.stage.y, .slice p n cap]] w fun e w' =>
   e = .returned (.tuple #[.string ⟨(hallAll h0).1.toArray⟩, .int .i64 ((hallAll h0).2 : Nat)]) ∧ Below w.heap.size w w' := by
 have hb1 : Below w.heap.size w (w.alloc (.cells #[.string ⟨h0.name.toArray⟩, .int .i64 h0.stage.x, .int .i64 h0.stage.y, .slice p n cap] 26)) := (Below.refl _ _).alloc (Nat.le_refl _) _
 have hk1 := Blk.new w 26 [.string ⟨h0.name.toArray⟩, .int .i64 h0.stage.x, .int .i64 h0.stage.y, .slice p n cap]
 obtain ⟨w1, hw1⟩ : ∃ w1, w.alloc (.cells #[.string ⟨h0.name.toArray⟩, .int .i64 h0.stage.x, .int .i64 h0.stage.y, .slice p n cap] 26) = w1 := ⟨_, rfl⟩
 have hs1 : w1.heap.size = w.heap.size + 1 := by rw [← hw1]; simp
 have hb2 : Below w.heap.size w (w1.alloc (.cells #[.slice none 0 0, .int .i64 0, .bool false] 82)) := by rw [hw1] at hb1; exact hb1.alloc (by omega) _
 have hW := fresh_wr w.heap.size 82 w1 (by omega)
 have hk2 : Blk (w1.alloc (.cells #[.slice none 0 0, .int .i64 0, .bool false] 82)) w.heap.size 26 [.string ⟨h0.name.toArray⟩, .int .i64 h0.stage.x, .int .i64 h0.stage.y, .slice p n cap] := by
  have : Blk w1 w.heap.size 26 [.string ⟨h0.name.toArray⟩, .int .i64 h0.stage.x, .int .i64 h0.stage.y, .slice p n cap] := by rw [← hw1]; exact hk1
  exact this.alloc _
 have HH := hid (hall_any h0 hx p n cap _ _ _ hW (by simp; omega) (EnvAt.below ⟨hE, hE.low⟩ hb2) (by decide) (hm.below hb2))
 unfold hallAll
 obtain ⟨S, hS⟩ : ∃ S, hallS h0 startS = S := ⟨_, rfl⟩
 rw [hS] at HH ⊢
 clear hS
 obtain ⟨rt, hrt⟩ : ∃ rt, (finishS S).1 = rt := ⟨_, rfl⟩
 obtain ⟨re, hre⟩ : ∃ re, (finishS S).2 = re := ⟨_, rfl⟩
 have HFA : Hid (∀ w3 v3, WR w.heap.size (w.heap.size + 1) 82 w3 v3 S → Calls Tryz.prog 24 #[.pointer (some ⟨w.heap.size + 1, 0, none⟩)] w3 fun e w' => e = .returned (.tuple #[.string ⟨rt.toArray⟩, .int .i64 (re : Nat)]) ∧ Below w3.heap.size w3 w') :=
  hid fun w3 v3 g => by rw [← hrt, ← hre]; exact finish_any w3 v3 S g
 rw [hrt, hre]
 clear hrt hre
 have HB2 := hid hb2
 have HW := hid hW
 have k0 := hk2.cell (i := 0) rfl
 have k1 := hk2.cell (i := 1) rfl
 have k2 := hk2.cell (i := 2) rfl
 have k3 := hk2.cell (i := 3) rfl
 rw [hs1] at HH HW
 clear hb1 hk1 hk2 hb2 hW hm hx
 go_enter Tryz.func14, Tryz.ntmps14
 go_wp2_with fail
 refine HH.out.mono ?_; rintro e w3 ⟨rfl, v3, g1, g2⟩
 have HB3 := hid (HB2.out.trans (HW.out.wrote (by simp; omega) g2))
 have HF := hid (HFA.out w3 v3 g1)
 clear g1 g2 k0 k1 k2 k3
 go_wp2_with fail
 refine HF.out.mono ?_; rintro e w4 ⟨rfl, hb4⟩
 have HB4 := hid (HB3.out.trans (hb4.mono HB3.out.size))
 clear hb4 HF
 go_wp2
 go_ret2
 exact ⟨rfl, HB4.out⟩
end Go.Proofs.YtilfpnkcgjonhaaGreatDoor.Pr
