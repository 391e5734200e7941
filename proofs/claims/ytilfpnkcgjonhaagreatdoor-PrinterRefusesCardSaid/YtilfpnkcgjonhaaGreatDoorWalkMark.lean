/-
  The walks of marks.
-/
import Derived.Test.YtilfpnkcgjonhaaGreatDoorWalkBox
namespace Go.Proofs.YtilfpnkcgjonhaaGreatDoor.Pr
open Go.RowKit Go.Sort Foyer.Printer Foyer.Lexer Foyer.Round

set_option linter.unusedSimpArgs false in
set_option maxRecDepth 100000 in
set_option maxHeartbeats 4000000 in
theorem mark_any {B b : Nat} {T : TypeId} (kind seat other : Int) (hx : MarkZ.Fit ⟨kind, seat, other⟩) (w : World) (v : Value) (s : St) (h : WR B b T w v s) (hB : B ≤ w.heap.size) (hE : EnvAt B w) :
    Calls Tryz.prog 135 #[.pointer (some ⟨b, 0, none⟩), .agg #[.int .i64 kind, .int .i64 seat, .int .i64 other]] w fun e w' => e = .returned (.tuple #[]) ∧ Step B b T w v (markS ⟨kind, seat, other⟩ s) w' := by
  have hb0 : Below w.heap.size w (w.alloc (.cells #[.int .i64 kind, .int .i64 seat, .int .i64 other] 72)) := (Below.refl _ _).alloc (Nat.le_refl _) _
  have hR : Wrote b w v (w.alloc (.cells #[.int .i64 kind, .int .i64 seat, .int .i64 other] 72)) v := (Wrote.refl b _ v).later hb0
  have HBK : Hid (∀ w' v', Wrote b (w.alloc (.cells #[.int .i64 kind, .int .i64 seat, .int .i64 other] 72)) v w' v' → Blk w' w.heap.size 72 [.int .i64 kind, .int .i64 seat, .int .i64 other]) := Lib.hid fun w' v' k => (k.kept (k := w.heap.size) (by simp) (by have := h.lt; omega) (fun e => by have := (h.vlow e).2; omega)).1.trans (Blk.new w 72 [.int .i64 kind, .int .i64 seat, .int .i64 other])
  have HB0 : Hid (B ≤ (w.alloc (.cells #[.int .i64 kind, .int .i64 seat, .int .i64 other] 72)).heap.size) := Lib.hid (by simp; omega)
  have HEW : Hid (∀ w' v', Wrote b (w.alloc (.cells #[.int .i64 kind, .int .i64 seat, .int .i64 other] 72)) v w' v' → EnvAt B w') := Lib.hid fun w' v' k => hE.below ((hb0.mono hB).trans ((h.later hb0).wrote (by simp; omega) k))
  have HIN : Hid (∀ w' v', Wrote b (w.alloc (.cells #[.int .i64 kind, .int .i64 seat, .int .i64 other] 72)) v w' v' → Below B w w') := Lib.hid fun w' v' k => (hb0.mono hB).trans ((h.later hb0).wrote (by simp; omega) k)
  have K0 := Lib.hid (h.later hb0)
  have HFIN : Hid (∀ w' v', Wrote b (w.alloc (.cells #[.int .i64 kind, .int .i64 seat, .int .i64 other] 72)) v w' v' → Wrote b w v w' v') := Lib.hid fun w' v' k => hR.trans k
  obtain ⟨w0, hw0⟩ : ∃ w0, w.alloc (.cells #[.int .i64 kind, .int .i64 seat, .int .i64 other] 72) = w0 := ⟨_, rfl⟩
  obtain ⟨u0, hu0⟩ : ∃ u0, u0 = v := ⟨v, rfl⟩
  rw [hw0] at HBK HB0 HEW HIN HFIN K0
  rw [← hu0] at HBK HEW HIN HFIN K0
  have R0 := Lib.hid (Wrote.refl b w0 u0)
  clear h hb0 hR hE hB
  go_enter Tryz.func135, Tryz.ntmps135
  go_upto_region 2 with fail
  try rw [hw0]
  have hbq : Below w0.heap.size w0 (w0.alloc (.cells (strCells' markWords).toArray 223)) := (Below.refl _ _).alloc (Nat.le_refl _) _
  have HQ0 : Hid (Blk (w0.alloc (.cells (strCells' markWords).toArray 223)) w0.heap.size 223 (strCells' markWords)) := Lib.hid (Blk.new _ _ _)
  have hq1 : w0.heap.size ≠ b := by have := K0.out.lt; omega
  have hq2 : u0.ownBlock ≠ some w0.heap.size := fun e => by have := (K0.out.vlow e).2; omega
  have HQ1 := Lib.hid hq1; have HQ2 := Lib.hid hq2
  have K1 := Lib.hid (K0.out.later hbq); have R1 : Hid (Wrote b w0 u0 _ u0) := Lib.hid (R0.out.trans ((Wrote.refl b _ u0).later hbq))
  obtain ⟨q, hq⟩ : ∃ q, w0.heap.size = q := ⟨_, rfl⟩
  change Code.wp _ _ _ _ (w0.alloc (.cells (strCells' markWords).toArray 223))
  generalize w0.alloc (.cells (strCells' markWords).toArray 223) = w1 at *
  rw [hq] at HQ0 HQ1 HQ2
  try rw [hq]
  clear hbq hq1 hq2 K0 R0
  refine wp_region_any (by kernel_rfl) ?_
  have hQ : Blk w1.drew q 223 (strCells' markWords) := HQ0.out
  have KA := Lib.hid K1.out.drew; have RA := Lib.hid R1.out.drew
  have hS0 : Blk w1.drew w.heap.size 72 [.int .i64 kind, .int .i64 seat, .int .i64 other] := HBK.out _ _ RA.out
  refine any_of_held (S := fun W => Blk W w.heap.size 72 [.int .i64 kind, .int .i64 seat, .int .i64 other]) (N := []) _ _ _ _ ?_
  change held _ _ _ _ _ _ _ _ _ w1.drew
  obtain ⟨wa, hwa⟩ : ∃ wa, w1.drew = wa := ⟨_, rfl⟩
  rw [hwa] at hS0 KA RA hQ ⊢
  clear hwa K1 R1
  refine held_take [] (i := 0) (v := .pointer (some ⟨b, 0, none⟩)) rfl (by kernel_rfl) (fun _ _ _ h => h) (Or.inl ⟨by rfl, fun w' hS => by go_simp⟩) hS0 ?_
  try simp only [Act.put, List.setIfInBounds_toArray, List.set_cons_zero, List.set_cons_succ]
  refine held_take [] (i := 1) (v := .pointer (some ⟨b, 0, none⟩)) rfl (by kernel_rfl) (fun _ _ _ h => h) (Or.inl ⟨by rfl, fun w' hS => by go_simp⟩) hS0 ?_
  try simp only [Act.put, List.setIfInBounds_toArray, List.set_cons_zero, List.set_cons_succ]
  refine held_take [] (i := 2) (v := .pointer (some ⟨b, 0, none⟩)) rfl (by kernel_rfl) (fun _ _ _ h => h) (Or.inl ⟨by rfl, fun w' hS => by go_simp⟩) hS0 ?_
  try simp only [Act.put, List.setIfInBounds_toArray, List.set_cons_zero, List.set_cons_succ]
  refine held_take [] (i := 3) (v := .slice (some ⟨q, 0, none⟩) 5 5) rfl (by kernel_rfl) (fun _ _ _ h => h) (Or.inl ⟨by rfl, fun w' hS => by go_simp⟩) hS0 ?_
  try simp only [Act.put, List.setIfInBounds_toArray, List.set_cons_zero, List.set_cons_succ]
  refine held_take [] (i := 4) (v := .pointer (some ⟨w.heap.size, 0, none⟩)) rfl (by kernel_rfl) (fun _ _ _ h => h) (Or.inl ⟨by rfl, fun w' hS => by go_simp⟩) hS0 ?_
  try simp only [Act.put, List.setIfInBounds_toArray, List.set_cons_zero, List.set_cons_succ]
  refine held_take [] (i := 5) (v := .int .i64 kind) rfl (by kernel_rfl) (fun _ _ _ h => h) (Or.inl ⟨by rfl, fun w' hS => by have hc := hS.cell (i := 0) rfl; go_simp⟩) hS0 ?_
  try simp only [Act.put, List.setIfInBounds_toArray, List.set_cons_zero, List.set_cons_succ]
  refine held_one (i := 6) rfl (by kernel_rfl) (fun K hK => ?_)
  go_simp
  have HC := Lib.hid (oneOf_any markWords (by decide) kind hx.1 q _ wa u0 _ KA.out (Nat.le_trans HB0.out RA.out.kp.size) HQ1.out HQ2.out hQ)
  refine HC.out.mono ?_; rintro e w2 ⟨rfl, u2, k1, k2⟩
  have K2 := Lib.hid k1; have R2 := Lib.hid (RA.out.trans k2)
  refine hK.out _ _ (fun _ => HBK.out _ _ R2.out) ?_
  clear hK K k1 k2 HC KA RA hS0 hQ
  try simp only [Act.put, List.setIfInBounds_toArray, List.set_cons_zero, List.set_cons_succ]
  refine held_done (by kernel_rfl) ?_ _
  clear HQ0 HQ1 HQ2
  go_upto_region 3 with fail
  refine wp_region_any (by kernel_rfl) ?_
  have KA := Lib.hid K2.out.drew; have RA := Lib.hid R2.out.drew
  have hS0 : Blk w2.drew w.heap.size 72 [.int .i64 kind, .int .i64 seat, .int .i64 other] := HBK.out _ _ RA.out
  refine any_of_held (S := fun W => Blk W w.heap.size 72 [.int .i64 kind, .int .i64 seat, .int .i64 other]) (N := []) _ _ _ _ ?_
  change held _ _ _ _ _ _ _ _ _ w2.drew
  obtain ⟨wa, hwa⟩ : ∃ wa, w2.drew = wa := ⟨_, rfl⟩
  rw [hwa] at hS0 KA RA ⊢
  clear hwa K2 R2
  refine held_take [] (i := 0) (v := .pointer (some ⟨b, 0, none⟩)) rfl (by kernel_rfl) (fun _ _ _ h => h) (Or.inl ⟨by rfl, fun w' hS => by go_simp⟩) hS0 ?_
  try simp only [Act.put, List.setIfInBounds_toArray, List.set_cons_zero, List.set_cons_succ]
  refine held_take [] (i := 1) (v := .pointer (some ⟨b, 0, none⟩)) rfl (by kernel_rfl) (fun _ _ _ h => h) (Or.inl ⟨by rfl, fun w' hS => by go_simp⟩) hS0 ?_
  try simp only [Act.put, List.setIfInBounds_toArray, List.set_cons_zero, List.set_cons_succ]
  refine held_take [] (i := 2) (v := .pointer (some ⟨b, 0, none⟩)) rfl (by kernel_rfl) (fun _ _ _ h => h) (Or.inl ⟨by rfl, fun w' hS => by go_simp⟩) hS0 ?_
  try simp only [Act.put, List.setIfInBounds_toArray, List.set_cons_zero, List.set_cons_succ]
  refine held_take [] (i := 3) (v := .pointer (some ⟨w.heap.size, 1, none⟩)) rfl (by kernel_rfl) (fun _ _ _ h => h) (Or.inl ⟨by rfl, fun w' hS => by go_simp⟩) hS0 ?_
  try simp only [Act.put, List.setIfInBounds_toArray, List.set_cons_zero, List.set_cons_succ]
  refine held_take [] (i := 4) (v := .int .i64 seat) rfl (by kernel_rfl) (fun _ _ _ h => h) (Or.inl ⟨by rfl, fun w' hS => by have hc := hS.cell (i := 1) rfl; go_simp⟩) hS0 ?_
  try simp only [Act.put, List.setIfInBounds_toArray, List.set_cons_zero, List.set_cons_succ]
  refine held_one (i := 5) rfl (by kernel_rfl) (fun K hK => ?_)
  go_simp
  refine hK.out _ _ (fun _ => hS0.alloc _) ?_
  clear hK K
  try simp only [Act.put, List.setIfInBounds_toArray, List.set_cons_zero, List.set_cons_succ]
  refine held_one (i := 6) rfl (by kernel_rfl) (fun K hK => ?_)
  go_simp
  have HC := Lib.hid (numbers_new [seat] (by intro z hz; rw [List.mem_singleton] at hz; subst hz; exact hx.2.1) (by simp) wa u2 _ KA.out (Nat.le_trans HB0.out RA.out.kp.size) (HEW.out _ _ RA.out))
  refine HC.out.mono ?_; rintro e w3 ⟨rfl, u3, k1, k2⟩
  have K3 := Lib.hid k1; have R3 := Lib.hid (RA.out.trans k2)
  refine hK.out _ _ (fun _ => HBK.out _ _ R3.out) ?_
  clear hK K k1 k2 HC KA RA hS0
  try simp only [Act.put, List.setIfInBounds_toArray, List.set_cons_zero, List.set_cons_succ]
  refine held_done (by kernel_rfl) ?_ _
  have hbk := (HBK.out _ _ R3.out).cell (i := 0) rfl
  by_cases hk : kind = 4
  · subst hk
    have hs : Hid (markS ⟨4, seat, other⟩ s = numbersS [other] (wordS wOf (numbersS [seat] (oneOfS markWords 4 s)))) := Lib.hid rfl
    have HC := Lib.hid (word_any wOf (by decide) w3 u3 _ K3.out (Nat.le_trans HB0.out R3.out.kp.size))
    go_wp2_with fail
    refine HC.out.mono ?_; rintro e w4 ⟨rfl, u4, k1, k2⟩
    have K4 := Lib.hid k1; have R4 := Lib.hid (R3.out.trans k2)
    clear k1 k2 HC K3 R3
    go_upto_region 7 with fail
    refine wp_region_any (by kernel_rfl) ?_
    have KA := Lib.hid K4.out.drew; have RA := Lib.hid R4.out.drew
    have hS0 : Blk w4.drew w.heap.size 72 [.int .i64 4, .int .i64 seat, .int .i64 other] := HBK.out _ _ RA.out
    refine any_of_held (S := fun W => Blk W w.heap.size 72 [.int .i64 4, .int .i64 seat, .int .i64 other]) (N := []) _ _ _ _ ?_
    change held _ _ _ _ _ _ _ _ _ w4.drew
    obtain ⟨wa, hwa⟩ : ∃ wa, w4.drew = wa := ⟨_, rfl⟩
    rw [hwa] at hS0 KA RA ⊢
    clear hwa K4 R4
    refine held_take [] (i := 0) (v := .pointer (some ⟨b, 0, none⟩)) rfl (by kernel_rfl) (fun _ _ _ h => h) (Or.inl ⟨by rfl, fun w' hS => by go_simp⟩) hS0 ?_
    try simp only [Act.put, List.setIfInBounds_toArray, List.set_cons_zero, List.set_cons_succ]
    refine held_take [] (i := 1) (v := .pointer (some ⟨b, 0, none⟩)) rfl (by kernel_rfl) (fun _ _ _ h => h) (Or.inl ⟨by rfl, fun w' hS => by go_simp⟩) hS0 ?_
    try simp only [Act.put, List.setIfInBounds_toArray, List.set_cons_zero, List.set_cons_succ]
    refine held_take [] (i := 2) (v := .pointer (some ⟨b, 0, none⟩)) rfl (by kernel_rfl) (fun _ _ _ h => h) (Or.inl ⟨by rfl, fun w' hS => by go_simp⟩) hS0 ?_
    try simp only [Act.put, List.setIfInBounds_toArray, List.set_cons_zero, List.set_cons_succ]
    refine held_take [] (i := 3) (v := .pointer (some ⟨w.heap.size, 2, none⟩)) rfl (by kernel_rfl) (fun _ _ _ h => h) (Or.inl ⟨by rfl, fun w' hS => by go_simp⟩) hS0 ?_
    try simp only [Act.put, List.setIfInBounds_toArray, List.set_cons_zero, List.set_cons_succ]
    refine held_take [] (i := 4) (v := .int .i64 other) rfl (by kernel_rfl) (fun _ _ _ h => h) (Or.inl ⟨by rfl, fun w' hS => by have hc := hS.cell (i := 2) rfl; go_simp⟩) hS0 ?_
    try simp only [Act.put, List.setIfInBounds_toArray, List.set_cons_zero, List.set_cons_succ]
    refine held_one (i := 5) rfl (by kernel_rfl) (fun K hK => ?_)
    go_simp
    refine hK.out _ _ (fun _ => hS0.alloc _) ?_
    clear hK K
    try simp only [Act.put, List.setIfInBounds_toArray, List.set_cons_zero, List.set_cons_succ]
    refine held_one (i := 6) rfl (by kernel_rfl) (fun K hK => ?_)
    go_simp
    have HC := Lib.hid (numbers_new [other] (by intro z hz; rw [List.mem_singleton] at hz; subst hz; exact hx.2.2) (by simp) wa u4 _ KA.out (Nat.le_trans HB0.out RA.out.kp.size) (HEW.out _ _ RA.out))
    refine HC.out.mono ?_; rintro e w5 ⟨rfl, u5, k1, k2⟩
    have K5 := Lib.hid k1; have R5 := Lib.hid (RA.out.trans k2)
    refine hK.out _ _ (fun _ => HBK.out _ _ R5.out) ?_
    clear hK K k1 k2 HC KA RA hS0
    try simp only [Act.put, List.setIfInBounds_toArray, List.set_cons_zero, List.set_cons_succ]
    refine held_done (by kernel_rfl) ?_ _
    go_wp2
    go_end0
    subst hu0
    exact ⟨rfl, u5, by rw [hs.out]; exact K5.out, HFIN.out _ _ R5.out⟩
  · have hs : Hid (markS ⟨kind, seat, other⟩ s = requireS (decide (other = 0)) (numbersS [seat] (oneOfS markWords kind s))) := Lib.hid (by unfold markS; simp only [ne_eq, hk, not_false_eq_true, if_true])
    have hk0 : (kind == 4) = false := by rw [beq_eq_false_iff_ne]; exact hk
    go_upto_region 5 with fail
    refine wp_region_any (by kernel_rfl) ?_
    have KA := Lib.hid K3.out.drew; have RA := Lib.hid R3.out.drew
    have hS0 : Blk w3.drew w.heap.size 72 [.int .i64 kind, .int .i64 seat, .int .i64 other] := HBK.out _ _ RA.out
    refine any_of_held (S := fun W => Blk W w.heap.size 72 [.int .i64 kind, .int .i64 seat, .int .i64 other]) (N := []) _ _ _ _ ?_
    change held _ _ _ _ _ _ _ _ _ w3.drew
    obtain ⟨wa, hwa⟩ : ∃ wa, w3.drew = wa := ⟨_, rfl⟩
    rw [hwa] at hS0 KA RA ⊢
    clear hwa K3 R3
    refine held_take [] (i := 0) (v := .pointer (some ⟨b, 0, none⟩)) rfl (by kernel_rfl) (fun _ _ _ h => h) (Or.inl ⟨by rfl, fun w' hS => by go_simp⟩) hS0 ?_
    try simp only [Act.put, List.setIfInBounds_toArray, List.set_cons_zero, List.set_cons_succ]
    refine held_take [] (i := 1) (v := .pointer (some ⟨b, 0, none⟩)) rfl (by kernel_rfl) (fun _ _ _ h => h) (Or.inl ⟨by rfl, fun w' hS => by go_simp⟩) hS0 ?_
    try simp only [Act.put, List.setIfInBounds_toArray, List.set_cons_zero, List.set_cons_succ]
    refine held_take [] (i := 2) (v := .pointer (some ⟨b, 0, none⟩)) rfl (by kernel_rfl) (fun _ _ _ h => h) (Or.inl ⟨by rfl, fun w' hS => by go_simp⟩) hS0 ?_
    try simp only [Act.put, List.setIfInBounds_toArray, List.set_cons_zero, List.set_cons_succ]
    refine held_take [] (i := 3) (v := .pointer (some ⟨w.heap.size, 2, none⟩)) rfl (by kernel_rfl) (fun _ _ _ h => h) (Or.inl ⟨by rfl, fun w' hS => by go_simp⟩) hS0 ?_
    try simp only [Act.put, List.setIfInBounds_toArray, List.set_cons_zero, List.set_cons_succ]
    refine held_take [] (i := 4) (v := .int .i64 other) rfl (by kernel_rfl) (fun _ _ _ h => h) (Or.inl ⟨by rfl, fun w' hS => by have hc := hS.cell (i := 2) rfl; go_simp⟩) hS0 ?_
    try simp only [Act.put, List.setIfInBounds_toArray, List.set_cons_zero, List.set_cons_succ]
    refine held_take [] (i := 5) (v := .bool (other == 0)) rfl (by kernel_rfl) (fun _ _ _ h => h) (Or.inl ⟨by rfl, fun w' hS => by go_simp⟩) hS0 ?_
    try simp only [Act.put, List.setIfInBounds_toArray, List.set_cons_zero, List.set_cons_succ]
    refine held_one (i := 6) rfl (by kernel_rfl) (fun K hK => ?_)
    go_simp
    have HC := Lib.hid (require_s (decide (other = 0)) wa u3 _ KA.out)
    refine HC.out.mono ?_; rintro e w4 ⟨rfl, u4, k1, k2⟩
    have K4 := Lib.hid k1; have R4 := Lib.hid (RA.out.trans k2)
    refine hK.out _ _ (fun _ => HBK.out _ _ R4.out) ?_
    clear hK K k1 k2 HC KA RA hS0
    try simp only [Act.put, List.setIfInBounds_toArray, List.set_cons_zero, List.set_cons_succ]
    refine held_done (by kernel_rfl) ?_ _
    go_wp2
    refine bodyPost_ret (results_none rfl _ _ _) rfl ?_
    subst hu0
    exact ⟨rfl, u4, by rw [hs.out]; exact K4.out, HFIN.out _ _ R4.out⟩
end Go.Proofs.YtilfpnkcgjonhaaGreatDoor.Pr
