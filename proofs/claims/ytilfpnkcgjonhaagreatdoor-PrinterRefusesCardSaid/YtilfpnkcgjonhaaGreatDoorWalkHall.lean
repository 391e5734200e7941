/-
  The walks of halls.
-/
import Derived.Test.YtilfpnkcgjonhaaGreatDoorWalkLevel
namespace Go.Proofs.YtilfpnkcgjonhaaGreatDoor.Pr
open Go.RowKit Go.Sort Foyer.Printer Foyer.Lexer Foyer.Round

set_option linter.unusedSimpArgs false in
set_option maxRecDepth 100000 in
set_option maxHeartbeats 4000000 in
theorem hall_any {B b : Nat} {T : TypeId} (h0 : HallZ) (hx : HallZ.Fit h0) (p : Option Addr) (n cap : Nat) (w : World) (v : Value) (s : St) (h : WR B b T w v s) (hB : B ≤ w.heap.size) (hE : EnvAt B w) (hop : s.opn ≤ 2) (hm : Lk levelL w B (.slice p n cap) h0.levels) :
    Calls Tryz.prog 23 #[.pointer (some ⟨b, 0, none⟩), .agg #[.string ⟨h0.name.toArray⟩, .int .i64 h0.stage.x, .int .i64 h0.stage.y, .slice p n cap]] w fun e w' => e = .returned (.tuple #[]) ∧ Step B b T w v (hallS h0 s) w' := by
  have hb0 : Below w.heap.size w (w.alloc (.cells #[.string ⟨h0.name.toArray⟩, .int .i64 h0.stage.x, .int .i64 h0.stage.y, .slice p n cap] 26)) := (Below.refl _ _).alloc (Nat.le_refl _) _
  have hR : Wrote b w v (w.alloc (.cells #[.string ⟨h0.name.toArray⟩, .int .i64 h0.stage.x, .int .i64 h0.stage.y, .slice p n cap] 26)) v := (Wrote.refl b _ v).later hb0
  have HBK : Hid (∀ w' v', Wrote b (w.alloc (.cells #[.string ⟨h0.name.toArray⟩, .int .i64 h0.stage.x, .int .i64 h0.stage.y, .slice p n cap] 26)) v w' v' → Blk w' w.heap.size 26 [.string ⟨h0.name.toArray⟩, .int .i64 h0.stage.x, .int .i64 h0.stage.y, .slice p n cap]) := Lib.hid fun w' v' k => (k.kept (k := w.heap.size) (by simp) (by have := h.lt; omega) (fun e => by have := (h.vlow e).2; omega)).1.trans (Blk.new w 26 [.string ⟨h0.name.toArray⟩, .int .i64 h0.stage.x, .int .i64 h0.stage.y, .slice p n cap])
  have HB0 : Hid (B ≤ (w.alloc (.cells #[.string ⟨h0.name.toArray⟩, .int .i64 h0.stage.x, .int .i64 h0.stage.y, .slice p n cap] 26)).heap.size) := Lib.hid (by simp; omega)
  have HEW : Hid (∀ w' v', Wrote b (w.alloc (.cells #[.string ⟨h0.name.toArray⟩, .int .i64 h0.stage.x, .int .i64 h0.stage.y, .slice p n cap] 26)) v w' v' → EnvAt B w') := Lib.hid fun w' v' k => hE.below ((hb0.mono hB).trans ((h.later hb0).wrote (by simp; omega) k))
  have HIN : Hid (∀ w' v', Wrote b (w.alloc (.cells #[.string ⟨h0.name.toArray⟩, .int .i64 h0.stage.x, .int .i64 h0.stage.y, .slice p n cap] 26)) v w' v' → Below B w w') := Lib.hid fun w' v' k => (hb0.mono hB).trans ((h.later hb0).wrote (by simp; omega) k)
  have K0 := Lib.hid (h.later hb0)
  have HFIN : Hid (∀ w' v', Wrote b (w.alloc (.cells #[.string ⟨h0.name.toArray⟩, .int .i64 h0.stage.x, .int .i64 h0.stage.y, .slice p n cap] 26)) v w' v' → Wrote b w v w' v') := Lib.hid fun w' v' k => hR.trans k
  obtain ⟨w0, hw0⟩ : ∃ w0, w.alloc (.cells #[.string ⟨h0.name.toArray⟩, .int .i64 h0.stage.x, .int .i64 h0.stage.y, .slice p n cap] 26) = w0 := ⟨_, rfl⟩
  obtain ⟨u0, hu0⟩ : ∃ u0, u0 = v := ⟨v, rfl⟩
  rw [hw0] at HBK HB0 HEW HIN HFIN K0
  rw [← hu0] at HBK HEW HIN HFIN K0
  have R0 := Lib.hid (Wrote.refl b w0 u0)
  have HL := Lib.hid hm
  obtain ⟨x1, ⟨x2, x3⟩, x4⟩ := hx
  clear hm
  clear h hb0 hR hE hB
  go_enter Tryz.func23, Tryz.ntmps23
  have HC := Lib.hid (word_any Foyer.Printer.wHall (by decide) w0 u0 _ K0.out (Nat.le_trans HB0.out R0.out.kp.size))
  go_wp2_with fail
  try rw [hw0]
  refine HC.out.mono ?_; rintro e w1 ⟨rfl, u1, k1, k2⟩
  have K1 := Lib.hid k1; have R1 := Lib.hid (R0.out.trans k2)
  clear k1 k2 HC K0 R0
  go_upto_region 2 with fail
  refine wp_region_any (by kernel_rfl) ?_
  have KA := Lib.hid K1.out.drew; have RA := Lib.hid R1.out.drew
  have hS0 : Blk w1.drew w.heap.size 26 [.string ⟨h0.name.toArray⟩, .int .i64 h0.stage.x, .int .i64 h0.stage.y, .slice p n cap] := HBK.out _ _ RA.out
  refine any_of_held (S := fun W => Blk W w.heap.size 26 [.string ⟨h0.name.toArray⟩, .int .i64 h0.stage.x, .int .i64 h0.stage.y, .slice p n cap]) (N := []) _ _ _ _ ?_
  change held _ _ _ _ _ _ _ _ _ w1.drew
  obtain ⟨wa, hwa⟩ : ∃ wa, w1.drew = wa := ⟨_, rfl⟩
  rw [hwa] at hS0 KA RA ⊢
  clear hwa K1 R1
  refine held_take [] (i := 0) (v := .pointer (some ⟨b, 0, none⟩)) rfl (by kernel_rfl) (fun _ _ _ h => h) (Or.inl ⟨by rfl, fun w' hS => by go_simp⟩) hS0 ?_
  try simp only [Act.put, List.setIfInBounds_toArray, List.set_cons_zero, List.set_cons_succ]
  refine held_take [] (i := 1) (v := .pointer (some ⟨b, 0, none⟩)) rfl (by kernel_rfl) (fun _ _ _ h => h) (Or.inl ⟨by rfl, fun w' hS => by go_simp⟩) hS0 ?_
  try simp only [Act.put, List.setIfInBounds_toArray, List.set_cons_zero, List.set_cons_succ]
  refine held_take [] (i := 2) (v := .pointer (some ⟨b, 0, none⟩)) rfl (by kernel_rfl) (fun _ _ _ h => h) (Or.inl ⟨by rfl, fun w' hS => by go_simp⟩) hS0 ?_
  try simp only [Act.put, List.setIfInBounds_toArray, List.set_cons_zero, List.set_cons_succ]
  refine held_take [] (i := 3) (v := .pointer (some ⟨w.heap.size, 0, none⟩)) rfl (by kernel_rfl) (fun _ _ _ h => h) (Or.inl ⟨by rfl, fun w' hS => by go_simp⟩) hS0 ?_
  try simp only [Act.put, List.setIfInBounds_toArray, List.set_cons_zero, List.set_cons_succ]
  refine held_take [] (i := 4) (v := .string ⟨h0.name.toArray⟩) rfl (by kernel_rfl) (fun _ _ _ h => h) (Or.inl ⟨by rfl, fun w' hS => by have hc := hS.cell (i := 0) rfl; go_simp⟩) hS0 ?_
  try simp only [Act.put, List.setIfInBounds_toArray, List.set_cons_zero, List.set_cons_succ]
  refine held_one (i := 5) rfl (by kernel_rfl) (fun K hK => ?_)
  go_simp
  refine hK.out _ _ (fun _ => hS0.alloc _) ?_
  clear hK K
  try simp only [Act.put, List.setIfInBounds_toArray, List.set_cons_zero, List.set_cons_succ]
  refine held_one (i := 6) rfl (by kernel_rfl) (fun K hK => ?_)
  go_simp
  have HC := Lib.hid (name_new h0.name x1 wa u1 _ KA.out (Nat.le_trans HB0.out RA.out.kp.size))
  refine HC.out.mono ?_; rintro e w2 ⟨rfl, u2, k1, k2⟩
  have K2 := Lib.hid k1; have R2 := Lib.hid (RA.out.trans k2)
  refine hK.out _ _ (fun _ => HBK.out _ _ R2.out) ?_
  clear hK K k1 k2 HC KA RA hS0
  try simp only [Act.put, List.setIfInBounds_toArray, List.set_cons_zero, List.set_cons_succ]
  refine held_done (by kernel_rfl) ?_ _
  have HC := Lib.hid (word_any wStage (by decide) w2 u2 _ K2.out (Nat.le_trans HB0.out R2.out.kp.size))
  go_wp2_with fail
  refine HC.out.mono ?_; rintro e w3 ⟨rfl, u3, k1, k2⟩
  have K3 := Lib.hid k1; have R3 := Lib.hid (R2.out.trans k2)
  clear k1 k2 HC K2 R2
  go_upto_region 4 with fail
  refine wp_region_any (by kernel_rfl) ?_
  have KA := Lib.hid K3.out.drew; have RA := Lib.hid R3.out.drew
  have hS0 : Blk w3.drew w.heap.size 26 [.string ⟨h0.name.toArray⟩, .int .i64 h0.stage.x, .int .i64 h0.stage.y, .slice p n cap] := HBK.out _ _ RA.out
  refine any_of_held (S := fun W => Blk W w.heap.size 26 [.string ⟨h0.name.toArray⟩, .int .i64 h0.stage.x, .int .i64 h0.stage.y, .slice p n cap]) (N := []) _ _ _ _ ?_
  change held _ _ _ _ _ _ _ _ _ w3.drew
  obtain ⟨wa, hwa⟩ : ∃ wa, w3.drew = wa := ⟨_, rfl⟩
  rw [hwa] at hS0 KA RA ⊢
  clear hwa K3 R3
  refine held_take [] (i := 0) (v := .pointer (some ⟨b, 0, none⟩)) rfl (by kernel_rfl) (fun _ _ _ h => h) (Or.inl ⟨by rfl, fun w' hS => by go_simp⟩) hS0 ?_
  try simp only [Act.put, List.setIfInBounds_toArray, List.set_cons_zero, List.set_cons_succ]
  refine held_take [] (i := 1) (v := .pointer (some ⟨b, 0, none⟩)) rfl (by kernel_rfl) (fun _ _ _ h => h) (Or.inl ⟨by rfl, fun w' hS => by go_simp⟩) hS0 ?_
  try simp only [Act.put, List.setIfInBounds_toArray, List.set_cons_zero, List.set_cons_succ]
  refine held_take [] (i := 2) (v := .pointer (some ⟨b, 0, none⟩)) rfl (by kernel_rfl) (fun _ _ _ h => h) (Or.inl ⟨by rfl, fun w' hS => by go_simp⟩) hS0 ?_
  try simp only [Act.put, List.setIfInBounds_toArray, List.set_cons_zero, List.set_cons_succ]
  refine held_take [] (i := 3) (v := .pointer (some ⟨w.heap.size, 1, none⟩)) rfl (by kernel_rfl) (fun _ _ _ h => h) (Or.inl ⟨by rfl, fun w' hS => by go_simp⟩) hS0 ?_
  try simp only [Act.put, List.setIfInBounds_toArray, List.set_cons_zero, List.set_cons_succ]
  refine held_take [] (i := 4) (v := .pointer (some ⟨w.heap.size, 1, none⟩)) rfl (by kernel_rfl) (fun _ _ _ h => h) (Or.inl ⟨by rfl, fun w' hS => by go_simp⟩) hS0 ?_
  try simp only [Act.put, List.setIfInBounds_toArray, List.set_cons_zero, List.set_cons_succ]
  refine held_take [] (i := 5) (v := .int .i64 h0.stage.x) rfl (by kernel_rfl) (fun _ _ _ h => h) (Or.inl ⟨by rfl, fun w' hS => by have hc := hS.cell (i := 1) rfl; go_simp⟩) hS0 ?_
  try simp only [Act.put, List.setIfInBounds_toArray, List.set_cons_zero, List.set_cons_succ]
  refine held_take [] (i := 6) (v := .pointer (some ⟨w.heap.size, 1, none⟩)) rfl (by kernel_rfl) (fun _ _ _ h => h) (Or.inl ⟨by rfl, fun w' hS => by go_simp⟩) hS0 ?_
  try simp only [Act.put, List.setIfInBounds_toArray, List.set_cons_zero, List.set_cons_succ]
  refine held_take [] (i := 7) (v := .pointer (some ⟨w.heap.size, 2, none⟩)) rfl (by kernel_rfl) (fun _ _ _ h => h) (Or.inl ⟨by rfl, fun w' hS => by go_simp⟩) hS0 ?_
  try simp only [Act.put, List.setIfInBounds_toArray, List.set_cons_zero, List.set_cons_succ]
  refine held_take [] (i := 8) (v := .int .i64 h0.stage.y) rfl (by kernel_rfl) (fun _ _ _ h => h) (Or.inl ⟨by rfl, fun w' hS => by have hc := hS.cell (i := 2) rfl; go_simp⟩) hS0 ?_
  try simp only [Act.put, List.setIfInBounds_toArray, List.set_cons_zero, List.set_cons_succ]
  refine held_one (i := 9) rfl (by kernel_rfl) (fun K hK => ?_)
  go_simp
  refine hK.out _ _ (fun _ => hS0.alloc _) ?_
  clear hK K
  try simp only [Act.put, List.setIfInBounds_toArray, List.set_cons_zero, List.set_cons_succ]
  refine held_one (i := 10) rfl (by kernel_rfl) (fun K hK => ?_)
  go_simp
  have HC := Lib.hid (numbers_new [h0.stage.x, h0.stage.y] (by intro z hz; simp only [List.mem_cons, List.not_mem_nil, or_false] at hz; rcases hz with rfl | rfl <;> assumption) (by simp) wa u3 _ KA.out (Nat.le_trans HB0.out RA.out.kp.size) (HEW.out _ _ (RA.out)))
  refine HC.out.mono ?_; rintro e w4 ⟨rfl, u4, k1, k2⟩
  have K4 := Lib.hid k1; have R4 := Lib.hid (RA.out.trans k2)
  refine hK.out _ _ (fun _ => HBK.out _ _ R4.out) ?_
  clear hK K k1 k2 HC KA RA hS0
  try simp only [Act.put, List.setIfInBounds_toArray, List.set_cons_zero, List.set_cons_succ]
  refine held_done (by kernel_rfl) ?_ _
  have HC := Lib.hid (begin_any w4 u4 _ K4.out (Nat.le_trans HB0.out R4.out.kp.size) (by simp only [opn_numbers, opn_names, opn_word]; omega))
  go_wp2_with fail
  refine HC.out.mono ?_; rintro e w5 ⟨rfl, u5, k1, k2⟩
  have K5 := Lib.hid k1; have R5 := Lib.hid (R4.out.trans k2)
  clear k1 k2 HC K4 R4
  obtain ⟨S1, hS⟩ : ∃ S, beginS (numbersS [h0.stage.x, h0.stage.y] (wordS wStage (namesS [h0.name] (wordS Foyer.Printer.wHall (s))))) = S := ⟨_, rfl⟩
  have HS1 := Lib.hid hS
  replace K5 : Hid (WR B b T w5 u5 S1) := Lib.hid (by rw [← hS]; exact K5.out)
  clear hS
  have cf := (HBK.out _ _ R5.out).cell (i := 3) rfl
  go_wp2
  go_loopw [39] (fun i wr => ∃ (k : Nat) (uo : Value), i = .int .i64 k ∧ k ≤ n ∧ Hid (WR B b T wr uo ((h0.levels.take k).foldl (fun s x => levelS x s) (S1))) ∧ Hid (Wrote b w0 u0 wr uo)) (fun i _ => n - (intOf i).toNat)
  case atStart => exact ⟨0, u5, rfl, Nat.zero_le _, Lib.hid (by rw [List.take_zero, List.foldl_nil]; exact K5.out), R5⟩
  case round =>
    have hnb : n ≤ 9223372036854775807 := by have := HL.out.len.2; unfold maxLen at this; omega
    obtain ⟨k, uo, rfl, hk, HV, HR⟩ := hrel
    clear cf
    have cf := (HBK.out _ _ HR.out).cell (i := 3) rfl
    by_cases hkn : k < n
    · obtain ⟨x, hx⟩ : ∃ x, h0.levels[k]? = some x := ⟨_, List.getElem?_eq_getElem (by have := HL.out.len.1; omega)⟩
      have hm := List.mem_of_getElem? hx
      have hst := take_fold (fun s x => levelS x s) h0.levels (S1) hx
      obtain ⟨t, ht⟩ : ∃ t, (h0.levels.take k).foldl (fun s x => levelS x s) (S1) = t := ⟨_, rfl⟩
      rw [ht] at hst HV
      obtain ⟨lb, lo, c, rfl, hlb, hc, hcell⟩ := (HL.out.below (HIN.out _ _ HR.out)).at hx
      obtain ⟨v1, v2, v3, v4, v5, rfl, hm0⟩ := hc
      obtain ⟨p1, c1, rfl⟩ := hm0.blocks.slice
      obtain ⟨n1, hn1⟩ : ∃ n, x.blocks.length = n := ⟨_, rfl⟩
      rw [hn1] at hm0 hcell
      clear hn1
      obtain ⟨p2, c2, rfl⟩ := hm0.areas.slice
      obtain ⟨n2, hn2⟩ : ∃ n, x.areas.length = n := ⟨_, rfl⟩
      rw [hn2] at hm0 hcell
      clear hn2
      obtain ⟨p3, c3, rfl⟩ := hm0.aisles.slice
      obtain ⟨n3, hn3⟩ : ∃ n, x.aisles.length = n := ⟨_, rfl⟩
      rw [hn3] at hm0 hcell
      clear hn3
      obtain ⟨p4, c4, rfl⟩ := hm0.pillars.slice
      obtain ⟨n4, hn4⟩ : ∃ n, x.pillars.length = n := ⟨_, rfl⟩
      rw [hn4] at hm0 hcell
      clear hn4
      obtain ⟨p5, c5, rfl⟩ := hm0.doors.slice
      obtain ⟨n5, hn5⟩ : ∃ n, x.doors.length = n := ⟨_, rfl⟩
      rw [hn5] at hm0 hcell
      clear hn5
      have d0 := hcell 0 _ rfl
      have d1 := hcell 1 _ rfl
      have d2 := hcell 2 _ rfl
      have d3 := hcell 3 _ rfl
      have d4 := hcell 4 _ rfl
      have d5 := hcell 5 _ rfl
      have d6 := hcell 6 _ rfl
      have d7 := hcell 7 _ rfl
      rw [show levelL.size = 8 from rfl] at d0 d1 d2 d3 d4 d5 d6 d7
      rw [Nat.add_zero] at d0
      have hki : (0 : Int) ≤ k ∧ (k : Int) < n := by omega
      go_wp2_with fail
      have hbe : Below wr.heap.size wr (wr.alloc (.cells #[.string ⟨x.name.toArray⟩, .int .i64 x.height, .slice p1 n1 c1, .slice p2 n2 c2, .slice p3 n3 c3, .slice p4 n4 c4, .slice p5 n5 c5, .int .i64 x.pos] 50)) := (Below.refl _ _).alloc (Nat.le_refl _) _
      have hbB : B ≤ wr.heap.size := Nat.le_trans HB0.out HR.out.kp.size
      have HRE : Hid (Wrote b w0 u0 (wr.alloc (.cells #[.string ⟨x.name.toArray⟩, .int .i64 x.height, .slice p1 n1 c1, .slice p2 n2 c2, .slice p3 n3 c3, .slice p4 n4 c4, .slice p5 n5 c5, .int .i64 x.pos] 50)) uo) := Lib.hid (HR.out.trans ((Wrote.refl b _ uo).later hbe))
      have HM0 : Hid (LevelIn (wr.alloc (.cells #[.string ⟨x.name.toArray⟩, .int .i64 x.height, .slice p1 n1 c1, .slice p2 n2 c2, .slice p3 n3 c3, .slice p4 n4 c4, .slice p5 n5 c5, .int .i64 x.pos] 50)) B x (.slice p1 n1 c1) (.slice p2 n2 c2) (.slice p3 n3 c3) (.slice p4 n4 c4) (.slice p5 n5 c5)) := Lib.hid (hm0.kept (hbe.mono hbB).block); have HT : Hid (t.opn ≤ 4) := Lib.hid (by rw [← ht, opn_fold (fun s r => opn_level r s), ← HS1.out, opn_begin]; simp only [opn_numbers, opn_names, opn_word]; omega)
      have K100 := Lib.hid (HV.out.later hbe); have HB1 : Hid (B ≤ (wr.alloc (.cells #[.string ⟨x.name.toArray⟩, .int .i64 x.height, .slice p1 n1 c1, .slice p2 n2 c2, .slice p3 n3 c3, .slice p4 n4 c4, .slice p5 n5 c5, .int .i64 x.pos] 50)).heap.size) := Lib.hid (Nat.le_trans hbB hbe.size)
      have HBE : Hid (∀ w' v', Wrote b (wr.alloc (.cells #[.string ⟨x.name.toArray⟩, .int .i64 x.height, .slice p1 n1 c1, .slice p2 n2 c2, .slice p3 n3 c3, .slice p4 n4 c4, .slice p5 n5 c5, .int .i64 x.pos] 50)) uo w' v' → Blk w' wr.heap.size 50 [.string ⟨x.name.toArray⟩, .int .i64 x.height, .slice p1 n1 c1, .slice p2 n2 c2, .slice p3 n3 c3, .slice p4 n4 c4, .slice p5 n5 c5, .int .i64 x.pos]) := Lib.hid fun w' v' k => (k.kept (k := wr.heap.size) (by simp) (by have := HV.out.lt; omega) (fun e => by have := (HV.out.vlow e).2; omega)).1.trans (Blk.new wr 50 [.string ⟨x.name.toArray⟩, .int .i64 x.height, .slice p1 n1 c1, .slice p2 n2 c2, .slice p3 n3 c3, .slice p4 n4 c4, .slice p5 n5 c5, .int .i64 x.pos])
      obtain ⟨w100, hw100⟩ : ∃ w100, (wr.alloc (.cells #[.string ⟨x.name.toArray⟩, .int .i64 x.height, .slice p1 n1 c1, .slice p2 n2 c2, .slice p3 n3 c3, .slice p4 n4 c4, .slice p5 n5 c5, .int .i64 x.pos] 50)) = w100 := ⟨_, rfl⟩
      rw [hw100] at HRE K100 HB1 HBE HM0
      have R100 := Lib.hid (Wrote.refl b w100 uo)
      have HST := Lib.hid hst
      clear hx hst ht hcell hbe hlb hbB
      have HC := Lib.hid (level_any x (x4 _ hm) p1 p2 p3 p4 p5 n1 c1 n2 c2 n3 c3 n4 c4 n5 c5 w100 uo t K100.out (Nat.le_trans HB1.out R100.out.kp.size) (HEW.out _ _ (HRE.out.trans R100.out)) HT.out HM0.out)
      try rw [hw100]
      refine HC.out.mono ?_; rintro e w101 ⟨rfl, u101, k1, k2⟩
      have K101 := Lib.hid k1; have R101 := Lib.hid (R100.out.trans k2)
      clear k1 k2 HC K100 R100
      have RZ := Lib.hid (HRE.out.trans R101.out)
      clear HRE cf d0 d1 d2 d3 d4 d5 d6 d7
      have cf := (HBK.out _ _ RZ.out).cell (i := 3) rfl
      go_wp2
      go_roundw
      case rel => exact ⟨k + 1, u101, by go_num, by omega, by rw [HST.out]; exact K101, RZ⟩
      case measure => simp [intOf]; omega
    · have hkn2 : k = n := by omega
      subst hkn2
      rw [show h0.levels.take k = h0.levels from List.take_of_length_le (by have := HL.out.len.1; omega)] at HV
      clear cf hkn hk hnb
      obtain ⟨u6, hu6⟩ : ∃ u, u = uo := ⟨uo, rfl⟩
      rw [← hu6] at HV HR
      generalize wr = w6 at *
      have K6 := HV; have R6 := HR
      clear HV HR K5 R5 hu6
      have HC := Lib.hid (end_any w6 u6 _ K6.out (Nat.le_trans HB0.out R6.out.kp.size) (by rw [opn_fold (fun s r => opn_level r s), ← HS1.out, opn_begin]; omega))
      go_wp2_with fail
      refine HC.out.mono ?_; rintro e w7 ⟨rfl, u7, k1, k2⟩
      have K7 := Lib.hid k1; have R7 := Lib.hid (R6.out.trans k2)
      clear k1 k2 HC K6 R6
      have HE : Hid (hallS h0 s = endS (h0.levels.foldl (fun s x => levelS x s) (S1))) := Lib.hid (by rw [← HS1.out]; rfl)
      go_wp2
      go_end0
      subst hu0
      exact ⟨rfl, u7, by rw [HE.out]; exact K7.out, HFIN.out _ _ R7.out⟩
end Go.Proofs.YtilfpnkcgjonhaaGreatDoor.Pr
