/-
  The law's own examples.
-/
import Derived.Test.YtdmancneccfgeaaWalkView
import Derived.Lib.QuietBelow
namespace Go.Proofs.Ytdmancneccfgeaa.Sg
open Go.RowKit Go.Sort Foyer.Hall Foyer.Sight Go.Proofs.Ytdmancneccfgeaa.Hl

set_option maxRecDepth 100000 in
theorem point_any (x y : Int) (w : World) :
    Calls Try.prog 15 #[.int .i64 x, .int .i64 y] w fun e w' => e = .returned (.agg #[.int .i64 x, .int .i64 y]) ∧ Below w.heap.size w w' := by
  go_enter Try.func15, Try.ntmps15
  go_wp2
  exact bodyPost_ret (results_cell_mid rfl _ _ w.heap.size [.int .i64 x, .int .i64 y] _ rfl (Blk.new w 23 [.int .i64 x, .int .i64 y]).range Try.underlying23 rfl (by kernel_rfl)) rfl ⟨rfl, (Since.refl w).alloc _⟩
set_option maxRecDepth 100000 in
theorem box_any (x y x2 y2 : Int) (w : World) :
    Calls Try.prog 17 #[.int .i64 x, .int .i64 y, .int .i64 x2, .int .i64 y2] w fun e w' => e = .returned (.agg #[.int .i64 x, .int .i64 y, .int .i64 x2, .int .i64 y2]) ∧ Below w.heap.size w w' := by
  go_enter Try.func17, Try.ntmps17
  go_wp2
  exact bodyPost_ret (results_cell_mid rfl _ _ w.heap.size [.int .i64 x, .int .i64 y, .int .i64 x2, .int .i64 y2] _ rfl (Blk.new w 25 [.int .i64 x, .int .i64 y, .int .i64 x2, .int .i64 y2]).range Try.underlying25 rfl (by kernel_rfl)) rfl ⟨rfl, (Since.refl w).alloc _⟩
def exH : HallZ := ⟨[], ⟨0, 0⟩, [⟨[], 0, [], [], [], [⟨500, 0, 501, 1⟩], [], 0⟩, ⟨[], 0, [], [], [], [], [], 0⟩]⟩
set_option maxRecDepth 100000 in
set_option maxHeartbeats 2000000 in
theorem head_any (w : World) : Calls Try.prog 9 #[] w fun e w' => e = .returned (.bool true) ∧ Below w.heap.size w w' := by
  have C1 : Hid (∀ w : World, Calls Try.prog 11 #[.agg #[.int .i64 0, .int .i64 0], .agg #[.int .i64 4, .int .i64 4], .agg #[.int .i64 2, .int .i64 2, .int .i64 3, .int .i64 5]] w fun e w' => e = .returned (.bool true) ∧ Below w.heap.size w w') := Lib.hid fun w => (crosses_any ⟨0, 0⟩ ⟨4, 4⟩ ⟨2, 2, 3, 5⟩ w).mono fun e w' ⟨h, hb⟩ => ⟨by rw [h, show cross ⟨0, 0⟩ ⟨4, 4⟩ ⟨2, 2, 3, 5⟩ = true by decide +kernel], hb⟩
  have C2 : Hid (∀ w : World, Calls Try.prog 11 #[.agg #[.int .i64 0, .int .i64 0], .agg #[.int .i64 4, .int .i64 4], .agg #[.int .i64 0, .int .i64 1, .int .i64 0, .int .i64 9]] w fun e w' => e = .returned (.bool false) ∧ Below w.heap.size w w') := Lib.hid fun w => (crosses_any ⟨0, 0⟩ ⟨4, 4⟩ ⟨0, 1, 0, 9⟩ w).mono fun e w' ⟨h, hb⟩ => ⟨by rw [h, show cross ⟨0, 0⟩ ⟨4, 4⟩ ⟨0, 1, 0, 9⟩ = false by decide +kernel], hb⟩
  have C3 : Hid (∀ w : World, Calls Try.prog 11 #[.agg #[.int .i64 0, .int .i64 0], .agg #[.int .i64 10, .int .i64 1], .agg #[.int .i64 5, .int .i64 0, .int .i64 5, .int .i64 0]] w fun e w' => e = .returned (.bool false) ∧ Below w.heap.size w w') := Lib.hid fun w => (crosses_any ⟨0, 0⟩ ⟨10, 1⟩ ⟨5, 0, 5, 0⟩ w).mono fun e w' ⟨h, hb⟩ => ⟨by rw [h, show cross ⟨0, 0⟩ ⟨10, 1⟩ ⟨5, 0, 5, 0⟩ = false by decide +kernel], hb⟩
  have C4 : Hid (∀ w : World, Calls Try.prog 11 #[.agg #[.int .i64 0, .int .i64 0], .agg #[.int .i64 10001, .int .i64 1], .agg #[.int .i64 0, .int .i64 0, .int .i64 9, .int .i64 9]] w fun e w' => e = .returned (.bool false) ∧ Below w.heap.size w w') := Lib.hid fun w => (crosses_any ⟨0, 0⟩ ⟨10001, 1⟩ ⟨0, 0, 9, 9⟩ w).mono fun e w' ⟨h, hb⟩ => ⟨by rw [h, show cross ⟨0, 0⟩ ⟨10001, 1⟩ ⟨0, 0, 9, 9⟩ = false by decide +kernel], hb⟩
  have S0 : Hid (Since w w) := Lib.hid (Since.refl w)
  go_enter Try.func9, Try.ntmps9
  go_wp2_with fail
  refine (point_any _ _ _).mono ?_; rintro e w1 ⟨rfl, hb⟩
  have S1 := Lib.hid (S0.out.call hb)
  clear hb S0
  go_wp2_with fail
  refine (point_any _ _ _).mono ?_; rintro e w2 ⟨rfl, hb⟩
  have S2 := Lib.hid (S1.out.call hb)
  clear hb S1
  go_wp2_with fail
  refine (box_any _ _ _ _ _).mono ?_; rintro e w3 ⟨rfl, hb⟩
  have S3 := Lib.hid (S2.out.call hb)
  clear hb S2
  go_wp2_with fail
  refine (C1.out _).mono ?_; rintro e w4 ⟨rfl, hb⟩
  have S4 := Lib.hid (S3.out.call hb)
  clear hb S3
  go_wp2_with fail
  refine (point_any _ _ _).mono ?_; rintro e w5 ⟨rfl, hb⟩
  have S5 := Lib.hid (S4.out.call hb)
  clear hb S4
  go_wp2_with fail
  refine (point_any _ _ _).mono ?_; rintro e w6 ⟨rfl, hb⟩
  have S6 := Lib.hid (S5.out.call hb)
  clear hb S5
  go_wp2_with fail
  refine (box_any _ _ _ _ _).mono ?_; rintro e w7 ⟨rfl, hb⟩
  have S7 := Lib.hid (S6.out.call hb)
  clear hb S6
  go_wp2_with fail
  refine (C2.out _).mono ?_; rintro e w8 ⟨rfl, hb⟩
  have S8 := Lib.hid (S7.out.call hb)
  clear hb S7
  go_wp2_with fail
  refine (point_any _ _ _).mono ?_; rintro e w9 ⟨rfl, hb⟩
  have S9 := Lib.hid (S8.out.call hb)
  clear hb S8
  go_wp2_with fail
  refine (point_any _ _ _).mono ?_; rintro e w10 ⟨rfl, hb⟩
  have S10 := Lib.hid (S9.out.call hb)
  clear hb S9
  go_wp2_with fail
  refine (box_any _ _ _ _ _).mono ?_; rintro e w11 ⟨rfl, hb⟩
  have S11 := Lib.hid (S10.out.call hb)
  clear hb S10
  go_wp2_with fail
  refine (C3.out _).mono ?_; rintro e w12 ⟨rfl, hb⟩
  have S12 := Lib.hid (S11.out.call hb)
  clear hb S11
  go_wp2_with fail
  refine (point_any _ _ _).mono ?_; rintro e w13 ⟨rfl, hb⟩
  have S13 := Lib.hid (S12.out.call hb)
  clear hb S12
  go_wp2_with fail
  refine (point_any _ _ _).mono ?_; rintro e w14 ⟨rfl, hb⟩
  have S14 := Lib.hid (S13.out.call hb)
  clear hb S13
  go_wp2_with fail
  refine (box_any _ _ _ _ _).mono ?_; rintro e w15 ⟨rfl, hb⟩
  have S15 := Lib.hid (S14.out.call hb)
  clear hb S14
  go_wp2_with fail
  refine (C4.out _).mono ?_; rintro e w16 ⟨rfl, hb⟩
  have S16 := Lib.hid (S15.out.call hb)
  clear hb S15
  go_wp2_with fail
  refine (box_any _ _ _ _ _).mono ?_; rintro e w17 ⟨rfl, hb⟩
  have S17 := Lib.hid (S16.out.call hb)
  clear hb S16
  clear C1 C2 C3 C4
  obtain ⟨wh, hwh, swh, bwh, kb, kl, kh⟩ : ∃ wh, ((w17.alloc (.cells #[.int .i64 500, .int .i64 0, .int .i64 501, .int .i64 1] 25)).alloc (.cells #[.string ⟨#[]⟩, .int .i64 0, .slice none 0 0, .slice none 0 0, .slice none 0 0, .slice (some ⟨w17.heap.size, 0, none⟩) 1 1, .slice none 0 0, .int .i64 0, .string ⟨#[]⟩, .int .i64 0, .slice none 0 0, .slice none 0 0, .slice none 0 0, .slice none 0 0, .slice none 0 0, .int .i64 0] 51)).alloc (.cells #[.string ⟨#[]⟩, .int .i64 0, .int .i64 0, .slice (some ⟨w17.heap.size + 1, 0, none⟩) 2 2] 28) = wh ∧ wh.heap.size = w17.heap.size + 1 + 1 + 1 ∧ Since w17 wh ∧ Blk wh (w17.heap.size) 25 [.int .i64 500, .int .i64 0, .int .i64 501, .int .i64 1] ∧ Blk wh (w17.heap.size + 1) 51 [.string ⟨#[]⟩, .int .i64 0, .slice none 0 0, .slice none 0 0, .slice none 0 0, .slice (some ⟨w17.heap.size, 0, none⟩) 1 1, .slice none 0 0, .int .i64 0, .string ⟨#[]⟩, .int .i64 0, .slice none 0 0, .slice none 0 0, .slice none 0 0, .slice none 0 0, .slice none 0 0, .int .i64 0] ∧ Blk wh (w17.heap.size + 1 + 1) 28 [.string ⟨#[]⟩, .int .i64 0, .int .i64 0, .slice (some ⟨w17.heap.size + 1, 0, none⟩) 2 2] := by
    obtain ⟨v1, e1⟩ : ∃ wq, w17.alloc (.cells #[.int .i64 500, .int .i64 0, .int .i64 501, .int .i64 1] 25) = wq := ⟨_, rfl⟩
    have s1 : v1.heap.size = w17.heap.size + 1 := by rw [← e1, World.size_alloc]
    have b1 : Since w17 v1 := by rw [← e1]; exact (Since.refl w17).alloc _
    have k1_1 : Blk v1 (w17.heap.size) 25 [.int .i64 500, .int .i64 0, .int .i64 501, .int .i64 1] := by rw [← e1]; exact Blk.new _ _ _
    obtain ⟨v2, e2⟩ : ∃ wq, v1.alloc (.cells #[.string ⟨#[]⟩, .int .i64 0, .slice none 0 0, .slice none 0 0, .slice none 0 0, .slice (some ⟨w17.heap.size, 0, none⟩) 1 1, .slice none 0 0, .int .i64 0, .string ⟨#[]⟩, .int .i64 0, .slice none 0 0, .slice none 0 0, .slice none 0 0, .slice none 0 0, .slice none 0 0, .int .i64 0] 51) = wq := ⟨_, rfl⟩
    have s2 : v2.heap.size = w17.heap.size + 1 + 1 := by rw [← e2, World.size_alloc, s1]
    have b2 : Since w17 v2 := by rw [← e2]; exact b1.alloc _
    have k2_2 : Blk v2 (w17.heap.size + 1) 51 [.string ⟨#[]⟩, .int .i64 0, .slice none 0 0, .slice none 0 0, .slice none 0 0, .slice (some ⟨w17.heap.size, 0, none⟩) 1 1, .slice none 0 0, .int .i64 0, .string ⟨#[]⟩, .int .i64 0, .slice none 0 0, .slice none 0 0, .slice none 0 0, .slice none 0 0, .slice none 0 0, .int .i64 0] := by rw [← e2, ← s1]; exact Blk.new _ _ _
    have k1_2 : Blk v2 (w17.heap.size) 25 [.int .i64 500, .int .i64 0, .int .i64 501, .int .i64 1] := by rw [← e2]; exact k1_1.alloc _
    obtain ⟨v3, e3⟩ : ∃ wq, v2.alloc (.cells #[.string ⟨#[]⟩, .int .i64 0, .int .i64 0, .slice (some ⟨w17.heap.size + 1, 0, none⟩) 2 2] 28) = wq := ⟨_, rfl⟩
    have s3 : v3.heap.size = w17.heap.size + 1 + 1 + 1 := by rw [← e3, World.size_alloc, s2]
    have b3 : Since w17 v3 := by rw [← e3]; exact b2.alloc _
    have k3_3 : Blk v3 (w17.heap.size + 1 + 1) 28 [.string ⟨#[]⟩, .int .i64 0, .int .i64 0, .slice (some ⟨w17.heap.size + 1, 0, none⟩) 2 2] := by rw [← e3, ← s2]; exact Blk.new _ _ _
    have k1_3 : Blk v3 (w17.heap.size) 25 [.int .i64 500, .int .i64 0, .int .i64 501, .int .i64 1] := by rw [← e3]; exact k1_2.alloc _
    have k2_3 : Blk v3 (w17.heap.size + 1) 51 [.string ⟨#[]⟩, .int .i64 0, .slice none 0 0, .slice none 0 0, .slice none 0 0, .slice (some ⟨w17.heap.size, 0, none⟩) 1 1, .slice none 0 0, .int .i64 0, .string ⟨#[]⟩, .int .i64 0, .slice none 0 0, .slice none 0 0, .slice none 0 0, .slice none 0 0, .slice none 0 0, .int .i64 0] := by rw [← e3]; exact k2_2.alloc _
    rw [e1, e2, e3]
    exact ⟨_, rfl, s3, b3, k1_3, k2_3, k3_3⟩
  have hlk : Lk levelL wh wh.heap.size (.slice (some ⟨w17.heap.size + 1, 0, none⟩) 2 2) exH.levels := by
    refine lk2 (K := levelL) kl ⟨_, _, _, _, _, rfl, lk_nil _ _ _, lk_nil _ _ _, lk_nil _ _ _, ?_, lk_nil _ _ _⟩ ⟨_, _, _, _, _, rfl, lk_nil _ _ _, lk_nil _ _ _, lk_nil _ _ _, lk_nil _ _ _, lk_nil _ _ _⟩ kl.lt
    exact lk1 (K := boxL) kb rfl kb.lt
  have V1 : Hid (∀ d os, Calls Try.prog 13 #[.agg #[.string ⟨#[]⟩, .int .i64 0, .int .i64 0, .slice (some ⟨w17.heap.size + 1, 0, none⟩) 2 2], .int .i64 1, .agg #[.int .i64 1000, .int .i64 0]] (grow (redrawn wh d) os) fun e w'' => e = .returned (.int .i64 0) ∧ ∃ p : Regrown, w'' = grow (redrawn wh p.d) p.os) := Lib.hid fun d os => Calls.regrown_of ((view_any exH _ 2 2 1 ⟨1000, 0⟩ (grow (redrawn wh d) os) ((hlk.below (below_regrown wh d os)).mono (below_regrown wh d os).size)).mono fun e w' ⟨h, hb⟩ => ⟨by rw [h, show view exH 1 ⟨1000, 0⟩ = 0 by decide +kernel], hb⟩)
  have P1 : Hid (∀ d os, Calls Try.prog 15 #[.int .i64 1000, .int .i64 0] (grow (redrawn wh d) os) fun e w'' => e = .returned (.agg #[.int .i64 1000, .int .i64 0]) ∧ ∃ p : Regrown, w'' = grow (redrawn wh p.d) p.os) := Lib.hid fun d os => Calls.regrown_of (point_any 1000 0 _)
  have V2 : Hid (∀ d os, Calls Try.prog 13 #[.agg #[.string ⟨#[]⟩, .int .i64 0, .int .i64 0, .slice (some ⟨w17.heap.size + 1, 0, none⟩) 2 2], .int .i64 0, .agg #[.int .i64 1001, .int .i64 0]] (grow (redrawn wh d) os) fun e w'' => e = .returned (.int .i64 2) ∧ ∃ p : Regrown, w'' = grow (redrawn wh p.d) p.os) := Lib.hid fun d os => Calls.regrown_of ((view_any exH _ 2 2 0 ⟨1001, 0⟩ (grow (redrawn wh d) os) ((hlk.below (below_regrown wh d os)).mono (below_regrown wh d os).size)).mono fun e w' ⟨h, hb⟩ => ⟨by rw [h, show view exH 0 ⟨1001, 0⟩ = 2 by decide +kernel], hb⟩)
  have P2 : Hid (∀ d os, Calls Try.prog 15 #[.int .i64 1001, .int .i64 0] (grow (redrawn wh d) os) fun e w'' => e = .returned (.agg #[.int .i64 1001, .int .i64 0]) ∧ ∃ p : Regrown, w'' = grow (redrawn wh p.d) p.os) := Lib.hid fun d os => Calls.regrown_of (point_any 1001 0 _)
  have V3 : Hid (∀ d os, Calls Try.prog 13 #[.agg #[.string ⟨#[]⟩, .int .i64 0, .int .i64 0, .slice (some ⟨w17.heap.size + 1, 0, none⟩) 2 2], .int .i64 2, .agg #[.int .i64 0, .int .i64 0]] (grow (redrawn wh d) os) fun e w'' => e = .returned (.int .i64 3) ∧ ∃ p : Regrown, w'' = grow (redrawn wh p.d) p.os) := Lib.hid fun d os => Calls.regrown_of ((view_any exH _ 2 2 2 ⟨0, 0⟩ (grow (redrawn wh d) os) ((hlk.below (below_regrown wh d os)).mono (below_regrown wh d os).size)).mono fun e w' ⟨h, hb⟩ => ⟨by rw [h, show view exH 2 ⟨0, 0⟩ = 3 by decide +kernel], hb⟩)
  have P3 : Hid (∀ d os, Calls Try.prog 15 #[.int .i64 0, .int .i64 0] (grow (redrawn wh d) os) fun e w'' => e = .returned (.agg #[.int .i64 0, .int .i64 0]) ∧ ∃ p : Regrown, w'' = grow (redrawn wh p.d) p.os) := Lib.hid fun d os => Calls.regrown_of (point_any 0 0 _)
  have c0 := fun d os => cell_regrown (kh.cell (i := 0) rfl) d os
  have c1 := fun d os => cell_regrown (kh.cell (i := 1) rfl) d os
  have c2 := fun d os => cell_regrown (kh.cell (i := 2) rfl) d os
  have c3 := fun d os => cell_regrown (kh.cell (i := 3) rfl) d os
  have HWH := Lib.hid hwh
  have HB : Hid (Since w wh) := Lib.hid (S17.out.call bwh)
  clear hwh swh bwh kb kl kh hlk S17
  go_upto_region 3 with fail
  rw [HWH.out]
  refine wp_region_quiet_below (by kernel_rfl) (by kernel_rfl) ?_
  repeat (go_big_quiet_step (first | with_reducible exact P1.out _ _ | with_reducible exact P2.out _ _ | with_reducible exact P3.out _ _ | with_reducible exact V1.out _ _ | with_reducible exact V2.out _ _ | with_reducible exact V3.out _ _))
  refine wpQuiet_nil ?_
  intro _ hw'
  obtain ⟨⟨dq, osq⟩, hw''⟩ := hw'
  subst hw''
  go_wp2
  go_ret
  exact ⟨rfl, HB.out.call (below_regrown _ dq osq)⟩
end Go.Proofs.Ytdmancneccfgeaa.Sg
