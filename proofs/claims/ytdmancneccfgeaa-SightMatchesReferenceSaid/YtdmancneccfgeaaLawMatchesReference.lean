/-
  Both functions agree with the document's own.
-/
import Derived.Test.YtdmancneccfgeaaRefView
import Derived.Test.YtdmancneccfgeaaHead9
namespace Go.Proofs.Ytdmancneccfgeaa.Sg
open Go.RowKit Go.Sort Foyer.Hall Foyer.Sight Go.Proofs.Ytdmancneccfgeaa.Hl

set_option linter.unusedSimpArgs false in
set_option maxRecDepth 100000 in
set_option maxHeartbeats 4000000 in
theorem ref_walk (a b : Pt) (X : Bx) (h : HallZ) (q : Option Addr) (n cap : Nat) (k : Int) (w : World) (_ : PointZ.Fit a) (_ : PointZ.Fit b) (_ : BoxZ.Fit X) (hl : Lk levelL w w.heap.size (.slice q n cap) h.levels) (_ : HallZ.Wide h) (_ : (Lit.int .i64 k).wf = true) :
    Calls Try.prog 3 #[.agg #[.int .i64 a.x, .int .i64 a.y], .agg #[.int .i64 b.x, .int .i64 b.y], .agg #[.int .i64 X.x, .int .i64 X.y, .int .i64 X.x2, .int .i64 X.y2], .agg #[.string ⟨h.name.toArray⟩, .int .i64 h.stage.x, .int .i64 h.stage.y, .slice q n cap], .int .i64 k] w fun e w' => e = .returned (.bool true) ∧ Below w.heap.size w w' := by
  obtain ⟨w4, hw4, sw4, bw4, ka, kb, kx, kh⟩ : ∃ w4, (((w.alloc (.cells #[.int .i64 a.x, .int .i64 a.y] 23)).alloc (.cells #[.int .i64 b.x, .int .i64 b.y] 23)).alloc (.cells #[.int .i64 X.x, .int .i64 X.y, .int .i64 X.x2, .int .i64 X.y2] 25)).alloc (.cells #[.string ⟨h.name.toArray⟩, .int .i64 h.stage.x, .int .i64 h.stage.y, .slice q n cap] 28) = w4 ∧ w4.heap.size = w.heap.size + 1 + 1 + 1 + 1 ∧ Since w w4 ∧ Blk w4 (w.heap.size) 23 [.int .i64 a.x, .int .i64 a.y] ∧ Blk w4 (w.heap.size + 1) 23 [.int .i64 b.x, .int .i64 b.y] ∧ Blk w4 (w.heap.size + 1 + 1) 25 [.int .i64 X.x, .int .i64 X.y, .int .i64 X.x2, .int .i64 X.y2] ∧ Blk w4 (w.heap.size + 1 + 1 + 1) 28 [.string ⟨h.name.toArray⟩, .int .i64 h.stage.x, .int .i64 h.stage.y, .slice q n cap] := by
    obtain ⟨v1, e1⟩ : ∃ wq, w.alloc (.cells #[.int .i64 a.x, .int .i64 a.y] 23) = wq := ⟨_, rfl⟩
    have s1 : v1.heap.size = w.heap.size + 1 := by rw [← e1, World.size_alloc]
    have b1 : Since w v1 := by rw [← e1]; exact (Since.refl w).alloc _
    have k1_1 : Blk v1 (w.heap.size) 23 [.int .i64 a.x, .int .i64 a.y] := by rw [← e1]; exact Blk.new _ _ _
    obtain ⟨v2, e2⟩ : ∃ wq, v1.alloc (.cells #[.int .i64 b.x, .int .i64 b.y] 23) = wq := ⟨_, rfl⟩
    have s2 : v2.heap.size = w.heap.size + 1 + 1 := by rw [← e2, World.size_alloc, s1]
    have b2 : Since w v2 := by rw [← e2]; exact b1.alloc _
    have k2_2 : Blk v2 (w.heap.size + 1) 23 [.int .i64 b.x, .int .i64 b.y] := by rw [← e2, ← s1]; exact Blk.new _ _ _
    have k1_2 : Blk v2 (w.heap.size) 23 [.int .i64 a.x, .int .i64 a.y] := by rw [← e2]; exact k1_1.alloc _
    obtain ⟨v3, e3⟩ : ∃ wq, v2.alloc (.cells #[.int .i64 X.x, .int .i64 X.y, .int .i64 X.x2, .int .i64 X.y2] 25) = wq := ⟨_, rfl⟩
    have s3 : v3.heap.size = w.heap.size + 1 + 1 + 1 := by rw [← e3, World.size_alloc, s2]
    have b3 : Since w v3 := by rw [← e3]; exact b2.alloc _
    have k3_3 : Blk v3 (w.heap.size + 1 + 1) 25 [.int .i64 X.x, .int .i64 X.y, .int .i64 X.x2, .int .i64 X.y2] := by rw [← e3, ← s2]; exact Blk.new _ _ _
    have k1_3 : Blk v3 (w.heap.size) 23 [.int .i64 a.x, .int .i64 a.y] := by rw [← e3]; exact k1_2.alloc _
    have k2_3 : Blk v3 (w.heap.size + 1) 23 [.int .i64 b.x, .int .i64 b.y] := by rw [← e3]; exact k2_2.alloc _
    obtain ⟨v4, e4⟩ : ∃ wq, v3.alloc (.cells #[.string ⟨h.name.toArray⟩, .int .i64 h.stage.x, .int .i64 h.stage.y, .slice q n cap] 28) = wq := ⟨_, rfl⟩
    have s4 : v4.heap.size = w.heap.size + 1 + 1 + 1 + 1 := by rw [← e4, World.size_alloc, s3]
    have b4 : Since w v4 := by rw [← e4]; exact b3.alloc _
    have k4_4 : Blk v4 (w.heap.size + 1 + 1 + 1) 28 [.string ⟨h.name.toArray⟩, .int .i64 h.stage.x, .int .i64 h.stage.y, .slice q n cap] := by rw [← e4, ← s3]; exact Blk.new _ _ _
    have k1_4 : Blk v4 (w.heap.size) 23 [.int .i64 a.x, .int .i64 a.y] := by rw [← e4]; exact k1_3.alloc _
    have k2_4 : Blk v4 (w.heap.size + 1) 23 [.int .i64 b.x, .int .i64 b.y] := by rw [← e4]; exact k2_3.alloc _
    have k3_4 : Blk v4 (w.heap.size + 1 + 1) 25 [.int .i64 X.x, .int .i64 X.y, .int .i64 X.x2, .int .i64 X.y2] := by rw [← e4]; exact k3_3.alloc _
    rw [e1, e2, e3, e4]
    exact ⟨_, rfl, s4, b4, k1_4, k2_4, k3_4, k4_4⟩
  have HL : Hid (∀ w', Below w4.heap.size w4 w' → Lk levelL w' w'.heap.size (.slice q n cap) h.levels) := Lib.hid fun w' hb => by
    have h1 := hl.below (show Below w.heap.size w w4 from bw4)
    have h2 := h1.kept (fun k hk => hb.block k (by have := bw4.size; omega))
    exact h2.mono (Nat.le_trans bw4.size hb.size)
  have HB4 := Lib.hid bw4; have HW4 := Lib.hid hw4
  have KS : Hid (∀ w', Below w4.heap.size w4 w' → Blk w' w.heap.size 23 [.int .i64 a.x, .int .i64 a.y] ∧ Blk w' (w.heap.size + 1) 23 [.int .i64 b.x, .int .i64 b.y] ∧ Blk w' (w.heap.size + 1 + 1) 25 [.int .i64 X.x, .int .i64 X.y, .int .i64 X.x2, .int .i64 X.y2] ∧ Blk w' (w.heap.size + 1 + 1 + 1) 28 [.string ⟨h.name.toArray⟩, .int .i64 h.stage.x, .int .i64 h.stage.y, .slice q n cap]) := Lib.hid fun w' hb => ⟨(hb.block _ ka.lt).trans ka, (hb.block _ kb.lt).trans kb, (hb.block _ kx.lt).trans kx, (hb.block _ kh.lt).trans kh⟩
  clear hw4 sw4 bw4 ka kb kx kh hl
  go_enter Try.func3, Try.ntmps3
  go_upto_region 1 with fail
  rw [HW4.out]
  go_wp2_with fail
  refine (head_any _).mono ?_; rintro e w5 ⟨rfl, hb5⟩
  have HB5 := Lib.hid hb5
  clear hb5
  have c0 := (KS.out _ HB5.out).2.2.2.cell (i := 0) rfl
  have c1 := (KS.out _ HB5.out).2.2.2.cell (i := 1) rfl
  have c2 := (KS.out _ HB5.out).2.2.2.cell (i := 2) rfl
  have c3 := (KS.out _ HB5.out).2.2.2.cell (i := 3) rfl
  go_wp2_with fail
  refine (few_any h q n cap w5 (HL.out _ HB5.out)).mono ?_; rintro e w6 ⟨⟨y, rfl, hy⟩, hb6⟩
  have HB6 := Lib.hid (HB5.out.trans (hb6.mono HB5.out.size))
  clear c0 c1 c2 c3 hb6 HB5
  cases y
  · go_wp2
    go_ret
    exact ⟨rfl, HB4.out.trans (HB6.out.mono HB4.out.size)⟩
  · have hs := hy rfl
    have C1 : Hid (∀ d os, Calls Try.prog 11 #[.agg #[.int .i64 a.x, .int .i64 a.y], .agg #[.int .i64 b.x, .int .i64 b.y], .agg #[.int .i64 X.x, .int .i64 X.y, .int .i64 X.x2, .int .i64 X.y2]] (grow (redrawn w6 d) os) fun e w'' => e = .returned (.bool (cross a b X)) ∧ ∃ p : Regrown, w'' = grow (redrawn w6 p.d) p.os) := Lib.hid fun d os => Calls.regrown_of (crosses_any a b X _)
    have C2 : Hid (∀ d os, Calls Try.prog 12 #[.agg #[.int .i64 a.x, .int .i64 a.y], .agg #[.int .i64 b.x, .int .i64 b.y], .agg #[.int .i64 X.x, .int .i64 X.y, .int .i64 X.x2, .int .i64 X.y2]] (grow (redrawn w6 d) os) fun e w'' => e = .returned (.bool (cross a b X)) ∧ ∃ p : Regrown, w'' = grow (redrawn w6 p.d) p.os) := Lib.hid fun d os => Calls.regrown_of (rCrosses_any a b X _)
    have C3 : Hid (∀ d os, Calls Try.prog 13 #[.agg #[.string ⟨h.name.toArray⟩, .int .i64 h.stage.x, .int .i64 h.stage.y, .slice q n cap], .int .i64 k, .agg #[.int .i64 a.x, .int .i64 a.y]] (grow (redrawn w6 d) os) fun e w'' => e = .returned (.int .i64 (view h k a)) ∧ ∃ p : Regrown, w'' = grow (redrawn w6 p.d) p.os) := Lib.hid fun d os => Calls.regrown_of (view_any h q n cap k a _ (HL.out _ (HB6.out.trans ((below_regrown w6 d os).mono HB6.out.size))))
    have C4 : Hid (∀ d os, Calls Try.prog 14 #[.agg #[.string ⟨h.name.toArray⟩, .int .i64 h.stage.x, .int .i64 h.stage.y, .slice q n cap], .int .i64 k, .agg #[.int .i64 a.x, .int .i64 a.y]] (grow (redrawn w6 d) os) fun e w'' => e = .returned (.int .i64 (view h k a)) ∧ ∃ p : Regrown, w'' = grow (redrawn w6 p.d) p.os) := Lib.hid fun d os => Calls.regrown_of (rView_any h hs q n cap k a _ (HL.out _ (HB6.out.trans ((below_regrown w6 d os).mono HB6.out.size))))
    obtain ⟨ka, kb, kx, kh⟩ := KS.out _ HB6.out
    have qa0 := fun d os => cell_regrown (ka.cell (i := 0) rfl) d os
    have qa1 := fun d os => cell_regrown (ka.cell (i := 1) rfl) d os
    have qb0 := fun d os => cell_regrown (kb.cell (i := 0) rfl) d os
    have qb1 := fun d os => cell_regrown (kb.cell (i := 1) rfl) d os
    have qx0 := fun d os => cell_regrown (kx.cell (i := 0) rfl) d os
    have qx1 := fun d os => cell_regrown (kx.cell (i := 1) rfl) d os
    have qx2 := fun d os => cell_regrown (kx.cell (i := 2) rfl) d os
    have qx3 := fun d os => cell_regrown (kx.cell (i := 3) rfl) d os
    have qh0 := fun d os => cell_regrown (kh.cell (i := 0) rfl) d os
    have qh1 := fun d os => cell_regrown (kh.cell (i := 1) rfl) d os
    have qh2 := fun d os => cell_regrown (kh.cell (i := 2) rfl) d os
    have qh3 := fun d os => cell_regrown (kh.cell (i := 3) rfl) d os
    clear ka kb kx kh hs hy KS HL
    generalize cross a b X = cr at *
    generalize view h k a = vv at *
    have r1 : (cr == cr) = true := by cases cr <;> rfl
    have r2 : (vv == vv) = true := by simp
    go_upto_region 4 with fail
    refine wp_region_quiet_below (by kernel_rfl) (by kernel_rfl) ?_
    iterate 24 (go_big_quiet_step (first | with_reducible exact C1.out _ _ | with_reducible exact C2.out _ _ | with_reducible exact C3.out _ _ | with_reducible exact C4.out _ _))
    refine wpQuiet_nil ?_
    intro _ hw'
    obtain ⟨⟨dq, osq⟩, hw''⟩ := hw'
    subst hw''
    go_wp2
    go_ret
    exact ⟨rfl, HB4.out.trans ((HB6.out.trans ((below_regrown w6 dq osq).mono HB6.out.size)).mono HB4.out.size)⟩
end Go.Proofs.Ytdmancneccfgeaa.Sg
