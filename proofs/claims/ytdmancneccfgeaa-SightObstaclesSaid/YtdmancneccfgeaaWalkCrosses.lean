/-
  The walk of Crosses.
-/
import Derived.Test.YtdmancneccfgeaaWalkCross
namespace Go.Proofs.Ytdmancneccfgeaa.Sg
open Go.RowKit Go.Sort Foyer.Hall Foyer.Sight Go.Proofs.Ytdmancneccfgeaa.Hl

theorem beside_iff (a b : Pt) (X : Bx) : beside a b X = false ↔
    ¬ (0 < turnAt a b X.x X.y ∧ 0 < turnAt a b X.x2 X.y ∧ 0 < turnAt a b X.x X.y2 ∧ 0 < turnAt a b X.x2 X.y2) ∧
    ¬ (turnAt a b X.x X.y < 0 ∧ turnAt a b X.x2 X.y < 0 ∧ turnAt a b X.x X.y2 < 0 ∧ turnAt a b X.x2 X.y2 < 0) := by
  have e0 : trn a b (cx X 0) (cy X 0) = turnAt a b X.x X.y := rfl
  have e1 : trn a b (cx X 1) (cy X 1) = turnAt a b X.x2 X.y := rfl
  have e2 : trn a b (cx X 2) (cy X 2) = turnAt a b X.x X.y2 := rfl
  have e3 : trn a b (cx X 3) (cy X 3) = turnAt a b X.x2 X.y2 := rfl
  unfold beside
  simp only [lefts, rights, e0, e1, e2, e3, Bool.or_eq_false_iff, decide_eq_false_iff_not]
  refine and_congr (not_congr ?_) (not_congr ?_)
  · constructor
    · intro h
      split at h <;> split at h <;> split at h <;> split at h <;> first | omega | (refine ⟨?_, ?_, ?_, ?_⟩ <;> assumption)
    · intro ⟨h1, h2, h3, h4⟩
      rw [if_pos h1, if_pos h2, if_pos h3, if_pos h4]
  · constructor
    · intro h
      split at h <;> split at h <;> split at h <;> split at h <;> first | omega | (refine ⟨?_, ?_, ?_, ?_⟩ <;> assumption)
    · intro ⟨h1, h2, h3, h4⟩
      rw [if_pos h1, if_pos h2, if_pos h3, if_pos h4]
theorem cross_eq (a b : Pt) (X : Bx) : cross a b X = (decide (AllCo a b X) && (ovl a.x b.x X.x X.x2 && ovl a.y b.y X.y X.y2 && !beside a b X)) := by
  unfold cross
  congr 1
  have hb := beside_iff a b X
  unfold ovl
  cases h : beside a b X
  · rw [Bool.not_false, Bool.and_true, ← Bool.decide_and]
    have := hb.1 h
    refine decide_eq_decide.2 ⟨fun k => ⟨⟨k.wide, k.left, k.right⟩, k.high, k.low, k.top⟩, fun ⟨⟨h1, h2, h3⟩, h4, h5, h6⟩ => ⟨h1, h4, h2, h3, h5, h6, this.1, this.2⟩⟩
  · rw [Bool.not_true, Bool.and_false]
    refine decide_eq_false fun k => ?_
    rw [hb.2 ⟨k.above, k.below⟩] at h
    cases h

set_option maxRecDepth 100000 in
theorem crosses_any (a b : Pt) (X : Bx) (w : World) :
    Calls Try.prog 11 #[.agg #[.int .i64 a.x, .int .i64 a.y], .agg #[.int .i64 b.x, .int .i64 b.y], .agg #[.int .i64 X.x, .int .i64 X.y, .int .i64 X.x2, .int .i64 X.y2]] w fun e w' =>
      e = .returned (.bool (cross a b X)) ∧ Below w.heap.size w w' := by
  obtain ⟨w4, hw4, sw4, bw4, ka, kb, kx, kr⟩ : ∃ w4, (((w.alloc (.cells #[.int .i64 a.x, .int .i64 a.y] 23)).alloc (.cells #[.int .i64 b.x, .int .i64 b.y] 23)).alloc (.cells #[.int .i64 X.x, .int .i64 X.y, .int .i64 X.x2, .int .i64 X.y2] 25)).alloc (.cells #[.int .i64 a.x, .int .i64 a.y, .int .i64 b.x, .int .i64 b.y, .int .i64 X.x, .int .i64 X.y, .int .i64 X.x2, .int .i64 X.y2] 3) = w4 ∧ w4.heap.size = w.heap.size + 1 + 1 + 1 + 1 ∧ Since w w4 ∧ Blk w4 (w.heap.size) 23 [.int .i64 a.x, .int .i64 a.y] ∧ Blk w4 (w.heap.size + 1) 23 [.int .i64 b.x, .int .i64 b.y] ∧ Blk w4 (w.heap.size + 1 + 1) 25 [.int .i64 X.x, .int .i64 X.y, .int .i64 X.x2, .int .i64 X.y2] ∧ Blk w4 (w.heap.size + 1 + 1 + 1) 3 [.int .i64 a.x, .int .i64 a.y, .int .i64 b.x, .int .i64 b.y, .int .i64 X.x, .int .i64 X.y, .int .i64 X.x2, .int .i64 X.y2] := by
    obtain ⟨v1, e1⟩ : ∃ x, w.alloc (.cells #[.int .i64 a.x, .int .i64 a.y] 23) = x := ⟨_, rfl⟩
    have s1 : v1.heap.size = w.heap.size + 1 := by rw [← e1, World.size_alloc]
    have b1 : Since w v1 := by rw [← e1]; exact (Since.refl w).alloc _
    have k1_1 : Blk v1 (w.heap.size) 23 [.int .i64 a.x, .int .i64 a.y] := by rw [← e1]; exact Blk.new _ _ _
    obtain ⟨v2, e2⟩ : ∃ x, v1.alloc (.cells #[.int .i64 b.x, .int .i64 b.y] 23) = x := ⟨_, rfl⟩
    have s2 : v2.heap.size = w.heap.size + 1 + 1 := by rw [← e2, World.size_alloc, s1]
    have b2 : Since w v2 := by rw [← e2]; exact b1.alloc _
    have k2_2 : Blk v2 (w.heap.size + 1) 23 [.int .i64 b.x, .int .i64 b.y] := by rw [← e2, ← s1]; exact Blk.new _ _ _
    have k1_2 : Blk v2 (w.heap.size) 23 [.int .i64 a.x, .int .i64 a.y] := by rw [← e2]; exact k1_1.alloc _
    obtain ⟨v3, e3⟩ : ∃ x, v2.alloc (.cells #[.int .i64 X.x, .int .i64 X.y, .int .i64 X.x2, .int .i64 X.y2] 25) = x := ⟨_, rfl⟩
    have s3 : v3.heap.size = w.heap.size + 1 + 1 + 1 := by rw [← e3, World.size_alloc, s2]
    have b3 : Since w v3 := by rw [← e3]; exact b2.alloc _
    have k3_3 : Blk v3 (w.heap.size + 1 + 1) 25 [.int .i64 X.x, .int .i64 X.y, .int .i64 X.x2, .int .i64 X.y2] := by rw [← e3, ← s2]; exact Blk.new _ _ _
    have k1_3 : Blk v3 (w.heap.size) 23 [.int .i64 a.x, .int .i64 a.y] := by rw [← e3]; exact k1_2.alloc _
    have k2_3 : Blk v3 (w.heap.size + 1) 23 [.int .i64 b.x, .int .i64 b.y] := by rw [← e3]; exact k2_2.alloc _
    obtain ⟨v4, e4⟩ : ∃ x, v3.alloc (.cells #[.int .i64 a.x, .int .i64 a.y, .int .i64 b.x, .int .i64 b.y, .int .i64 X.x, .int .i64 X.y, .int .i64 X.x2, .int .i64 X.y2] 3) = x := ⟨_, rfl⟩
    have s4 : v4.heap.size = w.heap.size + 1 + 1 + 1 + 1 := by rw [← e4, World.size_alloc, s3]
    have b4 : Since w v4 := by rw [← e4]; exact b3.alloc _
    have k4_4 : Blk v4 (w.heap.size + 1 + 1 + 1) 3 [.int .i64 a.x, .int .i64 a.y, .int .i64 b.x, .int .i64 b.y, .int .i64 X.x, .int .i64 X.y, .int .i64 X.x2, .int .i64 X.y2] := by rw [← e4, ← s3]; exact Blk.new _ _ _
    have k1_4 : Blk v4 (w.heap.size) 23 [.int .i64 a.x, .int .i64 a.y] := by rw [← e4]; exact k1_3.alloc _
    have k2_4 : Blk v4 (w.heap.size + 1) 23 [.int .i64 b.x, .int .i64 b.y] := by rw [← e4]; exact k2_3.alloc _
    have k3_4 : Blk v4 (w.heap.size + 1 + 1) 25 [.int .i64 X.x, .int .i64 X.y, .int .i64 X.x2, .int .i64 X.y2] := by rw [← e4]; exact k3_3.alloc _
    rw [e1, e2, e3, e4]
    exact ⟨_, rfl, s4, b4, k1_4, k2_4, k3_4, k4_4⟩
  have HE := Lib.hid (cross_eq a b X)
  have HW := Lib.hid hw4
  have HA := Lib.hid (areCo_any [a.x, a.y, b.x, b.y, X.x, X.y, X.x2, X.y2] (w.heap.size + 1 + 1 + 1) 8 w4 (by simp) (fun j z hz => kr.cell (i := j) (by
    match j, hz with
    | 0, hz => cases hz; rfl
    | 1, hz => cases hz; rfl
    | 2, hz => cases hz; rfl
    | 3, hz => cases hz; rfl
    | 4, hz => cases hz; rfl
    | 5, hz => cases hz; rfl
    | 6, hz => cases hz; rfl
    | 7, hz => cases hz; rfl
    | (n + 8), hz => simp at hz)))
  have HB4 := Lib.hid bw4
  have HO1 := Lib.hid (overlap_any a.x b.x X.x X.x2)
  have HO2 := Lib.hid (overlap_any a.y b.y X.y X.y2)
  have a0 := ka.cell (i := 0) rfl
  have a1 := ka.cell (i := 1) rfl
  have b0 := kb.cell (i := 0) rfl
  have b1 := kb.cell (i := 1) rfl
  have x0 := kx.cell (i := 0) rfl
  have x1 := kx.cell (i := 1) rfl
  have x2 := kx.cell (i := 2) rfl
  have x3 := kx.cell (i := 3) rfl
  clear hw4 bw4 sw4 kr ka kb kx
  have hcase : AllCo a b X ∨ ¬ AllCo a b X := Decidable.em _
  rcases hcase with hco | hco
  · have HP := Lib.hid (decide_eq_true hco)
    have HPC : Hid (decide (AllC [a.x, a.y, b.x, b.y, X.x, X.y, X.x2, X.y2]) = true) := Lib.hid (decide_eq_true hco)
    have HBS := Lib.hid (isBeside_any a b X hco)
    clear hco
    cases h1 : ovl a.x b.x X.x X.x2
    · rw [h1] at HE HO1
      clear h1
      go_enter Try.func11, Try.ntmps11
      go_wp2_with fail
      rw [HW.out]
      refine HA.out.mono ?_; rintro e w' ⟨rfl, rfl⟩
      rw [HPC.out]
      go_wp2_with fail
      refine (HO1.out _).mono ?_; rintro e w' ⟨rfl, rfl⟩
      go_wp2
      go_ret
      exact ⟨by rw [HE.out, HP.out]; rfl, HB4.out⟩
    · rw [h1] at HE HO1
      clear h1
      cases h2 : ovl a.y b.y X.y X.y2
      · rw [h2] at HE HO2
        clear h2
        go_enter Try.func11, Try.ntmps11
        go_wp2_with fail
        rw [HW.out]
        refine HA.out.mono ?_; rintro e w' ⟨rfl, rfl⟩
        rw [HPC.out]
        go_wp2_with fail
        refine (HO1.out _).mono ?_; rintro e w' ⟨rfl, rfl⟩
        go_wp2_with fail
        refine (HO2.out _).mono ?_; rintro e w' ⟨rfl, rfl⟩
        go_wp2
        go_ret
        exact ⟨by rw [HE.out, HP.out]; rfl, HB4.out⟩
      · rw [h2] at HE HO2
        clear h2
        go_enter Try.func11, Try.ntmps11
        go_wp2_with fail
        rw [HW.out]
        refine HA.out.mono ?_; rintro e w' ⟨rfl, rfl⟩
        rw [HPC.out]
        go_wp2_with fail
        refine (HO1.out _).mono ?_; rintro e w' ⟨rfl, rfl⟩
        go_wp2_with fail
        refine (HO2.out _).mono ?_; rintro e w' ⟨rfl, rfl⟩
        go_wp2_with fail
        refine (HBS.out _).mono ?_; rintro e w' ⟨rfl, hb⟩
        have HBE := Lib.hid (HB4.out.call hb)
        clear hb a0 a1 b0 b1 x0 x1 x2 x3
        generalize beside a b X = bs at *
        go_wp2
        go_ret
        exact ⟨by rw [HE.out, HP.out]; cases bs <;> rfl, HBE.out⟩
  · have HP := Lib.hid (decide_eq_false hco)
    have HPC : Hid (decide (AllC [a.x, a.y, b.x, b.y, X.x, X.y, X.x2, X.y2]) = false) := Lib.hid (decide_eq_false hco)
    clear hco
    go_enter Try.func11, Try.ntmps11
    go_wp2_with fail
    rw [HW.out]
    refine HA.out.mono ?_; rintro e w' ⟨rfl, rfl⟩
    rw [HPC.out]
    go_wp2
    go_ret
    exact ⟨by rw [HE.out, HP.out]; rfl, HB4.out⟩
end Go.Proofs.Ytdmancneccfgeaa.Sg
