/-
  The document's own Crosses.
-/
import Derived.Test.YtdmancneccfgeaaRef9
namespace Go.Proofs.Ytdmancneccfgeaa.Sg
open Go.RowKit Go.Sort Foyer.Hall Foyer.Sight Go.Proofs.Ytdmancneccfgeaa.Hl

def outB (a b : Pt) (X : Bx) : Bool := decide (a.x < X.x ∧ b.x < X.x) || decide (X.x2 < a.x ∧ X.x2 < b.x) || decide (a.y < X.y ∧ b.y < X.y) || decide (X.y2 < a.y ∧ X.y2 < b.y)
def s1 (a b : Pt) (X : Bx) : Int := sgn (turnAt a b X.x X.y)
def s2 (a b : Pt) (X : Bx) : Int := sgn (turnAt a b X.x2 X.y)
def s3 (a b : Pt) (X : Bx) : Int := sgn (turnAt a b X.x X.y2)
def s4 (a b : Pt) (X : Bx) : Int := sgn (turnAt a b X.x2 X.y2)
theorem cross_ref {a b : Pt} {X : Bx} (h : AllCo a b X) (h1 : X.x ≤ X.x2) (h2 : X.y ≤ X.y2) :
    cross a b X = (!outB a b X && (!(decide (0 < s1 a b X) && decide (0 < s2 a b X) && decide (0 < s3 a b X) && decide (0 < s4 a b X)) && !(decide (s1 a b X < 0) && decide (s2 a b X < 0) && decide (s3 a b X < 0) && decide (s4 a b X < 0)))) := by
  rw [cross_of h]
  unfold outB s1 s2 s3 s4
  simp only [sgn_pos, sgn_neg, ← Bool.decide_and, ← Bool.decide_or, ← decide_not]
  refine decide_eq_decide.2 ⟨fun k => ⟨?_, ?_, ?_⟩, fun ⟨k1, k2, k3⟩ => ⟨h1, h2, by omega, by omega, by omega, by omega, fun e => k2 ⟨⟨⟨e.1, e.2.1⟩, e.2.2.1⟩, e.2.2.2⟩, fun e => k3 ⟨⟨⟨e.1, e.2.1⟩, e.2.2.1⟩, e.2.2.2⟩⟩⟩
  · have e1 := k.left; have e2 := k.right; have e3 := k.low; have e4 := k.top
    omega
  · exact fun e => k.above ⟨e.1.1.1, e.1.1.2, e.1.2, e.2⟩
  · exact fun e => k.below ⟨e.1.1.1, e.1.1.2, e.1.2, e.2⟩
theorem cross_none {a b : Pt} {X : Bx} (h : ¬ AllCo a b X ∨ ¬ X.x ≤ X.x2 ∨ ¬ X.y ≤ X.y2) : cross a b X = false := by
  unfold cross
  rcases h with h | h | h
  · rw [decide_eq_false h, Bool.false_and]
  · rw [decide_eq_false (fun k : Cr a b X => h k.wide), Bool.and_false]
  · rw [decide_eq_false (fun k : Cr a b X => h k.high), Bool.and_false]

set_option linter.unusedSimpArgs false in
set_option maxRecDepth 100000 in
set_option maxHeartbeats 4000000 in
theorem rCrosses_any (a b : Pt) (X : Bx) (w : World) :
    Calls Try.prog 12 #[.agg #[.int .i64 a.x, .int .i64 a.y], .agg #[.int .i64 b.x, .int .i64 b.y], .agg #[.int .i64 X.x, .int .i64 X.y, .int .i64 X.x2, .int .i64 X.y2]] w fun e w' =>
      e = .returned (.bool (cross a b X)) ∧ Below w.heap.size w w' := by
  obtain ⟨w4, hw4, sw4, bw4, ka, kb, kx, kr⟩ : ∃ w4, (((w.alloc (.cells #[.int .i64 a.x, .int .i64 a.y] 23)).alloc (.cells #[.int .i64 b.x, .int .i64 b.y] 23)).alloc (.cells #[.int .i64 X.x, .int .i64 X.y, .int .i64 X.x2, .int .i64 X.y2] 25)).alloc (.cells #[.int .i64 a.x, .int .i64 a.y, .int .i64 b.x, .int .i64 b.y, .int .i64 X.x, .int .i64 X.y, .int .i64 X.x2, .int .i64 X.y2] 3) = w4 ∧ w4.heap.size = w.heap.size + 1 + 1 + 1 + 1 ∧ Since w w4 ∧ Blk w4 (w.heap.size) 23 [.int .i64 a.x, .int .i64 a.y] ∧ Blk w4 (w.heap.size + 1) 23 [.int .i64 b.x, .int .i64 b.y] ∧ Blk w4 (w.heap.size + 1 + 1) 25 [.int .i64 X.x, .int .i64 X.y, .int .i64 X.x2, .int .i64 X.y2] ∧ Blk w4 (w.heap.size + 1 + 1 + 1) 3 [.int .i64 a.x, .int .i64 a.y, .int .i64 b.x, .int .i64 b.y, .int .i64 X.x, .int .i64 X.y, .int .i64 X.x2, .int .i64 X.y2] := by
    obtain ⟨v1, e1⟩ : ∃ wq, w.alloc (.cells #[.int .i64 a.x, .int .i64 a.y] 23) = wq := ⟨_, rfl⟩
    have s1 : v1.heap.size = w.heap.size + 1 := by rw [← e1, World.size_alloc]
    have b1 : Since w v1 := by rw [← e1]; exact (Since.refl w).alloc _
    have k1_1 : Blk v1 (w.heap.size) 23 [.int .i64 a.x, .int .i64 a.y] := by rw [← e1]; exact Blk.new _ _ _
    obtain ⟨v2, e2⟩ : ∃ wq, v1.alloc (.cells #[.int .i64 b.x, .int .i64 b.y] 23) = wq := ⟨_, rfl⟩
    have s2 : v2.heap.size = w.heap.size + 1 + 1 := by rw [← e2, World.size_alloc, s1]
    have b2 : Since w v2 := by rw [← e2]; exact b1.alloc _
    have k2_2 : Blk v2 (w.heap.size + 1) 23 [.int .i64 b.x, .int .i64 b.y] := by rw [← e2, ← s1]; exact Blk.new _ _ _
    have k1_2 : Blk v2 (w.heap.size) 23 [.int .i64 a.x, .int .i64 a.y] := by rw [← e2]; exact k1_1.alloc _
    obtain ⟨v3, e3⟩ : ∃ wq, v2.alloc (.cells #[.int .i64 X.x, .int .i64 X.y, .int .i64 X.x2, .int .i64 X.y2] 25) = wq := ⟨_, rfl⟩
    have s3 : v3.heap.size = w.heap.size + 1 + 1 + 1 := by rw [← e3, World.size_alloc, s2]
    have b3 : Since w v3 := by rw [← e3]; exact b2.alloc _
    have k3_3 : Blk v3 (w.heap.size + 1 + 1) 25 [.int .i64 X.x, .int .i64 X.y, .int .i64 X.x2, .int .i64 X.y2] := by rw [← e3, ← s2]; exact Blk.new _ _ _
    have k1_3 : Blk v3 (w.heap.size) 23 [.int .i64 a.x, .int .i64 a.y] := by rw [← e3]; exact k1_2.alloc _
    have k2_3 : Blk v3 (w.heap.size + 1) 23 [.int .i64 b.x, .int .i64 b.y] := by rw [← e3]; exact k2_2.alloc _
    obtain ⟨v4, e4⟩ : ∃ wq, v3.alloc (.cells #[.int .i64 a.x, .int .i64 a.y, .int .i64 b.x, .int .i64 b.y, .int .i64 X.x, .int .i64 X.y, .int .i64 X.x2, .int .i64 X.y2] 3) = wq := ⟨_, rfl⟩
    have s4 : v4.heap.size = w.heap.size + 1 + 1 + 1 + 1 := by rw [← e4, World.size_alloc, s3]
    have b4 : Since w v4 := by rw [← e4]; exact b3.alloc _
    have k4_4 : Blk v4 (w.heap.size + 1 + 1 + 1) 3 [.int .i64 a.x, .int .i64 a.y, .int .i64 b.x, .int .i64 b.y, .int .i64 X.x, .int .i64 X.y, .int .i64 X.x2, .int .i64 X.y2] := by rw [← e4, ← s3]; exact Blk.new _ _ _
    have k1_4 : Blk v4 (w.heap.size) 23 [.int .i64 a.x, .int .i64 a.y] := by rw [← e4]; exact k1_3.alloc _
    have k2_4 : Blk v4 (w.heap.size + 1) 23 [.int .i64 b.x, .int .i64 b.y] := by rw [← e4]; exact k2_3.alloc _
    have k3_4 : Blk v4 (w.heap.size + 1 + 1) 25 [.int .i64 X.x, .int .i64 X.y, .int .i64 X.x2, .int .i64 X.y2] := by rw [← e4]; exact k3_3.alloc _
    rw [e1, e2, e3, e4]
    exact ⟨_, rfl, s4, b4, k1_4, k2_4, k3_4, k4_4⟩
  have HW := Lib.hid hw4
  have HA := Lib.hid (rOk_any [a.x, a.y, b.x, b.y, X.x, X.y, X.x2, X.y2] (w.heap.size + 1 + 1 + 1) 8 w4 (by simp) (fun j z hz => kr.cell (i := j) (by
    match j, hz with
    | 0, hz => cases hz; rfl
    | 1, hz => cases hz; rfl
    | 2, hz => cases hz; rfl
    | 3, hz => cases hz; rfl
    | 4, hz => cases hz; rfl
    | 5, hz => cases hz; rfl
    | 6, hz => cases hz; rfl
    | 7, hz => cases hz; rfl
    | (n + 8), hz => simp at hz)))
  have HB4 := Lib.hid bw4; have KA := Lib.hid ka; have KB := Lib.hid kb; have KX := Lib.hid kx
  clear hw4 bw4 sw4 kr ka kb kx
  have qa0 := KA.out.cell (i := 0) rfl
  have qa1 := KA.out.cell (i := 1) rfl
  have qb0 := KB.out.cell (i := 0) rfl
  have qb1 := KB.out.cell (i := 1) rfl
  have qx0 := KX.out.cell (i := 0) rfl
  have qx1 := KX.out.cell (i := 1) rfl
  have qx2 := KX.out.cell (i := 2) rfl
  have qx3 := KX.out.cell (i := 3) rfl
  have hcase : AllCo a b X ∨ ¬ AllCo a b X := Decidable.em _
  rcases hcase.symm with hco | hco
  · have HPC : Hid (decide (AllC [a.x, a.y, b.x, b.y, X.x, X.y, X.x2, X.y2]) = false) := Lib.hid (decide_eq_false hco)
    have HR := Lib.hid (cross_none (Or.inl hco))
    clear hco
    go_enter Try.func12, Try.ntmps12
    go_wp2_with fail
    rw [HW.out]
    refine HA.out.mono ?_; rintro e w' ⟨rfl, rfl⟩
    rw [HPC.out]
    go_wp2
    go_ret
    exact ⟨by rw [HR.out]; rfl, HB4.out⟩
  · have HPC : Hid (decide (AllC [a.x, a.y, b.x, b.y, X.x, X.y, X.x2, X.y2]) = true) := Lib.hid (decide_eq_true hco)
    by_cases h1 : X.x ≤ X.x2
    · have e1 : decide (X.x2 < X.x) = false := decide_eq_false (by omega)
      by_cases h2 : X.y ≤ X.y2
      · have e2 : decide (X.y2 < X.y) = false := decide_eq_false (by omega)
        have HC := Lib.hid (cross_ref hco h1 h2)
        have g : ∀ n, n ∈ [a.x, a.y, b.x, b.y, X.x, X.y, X.x2, X.y2] → coord n := hco
        have T1 := Lib.hid (rTurn_any a.x a.y b.x b.y X.x X.y (g _ (by simp)) (g _ (by simp)) (g _ (by simp)) (g _ (by simp)) (g _ (by simp)) (g _ (by simp)))
        have S1 : Hid (sgn (turnAt ⟨a.x, a.y⟩ ⟨b.x, b.y⟩ X.x X.y) = s1 a b X) := Lib.hid rfl
        have T2 := Lib.hid (rTurn_any a.x a.y b.x b.y X.x2 X.y (g _ (by simp)) (g _ (by simp)) (g _ (by simp)) (g _ (by simp)) (g _ (by simp)) (g _ (by simp)))
        have S2 : Hid (sgn (turnAt ⟨a.x, a.y⟩ ⟨b.x, b.y⟩ X.x2 X.y) = s2 a b X) := Lib.hid rfl
        have T3 := Lib.hid (rTurn_any a.x a.y b.x b.y X.x X.y2 (g _ (by simp)) (g _ (by simp)) (g _ (by simp)) (g _ (by simp)) (g _ (by simp)) (g _ (by simp)))
        have S3 : Hid (sgn (turnAt ⟨a.x, a.y⟩ ⟨b.x, b.y⟩ X.x X.y2) = s3 a b X) := Lib.hid rfl
        have T4 := Lib.hid (rTurn_any a.x a.y b.x b.y X.x2 X.y2 (g _ (by simp)) (g _ (by simp)) (g _ (by simp)) (g _ (by simp)) (g _ (by simp)) (g _ (by simp)))
        have S4 : Hid (sgn (turnAt ⟨a.x, a.y⟩ ⟨b.x, b.y⟩ X.x2 X.y2) = s4 a b X) := Lib.hid rfl
        clear hco h1 h2 g
        go_enter Try.func12, Try.ntmps12
        go_wp2_with fail
        rw [HW.out]
        refine HA.out.mono ?_; rintro e w' ⟨rfl, rfl⟩
        rw [HPC.out]
        obtain ⟨M1, hM1⟩ : ∃ z, (if a.x < b.x then b.x else a.x) = z := ⟨_, rfl⟩
        obtain ⟨M2, hM2⟩ : ∃ z, (if b.x < a.x then b.x else a.x) = z := ⟨_, rfl⟩
        obtain ⟨M3, hM3⟩ : ∃ z, (if a.y < b.y then b.y else a.y) = z := ⟨_, rfl⟩
        obtain ⟨M4, hM4⟩ : ∃ z, (if b.y < a.y then b.y else a.y) = z := ⟨_, rfl⟩
        have k1 : decide (a.x < X.x ∧ b.x < X.x) = decide (M1 < X.x) := decide_eq_decide.2 (by rw [← hM1]; split <;> omega)
        have k2 : decide (X.x2 < a.x ∧ X.x2 < b.x) = decide (X.x2 < M2) := decide_eq_decide.2 (by rw [← hM2]; split <;> omega)
        have k3 : decide (a.y < X.y ∧ b.y < X.y) = decide (M3 < X.y) := decide_eq_decide.2 (by rw [← hM3]; split <;> omega)
        have k4 : decide (X.y2 < a.y ∧ X.y2 < b.y) = decide (X.y2 < M4) := decide_eq_decide.2 (by rw [← hM4]; split <;> omega)
        have HOU : Hid (outB a b X = (decide (M1 < X.x) || decide (X.x2 < M2) || decide (M3 < X.y) || decide (X.y2 < M4))) := Lib.hid (by unfold outB; rw [k1, k2, k3, k4])
        clear k1 k2 k3 k4
        cases o1 : decide (M1 < X.x)
        case true =>
          have HR : Hid (cross a b X = false) := Lib.hid (by rw [HC.out, HOU.out, o1]; simp only [Bool.or_true, Bool.true_or, Bool.not_true, Bool.false_and])
          go_wp2
          go_ret
          exact ⟨by rw [HR.out]; rfl, HB4.out⟩
        case false =>
          cases o2 : decide (X.x2 < M2)
          case true =>
            have HR : Hid (cross a b X = false) := Lib.hid (by rw [HC.out, HOU.out, o1, o2]; simp only [Bool.or_true, Bool.true_or, Bool.not_true, Bool.false_and])
            go_wp2
            go_ret
            exact ⟨by rw [HR.out]; rfl, HB4.out⟩
          case false =>
            cases o3 : decide (M3 < X.y)
            case true =>
              have HR : Hid (cross a b X = false) := Lib.hid (by rw [HC.out, HOU.out, o1, o2, o3]; simp only [Bool.or_true, Bool.true_or, Bool.not_true, Bool.false_and])
              go_wp2
              go_ret
              exact ⟨by rw [HR.out]; rfl, HB4.out⟩
            case false =>
              cases o4 : decide (X.y2 < M4)
              case true =>
                have HR : Hid (cross a b X = false) := Lib.hid (by rw [HC.out, HOU.out, o1, o2, o3, o4]; simp only [Bool.or_true, Bool.true_or, Bool.not_true, Bool.false_and])
                go_wp2
                go_ret
                exact ⟨by rw [HR.out]; rfl, HB4.out⟩
              case false =>
                have HO : Hid (outB a b X = false) := Lib.hid (by rw [HOU.out, o1, o2, o3, o4]; rfl)
                rw [HO.out] at HC
                clear HOU
                go_upto_region 5 with fail
                clear hM1 hM2 hM3 hM4 o1 o2 o3 o4 HO
                clear qa0 qa1 qb0 qb1 qx0 qx1 qx2 qx3
                have qa0 := KA.out.cell (i := 0) rfl
                have qa1 := KA.out.cell (i := 1) rfl
                have qb0 := KB.out.cell (i := 0) rfl
                have qb1 := KB.out.cell (i := 1) rfl
                have qx0 := KX.out.cell (i := 0) rfl
                have qx1 := KX.out.cell (i := 1) rfl
                have qx2 := KX.out.cell (i := 2) rfl
                have qx3 := KX.out.cell (i := 3) rfl
                go_wp2_with fail
                refine (T1.out _).mono ?_; rintro e u1 ⟨rfl, hb⟩
                rw [S1.out]
                replace KA : Hid (Blk u1 _ _ _) := Lib.hid ((hb.block _ KA.out.lt).trans KA.out)
                replace KB : Hid (Blk u1 _ _ _) := Lib.hid ((hb.block _ KB.out.lt).trans KB.out)
                replace KX : Hid (Blk u1 _ _ _) := Lib.hid ((hb.block _ KX.out.lt).trans KX.out)
                replace HB4 := Lib.hid (HB4.out.call hb)
                clear hb T1 S1 qa0 qa1 qb0 qb1 qx0 qx1 qx2 qx3
                have qa0 := KA.out.cell (i := 0) rfl
                have qa1 := KA.out.cell (i := 1) rfl
                have qb0 := KB.out.cell (i := 0) rfl
                have qb1 := KB.out.cell (i := 1) rfl
                have qx0 := KX.out.cell (i := 0) rfl
                have qx1 := KX.out.cell (i := 1) rfl
                have qx2 := KX.out.cell (i := 2) rfl
                have qx3 := KX.out.cell (i := 3) rfl
                go_wp2_with fail
                refine (T2.out _).mono ?_; rintro e u2 ⟨rfl, hb⟩
                rw [S2.out]
                replace KA : Hid (Blk u2 _ _ _) := Lib.hid ((hb.block _ KA.out.lt).trans KA.out)
                replace KB : Hid (Blk u2 _ _ _) := Lib.hid ((hb.block _ KB.out.lt).trans KB.out)
                replace KX : Hid (Blk u2 _ _ _) := Lib.hid ((hb.block _ KX.out.lt).trans KX.out)
                replace HB4 := Lib.hid (HB4.out.call hb)
                clear hb T2 S2 qa0 qa1 qb0 qb1 qx0 qx1 qx2 qx3
                have qa0 := KA.out.cell (i := 0) rfl
                have qa1 := KA.out.cell (i := 1) rfl
                have qb0 := KB.out.cell (i := 0) rfl
                have qb1 := KB.out.cell (i := 1) rfl
                have qx0 := KX.out.cell (i := 0) rfl
                have qx1 := KX.out.cell (i := 1) rfl
                have qx2 := KX.out.cell (i := 2) rfl
                have qx3 := KX.out.cell (i := 3) rfl
                go_wp2_with fail
                refine (T3.out _).mono ?_; rintro e u3 ⟨rfl, hb⟩
                rw [S3.out]
                replace KA : Hid (Blk u3 _ _ _) := Lib.hid ((hb.block _ KA.out.lt).trans KA.out)
                replace KB : Hid (Blk u3 _ _ _) := Lib.hid ((hb.block _ KB.out.lt).trans KB.out)
                replace KX : Hid (Blk u3 _ _ _) := Lib.hid ((hb.block _ KX.out.lt).trans KX.out)
                replace HB4 := Lib.hid (HB4.out.call hb)
                clear hb T3 S3 qa0 qa1 qb0 qb1 qx0 qx1 qx2 qx3
                have qa0 := KA.out.cell (i := 0) rfl
                have qa1 := KA.out.cell (i := 1) rfl
                have qb0 := KB.out.cell (i := 0) rfl
                have qb1 := KB.out.cell (i := 1) rfl
                have qx0 := KX.out.cell (i := 0) rfl
                have qx1 := KX.out.cell (i := 1) rfl
                have qx2 := KX.out.cell (i := 2) rfl
                have qx3 := KX.out.cell (i := 3) rfl
                go_wp2_with fail
                refine (T4.out _).mono ?_; rintro e u4 ⟨rfl, hb⟩
                rw [S4.out]
                replace KA : Hid (Blk u4 _ _ _) := Lib.hid ((hb.block _ KA.out.lt).trans KA.out)
                replace KB : Hid (Blk u4 _ _ _) := Lib.hid ((hb.block _ KB.out.lt).trans KB.out)
                replace KX : Hid (Blk u4 _ _ _) := Lib.hid ((hb.block _ KX.out.lt).trans KX.out)
                replace HB4 := Lib.hid (HB4.out.call hb)
                clear hb T4 S4 qa0 qa1 qb0 qb1 qx0 qx1 qx2 qx3
                generalize s1 a b X = t1 at *
                generalize s2 a b X = t2 at *
                generalize s3 a b X = t3 at *
                generalize s4 a b X = t4 at *
                obtain ⟨ab, hab⟩ : ∃ z, (decide (0 < t1) && decide (0 < t2) && decide (0 < t3) && decide (0 < t4)) = z := ⟨_, rfl⟩
                obtain ⟨be, hbe⟩ : ∃ z, (decide (t1 < 0) && decide (t2 < 0) && decide (t3 < 0) && decide (t4 < 0)) = z := ⟨_, rfl⟩
                rw [hab, hbe] at HC
                have HAB := Lib.hid hab; have HBE := Lib.hid hbe
                clear hab hbe KA KB KX
                go_upto_region 9 with fail
                go_cut [11] from 116 (fun v wx => v = .bool ab ∧ wx = u4)
                case first =>
                  cases o1 : decide (0 < t1)
                  case false =>
                    go_wp2
                    go_meet
                    exact ⟨congrArg Value.bool (by rw [← HAB.out, o1]; rfl), rfl⟩
                  case true =>
                    cases o2 : decide (0 < t2)
                    case false =>
                      go_wp2
                      go_meet
                      exact ⟨congrArg Value.bool (by rw [← HAB.out, o1, o2]; rfl), rfl⟩
                    case true =>
                      cases o3 : decide (0 < t3)
                      case false =>
                        go_wp2
                        go_meet
                        exact ⟨congrArg Value.bool (by rw [← HAB.out, o1, o2, o3]; rfl), rfl⟩
                      case true =>
                        cases o4 : decide (0 < t4)
                        case false =>
                          go_wp2
                          go_meet
                          exact ⟨congrArg Value.bool (by rw [← HAB.out, o1, o2, o3, o4]; rfl), rfl⟩
                        case true =>
                          go_wp2
                          go_meet
                          exact ⟨congrArg Value.bool (by rw [← HAB.out, o1, o2, o3, o4]; rfl), rfl⟩
                case rest =>
                  obtain ⟨rfl, rfl⟩ := hcut
                  go_upto_region 10 with fail
                  go_cut [12] from 130 (fun v wx => v = .bool be ∧ wx = wc)
                  case first =>
                    cases p1 : decide (t1 < 0)
                    case false =>
                      go_wp2
                      go_meet
                      exact ⟨congrArg Value.bool (by rw [← HBE.out, p1]; rfl), rfl⟩
                    case true =>
                      cases p2 : decide (t2 < 0)
                      case false =>
                        go_wp2
                        go_meet
                        exact ⟨congrArg Value.bool (by rw [← HBE.out, p1, p2]; rfl), rfl⟩
                      case true =>
                        cases p3 : decide (t3 < 0)
                        case false =>
                          go_wp2
                          go_meet
                          exact ⟨congrArg Value.bool (by rw [← HBE.out, p1, p2, p3]; rfl), rfl⟩
                        case true =>
                          cases p4 : decide (t4 < 0)
                          case false =>
                            go_wp2
                            go_meet
                            exact ⟨congrArg Value.bool (by rw [← HBE.out, p1, p2, p3, p4]; rfl), rfl⟩
                          case true =>
                            go_wp2
                            go_meet
                            exact ⟨congrArg Value.bool (by rw [← HBE.out, p1, p2, p3, p4]; rfl), rfl⟩
                  case rest =>
                    obtain ⟨rfl, rfl⟩ := hcut
                    clear HAB HBE
                    cases ab
                    · cases be
                      · go_wp2
                        go_ret
                        exact ⟨by rw [HC.out]; rfl, HB4.out⟩
                      · go_wp2
                        go_ret
                        exact ⟨by rw [HC.out]; rfl, HB4.out⟩
                    · go_wp2
                      go_ret
                      exact ⟨by rw [HC.out]; rfl, HB4.out⟩
      · have e2 : decide (X.y2 < X.y) = true := decide_eq_true (by omega)
        have HR := Lib.hid (cross_none (a := a) (b := b) (X := X) (Or.inr (Or.inr h2)))
        clear h1 h2 hco
        go_enter Try.func12, Try.ntmps12
        go_wp2_with fail
        rw [HW.out]
        refine HA.out.mono ?_; rintro e w' ⟨rfl, rfl⟩
        rw [HPC.out]
        go_wp2
        go_ret
        exact ⟨by rw [HR.out]; rfl, HB4.out⟩
    · have e1 : decide (X.x2 < X.x) = true := decide_eq_true (by omega)
      have HR := Lib.hid (cross_none (a := a) (b := b) (X := X) (Or.inr (Or.inl h1)))
      clear h1 hco
      go_enter Try.func12, Try.ntmps12
      go_wp2_with fail
      rw [HW.out]
      refine HA.out.mono ?_; rintro e w' ⟨rfl, rfl⟩
      rw [HPC.out]
      go_wp2
      go_ret
      exact ⟨by rw [HR.out]; rfl, HB4.out⟩
end Go.Proofs.Ytdmancneccfgeaa.Sg
