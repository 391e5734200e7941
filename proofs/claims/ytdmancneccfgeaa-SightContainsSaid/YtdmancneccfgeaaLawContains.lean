/-
  Inclusion.
-/
import Derived.Test.YtdmancneccfgeaaBegin9
namespace Go.Proofs.Ytdmancneccfgeaa.Sg
open Go.RowKit Go.Sort Foyer.Hall Foyer.Sight Go.Proofs.Ytdmancneccfgeaa.Hl Foyer.Loose

/-- Whether a rectangle contains a point. -/
def holdsB (x y x2 y2 px py : Int) : Bool := decide (x ≤ px ∧ px ≤ x2 ∧ y ≤ py ∧ py ≤ y2)
set_option maxRecDepth 100000 in
theorem holds_any (x y x2 y2 px py : Int) (w : World) :
    Calls Try.prog 18 #[.agg #[.int .i64 x, .int .i64 y, .int .i64 x2, .int .i64 y2], .agg #[.int .i64 px, .int .i64 py]] w fun e w' => e = .returned (.bool (holdsB x y x2 y2 px py)) ∧ Below w.heap.size w w' := by
  have hbw : Since w ((w.alloc (.cells #[.int .i64 x, .int .i64 y, .int .i64 x2, .int .i64 y2] 25)).alloc (.cells #[.int .i64 px, .int .i64 py] 23)) := ((Since.refl w).alloc _).alloc _
  have HBW := Lib.hid hbw
  clear hbw
  go_enter Try.func18, Try.ntmps18
  go_wp2
  all_goals go_ret
  all_goals
    refine ⟨congrArg (fun b => Ending.returned (Value.bool b)) ?_, HBW.out⟩
    unfold holdsB
    first
      | exact decide_eq_decide.2 (by omega)
      | exact (decide_eq_false (by omega)).symm
theorem out_eq {x0 x1 x2 x3 x4 x5 x6 x7 M1 M2 M3 M4 : Int} (h1 : (if x0 < x2 then x2 else x0) = M1) (h2 : (if x2 < x0 then x2 else x0) = M2) (h3 : (if x1 < x3 then x3 else x1) = M3) (h4 : (if x3 < x1 then x3 else x1) = M4) :
    decide ((x0 < x4 ∧ x2 < x4) ∨ (x6 < x0 ∧ x6 < x2) ∨ (x1 < x5 ∧ x3 < x5) ∨ (x7 < x1 ∧ x7 < x3)) = (decide (M1 < x4) || decide (x6 < M2) || decide (M3 < x5) || decide (x7 < M4)) := by
  have k1 : (x0 < x4 ∧ x2 < x4) ↔ M1 < x4 := by rw [← h1]; split <;> omega
  have k2 : (x6 < x0 ∧ x6 < x2) ↔ x6 < M2 := by rw [← h2]; split <;> omega
  have k3 : (x1 < x5 ∧ x3 < x5) ↔ M3 < x5 := by rw [← h3]; split <;> omega
  have k4 : (x7 < x1 ∧ x7 < x3) ↔ x7 < M4 := by rw [← h4]; split <;> omega
  rw [← Bool.decide_or, ← Bool.decide_or, ← Bool.decide_or]
  exact decide_eq_decide.2 (by rw [or_assoc, or_assoc]; exact or_congr k1 (or_congr k2 (or_congr k3 k4)))
set_option linter.unusedSimpArgs false in
set_option maxRecDepth 100000 in
set_option maxHeartbeats 8000000 in
theorem contains_walk (l m : List Int) (w : World) (hl : l.length = 8) (hb : ∀ x ∈ l, 0 ≤ x ∧ x < 65536) (hm : m.length = 4) (hbm : ∀ x ∈ m, 0 ≤ x ∧ x < 65536) :
    Calls Try.prog 6 #[.agg (l.map (Value.int .u16)).toArray, .agg (m.map (Value.int .u16)).toArray] w fun e w' => e = .returned (.bool true) ∧ Below w.heap.size w w' := by
  obtain ⟨n0, n1, n2, n3, n4, n5, n6, n7, rfl⟩ := eight hl
  obtain ⟨n8, n9, n10, n11, rfl⟩ := four hm
  clear hl hm
  obtain ⟨x0, hx0⟩ : ∃ x, n0 % 10001 = x := ⟨_, rfl⟩
  have hn0 := hb n0 (by simp)
  have HC0 := Lib.hid (coordinate_any n0 x0 hn0.1 hn0.2 hx0)
  have hc0 : coord x0 := by unfold coord; omega
  obtain ⟨x1, hx1⟩ : ∃ x, n1 % 10001 = x := ⟨_, rfl⟩
  have hn1 := hb n1 (by simp)
  have HC1 := Lib.hid (coordinate_any n1 x1 hn1.1 hn1.2 hx1)
  have hc1 : coord x1 := by unfold coord; omega
  obtain ⟨x2, hx2⟩ : ∃ x, n2 % 10001 = x := ⟨_, rfl⟩
  have hn2 := hb n2 (by simp)
  have HC2 := Lib.hid (coordinate_any n2 x2 hn2.1 hn2.2 hx2)
  have hc2 : coord x2 := by unfold coord; omega
  obtain ⟨x3, hx3⟩ : ∃ x, n3 % 10001 = x := ⟨_, rfl⟩
  have hn3 := hb n3 (by simp)
  have HC3 := Lib.hid (coordinate_any n3 x3 hn3.1 hn3.2 hx3)
  have hc3 : coord x3 := by unfold coord; omega
  obtain ⟨x4, hx4⟩ : ∃ x, n4 % 10001 = x := ⟨_, rfl⟩
  have hn4 := hb n4 (by simp)
  have HC4 := Lib.hid (coordinate_any n4 x4 hn4.1 hn4.2 hx4)
  have hc4 : coord x4 := by unfold coord; omega
  obtain ⟨x5, hx5⟩ : ∃ x, n5 % 10001 = x := ⟨_, rfl⟩
  have hn5 := hb n5 (by simp)
  have HC5 := Lib.hid (coordinate_any n5 x5 hn5.1 hn5.2 hx5)
  have hc5 : coord x5 := by unfold coord; omega
  obtain ⟨x6, hx6⟩ : ∃ x, n6 % 10001 = x := ⟨_, rfl⟩
  have hn6 := hb n6 (by simp)
  have HC6 := Lib.hid (coordinate_any n6 x6 hn6.1 hn6.2 hx6)
  have hc6 : coord x6 := by unfold coord; omega
  obtain ⟨x7, hx7⟩ : ∃ x, n7 % 10001 = x := ⟨_, rfl⟩
  have hn7 := hb n7 (by simp)
  have HC7 := Lib.hid (coordinate_any n7 x7 hn7.1 hn7.2 hx7)
  have hc7 : coord x7 := by unfold coord; omega
  obtain ⟨x8, hx8⟩ : ∃ x, n8 % 10001 = x := ⟨_, rfl⟩
  have hn8 := hbm n8 (by simp)
  have HC8 := Lib.hid (coordinate_any n8 x8 hn8.1 hn8.2 hx8)
  have hc8 : coord x8 := by unfold coord; omega
  obtain ⟨x9, hx9⟩ : ∃ x, n9 % 10001 = x := ⟨_, rfl⟩
  have hn9 := hbm n9 (by simp)
  have HC9 := Lib.hid (coordinate_any n9 x9 hn9.1 hn9.2 hx9)
  have hc9 : coord x9 := by unfold coord; omega
  obtain ⟨x10, hx10⟩ : ∃ x, n10 % 10001 = x := ⟨_, rfl⟩
  have hn10 := hbm n10 (by simp)
  have HC10 := Lib.hid (coordinate_any n10 x10 hn10.1 hn10.2 hx10)
  have hc10 : coord x10 := by unfold coord; omega
  obtain ⟨x11, hx11⟩ : ∃ x, n11 % 10001 = x := ⟨_, rfl⟩
  have hn11 := hbm n11 (by simp)
  have HC11 := Lib.hid (coordinate_any n11 x11 hn11.1 hn11.2 hx11)
  have hc11 : coord x11 := by unfold coord; omega
  have HCO := Lib.hid (And.intro hc0 (And.intro hc1 (And.intro hc2 (And.intro hc3 (And.intro hc4 (And.intro hc5 (And.intro hc6 (And.intro hc7 (And.intro hc8 (And.intro hc9 (And.intro hc10 hc11)))))))))))
  clear hx0 hn0 hc0 hx1 hn1 hc1 hx2 hn2 hc2 hx3 hn3 hc3 hx4 hn4 hc4 hx5 hn5 hc5 hx6 hn6 hc6 hx7 hn7 hc7 hx8 hn8 hc8 hx9 hn9 hc9 hx10 hn10 hc10 hx11 hn11 hc11 hb hbm
  obtain ⟨wb, hwb, swb, bwb, kb, kb2⟩ : ∃ wb, (w.alloc (.cells #[.int .u16 n0, .int .u16 n1, .int .u16 n2, .int .u16 n3, .int .u16 n4, .int .u16 n5, .int .u16 n6, .int .u16 n7] 35)).alloc (.cells #[.int .u16 n8, .int .u16 n9, .int .u16 n10, .int .u16 n11] 42) = wb ∧ wb.heap.size = w.heap.size + 1 + 1 ∧ Since w wb ∧ Blk wb (w.heap.size) 35 [.int .u16 n0, .int .u16 n1, .int .u16 n2, .int .u16 n3, .int .u16 n4, .int .u16 n5, .int .u16 n6, .int .u16 n7] ∧ Blk wb (w.heap.size + 1) 42 [.int .u16 n8, .int .u16 n9, .int .u16 n10, .int .u16 n11] := by
    obtain ⟨v1, e1⟩ : ∃ wq, w.alloc (.cells #[.int .u16 n0, .int .u16 n1, .int .u16 n2, .int .u16 n3, .int .u16 n4, .int .u16 n5, .int .u16 n6, .int .u16 n7] 35) = wq := ⟨_, rfl⟩
    have s1 : v1.heap.size = w.heap.size + 1 := by rw [← e1, World.size_alloc]
    have b1 : Since w v1 := by rw [← e1]; exact (Since.refl w).alloc _
    have k1_1 : Blk v1 (w.heap.size) 35 [.int .u16 n0, .int .u16 n1, .int .u16 n2, .int .u16 n3, .int .u16 n4, .int .u16 n5, .int .u16 n6, .int .u16 n7] := by rw [← e1]; exact Blk.new _ _ _
    obtain ⟨v2, e2⟩ : ∃ wq, v1.alloc (.cells #[.int .u16 n8, .int .u16 n9, .int .u16 n10, .int .u16 n11] 42) = wq := ⟨_, rfl⟩
    have s2 : v2.heap.size = w.heap.size + 1 + 1 := by rw [← e2, World.size_alloc, s1]
    have b2 : Since w v2 := by rw [← e2]; exact b1.alloc _
    have k2_2 : Blk v2 (w.heap.size + 1) 42 [.int .u16 n8, .int .u16 n9, .int .u16 n10, .int .u16 n11] := by rw [← e2, ← s1]; exact Blk.new _ _ _
    have k1_2 : Blk v2 (w.heap.size) 35 [.int .u16 n0, .int .u16 n1, .int .u16 n2, .int .u16 n3, .int .u16 n4, .int .u16 n5, .int .u16 n6, .int .u16 n7] := by rw [← e2]; exact k1_1.alloc _
    rw [e1, e2]
    exact ⟨_, rfl, s2, b2, k1_2, k2_2⟩
  have HWB := Lib.hid hwb; have HB0 := Lib.hid bwb; have KB := Lib.hid kb; have KB2 := Lib.hid kb2
  clear hwb swb bwb kb kb2
  show Calls Try.prog 6 #[.agg #[.int .u16 n0, .int .u16 n1, .int .u16 n2, .int .u16 n3, .int .u16 n4, .int .u16 n5, .int .u16 n6, .int .u16 n7], .agg #[.int .u16 n8, .int .u16 n9, .int .u16 n10, .int .u16 n11]] w _
  go_enter Try.func6, Try.ntmps6
  go_upto_region 1 with fail
  rw [HWB.out]
  go_wp2_with fail
  refine (head_any _).mono ?_; rintro e w1 ⟨rfl, hb1⟩
  have HB1 := Lib.hid (HB0.out.call hb1)
  have kb1 : Blk w1 _ _ _ := (hb1.block _ KB.out.lt).trans KB.out
  have kb12 : Blk w1 _ _ _ := (hb1.block _ KB2.out.lt).trans KB2.out
  have HBL : Hid (∀ w', Below w1.heap.size w1 w' → Blk w' w.heap.size 35 [.int .u16 n0, .int .u16 n1, .int .u16 n2, .int .u16 n3, .int .u16 n4, .int .u16 n5, .int .u16 n6, .int .u16 n7]) := Lib.hid fun w' hb => (hb.block _ kb1.lt).trans kb1
  have HBM : Hid (∀ w', Below w1.heap.size w1 w' → Blk w' (w.heap.size + 1) 42 [.int .u16 n8, .int .u16 n9, .int .u16 n10, .int .u16 n11]) := Lib.hid fun w' hb => (hb.block _ kb12.lt).trans kb12
  clear hb1 kb1 kb12 KB KB2 HB0 HWB
  have hIN : Below w1.heap.size w1 w1 := Below.refl _ _
  go_upto_region 2 with fail
  refine region_loose [(6, 23, [.int .i64 0, .int .i64 0]), (7, 23, [.int .i64 0, .int .i64 0])] 16 [16, 17] (by kernel_rfl) rfl (by simp) (by simp [Act.put]) #[true, true, true, true, true, true, true, true, true, true, true, true, true, true, true, true, false, false] (by kernel_rfl) (by kernel_rfl) ?_
  try simp only [Act.put, List.setIfInBounds_toArray, List.set_cons_zero, List.set_cons_succ, ptr]
  refine anyL_take 0 (.pointer (some ⟨w.heap.size, 0, none⟩)) rfl (d := some 15) rfl (by kernel_rfl) (quiet_read (by kernel_rfl) (by simp) (fun w' hS => by go_simp)) ?_
  try simp only [Act.put, List.setIfInBounds_toArray, List.set_cons_zero, List.set_cons_succ, ptr]
  refine anyL_take 1 (.int .u16 n0) rfl (d := some 16) rfl (by kernel_rfl) (quiet_read (by kernel_rfl) (by simp) (fun w' hS => by have := (HBL.out w' (hIN.trans (hS.mono hIN.size))).cell (i := 0) rfl; go_simp)) ?_
  try simp only [Act.put, List.setIfInBounds_toArray, List.set_cons_zero, List.set_cons_succ, ptr]
  refine anyL_take 2 (.int .i64 x0) rfl (d := some 17) rfl (by kernel_rfl) (quiet_call 16 #[.int .u16 n0] (by kernel_rfl) (by simp) (fun w' => by go_simp) (fun w' hS => HC0.out w')) ?_
  try simp only [Act.put, List.setIfInBounds_toArray, List.set_cons_zero, List.set_cons_succ, ptr]
  refine anyL_take 3 (.pointer (some ⟨w.heap.size, 1, none⟩)) rfl (d := some 18) rfl (by kernel_rfl) (quiet_read (by kernel_rfl) (by simp) (fun w' hS => by go_simp)) ?_
  try simp only [Act.put, List.setIfInBounds_toArray, List.set_cons_zero, List.set_cons_succ, ptr]
  refine anyL_take 4 (.int .u16 n1) rfl (d := some 19) rfl (by kernel_rfl) (quiet_read (by kernel_rfl) (by simp) (fun w' hS => by have := (HBL.out w' (hIN.trans (hS.mono hIN.size))).cell (i := 1) rfl; go_simp)) ?_
  try simp only [Act.put, List.setIfInBounds_toArray, List.set_cons_zero, List.set_cons_succ, ptr]
  refine anyL_take 5 (.int .i64 x1) rfl (d := some 20) rfl (by kernel_rfl) (quiet_call 16 #[.int .u16 n1] (by kernel_rfl) (by simp) (fun w' => by go_simp) (fun w' hS => HC1.out w')) ?_
  try simp only [Act.put, List.setIfInBounds_toArray, List.set_cons_zero, List.set_cons_succ, ptr]
  refine anyL_take 6 (.agg #[.int .i64 x0, .int .i64 x1]) rfl (d := some 21) rfl (by kernel_rfl) (quiet_call 15 #[.int .i64 x0, .int .i64 x1] (by kernel_rfl) (by simp) (fun w' => by go_simp) (fun w' hS => point_any x0 x1 w')) ?_
  try simp only [Act.put, List.setIfInBounds_toArray, List.set_cons_zero, List.set_cons_succ, ptr]
  refine anyL_take 7 (.pointer (some ⟨w.heap.size, 2, none⟩)) rfl (d := some 22) rfl (by kernel_rfl) (quiet_read (by kernel_rfl) (by simp) (fun w' hS => by go_simp)) ?_
  try simp only [Act.put, List.setIfInBounds_toArray, List.set_cons_zero, List.set_cons_succ, ptr]
  refine anyL_take 8 (.int .u16 n2) rfl (d := some 23) rfl (by kernel_rfl) (quiet_read (by kernel_rfl) (by simp) (fun w' hS => by have := (HBL.out w' (hIN.trans (hS.mono hIN.size))).cell (i := 2) rfl; go_simp)) ?_
  try simp only [Act.put, List.setIfInBounds_toArray, List.set_cons_zero, List.set_cons_succ, ptr]
  refine anyL_take 9 (.int .i64 x2) rfl (d := some 24) rfl (by kernel_rfl) (quiet_call 16 #[.int .u16 n2] (by kernel_rfl) (by simp) (fun w' => by go_simp) (fun w' hS => HC2.out w')) ?_
  try simp only [Act.put, List.setIfInBounds_toArray, List.set_cons_zero, List.set_cons_succ, ptr]
  refine anyL_take 10 (.pointer (some ⟨w.heap.size, 3, none⟩)) rfl (d := some 25) rfl (by kernel_rfl) (quiet_read (by kernel_rfl) (by simp) (fun w' hS => by go_simp)) ?_
  try simp only [Act.put, List.setIfInBounds_toArray, List.set_cons_zero, List.set_cons_succ, ptr]
  refine anyL_take 11 (.int .u16 n3) rfl (d := some 26) rfl (by kernel_rfl) (quiet_read (by kernel_rfl) (by simp) (fun w' hS => by have := (HBL.out w' (hIN.trans (hS.mono hIN.size))).cell (i := 3) rfl; go_simp)) ?_
  try simp only [Act.put, List.setIfInBounds_toArray, List.set_cons_zero, List.set_cons_succ, ptr]
  refine anyL_take 12 (.int .i64 x3) rfl (d := some 27) rfl (by kernel_rfl) (quiet_call 16 #[.int .u16 n3] (by kernel_rfl) (by simp) (fun w' => by go_simp) (fun w' hS => HC3.out w')) ?_
  try simp only [Act.put, List.setIfInBounds_toArray, List.set_cons_zero, List.set_cons_succ, ptr]
  refine anyL_take 13 (.agg #[.int .i64 x2, .int .i64 x3]) rfl (d := some 28) rfl (by kernel_rfl) (quiet_call 15 #[.int .i64 x2, .int .i64 x3] (by kernel_rfl) (by simp) (fun w' => by go_simp) (fun w' hS => point_any x2 x3 w')) ?_
  try simp only [Act.put, List.setIfInBounds_toArray, List.set_cons_zero, List.set_cons_succ, ptr]
  refine anyL_make2 14 15 (6, 23, [.int .i64 0, .int .i64 0]) (7, 23, [.int .i64 0, .int .i64 0]) rfl rfl rfl rfl (by decide) (by decide) (by kernel_rfl) (by kernel_rfl) (by kernel_rfl) (fun _ => rfl) (fun _ => rfl) (by simp) (by simp) (fun a w => by go_simp; rfl) (fun a w => by go_simp; rfl) (fun ba bb _ _ => ?_)
  refine anyL_done rfl (fun w2 hI => ?_)
  obtain ⟨hba, ka⟩ := hI.lies (6, 23, [.int .i64 0, .int .i64 0]) (by simp) ba rfl
  obtain ⟨hbb, kb⟩ := hI.lies (7, 23, [.int .i64 0, .int .i64 0]) (by simp) bb rfl
  have hab : ba ≠ bb := fun e => hI.apart (6, 23, [.int .i64 0, .int .i64 0]) (by simp) (7, 23, [.int .i64 0, .int .i64 0]) (by simp) (by decide) ba rfl (by rw [e]; rfl)
  have hb2 := hI.below
  clear hI
  simp only [List.filterMap_cons, List.filterMap_nil, Act.put, List.setIfInBounds_toArray, List.set_cons_zero, List.set_cons_succ, List.getElem?_toArray, List.getElem?_cons_succ, List.getElem?_cons_zero, ptr]
  refine wpList_store_blk rfl 23 (.tmp 6) (.tmp 21) rfl ba 23 _ [.int .i64 x0, .int .i64 x1] rfl rfl ka rfl (by kernel_rfl) (by simp [Value.oneCell']) (fun w3 ka hk3 => ?_)
  replace kb : Blk w3 _ _ _ := Blk.kept kb hk3 (Ne.symm hab)
  refine wpList_store_blk rfl 23 (.tmp 7) (.tmp 28) rfl bb 23 _ [.int .i64 x2, .int .i64 x3] rfl rfl kb rfl (by kernel_rfl) (by simp [Value.oneCell']) (fun w4 kb hk4 => ?_)
  replace ka : Blk w4 _ _ _ := Blk.kept ka hk4 hab
  have hbo : Below w1.heap.size w1 w4 := ((Kp.of_below hb2).trans (hk3.mono (E' := fun k => k = ba ∨ k = bb) fun k e => Or.inl e) |>.trans (hk4.mono fun k e => Or.inr e)).below (Nat.le_refl _) (fun k e => e.elim (fun e => e ▸ hba) (fun e => e ▸ hbb))
  have HIN := Lib.hid (hIN.trans (hbo.mono hIN.size)); have KA := Lib.hid ka; have KB := Lib.hid kb
  clear hb2 hk3 hk4 hbo ka kb hab hba hbb hIN
  have hIN : Below w1.heap.size w1 w4 := HIN.out
  go_upto_region 3 with fail
  refine region_loose [(8, 25, [.int .i64 0, .int .i64 0, .int .i64 0, .int .i64 0])] 14 [14] (by kernel_rfl) rfl (by simp) (by simp [Act.put]) #[true, true, true, true, true, true, true, true, true, true, true, true, true, true, false] (by kernel_rfl) (by kernel_rfl) ?_
  try simp only [Act.put, List.setIfInBounds_toArray, List.set_cons_zero, List.set_cons_succ, ptr]
  refine anyL_take 0 (.pointer (some ⟨w.heap.size, 4, none⟩)) rfl (d := some 29) rfl (by kernel_rfl) (quiet_read (by kernel_rfl) (by simp) (fun w' hS => by go_simp)) ?_
  try simp only [Act.put, List.setIfInBounds_toArray, List.set_cons_zero, List.set_cons_succ, ptr]
  refine anyL_take 1 (.int .u16 n4) rfl (d := some 30) rfl (by kernel_rfl) (quiet_read (by kernel_rfl) (by simp) (fun w' hS => by have := (HBL.out w' (hIN.trans (hS.mono hIN.size))).cell (i := 4) rfl; go_simp)) ?_
  try simp only [Act.put, List.setIfInBounds_toArray, List.set_cons_zero, List.set_cons_succ, ptr]
  refine anyL_take 2 (.int .i64 x4) rfl (d := some 31) rfl (by kernel_rfl) (quiet_call 16 #[.int .u16 n4] (by kernel_rfl) (by simp) (fun w' => by go_simp) (fun w' hS => HC4.out w')) ?_
  try simp only [Act.put, List.setIfInBounds_toArray, List.set_cons_zero, List.set_cons_succ, ptr]
  refine anyL_take 3 (.pointer (some ⟨w.heap.size, 5, none⟩)) rfl (d := some 32) rfl (by kernel_rfl) (quiet_read (by kernel_rfl) (by simp) (fun w' hS => by go_simp)) ?_
  try simp only [Act.put, List.setIfInBounds_toArray, List.set_cons_zero, List.set_cons_succ, ptr]
  refine anyL_take 4 (.int .u16 n5) rfl (d := some 33) rfl (by kernel_rfl) (quiet_read (by kernel_rfl) (by simp) (fun w' hS => by have := (HBL.out w' (hIN.trans (hS.mono hIN.size))).cell (i := 5) rfl; go_simp)) ?_
  try simp only [Act.put, List.setIfInBounds_toArray, List.set_cons_zero, List.set_cons_succ, ptr]
  refine anyL_take 5 (.int .i64 x5) rfl (d := some 34) rfl (by kernel_rfl) (quiet_call 16 #[.int .u16 n5] (by kernel_rfl) (by simp) (fun w' => by go_simp) (fun w' hS => HC5.out w')) ?_
  try simp only [Act.put, List.setIfInBounds_toArray, List.set_cons_zero, List.set_cons_succ, ptr]
  refine anyL_take 6 (.pointer (some ⟨w.heap.size, 6, none⟩)) rfl (d := some 35) rfl (by kernel_rfl) (quiet_read (by kernel_rfl) (by simp) (fun w' hS => by go_simp)) ?_
  try simp only [Act.put, List.setIfInBounds_toArray, List.set_cons_zero, List.set_cons_succ, ptr]
  refine anyL_take 7 (.int .u16 n6) rfl (d := some 36) rfl (by kernel_rfl) (quiet_read (by kernel_rfl) (by simp) (fun w' hS => by have := (HBL.out w' (hIN.trans (hS.mono hIN.size))).cell (i := 6) rfl; go_simp)) ?_
  try simp only [Act.put, List.setIfInBounds_toArray, List.set_cons_zero, List.set_cons_succ, ptr]
  refine anyL_take 8 (.int .i64 x6) rfl (d := some 37) rfl (by kernel_rfl) (quiet_call 16 #[.int .u16 n6] (by kernel_rfl) (by simp) (fun w' => by go_simp) (fun w' hS => HC6.out w')) ?_
  try simp only [Act.put, List.setIfInBounds_toArray, List.set_cons_zero, List.set_cons_succ, ptr]
  refine anyL_take 9 (.pointer (some ⟨w.heap.size, 7, none⟩)) rfl (d := some 38) rfl (by kernel_rfl) (quiet_read (by kernel_rfl) (by simp) (fun w' hS => by go_simp)) ?_
  try simp only [Act.put, List.setIfInBounds_toArray, List.set_cons_zero, List.set_cons_succ, ptr]
  refine anyL_take 10 (.int .u16 n7) rfl (d := some 39) rfl (by kernel_rfl) (quiet_read (by kernel_rfl) (by simp) (fun w' hS => by have := (HBL.out w' (hIN.trans (hS.mono hIN.size))).cell (i := 7) rfl; go_simp)) ?_
  try simp only [Act.put, List.setIfInBounds_toArray, List.set_cons_zero, List.set_cons_succ, ptr]
  refine anyL_take 11 (.int .i64 x7) rfl (d := some 40) rfl (by kernel_rfl) (quiet_call 16 #[.int .u16 n7] (by kernel_rfl) (by simp) (fun w' => by go_simp) (fun w' hS => HC7.out w')) ?_
  try simp only [Act.put, List.setIfInBounds_toArray, List.set_cons_zero, List.set_cons_succ, ptr]
  refine anyL_take 12 (.agg #[.int .i64 x4, .int .i64 x5, .int .i64 x6, .int .i64 x7]) rfl (d := some 41) rfl (by kernel_rfl) (quiet_call 17 #[.int .i64 x4, .int .i64 x5, .int .i64 x6, .int .i64 x7] (by kernel_rfl) (by simp) (fun w' => by go_simp) (fun w' hS => box_any x4 x5 x6 x7 w')) ?_
  try simp only [Act.put, List.setIfInBounds_toArray, List.set_cons_zero, List.set_cons_succ, ptr]
  refine anyL_make 13 (8, 25, [.int .i64 0, .int .i64 0, .int .i64 0, .int .i64 0]) rfl rfl (by kernel_rfl) (by kernel_rfl) (by simp) (fun a w => by go_simp; rfl) (fun bx _ => ?_)
  refine anyL_done rfl (fun w2 hI => ?_)
  obtain ⟨hbx, kx⟩ := hI.lies (8, 25, [.int .i64 0, .int .i64 0, .int .i64 0, .int .i64 0]) (by simp) bx rfl
  have hb2 := hI.below
  clear hI
  simp only [List.filterMap_cons, List.filterMap_nil, Act.put, List.setIfInBounds_toArray, List.set_cons_zero, List.set_cons_succ, List.getElem?_toArray, List.getElem?_cons_succ, List.getElem?_cons_zero, ptr]
  refine wpList_store_blk rfl 25 (.tmp 8) (.tmp 41) rfl bx 25 _ [.int .i64 x4, .int .i64 x5, .int .i64 x6, .int .i64 x7] rfl rfl kx rfl (by kernel_rfl) (by simp [Value.oneCell']) (fun w7 kx hk3 => ?_)
  have hbo : Below w4.heap.size w4 w7 := ((Kp.of_below hb2).trans hk3).below (Nat.le_refl _) (fun k e => e ▸ hbx)
  replace KA : Hid (Blk w7 _ _ _) := Lib.hid ((hbo.block _ KA.out.lt).trans KA.out)
  replace KB : Hid (Blk w7 _ _ _) := Lib.hid ((hbo.block _ KB.out.lt).trans KB.out)
  replace HIN := Lib.hid (hIN.trans (hbo.mono hIN.size)); have KX := Lib.hid kx
  clear hb2 hk3 hbo kx hbx hIN
  obtain ⟨y0, hy0⟩ : ∃ y, min x4 x8 = y := ⟨_, rfl⟩
  have HY0 := Lib.hid hy0
  clear hy0
  obtain ⟨y1, hy1⟩ : ∃ y, min x5 x9 = y := ⟨_, rfl⟩
  have HY1 := Lib.hid hy1
  clear hy1
  obtain ⟨y2, hy2⟩ : ∃ y, max x6 x10 = y := ⟨_, rfl⟩
  have HY2 := Lib.hid hy2
  clear hy2
  obtain ⟨y3, hy3⟩ : ∃ y, max x7 x11 = y := ⟨_, rfl⟩
  have HY3 := Lib.hid hy3
  clear hy3
  have hxc : ∀ w', Below w7.heap.size w7 w' → Blk w' bx 25 [.int .i64 x4, .int .i64 x5, .int .i64 x6, .int .i64 x7] := fun w' hb => (hb.block _ KX.out.lt).trans KX.out
  have HXC := Lib.hid hxc
  clear hxc
  have hIN : Below w1.heap.size w1 w7 := HIN.out
  go_upto_region 4 with fail
  refine region_loose [(9, 25, [.int .i64 0, .int .i64 0, .int .i64 0, .int .i64 0])] 26 [26] (by kernel_rfl) rfl (by simp) (by simp [Act.put]) #[true, true, true, true, true, true, true, true, true, true, true, true, true, true, true, true, true, true, true, true, true, true, true, true, true, true, false] (by kernel_rfl) (by kernel_rfl) ?_
  try simp only [Act.put, List.setIfInBounds_toArray, List.set_cons_zero, List.set_cons_succ, ptr]
  refine anyL_take 0 (.pointer (some ⟨bx, 0, none⟩)) rfl (d := some 42) rfl (by kernel_rfl) (quiet_read (by kernel_rfl) (by simp) (fun w' hS => by go_simp)) ?_
  try simp only [Act.put, List.setIfInBounds_toArray, List.set_cons_zero, List.set_cons_succ, ptr]
  refine anyL_take 1 (.int .i64 x4) rfl (d := some 43) rfl (by kernel_rfl) (quiet_read (by kernel_rfl) (by simp) (fun w' hS => by have := (HXC.out w' hS).cell (i := 0) rfl; go_simp)) ?_
  try simp only [Act.put, List.setIfInBounds_toArray, List.set_cons_zero, List.set_cons_succ, ptr]
  refine anyL_take 2 (.pointer (some ⟨w.heap.size + 1, 0, none⟩)) rfl (d := some 44) rfl (by kernel_rfl) (quiet_read (by kernel_rfl) (by simp) (fun w' hS => by go_simp)) ?_
  try simp only [Act.put, List.setIfInBounds_toArray, List.set_cons_zero, List.set_cons_succ, ptr]
  refine anyL_take 3 (.int .u16 n8) rfl (d := some 45) rfl (by kernel_rfl) (quiet_read (by kernel_rfl) (by simp) (fun w' hS => by have := (HBM.out w' (hIN.trans (hS.mono hIN.size))).cell (i := 0) rfl; go_simp)) ?_
  try simp only [Act.put, List.setIfInBounds_toArray, List.set_cons_zero, List.set_cons_succ, ptr]
  refine anyL_take 4 (.int .i64 x8) rfl (d := some 46) rfl (by kernel_rfl) (quiet_call 16 #[.int .u16 n8] (by kernel_rfl) (by simp) (fun w' => by go_simp) (fun w' hS => HC8.out w')) ?_
  try simp only [Act.put, List.setIfInBounds_toArray, List.set_cons_zero, List.set_cons_succ, ptr]
  refine anyL_take 5 (.int .i64 y0) rfl (d := some 47) rfl (by kernel_rfl) (quiet_read (by kernel_rfl) (by simp) (fun w' hS => by have := HY0.out; go_simp; split <;> omega)) ?_
  try simp only [Act.put, List.setIfInBounds_toArray, List.set_cons_zero, List.set_cons_succ, ptr]
  refine anyL_take 6 (.pointer (some ⟨bx, 1, none⟩)) rfl (d := some 48) rfl (by kernel_rfl) (quiet_read (by kernel_rfl) (by simp) (fun w' hS => by go_simp)) ?_
  try simp only [Act.put, List.setIfInBounds_toArray, List.set_cons_zero, List.set_cons_succ, ptr]
  refine anyL_take 7 (.int .i64 x5) rfl (d := some 49) rfl (by kernel_rfl) (quiet_read (by kernel_rfl) (by simp) (fun w' hS => by have := (HXC.out w' hS).cell (i := 1) rfl; go_simp)) ?_
  try simp only [Act.put, List.setIfInBounds_toArray, List.set_cons_zero, List.set_cons_succ, ptr]
  refine anyL_take 8 (.pointer (some ⟨w.heap.size + 1, 1, none⟩)) rfl (d := some 50) rfl (by kernel_rfl) (quiet_read (by kernel_rfl) (by simp) (fun w' hS => by go_simp)) ?_
  try simp only [Act.put, List.setIfInBounds_toArray, List.set_cons_zero, List.set_cons_succ, ptr]
  refine anyL_take 9 (.int .u16 n9) rfl (d := some 51) rfl (by kernel_rfl) (quiet_read (by kernel_rfl) (by simp) (fun w' hS => by have := (HBM.out w' (hIN.trans (hS.mono hIN.size))).cell (i := 1) rfl; go_simp)) ?_
  try simp only [Act.put, List.setIfInBounds_toArray, List.set_cons_zero, List.set_cons_succ, ptr]
  refine anyL_take 10 (.int .i64 x9) rfl (d := some 52) rfl (by kernel_rfl) (quiet_call 16 #[.int .u16 n9] (by kernel_rfl) (by simp) (fun w' => by go_simp) (fun w' hS => HC9.out w')) ?_
  try simp only [Act.put, List.setIfInBounds_toArray, List.set_cons_zero, List.set_cons_succ, ptr]
  refine anyL_take 11 (.int .i64 y1) rfl (d := some 53) rfl (by kernel_rfl) (quiet_read (by kernel_rfl) (by simp) (fun w' hS => by have := HY1.out; go_simp; split <;> omega)) ?_
  try simp only [Act.put, List.setIfInBounds_toArray, List.set_cons_zero, List.set_cons_succ, ptr]
  refine anyL_take 12 (.pointer (some ⟨bx, 2, none⟩)) rfl (d := some 54) rfl (by kernel_rfl) (quiet_read (by kernel_rfl) (by simp) (fun w' hS => by go_simp)) ?_
  try simp only [Act.put, List.setIfInBounds_toArray, List.set_cons_zero, List.set_cons_succ, ptr]
  refine anyL_take 13 (.int .i64 x6) rfl (d := some 55) rfl (by kernel_rfl) (quiet_read (by kernel_rfl) (by simp) (fun w' hS => by have := (HXC.out w' hS).cell (i := 2) rfl; go_simp)) ?_
  try simp only [Act.put, List.setIfInBounds_toArray, List.set_cons_zero, List.set_cons_succ, ptr]
  refine anyL_take 14 (.pointer (some ⟨w.heap.size + 1, 2, none⟩)) rfl (d := some 56) rfl (by kernel_rfl) (quiet_read (by kernel_rfl) (by simp) (fun w' hS => by go_simp)) ?_
  try simp only [Act.put, List.setIfInBounds_toArray, List.set_cons_zero, List.set_cons_succ, ptr]
  refine anyL_take 15 (.int .u16 n10) rfl (d := some 57) rfl (by kernel_rfl) (quiet_read (by kernel_rfl) (by simp) (fun w' hS => by have := (HBM.out w' (hIN.trans (hS.mono hIN.size))).cell (i := 2) rfl; go_simp)) ?_
  try simp only [Act.put, List.setIfInBounds_toArray, List.set_cons_zero, List.set_cons_succ, ptr]
  refine anyL_take 16 (.int .i64 x10) rfl (d := some 58) rfl (by kernel_rfl) (quiet_call 16 #[.int .u16 n10] (by kernel_rfl) (by simp) (fun w' => by go_simp) (fun w' hS => HC10.out w')) ?_
  try simp only [Act.put, List.setIfInBounds_toArray, List.set_cons_zero, List.set_cons_succ, ptr]
  refine anyL_take 17 (.int .i64 y2) rfl (d := some 59) rfl (by kernel_rfl) (quiet_read (by kernel_rfl) (by simp) (fun w' hS => by have := HY2.out; go_simp; split <;> omega)) ?_
  try simp only [Act.put, List.setIfInBounds_toArray, List.set_cons_zero, List.set_cons_succ, ptr]
  refine anyL_take 18 (.pointer (some ⟨bx, 3, none⟩)) rfl (d := some 60) rfl (by kernel_rfl) (quiet_read (by kernel_rfl) (by simp) (fun w' hS => by go_simp)) ?_
  try simp only [Act.put, List.setIfInBounds_toArray, List.set_cons_zero, List.set_cons_succ, ptr]
  refine anyL_take 19 (.int .i64 x7) rfl (d := some 61) rfl (by kernel_rfl) (quiet_read (by kernel_rfl) (by simp) (fun w' hS => by have := (HXC.out w' hS).cell (i := 3) rfl; go_simp)) ?_
  try simp only [Act.put, List.setIfInBounds_toArray, List.set_cons_zero, List.set_cons_succ, ptr]
  refine anyL_take 20 (.pointer (some ⟨w.heap.size + 1, 3, none⟩)) rfl (d := some 62) rfl (by kernel_rfl) (quiet_read (by kernel_rfl) (by simp) (fun w' hS => by go_simp)) ?_
  try simp only [Act.put, List.setIfInBounds_toArray, List.set_cons_zero, List.set_cons_succ, ptr]
  refine anyL_take 21 (.int .u16 n11) rfl (d := some 63) rfl (by kernel_rfl) (quiet_read (by kernel_rfl) (by simp) (fun w' hS => by have := (HBM.out w' (hIN.trans (hS.mono hIN.size))).cell (i := 3) rfl; go_simp)) ?_
  try simp only [Act.put, List.setIfInBounds_toArray, List.set_cons_zero, List.set_cons_succ, ptr]
  refine anyL_take 22 (.int .i64 x11) rfl (d := some 64) rfl (by kernel_rfl) (quiet_call 16 #[.int .u16 n11] (by kernel_rfl) (by simp) (fun w' => by go_simp) (fun w' hS => HC11.out w')) ?_
  try simp only [Act.put, List.setIfInBounds_toArray, List.set_cons_zero, List.set_cons_succ, ptr]
  refine anyL_take 23 (.int .i64 y3) rfl (d := some 65) rfl (by kernel_rfl) (quiet_read (by kernel_rfl) (by simp) (fun w' hS => by have := HY3.out; go_simp; split <;> omega)) ?_
  try simp only [Act.put, List.setIfInBounds_toArray, List.set_cons_zero, List.set_cons_succ, ptr]
  refine anyL_take 24 (.agg #[.int .i64 y0, .int .i64 y1, .int .i64 y2, .int .i64 y3]) rfl (d := some 66) rfl (by kernel_rfl) (quiet_call 17 #[.int .i64 y0, .int .i64 y1, .int .i64 y2, .int .i64 y3] (by kernel_rfl) (by simp) (fun w' => by go_simp) (fun w' hS => box_any y0 y1 y2 y3 w')) ?_
  try simp only [Act.put, List.setIfInBounds_toArray, List.set_cons_zero, List.set_cons_succ, ptr]
  refine anyL_make 25 (9, 25, [.int .i64 0, .int .i64 0, .int .i64 0, .int .i64 0]) rfl rfl (by kernel_rfl) (by kernel_rfl) (by simp) (fun a w => by go_simp; rfl) (fun bw _ => ?_)
  refine anyL_done rfl (fun w2 hI => ?_)
  obtain ⟨hbx, kx⟩ := hI.lies (9, 25, [.int .i64 0, .int .i64 0, .int .i64 0, .int .i64 0]) (by simp) bw rfl
  have hb2 := hI.below
  clear hI
  simp only [List.filterMap_cons, List.filterMap_nil, Act.put, List.setIfInBounds_toArray, List.set_cons_zero, List.set_cons_succ, List.getElem?_toArray, List.getElem?_cons_succ, List.getElem?_cons_zero, ptr]
  refine wpList_store_blk rfl 25 (.tmp 9) (.tmp 66) rfl bw 25 _ [.int .i64 y0, .int .i64 y1, .int .i64 y2, .int .i64 y3] rfl rfl kx rfl (by kernel_rfl) (by simp [Value.oneCell']) (fun w9 kx hk3 => ?_)
  have hbo : Below w7.heap.size w7 w9 := ((Kp.of_below hb2).trans hk3).below (Nat.le_refl _) (fun k e => e ▸ hbx)
  replace KA : Hid (Blk w9 _ _ _) := Lib.hid ((hbo.block _ KA.out.lt).trans KA.out)
  replace KB : Hid (Blk w9 _ _ _) := Lib.hid ((hbo.block _ KB.out.lt).trans KB.out)
  replace KX : Hid (Blk w9 _ _ _) := Lib.hid ((hbo.block _ KX.out.lt).trans KX.out)
  replace HIN := Lib.hid (hIN.trans (hbo.mono hIN.size)); have KW := Lib.hid kx
  clear hb2 hk3 hbo kx hbx hIN
  clear HC0 HC1 HC2 HC3 HC4 HC5 HC6 HC7 HC8 HC9 HC10 HC11 HBL HBM HXC
  have HSW : Hid (Since w w9) := Lib.hid (HB1.out.call HIN.out)
  clear HIN HB1
  obtain ⟨r, hr⟩ : ∃ r, cross ⟨x0, x1⟩ ⟨x2, x3⟩ ⟨x4, x5, x6, x7⟩ = r := ⟨_, rfl⟩
  obtain ⟨c0, c1, c2, c3, c4, c5, c6, c7, c8, c9, c10, c11⟩ := HCO.out
  have C1 : Hid (∀ w, Calls Try.prog 11 #[.agg #[.int .i64 x0, .int .i64 x1], .agg #[.int .i64 x2, .int .i64 x3], .agg #[.int .i64 x4, .int .i64 x5, .int .i64 x6, .int .i64 x7]] w fun e w' => e = .returned (.bool r) ∧ Below w.heap.size w w') :=
    Lib.hid fun w => (crosses_any ⟨x0, x1⟩ ⟨x2, x3⟩ ⟨x4, x5, x6, x7⟩ w).mono fun e w' ⟨h, hb⟩ => ⟨by rw [h, hr], hb⟩
  have hwide : r = true → cross ⟨x0, x1⟩ ⟨x2, x3⟩ ⟨y0, y1, y2, y3⟩ = true := fun h => by
    have k0 := HY0.out; have k1 := HY1.out; have k2 := HY2.out; have k3 := HY3.out
    unfold coord at c4 c5 c6 c7 c8 c9 c10 c11
    exact cross_wider (X := ⟨x4, x5, x6, x7⟩) (allCo_mk c0 c1 c2 c3 (by unfold coord; simp only; omega) (by unfold coord; simp only; omega) (by unfold coord; simp only; omega) (by unfold coord; simp only; omega)) (by rw [hr, h]) (by simp only; omega) (by simp only; omega) (by simp only; omega) (by simp only; omega)
  have C2 : Hid (r = true → ∀ w, Calls Try.prog 11 #[.agg #[.int .i64 x0, .int .i64 x1], .agg #[.int .i64 x2, .int .i64 x3], .agg #[.int .i64 y0, .int .i64 y1, .int .i64 y2, .int .i64 y3]] w fun e w' => e = .returned (.bool true) ∧ Below w.heap.size w w') :=
    Lib.hid fun k w => (crosses_any ⟨x0, x1⟩ ⟨x2, x3⟩ ⟨y0, y1, y2, y3⟩ w).mono fun e w' ⟨h, hb⟩ => ⟨by rw [h, hwide k], hb⟩
  clear hwide HY0 HY1 HY2 HY3
  obtain ⟨h1, e1⟩ : ∃ h, holdsB x4 x5 x6 x7 x0 x1 = h := ⟨_, rfl⟩
  obtain ⟨h2, e2⟩ : ∃ h, holdsB x4 x5 x6 x7 x2 x3 = h := ⟨_, rfl⟩
  obtain ⟨h3, e3⟩ : ∃ h, holdsB (wrap64 (2 * x4)) (wrap64 (2 * x5)) (wrap64 (2 * x6)) (wrap64 (2 * x7)) (wrap64 (x0 + x2)) (wrap64 (x1 + x3)) = h := ⟨_, rfl⟩
  have hco : AllCo ⟨x0, x1⟩ ⟨x2, x3⟩ ⟨x4, x5, x6, x7⟩ := allCo_mk c0 c1 c2 c3 c4 c5 c6 c7
  have hin : (h1 || h2 || h3) = true → r = true := fun h => by
    rw [← hr, cross_of hco]
    refine decide_eq_true ?_
    rw [← e1, ← e2, ← e3] at h
    unfold holdsB at h
    unfold coord at c0 c1 c2 c3 c4 c5 c6 c7
    rw [show wrap64 (2 * x4) = 2 * x4 from wrap_in (by omega) (by omega), show wrap64 (2 * x5) = 2 * x5 from wrap_in (by omega) (by omega), show wrap64 (2 * x6) = 2 * x6 from wrap_in (by omega) (by omega), show wrap64 (2 * x7) = 2 * x7 from wrap_in (by omega) (by omega), show wrap64 (x0 + x2) = x0 + x2 from wrap_in (by omega) (by omega), show wrap64 (x1 + x3) = x1 + x3 from wrap_in (by omega) (by omega)] at h
    simp only [Bool.or_eq_true, decide_eq_true_eq] at h
    rcases h with (h | h) | h
    · exact cr_end h.1 h.2.1 h.2.2.1 h.2.2.2
    · exact cr_swap (cr_end h.1 h.2.1 h.2.2.1 h.2.2.2)
    · exact cr_middle h.1 h.2.1 h.2.2.1 h.2.2.2
  obtain ⟨ou, eo⟩ : ∃ b, decide ((x0 < x4 ∧ x2 < x4) ∨ (x6 < x0 ∧ x6 < x2) ∨ (x1 < x5 ∧ x3 < x5) ∨ (x7 < x1 ∧ x7 < x3)) = b := ⟨_, rfl⟩
  have hout : ou = true → r = false := fun h => by
    rw [← hr, cross_of hco]
    refine decide_eq_false fun k => ?_
    have k1 := k.left; have k2 := k.right; have k3 := k.low; have k4 := k.top
    rw [← eo, decide_eq_true_eq] at h
    simp only at k1 k2 k3 k4
    omega
  have G1 : Hid (∀ w, Calls Try.prog 18 #[.agg #[.int .i64 x4, .int .i64 x5, .int .i64 x6, .int .i64 x7], .agg #[.int .i64 x0, .int .i64 x1]] w fun e w' => e = .returned (.bool h1) ∧ Below w.heap.size w w') := Lib.hid fun w => (holds_any x4 x5 x6 x7 x0 x1 w).mono fun e w' ⟨h, hb⟩ => ⟨by rw [h, e1], hb⟩
  have G2 : Hid (∀ w, Calls Try.prog 18 #[.agg #[.int .i64 x4, .int .i64 x5, .int .i64 x6, .int .i64 x7], .agg #[.int .i64 x2, .int .i64 x3]] w fun e w' => e = .returned (.bool h2) ∧ Below w.heap.size w w') := Lib.hid fun w => (holds_any x4 x5 x6 x7 x2 x3 w).mono fun e w' ⟨h, hb⟩ => ⟨by rw [h, e2], hb⟩
  have G3 : Hid (∀ w, Calls Try.prog 18 #[.agg #[.int .i64 (wrap64 (2 * x4)), .int .i64 (wrap64 (2 * x5)), .int .i64 (wrap64 (2 * x6)), .int .i64 (wrap64 (2 * x7))], .agg #[.int .i64 (wrap64 (x0 + x2)), .int .i64 (wrap64 (x1 + x3))]] w fun e w' => e = .returned (.bool h3) ∧ Below w.heap.size w w') := Lib.hid fun w => (holds_any (wrap64 (2 * x4)) (wrap64 (2 * x5)) (wrap64 (2 * x6)) (wrap64 (2 * x7)) (wrap64 (x0 + x2)) (wrap64 (x1 + x3)) w).mono fun e w' ⟨h, hb⟩ => ⟨by rw [h, e3], hb⟩
  have HI := Lib.hid hin; have HO := Lib.hid hout; have HEO := Lib.hid eo
  clear hr c0 c1 c2 c3 c4 c5 c6 c7 c8 c9 c10 c11 HCO hco hin hout e1 e2 e3 eo
  have qa0 := KA.out.cell (i := 0) rfl
  have qa1 := KA.out.cell (i := 1) rfl
  have qb0 := KB.out.cell (i := 0) rfl
  have qb1 := KB.out.cell (i := 1) rfl
  have qx0 := KX.out.cell (i := 0) rfl
  have qx1 := KX.out.cell (i := 1) rfl
  have qx2 := KX.out.cell (i := 2) rfl
  have qx3 := KX.out.cell (i := 3) rfl
  go_upto_region 5 with fail
  go_wp2_with fail
  refine (C1.out w9).mono ?_; rintro e wa ⟨rfl, hba⟩
  replace KA : Hid (Blk wa _ _ _) := Lib.hid ((hba.block _ KA.out.lt).trans KA.out)
  replace KB : Hid (Blk wa _ _ _) := Lib.hid ((hba.block _ KB.out.lt).trans KB.out)
  replace KX : Hid (Blk wa _ _ _) := Lib.hid ((hba.block _ KX.out.lt).trans KX.out)
  replace KW : Hid (Blk wa _ _ _) := Lib.hid ((hba.block _ KW.out.lt).trans KW.out)
  replace HSW := Lib.hid (HSW.out.call hba)
  clear hba C1 qa0 qa1 qb0 qb1 qx0 qx1 qx2 qx3
  go_upto_region 6 with fail
  go_cut [78] from 71 (fun v wx => v = .bool false ∧ Hid (Since w wx) ∧ Hid (Blk wx ba 23 [.int .i64 x0, .int .i64 x1]) ∧ Hid (Blk wx bb 23 [.int .i64 x2, .int .i64 x3]) ∧ Hid (Blk wx bx 25 [.int .i64 x4, .int .i64 x5, .int .i64 x6, .int .i64 x7]))
  case first =>
    cases r
    · go_wp2
      go_meet
      exact ⟨rfl, HSW, KA, KB, KX⟩
    · have c2 := C2.out rfl
      have qa0 := KA.out.cell (i := 0) rfl
      have qa1 := KA.out.cell (i := 1) rfl
      have qb0 := KB.out.cell (i := 0) rfl
      have qb1 := KB.out.cell (i := 1) rfl
      have qw0 := KW.out.cell (i := 0) rfl
      have qw1 := KW.out.cell (i := 1) rfl
      have qw2 := KW.out.cell (i := 2) rfl
      have qw3 := KW.out.cell (i := 3) rfl
      go_wp2_with fail
      refine (c2 wa).mono ?_; rintro e wc ⟨rfl, hbc⟩
      replace KA : Hid (Blk wc _ _ _) := Lib.hid ((hbc.block _ KA.out.lt).trans KA.out)
      replace KB : Hid (Blk wc _ _ _) := Lib.hid ((hbc.block _ KB.out.lt).trans KB.out)
      replace KX : Hid (Blk wc _ _ _) := Lib.hid ((hbc.block _ KX.out.lt).trans KX.out)
      replace HSW := Lib.hid (HSW.out.call hbc)
      clear hbc c2 qa0 qa1 qb0 qb1 qw0 qw1 qw2 qw3
      go_wp2
      go_meet
      exact ⟨rfl, HSW, KA, KB, KX⟩
  case rest =>
    obtain ⟨rfl, HSW, KA, KB, KX⟩ := hcut
    obtain ⟨wd, hwd⟩ : ∃ x, x = wc := ⟨_, rfl⟩
    subst hwd
    have qx0 := KX.out.cell (i := 0) rfl
    have qx1 := KX.out.cell (i := 1) rfl
    have qx2 := KX.out.cell (i := 2) rfl
    have qx3 := KX.out.cell (i := 3) rfl
    go_upto_region 8 with fail
    go_wp2_with fail
    refine (box_any (wrap64 (2 * x4)) (wrap64 (2 * x5)) (wrap64 (2 * x6)) (wrap64 (2 * x7)) wd).mono ?_; rintro e we ⟨rfl, hbe⟩
    replace KA : Hid (Blk we _ _ _) := Lib.hid ((hbe.block _ KA.out.lt).trans KA.out)
    replace KB : Hid (Blk we _ _ _) := Lib.hid ((hbe.block _ KB.out.lt).trans KB.out)
    replace KX : Hid (Blk we _ _ _) := Lib.hid ((hbe.block _ KX.out.lt).trans KX.out)
    replace HSW := Lib.hid (HSW.out.call hbe)
    clear hbe qx0 qx1 qx2 qx3
    obtain ⟨wt, hwt, swt, bwt, kt⟩ : ∃ wt, we.alloc (.cells #[.int .i64 (wrap64 (2 * x4)), .int .i64 (wrap64 (2 * x5)), .int .i64 (wrap64 (2 * x6)), .int .i64 (wrap64 (2 * x7))] 25) = wt ∧ wt.heap.size = we.heap.size + 1 ∧ Since we wt ∧ Blk wt (we.heap.size) 25 [.int .i64 (wrap64 (2 * x4)), .int .i64 (wrap64 (2 * x5)), .int .i64 (wrap64 (2 * x6)), .int .i64 (wrap64 (2 * x7))] := by
      obtain ⟨v1, e1⟩ : ∃ wq, we.alloc (.cells #[.int .i64 (wrap64 (2 * x4)), .int .i64 (wrap64 (2 * x5)), .int .i64 (wrap64 (2 * x6)), .int .i64 (wrap64 (2 * x7))] 25) = wq := ⟨_, rfl⟩
      have s1 : v1.heap.size = we.heap.size + 1 := by rw [← e1, World.size_alloc]
      have b1 : Since we v1 := by rw [← e1]; exact (Since.refl we).alloc _
      have k1_1 : Blk v1 (we.heap.size) 25 [.int .i64 (wrap64 (2 * x4)), .int .i64 (wrap64 (2 * x5)), .int .i64 (wrap64 (2 * x6)), .int .i64 (wrap64 (2 * x7))] := by rw [← e1]; exact Blk.new _ _ _
      rw [e1]
      exact ⟨_, rfl, s1, b1, k1_1⟩
    have HWT := Lib.hid hwt; have KT := Lib.hid kt
    replace KA : Hid (Blk wt _ _ _) := Lib.hid ((bwt.block _ KA.out.lt).trans KA.out)
    replace KB : Hid (Blk wt _ _ _) := Lib.hid ((bwt.block _ KB.out.lt).trans KB.out)
    replace KX : Hid (Blk wt _ _ _) := Lib.hid ((bwt.block _ KX.out.lt).trans KX.out)
    replace HSW := Lib.hid (HSW.out.call bwt)
    clear hwt swt bwt kt
    go_upto_region 9 with fail
    rw [HWT.out]
    clear HWT
    go_cut [12] from 92 (fun v wx => v = .bool (h1 || h2 || h3) ∧ Hid (Since w wx) ∧ Hid (Blk wx ba 23 [.int .i64 x0, .int .i64 x1]) ∧ Hid (Blk wx bb 23 [.int .i64 x2, .int .i64 x3]) ∧ Hid (Blk wx bx 25 [.int .i64 x4, .int .i64 x5, .int .i64 x6, .int .i64 x7]))
    case first =>
      rename_i J KM hRJ hMK
      have qa0 := fun d os => cell_regrown (KA.out.cell (i := 0) rfl) d os
      have qa1 := fun d os => cell_regrown (KA.out.cell (i := 1) rfl) d os
      have qb0 := fun d os => cell_regrown (KB.out.cell (i := 0) rfl) d os
      have qb1 := fun d os => cell_regrown (KB.out.cell (i := 1) rfl) d os
      have qx0 := fun d os => cell_regrown (KX.out.cell (i := 0) rfl) d os
      have qx1 := fun d os => cell_regrown (KX.out.cell (i := 1) rfl) d os
      have qx2 := fun d os => cell_regrown (KX.out.cell (i := 2) rfl) d os
      have qx3 := fun d os => cell_regrown (KX.out.cell (i := 3) rfl) d os
      have qt0 := fun d os => cell_regrown (KT.out.cell (i := 0) rfl) d os
      have qt1 := fun d os => cell_regrown (KT.out.cell (i := 1) rfl) d os
      have qt2 := fun d os => cell_regrown (KT.out.cell (i := 2) rfl) d os
      have qt3 := fun d os => cell_regrown (KT.out.cell (i := 3) rfl) d os
      have F1 := Lib.hid (fun d os => Calls.regrown_of (G1.out (grow (redrawn wt d) os)))
      have F2 := Lib.hid (fun d os => Calls.regrown_of (G2.out (grow (redrawn wt d) os)))
      have F3 := Lib.hid (fun d os => Calls.regrown_of (G3.out (grow (redrawn wt d) os)))
      have F4 := Lib.hid (fun d os => Calls.regrown_of (point_any (wrap64 (x0 + x2)) (wrap64 (x1 + x3)) (grow (redrawn wt d) os)))
      clear HI G1 G2 G3
      cases h1
      · cases h2
        · cases h3
          · refine wp_region_quiet_below (by kernel_rfl) (by kernel_rfl) ?_
            repeat (go_big_quiet_step (first | with_reducible exact F1.out _ _ | with_reducible exact F2.out _ _ | with_reducible exact F3.out _ _ | with_reducible exact F4.out _ _))
            refine wpQuiet_nil ?_
            intro _ hw'
            obtain ⟨⟨dq, osq⟩, hw''⟩ := hw'
            subst hw''
            have hbq := below_regrown wt dq osq
            generalize grow (redrawn wt dq) osq = wu at *
            replace KA : Hid (Blk wu _ _ _) := Lib.hid ((hbq.block _ KA.out.lt).trans KA.out)
            replace KB : Hid (Blk wu _ _ _) := Lib.hid ((hbq.block _ KB.out.lt).trans KB.out)
            replace KX : Hid (Blk wu _ _ _) := Lib.hid ((hbq.block _ KX.out.lt).trans KX.out)
            replace HSW := Lib.hid (HSW.out.call hbq)
            refine hMK _ _ (Met.intro (hRJ _ _ ?_))
            (repeat apply Exists.intro)
            refine ⟨?rel1, rfl⟩
            exact ⟨rfl, HSW, KA, KB, KX⟩
          · refine wp_region_quiet_below (by kernel_rfl) (by kernel_rfl) ?_
            repeat (go_big_quiet_step (first | with_reducible exact F1.out _ _ | with_reducible exact F2.out _ _ | with_reducible exact F3.out _ _ | with_reducible exact F4.out _ _))
            refine wpQuiet_nil ?_
            intro _ hw'
            obtain ⟨⟨dq, osq⟩, hw''⟩ := hw'
            subst hw''
            have hbq := below_regrown wt dq osq
            generalize grow (redrawn wt dq) osq = wu at *
            replace KA : Hid (Blk wu _ _ _) := Lib.hid ((hbq.block _ KA.out.lt).trans KA.out)
            replace KB : Hid (Blk wu _ _ _) := Lib.hid ((hbq.block _ KB.out.lt).trans KB.out)
            replace KX : Hid (Blk wu _ _ _) := Lib.hid ((hbq.block _ KX.out.lt).trans KX.out)
            replace HSW := Lib.hid (HSW.out.call hbq)
            refine hMK _ _ (Met.intro (hRJ _ _ ?_))
            (repeat apply Exists.intro)
            refine ⟨?rel2, rfl⟩
            exact ⟨rfl, HSW, KA, KB, KX⟩
        · refine wp_region_quiet_below (by kernel_rfl) (by kernel_rfl) ?_
          repeat (go_big_quiet_step (first | with_reducible exact F1.out _ _ | with_reducible exact F2.out _ _ | with_reducible exact F3.out _ _ | with_reducible exact F4.out _ _))
          refine wpQuiet_nil ?_
          intro _ hw'
          obtain ⟨⟨dq, osq⟩, hw''⟩ := hw'
          subst hw''
          have hbq := below_regrown wt dq osq
          generalize grow (redrawn wt dq) osq = wu at *
          replace KA : Hid (Blk wu _ _ _) := Lib.hid ((hbq.block _ KA.out.lt).trans KA.out)
          replace KB : Hid (Blk wu _ _ _) := Lib.hid ((hbq.block _ KB.out.lt).trans KB.out)
          replace KX : Hid (Blk wu _ _ _) := Lib.hid ((hbq.block _ KX.out.lt).trans KX.out)
          replace HSW := Lib.hid (HSW.out.call hbq)
          refine hMK _ _ (Met.intro (hRJ _ _ ?_))
          (repeat apply Exists.intro)
          refine ⟨?rel3, rfl⟩
          exact ⟨rfl, HSW, KA, KB, KX⟩
      · refine wp_region_quiet_below (by kernel_rfl) (by kernel_rfl) ?_
        repeat (go_big_quiet_step (first | with_reducible exact F1.out _ _ | with_reducible exact F2.out _ _ | with_reducible exact F3.out _ _ | with_reducible exact F4.out _ _))
        refine wpQuiet_nil ?_
        intro _ hw'
        obtain ⟨⟨dq, osq⟩, hw''⟩ := hw'
        subst hw''
        have hbq := below_regrown wt dq osq
        generalize grow (redrawn wt dq) osq = wu at *
        replace KA : Hid (Blk wu _ _ _) := Lib.hid ((hbq.block _ KA.out.lt).trans KA.out)
        replace KB : Hid (Blk wu _ _ _) := Lib.hid ((hbq.block _ KB.out.lt).trans KB.out)
        replace KX : Hid (Blk wu _ _ _) := Lib.hid ((hbq.block _ KX.out.lt).trans KX.out)
        replace HSW := Lib.hid (HSW.out.call hbq)
        refine hMK _ _ (Met.intro (hRJ _ _ ?_))
        (repeat apply Exists.intro)
        refine ⟨?rel4, rfl⟩
        exact ⟨rfl, HSW, KA, KB, KX⟩
    case rest =>
      obtain ⟨rfl, HSW, KA, KB, KX⟩ := hcut
      obtain ⟨wf, hwf⟩ : ∃ x, x = wc := ⟨_, rfl⟩
      subst hwf
      obtain ⟨hh, ehh⟩ : ∃ b, (h1 || h2 || h3) = b := ⟨_, rfl⟩
      rw [ehh] at HI ⊢
      clear ehh G1 G2 G3 KT C2
      have qa0 := KA.out.cell (i := 0) rfl
      have qa1 := KA.out.cell (i := 1) rfl
      have qb0 := KB.out.cell (i := 0) rfl
      have qb1 := KB.out.cell (i := 1) rfl
      have qx0 := KX.out.cell (i := 0) rfl
      have qx1 := KX.out.cell (i := 1) rfl
      have qx2 := KX.out.cell (i := 2) rfl
      have qx3 := KX.out.cell (i := 3) rfl
      go_upto_region 10 with fail
      go_cut [13] from 115 (fun v wx => v = .bool ou ∧ wx = wf)
      case first =>
        have HEQ := HEO
        obtain ⟨M1, hM1⟩ : ∃ z, (if x0 < x2 then x2 else x0) = z := ⟨_, rfl⟩
        obtain ⟨M2, hM2⟩ : ∃ z, (if x2 < x0 then x2 else x0) = z := ⟨_, rfl⟩
        obtain ⟨M3, hM3⟩ : ∃ z, (if x1 < x3 then x3 else x1) = z := ⟨_, rfl⟩
        obtain ⟨M4, hM4⟩ : ∃ z, (if x3 < x1 then x3 else x1) = z := ⟨_, rfl⟩
        have HOU := Lib.hid (HEQ.out.symm.trans (out_eq hM1 hM2 hM3 hM4))
        clear HEQ HI HO KA KB KX HSW
        go_wp2
        all_goals go_meet
        all_goals
          refine ⟨congrArg Value.bool ?_, rfl⟩
          first
            | exact HOU.out.symm
            | (rw [HOU.out, decide_eq_true (show M1 < x4 by assumption)]; rfl)
            | (rw [HOU.out, decide_eq_true (show x6 < M2 by assumption)]; simp only [Bool.or_true, Bool.true_or]; done)
            | (rw [HOU.out, decide_eq_true (show M3 < x5 by assumption)]; simp only [Bool.or_true, Bool.true_or]; done)
            | (rw [HOU.out, decide_eq_true (show x7 < M4 by assumption)]; simp only [Bool.or_true, Bool.true_or]; done)
      case rest =>
        obtain ⟨rfl, rfl⟩ := hcut
        clear qa0 qa1 qb0 qb1 qx0 qx1 qx2 qx3 KA KB KX HEO
        have hi := HI.out
        have ho := HO.out
        clear HI HO
        cases hh
        · cases ou
          · go_wp2
            go_ret
            exact ⟨rfl, HSW.out⟩
          · obtain rfl := ho rfl
            clear hi ho
            go_wp2
            go_ret
            exact ⟨rfl, HSW.out⟩
        · obtain rfl := hi rfl
          cases ou
          · clear hi ho
            go_wp2
            go_ret
            exact ⟨rfl, HSW.out⟩
          · cases ho rfl
end Go.Proofs.Ytdmancneccfgeaa.Sg
