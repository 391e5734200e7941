/-
  Symmetry.
-/
import Derived.Test.YtdmancneccfgeaaBegin9
namespace Go.Proofs.Ytdmancneccfgeaa.Sg
open Go.RowKit Go.Sort Foyer.Hall Foyer.Sight Go.Proofs.Ytdmancneccfgeaa.Hl Foyer.Loose

set_option linter.unusedSimpArgs false in
set_option maxRecDepth 100000 in
set_option maxHeartbeats 4000000 in
theorem symmetric_walk (l : List Int) (w : World) (hl : l.length = 8) (hb : ∀ x ∈ l, 0 ≤ x ∧ x < 65536) : Calls Try.prog 4 #[.agg (l.map (Value.int .u16)).toArray] w fun e w' => e = .returned (.bool true) ∧ Below w.heap.size w w' := by
  obtain ⟨n0, n1, n2, n3, n4, n5, n6, n7, rfl⟩ := eight hl
  clear hl
  obtain ⟨x0, hx0⟩ : ∃ x, n0 % 10001 = x := ⟨_, rfl⟩
  have hn0 := hb n0 (by simp)
  have HC0 := Lib.hid (coordinate_any n0 x0 hn0.1 hn0.2 hx0)
  have hc0 : coord x0 := by unfold coord; omega
  obtain ⟨x1, hx1⟩ : ∃ x, n1 % 10001 = x := ⟨_, rfl⟩
  have hn1 := hb n1 (by simp)
  have HC1 := Lib.hid (coordinate_any n1 x1 hn1.1 hn1.2 hx1)
  have hc1 : coord x1 := by unfold coord; omega
  obtain ⟨x2, hx2⟩ : ∃ x, n2 % 10001 = x := ⟨_, rfl⟩
  have hn2 := hb n2 (by simp)
  have HC2 := Lib.hid (coordinate_any n2 x2 hn2.1 hn2.2 hx2)
  have hc2 : coord x2 := by unfold coord; omega
  obtain ⟨x3, hx3⟩ : ∃ x, n3 % 10001 = x := ⟨_, rfl⟩
  have hn3 := hb n3 (by simp)
  have HC3 := Lib.hid (coordinate_any n3 x3 hn3.1 hn3.2 hx3)
  have hc3 : coord x3 := by unfold coord; omega
  obtain ⟨x4, hx4⟩ : ∃ x, n4 % 10001 = x := ⟨_, rfl⟩
  have hn4 := hb n4 (by simp)
  have HC4 := Lib.hid (coordinate_any n4 x4 hn4.1 hn4.2 hx4)
  have hc4 : coord x4 := by unfold coord; omega
  obtain ⟨x5, hx5⟩ : ∃ x, n5 % 10001 = x := ⟨_, rfl⟩
  have hn5 := hb n5 (by simp)
  have HC5 := Lib.hid (coordinate_any n5 x5 hn5.1 hn5.2 hx5)
  have hc5 : coord x5 := by unfold coord; omega
  obtain ⟨x6, hx6⟩ : ∃ x, n6 % 10001 = x := ⟨_, rfl⟩
  have hn6 := hb n6 (by simp)
  have HC6 := Lib.hid (coordinate_any n6 x6 hn6.1 hn6.2 hx6)
  have hc6 : coord x6 := by unfold coord; omega
  obtain ⟨x7, hx7⟩ : ∃ x, n7 % 10001 = x := ⟨_, rfl⟩
  have hn7 := hb n7 (by simp)
  have HC7 := Lib.hid (coordinate_any n7 x7 hn7.1 hn7.2 hx7)
  have hc7 : coord x7 := by unfold coord; omega
  have HCO := Lib.hid (And.intro hc0 (And.intro hc1 (And.intro hc2 (And.intro hc3 (And.intro hc4 (And.intro hc5 (And.intro hc6 hc7)))))))
  clear hx0 hn0 hc0 hx1 hn1 hc1 hx2 hn2 hc2 hx3 hn3 hc3 hx4 hn4 hc4 hx5 hn5 hc5 hx6 hn6 hc6 hx7 hn7 hc7 hb
  obtain ⟨wb, hwb, swb, bwb, kb⟩ : ∃ wb, w.alloc (.cells #[.int .u16 n0, .int .u16 n1, .int .u16 n2, .int .u16 n3, .int .u16 n4, .int .u16 n5, .int .u16 n6, .int .u16 n7] 35) = wb ∧ wb.heap.size = w.heap.size + 1 ∧ Since w wb ∧ Blk wb (w.heap.size) 35 [.int .u16 n0, .int .u16 n1, .int .u16 n2, .int .u16 n3, .int .u16 n4, .int .u16 n5, .int .u16 n6, .int .u16 n7] := by
    obtain ⟨v1, e1⟩ : ∃ wq, w.alloc (.cells #[.int .u16 n0, .int .u16 n1, .int .u16 n2, .int .u16 n3, .int .u16 n4, .int .u16 n5, .int .u16 n6, .int .u16 n7] 35) = wq := ⟨_, rfl⟩
    have s1 : v1.heap.size = w.heap.size + 1 := by rw [← e1, World.size_alloc]
    have b1 : Since w v1 := by rw [← e1]; exact (Since.refl w).alloc _
    have k1_1 : Blk v1 (w.heap.size) 35 [.int .u16 n0, .int .u16 n1, .int .u16 n2, .int .u16 n3, .int .u16 n4, .int .u16 n5, .int .u16 n6, .int .u16 n7] := by rw [← e1]; exact Blk.new _ _ _
    rw [e1]
    exact ⟨_, rfl, s1, b1, k1_1⟩
  have HWB := Lib.hid hwb; have HB0 := Lib.hid bwb; have KB := Lib.hid kb
  clear hwb swb bwb kb
  show Calls Try.prog 4 #[.agg #[.int .u16 n0, .int .u16 n1, .int .u16 n2, .int .u16 n3, .int .u16 n4, .int .u16 n5, .int .u16 n6, .int .u16 n7]] w _
  go_enter Try.func4, Try.ntmps4
  go_upto_region 1 with fail
  rw [HWB.out]
  go_wp2_with fail
  refine (head_any _).mono ?_; rintro e w1 ⟨rfl, hb1⟩
  have HB1 := Lib.hid (HB0.out.call hb1)
  have kb1 : Blk w1 _ _ _ := (hb1.block _ KB.out.lt).trans KB.out
  have HBL : Hid (∀ w', Below w1.heap.size w1 w' → Blk w' w.heap.size 35 [.int .u16 n0, .int .u16 n1, .int .u16 n2, .int .u16 n3, .int .u16 n4, .int .u16 n5, .int .u16 n6, .int .u16 n7]) := Lib.hid fun w' hb => (hb.block _ kb1.lt).trans kb1
  clear hb1 kb1 KB HB0 HWB
  have hIN : Below w1.heap.size w1 w1 := Below.refl _ _
  go_upto_region 2 with fail
  refine region_loose [(4, 23, [.int .i64 0, .int .i64 0]), (5, 23, [.int .i64 0, .int .i64 0])] 16 [16, 17] (by kernel_rfl) rfl (by simp) (by simp [Act.put]) #[true, true, true, true, true, true, true, true, true, true, true, true, true, true, true, true, false, false] (by kernel_rfl) (by kernel_rfl) ?_
  try simp only [Act.put, List.setIfInBounds_toArray, List.set_cons_zero, List.set_cons_succ, ptr]
  refine anyL_take 0 (.pointer (some ⟨w.heap.size, 0, none⟩)) rfl (d := some 11) rfl (by kernel_rfl) (quiet_read (by kernel_rfl) (by simp) (fun w' hS => by go_simp)) ?_
  try simp only [Act.put, List.setIfInBounds_toArray, List.set_cons_zero, List.set_cons_succ, ptr]
  refine anyL_take 1 (.int .u16 n0) rfl (d := some 12) rfl (by kernel_rfl) (quiet_read (by kernel_rfl) (by simp) (fun w' hS => by have := (HBL.out w' (hIN.trans (hS.mono hIN.size))).cell (i := 0) rfl; go_simp)) ?_
  try simp only [Act.put, List.setIfInBounds_toArray, List.set_cons_zero, List.set_cons_succ, ptr]
  refine anyL_take 2 (.int .i64 x0) rfl (d := some 13) rfl (by kernel_rfl) (quiet_call 16 #[.int .u16 n0] (by kernel_rfl) (by simp) (fun w' => by go_simp) (fun w' hS => HC0.out w')) ?_
  try simp only [Act.put, List.setIfInBounds_toArray, List.set_cons_zero, List.set_cons_succ, ptr]
  refine anyL_take 3 (.pointer (some ⟨w.heap.size, 1, none⟩)) rfl (d := some 14) rfl (by kernel_rfl) (quiet_read (by kernel_rfl) (by simp) (fun w' hS => by go_simp)) ?_
  try simp only [Act.put, List.setIfInBounds_toArray, List.set_cons_zero, List.set_cons_succ, ptr]
  refine anyL_take 4 (.int .u16 n1) rfl (d := some 15) rfl (by kernel_rfl) (quiet_read (by kernel_rfl) (by simp) (fun w' hS => by have := (HBL.out w' (hIN.trans (hS.mono hIN.size))).cell (i := 1) rfl; go_simp)) ?_
  try simp only [Act.put, List.setIfInBounds_toArray, List.set_cons_zero, List.set_cons_succ, ptr]
  refine anyL_take 5 (.int .i64 x1) rfl (d := some 16) rfl (by kernel_rfl) (quiet_call 16 #[.int .u16 n1] (by kernel_rfl) (by simp) (fun w' => by go_simp) (fun w' hS => HC1.out w')) ?_
  try simp only [Act.put, List.setIfInBounds_toArray, List.set_cons_zero, List.set_cons_succ, ptr]
  refine anyL_take 6 (.agg #[.int .i64 x0, .int .i64 x1]) rfl (d := some 17) rfl (by kernel_rfl) (quiet_call 15 #[.int .i64 x0, .int .i64 x1] (by kernel_rfl) (by simp) (fun w' => by go_simp) (fun w' hS => point_any x0 x1 w')) ?_
  try simp only [Act.put, List.setIfInBounds_toArray, List.set_cons_zero, List.set_cons_succ, ptr]
  refine anyL_take 7 (.pointer (some ⟨w.heap.size, 2, none⟩)) rfl (d := some 18) rfl (by kernel_rfl) (quiet_read (by kernel_rfl) (by simp) (fun w' hS => by go_simp)) ?_
  try simp only [Act.put, List.setIfInBounds_toArray, List.set_cons_zero, List.set_cons_succ, ptr]
  refine anyL_take 8 (.int .u16 n2) rfl (d := some 19) rfl (by kernel_rfl) (quiet_read (by kernel_rfl) (by simp) (fun w' hS => by have := (HBL.out w' (hIN.trans (hS.mono hIN.size))).cell (i := 2) rfl; go_simp)) ?_
  try simp only [Act.put, List.setIfInBounds_toArray, List.set_cons_zero, List.set_cons_succ, ptr]
  refine anyL_take 9 (.int .i64 x2) rfl (d := some 20) rfl (by kernel_rfl) (quiet_call 16 #[.int .u16 n2] (by kernel_rfl) (by simp) (fun w' => by go_simp) (fun w' hS => HC2.out w')) ?_
  try simp only [Act.put, List.setIfInBounds_toArray, List.set_cons_zero, List.set_cons_succ, ptr]
  refine anyL_take 10 (.pointer (some ⟨w.heap.size, 3, none⟩)) rfl (d := some 21) rfl (by kernel_rfl) (quiet_read (by kernel_rfl) (by simp) (fun w' hS => by go_simp)) ?_
  try simp only [Act.put, List.setIfInBounds_toArray, List.set_cons_zero, List.set_cons_succ, ptr]
  refine anyL_take 11 (.int .u16 n3) rfl (d := some 22) rfl (by kernel_rfl) (quiet_read (by kernel_rfl) (by simp) (fun w' hS => by have := (HBL.out w' (hIN.trans (hS.mono hIN.size))).cell (i := 3) rfl; go_simp)) ?_
  try simp only [Act.put, List.setIfInBounds_toArray, List.set_cons_zero, List.set_cons_succ, ptr]
  refine anyL_take 12 (.int .i64 x3) rfl (d := some 23) rfl (by kernel_rfl) (quiet_call 16 #[.int .u16 n3] (by kernel_rfl) (by simp) (fun w' => by go_simp) (fun w' hS => HC3.out w')) ?_
  try simp only [Act.put, List.setIfInBounds_toArray, List.set_cons_zero, List.set_cons_succ, ptr]
  refine anyL_take 13 (.agg #[.int .i64 x2, .int .i64 x3]) rfl (d := some 24) rfl (by kernel_rfl) (quiet_call 15 #[.int .i64 x2, .int .i64 x3] (by kernel_rfl) (by simp) (fun w' => by go_simp) (fun w' hS => point_any x2 x3 w')) ?_
  try simp only [Act.put, List.setIfInBounds_toArray, List.set_cons_zero, List.set_cons_succ, ptr]
  refine anyL_make2 14 15 (4, 23, [.int .i64 0, .int .i64 0]) (5, 23, [.int .i64 0, .int .i64 0]) rfl rfl rfl rfl (by decide) (by decide) (by kernel_rfl) (by kernel_rfl) (by kernel_rfl) (fun _ => rfl) (fun _ => rfl) (by simp) (by simp) (fun a w => by go_simp; rfl) (fun a w => by go_simp; rfl) (fun ba bb _ _ => ?_)
  refine anyL_done rfl (fun w2 hI => ?_)
  obtain ⟨hba, ka⟩ := hI.lies (4, 23, [.int .i64 0, .int .i64 0]) (by simp) ba rfl
  obtain ⟨hbb, kb⟩ := hI.lies (5, 23, [.int .i64 0, .int .i64 0]) (by simp) bb rfl
  have hab : ba ≠ bb := fun e => hI.apart (4, 23, [.int .i64 0, .int .i64 0]) (by simp) (5, 23, [.int .i64 0, .int .i64 0]) (by simp) (by decide) ba rfl (by rw [e]; rfl)
  have hb2 := hI.below
  clear hI
  simp only [List.filterMap_cons, List.filterMap_nil, Act.put, List.setIfInBounds_toArray, List.set_cons_zero, List.set_cons_succ, List.getElem?_toArray, List.getElem?_cons_succ, List.getElem?_cons_zero, ptr]
  refine wpList_store_blk rfl 23 (.tmp 4) (.tmp 17) rfl ba 23 _ [.int .i64 x0, .int .i64 x1] rfl rfl ka rfl (by kernel_rfl) (by simp [Value.oneCell']) (fun w3 ka hk3 => ?_)
  replace kb : Blk w3 _ _ _ := Blk.kept kb hk3 (Ne.symm hab)
  refine wpList_store_blk rfl 23 (.tmp 5) (.tmp 24) rfl bb 23 _ [.int .i64 x2, .int .i64 x3] rfl rfl kb rfl (by kernel_rfl) (by simp [Value.oneCell']) (fun w4 kb hk4 => ?_)
  replace ka : Blk w4 _ _ _ := Blk.kept ka hk4 hab
  have hbo : Below w1.heap.size w1 w4 := ((Kp.of_below hb2).trans (hk3.mono (E' := fun k => k = ba ∨ k = bb) fun k e => Or.inl e) |>.trans (hk4.mono fun k e => Or.inr e)).below (Nat.le_refl _) (fun k e => e.elim (fun e => e ▸ hba) (fun e => e ▸ hbb))
  have HIN := Lib.hid (hIN.trans (hbo.mono hIN.size)); have KA := Lib.hid ka; have KB := Lib.hid kb
  clear hb2 hk3 hk4 hbo ka kb hab hba hbb hIN
  have hIN : Below w1.heap.size w1 w4 := HIN.out
  go_upto_region 3 with fail
  refine region_loose [(6, 25, [.int .i64 0, .int .i64 0, .int .i64 0, .int .i64 0])] 14 [14] (by kernel_rfl) rfl (by simp) (by simp [Act.put]) #[true, true, true, true, true, true, true, true, true, true, true, true, true, true, false] (by kernel_rfl) (by kernel_rfl) ?_
  try simp only [Act.put, List.setIfInBounds_toArray, List.set_cons_zero, List.set_cons_succ, ptr]
  refine anyL_take 0 (.pointer (some ⟨w.heap.size, 4, none⟩)) rfl (d := some 25) rfl (by kernel_rfl) (quiet_read (by kernel_rfl) (by simp) (fun w' hS => by go_simp)) ?_
  try simp only [Act.put, List.setIfInBounds_toArray, List.set_cons_zero, List.set_cons_succ, ptr]
  refine anyL_take 1 (.int .u16 n4) rfl (d := some 26) rfl (by kernel_rfl) (quiet_read (by kernel_rfl) (by simp) (fun w' hS => by have := (HBL.out w' (hIN.trans (hS.mono hIN.size))).cell (i := 4) rfl; go_simp)) ?_
  try simp only [Act.put, List.setIfInBounds_toArray, List.set_cons_zero, List.set_cons_succ, ptr]
  refine anyL_take 2 (.int .i64 x4) rfl (d := some 27) rfl (by kernel_rfl) (quiet_call 16 #[.int .u16 n4] (by kernel_rfl) (by simp) (fun w' => by go_simp) (fun w' hS => HC4.out w')) ?_
  try simp only [Act.put, List.setIfInBounds_toArray, List.set_cons_zero, List.set_cons_succ, ptr]
  refine anyL_take 3 (.pointer (some ⟨w.heap.size, 5, none⟩)) rfl (d := some 28) rfl (by kernel_rfl) (quiet_read (by kernel_rfl) (by simp) (fun w' hS => by go_simp)) ?_
  try simp only [Act.put, List.setIfInBounds_toArray, List.set_cons_zero, List.set_cons_succ, ptr]
  refine anyL_take 4 (.int .u16 n5) rfl (d := some 29) rfl (by kernel_rfl) (quiet_read (by kernel_rfl) (by simp) (fun w' hS => by have := (HBL.out w' (hIN.trans (hS.mono hIN.size))).cell (i := 5) rfl; go_simp)) ?_
  try simp only [Act.put, List.setIfInBounds_toArray, List.set_cons_zero, List.set_cons_succ, ptr]
  refine anyL_take 5 (.int .i64 x5) rfl (d := some 30) rfl (by kernel_rfl) (quiet_call 16 #[.int .u16 n5] (by kernel_rfl) (by simp) (fun w' => by go_simp) (fun w' hS => HC5.out w')) ?_
  try simp only [Act.put, List.setIfInBounds_toArray, List.set_cons_zero, List.set_cons_succ, ptr]
  refine anyL_take 6 (.pointer (some ⟨w.heap.size, 6, none⟩)) rfl (d := some 31) rfl (by kernel_rfl) (quiet_read (by kernel_rfl) (by simp) (fun w' hS => by go_simp)) ?_
  try simp only [Act.put, List.setIfInBounds_toArray, List.set_cons_zero, List.set_cons_succ, ptr]
  refine anyL_take 7 (.int .u16 n6) rfl (d := some 32) rfl (by kernel_rfl) (quiet_read (by kernel_rfl) (by simp) (fun w' hS => by have := (HBL.out w' (hIN.trans (hS.mono hIN.size))).cell (i := 6) rfl; go_simp)) ?_
  try simp only [Act.put, List.setIfInBounds_toArray, List.set_cons_zero, List.set_cons_succ, ptr]
  refine anyL_take 8 (.int .i64 x6) rfl (d := some 33) rfl (by kernel_rfl) (quiet_call 16 #[.int .u16 n6] (by kernel_rfl) (by simp) (fun w' => by go_simp) (fun w' hS => HC6.out w')) ?_
  try simp only [Act.put, List.setIfInBounds_toArray, List.set_cons_zero, List.set_cons_succ, ptr]
  refine anyL_take 9 (.pointer (some ⟨w.heap.size, 7, none⟩)) rfl (d := some 34) rfl (by kernel_rfl) (quiet_read (by kernel_rfl) (by simp) (fun w' hS => by go_simp)) ?_
  try simp only [Act.put, List.setIfInBounds_toArray, List.set_cons_zero, List.set_cons_succ, ptr]
  refine anyL_take 10 (.int .u16 n7) rfl (d := some 35) rfl (by kernel_rfl) (quiet_read (by kernel_rfl) (by simp) (fun w' hS => by have := (HBL.out w' (hIN.trans (hS.mono hIN.size))).cell (i := 7) rfl; go_simp)) ?_
  try simp only [Act.put, List.setIfInBounds_toArray, List.set_cons_zero, List.set_cons_succ, ptr]
  refine anyL_take 11 (.int .i64 x7) rfl (d := some 36) rfl (by kernel_rfl) (quiet_call 16 #[.int .u16 n7] (by kernel_rfl) (by simp) (fun w' => by go_simp) (fun w' hS => HC7.out w')) ?_
  try simp only [Act.put, List.setIfInBounds_toArray, List.set_cons_zero, List.set_cons_succ, ptr]
  refine anyL_take 12 (.agg #[.int .i64 x4, .int .i64 x5, .int .i64 x6, .int .i64 x7]) rfl (d := some 37) rfl (by kernel_rfl) (quiet_call 17 #[.int .i64 x4, .int .i64 x5, .int .i64 x6, .int .i64 x7] (by kernel_rfl) (by simp) (fun w' => by go_simp) (fun w' hS => box_any x4 x5 x6 x7 w')) ?_
  try simp only [Act.put, List.setIfInBounds_toArray, List.set_cons_zero, List.set_cons_succ, ptr]
  refine anyL_make 13 (6, 25, [.int .i64 0, .int .i64 0, .int .i64 0, .int .i64 0]) rfl rfl (by kernel_rfl) (by kernel_rfl) (by simp) (fun a w => by go_simp; rfl) (fun bx _ => ?_)
  refine anyL_done rfl (fun w2 hI => ?_)
  obtain ⟨hbx, kx⟩ := hI.lies (6, 25, [.int .i64 0, .int .i64 0, .int .i64 0, .int .i64 0]) (by simp) bx rfl
  have hb2 := hI.below
  clear hI
  simp only [List.filterMap_cons, List.filterMap_nil, Act.put, List.setIfInBounds_toArray, List.set_cons_zero, List.set_cons_succ, List.getElem?_toArray, List.getElem?_cons_succ, List.getElem?_cons_zero, ptr]
  refine wpList_store_blk rfl 25 (.tmp 6) (.tmp 37) rfl bx 25 _ [.int .i64 x4, .int .i64 x5, .int .i64 x6, .int .i64 x7] rfl rfl kx rfl (by kernel_rfl) (by simp [Value.oneCell']) (fun w7 kx hk3 => ?_)
  have hbo : Below w4.heap.size w4 w7 := ((Kp.of_below hb2).trans hk3).below (Nat.le_refl _) (fun k e => e ▸ hbx)
  replace KA : Hid (Blk w7 _ _ _) := Lib.hid ((hbo.block _ KA.out.lt).trans KA.out)
  replace KB : Hid (Blk w7 _ _ _) := Lib.hid ((hbo.block _ KB.out.lt).trans KB.out)
  replace HIN := Lib.hid (hIN.trans (hbo.mono hIN.size)); have KX := Lib.hid kx
  clear hb2 hk3 hbo kx hbx hIN
  clear HC0 HC1 HC2 HC3 HC4 HC5 HC6 HC7 HBL
  obtain ⟨r, hr⟩ : ∃ r, cross ⟨x0, x1⟩ ⟨x2, x3⟩ ⟨x4, x5, x6, x7⟩ = r := ⟨_, rfl⟩
  obtain ⟨c0, c1, c2, c3, c4, c5, c6, c7⟩ := HCO.out
  have C1 : Hid (∀ w, Calls Try.prog 11 #[.agg #[.int .i64 x0, .int .i64 x1], .agg #[.int .i64 x2, .int .i64 x3], .agg #[.int .i64 x4, .int .i64 x5, .int .i64 x6, .int .i64 x7]] w fun e w' => e = .returned (.bool r) ∧ Below w.heap.size w w') :=
    Lib.hid fun w => (crosses_any ⟨x0, x1⟩ ⟨x2, x3⟩ ⟨x4, x5, x6, x7⟩ w).mono fun e w' ⟨h, hb⟩ => ⟨by rw [h, hr], hb⟩
  have C2 : Hid (∀ w, Calls Try.prog 11 #[.agg #[.int .i64 x1, .int .i64 x0], .agg #[.int .i64 x3, .int .i64 x2], .agg #[.int .i64 x5, .int .i64 x4, .int .i64 x7, .int .i64 x6]] w fun e w' => e = .returned (.bool r) ∧ Below w.heap.size w w') :=
    Lib.hid fun w => (crosses_any ⟨x1, x0⟩ ⟨x3, x2⟩ ⟨x5, x4, x7, x6⟩ w).mono fun e w' ⟨h, hb⟩ => ⟨by rw [h, cross_turned c0 c1 c2 c3 c4 c5 c6 c7, hr], hb⟩
  have C4 : Hid (∀ w, Calls Try.prog 11 #[.agg #[.int .i64 x2, .int .i64 x3], .agg #[.int .i64 x0, .int .i64 x1], .agg #[.int .i64 x4, .int .i64 x5, .int .i64 x6, .int .i64 x7]] w fun e w' => e = .returned (.bool r) ∧ Below w.heap.size w w') :=
    Lib.hid fun w => (crosses_any ⟨x2, x3⟩ ⟨x0, x1⟩ ⟨x4, x5, x6, x7⟩ w).mono fun e w' ⟨h, hb⟩ => ⟨by rw [h, cross_swap c0 c1 c2 c3 c4 c5 c6 c7, hr], hb⟩
  have wr : ∀ x, coord x → wrap64 (10000 - x) = 10000 - x := fun x h => wrap_in (by unfold coord at h; omega) (by unfold coord at h; omega)
  have C3 : Hid (∀ w, Calls Try.prog 11 #[.agg #[.int .i64 (wrap64 (10000 - x0)), .int .i64 x1], .agg #[.int .i64 (wrap64 (10000 - x2)), .int .i64 x3], .agg #[.int .i64 (wrap64 (10000 - x6)), .int .i64 x5, .int .i64 (wrap64 (10000 - x4)), .int .i64 x7]] w fun e w' => e = .returned (.bool r) ∧ Below w.heap.size w w') :=
    Lib.hid fun w => by
      rw [wr x0 c0, wr x2 c2, wr x6 c6, wr x4 c4]
      exact (crosses_any ⟨10000 - x0, x1⟩ ⟨10000 - x2, x3⟩ ⟨10000 - x6, x5, 10000 - x4, x7⟩ w).mono fun e w' ⟨h, hb⟩ => ⟨by rw [h, cross_back c0 c1 c2 c3 c4 c5 c6 c7, hr], hb⟩
  clear hr c0 c1 c2 c3 c4 c5 c6 c7 wr HCO
  have HSW : Hid (Since w w7) := Lib.hid (HB1.out.call HIN.out)
  clear HIN HB1
  have qa0 := KA.out.cell (i := 0) rfl
  have qa1 := KA.out.cell (i := 1) rfl
  have qb0 := KB.out.cell (i := 0) rfl
  have qb1 := KB.out.cell (i := 1) rfl
  have qx0 := KX.out.cell (i := 0) rfl
  have qx1 := KX.out.cell (i := 1) rfl
  have qx2 := KX.out.cell (i := 2) rfl
  have qx3 := KX.out.cell (i := 3) rfl
  go_upto_region 4 with fail
  go_wp2_with fail
  refine (C1.out w7).mono ?_; rintro e w8 ⟨rfl, hb8⟩
  replace KA : Hid (Blk w8 _ _ _) := Lib.hid ((hb8.block _ KA.out.lt).trans KA.out)
  replace KB : Hid (Blk w8 _ _ _) := Lib.hid ((hb8.block _ KB.out.lt).trans KB.out)
  replace KX : Hid (Blk w8 _ _ _) := Lib.hid ((hb8.block _ KX.out.lt).trans KX.out)
  replace HSW := Lib.hid (HSW.out.call hb8)
  clear hb8 qa0 qa1 qb0 qb1 qx0 qx1 qx2 qx3
  have qa0 := fun d os => cell_regrown (KA.out.cell (i := 0) rfl) d os
  have qa1 := fun d os => cell_regrown (KA.out.cell (i := 1) rfl) d os
  have qb0 := fun d os => cell_regrown (KB.out.cell (i := 0) rfl) d os
  have qb1 := fun d os => cell_regrown (KB.out.cell (i := 1) rfl) d os
  have qx0 := fun d os => cell_regrown (KX.out.cell (i := 0) rfl) d os
  have qx1 := fun d os => cell_regrown (KX.out.cell (i := 1) rfl) d os
  have qx2 := fun d os => cell_regrown (KX.out.cell (i := 2) rfl) d os
  have qx3 := fun d os => cell_regrown (KX.out.cell (i := 3) rfl) d os
  have G1 := Lib.hid (fun d os => Calls.regrown_of (point_any x1 x0 (grow (redrawn w8 d) os)))
  have G2 := Lib.hid (fun d os => Calls.regrown_of (point_any x3 x2 (grow (redrawn w8 d) os)))
  have G3 := Lib.hid (fun d os => Calls.regrown_of (box_any x5 x4 x7 x6 (grow (redrawn w8 d) os)))
  have G4 := Lib.hid (fun d os => Calls.regrown_of (C2.out (grow (redrawn w8 d) os)))
  go_upto_region 5 with fail
  refine wp_region_quiet_below (by kernel_rfl) (by kernel_rfl) ?_
  repeat (go_big_quiet_step (first | with_reducible exact G1.out _ _ | with_reducible exact G2.out _ _ | with_reducible exact G3.out _ _ | with_reducible exact G4.out _ _))
  refine wpQuiet_nil ?_
  intro _ hw'
  obtain ⟨⟨dq, osq⟩, hw''⟩ := hw'
  subst hw''
  have hbq := below_regrown w8 dq osq
  generalize grow (redrawn w8 dq) osq = w9 at *
  replace KA : Hid (Blk w9 _ _ _) := Lib.hid ((hbq.block _ KA.out.lt).trans KA.out)
  replace KB : Hid (Blk w9 _ _ _) := Lib.hid ((hbq.block _ KB.out.lt).trans KB.out)
  replace KX : Hid (Blk w9 _ _ _) := Lib.hid ((hbq.block _ KX.out.lt).trans KX.out)
  replace HSW := Lib.hid (HSW.out.call hbq)
  clear hbq qa0 qa1 qb0 qb1 qx0 qx1 qx2 qx3 G1 G2 G3 G4
  have qa0 := fun d os => cell_regrown (KA.out.cell (i := 0) rfl) d os
  have qa1 := fun d os => cell_regrown (KA.out.cell (i := 1) rfl) d os
  have qb0 := fun d os => cell_regrown (KB.out.cell (i := 0) rfl) d os
  have qb1 := fun d os => cell_regrown (KB.out.cell (i := 1) rfl) d os
  have qx0 := fun d os => cell_regrown (KX.out.cell (i := 0) rfl) d os
  have qx1 := fun d os => cell_regrown (KX.out.cell (i := 1) rfl) d os
  have qx2 := fun d os => cell_regrown (KX.out.cell (i := 2) rfl) d os
  have qx3 := fun d os => cell_regrown (KX.out.cell (i := 3) rfl) d os
  have G1 := Lib.hid (fun d os => Calls.regrown_of (point_any (wrap64 (10000 - x0)) x1 (grow (redrawn w9 d) os)))
  have G2 := Lib.hid (fun d os => Calls.regrown_of (point_any (wrap64 (10000 - x2)) x3 (grow (redrawn w9 d) os)))
  have G3 := Lib.hid (fun d os => Calls.regrown_of (box_any (wrap64 (10000 - x6)) x5 (wrap64 (10000 - x4)) x7 (grow (redrawn w9 d) os)))
  have G4 := Lib.hid (fun d os => Calls.regrown_of (C3.out (grow (redrawn w9 d) os)))
  go_upto_region 6 with fail
  refine wp_region_quiet_below (by kernel_rfl) (by kernel_rfl) ?_
  repeat (go_big_quiet_step (first | with_reducible exact G1.out _ _ | with_reducible exact G2.out _ _ | with_reducible exact G3.out _ _ | with_reducible exact G4.out _ _))
  refine wpQuiet_nil ?_
  intro _ hw'
  obtain ⟨⟨dq, osq⟩, hw''⟩ := hw'
  subst hw''
  have hbq := below_regrown w9 dq osq
  generalize grow (redrawn w9 dq) osq = wa at *
  replace KA : Hid (Blk wa _ _ _) := Lib.hid ((hbq.block _ KA.out.lt).trans KA.out)
  replace KB : Hid (Blk wa _ _ _) := Lib.hid ((hbq.block _ KB.out.lt).trans KB.out)
  replace KX : Hid (Blk wa _ _ _) := Lib.hid ((hbq.block _ KX.out.lt).trans KX.out)
  replace HSW := Lib.hid (HSW.out.call hbq)
  clear hbq qa0 qa1 qb0 qb1 qx0 qx1 qx2 qx3 G1 G2 G3 G4
  have qa0 := KA.out.cell (i := 0) rfl
  have qa1 := KA.out.cell (i := 1) rfl
  have qb0 := KB.out.cell (i := 0) rfl
  have qb1 := KB.out.cell (i := 1) rfl
  have qx0 := KX.out.cell (i := 0) rfl
  have qx1 := KX.out.cell (i := 1) rfl
  have qx2 := KX.out.cell (i := 2) rfl
  have qx3 := KX.out.cell (i := 3) rfl
  go_upto_region 7 with fail
  go_wp2_with fail
  refine (C4.out wa).mono ?_; rintro e wz ⟨rfl, hbz⟩
  have HSZ := Lib.hid (HSW.out.call hbz)
  clear hbz qa0 qa1 qb0 qb1 qx0 qx1 qx2 qx3 C1 C2 C3 C4 KA KB KX HSW
  cases r
  · go_wp2
    go_ret
    exact ⟨rfl, HSZ.out⟩
  · go_wp2
    go_ret
    exact ⟨rfl, HSZ.out⟩
end Go.Proofs.Ytdmancneccfgeaa.Sg
