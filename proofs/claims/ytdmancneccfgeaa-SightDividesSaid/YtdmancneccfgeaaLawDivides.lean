/-
  Division.
-/
import Derived.Test.YtdmancneccfgeaaBegin9
namespace Go.Proofs.Ytdmancneccfgeaa.Sg
open Go.RowKit Go.Sort Foyer.Hall Foyer.Sight Go.Proofs.Ytdmancneccfgeaa.Hl Foyer.Loose

open Foyer.Round in
/-- Two operations may come up. -/
theorem held_two {P : Program} {ops : Array Oper} {md : Region.Mode} {Q : Exit → Act → World → Prop} {S : World → Prop} {N : List Nat} {i j : Nat} {o o' : Oper} {f : Nat} {listed : Array Bool} {a : Act} {w : World} (hi : ops[i]? = some o) (hj : ops[j]? = some o') (hr : Region.ready md ops listed = [i, j])
    (h : ∀ K' : Act → World → Prop, RowKit.Hid (∀ a' w', (i ∉ N → S w') → held P md ops Q S N f (listed.setIfInBounds i true) a' w' → K' a' w') → if Region.wanted o (yielded ops a.tmps) = true then Oper.wp P o a w K' Q else K' (a.put o.dst undef) w)
    (h' : ∀ K' : Act → World → Prop, RowKit.Hid (∀ a' w', (j ∉ N → S w') → held P md ops Q S N f (listed.setIfInBounds j true) a' w' → K' a' w') → if Region.wanted o' (yielded ops a.tmps) = true then Oper.wp P o' a w K' Q else K' (a.put o'.dst undef) w) : held P md ops Q S N (f + 1) listed a w := by
  refine ⟨fun h0 => (by rw [hr] at h0; cases h0), fun k hk => ?_⟩
  rw [hr] at hk
  simp only [List.mem_cons, List.not_mem_nil, or_false] at hk
  rcases hk with rfl | rfl
  · exact wpOp_step hi fun K' hK => h K' (Lib.hid fun a' w' h1 h2 => hK a' w' ⟨h1, h2⟩)
  · exact wpOp_step hj fun K' hK => h' K' (Lib.hid fun a' w' h1 h2 => hK a' w' ⟨h1, h2⟩)
theorem blk_set4 {w : World} {b : Nat} {T : TypeId} {c0 c1 c2 c3 : Value} (h : Blk w b T [c0, c1, c2, c3]) (v0 v1 v2 v3 : Value) : Blk ((((w.setCell ⟨b, 0, none⟩ v0).setCell ⟨b, 1, none⟩ v1).setCell ⟨b, 2, none⟩ v2).setCell ⟨b, 3, none⟩ v3) b T [v0, v1, v2, v3] :=
  (((h.set 0 v0).set 1 v1).set 2 v2).set 3 v3
theorem blk_other4 {w : World} {p q : Nat} {T : TypeId} {cs : List Value} (h : Blk w p T cs) (hpq : q ≠ p) (v0 v1 v2 v3 : Value) : Blk ((((w.setCell ⟨q, 0, none⟩ v0).setCell ⟨q, 1, none⟩ v1).setCell ⟨q, 2, none⟩ v2).setCell ⟨q, 3, none⟩ v3) p T cs :=
  (((h.other (p := ⟨q, 0, none⟩) hpq v0).other (p := ⟨q, 1, none⟩) hpq v1).other (p := ⟨q, 2, none⟩) hpq v2).other (p := ⟨q, 3, none⟩) hpq v3
theorem setCells4_below {B q : Nat} {a w : World} (h : Below B a w) (hq : B ≤ q) {v0 v1 v2 v3 : Value} : Below B a ((((w.setCell ⟨q, 0, none⟩ v0).setCell ⟨q, 1, none⟩ v1).setCell ⟨q, 2, none⟩ v2).setCell ⟨q, 3, none⟩ v3) :=
  (((h.setCell (p := ⟨q, 0, none⟩) hq v0).setCell (p := ⟨q, 1, none⟩) hq v1).setCell (p := ⟨q, 2, none⟩) hq v2).setCell (p := ⟨q, 3, none⟩) hq v3
set_option linter.unusedSimpArgs false in
set_option maxRecDepth 100000 in
set_option maxHeartbeats 8000000 in
theorem divides_walk (l : List Int) (at_ : Int) (vt : Bool) (w : World) (hl : l.length = 8) (hb : ∀ x ∈ l, 0 ≤ x ∧ x < 65536) (hat : (Lit.int .u16 at_).wf = true) :
    Calls Try.prog 7 #[.agg (l.map (Value.int .u16)).toArray, .int .u16 at_, .bool vt] w fun e w' => e = .returned (.bool true) ∧ Below w.heap.size w w' := by
  replace hat := u16_bounds hat
  obtain ⟨n0, n1, n2, n3, n4, n5, n6, n7, rfl⟩ := eight hl
  clear hl
  obtain ⟨x0, hx0⟩ : ∃ x, n0 % 10001 = x := ⟨_, rfl⟩
  have hn0 := hb n0 (by simp)
  have HC0 := Lib.hid (coordinate_any n0 x0 hn0.1 hn0.2 hx0)
  have hc0 : coord x0 := by unfold coord; omega
  obtain ⟨x1, hx1⟩ : ∃ x, n1 % 10001 = x := ⟨_, rfl⟩
  have hn1 := hb n1 (by simp)
  have HC1 := Lib.hid (coordinate_any n1 x1 hn1.1 hn1.2 hx1)
  have hc1 : coord x1 := by unfold coord; omega
  obtain ⟨x2, hx2⟩ : ∃ x, n2 % 10001 = x := ⟨_, rfl⟩
  have hn2 := hb n2 (by simp)
  have HC2 := Lib.hid (coordinate_any n2 x2 hn2.1 hn2.2 hx2)
  have hc2 : coord x2 := by unfold coord; omega
  obtain ⟨x3, hx3⟩ : ∃ x, n3 % 10001 = x := ⟨_, rfl⟩
  have hn3 := hb n3 (by simp)
  have HC3 := Lib.hid (coordinate_any n3 x3 hn3.1 hn3.2 hx3)
  have hc3 : coord x3 := by unfold coord; omega
  obtain ⟨x4, hx4⟩ : ∃ x, n4 % 10001 = x := ⟨_, rfl⟩
  have hn4 := hb n4 (by simp)
  have HC4 := Lib.hid (coordinate_any n4 x4 hn4.1 hn4.2 hx4)
  have hc4 : coord x4 := by unfold coord; omega
  obtain ⟨x5, hx5⟩ : ∃ x, n5 % 10001 = x := ⟨_, rfl⟩
  have hn5 := hb n5 (by simp)
  have HC5 := Lib.hid (coordinate_any n5 x5 hn5.1 hn5.2 hx5)
  have hc5 : coord x5 := by unfold coord; omega
  obtain ⟨x6, hx6⟩ : ∃ x, n6 % 10001 = x := ⟨_, rfl⟩
  have hn6 := hb n6 (by simp)
  have HC6 := Lib.hid (coordinate_any n6 x6 hn6.1 hn6.2 hx6)
  have hc6 : coord x6 := by unfold coord; omega
  obtain ⟨x7, hx7⟩ : ∃ x, n7 % 10001 = x := ⟨_, rfl⟩
  have hn7 := hb n7 (by simp)
  have HC7 := Lib.hid (coordinate_any n7 x7 hn7.1 hn7.2 hx7)
  have hc7 : coord x7 := by unfold coord; omega
  obtain ⟨p0, hp0⟩ : ∃ y, min x4 x6 = y := ⟨_, rfl⟩
  have HP0 := Lib.hid hp0
  have hq0 : coord p0 := by unfold coord at *; omega
  obtain ⟨p1, hp1⟩ : ∃ y, min x5 x7 = y := ⟨_, rfl⟩
  have HP1 := Lib.hid hp1
  have hq1 : coord p1 := by unfold coord at *; omega
  obtain ⟨p2, hp2⟩ : ∃ y, max x4 x6 = y := ⟨_, rfl⟩
  have HP2 := Lib.hid hp2
  have hq2 : coord p2 := by unfold coord at *; omega
  obtain ⟨p3, hp3⟩ : ∃ y, max x5 x7 = y := ⟨_, rfl⟩
  have HP3 := Lib.hid hp3
  have hq3 : coord p3 := by unfold coord at *; omega
  have h02 : p0 ≤ p2 := by omega
  have h13 : p1 ≤ p3 := by omega
  have HPO := Lib.hid (And.intro hq0 (And.intro hq1 (And.intro hq2 (And.intro hq3 (And.intro h02 h13)))))
  have HCO := Lib.hid (And.intro hc0 (And.intro hc1 (And.intro hc2 hc3)))
  have HAT := Lib.hid hat
  clear hx0 hn0 hc0 hx1 hn1 hc1 hx2 hn2 hc2 hx3 hn3 hc3 hx4 hn4 hc4 hx5 hn5 hc5 hx6 hn6 hc6 hx7 hn7 hc7 hp0 hq0 hp1 hq1 hp2 hq2 hp3 hq3 h02 h13 hb hat
  obtain ⟨wb, hwb, swb, bwb, kb⟩ : ∃ wb, w.alloc (.cells #[.int .u16 n0, .int .u16 n1, .int .u16 n2, .int .u16 n3, .int .u16 n4, .int .u16 n5, .int .u16 n6, .int .u16 n7] 35) = wb ∧ wb.heap.size = w.heap.size + 1 ∧ Since w wb ∧ Blk wb (w.heap.size) 35 [.int .u16 n0, .int .u16 n1, .int .u16 n2, .int .u16 n3, .int .u16 n4, .int .u16 n5, .int .u16 n6, .int .u16 n7] := by
    obtain ⟨v1, e1⟩ : ∃ wq, w.alloc (.cells #[.int .u16 n0, .int .u16 n1, .int .u16 n2, .int .u16 n3, .int .u16 n4, .int .u16 n5, .int .u16 n6, .int .u16 n7] 35) = wq := ⟨_, rfl⟩
    have s1 : v1.heap.size = w.heap.size + 1 := by rw [← e1, World.size_alloc]
    have b1 : Since w v1 := by rw [← e1]; exact (Since.refl w).alloc _
    have k1_1 : Blk v1 (w.heap.size) 35 [.int .u16 n0, .int .u16 n1, .int .u16 n2, .int .u16 n3, .int .u16 n4, .int .u16 n5, .int .u16 n6, .int .u16 n7] := by rw [← e1]; exact Blk.new _ _ _
    rw [e1]
    exact ⟨_, rfl, s1, b1, k1_1⟩
  have HWB := Lib.hid hwb; have HB0 := Lib.hid bwb; have KB := Lib.hid kb
  clear hwb swb bwb kb
  show Calls Try.prog 7 #[.agg #[.int .u16 n0, .int .u16 n1, .int .u16 n2, .int .u16 n3, .int .u16 n4, .int .u16 n5, .int .u16 n6, .int .u16 n7], .int .u16 at_, .bool vt] w _
  go_enter Try.func7, Try.ntmps7
  go_upto_region 1 with fail
  rw [HWB.out]
  go_wp2_with fail
  refine (head_any _).mono ?_; rintro e w1 ⟨rfl, hb1⟩
  have HB1 := Lib.hid (HB0.out.call hb1)
  have kb1 : Blk w1 _ _ _ := (hb1.block _ KB.out.lt).trans KB.out
  have HBL : Hid (∀ w', Below w1.heap.size w1 w' → Blk w' w.heap.size 35 [.int .u16 n0, .int .u16 n1, .int .u16 n2, .int .u16 n3, .int .u16 n4, .int .u16 n5, .int .u16 n6, .int .u16 n7]) := Lib.hid fun w' hb => (hb.block _ kb1.lt).trans kb1
  clear hb1 kb1 KB HB0 HWB
  have hIN : Below w1.heap.size w1 w1 := Below.refl _ _
  go_upto_region 2 with fail
  refine region_loose [(8, 23, [.int .i64 0, .int .i64 0]), (9, 23, [.int .i64 0, .int .i64 0])] 16 [16, 17] (by kernel_rfl) rfl (by simp) (by simp [Act.put]) #[true, true, true, true, true, true, true, true, true, true, true, true, true, true, true, true, false, false] (by kernel_rfl) (by kernel_rfl) ?_
  try simp only [Act.put, List.setIfInBounds_toArray, List.set_cons_zero, List.set_cons_succ, ptr]
  refine anyL_take 0 (.pointer (some ⟨w.heap.size, 0, none⟩)) rfl (d := some 16) rfl (by kernel_rfl) (quiet_read (by kernel_rfl) (by simp) (fun w' hS => by go_simp)) ?_
  try simp only [Act.put, List.setIfInBounds_toArray, List.set_cons_zero, List.set_cons_succ, ptr]
  refine anyL_take 1 (.int .u16 n0) rfl (d := some 17) rfl (by kernel_rfl) (quiet_read (by kernel_rfl) (by simp) (fun w' hS => by have := (HBL.out w' (hIN.trans (hS.mono hIN.size))).cell (i := 0) rfl; go_simp)) ?_
  try simp only [Act.put, List.setIfInBounds_toArray, List.set_cons_zero, List.set_cons_succ, ptr]
  refine anyL_take 2 (.int .i64 x0) rfl (d := some 18) rfl (by kernel_rfl) (quiet_call 16 #[.int .u16 n0] (by kernel_rfl) (by simp) (fun w' => by go_simp) (fun w' hS => HC0.out w')) ?_
  try simp only [Act.put, List.setIfInBounds_toArray, List.set_cons_zero, List.set_cons_succ, ptr]
  refine anyL_take 3 (.pointer (some ⟨w.heap.size, 1, none⟩)) rfl (d := some 19) rfl (by kernel_rfl) (quiet_read (by kernel_rfl) (by simp) (fun w' hS => by go_simp)) ?_
  try simp only [Act.put, List.setIfInBounds_toArray, List.set_cons_zero, List.set_cons_succ, ptr]
  refine anyL_take 4 (.int .u16 n1) rfl (d := some 20) rfl (by kernel_rfl) (quiet_read (by kernel_rfl) (by simp) (fun w' hS => by have := (HBL.out w' (hIN.trans (hS.mono hIN.size))).cell (i := 1) rfl; go_simp)) ?_
  try simp only [Act.put, List.setIfInBounds_toArray, List.set_cons_zero, List.set_cons_succ, ptr]
  refine anyL_take 5 (.int .i64 x1) rfl (d := some 21) rfl (by kernel_rfl) (quiet_call 16 #[.int .u16 n1] (by kernel_rfl) (by simp) (fun w' => by go_simp) (fun w' hS => HC1.out w')) ?_
  try simp only [Act.put, List.setIfInBounds_toArray, List.set_cons_zero, List.set_cons_succ, ptr]
  refine anyL_take 6 (.agg #[.int .i64 x0, .int .i64 x1]) rfl (d := some 22) rfl (by kernel_rfl) (quiet_call 15 #[.int .i64 x0, .int .i64 x1] (by kernel_rfl) (by simp) (fun w' => by go_simp) (fun w' hS => point_any x0 x1 w')) ?_
  try simp only [Act.put, List.setIfInBounds_toArray, List.set_cons_zero, List.set_cons_succ, ptr]
  refine anyL_take 7 (.pointer (some ⟨w.heap.size, 2, none⟩)) rfl (d := some 23) rfl (by kernel_rfl) (quiet_read (by kernel_rfl) (by simp) (fun w' hS => by go_simp)) ?_
  try simp only [Act.put, List.setIfInBounds_toArray, List.set_cons_zero, List.set_cons_succ, ptr]
  refine anyL_take 8 (.int .u16 n2) rfl (d := some 24) rfl (by kernel_rfl) (quiet_read (by kernel_rfl) (by simp) (fun w' hS => by have := (HBL.out w' (hIN.trans (hS.mono hIN.size))).cell (i := 2) rfl; go_simp)) ?_
  try simp only [Act.put, List.setIfInBounds_toArray, List.set_cons_zero, List.set_cons_succ, ptr]
  refine anyL_take 9 (.int .i64 x2) rfl (d := some 25) rfl (by kernel_rfl) (quiet_call 16 #[.int .u16 n2] (by kernel_rfl) (by simp) (fun w' => by go_simp) (fun w' hS => HC2.out w')) ?_
  try simp only [Act.put, List.setIfInBounds_toArray, List.set_cons_zero, List.set_cons_succ, ptr]
  refine anyL_take 10 (.pointer (some ⟨w.heap.size, 3, none⟩)) rfl (d := some 26) rfl (by kernel_rfl) (quiet_read (by kernel_rfl) (by simp) (fun w' hS => by go_simp)) ?_
  try simp only [Act.put, List.setIfInBounds_toArray, List.set_cons_zero, List.set_cons_succ, ptr]
  refine anyL_take 11 (.int .u16 n3) rfl (d := some 27) rfl (by kernel_rfl) (quiet_read (by kernel_rfl) (by simp) (fun w' hS => by have := (HBL.out w' (hIN.trans (hS.mono hIN.size))).cell (i := 3) rfl; go_simp)) ?_
  try simp only [Act.put, List.setIfInBounds_toArray, List.set_cons_zero, List.set_cons_succ, ptr]
  refine anyL_take 12 (.int .i64 x3) rfl (d := some 28) rfl (by kernel_rfl) (quiet_call 16 #[.int .u16 n3] (by kernel_rfl) (by simp) (fun w' => by go_simp) (fun w' hS => HC3.out w')) ?_
  try simp only [Act.put, List.setIfInBounds_toArray, List.set_cons_zero, List.set_cons_succ, ptr]
  refine anyL_take 13 (.agg #[.int .i64 x2, .int .i64 x3]) rfl (d := some 29) rfl (by kernel_rfl) (quiet_call 15 #[.int .i64 x2, .int .i64 x3] (by kernel_rfl) (by simp) (fun w' => by go_simp) (fun w' hS => point_any x2 x3 w')) ?_
  try simp only [Act.put, List.setIfInBounds_toArray, List.set_cons_zero, List.set_cons_succ, ptr]
  refine anyL_make2 14 15 (8, 23, [.int .i64 0, .int .i64 0]) (9, 23, [.int .i64 0, .int .i64 0]) rfl rfl rfl rfl (by decide) (by decide) (by kernel_rfl) (by kernel_rfl) (by kernel_rfl) (fun _ => rfl) (fun _ => rfl) (by simp) (by simp) (fun a w => by go_simp; rfl) (fun a w => by go_simp; rfl) (fun ba bb _ _ => ?_)
  refine anyL_done rfl (fun w2 hI => ?_)
  obtain ⟨hba, ka⟩ := hI.lies (8, 23, [.int .i64 0, .int .i64 0]) (by simp) ba rfl
  obtain ⟨hbb, kb⟩ := hI.lies (9, 23, [.int .i64 0, .int .i64 0]) (by simp) bb rfl
  have hab : ba ≠ bb := fun e => hI.apart (8, 23, [.int .i64 0, .int .i64 0]) (by simp) (9, 23, [.int .i64 0, .int .i64 0]) (by simp) (by decide) ba rfl (by rw [e]; rfl)
  have hb2 := hI.below
  clear hI
  simp only [List.filterMap_cons, List.filterMap_nil, Act.put, List.setIfInBounds_toArray, List.set_cons_zero, List.set_cons_succ, List.getElem?_toArray, List.getElem?_cons_succ, List.getElem?_cons_zero, ptr]
  refine wpList_store_blk rfl 23 (.tmp 8) (.tmp 22) rfl ba 23 _ [.int .i64 x0, .int .i64 x1] rfl rfl ka rfl (by kernel_rfl) (by simp [Value.oneCell']) (fun w3 ka hk3 => ?_)
  replace kb : Blk w3 _ _ _ := Blk.kept kb hk3 (Ne.symm hab)
  refine wpList_store_blk rfl 23 (.tmp 9) (.tmp 29) rfl bb 23 _ [.int .i64 x2, .int .i64 x3] rfl rfl kb rfl (by kernel_rfl) (by simp [Value.oneCell']) (fun w4 kb hk4 => ?_)
  replace ka : Blk w4 _ _ _ := Blk.kept ka hk4 hab
  have hbo : Below w1.heap.size w1 w4 := ((Kp.of_below hb2).trans (hk3.mono (E' := fun k => k = ba ∨ k = bb) fun k e => Or.inl e) |>.trans (hk4.mono fun k e => Or.inr e)).below (Nat.le_refl _) (fun k e => e.elim (fun e => e ▸ hba) (fun e => e ▸ hbb))
  have HIN := Lib.hid (hIN.trans (hbo.mono hIN.size)); have KA := Lib.hid ka; have KB := Lib.hid kb
  clear hb2 hk3 hk4 hbo ka kb hab hba hbb hIN
  have hIN : Below w1.heap.size w1 w4 := HIN.out
  go_upto_region 3 with fail
  refine region_loose [(10, 25, [.int .i64 0, .int .i64 0, .int .i64 0, .int .i64 0])] 30 [30] (by kernel_rfl) rfl (by simp) (by simp [Act.put]) #[true, true, true, true, true, true, true, true, true, true, true, true, true, true, true, true, true, true, true, true, true, true, true, true, true, true, true, true, true, true, false] (by kernel_rfl) (by kernel_rfl) ?_
  try simp only [Act.put, List.setIfInBounds_toArray, List.set_cons_zero, List.set_cons_succ, ptr]
  refine anyL_take 0 (.pointer (some ⟨w.heap.size, 4, none⟩)) rfl (d := some 30) rfl (by kernel_rfl) (quiet_read (by kernel_rfl) (by simp) (fun w' hS => by go_simp)) ?_
  try simp only [Act.put, List.setIfInBounds_toArray, List.set_cons_zero, List.set_cons_succ, ptr]
  refine anyL_take 1 (.int .u16 n4) rfl (d := some 31) rfl (by kernel_rfl) (quiet_read (by kernel_rfl) (by simp) (fun w' hS => by have := (HBL.out w' (hIN.trans (hS.mono hIN.size))).cell (i := 4) rfl; go_simp)) ?_
  try simp only [Act.put, List.setIfInBounds_toArray, List.set_cons_zero, List.set_cons_succ, ptr]
  refine anyL_take 2 (.int .i64 x4) rfl (d := some 32) rfl (by kernel_rfl) (quiet_call 16 #[.int .u16 n4] (by kernel_rfl) (by simp) (fun w' => by go_simp) (fun w' hS => HC4.out w')) ?_
  try simp only [Act.put, List.setIfInBounds_toArray, List.set_cons_zero, List.set_cons_succ, ptr]
  refine anyL_take 3 (.pointer (some ⟨w.heap.size, 6, none⟩)) rfl (d := some 33) rfl (by kernel_rfl) (quiet_read (by kernel_rfl) (by simp) (fun w' hS => by go_simp)) ?_
  try simp only [Act.put, List.setIfInBounds_toArray, List.set_cons_zero, List.set_cons_succ, ptr]
  refine anyL_take 4 (.int .u16 n6) rfl (d := some 34) rfl (by kernel_rfl) (quiet_read (by kernel_rfl) (by simp) (fun w' hS => by have := (HBL.out w' (hIN.trans (hS.mono hIN.size))).cell (i := 6) rfl; go_simp)) ?_
  try simp only [Act.put, List.setIfInBounds_toArray, List.set_cons_zero, List.set_cons_succ, ptr]
  refine anyL_take 5 (.int .i64 x6) rfl (d := some 35) rfl (by kernel_rfl) (quiet_call 16 #[.int .u16 n6] (by kernel_rfl) (by simp) (fun w' => by go_simp) (fun w' hS => HC6.out w')) ?_
  try simp only [Act.put, List.setIfInBounds_toArray, List.set_cons_zero, List.set_cons_succ, ptr]
  refine anyL_take 6 (.int .i64 p0) rfl (d := some 36) rfl (by kernel_rfl) (quiet_read (by kernel_rfl) (by simp) (fun w' hS => by have := HP0.out; go_simp; split <;> omega)) ?_
  try simp only [Act.put, List.setIfInBounds_toArray, List.set_cons_zero, List.set_cons_succ, ptr]
  refine anyL_take 7 (.pointer (some ⟨w.heap.size, 5, none⟩)) rfl (d := some 37) rfl (by kernel_rfl) (quiet_read (by kernel_rfl) (by simp) (fun w' hS => by go_simp)) ?_
  try simp only [Act.put, List.setIfInBounds_toArray, List.set_cons_zero, List.set_cons_succ, ptr]
  refine anyL_take 8 (.int .u16 n5) rfl (d := some 38) rfl (by kernel_rfl) (quiet_read (by kernel_rfl) (by simp) (fun w' hS => by have := (HBL.out w' (hIN.trans (hS.mono hIN.size))).cell (i := 5) rfl; go_simp)) ?_
  try simp only [Act.put, List.setIfInBounds_toArray, List.set_cons_zero, List.set_cons_succ, ptr]
  refine anyL_take 9 (.int .i64 x5) rfl (d := some 39) rfl (by kernel_rfl) (quiet_call 16 #[.int .u16 n5] (by kernel_rfl) (by simp) (fun w' => by go_simp) (fun w' hS => HC5.out w')) ?_
  try simp only [Act.put, List.setIfInBounds_toArray, List.set_cons_zero, List.set_cons_succ, ptr]
  refine anyL_take 10 (.pointer (some ⟨w.heap.size, 7, none⟩)) rfl (d := some 40) rfl (by kernel_rfl) (quiet_read (by kernel_rfl) (by simp) (fun w' hS => by go_simp)) ?_
  try simp only [Act.put, List.setIfInBounds_toArray, List.set_cons_zero, List.set_cons_succ, ptr]
  refine anyL_take 11 (.int .u16 n7) rfl (d := some 41) rfl (by kernel_rfl) (quiet_read (by kernel_rfl) (by simp) (fun w' hS => by have := (HBL.out w' (hIN.trans (hS.mono hIN.size))).cell (i := 7) rfl; go_simp)) ?_
  try simp only [Act.put, List.setIfInBounds_toArray, List.set_cons_zero, List.set_cons_succ, ptr]
  refine anyL_take 12 (.int .i64 x7) rfl (d := some 42) rfl (by kernel_rfl) (quiet_call 16 #[.int .u16 n7] (by kernel_rfl) (by simp) (fun w' => by go_simp) (fun w' hS => HC7.out w')) ?_
  try simp only [Act.put, List.setIfInBounds_toArray, List.set_cons_zero, List.set_cons_succ, ptr]
  refine anyL_take 13 (.int .i64 p1) rfl (d := some 43) rfl (by kernel_rfl) (quiet_read (by kernel_rfl) (by simp) (fun w' hS => by have := HP1.out; go_simp; split <;> omega)) ?_
  try simp only [Act.put, List.setIfInBounds_toArray, List.set_cons_zero, List.set_cons_succ, ptr]
  refine anyL_take 14 (.pointer (some ⟨w.heap.size, 4, none⟩)) rfl (d := some 44) rfl (by kernel_rfl) (quiet_read (by kernel_rfl) (by simp) (fun w' hS => by go_simp)) ?_
  try simp only [Act.put, List.setIfInBounds_toArray, List.set_cons_zero, List.set_cons_succ, ptr]
  refine anyL_take 15 (.int .u16 n4) rfl (d := some 45) rfl (by kernel_rfl) (quiet_read (by kernel_rfl) (by simp) (fun w' hS => by have := (HBL.out w' (hIN.trans (hS.mono hIN.size))).cell (i := 4) rfl; go_simp)) ?_
  try simp only [Act.put, List.setIfInBounds_toArray, List.set_cons_zero, List.set_cons_succ, ptr]
  refine anyL_take 16 (.int .i64 x4) rfl (d := some 46) rfl (by kernel_rfl) (quiet_call 16 #[.int .u16 n4] (by kernel_rfl) (by simp) (fun w' => by go_simp) (fun w' hS => HC4.out w')) ?_
  try simp only [Act.put, List.setIfInBounds_toArray, List.set_cons_zero, List.set_cons_succ, ptr]
  refine anyL_take 17 (.pointer (some ⟨w.heap.size, 6, none⟩)) rfl (d := some 47) rfl (by kernel_rfl) (quiet_read (by kernel_rfl) (by simp) (fun w' hS => by go_simp)) ?_
  try simp only [Act.put, List.setIfInBounds_toArray, List.set_cons_zero, List.set_cons_succ, ptr]
  refine anyL_take 18 (.int .u16 n6) rfl (d := some 48) rfl (by kernel_rfl) (quiet_read (by kernel_rfl) (by simp) (fun w' hS => by have := (HBL.out w' (hIN.trans (hS.mono hIN.size))).cell (i := 6) rfl; go_simp)) ?_
  try simp only [Act.put, List.setIfInBounds_toArray, List.set_cons_zero, List.set_cons_succ, ptr]
  refine anyL_take 19 (.int .i64 x6) rfl (d := some 49) rfl (by kernel_rfl) (quiet_call 16 #[.int .u16 n6] (by kernel_rfl) (by simp) (fun w' => by go_simp) (fun w' hS => HC6.out w')) ?_
  try simp only [Act.put, List.setIfInBounds_toArray, List.set_cons_zero, List.set_cons_succ, ptr]
  refine anyL_take 20 (.int .i64 p2) rfl (d := some 50) rfl (by kernel_rfl) (quiet_read (by kernel_rfl) (by simp) (fun w' hS => by have := HP2.out; go_simp; split <;> omega)) ?_
  try simp only [Act.put, List.setIfInBounds_toArray, List.set_cons_zero, List.set_cons_succ, ptr]
  refine anyL_take 21 (.pointer (some ⟨w.heap.size, 5, none⟩)) rfl (d := some 51) rfl (by kernel_rfl) (quiet_read (by kernel_rfl) (by simp) (fun w' hS => by go_simp)) ?_
  try simp only [Act.put, List.setIfInBounds_toArray, List.set_cons_zero, List.set_cons_succ, ptr]
  refine anyL_take 22 (.int .u16 n5) rfl (d := some 52) rfl (by kernel_rfl) (quiet_read (by kernel_rfl) (by simp) (fun w' hS => by have := (HBL.out w' (hIN.trans (hS.mono hIN.size))).cell (i := 5) rfl; go_simp)) ?_
  try simp only [Act.put, List.setIfInBounds_toArray, List.set_cons_zero, List.set_cons_succ, ptr]
  refine anyL_take 23 (.int .i64 x5) rfl (d := some 53) rfl (by kernel_rfl) (quiet_call 16 #[.int .u16 n5] (by kernel_rfl) (by simp) (fun w' => by go_simp) (fun w' hS => HC5.out w')) ?_
  try simp only [Act.put, List.setIfInBounds_toArray, List.set_cons_zero, List.set_cons_succ, ptr]
  refine anyL_take 24 (.pointer (some ⟨w.heap.size, 7, none⟩)) rfl (d := some 54) rfl (by kernel_rfl) (quiet_read (by kernel_rfl) (by simp) (fun w' hS => by go_simp)) ?_
  try simp only [Act.put, List.setIfInBounds_toArray, List.set_cons_zero, List.set_cons_succ, ptr]
  refine anyL_take 25 (.int .u16 n7) rfl (d := some 55) rfl (by kernel_rfl) (quiet_read (by kernel_rfl) (by simp) (fun w' hS => by have := (HBL.out w' (hIN.trans (hS.mono hIN.size))).cell (i := 7) rfl; go_simp)) ?_
  try simp only [Act.put, List.setIfInBounds_toArray, List.set_cons_zero, List.set_cons_succ, ptr]
  refine anyL_take 26 (.int .i64 x7) rfl (d := some 56) rfl (by kernel_rfl) (quiet_call 16 #[.int .u16 n7] (by kernel_rfl) (by simp) (fun w' => by go_simp) (fun w' hS => HC7.out w')) ?_
  try simp only [Act.put, List.setIfInBounds_toArray, List.set_cons_zero, List.set_cons_succ, ptr]
  refine anyL_take 27 (.int .i64 p3) rfl (d := some 57) rfl (by kernel_rfl) (quiet_read (by kernel_rfl) (by simp) (fun w' hS => by have := HP3.out; go_simp; split <;> omega)) ?_
  try simp only [Act.put, List.setIfInBounds_toArray, List.set_cons_zero, List.set_cons_succ, ptr]
  refine anyL_take 28 (.agg #[.int .i64 p0, .int .i64 p1, .int .i64 p2, .int .i64 p3]) rfl (d := some 58) rfl (by kernel_rfl) (quiet_call 17 #[.int .i64 p0, .int .i64 p1, .int .i64 p2, .int .i64 p3] (by kernel_rfl) (by simp) (fun w' => by go_simp) (fun w' hS => box_any p0 p1 p2 p3 w')) ?_
  try simp only [Act.put, List.setIfInBounds_toArray, List.set_cons_zero, List.set_cons_succ, ptr]
  refine anyL_make 29 (10, 25, [.int .i64 0, .int .i64 0, .int .i64 0, .int .i64 0]) rfl rfl (by kernel_rfl) (by kernel_rfl) (by simp) (fun a w => by go_simp; rfl) (fun bx _ => ?_)
  refine anyL_done rfl (fun w2 hI => ?_)
  obtain ⟨hbx, kx⟩ := hI.lies (10, 25, [.int .i64 0, .int .i64 0, .int .i64 0, .int .i64 0]) (by simp) bx rfl
  have hb2 := hI.below
  clear hI
  simp only [List.filterMap_cons, List.filterMap_nil, Act.put, List.setIfInBounds_toArray, List.set_cons_zero, List.set_cons_succ, List.getElem?_toArray, List.getElem?_cons_succ, List.getElem?_cons_zero, ptr]
  refine wpList_store_blk rfl 25 (.tmp 10) (.tmp 58) rfl bx 25 _ [.int .i64 p0, .int .i64 p1, .int .i64 p2, .int .i64 p3] rfl rfl kx rfl (by kernel_rfl) (by simp [Value.oneCell']) (fun w7 kx hk3 => ?_)
  have hbo : Below w4.heap.size w4 w7 := ((Kp.of_below hb2).trans hk3).below (Nat.le_refl _) (fun k e => e ▸ hbx)
  replace KA : Hid (Blk w7 _ _ _) := Lib.hid ((hbo.block _ KA.out.lt).trans KA.out)
  replace KB : Hid (Blk w7 _ _ _) := Lib.hid ((hbo.block _ KB.out.lt).trans KB.out)
  replace HIN := Lib.hid (hIN.trans (hbo.mono hIN.size)); have KX := Lib.hid kx
  clear hb2 hk3 hbo kx hbx hIN
  clear HC0 HC1 HC2 HC3 HC4 HC5 HC6 HC7 HBL HP0 HP1 HP2 HP3
  have hxc : ∀ w', Below w7.heap.size w7 w' → Blk w' bx 25 [.int .i64 p0, .int .i64 p1, .int .i64 p2, .int .i64 p3] := fun w' hb => (hb.block _ KX.out.lt).trans KX.out
  have HXC := Lib.hid hxc
  clear hxc
  have KA0 := Lib.hid KA.out.lt; have KB0 := Lib.hid KB.out.lt
  go_upto_region 4 with fail
  simp only [Act.put]
  go_cut [11, 12] from 59 (fun v u wx => ∃ b1 b2 : Nat, v = .pointer (some ⟨b1, 0, none⟩) ∧ u = .pointer (some ⟨b2, 0, none⟩) ∧ Hid (b1 ≠ b2 ∧ w7.heap.size ≤ b1 ∧ w7.heap.size ≤ b2) ∧ Hid (Below w7.heap.size w7 wx) ∧ Hid (Blk wx b1 25 [.int .i64 p0, .int .i64 p1, .int .i64 p2, .int .i64 p3]) ∧ Hid (Blk wx b2 25 [.int .i64 p0, .int .i64 p1, .int .i64 p2, .int .i64 p3]))
  case first =>
    rename_i J KM hRJ hMK
    refine wp_region_any (by kernel_rfl) ?_
    refine Foyer.Round.any_of_held (S := fun W => Below w7.heap.size w7 W) (N := []) _ _ _ _ ?_
    have hS0 : Below w7.heap.size w7 w7.drew := (Below.refl _ _).drew
    change Foyer.Round.held _ _ _ _ _ _ _ _ _ w7.drew
    generalize w7.drew = wd at *
    refine Foyer.Round.held_take [] (i := 0) (v := .agg #[.int .i64 p0, .int .i64 p1, .int .i64 p2, .int .i64 p3]) rfl (by kernel_rfl) (fun _ _ _ h => h) (Or.inl ⟨by rfl, fun w' hS => by have i0 := (HXC.out w' hS).cell (i := 0) rfl; have i1 := (HXC.out w' hS).cell (i := 1) rfl; have i2 := (HXC.out w' hS).cell (i := 2) rfl; have i3 := (HXC.out w' hS).cell (i := 3) rfl; go_simp⟩) hS0 ?_
    try simp only [Act.put, List.setIfInBounds_toArray, List.set_cons_zero, List.set_cons_succ]
    refine Foyer.Round.held_take [] (i := 1) (v := .agg #[.int .i64 p0, .int .i64 p1, .int .i64 p2, .int .i64 p3]) rfl (by kernel_rfl) (fun _ _ _ h => h) (Or.inl ⟨by rfl, fun w' hS => by have i0 := (HXC.out w' hS).cell (i := 0) rfl; have i1 := (HXC.out w' hS).cell (i := 1) rfl; have i2 := (HXC.out w' hS).cell (i := 2) rfl; have i3 := (HXC.out w' hS).cell (i := 3) rfl; go_simp⟩) hS0 ?_
    try simp only [Act.put, List.setIfInBounds_toArray, List.set_cons_zero, List.set_cons_succ]
    obtain ⟨z, hz⟩ : ∃ z, wd.heap.size = z := ⟨_, rfl⟩
    have hzs := hS0.size
    have HTX := Lib.hid hS0
    refine held_two (i := 2) (j := 3) rfl rfl (by kernel_rfl) (fun K hK => ?_) (fun K hK => ?_)
    · go_simp
      refine hK.out _ _ (fun _ => hS0.alloc hS0.size _) ?_
      clear hK K
      try simp only [Act.put, List.setIfInBounds_toArray, List.set_cons_zero, List.set_cons_succ]
      refine Foyer.Round.held_one (i := 3) rfl (by kernel_rfl) (fun K hK => ?_)
      go_simp
      have hS2 : Below w7.heap.size w7 ((wd.alloc (.cells #[.int .i64 0, .int .i64 0, .int .i64 0, .int .i64 0] 25)).alloc (.cells #[.int .i64 0, .int .i64 0, .int .i64 0, .int .i64 0] 25)) := (hS0.alloc hS0.size _).alloc (by rw [World.size_alloc]; have := hS0.size; omega) _
      refine hK.out _ _ (fun _ => hS2) ?_
      clear hK K
      try simp only [Act.put, List.setIfInBounds_toArray, List.set_cons_zero, List.set_cons_succ]
      have u1 := (Blk.new wd 25 [.int .i64 0, .int .i64 0, .int .i64 0, .int .i64 0]).alloc (.cells #[.int .i64 0, .int .i64 0, .int .i64 0, .int .i64 0] 25)
      have u2 := Blk.new (wd.alloc (.cells #[.int .i64 0, .int .i64 0, .int .i64 0, .int .i64 0] 25)) 25 [.int .i64 0, .int .i64 0, .int .i64 0, .int .i64 0]
      rw [World.size_alloc] at u2
      obtain ⟨we, hwe⟩ : ∃ x, (wd.alloc (.cells #[.int .i64 0, .int .i64 0, .int .i64 0, .int .i64 0] 25)).alloc (.cells #[.int .i64 0, .int .i64 0, .int .i64 0, .int .i64 0] 25) = x := ⟨_, rfl⟩
      rw [hwe] at u1 u2 hS2 ⊢
      clear hwe
      rw [show wd.heap.size + 1 = z + 1 by rw [hz]] at u2
      rw [hz] at u1
      try rw [hz]
      have c0 := u1.cell (i := 0) rfl
      have cf0 := u1.free 0
      have c1 := u1.cell (i := 1) rfl
      have cf1 := u1.free 1
      have c2 := u1.cell (i := 2) rfl
      have cf2 := u1.free 2
      have c3 := u1.cell (i := 3) rfl
      have cf3 := u1.free 3
      have d0 := u2.cell (i := 0) rfl
      have df0 := u2.free 0
      have d1 := u2.cell (i := 1) rfl
      have df1 := u2.free 1
      have d2 := u2.cell (i := 2) rfl
      have df2 := u2.free 2
      have d3 := u2.cell (i := 3) rfl
      have df3 := u2.free 3
      have hze := hS2.size
      refine Foyer.Round.held_one (i := 4) rfl (by kernel_rfl) (fun K hK => ?_)
      go_simp
      have hS3 : Below w7.heap.size w7 ((((we.setCell ⟨z, 0, none⟩ (.int .i64 p0)).setCell ⟨z, 1, none⟩ (.int .i64 p1)).setCell ⟨z, 2, none⟩ (.int .i64 p2)).setCell ⟨z, 3, none⟩ (.int .i64 p3)) := setCells4_below hS2 (by omega)
      refine hK.out _ _ (fun _ => hS3) ?_
      clear hK K
      try simp only [Act.put, List.setIfInBounds_toArray, List.set_cons_zero, List.set_cons_succ]
      have v1 := blk_set4 u1 (.int .i64 p0) (.int .i64 p1) (.int .i64 p2) (.int .i64 p3)
      have v2 := blk_other4 (p := z + 1) (q := z) u2 (by omega) (.int .i64 p0) (.int .i64 p1) (.int .i64 p2) (.int .i64 p3)
      obtain ⟨wg, hwg⟩ : ∃ x, ((((we.setCell ⟨z, 0, none⟩ (.int .i64 p0)).setCell ⟨z, 1, none⟩ (.int .i64 p1)).setCell ⟨z, 2, none⟩ (.int .i64 p2)).setCell ⟨z, 3, none⟩ (.int .i64 p3)) = x := ⟨_, rfl⟩
      rw [hwg] at v1 v2 hS3 ⊢
      clear hwg c0 cf0 c1 cf1 c2 cf2 c3 cf3 d0 df0 d1 df1 d2 df2 d3 df3
      have d0 := v2.cell (i := 0) rfl
      have df0 := v2.free 0
      have d1 := v2.cell (i := 1) rfl
      have df1 := v2.free 1
      have d2 := v2.cell (i := 2) rfl
      have df2 := v2.free 2
      have d3 := v2.cell (i := 3) rfl
      have df3 := v2.free 3
      refine Foyer.Round.held_one (i := 5) rfl (by kernel_rfl) (fun K hK => ?_)
      go_simp
      have hS4 : Below w7.heap.size w7 ((((wg.setCell ⟨z + 1, 0, none⟩ (.int .i64 p0)).setCell ⟨z + 1, 1, none⟩ (.int .i64 p1)).setCell ⟨z + 1, 2, none⟩ (.int .i64 p2)).setCell ⟨z + 1, 3, none⟩ (.int .i64 p3)) := setCells4_below hS3 (by omega)
      refine hK.out _ _ (fun _ => hS4) ?_
      clear hK K
      try simp only [Act.put, List.setIfInBounds_toArray, List.set_cons_zero, List.set_cons_succ]
      have t2 := blk_set4 v2 (.int .i64 p0) (.int .i64 p1) (.int .i64 p2) (.int .i64 p3)
      have t1 := blk_other4 (p := z) (q := z + 1) v1 (by omega) (.int .i64 p0) (.int .i64 p1) (.int .i64 p2) (.int .i64 p3)
      refine Foyer.Round.held_done (by kernel_rfl) ?_ _
      refine hMK _ _ (Met.intro (hRJ _ _ ?_))
      (repeat apply Exists.intro)
      refine ⟨?rel1, rfl⟩
      exact ⟨z, z + 1, rfl, rfl, Lib.hid ⟨by omega, by omega, by omega⟩, Lib.hid hS4, Lib.hid t1, Lib.hid t2⟩
    · go_simp
      refine hK.out _ _ (fun _ => hS0.alloc hS0.size _) ?_
      clear hK K
      try simp only [Act.put, List.setIfInBounds_toArray, List.set_cons_zero, List.set_cons_succ]
      refine Foyer.Round.held_one (i := 2) rfl (by kernel_rfl) (fun K hK => ?_)
      go_simp
      have hS2 : Below w7.heap.size w7 ((wd.alloc (.cells #[.int .i64 0, .int .i64 0, .int .i64 0, .int .i64 0] 25)).alloc (.cells #[.int .i64 0, .int .i64 0, .int .i64 0, .int .i64 0] 25)) := (hS0.alloc hS0.size _).alloc (by rw [World.size_alloc]; have := hS0.size; omega) _
      refine hK.out _ _ (fun _ => hS2) ?_
      clear hK K
      try simp only [Act.put, List.setIfInBounds_toArray, List.set_cons_zero, List.set_cons_succ]
      have u1 := (Blk.new wd 25 [.int .i64 0, .int .i64 0, .int .i64 0, .int .i64 0]).alloc (.cells #[.int .i64 0, .int .i64 0, .int .i64 0, .int .i64 0] 25)
      have u2 := Blk.new (wd.alloc (.cells #[.int .i64 0, .int .i64 0, .int .i64 0, .int .i64 0] 25)) 25 [.int .i64 0, .int .i64 0, .int .i64 0, .int .i64 0]
      rw [World.size_alloc] at u2
      obtain ⟨we, hwe⟩ : ∃ x, (wd.alloc (.cells #[.int .i64 0, .int .i64 0, .int .i64 0, .int .i64 0] 25)).alloc (.cells #[.int .i64 0, .int .i64 0, .int .i64 0, .int .i64 0] 25) = x := ⟨_, rfl⟩
      rw [hwe] at u1 u2 hS2 ⊢
      clear hwe
      rw [show wd.heap.size + 1 = z + 1 by rw [hz]] at u2
      rw [hz] at u1
      try rw [hz]
      have c0 := u2.cell (i := 0) rfl
      have cf0 := u2.free 0
      have c1 := u2.cell (i := 1) rfl
      have cf1 := u2.free 1
      have c2 := u2.cell (i := 2) rfl
      have cf2 := u2.free 2
      have c3 := u2.cell (i := 3) rfl
      have cf3 := u2.free 3
      have d0 := u1.cell (i := 0) rfl
      have df0 := u1.free 0
      have d1 := u1.cell (i := 1) rfl
      have df1 := u1.free 1
      have d2 := u1.cell (i := 2) rfl
      have df2 := u1.free 2
      have d3 := u1.cell (i := 3) rfl
      have df3 := u1.free 3
      have hze := hS2.size
      refine Foyer.Round.held_one (i := 4) rfl (by kernel_rfl) (fun K hK => ?_)
      go_simp
      have hS3 : Below w7.heap.size w7 ((((we.setCell ⟨z + 1, 0, none⟩ (.int .i64 p0)).setCell ⟨z + 1, 1, none⟩ (.int .i64 p1)).setCell ⟨z + 1, 2, none⟩ (.int .i64 p2)).setCell ⟨z + 1, 3, none⟩ (.int .i64 p3)) := setCells4_below hS2 (by omega)
      refine hK.out _ _ (fun _ => hS3) ?_
      clear hK K
      try simp only [Act.put, List.setIfInBounds_toArray, List.set_cons_zero, List.set_cons_succ]
      have v1 := blk_set4 u2 (.int .i64 p0) (.int .i64 p1) (.int .i64 p2) (.int .i64 p3)
      have v2 := blk_other4 (p := z) (q := z + 1) u1 (by omega) (.int .i64 p0) (.int .i64 p1) (.int .i64 p2) (.int .i64 p3)
      obtain ⟨wg, hwg⟩ : ∃ x, ((((we.setCell ⟨z + 1, 0, none⟩ (.int .i64 p0)).setCell ⟨z + 1, 1, none⟩ (.int .i64 p1)).setCell ⟨z + 1, 2, none⟩ (.int .i64 p2)).setCell ⟨z + 1, 3, none⟩ (.int .i64 p3)) = x := ⟨_, rfl⟩
      rw [hwg] at v1 v2 hS3 ⊢
      clear hwg c0 cf0 c1 cf1 c2 cf2 c3 cf3 d0 df0 d1 df1 d2 df2 d3 df3
      have d0 := v2.cell (i := 0) rfl
      have df0 := v2.free 0
      have d1 := v2.cell (i := 1) rfl
      have df1 := v2.free 1
      have d2 := v2.cell (i := 2) rfl
      have df2 := v2.free 2
      have d3 := v2.cell (i := 3) rfl
      have df3 := v2.free 3
      refine Foyer.Round.held_one (i := 5) rfl (by kernel_rfl) (fun K hK => ?_)
      go_simp
      have hS4 : Below w7.heap.size w7 ((((wg.setCell ⟨z, 0, none⟩ (.int .i64 p0)).setCell ⟨z, 1, none⟩ (.int .i64 p1)).setCell ⟨z, 2, none⟩ (.int .i64 p2)).setCell ⟨z, 3, none⟩ (.int .i64 p3)) := setCells4_below hS3 (by omega)
      refine hK.out _ _ (fun _ => hS4) ?_
      clear hK K
      try simp only [Act.put, List.setIfInBounds_toArray, List.set_cons_zero, List.set_cons_succ]
      have t2 := blk_set4 v2 (.int .i64 p0) (.int .i64 p1) (.int .i64 p2) (.int .i64 p3)
      have t1 := blk_other4 (p := z + 1) (q := z) v1 (by omega) (.int .i64 p0) (.int .i64 p1) (.int .i64 p2) (.int .i64 p3)
      refine Foyer.Round.held_done (by kernel_rfl) ?_ _
      refine hMK _ _ (Met.intro (hRJ _ _ ?_))
      (repeat apply Exists.intro)
      refine ⟨?rel2, rfl⟩
      exact ⟨z + 1, z, rfl, rfl, Lib.hid ⟨by omega, by omega, by omega⟩, Lib.hid hS4, Lib.hid t1, Lib.hid t2⟩
  case rest =>
  obtain ⟨b1, b2, rfl, rfl, h12, HBO, K1, K2⟩ := hcut
  obtain ⟨wa, hwa⟩ : ∃ x, x = wc := ⟨_, rfl⟩
  subst hwa
  obtain ⟨h12, hb1, hb2⟩ := h12.out
  have hbo := HBO.out
  replace KA : Hid (Blk wa _ _ _) := Lib.hid ((hbo.block _ KA.out.lt).trans KA.out)
  replace KB : Hid (Blk wa _ _ _) := Lib.hid ((hbo.block _ KB.out.lt).trans KB.out)
  have klt := KX.out.lt
  replace KX : Hid (Blk wa _ _ _) := Lib.hid ((hbo.block _ klt).trans KX.out)
  have HSW : Hid (Since w wa) := Lib.hid (HB1.out.call (HIN.out.trans (hbo.mono HIN.out.size)))
  have HN : Hid (b1 ≠ b2 ∧ ba ≠ b1 ∧ ba ≠ b2 ∧ bb ≠ b1 ∧ bb ≠ b2 ∧ bx ≠ b1 ∧ bx ≠ b2 ∧ w.heap.size ≤ b1 ∧ w.heap.size ≤ b2) := Lib.hid ⟨h12, by have := KA0.out; omega, by have := KA0.out; omega, by have := KB0.out; omega, by have := KB0.out; omega, by omega, by omega, by have := (HB1.out.call HIN.out).size; omega, by have := (HB1.out.call HIN.out).size; omega⟩
  clear hbo h12 hb1 hb2 HIN HB1 HXC klt KA0 KB0 HBO
  cases vt
  · obtain ⟨hq0, hq1, hq2, hq3, h02, h13⟩ := HPO.out
    obtain ⟨kk, hkk⟩ : ∃ k, p1 + at_ % (p3 - p1 + 1) = k := ⟨_, rfl⟩
    have hat := HAT.out
    have hm0 := Int.emod_nonneg at_ (show p3 - p1 + 1 ≠ 0 by omega)
    have hm1 := Int.emod_lt_of_pos at_ (show 0 < p3 - p1 + 1 by omega)
    have hk1 : p1 ≤ kk := by omega
    have hk2 : kk ≤ p3 := by omega
    have hkc : coord kk := by unfold coord at *; omega
    have e1 : wrap64 (p3 - p1) = p3 - p1 := wrap_in (by unfold coord at *; omega) (by unfold coord at *; omega)
    have e2 : wrap64 (p3 - p1 + 1) = p3 - p1 + 1 := wrap_in (by unfold coord at *; omega) (by unfold coord at *; omega)
    have e3 : Int.tmod at_ (p3 - p1 + 1) = at_ % (p3 - p1 + 1) := Int.tmod_eq_emod_of_nonneg hat.1
    have e4 : wrap64 (p1 + at_ % (p3 - p1 + 1)) = kk := by rw [hkk]; exact wrap_in (by unfold coord at *; omega) (by unfold coord at *; omega)
    have e5 : ¬ (p3 - p1 + 1 = 0) := by omega
    have e6 : wrap64 (at_ % (p3 - p1 + 1)) = at_ % (p3 - p1 + 1) := wrap_in (by omega) (by unfold coord at *; omega)
    have e0 : wrap64 at_ = at_ := wrap_in (by omega) (by omega)
    have E0 := Lib.hid e0
    clear e0
    have E1 := Lib.hid e1; have E2 := Lib.hid e2; have E3 := Lib.hid e3; have E4 := Lib.hid e4; have E5 := Lib.hid e5; have E6 := Lib.hid e6
    obtain ⟨c0, c1, c2, c3⟩ := HCO.out
    have hdv := cross_divided_y (a := ⟨x0, x1⟩) (b := ⟨x2, x3⟩) (X := ⟨p0, p1, p2, p3⟩) (k := kk) (allCo_mk c0 c1 c2 c3 hq0 hq1 hq2 hq3) hkc hk1 hk2
    obtain ⟨r1, hr1⟩ : ∃ r, cross ⟨x0, x1⟩ ⟨x2, x3⟩ ⟨p0, p1, p2, kk⟩ = r := ⟨_, rfl⟩
    obtain ⟨r2, hr2⟩ : ∃ r, cross ⟨x0, x1⟩ ⟨x2, x3⟩ ⟨p0, kk, p2, p3⟩ = r := ⟨_, rfl⟩
    simp only at hdv
    rw [hr1, hr2] at hdv
    obtain ⟨r0, hr0⟩ : ∃ r, (r1 || r2) = r := ⟨_, rfl⟩
    have HR0 := Lib.hid hr0
    have C0 : Hid (∀ w, Calls Try.prog 11 #[.agg #[.int .i64 x0, .int .i64 x1], .agg #[.int .i64 x2, .int .i64 x3], .agg #[.int .i64 p0, .int .i64 p1, .int .i64 p2, .int .i64 p3]] w fun e w' => e = .returned (.bool r0) ∧ Below w.heap.size w w') := Lib.hid fun w => (crosses_any ⟨x0, x1⟩ ⟨x2, x3⟩ ⟨p0, p1, p2, p3⟩ w).mono fun e w' ⟨h, hb⟩ => ⟨by rw [h, hdv, hr0], hb⟩
    have C1 : Hid (∀ w, Calls Try.prog 11 #[.agg #[.int .i64 x0, .int .i64 x1], .agg #[.int .i64 x2, .int .i64 x3], .agg #[.int .i64 p0, .int .i64 p1, .int .i64 p2, .int .i64 kk]] w fun e w' => e = .returned (.bool r1) ∧ Below w.heap.size w w') := Lib.hid fun w => (crosses_any ⟨x0, x1⟩ ⟨x2, x3⟩ ⟨p0, p1, p2, kk⟩ w).mono fun e w' ⟨h, hb⟩ => ⟨by rw [h, hr1], hb⟩
    have C2 : Hid (∀ w, Calls Try.prog 11 #[.agg #[.int .i64 x0, .int .i64 x1], .agg #[.int .i64 x2, .int .i64 x3], .agg #[.int .i64 p0, .int .i64 kk, .int .i64 p2, .int .i64 p3]] w fun e w' => e = .returned (.bool r2) ∧ Below w.heap.size w w') := Lib.hid fun w => (crosses_any ⟨x0, x1⟩ ⟨x2, x3⟩ ⟨p0, kk, p2, p3⟩ w).mono fun e w' ⟨h, hb⟩ => ⟨by rw [h, hr2], hb⟩
    clear hq0 hq1 hq2 hq3 h02 h13 hkk hat hm0 hm1 hk1 hk2 hkc e1 e2 e3 e4 e5 e6 c0 c1 c2 c3 hdv hr0 hr1 hr2 HPO HAT HCO
    go_upto_region 8 with fail
    refine region_loose [] 13 [] (by kernel_rfl) rfl (by simp) (by simp [Act.put]) #[true, true, true, true, true, true, true, true, true, true, true, true, true] (by kernel_rfl) (by kernel_rfl) ?_
    try simp only [Act.put, List.setIfInBounds_toArray, List.set_cons_zero, List.set_cons_succ, ptr]
    have hxc : ∀ w', Below wa.heap.size wa w' → Blk w' bx 25 [.int .i64 p0, .int .i64 p1, .int .i64 p2, .int .i64 p3] := fun w' hb => (hb.block _ KX.out.lt).trans KX.out
    refine anyL_take 0 (.pointer (some ⟨bx, 1, none⟩)) rfl (d := some 78) rfl (by kernel_rfl) (quiet_read (by kernel_rfl) (by simp) (fun w' hS => by go_simp)) ?_
    try simp only [Act.put, List.setIfInBounds_toArray, List.set_cons_zero, List.set_cons_succ, ptr]
    refine anyL_take 1 (.int .i64 p1) rfl (d := some 79) rfl (by kernel_rfl) (quiet_read (by kernel_rfl) (by simp) (fun w' hS => by have := (hxc w' hS).cell (i := 1) rfl; go_simp)) ?_
    try simp only [Act.put, List.setIfInBounds_toArray, List.set_cons_zero, List.set_cons_succ, ptr]
    refine anyL_take 2 (.int .u16 at_) rfl (d := some 80) rfl (by kernel_rfl) (quiet_read (by kernel_rfl) (by simp) (fun w' hS => by go_simp)) ?_
    try simp only [Act.put, List.setIfInBounds_toArray, List.set_cons_zero, List.set_cons_succ, ptr]
    refine anyL_take 3 (.int .i64 at_) rfl (d := some 81) rfl (by kernel_rfl) (quiet_read (by kernel_rfl) (by simp) (fun w' hS => by go_simp; exact (IntWalk.i64_left _).trans E0.out)) ?_
    try simp only [Act.put, List.setIfInBounds_toArray, List.set_cons_zero, List.set_cons_succ, ptr]
    refine anyL_take 4 (.pointer (some ⟨bx, 3, none⟩)) rfl (d := some 82) rfl (by kernel_rfl) (quiet_read (by kernel_rfl) (by simp) (fun w' hS => by go_simp)) ?_
    try simp only [Act.put, List.setIfInBounds_toArray, List.set_cons_zero, List.set_cons_succ, ptr]
    refine anyL_take 5 (.int .i64 p3) rfl (d := some 83) rfl (by kernel_rfl) (quiet_read (by kernel_rfl) (by simp) (fun w' hS => by have := (hxc w' hS).cell (i := 3) rfl; go_simp)) ?_
    try simp only [Act.put, List.setIfInBounds_toArray, List.set_cons_zero, List.set_cons_succ, ptr]
    refine anyL_take 6 (.pointer (some ⟨bx, 1, none⟩)) rfl (d := some 84) rfl (by kernel_rfl) (quiet_read (by kernel_rfl) (by simp) (fun w' hS => by go_simp)) ?_
    try simp only [Act.put, List.setIfInBounds_toArray, List.set_cons_zero, List.set_cons_succ, ptr]
    refine anyL_take 7 (.int .i64 p1) rfl (d := some 85) rfl (by kernel_rfl) (quiet_read (by kernel_rfl) (by simp) (fun w' hS => by have := (hxc w' hS).cell (i := 1) rfl; go_simp)) ?_
    try simp only [Act.put, List.setIfInBounds_toArray, List.set_cons_zero, List.set_cons_succ, ptr]
    refine anyL_take 8 (.int .i64 (p3 - p1)) rfl (d := some 86) rfl (by kernel_rfl) (quiet_read (by kernel_rfl) (by simp) (fun w' hS => by go_simp; exact (IntWalk.i64_left _).trans E1.out)) ?_
    try simp only [Act.put, List.setIfInBounds_toArray, List.set_cons_zero, List.set_cons_succ, ptr]
    refine anyL_take 9 (.int .i64 (p3 - p1 + 1)) rfl (d := some 87) rfl (by kernel_rfl) (quiet_read (by kernel_rfl) (by simp) (fun w' hS => by go_simp; exact (IntWalk.i64_left _).trans E2.out)) ?_
    try simp only [Act.put, List.setIfInBounds_toArray, List.set_cons_zero, List.set_cons_succ, ptr]
    refine anyL_take 10 (.int .i64 (at_ % (p3 - p1 + 1))) rfl (d := some 88) rfl (by kernel_rfl) (quiet_read (by kernel_rfl) (by simp) (fun w' hS => by have e5 := E5.out; have e3 := E3.out; have e6 := E6.out; go_simp)) ?_
    try simp only [Act.put, List.setIfInBounds_toArray, List.set_cons_zero, List.set_cons_succ, ptr]
    refine anyL_take 11 (.int .i64 kk) rfl (d := some 89) rfl (by kernel_rfl) (quiet_read (by kernel_rfl) (by simp) (fun w' hS => by go_simp; exact (IntWalk.i64_left _).trans E4.out)) ?_
    try simp only [Act.put, List.setIfInBounds_toArray, List.set_cons_zero, List.set_cons_succ, ptr]
    refine anyL_take 12 (.int .i64 kk) rfl (d := some 14) rfl (by kernel_rfl) (quiet_read (by kernel_rfl) (by simp) (fun w' hS => by go_simp)) ?_
    try simp only [Act.put, List.setIfInBounds_toArray, List.set_cons_zero, List.set_cons_succ, ptr]
    refine anyL_done rfl (fun wb2 hI => ?_)
    have hbq := hI.below
    clear hI hxc
    simp only [List.filterMap_cons, List.filterMap_nil, Act.put, List.setIfInBounds_toArray, List.set_cons_zero, List.set_cons_succ, List.getElem?_toArray, List.getElem?_cons_succ, List.getElem?_cons_zero, ptr]
    replace KA : Hid (Blk wb2 _ _ _) := Lib.hid ((hbq.block _ KA.out.lt).trans KA.out)
    replace KB : Hid (Blk wb2 _ _ _) := Lib.hid ((hbq.block _ KB.out.lt).trans KB.out)
    replace KX : Hid (Blk wb2 _ _ _) := Lib.hid ((hbq.block _ KX.out.lt).trans KX.out)
    replace K1 : Hid (Blk wb2 _ _ _) := Lib.hid ((hbq.block _ K1.out.lt).trans K1.out)
    replace K2 : Hid (Blk wb2 _ _ _) := Lib.hid ((hbq.block _ K2.out.lt).trans K2.out)
    replace HSW := Lib.hid (HSW.out.call hbq)
    clear hbq E0 E1 E2 E3 E4 E5 E6
    have i1 := K1.out.cell (i := 3) rfl
    have i2 := K2.out.cell (i := 1) rfl
    have f1 := K1.out.free 3
    have f2 := K2.out.free 1
    have hne := HN.out.1
    have hne2 := Ne.symm hne
    go_upto_region 10 with fail
    obtain ⟨n12, na1, na2, nb1, nb2, nx1, nx2, l1, l2⟩ := HN.out
    have k1 : Blk ((wb2.setCell ⟨b1, 3, none⟩ (.int .i64 kk)).setCell ⟨b2, 1, none⟩ (.int .i64 kk)) b1 25 [.int .i64 p0, .int .i64 p1, .int .i64 p2, .int .i64 kk] := ((K1.out.set 3 (.int .i64 kk)).other (p := ⟨b2, 1, none⟩) (Ne.symm n12) _)
    have k2 : Blk ((wb2.setCell ⟨b1, 3, none⟩ (.int .i64 kk)).setCell ⟨b2, 1, none⟩ (.int .i64 kk)) b2 25 [.int .i64 p0, .int .i64 kk, .int .i64 p2, .int .i64 p3] := ((K2.out.other (p := ⟨b1, 3, none⟩) n12 _).set 1 (.int .i64 kk))
    have ka := ((KA.out.other (p := ⟨b1, 3, none⟩) (Ne.symm na1) (.int .i64 kk)).other (p := ⟨b2, 1, none⟩) (Ne.symm na2) (.int .i64 kk))
    have kb := ((KB.out.other (p := ⟨b1, 3, none⟩) (Ne.symm nb1) (.int .i64 kk)).other (p := ⟨b2, 1, none⟩) (Ne.symm nb2) (.int .i64 kk))
    have kx := ((KX.out.other (p := ⟨b1, 3, none⟩) (Ne.symm nx1) (.int .i64 kk)).other (p := ⟨b2, 1, none⟩) (Ne.symm nx2) (.int .i64 kk))
    have hs := (HSW.out.setCell (p := ⟨b1, 3, none⟩) l1 (.int .i64 kk)).setCell (p := ⟨b2, 1, none⟩) l2 (.int .i64 kk)
    obtain ⟨wq, hwq⟩ : ∃ x, ((wb2.setCell ⟨b1, 3, none⟩ (.int .i64 kk)).setCell ⟨b2, 1, none⟩ (.int .i64 kk)) = x := ⟨_, rfl⟩
    rw [hwq] at k1 k2 ka kb kx hs ⊢
    replace HSW : Hid (Since w wq) := Lib.hid hs
    clear hwq hs n12 na1 na2 nb1 nb2 nx1 nx2 l1 l2 i1 i2 f1 f2 hne hne2 K1 K2 KA KB KX HN
    have qa0 := fun d os => cell_regrown (ka.cell (i := 0) rfl) d os
    have qa1 := fun d os => cell_regrown (ka.cell (i := 1) rfl) d os
    have qb0 := fun d os => cell_regrown (kb.cell (i := 0) rfl) d os
    have qb1 := fun d os => cell_regrown (kb.cell (i := 1) rfl) d os
    have qx0 := fun d os => cell_regrown (kx.cell (i := 0) rfl) d os
    have qx1 := fun d os => cell_regrown (kx.cell (i := 1) rfl) d os
    have qx2 := fun d os => cell_regrown (kx.cell (i := 2) rfl) d os
    have qx3 := fun d os => cell_regrown (kx.cell (i := 3) rfl) d os
    have qy0 := fun d os => cell_regrown (k1.cell (i := 0) rfl) d os
    have qy1 := fun d os => cell_regrown (k1.cell (i := 1) rfl) d os
    have qy2 := fun d os => cell_regrown (k1.cell (i := 2) rfl) d os
    have qy3 := fun d os => cell_regrown (k1.cell (i := 3) rfl) d os
    have qz0 := fun d os => cell_regrown (k2.cell (i := 0) rfl) d os
    have qz1 := fun d os => cell_regrown (k2.cell (i := 1) rfl) d os
    have qz2 := fun d os => cell_regrown (k2.cell (i := 2) rfl) d os
    have qz3 := fun d os => cell_regrown (k2.cell (i := 3) rfl) d os
    clear ka kb kx k1 k2
    have F0 := Lib.hid (fun d os => Calls.regrown_of (C0.out (grow (redrawn wq d) os)))
    have F1 := Lib.hid (fun d os => Calls.regrown_of (C1.out (grow (redrawn wq d) os)))
    have F2 := Lib.hid (fun d os => Calls.regrown_of (C2.out (grow (redrawn wq d) os)))
    clear C0 C1 C2
    have hr0 := HR0.out
    clear HR0
    cases r1
    · cases r2
      · obtain rfl : r0 = false := hr0.symm
        refine wp_region_quiet_below (by kernel_rfl) (by kernel_rfl) ?_
        repeat (go_big_quiet_step (first | with_reducible exact F0.out _ _ | with_reducible exact F1.out _ _ | with_reducible exact F2.out _ _))
        refine wpQuiet_nil ?_
        intro _ hw'
        obtain ⟨⟨dq, osq⟩, hw''⟩ := hw'
        subst hw''
        go_wp2
        go_ret
        exact ⟨rfl, HSW.out.call (below_regrown _ dq osq)⟩
      · obtain rfl : r0 = true := hr0.symm
        refine wp_region_quiet_below (by kernel_rfl) (by kernel_rfl) ?_
        repeat (go_big_quiet_step (first | with_reducible exact F0.out _ _ | with_reducible exact F1.out _ _ | with_reducible exact F2.out _ _))
        refine wpQuiet_nil ?_
        intro _ hw'
        obtain ⟨⟨dq, osq⟩, hw''⟩ := hw'
        subst hw''
        go_wp2
        go_ret
        exact ⟨rfl, HSW.out.call (below_regrown _ dq osq)⟩
    · obtain rfl : r0 = true := hr0.symm
      refine wp_region_quiet_below (by kernel_rfl) (by kernel_rfl) ?_
      repeat (go_big_quiet_step (first | with_reducible exact F0.out _ _ | with_reducible exact F1.out _ _ | with_reducible exact F2.out _ _))
      refine wpQuiet_nil ?_
      intro _ hw'
      obtain ⟨⟨dq, osq⟩, hw''⟩ := hw'
      subst hw''
      go_wp2
      go_ret
      exact ⟨rfl, HSW.out.call (below_regrown _ dq osq)⟩
  · obtain ⟨hq0, hq1, hq2, hq3, h02, h13⟩ := HPO.out
    obtain ⟨kk, hkk⟩ : ∃ k, p0 + at_ % (p2 - p0 + 1) = k := ⟨_, rfl⟩
    have hat := HAT.out
    have hm0 := Int.emod_nonneg at_ (show p2 - p0 + 1 ≠ 0 by omega)
    have hm1 := Int.emod_lt_of_pos at_ (show 0 < p2 - p0 + 1 by omega)
    have hk1 : p0 ≤ kk := by omega
    have hk2 : kk ≤ p2 := by omega
    have hkc : coord kk := by unfold coord at *; omega
    have e1 : wrap64 (p2 - p0) = p2 - p0 := wrap_in (by unfold coord at *; omega) (by unfold coord at *; omega)
    have e2 : wrap64 (p2 - p0 + 1) = p2 - p0 + 1 := wrap_in (by unfold coord at *; omega) (by unfold coord at *; omega)
    have e3 : Int.tmod at_ (p2 - p0 + 1) = at_ % (p2 - p0 + 1) := Int.tmod_eq_emod_of_nonneg hat.1
    have e4 : wrap64 (p0 + at_ % (p2 - p0 + 1)) = kk := by rw [hkk]; exact wrap_in (by unfold coord at *; omega) (by unfold coord at *; omega)
    have e5 : ¬ (p2 - p0 + 1 = 0) := by omega
    have e6 : wrap64 (at_ % (p2 - p0 + 1)) = at_ % (p2 - p0 + 1) := wrap_in (by omega) (by unfold coord at *; omega)
    have e0 : wrap64 at_ = at_ := wrap_in (by omega) (by omega)
    have E0 := Lib.hid e0
    clear e0
    have E1 := Lib.hid e1; have E2 := Lib.hid e2; have E3 := Lib.hid e3; have E4 := Lib.hid e4; have E5 := Lib.hid e5; have E6 := Lib.hid e6
    obtain ⟨c0, c1, c2, c3⟩ := HCO.out
    have hdv := cross_divided (a := ⟨x0, x1⟩) (b := ⟨x2, x3⟩) (X := ⟨p0, p1, p2, p3⟩) (k := kk) (allCo_mk c0 c1 c2 c3 hq0 hq1 hq2 hq3) hkc hk1 hk2
    obtain ⟨r1, hr1⟩ : ∃ r, cross ⟨x0, x1⟩ ⟨x2, x3⟩ ⟨p0, p1, kk, p3⟩ = r := ⟨_, rfl⟩
    obtain ⟨r2, hr2⟩ : ∃ r, cross ⟨x0, x1⟩ ⟨x2, x3⟩ ⟨kk, p1, p2, p3⟩ = r := ⟨_, rfl⟩
    simp only at hdv
    rw [hr1, hr2] at hdv
    obtain ⟨r0, hr0⟩ : ∃ r, (r1 || r2) = r := ⟨_, rfl⟩
    have HR0 := Lib.hid hr0
    have C0 : Hid (∀ w, Calls Try.prog 11 #[.agg #[.int .i64 x0, .int .i64 x1], .agg #[.int .i64 x2, .int .i64 x3], .agg #[.int .i64 p0, .int .i64 p1, .int .i64 p2, .int .i64 p3]] w fun e w' => e = .returned (.bool r0) ∧ Below w.heap.size w w') := Lib.hid fun w => (crosses_any ⟨x0, x1⟩ ⟨x2, x3⟩ ⟨p0, p1, p2, p3⟩ w).mono fun e w' ⟨h, hb⟩ => ⟨by rw [h, hdv, hr0], hb⟩
    have C1 : Hid (∀ w, Calls Try.prog 11 #[.agg #[.int .i64 x0, .int .i64 x1], .agg #[.int .i64 x2, .int .i64 x3], .agg #[.int .i64 p0, .int .i64 p1, .int .i64 kk, .int .i64 p3]] w fun e w' => e = .returned (.bool r1) ∧ Below w.heap.size w w') := Lib.hid fun w => (crosses_any ⟨x0, x1⟩ ⟨x2, x3⟩ ⟨p0, p1, kk, p3⟩ w).mono fun e w' ⟨h, hb⟩ => ⟨by rw [h, hr1], hb⟩
    have C2 : Hid (∀ w, Calls Try.prog 11 #[.agg #[.int .i64 x0, .int .i64 x1], .agg #[.int .i64 x2, .int .i64 x3], .agg #[.int .i64 kk, .int .i64 p1, .int .i64 p2, .int .i64 p3]] w fun e w' => e = .returned (.bool r2) ∧ Below w.heap.size w w') := Lib.hid fun w => (crosses_any ⟨x0, x1⟩ ⟨x2, x3⟩ ⟨kk, p1, p2, p3⟩ w).mono fun e w' ⟨h, hb⟩ => ⟨by rw [h, hr2], hb⟩
    clear hq0 hq1 hq2 hq3 h02 h13 hkk hat hm0 hm1 hk1 hk2 hkc e1 e2 e3 e4 e5 e6 c0 c1 c2 c3 hdv hr0 hr1 hr2 HPO HAT HCO
    go_upto_region 6 with fail
    refine region_loose [] 13 [] (by kernel_rfl) rfl (by simp) (by simp [Act.put]) #[true, true, true, true, true, true, true, true, true, true, true, true, true] (by kernel_rfl) (by kernel_rfl) ?_
    try simp only [Act.put, List.setIfInBounds_toArray, List.set_cons_zero, List.set_cons_succ, ptr]
    have hxc : ∀ w', Below wa.heap.size wa w' → Blk w' bx 25 [.int .i64 p0, .int .i64 p1, .int .i64 p2, .int .i64 p3] := fun w' hb => (hb.block _ KX.out.lt).trans KX.out
    refine anyL_take 0 (.pointer (some ⟨bx, 0, none⟩)) rfl (d := some 62) rfl (by kernel_rfl) (quiet_read (by kernel_rfl) (by simp) (fun w' hS => by go_simp)) ?_
    try simp only [Act.put, List.setIfInBounds_toArray, List.set_cons_zero, List.set_cons_succ, ptr]
    refine anyL_take 1 (.int .i64 p0) rfl (d := some 63) rfl (by kernel_rfl) (quiet_read (by kernel_rfl) (by simp) (fun w' hS => by have := (hxc w' hS).cell (i := 0) rfl; go_simp)) ?_
    try simp only [Act.put, List.setIfInBounds_toArray, List.set_cons_zero, List.set_cons_succ, ptr]
    refine anyL_take 2 (.int .u16 at_) rfl (d := some 64) rfl (by kernel_rfl) (quiet_read (by kernel_rfl) (by simp) (fun w' hS => by go_simp)) ?_
    try simp only [Act.put, List.setIfInBounds_toArray, List.set_cons_zero, List.set_cons_succ, ptr]
    refine anyL_take 3 (.int .i64 at_) rfl (d := some 65) rfl (by kernel_rfl) (quiet_read (by kernel_rfl) (by simp) (fun w' hS => by go_simp; exact (IntWalk.i64_left _).trans E0.out)) ?_
    try simp only [Act.put, List.setIfInBounds_toArray, List.set_cons_zero, List.set_cons_succ, ptr]
    refine anyL_take 4 (.pointer (some ⟨bx, 2, none⟩)) rfl (d := some 66) rfl (by kernel_rfl) (quiet_read (by kernel_rfl) (by simp) (fun w' hS => by go_simp)) ?_
    try simp only [Act.put, List.setIfInBounds_toArray, List.set_cons_zero, List.set_cons_succ, ptr]
    refine anyL_take 5 (.int .i64 p2) rfl (d := some 67) rfl (by kernel_rfl) (quiet_read (by kernel_rfl) (by simp) (fun w' hS => by have := (hxc w' hS).cell (i := 2) rfl; go_simp)) ?_
    try simp only [Act.put, List.setIfInBounds_toArray, List.set_cons_zero, List.set_cons_succ, ptr]
    refine anyL_take 6 (.pointer (some ⟨bx, 0, none⟩)) rfl (d := some 68) rfl (by kernel_rfl) (quiet_read (by kernel_rfl) (by simp) (fun w' hS => by go_simp)) ?_
    try simp only [Act.put, List.setIfInBounds_toArray, List.set_cons_zero, List.set_cons_succ, ptr]
    refine anyL_take 7 (.int .i64 p0) rfl (d := some 69) rfl (by kernel_rfl) (quiet_read (by kernel_rfl) (by simp) (fun w' hS => by have := (hxc w' hS).cell (i := 0) rfl; go_simp)) ?_
    try simp only [Act.put, List.setIfInBounds_toArray, List.set_cons_zero, List.set_cons_succ, ptr]
    refine anyL_take 8 (.int .i64 (p2 - p0)) rfl (d := some 70) rfl (by kernel_rfl) (quiet_read (by kernel_rfl) (by simp) (fun w' hS => by go_simp; exact (IntWalk.i64_left _).trans E1.out)) ?_
    try simp only [Act.put, List.setIfInBounds_toArray, List.set_cons_zero, List.set_cons_succ, ptr]
    refine anyL_take 9 (.int .i64 (p2 - p0 + 1)) rfl (d := some 71) rfl (by kernel_rfl) (quiet_read (by kernel_rfl) (by simp) (fun w' hS => by go_simp; exact (IntWalk.i64_left _).trans E2.out)) ?_
    try simp only [Act.put, List.setIfInBounds_toArray, List.set_cons_zero, List.set_cons_succ, ptr]
    refine anyL_take 10 (.int .i64 (at_ % (p2 - p0 + 1))) rfl (d := some 72) rfl (by kernel_rfl) (quiet_read (by kernel_rfl) (by simp) (fun w' hS => by have e5 := E5.out; have e3 := E3.out; have e6 := E6.out; go_simp)) ?_
    try simp only [Act.put, List.setIfInBounds_toArray, List.set_cons_zero, List.set_cons_succ, ptr]
    refine anyL_take 11 (.int .i64 kk) rfl (d := some 73) rfl (by kernel_rfl) (quiet_read (by kernel_rfl) (by simp) (fun w' hS => by go_simp; exact (IntWalk.i64_left _).trans E4.out)) ?_
    try simp only [Act.put, List.setIfInBounds_toArray, List.set_cons_zero, List.set_cons_succ, ptr]
    refine anyL_take 12 (.int .i64 kk) rfl (d := some 13) rfl (by kernel_rfl) (quiet_read (by kernel_rfl) (by simp) (fun w' hS => by go_simp)) ?_
    try simp only [Act.put, List.setIfInBounds_toArray, List.set_cons_zero, List.set_cons_succ, ptr]
    refine anyL_done rfl (fun wb2 hI => ?_)
    have hbq := hI.below
    clear hI hxc
    simp only [List.filterMap_cons, List.filterMap_nil, Act.put, List.setIfInBounds_toArray, List.set_cons_zero, List.set_cons_succ, List.getElem?_toArray, List.getElem?_cons_succ, List.getElem?_cons_zero, ptr]
    replace KA : Hid (Blk wb2 _ _ _) := Lib.hid ((hbq.block _ KA.out.lt).trans KA.out)
    replace KB : Hid (Blk wb2 _ _ _) := Lib.hid ((hbq.block _ KB.out.lt).trans KB.out)
    replace KX : Hid (Blk wb2 _ _ _) := Lib.hid ((hbq.block _ KX.out.lt).trans KX.out)
    replace K1 : Hid (Blk wb2 _ _ _) := Lib.hid ((hbq.block _ K1.out.lt).trans K1.out)
    replace K2 : Hid (Blk wb2 _ _ _) := Lib.hid ((hbq.block _ K2.out.lt).trans K2.out)
    replace HSW := Lib.hid (HSW.out.call hbq)
    clear hbq E0 E1 E2 E3 E4 E5 E6
    have i1 := K1.out.cell (i := 2) rfl
    have i2 := K2.out.cell (i := 0) rfl
    have f1 := K1.out.free 2
    have f2 := K2.out.free 0
    have hne := HN.out.1
    have hne2 := Ne.symm hne
    go_upto_region 10 with fail
    obtain ⟨n12, na1, na2, nb1, nb2, nx1, nx2, l1, l2⟩ := HN.out
    have k1 : Blk ((wb2.setCell ⟨b1, 2, none⟩ (.int .i64 kk)).setCell ⟨b2, 0, none⟩ (.int .i64 kk)) b1 25 [.int .i64 p0, .int .i64 p1, .int .i64 kk, .int .i64 p3] := ((K1.out.set 2 (.int .i64 kk)).other (p := ⟨b2, 0, none⟩) (Ne.symm n12) _)
    have k2 : Blk ((wb2.setCell ⟨b1, 2, none⟩ (.int .i64 kk)).setCell ⟨b2, 0, none⟩ (.int .i64 kk)) b2 25 [.int .i64 kk, .int .i64 p1, .int .i64 p2, .int .i64 p3] := ((K2.out.other (p := ⟨b1, 2, none⟩) n12 _).set 0 (.int .i64 kk))
    have ka := ((KA.out.other (p := ⟨b1, 2, none⟩) (Ne.symm na1) (.int .i64 kk)).other (p := ⟨b2, 0, none⟩) (Ne.symm na2) (.int .i64 kk))
    have kb := ((KB.out.other (p := ⟨b1, 2, none⟩) (Ne.symm nb1) (.int .i64 kk)).other (p := ⟨b2, 0, none⟩) (Ne.symm nb2) (.int .i64 kk))
    have kx := ((KX.out.other (p := ⟨b1, 2, none⟩) (Ne.symm nx1) (.int .i64 kk)).other (p := ⟨b2, 0, none⟩) (Ne.symm nx2) (.int .i64 kk))
    have hs := (HSW.out.setCell (p := ⟨b1, 2, none⟩) l1 (.int .i64 kk)).setCell (p := ⟨b2, 0, none⟩) l2 (.int .i64 kk)
    obtain ⟨wq, hwq⟩ : ∃ x, ((wb2.setCell ⟨b1, 2, none⟩ (.int .i64 kk)).setCell ⟨b2, 0, none⟩ (.int .i64 kk)) = x := ⟨_, rfl⟩
    rw [hwq] at k1 k2 ka kb kx hs ⊢
    replace HSW : Hid (Since w wq) := Lib.hid hs
    clear hwq hs n12 na1 na2 nb1 nb2 nx1 nx2 l1 l2 i1 i2 f1 f2 hne hne2 K1 K2 KA KB KX HN
    have qa0 := fun d os => cell_regrown (ka.cell (i := 0) rfl) d os
    have qa1 := fun d os => cell_regrown (ka.cell (i := 1) rfl) d os
    have qb0 := fun d os => cell_regrown (kb.cell (i := 0) rfl) d os
    have qb1 := fun d os => cell_regrown (kb.cell (i := 1) rfl) d os
    have qx0 := fun d os => cell_regrown (kx.cell (i := 0) rfl) d os
    have qx1 := fun d os => cell_regrown (kx.cell (i := 1) rfl) d os
    have qx2 := fun d os => cell_regrown (kx.cell (i := 2) rfl) d os
    have qx3 := fun d os => cell_regrown (kx.cell (i := 3) rfl) d os
    have qy0 := fun d os => cell_regrown (k1.cell (i := 0) rfl) d os
    have qy1 := fun d os => cell_regrown (k1.cell (i := 1) rfl) d os
    have qy2 := fun d os => cell_regrown (k1.cell (i := 2) rfl) d os
    have qy3 := fun d os => cell_regrown (k1.cell (i := 3) rfl) d os
    have qz0 := fun d os => cell_regrown (k2.cell (i := 0) rfl) d os
    have qz1 := fun d os => cell_regrown (k2.cell (i := 1) rfl) d os
    have qz2 := fun d os => cell_regrown (k2.cell (i := 2) rfl) d os
    have qz3 := fun d os => cell_regrown (k2.cell (i := 3) rfl) d os
    clear ka kb kx k1 k2
    have F0 := Lib.hid (fun d os => Calls.regrown_of (C0.out (grow (redrawn wq d) os)))
    have F1 := Lib.hid (fun d os => Calls.regrown_of (C1.out (grow (redrawn wq d) os)))
    have F2 := Lib.hid (fun d os => Calls.regrown_of (C2.out (grow (redrawn wq d) os)))
    clear C0 C1 C2
    have hr0 := HR0.out
    clear HR0
    cases r1
    · cases r2
      · obtain rfl : r0 = false := hr0.symm
        refine wp_region_quiet_below (by kernel_rfl) (by kernel_rfl) ?_
        repeat (go_big_quiet_step (first | with_reducible exact F0.out _ _ | with_reducible exact F1.out _ _ | with_reducible exact F2.out _ _))
        refine wpQuiet_nil ?_
        intro _ hw'
        obtain ⟨⟨dq, osq⟩, hw''⟩ := hw'
        subst hw''
        go_wp2
        go_ret
        exact ⟨rfl, HSW.out.call (below_regrown _ dq osq)⟩
      · obtain rfl : r0 = true := hr0.symm
        refine wp_region_quiet_below (by kernel_rfl) (by kernel_rfl) ?_
        repeat (go_big_quiet_step (first | with_reducible exact F0.out _ _ | with_reducible exact F1.out _ _ | with_reducible exact F2.out _ _))
        refine wpQuiet_nil ?_
        intro _ hw'
        obtain ⟨⟨dq, osq⟩, hw''⟩ := hw'
        subst hw''
        go_wp2
        go_ret
        exact ⟨rfl, HSW.out.call (below_regrown _ dq osq)⟩
    · obtain rfl : r0 = true := hr0.symm
      refine wp_region_quiet_below (by kernel_rfl) (by kernel_rfl) ?_
      repeat (go_big_quiet_step (first | with_reducible exact F0.out _ _ | with_reducible exact F1.out _ _ | with_reducible exact F2.out _ _))
      refine wpQuiet_nil ?_
      intro _ hw'
      obtain ⟨⟨dq, osq⟩, hw''⟩ := hw'
      subst hw''
      go_wp2
      go_ret
      exact ⟨rfl, HSW.out.call (below_regrown _ dq osq)⟩
end Go.Proofs.Ytdmancneccfgeaa.Sg
