/-
  Moves.
-/
import Derived.Test.YtdmancneccfgeaaBegin9
namespace Go.Proofs.Ytdmancneccfgeaa.Sg
open Go.RowKit Go.Sort Foyer.Hall Foyer.Sight Go.Proofs.Ytdmancneccfgeaa.Hl

/-- What lies in the array behind k rounds. -/
def half (n : Int) : Int := n % 5001
def laid (l : List Int) (k : Nat) : List Value := (l.take k).map (fun n => Value.int .i64 (half n)) ++ List.replicate (8 - k) (.int .i64 0)
theorem laid_next {l : List Int} (hl : l.length = 8) {k : Nat} (hk : k < 8) {n : Int} (hn : l[k]? = some n) : (laid l k).set k (.int .i64 (half n)) = laid l (k + 1) := by
  obtain ⟨h1, h2⟩ := List.getElem?_eq_some_iff.1 hn
  unfold laid
  rw [show 8 - k = (8 - (k + 1)) + 1 by omega, List.replicate_succ, set_next _ _ _ _ k (by rw [List.length_map, List.length_take]; omega), List.take_succ_eq_append_getElem h1, h2, List.map_append]
  rfl
set_option linter.unusedSimpArgs false in
set_option maxRecDepth 100000 in
set_option maxHeartbeats 4000000 in
theorem moves_walk (l : List Int) (dx dy : Int) (w : World) (hl : l.length = 8) (hb : ∀ x ∈ l, 0 ≤ x ∧ x < 65536) (hdx : (Lit.int .u16 dx).wf = true) (hdy : (Lit.int .u16 dy).wf = true) :
    Calls Try.prog 5 #[.agg (l.map (Value.int .u16)).toArray, .int .u16 dx, .int .u16 dy] w fun e w' => e = .returned (.bool true) ∧ Below w.heap.size w w' := by
  replace hdx := u16_bounds hdx
  replace hdy := u16_bounds hdy
  obtain ⟨u, hu⟩ : ∃ u, dx % 5001 = u := ⟨_, rfl⟩
  obtain ⟨v, hv⟩ : ∃ v, dy % 5001 = v := ⟨_, rfl⟩
  have hub : 0 ≤ u ∧ u ≤ 5000 := by omega
  have hvb : 0 ≤ v ∧ v ≤ 5000 := by omega
  obtain ⟨wb, hwb, swb, bwb, kb⟩ : ∃ wb, w.alloc (.cells (l.map (Value.int .u16)).toArray 35) = wb ∧ wb.heap.size = w.heap.size + 1 ∧ Since w wb ∧ Blk wb (w.heap.size) 35 (l.map (Value.int .u16)) := by
    obtain ⟨v1, e1⟩ : ∃ wq, w.alloc (.cells (l.map (Value.int .u16)).toArray 35) = wq := ⟨_, rfl⟩
    have s1 : v1.heap.size = w.heap.size + 1 := by rw [← e1, World.size_alloc]
    have b1 : Since w v1 := by rw [← e1]; exact (Since.refl w).alloc _
    have k1_1 : Blk v1 (w.heap.size) 35 (l.map (Value.int .u16)) := by rw [← e1]; exact Blk.new _ _ _
    rw [e1]
    exact ⟨_, rfl, s1, b1, k1_1⟩
  have HWB := Lib.hid hwb; have HB0 := Lib.hid bwb; have KB := Lib.hid kb; have HLL := Lib.hid hl; have HBD := Lib.hid hb
  have HU := Lib.hid hu; have HV := Lib.hid hv
  clear hwb swb bwb kb hb hl hu hv
  go_enter Try.func5, Try.ntmps5
  go_upto_region 1 with fail
  rw [HWB.out]
  go_wp2_with fail
  refine (head_any _).mono ?_; rintro e w1 ⟨rfl, hb1⟩
  have HB1 := Lib.hid (HB0.out.call hb1)
  have kb1 : Blk w1 _ _ _ := (hb1.block _ KB.out.lt).trans KB.out
  obtain ⟨w2, hw2, sw2, bw2, kl⟩ : ∃ w2, w1.alloc (.cells #[.int .i64 0, .int .i64 0, .int .i64 0, .int .i64 0, .int .i64 0, .int .i64 0, .int .i64 0, .int .i64 0] 40) = w2 ∧ w2.heap.size = w1.heap.size + 1 ∧ Since w1 w2 ∧ Blk w2 (w1.heap.size) 40 [.int .i64 0, .int .i64 0, .int .i64 0, .int .i64 0, .int .i64 0, .int .i64 0, .int .i64 0, .int .i64 0] := by
    obtain ⟨v1, e1⟩ : ∃ wq, w1.alloc (.cells #[.int .i64 0, .int .i64 0, .int .i64 0, .int .i64 0, .int .i64 0, .int .i64 0, .int .i64 0, .int .i64 0] 40) = wq := ⟨_, rfl⟩
    have s1 : v1.heap.size = w1.heap.size + 1 := by rw [← e1, World.size_alloc]
    have b1 : Since w1 v1 := by rw [← e1]; exact (Since.refl w1).alloc _
    have k1_1 : Blk v1 (w1.heap.size) 40 [.int .i64 0, .int .i64 0, .int .i64 0, .int .i64 0, .int .i64 0, .int .i64 0, .int .i64 0, .int .i64 0] := by rw [← e1]; exact Blk.new _ _ _
    rw [e1]
    exact ⟨_, rfl, s1, b1, k1_1⟩
  have HBL : Hid (∀ w', Below w1.heap.size w1 w' → Blk w' w.heap.size 35 (l.map (Value.int .u16))) := Lib.hid fun w' hb => (hb.block _ kb1.lt).trans kb1
  have HW2 := Lib.hid hw2; have HB2 := Lib.hid bw2
  have KL : Hid (Blk w2 w1.heap.size 40 (laid l 0)) := Lib.hid kl
  clear hb1 kb1 KB HB0 HWB hw2 sw2 bw2 kl
  go_upto_region 3 with fail
  rw [HW2.out]
  go_wp2
  go_loopw [9] (fun t wr => ∃ k : Nat, k ≤ 8 ∧ t = .int .i64 k ∧ Hid (Below w1.heap.size w1 wr) ∧ Hid (Blk wr w1.heap.size 40 (laid l k))) (fun t _ => 8 - (intOf t).toNat)
  case atStart => exact ⟨0, Nat.zero_le _, rfl, HB2, KL⟩
  case round =>
    obtain ⟨k, hk, rfl, HR, HK⟩ := hrel
    by_cases hlt : k < 8
    · obtain ⟨n, hn⟩ : ∃ n, l[k]? = some n := ⟨_, List.getElem?_eq_getElem (by have := HLL.out; omega)⟩
      obtain ⟨hn0, hn1⟩ := HBD.out n (List.mem_of_getElem? hn)
      have ck := (HBL.out _ HR.out).cell (i := k) (v := .int .u16 n) (by rw [List.getElem?_map, hn]; rfl)
      obtain ⟨old, hold⟩ : ∃ o, (laid l k)[k]? = some o := ⟨_, List.getElem?_eq_getElem (by unfold laid; rw [List.length_append, List.length_map, List.length_take, List.length_replicate]; have := HLL.out; omega)⟩
      have c0 := HK.out.cell (i := k) hold
      have f0 := HK.out.free k
      have HN := Lib.hid hn
      have hki : (0 : Int) ≤ k ∧ (k : Int) < 8 := by omega
      clear hn hold
      go_wp2
      go_roundw
      case rel => exact ⟨k + 1, by omega, by go_num, Lib.hid (HR.out.setCell (p := ⟨w1.heap.size, k, none⟩) (Nat.le_refl _) _), Lib.hid ((HK.out.set k _).cast (laid_next HLL.out hlt HN.out))⟩
      case measure => simp [intOf]; omega
    · have hk8 : k = 8 := by omega
      subst hk8
      clear hk hlt
      obtain ⟨n0, n1, n2, n3, n4, n5, n6, n7, rfl⟩ := eight HLL.out
      obtain ⟨m0, hm0⟩ : ∃ m, half n0 = m := ⟨_, rfl⟩
      have hn0 := HBD.out n0 (by simp)
      have c0 : 0 ≤ m0 ∧ m0 ≤ 5000 := by unfold half at hm0; omega
      obtain ⟨m1, hm1⟩ : ∃ m, half n1 = m := ⟨_, rfl⟩
      have hn1 := HBD.out n1 (by simp)
      have c1 : 0 ≤ m1 ∧ m1 ≤ 5000 := by unfold half at hm1; omega
      obtain ⟨m2, hm2⟩ : ∃ m, half n2 = m := ⟨_, rfl⟩
      have hn2 := HBD.out n2 (by simp)
      have c2 : 0 ≤ m2 ∧ m2 ≤ 5000 := by unfold half at hm2; omega
      obtain ⟨m3, hm3⟩ : ∃ m, half n3 = m := ⟨_, rfl⟩
      have hn3 := HBD.out n3 (by simp)
      have c3 : 0 ≤ m3 ∧ m3 ≤ 5000 := by unfold half at hm3; omega
      obtain ⟨m4, hm4⟩ : ∃ m, half n4 = m := ⟨_, rfl⟩
      have hn4 := HBD.out n4 (by simp)
      have c4 : 0 ≤ m4 ∧ m4 ≤ 5000 := by unfold half at hm4; omega
      obtain ⟨m5, hm5⟩ : ∃ m, half n5 = m := ⟨_, rfl⟩
      have hn5 := HBD.out n5 (by simp)
      have c5 : 0 ≤ m5 ∧ m5 ≤ 5000 := by unfold half at hm5; omega
      obtain ⟨m6, hm6⟩ : ∃ m, half n6 = m := ⟨_, rfl⟩
      have hn6 := HBD.out n6 (by simp)
      have c6 : 0 ≤ m6 ∧ m6 ≤ 5000 := by unfold half at hm6; omega
      obtain ⟨m7, hm7⟩ : ∃ m, half n7 = m := ⟨_, rfl⟩
      have hn7 := HBD.out n7 (by simp)
      have c7 : 0 ≤ m7 ∧ m7 ≤ 5000 := by unfold half at hm7; omega
      replace HK : Hid (Blk wr w1.heap.size 40 [.int .i64 m0, .int .i64 m1, .int .i64 m2, .int .i64 m3, .int .i64 m4, .int .i64 m5, .int .i64 m6, .int .i64 m7]) := Lib.hid (HK.out.cast (by rw [← hm0, ← hm1, ← hm2, ← hm3, ← hm4, ← hm5, ← hm6, ← hm7]; rfl))
      obtain ⟨r, hr⟩ : ∃ r, cross ⟨m0, m1⟩ ⟨m2, m3⟩ ⟨m4, m5, m6, m7⟩ = r := ⟨_, rfl⟩
      have C1 : Hid (∀ w, Calls Try.prog 11 #[.agg #[.int .i64 m0, .int .i64 m1], .agg #[.int .i64 m2, .int .i64 m3], .agg #[.int .i64 m4, .int .i64 m5, .int .i64 m6, .int .i64 m7]] w fun e w' => e = .returned (.bool r) ∧ Below w.heap.size w w') :=
        Lib.hid fun w => (crosses_any ⟨m0, m1⟩ ⟨m2, m3⟩ ⟨m4, m5, m6, m7⟩ w).mono fun e w' ⟨h, hb⟩ => ⟨by rw [h, hr], hb⟩
      have wu : ∀ m, 0 ≤ m ∧ m ≤ 5000 → wrap64 (m + u) = m + u := fun m h => wrap_in (by omega) (by omega)
      have wv : ∀ m, 0 ≤ m ∧ m ≤ 5000 → wrap64 (m + v) = m + v := fun m h => wrap_in (by omega) (by omega)
      have cc : ∀ m, 0 ≤ m ∧ m ≤ 5000 → coord m ∧ coord (m + u) ∧ coord (m + v) := fun m h => by unfold coord; omega
      have C2 : Hid (∀ w, Calls Try.prog 11 #[.agg #[.int .i64 (wrap64 (m0 + u)), .int .i64 (wrap64 (m1 + v))], .agg #[.int .i64 (wrap64 (m2 + u)), .int .i64 (wrap64 (m3 + v))], .agg #[.int .i64 (wrap64 (m4 + u)), .int .i64 (wrap64 (m5 + v)), .int .i64 (wrap64 (m6 + u)), .int .i64 (wrap64 (m7 + v))]] w fun e w' => e = .returned (.bool r) ∧ Below w.heap.size w w') :=
        Lib.hid fun w => by
          rw [wu m0 c0, wv m1 c1, wu m2 c2, wv m3 c3, wu m4 c4, wv m5 c5, wu m6 c6, wv m7 c7]
          exact (crosses_any ⟨m0 + u, m1 + v⟩ ⟨m2 + u, m3 + v⟩ ⟨m4 + u, m5 + v, m6 + u, m7 + v⟩ w).mono fun e w' ⟨h, hb⟩ => ⟨by
            rw [h, cross_moved (allCo_mk (cc _ c0).1 (cc _ c1).1 (cc _ c2).1 (cc _ c3).1 (cc _ c4).1 (cc _ c5).1 (cc _ c6).1 (cc _ c7).1) (allCo_mk (cc _ c0).2.1 (cc _ c1).2.2 (cc _ c2).2.1 (cc _ c3).2.2 (cc _ c4).2.1 (cc _ c5).2.2 (cc _ c6).2.1 (cc _ c7).2.2), hr], hb⟩
      have HSW : Hid (Since w wr) := Lib.hid (HB1.out.call HR.out)
      clear wu wv cc hr HR HB1 HBL HLL HBD KL HB2 HW2 hm0 hn0 c0 hm1 hn1 c1 hm2 hn2 c2 hm3 hn3 c3 hm4 hn4 c4 hm5 hn5 c5 hm6 hn6 c6 hm7 hn7 c7
      have hx0 : 0 ≤ dx ∧ dx < 65536 := hdx
      clear hub hvb
      have q0 := fun d os => cell_regrown (HK.out.cell (i := 0) rfl) d os
      have q1 := fun d os => cell_regrown (HK.out.cell (i := 1) rfl) d os
      have q2 := fun d os => cell_regrown (HK.out.cell (i := 2) rfl) d os
      have q3 := fun d os => cell_regrown (HK.out.cell (i := 3) rfl) d os
      have q4 := fun d os => cell_regrown (HK.out.cell (i := 4) rfl) d os
      have q5 := fun d os => cell_regrown (HK.out.cell (i := 5) rfl) d os
      have q6 := fun d os => cell_regrown (HK.out.cell (i := 6) rfl) d os
      have q7 := fun d os => cell_regrown (HK.out.cell (i := 7) rfl) d os
      have G1 := Lib.hid (fun d os => Calls.regrown_of (point_any m0 m1 (grow (redrawn wr d) os)))
      have G2 := Lib.hid (fun d os => Calls.regrown_of (point_any m2 m3 (grow (redrawn wr d) os)))
      have G3 := Lib.hid (fun d os => Calls.regrown_of (box_any m4 m5 m6 m7 (grow (redrawn wr d) os)))
      have G4 := Lib.hid (fun d os => Calls.regrown_of (C1.out (grow (redrawn wr d) os)))
      go_upto_region 8 with fail
      try rw [HU.out]
      try rw [HV.out]
      refine wp_region_quiet_below (by kernel_rfl) (by kernel_rfl) ?_
      repeat (go_big_quiet_step (first | with_reducible exact G1.out _ _ | with_reducible exact G2.out _ _ | with_reducible exact G3.out _ _ | with_reducible exact G4.out _ _))
      refine wpQuiet_nil ?_
      intro _ hw'
      obtain ⟨⟨dq, osq⟩, hw''⟩ := hw'
      subst hw''
      have hbq := below_regrown wr dq osq
      generalize grow (redrawn wr dq) osq = w9 at *
      replace HK : Hid (Blk w9 _ _ _) := Lib.hid ((hbq.block _ HK.out.lt).trans HK.out)
      replace HSW := Lib.hid (HSW.out.call hbq)
      clear hbq q0 q1 q2 q3 q4 q5 q6 q7 G1 G2 G3 G4
      have rr : ((r == r) : Bool) = true := by cases r <;> rfl
      have q0 := fun d os => cell_regrown (HK.out.cell (i := 0) rfl) d os
      have q1 := fun d os => cell_regrown (HK.out.cell (i := 1) rfl) d os
      have q2 := fun d os => cell_regrown (HK.out.cell (i := 2) rfl) d os
      have q3 := fun d os => cell_regrown (HK.out.cell (i := 3) rfl) d os
      have q4 := fun d os => cell_regrown (HK.out.cell (i := 4) rfl) d os
      have q5 := fun d os => cell_regrown (HK.out.cell (i := 5) rfl) d os
      have q6 := fun d os => cell_regrown (HK.out.cell (i := 6) rfl) d os
      have q7 := fun d os => cell_regrown (HK.out.cell (i := 7) rfl) d os
      have G1 := Lib.hid (fun d os => Calls.regrown_of (point_any (wrap64 (m0 + u)) (wrap64 (m1 + v)) (grow (redrawn w9 d) os)))
      have G2 := Lib.hid (fun d os => Calls.regrown_of (point_any (wrap64 (m2 + u)) (wrap64 (m3 + v)) (grow (redrawn w9 d) os)))
      have G3 := Lib.hid (fun d os => Calls.regrown_of (box_any (wrap64 (m4 + u)) (wrap64 (m5 + v)) (wrap64 (m6 + u)) (wrap64 (m7 + v)) (grow (redrawn w9 d) os)))
      have G4 := Lib.hid (fun d os => Calls.regrown_of (C2.out (grow (redrawn w9 d) os)))
      go_upto_region 9 with fail
      try rw [HU.out]
      try rw [HV.out]
      refine wp_region_quiet_below (by kernel_rfl) (by kernel_rfl) ?_
      repeat (go_big_quiet_step (first | with_reducible exact G1.out _ _ | with_reducible exact G2.out _ _ | with_reducible exact G3.out _ _ | with_reducible exact G4.out _ _))
      refine wpQuiet_nil ?_
      intro _ hw'
      obtain ⟨⟨dq, osq⟩, hw''⟩ := hw'
      subst hw''
      have hbq := below_regrown w9 dq osq
      generalize grow (redrawn w9 dq) osq = wa at *
      replace HK : Hid (Blk wa _ _ _) := Lib.hid ((hbq.block _ HK.out.lt).trans HK.out)
      replace HSW := Lib.hid (HSW.out.call hbq)
      clear hbq q0 q1 q2 q3 q4 q5 q6 q7 G1 G2 G3 G4
      go_wp2
      go_ret
      exact ⟨rfl, HSW.out⟩
end Go.Proofs.Ytdmancneccfgeaa.Sg
