/-
  The document's own View.
-/
import Derived.Test.YtdmancneccfgeaaRefCrosses
import Derived.Test.YtdmancneccfgeaaLoose
namespace Go.Proofs.Ytdmancneccfgeaa.Sg
open Go.RowKit Go.Sort Foyer.Hall Foyer.Sight Go.Proofs.Ytdmancneccfgeaa.Hl Foyer.Loose

def one (c : Bool) : Nat := if c then 1 else 0
def cnt (p s : Pt) (l : List Bx) : Nat := (l.map fun x => one (cross p s x)).sum
theorem bump_one (c : Bool) (v : Nat) : bump c ((min v 3 : Nat) : Int) = ((min (v + one c) 3 : Nat) : Int) := by
  unfold bump one
  cases c
  · simp
  · by_cases h : v < 3
    · have : decide (((min v 3 : Nat) : Int) < 3) = true := decide_eq_true (by omega)
      rw [this]
      simp only [Bool.and_self, if_true]
      omega
    · have : decide (((min v 3 : Nat) : Int) < 3) = false := decide_eq_false (by omega)
      rw [this]
      simp only [Bool.and_false, Bool.false_eq_true, if_false, if_true]
      omega
theorem views_cnt (p s : Pt) : ∀ (l : List Bx) (v : Nat), views p s l ((min v 3 : Nat) : Int) = ((min (v + cnt p s l) 3 : Nat) : Int)
  | [], v => by simp [views, cnt]
  | x :: r, v => by
    show views p s r (bump (cross p s x) _) = _
    rw [bump_one, views_cnt p s r]
    unfold cnt
    rw [List.map_cons, List.sum_cons]
    congr 2
    omega
theorem cnt_step (p s : Pt) {l : List Bx} {k : Nat} {x : Bx} (hx : l[k]? = some x) : cnt p s (l.take (k + 1)) = cnt p s (l.take k) + one (cross p s x) := by
  obtain ⟨h1, h2⟩ := List.getElem?_eq_some_iff.1 hx
  rw [List.take_succ_eq_append_getElem h1, h2]
  unfold cnt
  rw [List.map_append, List.sum_append]
  simp
theorem cnt_le (p s : Pt) : ∀ l : List Bx, cnt p s l ≤ l.length
  | [] => Nat.le_refl _
  | x :: r => by
    have := cnt_le p s r
    unfold cnt at *
    rw [List.map_cons, List.sum_cons, List.length_cons]
    have : one (cross p s x) ≤ 1 := by unfold one; split <;> omega
    omega
theorem far_num (p s : Pt) (h : Int) : far p s h = ((min (one (decide (1000000 < dist p s h)) + one (decide (9000000 < dist p s h))) 3 : Nat) : Int) := by
  unfold far
  have h0 : (0 : Int) = ((min 0 3 : Nat) : Int) := rfl
  rw [h0, bump_one, bump_one, Nat.zero_add]
theorem viewL_ref {s : Pt} {l : LevelZ} {p : Pt} (h : CoV s l.height p) : viewL s l p = ((min (one (decide (1000000 < dist p s l.height)) + one (decide (9000000 < dist p s l.height)) + cnt p s l.pillars) 3 : Nat) : Int) := by
  unfold viewL
  rw [if_pos h, far_num, views_cnt]

set_option linter.unusedSimpArgs false in
set_option maxRecDepth 100000 in
set_option maxHeartbeats 4000000 in
theorem rView_any (h : HallZ) (hs : Small h) (q : Option Addr) (n cap : Nat) (k : Int) (p : Pt) (w : World) (hl : Lk levelL w w.heap.size (.slice q n cap) h.levels) :
    Calls Try.prog 14 #[.agg #[.string ⟨h.name.toArray⟩, .int .i64 h.stage.x, .int .i64 h.stage.y, .slice q n cap], .int .i64 k, .agg #[.int .i64 p.x, .int .i64 p.y]] w fun e w' =>
      e = .returned (.int .i64 (view h k p)) ∧ Below w.heap.size w w' := by
  obtain ⟨w2, hw2, sw2, bw2, kh, kp⟩ : ∃ w2, (w.alloc (.cells #[.string ⟨h.name.toArray⟩, .int .i64 h.stage.x, .int .i64 h.stage.y, .slice q n cap] 28)).alloc (.cells #[.int .i64 p.x, .int .i64 p.y] 23) = w2 ∧ w2.heap.size = w.heap.size + 1 + 1 ∧ Since w w2 ∧ Blk w2 (w.heap.size) 28 [.string ⟨h.name.toArray⟩, .int .i64 h.stage.x, .int .i64 h.stage.y, .slice q n cap] ∧ Blk w2 (w.heap.size + 1) 23 [.int .i64 p.x, .int .i64 p.y] := by
    obtain ⟨v1, e1⟩ : ∃ wq, w.alloc (.cells #[.string ⟨h.name.toArray⟩, .int .i64 h.stage.x, .int .i64 h.stage.y, .slice q n cap] 28) = wq := ⟨_, rfl⟩
    have s1 : v1.heap.size = w.heap.size + 1 := by rw [← e1, World.size_alloc]
    have b1 : Since w v1 := by rw [← e1]; exact (Since.refl w).alloc _
    have k1_1 : Blk v1 (w.heap.size) 28 [.string ⟨h.name.toArray⟩, .int .i64 h.stage.x, .int .i64 h.stage.y, .slice q n cap] := by rw [← e1]; exact Blk.new _ _ _
    obtain ⟨v2, e2⟩ : ∃ wq, v1.alloc (.cells #[.int .i64 p.x, .int .i64 p.y] 23) = wq := ⟨_, rfl⟩
    have s2 : v2.heap.size = w.heap.size + 1 + 1 := by rw [← e2, World.size_alloc, s1]
    have b2 : Since w v2 := by rw [← e2]; exact b1.alloc _
    have k2_2 : Blk v2 (w.heap.size + 1) 23 [.int .i64 p.x, .int .i64 p.y] := by rw [← e2, ← s1]; exact Blk.new _ _ _
    have k1_2 : Blk v2 (w.heap.size) 28 [.string ⟨h.name.toArray⟩, .int .i64 h.stage.x, .int .i64 h.stage.y, .slice q n cap] := by rw [← e2]; exact k1_1.alloc _
    rw [e1, e2]
    exact ⟨_, rfl, s2, b2, k1_2, k2_2⟩
  have hn := hl.len
  have HL := Lib.hid (hl.below (show Below w.heap.size w w2 from bw2))
  have HS2 := Lib.hid sw2; have HB2 := Lib.hid bw2; have HW2 := Lib.hid hw2; have KH := Lib.hid kh; have KP := Lib.hid kp; have HSM := Lib.hid hs
  have hnb : n ≤ 9223372036854775807 := by have := hn.2; unfold maxLen at this; omega
  clear hl hw2 sw2 bw2 kh kp hs
  have HIN : Hid (∀ w', Below w2.heap.size w2 w' → Blk w' w.heap.size 28 [.string ⟨h.name.toArray⟩, .int .i64 h.stage.x, .int .i64 h.stage.y, .slice q n cap] ∧ Blk w' (w.heap.size + 1) 23 [.int .i64 p.x, .int .i64 p.y]) := Lib.hid fun w' hb => ⟨(hb.block _ KH.out.lt).trans KH.out, (hb.block _ KP.out.lt).trans KP.out⟩
  by_cases hk0 : k < 0
  · have e1 : decide (k < 0) = true := decide_eq_true hk0
    have HV : Hid (view h k p = 3) := Lib.hid (by unfold view; rw [if_neg (by omega)])
    go_enter Try.func14, Try.ntmps14
    go_upto_region 1 with fail
    rw [HW2.out]
    refine wp_region_quiet_below (by kernel_rfl) (by kernel_rfl) ?_
    repeat (go_big_quiet_step (fail))
    refine wpQuiet_nil ?_
    intro _ hw'
    obtain ⟨⟨dq, osq⟩, hw''⟩ := hw'
    subst hw''
    go_wp2
    go_ret
    exact ⟨by rw [HV.out]; rfl, HB2.out.call (below_regrown _ dq osq)⟩
  obtain ⟨i, rfl⟩ : ∃ i : Nat, k = i := ⟨k.toNat, by omega⟩
  have e1 : decide ((i : Int) < 0) = false := decide_eq_false hk0
  by_cases hin : n ≤ i
  · have e2 : decide ((n : Int) ≤ (i : Int)) = true := decide_eq_true (by omega)
    have HV : Hid (view h i p = 3) := Lib.hid (by unfold view; rw [if_pos (by omega), Int.toNat_natCast, List.getElem?_eq_none (by omega)])
    have c3 := fun d os => cell_regrown (KH.out.cell (i := 3) rfl) d os
    go_enter Try.func14, Try.ntmps14
    go_upto_region 1 with fail
    rw [HW2.out]
    refine wp_region_quiet_below (by kernel_rfl) (by kernel_rfl) ?_
    repeat (go_big_quiet_step (fail))
    refine wpQuiet_nil ?_
    intro _ hw'
    obtain ⟨⟨dq, osq⟩, hw''⟩ := hw'
    subst hw''
    go_wp2
    go_ret
    exact ⟨by rw [HV.out]; rfl, HB2.out.call (below_regrown _ dq osq)⟩
  have e2 : decide ((n : Int) ≤ (i : Int)) = false := decide_eq_false (by omega)
  obtain ⟨x, hx⟩ : ∃ x, h.levels[i]? = some x := ⟨_, List.getElem?_eq_getElem (by omega)⟩
  have HV : Hid (view h i p = viewL h.stage x p) := Lib.hid (by unfold view; rw [if_pos (by omega), Int.toNat_natCast, hx])
  have hxm : x ∈ h.levels := List.mem_of_getElem? hx
  obtain ⟨lb, lo, c, rfl, hlb, hc, hcell⟩ := HL.out.at hx
  obtain ⟨v1, v2, v3, v4, v5, rfl, hm0⟩ := hc
  obtain ⟨p1, m1, rfl⟩ := hm0.blocks.slice
  obtain ⟨n1, hn1⟩ : ∃ n, x.blocks.length = n := ⟨_, rfl⟩
  obtain ⟨p2, m2, rfl⟩ := hm0.areas.slice
  obtain ⟨n2, hn2⟩ : ∃ n, x.areas.length = n := ⟨_, rfl⟩
  obtain ⟨p3, m3, rfl⟩ := hm0.aisles.slice
  obtain ⟨n3, hn3⟩ : ∃ n, x.aisles.length = n := ⟨_, rfl⟩
  obtain ⟨p4, m4, rfl⟩ := hm0.pillars.slice
  obtain ⟨n4, hn4⟩ : ∃ n, x.pillars.length = n := ⟨_, rfl⟩
  obtain ⟨p5, m5, rfl⟩ := hm0.doors.slice
  obtain ⟨n5, hn5⟩ : ∃ n, x.doors.length = n := ⟨_, rfl⟩
  rw [hn1, hn2, hn3, hn4, hn5] at hm0 hcell
  have HPL := Lib.hid hm0.pillars
  have hn100 : n4 ≤ 100 := by rw [← hn4]; exact HSM.out.pillars x hxm
  have HCL : Hid (∀ w', Below w2.heap.size w2 w' → ∀ (j : Nat) u, (levelZC x (.slice p1 n1 m1) (.slice p2 n2 m2) (.slice p3 n3 m3) (.slice p4 n4 m4) (.slice p5 n5 m5))[j]? = some u → w'.cell? ⟨lb, lo + i * 8 + j, none⟩ = some u) := Lib.hid fun w' hb j u hj => (hb.cell (p := ⟨lb, lo + i * 8 + j, none⟩) (by have := HB2.out.size; show lb < w2.heap.size; omega)).trans (hcell j u hj)
  have hki : (0 : Int) ≤ i ∧ (i : Int) < n := by omega
  have HN4 := Lib.hid hn4
  clear hcell hlb hn1 hn2 hn3 hn4 hn5 hm0 hx hn hxm
  go_enter Try.func14, Try.ntmps14
  go_upto_region 1 with fail
  rw [HW2.out]
  refine region_loose [] 26 [26, 27, 28, 29] (by kernel_rfl) rfl (by simp) (by simp [Act.put]) #[true, true, true, true, true, true, true, true, true, true, true, true, true, true, true, true, true, true, true, true, true, true, true, true, true, true, false, false, false, false] (by kernel_rfl) (by kernel_rfl) ?_
  try simp only [Act.put, List.setIfInBounds_toArray, List.set_cons_zero, List.set_cons_succ, ptr]
  refine anyL_take 0 (.int .i64 i) rfl (d := some 13) rfl (by kernel_rfl) (quiet_read (by kernel_rfl) (by simp) (fun w' hS => by go_simp)) ?_
  try simp only [Act.put, List.setIfInBounds_toArray, List.set_cons_zero, List.set_cons_succ, ptr]
  refine anyL_take 1 (.bool false) rfl (d := some 14) rfl (by kernel_rfl) (quiet_read (by kernel_rfl) (by simp) (fun w' hS => by go_simp)) ?_
  try simp only [Act.put, List.setIfInBounds_toArray, List.set_cons_zero, List.set_cons_succ, ptr]
  refine anyL_take 2 (.bool false) rfl (d := some 15) rfl (by kernel_rfl) (quiet_read (by kernel_rfl) (by simp) (fun w' hS => by go_simp)) ?_
  try simp only [Act.put, List.setIfInBounds_toArray, List.set_cons_zero, List.set_cons_succ, ptr]
  refine anyL_take 3 (.int .i64 i) rfl (d := some 16) rfl (by kernel_rfl) (quiet_read (by kernel_rfl) (by simp) (fun w' hS => by go_simp)) ?_
  try simp only [Act.put, List.setIfInBounds_toArray, List.set_cons_zero, List.set_cons_succ, ptr]
  refine anyL_take 4 (.pointer (some ⟨w.heap.size, 3, none⟩)) rfl (d := some 17) rfl (by kernel_rfl) (quiet_read (by kernel_rfl) (by simp) (fun w' hS => by go_simp)) ?_
  try simp only [Act.put, List.setIfInBounds_toArray, List.set_cons_zero, List.set_cons_succ, ptr]
  refine anyL_take 5 (.slice (some ⟨lb, lo, none⟩) n cap) rfl (d := some 18) rfl (by kernel_rfl) (quiet_read (by kernel_rfl) (by simp) (fun w' hS => by have := (HIN.out w' hS).1.cell (i := 3) rfl; go_simp)) ?_
  try simp only [Act.put, List.setIfInBounds_toArray, List.set_cons_zero, List.set_cons_succ, ptr]
  refine anyL_take 6 (.int .i64 n) rfl (d := some 19) rfl (by kernel_rfl) (quiet_read (by kernel_rfl) (by simp) (fun w' hS => by go_simp)) ?_
  try simp only [Act.put, List.setIfInBounds_toArray, List.set_cons_zero, List.set_cons_succ, ptr]
  refine anyL_take 7 (.bool false) rfl (d := some 20) rfl (by kernel_rfl) (quiet_read (by kernel_rfl) (by simp) (fun w' hS => by go_simp)) ?_
  try simp only [Act.put, List.setIfInBounds_toArray, List.set_cons_zero, List.set_cons_succ, ptr]
  refine anyL_take 8 (.bool false) rfl (d := some 21) rfl (by kernel_rfl) (quiet_read (by kernel_rfl) (by simp) (fun w' hS => by go_simp)) ?_
  try simp only [Act.put, List.setIfInBounds_toArray, List.set_cons_zero, List.set_cons_succ, ptr]
  refine anyL_take 9 (.bool false) rfl (d := some 22) rfl (by kernel_rfl) (quiet_read (by kernel_rfl) (by simp) (fun w' hS => by go_simp)) ?_
  try simp only [Act.put, List.setIfInBounds_toArray, List.set_cons_zero, List.set_cons_succ, ptr]
  refine anyL_take 10 (.pointer (some ⟨w.heap.size + 1, 0, none⟩)) rfl (d := some 23) rfl (by kernel_rfl) (quiet_read (by kernel_rfl) (by simp) (fun w' hS => by go_simp)) ?_
  try simp only [Act.put, List.setIfInBounds_toArray, List.set_cons_zero, List.set_cons_succ, ptr]
  refine anyL_take 11 (.int .i64 p.x) rfl (d := some 24) rfl (by kernel_rfl) (quiet_read (by kernel_rfl) (by simp) (fun w' hS => by have := (HIN.out w' hS).2.cell (i := 0) rfl; go_simp)) ?_
  try simp only [Act.put, List.setIfInBounds_toArray, List.set_cons_zero, List.set_cons_succ, ptr]
  refine anyL_take 12 (.pointer (some ⟨w.heap.size + 1, 1, none⟩)) rfl (d := some 25) rfl (by kernel_rfl) (quiet_read (by kernel_rfl) (by simp) (fun w' hS => by go_simp)) ?_
  try simp only [Act.put, List.setIfInBounds_toArray, List.set_cons_zero, List.set_cons_succ, ptr]
  refine anyL_take 13 (.int .i64 p.y) rfl (d := some 26) rfl (by kernel_rfl) (quiet_read (by kernel_rfl) (by simp) (fun w' hS => by have := (HIN.out w' hS).2.cell (i := 1) rfl; go_simp)) ?_
  try simp only [Act.put, List.setIfInBounds_toArray, List.set_cons_zero, List.set_cons_succ, ptr]
  refine anyL_take 14 (.pointer (some ⟨w.heap.size, 1, none⟩)) rfl (d := some 27) rfl (by kernel_rfl) (quiet_read (by kernel_rfl) (by simp) (fun w' hS => by go_simp)) ?_
  try simp only [Act.put, List.setIfInBounds_toArray, List.set_cons_zero, List.set_cons_succ, ptr]
  refine anyL_take 15 (.pointer (some ⟨w.heap.size, 1, none⟩)) rfl (d := some 28) rfl (by kernel_rfl) (quiet_read (by kernel_rfl) (by simp) (fun w' hS => by go_simp)) ?_
  try simp only [Act.put, List.setIfInBounds_toArray, List.set_cons_zero, List.set_cons_succ, ptr]
  refine anyL_take 16 (.int .i64 h.stage.x) rfl (d := some 29) rfl (by kernel_rfl) (quiet_read (by kernel_rfl) (by simp) (fun w' hS => by have := (HIN.out w' hS).1.cell (i := 1) rfl; go_simp)) ?_
  try simp only [Act.put, List.setIfInBounds_toArray, List.set_cons_zero, List.set_cons_succ, ptr]
  refine anyL_take 17 (.pointer (some ⟨w.heap.size, 1, none⟩)) rfl (d := some 30) rfl (by kernel_rfl) (quiet_read (by kernel_rfl) (by simp) (fun w' hS => by go_simp)) ?_
  try simp only [Act.put, List.setIfInBounds_toArray, List.set_cons_zero, List.set_cons_succ, ptr]
  refine anyL_take 18 (.pointer (some ⟨w.heap.size, 2, none⟩)) rfl (d := some 31) rfl (by kernel_rfl) (quiet_read (by kernel_rfl) (by simp) (fun w' hS => by go_simp)) ?_
  try simp only [Act.put, List.setIfInBounds_toArray, List.set_cons_zero, List.set_cons_succ, ptr]
  refine anyL_take 19 (.int .i64 h.stage.y) rfl (d := some 32) rfl (by kernel_rfl) (quiet_read (by kernel_rfl) (by simp) (fun w' hS => by have := (HIN.out w' hS).1.cell (i := 2) rfl; go_simp)) ?_
  try simp only [Act.put, List.setIfInBounds_toArray, List.set_cons_zero, List.set_cons_succ, ptr]
  refine anyL_take 20 (.pointer (some ⟨w.heap.size, 3, none⟩)) rfl (d := some 33) rfl (by kernel_rfl) (quiet_read (by kernel_rfl) (by simp) (fun w' hS => by go_simp)) ?_
  try simp only [Act.put, List.setIfInBounds_toArray, List.set_cons_zero, List.set_cons_succ, ptr]
  refine anyL_take 21 (.slice (some ⟨lb, lo, none⟩) n cap) rfl (d := some 34) rfl (by kernel_rfl) (quiet_read (by kernel_rfl) (by simp) (fun w' hS => by have := (HIN.out w' hS).1.cell (i := 3) rfl; go_simp)) ?_
  try simp only [Act.put, List.setIfInBounds_toArray, List.set_cons_zero, List.set_cons_succ, ptr]
  refine anyL_take 22 (.int .i64 i) rfl (d := some 35) rfl (by kernel_rfl) (quiet_read (by kernel_rfl) (by simp) (fun w' hS => by go_simp)) ?_
  try simp only [Act.put, List.setIfInBounds_toArray, List.set_cons_zero, List.set_cons_succ, ptr]
  refine anyL_take 23 (.pointer (some ⟨lb, lo + i * 8, none⟩)) rfl (d := some 36) rfl (by kernel_rfl) (quiet_read (by kernel_rfl) (by simp) (fun w' hS => by go_simp)) ?_
  try simp only [Act.put, List.setIfInBounds_toArray, List.set_cons_zero, List.set_cons_succ, ptr]
  refine anyL_take 24 (.pointer (some ⟨lb, lo + i * 8 + 1, none⟩)) rfl (d := some 37) rfl (by kernel_rfl) (quiet_read (by kernel_rfl) (by simp) (fun w' hS => by go_simp)) ?_
  try simp only [Act.put, List.setIfInBounds_toArray, List.set_cons_zero, List.set_cons_succ, ptr]
  refine anyL_take 25 (.int .i64 x.height) rfl (d := some 38) rfl (by kernel_rfl) (quiet_read (by kernel_rfl) (by simp) (fun w' hS => by have := HCL.out w' hS 1 _ rfl; go_simp)) ?_
  try simp only [Act.put, List.setIfInBounds_toArray, List.set_cons_zero, List.set_cons_succ, ptr]
  refine anyL_done rfl (fun w3 hI => ?_)
  have hb23 := hI.below
  clear hI
  simp only [List.filterMap_cons, List.filterMap_nil, Act.put, List.setIfInBounds_toArray, List.set_cons_zero, List.set_cons_succ, List.getElem?_toArray, List.getElem?_cons_succ, List.getElem?_cons_zero, ptr]
  obtain ⟨w4, hw4, sw4, bw4, kr⟩ : ∃ w4, w3.alloc (.cells #[.int .i64 p.x, .int .i64 p.y, .int .i64 h.stage.x, .int .i64 h.stage.y, .int .i64 x.height] 3) = w4 ∧ w4.heap.size = w3.heap.size + 1 ∧ Since w3 w4 ∧ Blk w4 (w3.heap.size) 3 [.int .i64 p.x, .int .i64 p.y, .int .i64 h.stage.x, .int .i64 h.stage.y, .int .i64 x.height] := by
    obtain ⟨v1, e1⟩ : ∃ wq, w3.alloc (.cells #[.int .i64 p.x, .int .i64 p.y, .int .i64 h.stage.x, .int .i64 h.stage.y, .int .i64 x.height] 3) = wq := ⟨_, rfl⟩
    have s1 : v1.heap.size = w3.heap.size + 1 := by rw [← e1, World.size_alloc]
    have b1 : Since w3 v1 := by rw [← e1]; exact (Since.refl w3).alloc _
    have k1_1 : Blk v1 (w3.heap.size) 3 [.int .i64 p.x, .int .i64 p.y, .int .i64 h.stage.x, .int .i64 h.stage.y, .int .i64 x.height] := by rw [← e1]; exact Blk.new _ _ _
    rw [e1]
    exact ⟨_, rfl, s1, b1, k1_1⟩
  have HA := Lib.hid (rOk_any [p.x, p.y, h.stage.x, h.stage.y, x.height] w3.heap.size 5 w4 (by simp) (fun j z hz => kr.cell (i := j) (by
    match j, hz with
    | 0, hz => cases hz; rfl
    | 1, hz => cases hz; rfl
    | 2, hz => cases hz; rfl
    | 3, hz => cases hz; rfl
    | 4, hz => cases hz; rfl
    | (n + 5), hz => simp at hz)))
  have hb24 : Below w2.heap.size w2 w4 := hb23.trans (bw4.mono hb23.size)
  have HB24 := Lib.hid hb24
  have HW4 := Lib.hid hw4
  clear hw4 sw4 bw4 kr hb23
  go_wp2_with fail
  rw [HW4.out]
  refine HA.out.mono ?_; rintro e w' ⟨rfl, rfl⟩
  by_cases hco : CoV h.stage x.height p
  · have HPC : Hid (decide (AllC [p.x, p.y, h.stage.x, h.stage.y, x.height]) = true) := Lib.hid (decide_eq_true hco)
    have HV2 := Lib.hid (viewL_ref (l := x) hco)
    rw [HPC.out]
    have g : ∀ n, n ∈ [p.x, p.y, h.stage.x, h.stage.y, x.height] → coord n := hco
    have g1 := g p.x (by simp)
    have g2 := g p.y (by simp)
    have g3 := g h.stage.x (by simp)
    have g4 := g h.stage.y (by simp)
    have g5 := g x.height (by simp)
    unfold coord at g1 g2 g3 g4 g5
    have z1 : wrap64 (p.x - h.stage.x) = p.x - h.stage.x := wrap_in (by omega) (by omega)
    have z2 : wrap64 (p.y - h.stage.y) = p.y - h.stage.y := wrap_in (by omega) (by omega)
    have y1 := mul_small (u := p.x - h.stage.x) (v := p.x - h.stage.x) (by omega) (by omega) (by omega) (by omega)
    have y2 := mul_small (u := p.y - h.stage.y) (v := p.y - h.stage.y) (by omega) (by omega) (by omega) (by omega)
    have y3 := mul_small (u := x.height) (v := x.height) (by omega) (by omega) (by omega) (by omega)
    obtain ⟨d, hd⟩ : ∃ d, dist p h.stage x.height = d := ⟨_, rfl⟩
    have hall : wrap64 (wrap64 (wrap64 (wrap64 (p.x - h.stage.x) * wrap64 (p.x - h.stage.x)) + wrap64 (wrap64 (p.y - h.stage.y) * wrap64 (p.y - h.stage.y))) + wrap64 (x.height * x.height)) = d := by
      rw [z1, z2, wrap_in (n := (p.x - h.stage.x) * (p.x - h.stage.x)) (by omega) (by omega), wrap_in (n := (p.y - h.stage.y) * (p.y - h.stage.y)) (by omega) (by omega), wrap_in (n := x.height * x.height) (by omega) (by omega), wrap_in (n := (p.x - h.stage.x) * (p.x - h.stage.x) + (p.y - h.stage.y) * (p.y - h.stage.y)) (by omega) (by omega), wrap_in (by omega) (by omega), ← hd]
      rfl
    rw [hd] at HV2
    clear z1 z2 y1 y2 y3 hd g g1 g2 g3 g4 g5 hco
    have l0 := HCL.out w4 HB24.out 0 _ rfl
    have l1 := HCL.out w4 HB24.out 1 _ rfl
    have l2 := HCL.out w4 HB24.out 2 _ rfl
    have l3 := HCL.out w4 HB24.out 3 _ rfl
    have l4 := HCL.out w4 HB24.out 4 _ rfl
    have l5 := HCL.out w4 HB24.out 5 _ rfl
    have l6 := HCL.out w4 HB24.out 6 _ rfl
    have l7 := HCL.out w4 HB24.out 7 _ rfl
    rw [Nat.add_zero] at l0
    have c1 := (HIN.out w4 HB24.out).1.cell (i := 1) rfl
    have c2 := (HIN.out w4 HB24.out).1.cell (i := 2) rfl
    have c3 := (HIN.out w4 HB24.out).1.cell (i := 3) rfl
    have d0 := (HIN.out w4 HB24.out).2.cell (i := 0) rfl
    have d1 := (HIN.out w4 HB24.out).2.cell (i := 1) rfl
    go_upto_region 4 with fail
    obtain ⟨w5, hw5, sw5, bw5, kl⟩ : ∃ w5, w4.alloc (.cells #[.string ⟨x.name.toArray⟩, .int .i64 x.height, .slice p1 n1 m1, .slice p2 n2 m2, .slice p3 n3 m3, .slice p4 n4 m4, .slice p5 n5 m5, .int .i64 x.pos] 51) = w5 ∧ w5.heap.size = w4.heap.size + 1 ∧ Since w4 w5 ∧ Blk w5 (w4.heap.size) 51 [.string ⟨x.name.toArray⟩, .int .i64 x.height, .slice p1 n1 m1, .slice p2 n2 m2, .slice p3 n3 m3, .slice p4 n4 m4, .slice p5 n5 m5, .int .i64 x.pos] := by
      obtain ⟨v1, e1⟩ : ∃ wq, w4.alloc (.cells #[.string ⟨x.name.toArray⟩, .int .i64 x.height, .slice p1 n1 m1, .slice p2 n2 m2, .slice p3 n3 m3, .slice p4 n4 m4, .slice p5 n5 m5, .int .i64 x.pos] 51) = wq := ⟨_, rfl⟩
      have s1 : v1.heap.size = w4.heap.size + 1 := by rw [← e1, World.size_alloc]
      have b1 : Since w4 v1 := by rw [← e1]; exact (Since.refl w4).alloc _
      have k1_1 : Blk v1 (w4.heap.size) 51 [.string ⟨x.name.toArray⟩, .int .i64 x.height, .slice p1 n1 m1, .slice p2 n2 m2, .slice p3 n3 m3, .slice p4 n4 m4, .slice p5 n5 m5, .int .i64 x.pos] := by rw [← e1]; exact Blk.new _ _ _
      rw [e1]
      exact ⟨_, rfl, s1, b1, k1_1⟩
    have HKL := Lib.hid kl
    have HIN5 : Hid (∀ w', Below w5.heap.size w5 w' → Blk w' w.heap.size 28 [.string ⟨h.name.toArray⟩, .int .i64 h.stage.x, .int .i64 h.stage.y, .slice (some ⟨lb, lo, none⟩) n cap] ∧ Blk w' (w.heap.size + 1) 23 [.int .i64 p.x, .int .i64 p.y] ∧ Blk w' w4.heap.size 51 [.string ⟨x.name.toArray⟩, .int .i64 x.height, .slice p1 n1 m1, .slice p2 n2 m2, .slice p3 n3 m3, .slice p4 n4 m4, .slice p5 n5 m5, .int .i64 x.pos] ∧ Lk boxL w' w.heap.size (.slice p4 n4 m4) x.pillars ∧ Below w.heap.size w w') := Lib.hid fun w' hb => by
      have hb25 := HB24.out.trans (bw5.mono HB24.out.size)
      have hb' := hb25.trans (hb.mono hb25.size)
      exact ⟨(HIN.out w' hb').1, (HIN.out w' hb').2, (hb.block _ kl.lt).trans kl, HPL.out.kept (fun k hlt => hb'.block k (by have := HB2.out.size; omega)), HB2.out.trans (hb'.mono HB2.out.size)⟩
    have HW5 := Lib.hid hw5
    clear hw5 sw5 bw5 kl
    rw [HW5.out]
    clear l0 l1 l2 l3 l4 l5 l6 l7 c1 c2 c3 d0 d1 HCL HIN HA HPC HW4 HW2 HPL HL KH KP HSM HS2
    have c1 := (HIN5.out w5 (Below.refl _ _)).1.cell (i := 1) rfl
    have c2 := (HIN5.out w5 (Below.refl _ _)).1.cell (i := 2) rfl
    have d0 := (HIN5.out w5 (Below.refl _ _)).2.1.cell (i := 0) rfl
    have d1 := (HIN5.out w5 (Below.refl _ _)).2.1.cell (i := 1) rfl
    have y1 := (HIN5.out w5 (Below.refl _ _)).2.2.1.cell (i := 1) rfl
    have hn4b : n4 ≤ 9223372036854775807 := by omega
    have HP100 := Lib.hid hn100
    cases u1 : decide (1000000 < d)
    case false =>
      cases u9 : decide (9000000 < d)
      case false =>
        rw [u1, u9] at HV2
        go_wp2
        clear c1 c2 d0 d1 y1
        go_loopw [11, 12] (fun v t wr => ∃ j : Nat, j ≤ n4 ∧ t = .int .i64 j ∧ v = .int .i64 ((0 + cnt p h.stage (x.pillars.take j) : Nat) : Int) ∧ Hid (Below w5.heap.size w5 wr)) (fun _ t _ => n4 - (intOf t).toNat)
        case atStart => exact ⟨0, Nat.zero_le _, rfl, rfl, Lib.hid (Below.refl _ _)⟩
        case round =>
          obtain ⟨j, hj, rfl, rfl, HR⟩ := hrel
          obtain ⟨r1, r2, r3, r4, r5⟩ := HIN5.out _ HR.out
          have y5 := r3.cell (i := 5) rfl
          have hcl := cnt_le p h.stage (x.pillars.take j)
          rw [List.length_take] at hcl
          by_cases hjn : j < n4
          · obtain ⟨b, hb⟩ : ∃ b, x.pillars[j]? = some b := ⟨_, List.getElem?_eq_getElem (by have := HN4.out; omega)⟩
            obtain ⟨pb, po, c, rfl, hpb, hc, hcell⟩ := r4.at hb
            obtain rfl := hc
            have f0 := hcell 0 _ rfl
            have f1 := hcell 1 _ rfl
            have f2 := hcell 2 _ rfl
            have f3 := hcell 3 _ rfl
            rw [show boxL.size = 4 from rfl] at f0 f1 f2 f3
            rw [Nat.add_zero] at f0
            have hji : (0 : Int) ≤ j ∧ (j : Int) < n4 := by omega
            have HST := Lib.hid (cnt_step p h.stage hb)
            have HCA : Hid (∀ d os, Calls Try.prog 12 #[.agg #[.int .i64 p.x, .int .i64 p.y], .agg #[.int .i64 h.stage.x, .int .i64 h.stage.y], .agg #[.int .i64 b.x, .int .i64 b.y, .int .i64 b.x2, .int .i64 b.y2]] (grow (redrawn wr d) os) fun e w'' => e = .returned (.bool (cross p h.stage b)) ∧ ∃ p : Regrown, w'' = grow (redrawn wr p.d) p.os) := Lib.hid fun d os => Calls.regrown_of (rCrosses_any p h.stage b (grow (redrawn wr d) os))
            have q0 := fun d os => cell_regrown f0 d os
            have q1 := fun d os => cell_regrown f1 d os
            have q2 := fun d os => cell_regrown f2 d os
            have q3 := fun d os => cell_regrown f3 d os
            have qh1 := fun d os => cell_regrown (r1.cell (i := 1) rfl) d os
            have qh2 := fun d os => cell_regrown (r1.cell (i := 2) rfl) d os
            have qp0 := fun d os => cell_regrown (r2.cell (i := 0) rfl) d os
            have qp1 := fun d os => cell_regrown (r2.cell (i := 1) rfl) d os
            have qy5 := fun d os => cell_regrown y5 d os
            clear hcell hpb hb r1 r2 r3 r4 r5 f0 f1 f2 f3
            generalize cross p h.stage b = cr at *
            generalize cnt p h.stage (x.pillars.take j) = cc at *
            have hwr : wrap64 (((0 + cc : Nat) : Int) + 1) = ((0 + cc + 1 : Nat) : Int) := by rw [wrap_in (by omega) (by omega)]; rfl
            have HWR := Lib.hid hwr
            clear hwr
            go_upto_region 15 with fail
            refine wp_region_quiet_below (by kernel_rfl) (by kernel_rfl) ?_
            repeat (go_big_quiet_step (with_reducible exact HCA.out _ _))
            refine wpQuiet_nil ?_
            intro _ hw'
            obtain ⟨⟨dq, osq⟩, hw''⟩ := hw'
            subst hw''
            have HR2 := Lib.hid (HR.out.trans ((below_regrown wr dq osq).mono HR.out.size))
            generalize grow (redrawn wr dq) osq = wy at *
            clear HCA HR q0 q1 q2 q3 qh1 qh2 qp0 qp1 qy5 y5
            cases cr
            · have HST2 : Hid (cnt p h.stage (x.pillars.take (j + 1)) = cc) := HST
              clear HST
              go_wp2
              go_roundw
              case rel => exact ⟨j + 1, by omega, by go_num, by rw [HST2.out], HR2⟩
              case measure => simp [intOf]; omega
            · have HST2 : Hid (cnt p h.stage (x.pillars.take (j + 1)) = cc + 1) := HST
              clear HST
              go_wp2
              go_roundw
              case rel => exact ⟨j + 1, by omega, by go_num, by rw [HST2.out]; exact congrArg (Value.int .i64) (by omega), HR2⟩
              case measure => simp [intOf]; omega
          · have e : j = n4 := by omega
            subst e
            rw [show x.pillars.take j = x.pillars from List.take_of_length_le (by have := HN4.out; omega)] at hcl ⊢
            have HRB := Lib.hid r5
            clear r1 r2 r3 r4 r5
            generalize hcc : cnt p h.stage x.pillars = cc at *
            have HV3 := Lib.hid (HV.out.trans HV2.out)
            clear hcc
            by_cases h3 : 3 < 0 + cc
            · have e9 : (3 : Int) < ((0 + cc : Nat) : Int) := by omega
              go_wp2
              go_ret
              exact ⟨by rw [HV3.out]; exact congrArg (fun z => Ending.returned (Value.int .i64 z)) (by simp only [one, if_true, Bool.false_eq_true, if_false]; omega), HRB.out⟩
            · have e9 : ¬ (3 : Int) < ((0 + cc : Nat) : Int) := by omega
              go_wp2
              go_ret
              exact ⟨by rw [HV3.out]; exact congrArg (fun z => Ending.returned (Value.int .i64 z)) (by simp only [one, if_true, Bool.false_eq_true, if_false]; omega), HRB.out⟩
      case true =>
        exact absurd (of_decide_eq_true u9) (by have := of_decide_eq_false u1; omega)
    case true =>
      cases u9 : decide (9000000 < d)
      case false =>
        rw [u1, u9] at HV2
        go_wp2
        clear c1 c2 d0 d1 y1
        go_loopw [11, 12] (fun v t wr => ∃ j : Nat, j ≤ n4 ∧ t = .int .i64 j ∧ v = .int .i64 ((1 + cnt p h.stage (x.pillars.take j) : Nat) : Int) ∧ Hid (Below w5.heap.size w5 wr)) (fun _ t _ => n4 - (intOf t).toNat)
        case atStart => exact ⟨0, Nat.zero_le _, rfl, rfl, Lib.hid (Below.refl _ _)⟩
        case round =>
          obtain ⟨j, hj, rfl, rfl, HR⟩ := hrel
          obtain ⟨r1, r2, r3, r4, r5⟩ := HIN5.out _ HR.out
          have y5 := r3.cell (i := 5) rfl
          have hcl := cnt_le p h.stage (x.pillars.take j)
          rw [List.length_take] at hcl
          by_cases hjn : j < n4
          · obtain ⟨b, hb⟩ : ∃ b, x.pillars[j]? = some b := ⟨_, List.getElem?_eq_getElem (by have := HN4.out; omega)⟩
            obtain ⟨pb, po, c, rfl, hpb, hc, hcell⟩ := r4.at hb
            obtain rfl := hc
            have f0 := hcell 0 _ rfl
            have f1 := hcell 1 _ rfl
            have f2 := hcell 2 _ rfl
            have f3 := hcell 3 _ rfl
            rw [show boxL.size = 4 from rfl] at f0 f1 f2 f3
            rw [Nat.add_zero] at f0
            have hji : (0 : Int) ≤ j ∧ (j : Int) < n4 := by omega
            have HST := Lib.hid (cnt_step p h.stage hb)
            have HCA : Hid (∀ d os, Calls Try.prog 12 #[.agg #[.int .i64 p.x, .int .i64 p.y], .agg #[.int .i64 h.stage.x, .int .i64 h.stage.y], .agg #[.int .i64 b.x, .int .i64 b.y, .int .i64 b.x2, .int .i64 b.y2]] (grow (redrawn wr d) os) fun e w'' => e = .returned (.bool (cross p h.stage b)) ∧ ∃ p : Regrown, w'' = grow (redrawn wr p.d) p.os) := Lib.hid fun d os => Calls.regrown_of (rCrosses_any p h.stage b (grow (redrawn wr d) os))
            have q0 := fun d os => cell_regrown f0 d os
            have q1 := fun d os => cell_regrown f1 d os
            have q2 := fun d os => cell_regrown f2 d os
            have q3 := fun d os => cell_regrown f3 d os
            have qh1 := fun d os => cell_regrown (r1.cell (i := 1) rfl) d os
            have qh2 := fun d os => cell_regrown (r1.cell (i := 2) rfl) d os
            have qp0 := fun d os => cell_regrown (r2.cell (i := 0) rfl) d os
            have qp1 := fun d os => cell_regrown (r2.cell (i := 1) rfl) d os
            have qy5 := fun d os => cell_regrown y5 d os
            clear hcell hpb hb r1 r2 r3 r4 r5 f0 f1 f2 f3
            generalize cross p h.stage b = cr at *
            generalize cnt p h.stage (x.pillars.take j) = cc at *
            have hwr : wrap64 (((1 + cc : Nat) : Int) + 1) = ((1 + cc + 1 : Nat) : Int) := by rw [wrap_in (by omega) (by omega)]; rfl
            have HWR := Lib.hid hwr
            clear hwr
            go_upto_region 15 with fail
            refine wp_region_quiet_below (by kernel_rfl) (by kernel_rfl) ?_
            repeat (go_big_quiet_step (with_reducible exact HCA.out _ _))
            refine wpQuiet_nil ?_
            intro _ hw'
            obtain ⟨⟨dq, osq⟩, hw''⟩ := hw'
            subst hw''
            have HR2 := Lib.hid (HR.out.trans ((below_regrown wr dq osq).mono HR.out.size))
            generalize grow (redrawn wr dq) osq = wy at *
            clear HCA HR q0 q1 q2 q3 qh1 qh2 qp0 qp1 qy5 y5
            cases cr
            · have HST2 : Hid (cnt p h.stage (x.pillars.take (j + 1)) = cc) := HST
              clear HST
              go_wp2
              go_roundw
              case rel => exact ⟨j + 1, by omega, by go_num, by rw [HST2.out], HR2⟩
              case measure => simp [intOf]; omega
            · have HST2 : Hid (cnt p h.stage (x.pillars.take (j + 1)) = cc + 1) := HST
              clear HST
              go_wp2
              go_roundw
              case rel => exact ⟨j + 1, by omega, by go_num, by rw [HST2.out]; exact congrArg (Value.int .i64) (by omega), HR2⟩
              case measure => simp [intOf]; omega
          · have e : j = n4 := by omega
            subst e
            rw [show x.pillars.take j = x.pillars from List.take_of_length_le (by have := HN4.out; omega)] at hcl ⊢
            have HRB := Lib.hid r5
            clear r1 r2 r3 r4 r5
            generalize hcc : cnt p h.stage x.pillars = cc at *
            have HV3 := Lib.hid (HV.out.trans HV2.out)
            clear hcc
            by_cases h3 : 3 < 1 + cc
            · have e9 : (3 : Int) < ((1 + cc : Nat) : Int) := by omega
              go_wp2
              go_ret
              exact ⟨by rw [HV3.out]; exact congrArg (fun z => Ending.returned (Value.int .i64 z)) (by simp only [one, if_true, Bool.false_eq_true, if_false]; omega), HRB.out⟩
            · have e9 : ¬ (3 : Int) < ((1 + cc : Nat) : Int) := by omega
              go_wp2
              go_ret
              exact ⟨by rw [HV3.out]; exact congrArg (fun z => Ending.returned (Value.int .i64 z)) (by simp only [one, if_true, Bool.false_eq_true, if_false]; omega), HRB.out⟩
      case true =>
        rw [u1, u9] at HV2
        go_wp2
        clear c1 c2 d0 d1 y1
        go_loopw [11, 12] (fun v t wr => ∃ j : Nat, j ≤ n4 ∧ t = .int .i64 j ∧ v = .int .i64 ((2 + cnt p h.stage (x.pillars.take j) : Nat) : Int) ∧ Hid (Below w5.heap.size w5 wr)) (fun _ t _ => n4 - (intOf t).toNat)
        case atStart => exact ⟨0, Nat.zero_le _, rfl, rfl, Lib.hid (Below.refl _ _)⟩
        case round =>
          obtain ⟨j, hj, rfl, rfl, HR⟩ := hrel
          obtain ⟨r1, r2, r3, r4, r5⟩ := HIN5.out _ HR.out
          have y5 := r3.cell (i := 5) rfl
          have hcl := cnt_le p h.stage (x.pillars.take j)
          rw [List.length_take] at hcl
          by_cases hjn : j < n4
          · obtain ⟨b, hb⟩ : ∃ b, x.pillars[j]? = some b := ⟨_, List.getElem?_eq_getElem (by have := HN4.out; omega)⟩
            obtain ⟨pb, po, c, rfl, hpb, hc, hcell⟩ := r4.at hb
            obtain rfl := hc
            have f0 := hcell 0 _ rfl
            have f1 := hcell 1 _ rfl
            have f2 := hcell 2 _ rfl
            have f3 := hcell 3 _ rfl
            rw [show boxL.size = 4 from rfl] at f0 f1 f2 f3
            rw [Nat.add_zero] at f0
            have hji : (0 : Int) ≤ j ∧ (j : Int) < n4 := by omega
            have HST := Lib.hid (cnt_step p h.stage hb)
            have HCA : Hid (∀ d os, Calls Try.prog 12 #[.agg #[.int .i64 p.x, .int .i64 p.y], .agg #[.int .i64 h.stage.x, .int .i64 h.stage.y], .agg #[.int .i64 b.x, .int .i64 b.y, .int .i64 b.x2, .int .i64 b.y2]] (grow (redrawn wr d) os) fun e w'' => e = .returned (.bool (cross p h.stage b)) ∧ ∃ p : Regrown, w'' = grow (redrawn wr p.d) p.os) := Lib.hid fun d os => Calls.regrown_of (rCrosses_any p h.stage b (grow (redrawn wr d) os))
            have q0 := fun d os => cell_regrown f0 d os
            have q1 := fun d os => cell_regrown f1 d os
            have q2 := fun d os => cell_regrown f2 d os
            have q3 := fun d os => cell_regrown f3 d os
            have qh1 := fun d os => cell_regrown (r1.cell (i := 1) rfl) d os
            have qh2 := fun d os => cell_regrown (r1.cell (i := 2) rfl) d os
            have qp0 := fun d os => cell_regrown (r2.cell (i := 0) rfl) d os
            have qp1 := fun d os => cell_regrown (r2.cell (i := 1) rfl) d os
            have qy5 := fun d os => cell_regrown y5 d os
            clear hcell hpb hb r1 r2 r3 r4 r5 f0 f1 f2 f3
            generalize cross p h.stage b = cr at *
            generalize cnt p h.stage (x.pillars.take j) = cc at *
            have hwr : wrap64 (((2 + cc : Nat) : Int) + 1) = ((2 + cc + 1 : Nat) : Int) := by rw [wrap_in (by omega) (by omega)]; rfl
            have HWR := Lib.hid hwr
            clear hwr
            go_upto_region 15 with fail
            refine wp_region_quiet_below (by kernel_rfl) (by kernel_rfl) ?_
            repeat (go_big_quiet_step (with_reducible exact HCA.out _ _))
            refine wpQuiet_nil ?_
            intro _ hw'
            obtain ⟨⟨dq, osq⟩, hw''⟩ := hw'
            subst hw''
            have HR2 := Lib.hid (HR.out.trans ((below_regrown wr dq osq).mono HR.out.size))
            generalize grow (redrawn wr dq) osq = wy at *
            clear HCA HR q0 q1 q2 q3 qh1 qh2 qp0 qp1 qy5 y5
            cases cr
            · have HST2 : Hid (cnt p h.stage (x.pillars.take (j + 1)) = cc) := HST
              clear HST
              go_wp2
              go_roundw
              case rel => exact ⟨j + 1, by omega, by go_num, by rw [HST2.out], HR2⟩
              case measure => simp [intOf]; omega
            · have HST2 : Hid (cnt p h.stage (x.pillars.take (j + 1)) = cc + 1) := HST
              clear HST
              go_wp2
              go_roundw
              case rel => exact ⟨j + 1, by omega, by go_num, by rw [HST2.out]; exact congrArg (Value.int .i64) (by omega), HR2⟩
              case measure => simp [intOf]; omega
          · have e : j = n4 := by omega
            subst e
            rw [show x.pillars.take j = x.pillars from List.take_of_length_le (by have := HN4.out; omega)] at hcl ⊢
            have HRB := Lib.hid r5
            clear r1 r2 r3 r4 r5
            generalize hcc : cnt p h.stage x.pillars = cc at *
            have HV3 := Lib.hid (HV.out.trans HV2.out)
            clear hcc
            by_cases h3 : 3 < 2 + cc
            · have e9 : (3 : Int) < ((2 + cc : Nat) : Int) := by omega
              go_wp2
              go_ret
              exact ⟨by rw [HV3.out]; exact congrArg (fun z => Ending.returned (Value.int .i64 z)) (by simp only [one, if_true, Bool.false_eq_true, if_false]; omega), HRB.out⟩
            · have e9 : ¬ (3 : Int) < ((2 + cc : Nat) : Int) := by omega
              go_wp2
              go_ret
              exact ⟨by rw [HV3.out]; exact congrArg (fun z => Ending.returned (Value.int .i64 z)) (by simp only [one, if_true, Bool.false_eq_true, if_false]; omega), HRB.out⟩
  · have HPC : Hid (decide (AllC [p.x, p.y, h.stage.x, h.stage.y, x.height]) = false) := Lib.hid (decide_eq_false hco)
    have HV2 : Hid (viewL h.stage x p = 3) := Lib.hid (by unfold viewL; rw [if_neg hco])
    rw [HPC.out]
    clear hco
    go_wp2
    go_ret
    exact ⟨by rw [HV.out, HV2.out]; rfl, HB2.out.trans (HB24.out.mono HB2.out.size)⟩
end Go.Proofs.Ytdmancneccfgeaa.Sg
