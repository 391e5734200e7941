/-
  Structs of numbers compared: marks, points, boxes.
-/
import Derived.Test.YtlfjdohjfmfcdaaGreatDoorBase
import Derived.Laws.StructEq
import Derived.Test.YtlfjdohjfmfcdaaGreatDoorWalkPlan
import Derived.Test.YtlfjdohjfmfcdaaGreatDoorMathPlan
import Derived.Test.YtlfjdohjfmfcdaaGreatDoorEnv

/-! ## Structs of numbers compared: marks, points, boxes. -/
namespace Go.Proofs.YtlfjdohjfmfcdaaGreatDoor
open Go.RowKit Go.Sort

theorem mark_fields : Tryz.prog.underlying 46 = some (.struct (Tryz.prog.fieldsOf 46)) := by kernel_rfl
theorem mark_held : Tryz.prog.stoodInHeld 46 = false := by kernel_rfl
theorem mark_guardT : Tryz.prog.eqGuardType Tryz.prog.depth 46 = false := by kernel_rfl
theorem mark_equal (a0 a1 a2 b0 b1 b2 : Int) (w : World) : (Op.equalIn 10000 46 (.agg #[.int .i64 a0, .int .i64 a1, .int .i64 a2]) (.agg #[.int .i64 b0, .int .i64 b1, .int .i64 b2])).run Tryz.prog w = .ok (decide (a0 = b0 ∧ a1 = b1 ∧ a2 = b2)) w := by
  have u3 := Tryz.underlying3
  have a3' := Tryz.isAgg3
  have z3 := Tryz.sizeOf3
  rw [show (10000 : Nat) = 9999 + 1 from rfl, run_equalIn_agg w 9999 _ _ _ mark_fields mark_held]
  simp only [Program.fieldsOf, Tryz.underlying46]
  go_simp
  by_cases h0 : a0 = b0 <;> by_cases h1 : a1 = b1 <;> by_cases h2 : a2 = b2 <;> simp [h0, h1, h2]
theorem mark_neq (a0 a1 a2 b0 b1 b2 : Int) (y : Bool) (hy : (!decide (a0 = b0 ∧ a1 = b1 ∧ a2 = b2)) = y) (w : World) : (binOp .neq 46 (.agg #[.int .i64 a0, .int .i64 a1, .int .i64 a2]) (.agg #[.int .i64 b0, .int .i64 b1, .int .i64 b2])).run Tryz.prog w = .ok (.bool y) w := by
  rw [run_neq_struct, mark_equal, ← hy]; rfl
theorem mark_eql (a0 a1 a2 b0 b1 b2 : Int) (y : Bool) (hy : decide (a0 = b0 ∧ a1 = b1 ∧ a2 = b2) = y) (w : World) : (binOp .eql 46 (.agg #[.int .i64 a0, .int .i64 a1, .int .i64 a2]) (.agg #[.int .i64 b0, .int .i64 b1, .int .i64 b2])).run Tryz.prog w = .ok (.bool y) w := by
  rw [run_eql_struct, mark_equal, ← hy]; rfl
theorem mark_gneq (x y : Operand) (xs ys : Array Value) (w : World) : (eqGuard .neq 46 x y (.agg xs) (.agg ys)).run Tryz.prog w = .ok () w := run_eqGuard_agg w .neq _ x y xs ys mark_guardT
theorem mark_geql (x y : Operand) (xs ys : Array Value) (w : World) : (eqGuard .eql 46 x y (.agg xs) (.agg ys)).run Tryz.prog w = .ok () w := run_eqGuard_agg w .eql _ x y xs ys mark_guardT
theorem point_fields : Tryz.prog.underlying 24 = some (.struct (Tryz.prog.fieldsOf 24)) := by kernel_rfl
theorem point_held : Tryz.prog.stoodInHeld 24 = false := by kernel_rfl
theorem point_guardT : Tryz.prog.eqGuardType Tryz.prog.depth 24 = false := by kernel_rfl
theorem point_equal (a0 a1 b0 b1 : Int) (w : World) : (Op.equalIn 10000 24 (.agg #[.int .i64 a0, .int .i64 a1]) (.agg #[.int .i64 b0, .int .i64 b1])).run Tryz.prog w = .ok (decide (a0 = b0 ∧ a1 = b1)) w := by
  have u3 := Tryz.underlying3
  have a3' := Tryz.isAgg3
  have z3 := Tryz.sizeOf3
  rw [show (10000 : Nat) = 9999 + 1 from rfl, run_equalIn_agg w 9999 _ _ _ point_fields point_held]
  simp only [Program.fieldsOf, Tryz.underlying24]
  go_simp
  by_cases h0 : a0 = b0 <;> by_cases h1 : a1 = b1 <;> simp [h0, h1]
theorem point_neq (a0 a1 b0 b1 : Int) (y : Bool) (hy : (!decide (a0 = b0 ∧ a1 = b1)) = y) (w : World) : (binOp .neq 24 (.agg #[.int .i64 a0, .int .i64 a1]) (.agg #[.int .i64 b0, .int .i64 b1])).run Tryz.prog w = .ok (.bool y) w := by
  rw [run_neq_struct, point_equal, ← hy]; rfl
theorem point_eql (a0 a1 b0 b1 : Int) (y : Bool) (hy : decide (a0 = b0 ∧ a1 = b1) = y) (w : World) : (binOp .eql 24 (.agg #[.int .i64 a0, .int .i64 a1]) (.agg #[.int .i64 b0, .int .i64 b1])).run Tryz.prog w = .ok (.bool y) w := by
  rw [run_eql_struct, point_equal, ← hy]; rfl
theorem point_gneq (x y : Operand) (xs ys : Array Value) (w : World) : (eqGuard .neq 24 x y (.agg xs) (.agg ys)).run Tryz.prog w = .ok () w := run_eqGuard_agg w .neq _ x y xs ys point_guardT
theorem point_geql (x y : Operand) (xs ys : Array Value) (w : World) : (eqGuard .eql 24 x y (.agg xs) (.agg ys)).run Tryz.prog w = .ok () w := run_eqGuard_agg w .eql _ x y xs ys point_guardT
theorem box_fields : Tryz.prog.underlying 48 = some (.struct (Tryz.prog.fieldsOf 48)) := by kernel_rfl
theorem box_held : Tryz.prog.stoodInHeld 48 = false := by kernel_rfl
theorem box_guardT : Tryz.prog.eqGuardType Tryz.prog.depth 48 = false := by kernel_rfl
theorem box_equal (a0 a1 a2 a3 b0 b1 b2 b3 : Int) (w : World) : (Op.equalIn 10000 48 (.agg #[.int .i64 a0, .int .i64 a1, .int .i64 a2, .int .i64 a3]) (.agg #[.int .i64 b0, .int .i64 b1, .int .i64 b2, .int .i64 b3])).run Tryz.prog w = .ok (decide (a0 = b0 ∧ a1 = b1 ∧ a2 = b2 ∧ a3 = b3)) w := by
  have u3 := Tryz.underlying3
  have a3' := Tryz.isAgg3
  have z3 := Tryz.sizeOf3
  rw [show (10000 : Nat) = 9999 + 1 from rfl, run_equalIn_agg w 9999 _ _ _ box_fields box_held]
  simp only [Program.fieldsOf, Tryz.underlying48]
  go_simp
  by_cases h0 : a0 = b0 <;> by_cases h1 : a1 = b1 <;> by_cases h2 : a2 = b2 <;> by_cases h3 : a3 = b3 <;> simp [h0, h1, h2, h3]
theorem box_neq (a0 a1 a2 a3 b0 b1 b2 b3 : Int) (y : Bool) (hy : (!decide (a0 = b0 ∧ a1 = b1 ∧ a2 = b2 ∧ a3 = b3)) = y) (w : World) : (binOp .neq 48 (.agg #[.int .i64 a0, .int .i64 a1, .int .i64 a2, .int .i64 a3]) (.agg #[.int .i64 b0, .int .i64 b1, .int .i64 b2, .int .i64 b3])).run Tryz.prog w = .ok (.bool y) w := by
  rw [run_neq_struct, box_equal, ← hy]; rfl
theorem box_eql (a0 a1 a2 a3 b0 b1 b2 b3 : Int) (y : Bool) (hy : decide (a0 = b0 ∧ a1 = b1 ∧ a2 = b2 ∧ a3 = b3) = y) (w : World) : (binOp .eql 48 (.agg #[.int .i64 a0, .int .i64 a1, .int .i64 a2, .int .i64 a3]) (.agg #[.int .i64 b0, .int .i64 b1, .int .i64 b2, .int .i64 b3])).run Tryz.prog w = .ok (.bool y) w := by
  rw [run_eql_struct, box_equal, ← hy]; rfl
theorem box_gneq (x y : Operand) (xs ys : Array Value) (w : World) : (eqGuard .neq 48 x y (.agg xs) (.agg ys)).run Tryz.prog w = .ok () w := run_eqGuard_agg w .neq _ x y xs ys box_guardT
theorem box_geql (x y : Operand) (xs ys : Array Value) (w : World) : (eqGuard .eql 48 x y (.agg xs) (.agg ys)).run Tryz.prog w = .ok () w := run_eqGuard_agg w .eql _ x y xs ys box_guardT
end Go.Proofs.YtlfjdohjfmfcdaaGreatDoor

/-! ## The law's examples. -/
namespace Go.Proofs.YtlfjdohjfmfcdaaGreatDoor
open Go.RowKit Go.Sort Go.Shelf Foyer.Plan

/-- What lies behind a list's elements. -/
theorem IsList.at {α : Type} {K : Kind α} {W : World} {F : Nat → Prop} {T : TypeId} {v : Value} {xs : List α} (h : IsList K W F T v xs) {i : Nat} {x : α} (hx : xs[i]? = some x) :
    ∃ g cap c, v = .slice (some ⟨g, 0, none⟩) xs.length cap ∧ xs.length ≤ cap ∧ cap ≤ maxLen ∧ F g ∧ g < W.heap.size ∧ K.is W F c x ∧ ∀ j u, c[j]? = some u → W.cell? ⟨g, i * K.size + j, none⟩ = some u := by
  obtain ⟨css, h1, h2, h3⟩ := h
  obtain ⟨c, hc, hcx⟩ := All2.at h3 hx
  have hl := All2.length h3
  rcases h1.form with ⟨rfl, hn⟩ | ⟨g, cap, cur, rfl, hB, hg, hh, hcap, hm, hcell⟩
  · rw [hn] at hc; simp at hc
  · exact ⟨g, cap, c, by rw [hl], by omega, hm, h2 g rfl, hg, hcx, fun j u hj => hcell i c j u hc hj⟩
theorem IsList.len {α : Type} {K : Kind α} {W : World} {F : Nat → Prop} {T : TypeId} {v : Value} {xs : List α} (h : IsList K W F T v xs) : ∃ a cap, v = .slice a xs.length cap := by
  obtain ⟨css, h1, h2, h3⟩ := h
  have hl := All2.length h3
  rcases h1.form with ⟨rfl, hn⟩ | ⟨g, cap, cur, rfl, hB, hg, hh, hcap, hm, hcell⟩
  · rw [hn] at hl; exact ⟨none, 0, by rw [← hl]; rfl⟩
  · exact ⟨_, cap, by rw [hl]⟩
/-- What Parse returned, in a later world. -/
theorem plan_late {n : Nat} {x : HallP} {c : List Value} {w' w2 : World} (h : hallK.is w' (fun k => n ≤ k) c x) (hb : Below w'.heap.size w' w2) : hallK.is w2 (fun k => n ≤ k) c x := hallK.kept h fun k _ hlt => hb.block k hlt
/-- A text's hall, under names. -/
theorem plan_c (t : ByteArray) (ht : t.size ≤ 1000000) (x : HallP) (E : Nat) (O : Int) (h : parseAll t.data.toList = (x, E, O)) (w : World) :
    Calls Tryz.prog 5 #[.string t] w fun e w' => ∃ v, e = .returned (.tuple #[.agg #[.string ⟨x.name.toArray⟩, .int .i64 (x.sx : Nat), .int .i64 (x.sy : Nat), v], .int .i64 (E : Nat), .int .i64 O]) ∧ IsList levelK w' (fun k => w.heap.size ≤ k) 38 v x.levels ∧ Below w.heap.size w w' := by
  refine (plan_any t ht w).mono ?_
  rintro e w' ⟨⟨c, rfl, hc⟩, hb⟩
  rw [h] at hc ⊢
  obtain ⟨v, rfl, hv⟩ := hc
  exact ⟨v, rfl, hv, hb⟩
theorem IsList.late {α : Type} {K : Kind α} {F : Nat → Prop} {T : TypeId} {v : Value} {xs : List α} {w' w2 : World} (h : IsList K w' F T v xs) (hb : Below w'.heap.size w' w2) : IsList K w2 F T v xs := h.kept fun k _ hlt => hb.block k hlt
/-- An example without levels. -/
theorem plan_none (t : ByteArray) (ht : t.size ≤ 1000000) (s : List UInt8) (x y E : Nat) (O : Int) (h : parseAll t.data.toList = (⟨s, x, y, []⟩, E, O)) (w : World) :
    Calls Tryz.prog 5 #[.string t] w fun e w' => ∃ a cap, e = .returned (.tuple #[.agg #[.string ⟨s.toArray⟩, .int .i64 (x : Nat), .int .i64 (y : Nat), .slice a 0 cap], .int .i64 (E : Nat), .int .i64 O]) ∧ Below w.heap.size w w' := by
  refine (plan_c t ht _ E O h w).mono ?_
  rintro e w' ⟨v, rfl, hv, hb⟩
  obtain ⟨a, cap, rfl⟩ := hv.len
  exact ⟨a, cap, rfl, hb⟩
theorem plan_ex2 (t : ByteArray) (ht : t.size ≤ 1000000) (h : parseAll t.data.toList = (⟨[104], 5, 0, [⟨[97], 2, [], [], [⟨0, 0, 3, 4⟩], [], [(1, 2)], 19⟩]⟩, 0, 0)) (w : World) :
    Calls Tryz.prog 5 #[.string t] w fun e w' => ∃ g cap a3 c3 a5 c5, e = .returned (.tuple #[.agg #[.string ⟨#[104]⟩, .int .i64 5, .int .i64 0, .slice (some ⟨g, 0, none⟩) 1 cap], .int .i64 0, .int .i64 0]) ∧
      (∀ w2, Below w'.heap.size w' w2 → g < w2.heap.size ∧ w2.cell? ⟨g, 4, none⟩ = some (.slice a3 1 c3) ∧ w2.cell? ⟨g, 6, none⟩ = some (.slice a5 1 c5) ∧ w2.cell? ⟨g, 7, none⟩ = some (.int .i64 19)) ∧ Below w.heap.size w w' := by
  refine (plan_c t ht _ 0 0 h w).mono ?_
  rintro e w' ⟨v, rfl, hv, hb⟩
  obtain ⟨g, cap, c, rfl, _, _, _, hg, ⟨v1, v2, v3, v4, v5, hl⟩, hcell⟩ := hv.at (i := 0) rfl
  obtain rfl := hl.cells
  obtain ⟨a3, c3, rfl⟩ := hl.aisles.len
  obtain ⟨a5, c5, rfl⟩ := hl.doors.len
  refine ⟨g, cap, a3, c3, a5, c5, rfl, fun w2 hb2 => ?_, hb⟩
  have hc : ∀ j u, (levelCl ⟨[97], 2, [], [], [⟨0, 0, 3, 4⟩], [], [(1, 2)], 19⟩ v1 v2 (.slice a3 1 c3) v4 (.slice a5 1 c5))[j]? = some u → w2.cell? ⟨g, 0 * 8 + j, none⟩ = some u := fun j u hj => by rw [hb2.cell hg]; exact hcell j u hj
  exact ⟨Nat.lt_of_lt_of_le hg hb2.size, hc 4 _ rfl, hc 6 _ rfl, hc 7 _ rfl⟩
theorem plan_ex6 (t : ByteArray) (ht : t.size ≤ 1000000) (x : HallP) (h : parseAll t.data.toList = (x, 0, 0)) (nm : List UInt8) (hgt : Nat) (bn : List UInt8) (rn : List UInt8) (r1 r2 r3 r4 m0 m2 : Nat) (p1 p2 p3 p4 p5 p6 p7 p8 : Nat) (hn : List UInt8) (sx sy : Nat) (an : List UInt8) (ab : BoxP)
    (hx : x = ⟨hn, sx, sy, [⟨nm, hgt, [⟨bn, [⟨rn, r1, r2, r3, r4, 2, [⟨m0, p1, p2⟩, ⟨4, 2, 1⟩, ⟨m2, p3, p4⟩], p5⟩], p6⟩], [⟨an, ab, 9, p7⟩], [], [], [], p8⟩]⟩) (w : World) :
    Calls Tryz.prog 5 #[.string t] w fun e w' => ∃ g cap a1 c1 a2 c2 ar cr am cm, e = .returned (.tuple #[.agg #[.string ⟨hn.toArray⟩, .int .i64 (sx : Nat), .int .i64 (sy : Nat), .slice (some ⟨g, 0, none⟩) 1 cap], .int .i64 0, .int .i64 0]) ∧
      (∀ w2, Below w'.heap.size w' w2 → g < w2.heap.size ∧ w2.cell? ⟨g, 2, none⟩ = some (.slice (some ⟨a1, 0, none⟩) 1 c1) ∧ w2.cell? ⟨g, 3, none⟩ = some (.slice (some ⟨a2, 0, none⟩) 1 c2) ∧ w2.cell? ⟨a2, 5, none⟩ = some (.int .i64 9) ∧ w2.cell? ⟨a1, 1, none⟩ = some (.slice (some ⟨ar, 0, none⟩) 1 cr) ∧
        (w2.cell? ⟨ar, 0, none⟩ = some (.string ⟨rn.toArray⟩) ∧ w2.cell? ⟨ar, 1, none⟩ = some (.int .i64 (r1 : Nat)) ∧ w2.cell? ⟨ar, 2, none⟩ = some (.int .i64 (r2 : Nat)) ∧ w2.cell? ⟨ar, 3, none⟩ = some (.int .i64 (r3 : Nat)) ∧ w2.cell? ⟨ar, 4, none⟩ = some (.int .i64 (r4 : Nat)) ∧ w2.cell? ⟨ar, 5, none⟩ = some (.int .i64 2) ∧ w2.cell? ⟨ar, 6, none⟩ = some (.slice (some ⟨am, 0, none⟩) 3 cm) ∧ w2.cell? ⟨ar, 7, none⟩ = some (.int .i64 (p5 : Nat))) ∧
        w2.cell? ⟨am, 3, none⟩ = some (.int .i64 4) ∧ w2.cell? ⟨am, 4, none⟩ = some (.int .i64 2) ∧ w2.cell? ⟨am, 5, none⟩ = some (.int .i64 1)) ∧ Below w.heap.size w w' := by
  subst hx
  refine (plan_c t ht _ 0 0 h w).mono ?_
  rintro e w' ⟨v, rfl, hv, hb⟩
  obtain ⟨g, cap, c, rfl, _, _, _, hg, ⟨v1, v2, v3, v4, v5, hl⟩, hcell⟩ := hv.at (i := 0) rfl
  obtain rfl := hl.cells
  obtain ⟨a1, c1, d1, rfl, _, _, _, hg1, ⟨vr, rfl, hr⟩, hcell1⟩ := hl.blocks.at (i := 0) rfl
  obtain ⟨a2, c2, d2, rfl, _, _, _, hg2, rfl, hcell2⟩ := hl.areas.at (i := 0) rfl
  obtain ⟨ar, cr, dr, rfl, _, _, _, hgr, ⟨vm, rfl, hm⟩, hcellr⟩ := hr.at (i := 0) rfl
  obtain ⟨am, cm, dm, rfl, _, _, _, hgm, rfl, hcellm⟩ := hm.at (i := 1) rfl
  refine ⟨g, cap, a1, c1, a2, c2, ar, cr, am, cm, rfl, fun w2 hb2 => ?_, hb⟩
  have k0 : ∀ j u, w'.cell? ⟨g, j, none⟩ = some u → w2.cell? ⟨g, j, none⟩ = some u := fun j u hj => by rw [hb2.cell hg]; exact hj
  have k1 : ∀ j u, w'.cell? ⟨a1, j, none⟩ = some u → w2.cell? ⟨a1, j, none⟩ = some u := fun j u hj => by rw [hb2.cell hg1]; exact hj
  have k2 : ∀ j u, w'.cell? ⟨a2, j, none⟩ = some u → w2.cell? ⟨a2, j, none⟩ = some u := fun j u hj => by rw [hb2.cell hg2]; exact hj
  have kr : ∀ j u, w'.cell? ⟨ar, j, none⟩ = some u → w2.cell? ⟨ar, j, none⟩ = some u := fun j u hj => by rw [hb2.cell hgr]; exact hj
  have km : ∀ j u, w'.cell? ⟨am, j, none⟩ = some u → w2.cell? ⟨am, j, none⟩ = some u := fun j u hj => by rw [hb2.cell hgm]; exact hj
  refine ⟨Nat.lt_of_lt_of_le hg hb2.size, k0 2 _ (hcell 2 _ rfl), k0 3 _ (hcell 3 _ rfl), k2 5 _ (hcell2 5 _ rfl), k1 1 _ (hcell1 1 _ rfl),
    ⟨kr 0 _ (hcellr 0 _ rfl), kr 1 _ (hcellr 1 _ rfl), kr 2 _ (hcellr 2 _ rfl), kr 3 _ (hcellr 3 _ rfl), kr 4 _ (hcellr 4 _ rfl), kr 5 _ (hcellr 5 _ rfl), kr 6 _ (hcellr 6 _ rfl), kr 7 _ (hcellr 7 _ rfl)⟩,
    km 3 _ (hcellm 0 _ rfl), km 4 _ (hcellm 1 _ rfl), km 5 _ (hcellm 2 _ rfl)⟩
set_option maxRecDepth 100000 in
set_option maxHeartbeats 8000000 in
theorem head_any (w : World) : Calls Tryz.prog 4 #[] w fun e w' => e = .returned (.bool true) ∧ Below w.heap.size w w' := by
  have HX0 : Hid (Since w w) := Below.refl _ _
  go_enter Tryz.func4, Tryz.ntmps4
  go_wp2_with fail
  refine (plan_none _ (by decide) _ _ _ _ _ pex1 _).mono ?_
  rintro e w1 ⟨s1, d1, rfl, b1⟩
  have k1 : Kp (fun _ => False) _ w1 := Kp.of_below b1
  have V1 := Lib.hid (Blk.new w1 27 [.string ⟨#[104]⟩, .int .i64 5, .int .i64 0, .slice s1 0 d1])
  have HX1 := Lib.hid ((HX0.out.call b1).alloc (.cells #[.string ⟨#[104]⟩, .int .i64 5, .int .i64 0, .slice s1 0 d1] 27))
  clear k1 b1
  go_upto_region 2 with fail
  generalize w1.alloc (.cells #[.string ⟨#[104]⟩, .int .i64 5, .int .i64 0, .slice s1 0 d1] 27) = X1 at *
  generalize w1.heap.size = v1 at *
  go_wp2_with fail
  refine (plan_ex2 _ (by decide) pex2 _).mono ?_
  rintro e w2 ⟨g2, cap2, a3, c3, a5, c5, rfl, hf2, b2⟩
  have k2 : Kp (fun _ => False) _ w2 := Kp.of_below b2
  have V1 := Lib.hid ((V1.out.kept k2 (fun h => h)).alloc (.cells #[.string ⟨#[104]⟩, .int .i64 5, .int .i64 0, .slice (some ⟨g2, 0, none⟩) 1 cap2] 27))
  have HF2 : Hid (∀ w2', Below (w2.alloc (.cells #[.string ⟨#[104]⟩, .int .i64 5, .int .i64 0, .slice (some ⟨g2, 0, none⟩) 1 cap2] 27)).heap.size (w2.alloc (.cells #[.string ⟨#[104]⟩, .int .i64 5, .int .i64 0, .slice (some ⟨g2, 0, none⟩) 1 cap2] 27)) w2' → _) := Lib.hid (fun w2' hb => hf2 w2' (((Below.refl w2.heap.size w2).alloc (Nat.le_refl _) (.cells #[.string ⟨#[104]⟩, .int .i64 5, .int .i64 0, .slice (some ⟨g2, 0, none⟩) 1 cap2] 27)).trans (hb.mono (by simp))))
  clear hf2
  have V2 := Lib.hid (Blk.new w2 27 [.string ⟨#[104]⟩, .int .i64 5, .int .i64 0, .slice (some ⟨g2, 0, none⟩) 1 cap2])
  have HX2 := Lib.hid ((HX1.out.call b2).alloc (.cells #[.string ⟨#[104]⟩, .int .i64 5, .int .i64 0, .slice (some ⟨g2, 0, none⟩) 1 cap2] 27))
  clear k2 b2
  go_upto_region 3 with fail
  generalize w2.alloc (.cells #[.string ⟨#[104]⟩, .int .i64 5, .int .i64 0, .slice (some ⟨g2, 0, none⟩) 1 cap2] 27) = X2 at *
  generalize w2.heap.size = v2 at *
  go_wp2_with fail
  refine (plan_none _ (by decide) _ _ _ _ _ pex3 _).mono ?_
  rintro e w3 ⟨s3, d3, rfl, b3⟩
  have k3 : Kp (fun _ => False) _ w3 := Kp.of_below b3
  have V1 := Lib.hid ((V1.out.kept k3 (fun h => h)).alloc (.cells #[.string ⟨#[]⟩, .int .i64 0, .int .i64 0, .slice s3 0 d3] 27))
  have V2 := Lib.hid ((V2.out.kept k3 (fun h => h)).alloc (.cells #[.string ⟨#[]⟩, .int .i64 0, .int .i64 0, .slice s3 0 d3] 27))
  have HF2 : Hid (∀ w2', Below (w3.alloc (.cells #[.string ⟨#[]⟩, .int .i64 0, .int .i64 0, .slice s3 0 d3] 27)).heap.size (w3.alloc (.cells #[.string ⟨#[]⟩, .int .i64 0, .int .i64 0, .slice s3 0 d3] 27)) w2' → _) := Lib.hid (fun w2' hb => HF2.out w2' (((b3.mono (Nat.le_refl _)).alloc b3.size (.cells #[.string ⟨#[]⟩, .int .i64 0, .int .i64 0, .slice s3 0 d3] 27)).trans (hb.mono (Nat.le_trans b3.size (by simp)))))
  have HX3 := Lib.hid ((HX2.out.call b3).alloc (.cells #[.string ⟨#[]⟩, .int .i64 0, .int .i64 0, .slice s3 0 d3] 27))
  clear k3 b3
  go_upto_region 4 with fail
  generalize w3.alloc (.cells #[.string ⟨#[]⟩, .int .i64 0, .int .i64 0, .slice s3 0 d3] 27) = X3 at *
  go_wp2_with fail
  refine (plan_none _ (by decide) _ _ _ _ _ pex4 _).mono ?_
  rintro e w4 ⟨s4, d4, rfl, b4⟩
  have k4 : Kp (fun _ => False) _ w4 := Kp.of_below b4
  have V1 := Lib.hid ((V1.out.kept k4 (fun h => h)).alloc (.cells #[.string ⟨#[]⟩, .int .i64 0, .int .i64 0, .slice s4 0 d4] 27))
  have V2 := Lib.hid ((V2.out.kept k4 (fun h => h)).alloc (.cells #[.string ⟨#[]⟩, .int .i64 0, .int .i64 0, .slice s4 0 d4] 27))
  have HF2 : Hid (∀ w2', Below (w4.alloc (.cells #[.string ⟨#[]⟩, .int .i64 0, .int .i64 0, .slice s4 0 d4] 27)).heap.size (w4.alloc (.cells #[.string ⟨#[]⟩, .int .i64 0, .int .i64 0, .slice s4 0 d4] 27)) w2' → _) := Lib.hid (fun w2' hb => HF2.out w2' (((b4.mono (Nat.le_refl _)).alloc b4.size (.cells #[.string ⟨#[]⟩, .int .i64 0, .int .i64 0, .slice s4 0 d4] 27)).trans (hb.mono (Nat.le_trans b4.size (by simp)))))
  have HX4 := Lib.hid ((HX3.out.call b4).alloc (.cells #[.string ⟨#[]⟩, .int .i64 0, .int .i64 0, .slice s4 0 d4] 27))
  clear k4 b4
  go_upto_region 5 with fail
  generalize w4.alloc (.cells #[.string ⟨#[]⟩, .int .i64 0, .int .i64 0, .slice s4 0 d4] 27) = X4 at *
  go_wp2_with fail
  refine (plan_none _ (by decide) _ _ _ _ _ pex5 _).mono ?_
  rintro e w5 ⟨s5, d5, rfl, b5⟩
  have k5 : Kp (fun _ => False) _ w5 := Kp.of_below b5
  have V1 := Lib.hid ((V1.out.kept k5 (fun h => h)).alloc (.cells #[.string ⟨#[]⟩, .int .i64 0, .int .i64 0, .slice s5 0 d5] 27))
  have V2 := Lib.hid ((V2.out.kept k5 (fun h => h)).alloc (.cells #[.string ⟨#[]⟩, .int .i64 0, .int .i64 0, .slice s5 0 d5] 27))
  have HF2 : Hid (∀ w2', Below (w5.alloc (.cells #[.string ⟨#[]⟩, .int .i64 0, .int .i64 0, .slice s5 0 d5] 27)).heap.size (w5.alloc (.cells #[.string ⟨#[]⟩, .int .i64 0, .int .i64 0, .slice s5 0 d5] 27)) w2' → _) := Lib.hid (fun w2' hb => HF2.out w2' (((b5.mono (Nat.le_refl _)).alloc b5.size (.cells #[.string ⟨#[]⟩, .int .i64 0, .int .i64 0, .slice s5 0 d5] 27)).trans (hb.mono (Nat.le_trans b5.size (by simp)))))
  have HX5 := Lib.hid ((HX4.out.call b5).alloc (.cells #[.string ⟨#[]⟩, .int .i64 0, .int .i64 0, .slice s5 0 d5] 27))
  clear k5 b5
  go_upto_region 6 with fail
  generalize w5.alloc (.cells #[.string ⟨#[]⟩, .int .i64 0, .int .i64 0, .slice s5 0 d5] 27) = X5 at *
  go_wp2_with fail
  refine (plan_ex6 _ (by decide) _ pex6 _ _ _ _ _ _ _ _ _ _ _ _ _ _ _ _ _ _ _ _ _ _ _ rfl _).mono ?_
  rintro e w6 ⟨g6, cap6, i1, j1, i2, j2, ir, jr, im, jm, rfl, hf6, b6⟩
  have k6 : Kp (fun _ => False) _ w6 := Kp.of_below b6
  have V1 := Lib.hid ((V1.out.kept k6 (fun h => h)).alloc (.cells #[.string ⟨#[104]⟩, .int .i64 5, .int .i64 0, .slice (some ⟨g6, 0, none⟩) 1 cap6] 27))
  have V2 := Lib.hid ((V2.out.kept k6 (fun h => h)).alloc (.cells #[.string ⟨#[104]⟩, .int .i64 5, .int .i64 0, .slice (some ⟨g6, 0, none⟩) 1 cap6] 27))
  have HF2 : Hid (∀ w2', Below (w6.alloc (.cells #[.string ⟨#[104]⟩, .int .i64 5, .int .i64 0, .slice (some ⟨g6, 0, none⟩) 1 cap6] 27)).heap.size (w6.alloc (.cells #[.string ⟨#[104]⟩, .int .i64 5, .int .i64 0, .slice (some ⟨g6, 0, none⟩) 1 cap6] 27)) w2' → _) := Lib.hid (fun w2' hb => HF2.out w2' (((b6.mono (Nat.le_refl _)).alloc b6.size (.cells #[.string ⟨#[104]⟩, .int .i64 5, .int .i64 0, .slice (some ⟨g6, 0, none⟩) 1 cap6] 27)).trans (hb.mono (Nat.le_trans b6.size (by simp)))))
  have HF6 : Hid (∀ w2', Below (w6.alloc (.cells #[.string ⟨#[104]⟩, .int .i64 5, .int .i64 0, .slice (some ⟨g6, 0, none⟩) 1 cap6] 27)).heap.size (w6.alloc (.cells #[.string ⟨#[104]⟩, .int .i64 5, .int .i64 0, .slice (some ⟨g6, 0, none⟩) 1 cap6] 27)) w2' → _) := Lib.hid (fun w2' hb => hf6 w2' (((Below.refl w6.heap.size w6).alloc (Nat.le_refl _) (.cells #[.string ⟨#[104]⟩, .int .i64 5, .int .i64 0, .slice (some ⟨g6, 0, none⟩) 1 cap6] 27)).trans (hb.mono (by simp))))
  clear hf6
  have V6 := Lib.hid (Blk.new w6 27 [.string ⟨#[104]⟩, .int .i64 5, .int .i64 0, .slice (some ⟨g6, 0, none⟩) 1 cap6])
  have HX6 := Lib.hid ((HX5.out.call b6).alloc (.cells #[.string ⟨#[104]⟩, .int .i64 5, .int .i64 0, .slice (some ⟨g6, 0, none⟩) 1 cap6] 27))
  clear k6 b6
  go_upto_region 7 with fail
  generalize w6.alloc (.cells #[.string ⟨#[104]⟩, .int .i64 5, .int .i64 0, .slice (some ⟨g6, 0, none⟩) 1 cap6] 27) = X6 at *
  generalize w6.heap.size = v6 at *
  obtain ⟨_, x1, x2, x3, x4, ⟨r0, r1, r2, r3, r4, r5, r6, r7⟩, _, _, _⟩ := HF6.out _ (Below.refl _ _)
  obtain ⟨_, y1, y2, y3⟩ := HF2.out _ (Below.refl _ _)
  have r0 : X6.cell? ⟨ir, 0, none⟩ = some (.string ⟨#[114]⟩) := r0
  have r1 : X6.cell? ⟨ir, 1, none⟩ = some (.int .i64 7) := r1
  have r2 : X6.cell? ⟨ir, 2, none⟩ = some (.int .i64 8) := r2
  have r3 : X6.cell? ⟨ir, 3, none⟩ = some (.int .i64 1) := r3
  have r4 : X6.cell? ⟨ir, 4, none⟩ = some (.int .i64 5) := r4
  have r5 : X6.cell? ⟨ir, 5, none⟩ = some (.int .i64 2) := r5
  have r7 : X6.cell? ⟨ir, 7, none⟩ = some (.int .i64 48) := r7
  obtain ⟨X7, hX⟩ : ∃ X7, X6.alloc (.cells #[.string ⟨#[114]⟩, .int .i64 7, .int .i64 8, .int .i64 1, .int .i64 5, .int .i64 2, .slice (some ⟨im, 0, none⟩) 3 jm, .int .i64 48] 44) = X7 := ⟨_, rfl⟩
  have hb7 : Below X6.heap.size X6 X7 := by rw [← hX]; exact (Below.refl _ _).alloc (Nat.le_refl _) _
  have V7 := Blk.new X6 44 [.string ⟨#[114]⟩, .int .i64 7, .int .i64 8, .int .i64 1, .int .i64 5, .int .i64 2, .slice (some ⟨im, 0, none⟩) 3 jm, .int .i64 48]
  rw [show X6.alloc (.cells ([.string ⟨#[114]⟩, .int .i64 7, .int .i64 8, .int .i64 1, .int .i64 5, .int .i64 2, .slice (some ⟨im, 0, none⟩) 3 jm, .int .i64 48] : List Value).toArray 44) = X7 from hX] at V7
  obtain ⟨_, q1, q2, q3⟩ := HF2.out _ hb7
  obtain ⟨_, p1, p2, p3, p4, _, m0, m1, m2⟩ := HF6.out _ hb7
  have hs7 : Since w X7 := HX6.out.call hb7
  have HS7 := Lib.hid hs7
  have u0 := V7.cell (i := 0) rfl
  have u1 := V7.cell (i := 1) rfl
  have u2 := V7.cell (i := 2) rfl
  have u3 := V7.cell (i := 3) rfl
  have u4 := V7.cell (i := 4) rfl
  have u5 := V7.cell (i := 5) rfl
  have u6 := V7.cell (i := 6) rfl
  have u7 := V7.cell (i := 7) rfl
  have h10 := V1.out.cell (i := 0) rfl
  have h11 := V1.out.cell (i := 1) rfl
  have h12 := V1.out.cell (i := 2) rfl
  have h13 := V1.out.cell (i := 3) rfl
  have e1 := V1.out.kept (E := fun _ => False) (Kp.of_below hb7) (fun h => h)
  have f10 := e1.cell (i := 0) rfl
  have f11 := e1.cell (i := 1) rfl
  have f12 := e1.cell (i := 2) rfl
  have f13 := e1.cell (i := 3) rfl
  have h20 := V2.out.cell (i := 0) rfl
  have h21 := V2.out.cell (i := 1) rfl
  have h22 := V2.out.cell (i := 2) rfl
  have h23 := V2.out.cell (i := 3) rfl
  have e2 := V2.out.kept (E := fun _ => False) (Kp.of_below hb7) (fun h => h)
  have f20 := e2.cell (i := 0) rfl
  have f21 := e2.cell (i := 1) rfl
  have f22 := e2.cell (i := 2) rfl
  have f23 := e2.cell (i := 3) rfl
  have h60 := V6.out.cell (i := 0) rfl
  have h61 := V6.out.cell (i := 1) rfl
  have h62 := V6.out.cell (i := 2) rfl
  have h63 := V6.out.cell (i := 3) rfl
  have e6 := V6.out.kept (E := fun _ => False) (Kp.of_below hb7) (fun h => h)
  have f60 := e6.cell (i := 0) rfl
  have f61 := e6.cell (i := 1) rfl
  have f62 := e6.cell (i := 2) rfl
  have f63 := e6.cell (i := 3) rfl
  have me := fun w => mark_eql 4 2 1 4 2 1 true (by decide) w
  have mg := fun x y xs ys w => mark_geql x y xs ys w
  clear V1 V2 V6 HF2 HF6 HX0 HX1 HX2 HX3 HX4 HX5 HX6 hb7 hs7 V7 e1 e2 e6
  go_wp2
  exact bodyPost_ret (results_tmp rfl _ _ _) rfl ⟨rfl, HS7.out⟩
end Go.Proofs.YtlfjdohjfmfcdaaGreatDoor

/-! ## What the laws' walks share. -/
namespace Go.Proofs.YtlfjdohjfmfcdaaGreatDoor
open Go.RowKit Go.Sort Go.Shelf Foyer.Plan

/-- What Lex returns, under names. -/
theorem lex_c (t : ByteArray) (ht : t.size ≤ 1000000) (ts : List TokP) (E : Nat) (O : Int) (h : Foyer.Lexer.lexAll t.data.toList = (ts, E, O)) (w : World) :
    Calls Tryz.prog 8 #[.string t] w fun e w' => ∃ p cap, e = .returned (.tuple #[.slice p ts.length cap, .int .i64 (E : Nat), .int .i64 O]) ∧ RdT w' p ts ∧ ts.length ≤ cap ∧ cap ≤ maxLen ∧ Below w.heap.size w w' := by
  refine (lex_any t ht w).mono ?_
  rintro e w' ⟨p, cap, rfl, hr, hc, hm, hb⟩
  rw [h] at hr hc
  refine ⟨p, cap, by rw [h], hr, hc, hm.1, hb⟩
/-- What Parse returns, under names. -/
theorem plan_s (t : ByteArray) (ht : t.size ≤ 1000000) (x : HallP) (E : Nat) (O : Int) (h : parseAll t.data.toList = (x, E, O)) (w : World) :
    Calls Tryz.prog 5 #[.string t] w fun e w' => ∃ a n c, e = .returned (.tuple #[.agg #[.string ⟨x.name.toArray⟩, .int .i64 (x.sx : Nat), .int .i64 (x.sy : Nat), .slice a n c], .int .i64 (E : Nat), .int .i64 O]) ∧ IsList levelK w' (fun k => w.heap.size ≤ k) 38 (.slice a n c) x.levels ∧ Below w.heap.size w w' := by
  refine (plan_c t ht x E O h w).mono ?_
  rintro e w' ⟨v, rfl, hv, hb⟩
  obtain ⟨a, n, c, rfl⟩ := hv.slice
  exact ⟨a, n, c, rfl, hv, hb⟩
theorem join_list (a b : ByteArray) : (a ++ ⟨#[10]⟩ ++ b).data.toList = (a.data.toList ++ [10]) ++ b.data.toList := by
  rw [ByteArray.data_append, ByteArray.data_append]; simp
theorem join_size (a b : ByteArray) : (a ++ ⟨#[10]⟩ ++ b).size = a.size + 1 + b.size := by
  rw [ByteArray.size_append, ByteArray.size_append]; rfl
theorem size_toList (t : ByteArray) : t.data.toList.length = t.size := by simp
theorem triple {α : Type} (x : HallP × α × Int) : x = (x.1, x.2.1, x.2.2) := rfl
end Go.Proofs.YtlfjdohjfmfcdaaGreatDoor
