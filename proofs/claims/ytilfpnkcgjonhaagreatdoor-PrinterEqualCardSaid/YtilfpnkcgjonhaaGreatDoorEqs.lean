/-
  Structs compared: marks, points, boxes, ratios, tests.
-/
import Derived.Test.YtilfpnkcgjonhaaGreatDoorBase
import Derived.Laws.StructEq
namespace Go.Proofs.YtilfpnkcgjonhaaGreatDoor.Pr
open Go.RowKit Go.Sort

theorem mark_fields : Tryz.prog.underlying 72 = some (.struct (Tryz.prog.fieldsOf 72)) := by kernel_rfl
theorem mark_held : Tryz.prog.stoodInHeld 72 = false := by kernel_rfl
theorem mark_guardT : Tryz.prog.eqGuardType Tryz.prog.depth 72 = false := by kernel_rfl
theorem mark_equal (a0 a1 a2 b0 b1 b2 : Int) (w : World) : (Op.equalIn 10000 72 (.agg #[.int .i64 a0, .int .i64 a1, .int .i64 a2]) (.agg #[.int .i64 b0, .int .i64 b1, .int .i64 b2])).run Tryz.prog w = .ok (decide (a0 = b0 ∧ a1 = b1 ∧ a2 = b2)) w := by
  have u3 := Tryz.underlying3
  have a3' := Tryz.isAgg3
  have z3 := Tryz.sizeOf3
  rw [show (10000 : Nat) = 9999 + 1 from rfl, run_equalIn_agg w 9999 _ _ _ mark_fields mark_held]
  simp only [Program.fieldsOf, Tryz.underlying72]
  go_simp
  by_cases h0 : a0 = b0 <;> by_cases h1 : a1 = b1 <;> by_cases h2 : a2 = b2 <;> simp [h0, h1, h2]
theorem mark_neq (a0 a1 a2 b0 b1 b2 : Int) (y : Bool) (hy : (!decide (a0 = b0 ∧ a1 = b1 ∧ a2 = b2)) = y) (w : World) : (binOp .neq 72 (.agg #[.int .i64 a0, .int .i64 a1, .int .i64 a2]) (.agg #[.int .i64 b0, .int .i64 b1, .int .i64 b2])).run Tryz.prog w = .ok (.bool y) w := by
  rw [run_neq_struct, mark_equal, ← hy]; rfl
theorem mark_eql (a0 a1 a2 b0 b1 b2 : Int) (y : Bool) (hy : decide (a0 = b0 ∧ a1 = b1 ∧ a2 = b2) = y) (w : World) : (binOp .eql 72 (.agg #[.int .i64 a0, .int .i64 a1, .int .i64 a2]) (.agg #[.int .i64 b0, .int .i64 b1, .int .i64 b2])).run Tryz.prog w = .ok (.bool y) w := by
  rw [run_eql_struct, mark_equal, ← hy]; rfl
theorem mark_gneq (x y : Operand) (xs ys : Array Value) (w : World) : (eqGuard .neq 72 x y (.agg xs) (.agg ys)).run Tryz.prog w = .ok () w := run_eqGuard_agg w .neq _ x y xs ys mark_guardT
theorem mark_geql (x y : Operand) (xs ys : Array Value) (w : World) : (eqGuard .eql 72 x y (.agg xs) (.agg ys)).run Tryz.prog w = .ok () w := run_eqGuard_agg w .eql _ x y xs ys mark_guardT
theorem point_fields : Tryz.prog.underlying 23 = some (.struct (Tryz.prog.fieldsOf 23)) := by kernel_rfl
theorem point_held : Tryz.prog.stoodInHeld 23 = false := by kernel_rfl
theorem point_guardT : Tryz.prog.eqGuardType Tryz.prog.depth 23 = false := by kernel_rfl
theorem point_equal (a0 a1 b0 b1 : Int) (w : World) : (Op.equalIn 10000 23 (.agg #[.int .i64 a0, .int .i64 a1]) (.agg #[.int .i64 b0, .int .i64 b1])).run Tryz.prog w = .ok (decide (a0 = b0 ∧ a1 = b1)) w := by
  have u3 := Tryz.underlying3
  have a3' := Tryz.isAgg3
  have z3 := Tryz.sizeOf3
  rw [show (10000 : Nat) = 9999 + 1 from rfl, run_equalIn_agg w 9999 _ _ _ point_fields point_held]
  simp only [Program.fieldsOf, Tryz.underlying23]
  go_simp
  by_cases h0 : a0 = b0 <;> by_cases h1 : a1 = b1 <;> simp [h0, h1]
theorem point_neq (a0 a1 b0 b1 : Int) (y : Bool) (hy : (!decide (a0 = b0 ∧ a1 = b1)) = y) (w : World) : (binOp .neq 23 (.agg #[.int .i64 a0, .int .i64 a1]) (.agg #[.int .i64 b0, .int .i64 b1])).run Tryz.prog w = .ok (.bool y) w := by
  rw [run_neq_struct, point_equal, ← hy]; rfl
theorem point_eql (a0 a1 b0 b1 : Int) (y : Bool) (hy : decide (a0 = b0 ∧ a1 = b1) = y) (w : World) : (binOp .eql 23 (.agg #[.int .i64 a0, .int .i64 a1]) (.agg #[.int .i64 b0, .int .i64 b1])).run Tryz.prog w = .ok (.bool y) w := by
  rw [run_eql_struct, point_equal, ← hy]; rfl
theorem point_gneq (x y : Operand) (xs ys : Array Value) (w : World) : (eqGuard .neq 23 x y (.agg xs) (.agg ys)).run Tryz.prog w = .ok () w := run_eqGuard_agg w .neq _ x y xs ys point_guardT
theorem point_geql (x y : Operand) (xs ys : Array Value) (w : World) : (eqGuard .eql 23 x y (.agg xs) (.agg ys)).run Tryz.prog w = .ok () w := run_eqGuard_agg w .eql _ x y xs ys point_guardT
theorem box_fields : Tryz.prog.underlying 74 = some (.struct (Tryz.prog.fieldsOf 74)) := by kernel_rfl
theorem box_held : Tryz.prog.stoodInHeld 74 = false := by kernel_rfl
theorem box_guardT : Tryz.prog.eqGuardType Tryz.prog.depth 74 = false := by kernel_rfl
theorem box_equal (a0 a1 a2 a3 b0 b1 b2 b3 : Int) (w : World) : (Op.equalIn 10000 74 (.agg #[.int .i64 a0, .int .i64 a1, .int .i64 a2, .int .i64 a3]) (.agg #[.int .i64 b0, .int .i64 b1, .int .i64 b2, .int .i64 b3])).run Tryz.prog w = .ok (decide (a0 = b0 ∧ a1 = b1 ∧ a2 = b2 ∧ a3 = b3)) w := by
  have u3 := Tryz.underlying3
  have a3' := Tryz.isAgg3
  have z3 := Tryz.sizeOf3
  rw [show (10000 : Nat) = 9999 + 1 from rfl, run_equalIn_agg w 9999 _ _ _ box_fields box_held]
  simp only [Program.fieldsOf, Tryz.underlying74]
  go_simp
  by_cases h0 : a0 = b0 <;> by_cases h1 : a1 = b1 <;> by_cases h2 : a2 = b2 <;> by_cases h3 : a3 = b3 <;> simp [h0, h1, h2, h3]
theorem box_neq (a0 a1 a2 a3 b0 b1 b2 b3 : Int) (y : Bool) (hy : (!decide (a0 = b0 ∧ a1 = b1 ∧ a2 = b2 ∧ a3 = b3)) = y) (w : World) : (binOp .neq 74 (.agg #[.int .i64 a0, .int .i64 a1, .int .i64 a2, .int .i64 a3]) (.agg #[.int .i64 b0, .int .i64 b1, .int .i64 b2, .int .i64 b3])).run Tryz.prog w = .ok (.bool y) w := by
  rw [run_neq_struct, box_equal, ← hy]; rfl
theorem box_eql (a0 a1 a2 a3 b0 b1 b2 b3 : Int) (y : Bool) (hy : decide (a0 = b0 ∧ a1 = b1 ∧ a2 = b2 ∧ a3 = b3) = y) (w : World) : (binOp .eql 74 (.agg #[.int .i64 a0, .int .i64 a1, .int .i64 a2, .int .i64 a3]) (.agg #[.int .i64 b0, .int .i64 b1, .int .i64 b2, .int .i64 b3])).run Tryz.prog w = .ok (.bool y) w := by
  rw [run_eql_struct, box_equal, ← hy]; rfl
theorem box_gneq (x y : Operand) (xs ys : Array Value) (w : World) : (eqGuard .neq 74 x y (.agg xs) (.agg ys)).run Tryz.prog w = .ok () w := run_eqGuard_agg w .neq _ x y xs ys box_guardT
theorem box_geql (x y : Operand) (xs ys : Array Value) (w : World) : (eqGuard .eql 74 x y (.agg xs) (.agg ys)).run Tryz.prog w = .ok () w := run_eqGuard_agg w .eql _ x y xs ys box_guardT
theorem ratio_fields : Tryz.prog.underlying 64 = some (.struct (Tryz.prog.fieldsOf 64)) := by kernel_rfl
theorem ratio_held : Tryz.prog.stoodInHeld 64 = false := by kernel_rfl
theorem ratio_guardT : Tryz.prog.eqGuardType Tryz.prog.depth 64 = false := by kernel_rfl
theorem ratio_equal (a0 a1 b0 b1 : Int) (w : World) : (Op.equalIn 10000 64 (.agg #[.int .i64 a0, .int .i64 a1]) (.agg #[.int .i64 b0, .int .i64 b1])).run Tryz.prog w = .ok (decide (a0 = b0 ∧ a1 = b1)) w := by
  have u3 := Tryz.underlying3
  have a3' := Tryz.isAgg3
  have z3 := Tryz.sizeOf3
  rw [show (10000 : Nat) = 9999 + 1 from rfl, run_equalIn_agg w 9999 _ _ _ ratio_fields ratio_held]
  simp only [Program.fieldsOf, Tryz.underlying64]
  go_simp
  by_cases h0 : a0 = b0 <;> by_cases h1 : a1 = b1 <;> simp [h0, h1]
theorem ratio_neq (a0 a1 b0 b1 : Int) (y : Bool) (hy : (!decide (a0 = b0 ∧ a1 = b1)) = y) (w : World) : (binOp .neq 64 (.agg #[.int .i64 a0, .int .i64 a1]) (.agg #[.int .i64 b0, .int .i64 b1])).run Tryz.prog w = .ok (.bool y) w := by
  rw [run_neq_struct, ratio_equal, ← hy]; rfl
theorem ratio_eql (a0 a1 b0 b1 : Int) (y : Bool) (hy : decide (a0 = b0 ∧ a1 = b1) = y) (w : World) : (binOp .eql 64 (.agg #[.int .i64 a0, .int .i64 a1]) (.agg #[.int .i64 b0, .int .i64 b1])).run Tryz.prog w = .ok (.bool y) w := by
  rw [run_eql_struct, ratio_equal, ← hy]; rfl
theorem ratio_gneq (x y : Operand) (xs ys : Array Value) (w : World) : (eqGuard .neq 64 x y (.agg xs) (.agg ys)).run Tryz.prog w = .ok () w := run_eqGuard_agg w .neq _ x y xs ys ratio_guardT
theorem ratio_geql (x y : Operand) (xs ys : Array Value) (w : World) : (eqGuard .eql 64 x y (.agg xs) (.agg ys)).run Tryz.prog w = .ok () w := run_eqGuard_agg w .eql _ x y xs ys ratio_guardT
theorem test_fields : Tryz.prog.underlying 68 = some (.struct (Tryz.prog.fieldsOf 68)) := by kernel_rfl
theorem test_held : Tryz.prog.stoodInHeld 68 = false := by kernel_rfl
theorem test_guardT : Tryz.prog.eqGuardType Tryz.prog.depth 68 = false := by kernel_rfl
theorem test_equal (a0 : List UInt8) (a1 : Int) (a2 : List UInt8) (a3 a4 : Int) (b0 : List UInt8) (b1 : Int) (b2 : List UInt8) (b3 b4 : Int) (w : World) : (Op.equalIn 10000 68 (.agg #[.string ⟨a0.toArray⟩, .int .i64 a1, .string ⟨a2.toArray⟩, .int .i64 a3, .int .i64 a4]) (.agg #[.string ⟨b0.toArray⟩, .int .i64 b1, .string ⟨b2.toArray⟩, .int .i64 b3, .int .i64 b4])).run Tryz.prog w = .ok (decide (a0 = b0 ∧ a1 = b1 ∧ a2 = b2 ∧ a3 = b3 ∧ a4 = b4)) w := by
  have u3 := Tryz.underlying3
  have a3' := Tryz.isAgg3
  have z3 := Tryz.sizeOf3
  have u9 := Tryz.underlying9
  have a9' := Tryz.isAgg9
  have z9 := Tryz.sizeOf9
  rw [show (10000 : Nat) = 9999 + 1 from rfl, run_equalIn_agg w 9999 _ _ _ test_fields test_held]
  simp only [Program.fieldsOf, Tryz.underlying68]
  go_simp
  by_cases h0 : a0 = b0 <;> by_cases h1 : a1 = b1 <;> by_cases h2 : a2 = b2 <;> by_cases h3 : a3 = b3 <;> by_cases h4 : a4 = b4 <;> simp [h0, h1, h2, h3, h4]
theorem test_neq (a0 : List UInt8) (a1 : Int) (a2 : List UInt8) (a3 a4 : Int) (b0 : List UInt8) (b1 : Int) (b2 : List UInt8) (b3 b4 : Int) (y : Bool) (hy : (!decide (a0 = b0 ∧ a1 = b1 ∧ a2 = b2 ∧ a3 = b3 ∧ a4 = b4)) = y) (w : World) : (binOp .neq 68 (.agg #[.string ⟨a0.toArray⟩, .int .i64 a1, .string ⟨a2.toArray⟩, .int .i64 a3, .int .i64 a4]) (.agg #[.string ⟨b0.toArray⟩, .int .i64 b1, .string ⟨b2.toArray⟩, .int .i64 b3, .int .i64 b4])).run Tryz.prog w = .ok (.bool y) w := by
  rw [run_neq_struct, test_equal, ← hy]; rfl
theorem test_gneq (x y : Operand) (xs ys : Array Value) (w : World) : (eqGuard .neq 68 x y (.agg xs) (.agg ys)).run Tryz.prog w = .ok () w := run_eqGuard_agg w .neq _ x y xs ys test_guardT
end Go.Proofs.YtilfpnkcgjonhaaGreatDoor.Pr
