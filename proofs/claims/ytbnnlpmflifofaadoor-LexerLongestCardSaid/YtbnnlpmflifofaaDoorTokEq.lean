/-
  Two tokens compared.
-/
import Derived.Test.YtbnnlpmflifofaaDoorOwnToks
import Derived.Laws.StructEq
namespace Go.Proofs.YtbnnlpmflifofaaDoor
open Go.RowKit Go.Sort Foyer.Lexer

theorem tok_fields : Tryd.prog.underlying 30 = some (.struct (Tryd.prog.fieldsOf 30)) := by kernel_rfl
theorem tok_held : Tryd.prog.stoodInHeld 30 = false := by kernel_rfl
theorem tok_guard : Tryd.prog.eqGuardType Tryd.prog.depth 30 = false := by kernel_rfl
theorem tok_equal (a0 b0 a2 b2 a3 b3 : Int) (s1 s2 : ByteArray) (w : World) :
    (Op.equalIn 10000 30 (.agg #[.int .i64 a0, .string s1, .int .i64 a2, .int .i64 a3]) (.agg #[.int .i64 b0, .string s2, .int .i64 b2, .int .i64 b3])).run Tryd.prog w = .ok (decide (a0 = b0 ∧ s1.toList = s2.toList ∧ a2 = b2 ∧ a3 = b3)) w := by
  have u3 := Tryd.underlying3
  have a3' := Tryd.isAgg3
  have z3 := Tryd.sizeOf3
  have u9 := Tryd.underlying9
  have a9 := Tryd.isAgg9
  have z9 := Tryd.sizeOf9
  rw [show (10000 : Nat) = 9999 + 1 from rfl, run_equalIn_agg w 9999 _ _ _ tok_fields tok_held]
  simp only [Program.fieldsOf, Tryd.underlying30]
  go_simp
  by_cases h0 : a0 = b0 <;> by_cases h1 : s1.toList = s2.toList <;> by_cases h2 : a2 = b2 <;> by_cases h3 : a3 = b3 <;> simp [h0, h1, h2, h3]
theorem bytes_toList (s : ByteArray) : s.toList = s.data.toList := ByteArray.toList_eq s
theorem tok_neq (a0 b0 a2 b2 a3 b3 : Int) (s1 s2 : ByteArray) (y : Bool) (hy : (!decide (a0 = b0 ∧ s1 = s2 ∧ a2 = b2 ∧ a3 = b3)) = y) (w : World) :
    (binOp .neq 30 (.agg #[.int .i64 a0, .string s1, .int .i64 a2, .int .i64 a3]) (.agg #[.int .i64 b0, .string s2, .int .i64 b2, .int .i64 b3])).run Tryd.prog w = .ok (.bool y) w := by
  have e : s1.toList = s2.toList ↔ s1 = s2 := by
    rw [bytes_toList, bytes_toList]
    constructor
    · intro h; apply ByteArray.ext; exact Array.toList_inj.1 h
    · intro h; rw [h]
  rw [run_neq_struct, tok_equal, ← hy]
  simp only [e]; rfl
theorem tok_eql (a0 b0 a2 b2 a3 b3 : Int) (s1 s2 : ByteArray) (y : Bool) (hy : decide (a0 = b0 ∧ s1 = s2 ∧ a2 = b2 ∧ a3 = b3) = y) (w : World) :
    (binOp .eql 30 (.agg #[.int .i64 a0, .string s1, .int .i64 a2, .int .i64 a3]) (.agg #[.int .i64 b0, .string s2, .int .i64 b2, .int .i64 b3])).run Tryd.prog w = .ok (.bool y) w := by
  have e : s1.toList = s2.toList ↔ s1 = s2 := by
    rw [bytes_toList, bytes_toList]
    constructor
    · intro h; apply ByteArray.ext; exact Array.toList_inj.1 h
    · intro h; rw [h]
  rw [run_eql_struct, tok_equal, ← hy]
  simp only [e]; rfl
/-- The test ahead of a comparison of two tokens. -/
theorem guard_neq (x y : Operand) (xs ys : Array Value) (w : World) : (eqGuard .neq 30 x y (.agg xs) (.agg ys)).run Tryd.prog w = .ok () w := run_eqGuard_agg w .neq _ x y xs ys tok_guard
theorem guard_eql (x y : Operand) (xs ys : Array Value) (w : World) : (eqGuard .eql 30 x y (.agg xs) (.agg ys)).run Tryd.prog w = .ok () w := run_eqGuard_agg w .eql _ x y xs ys tok_guard
end Go.Proofs.YtbnnlpmflifofaaDoor
