/-
  Structs compared: marks, points, boxes, ratios, tests.
-/
import Derived.Test.YtilfpnkcgjonhaaGreatDoorZMid
import Derived.Laws.StructEq
import Derived.Test.YtilfpnkcgjonhaaGreatDoorZReads
import Derived.Test.YtilfpnkcgjonhaaGreatDoorZRdPlan
import Derived.BigQuiet
namespace Go.Proofs.YtilfpnkcgjonhaaGreatDoor.Pr
open Go.RowKit Go.Sort
theorem mark_fields : Tryz.prog.underlying 72 = some (.struct (Tryz.prog.fieldsOf 72)) := by kernel_rfl
theorem mark_held : Tryz.prog.stoodInHeld 72 = false := by kernel_rfl
theorem mark_guardT : Tryz.prog.eqGuardType Tryz.prog.depth 72 = false := by kernel_rfl
theorem mark_equal (a0 a1 a2 b0 b1 b2 : Int) (w : World) : (Op.equalIn 10000 72 (.agg #[.int .i64 a0, .int .i64 a1, .int .i64 a2]) (.agg #[.int .i64 b0, .int .i64 b1, .int .i64 b2])).run Tryz.prog w = .ok (decide (a0 = b0 ∧ a1 = b1 ∧ a2 = b2)) w := by
 have u3 := Tryz.underlying3
 have a3' := Tryz.isAgg3
 have z3 := Tryz.sizeOf3
 rw [show (10000 : Nat) = 9999 + 1 from rfl, run_equalIn_agg w 9999 _ _ _ mark_fields mark_held]
 simp only [Program.fieldsOf, Tryz.underlying72]
 go_simp
 by_cases h0 : a0 = b0 <;> by_cases h1 : a1 = b1 <;> by_cases h2 : a2 = b2 <;> simp [h0, h1, h2]
theorem mark_neq (a0 a1 a2 b0 b1 b2 : Int) (y : Bool) (hy : (!decide (a0 = b0 ∧ a1 = b1 ∧ a2 = b2)) = y) (w : World) : (binOp .neq 72 (.agg #[.int .i64 a0, .int .i64 a1, .int .i64 a2]) (.agg #[.int .i64 b0, .int .i64 b1, .int .i64 b2])).run Tryz.prog w = .ok (.bool y) w := by
 rw [run_neq_struct, mark_equal, ← hy]; rfl
theorem mark_gneq (x y : Operand) (xs ys : Array Value) (w : World) : (eqGuard .neq 72 x y (.agg xs) (.agg ys)).run Tryz.prog w = .ok () w := run_eqGuard_agg w .neq _ x y xs ys mark_guardT
theorem point_fields : Tryz.prog.underlying 23 = some (.struct (Tryz.prog.fieldsOf 23)) := by kernel_rfl
theorem point_held : Tryz.prog.stoodInHeld 23 = false := by kernel_rfl
theorem point_guardT : Tryz.prog.eqGuardType Tryz.prog.depth 23 = false := by kernel_rfl
theorem point_equal (a0 a1 b0 b1 : Int) (w : World) : (Op.equalIn 10000 23 (.agg #[.int .i64 a0, .int .i64 a1]) (.agg #[.int .i64 b0, .int .i64 b1])).run Tryz.prog w = .ok (decide (a0 = b0 ∧ a1 = b1)) w := by
 have u3 := Tryz.underlying3
 have a3' := Tryz.isAgg3
 have z3 := Tryz.sizeOf3
 rw [show (10000 : Nat) = 9999 + 1 from rfl, run_equalIn_agg w 9999 _ _ _ point_fields point_held]
 simp only [Program.fieldsOf, Tryz.underlying23]
 go_simp
 by_cases h0 : a0 = b0 <;> by_cases h1 : a1 = b1 <;> simp [h0, h1]
theorem point_neq (a0 a1 b0 b1 : Int) (y : Bool) (hy : (!decide (a0 = b0 ∧ a1 = b1)) = y) (w : World) : (binOp .neq 23 (.agg #[.int .i64 a0, .int .i64 a1]) (.agg #[.int .i64 b0, .int .i64 b1])).run Tryz.prog w = .ok (.bool y) w := by
 rw [run_neq_struct, point_equal, ← hy]; rfl
theorem point_gneq (x y : Operand) (xs ys : Array Value) (w : World) : (eqGuard .neq 23 x y (.agg xs) (.agg ys)).run Tryz.prog w = .ok () w := run_eqGuard_agg w .neq _ x y xs ys point_guardT
theorem box_fields : Tryz.prog.underlying 74 = some (.struct (Tryz.prog.fieldsOf 74)) := by kernel_rfl
theorem box_held : Tryz.prog.stoodInHeld 74 = false := by kernel_rfl
theorem box_guardT : Tryz.prog.eqGuardType Tryz.prog.depth 74 = false := by kernel_rfl
theorem box_equal (a0 a1 a2 a3 b0 b1 b2 b3 : Int) (w : World) : (Op.equalIn 10000 74 (.agg #[.int .i64 a0, .int .i64 a1, .int .i64 a2, .int .i64 a3]) (.agg #[.int .i64 b0, .int .i64 b1, .int .i64 b2, .int .i64 b3])).run Tryz.prog w = .ok (decide (a0 = b0 ∧ a1 = b1 ∧ a2 = b2 ∧ a3 = b3)) w := by
 have u3 := Tryz.underlying3
 have a3' := Tryz.isAgg3
 have z3 := Tryz.sizeOf3
 rw [show (10000 : Nat) = 9999 + 1 from rfl, run_equalIn_agg w 9999 _ _ _ box_fields box_held]
 simp only [Program.fieldsOf, Tryz.underlying74]
 go_simp
 by_cases h0 : a0 = b0 <;> by_cases h1 : a1 = b1 <;> by_cases h2 : a2 = b2 <;> by_cases h3 : a3 = b3 <;> simp [h0, h1, h2, h3]
theorem box_neq (a0 a1 a2 a3 b0 b1 b2 b3 : Int) (y : Bool) (hy : (!decide (a0 = b0 ∧ a1 = b1 ∧ a2 = b2 ∧ a3 = b3)) = y) (w : World) : (binOp .neq 74 (.agg #[.int .i64 a0, .int .i64 a1, .int .i64 a2, .int .i64 a3]) (.agg #[.int .i64 b0, .int .i64 b1, .int .i64 b2, .int .i64 b3])).run Tryz.prog w = .ok (.bool y) w := by
 rw [run_neq_struct, box_equal, ← hy]; rfl
theorem box_gneq (x y : Operand) (xs ys : Array Value) (w : World) : (eqGuard .neq 74 x y (.agg xs) (.agg ys)).run Tryz.prog w = .ok () w := run_eqGuard_agg w .neq _ x y xs ys box_guardT
theorem ratio_fields : Tryz.prog.underlying 64 = some (.struct (Tryz.prog.fieldsOf 64)) := by kernel_rfl
theorem ratio_held : Tryz.prog.stoodInHeld 64 = false := by kernel_rfl
theorem ratio_guardT : Tryz.prog.eqGuardType Tryz.prog.depth 64 = false := by kernel_rfl
theorem ratio_equal (a0 a1 b0 b1 : Int) (w : World) : (Op.equalIn 10000 64 (.agg #[.int .i64 a0, .int .i64 a1]) (.agg #[.int .i64 b0, .int .i64 b1])).run Tryz.prog w = .ok (decide (a0 = b0 ∧ a1 = b1)) w := by
 have u3 := Tryz.underlying3
 have a3' := Tryz.isAgg3
 have z3 := Tryz.sizeOf3
 rw [show (10000 : Nat) = 9999 + 1 from rfl, run_equalIn_agg w 9999 _ _ _ ratio_fields ratio_held]
 simp only [Program.fieldsOf, Tryz.underlying64]
 go_simp
 by_cases h0 : a0 = b0 <;> by_cases h1 : a1 = b1 <;> simp [h0, h1]
theorem ratio_neq (a0 a1 b0 b1 : Int) (y : Bool) (hy : (!decide (a0 = b0 ∧ a1 = b1)) = y) (w : World) : (binOp .neq 64 (.agg #[.int .i64 a0, .int .i64 a1]) (.agg #[.int .i64 b0, .int .i64 b1])).run Tryz.prog w = .ok (.bool y) w := by
 rw [run_neq_struct, ratio_equal, ← hy]; rfl
theorem ratio_eql (a0 a1 b0 b1 : Int) (y : Bool) (hy : decide (a0 = b0 ∧ a1 = b1) = y) (w : World) : (binOp .eql 64 (.agg #[.int .i64 a0, .int .i64 a1]) (.agg #[.int .i64 b0, .int .i64 b1])).run Tryz.prog w = .ok (.bool y) w := by
 rw [run_eql_struct, ratio_equal, ← hy]; rfl
theorem ratio_gneq (x y : Operand) (xs ys : Array Value) (w : World) : (eqGuard .neq 64 x y (.agg xs) (.agg ys)).run Tryz.prog w = .ok () w := run_eqGuard_agg w .neq _ x y xs ys ratio_guardT
theorem ratio_geql (x y : Operand) (xs ys : Array Value) (w : World) : (eqGuard .eql 64 x y (.agg xs) (.agg ys)).run Tryz.prog w = .ok () w := run_eqGuard_agg w .eql _ x y xs ys ratio_guardT
theorem test_fields : Tryz.prog.underlying 68 = some (.struct (Tryz.prog.fieldsOf 68)) := by kernel_rfl
theorem test_held : Tryz.prog.stoodInHeld 68 = false := by kernel_rfl
theorem test_guardT : Tryz.prog.eqGuardType Tryz.prog.depth 68 = false := by kernel_rfl
theorem test_equal (a0 : List UInt8) (a1 : Int) (a2 : List UInt8) (a3 a4 : Int) (b0 : List UInt8) (b1 : Int) (b2 : List UInt8) (b3 b4 : Int) (w : World) : (Op.equalIn 10000 68 (.agg #[.string ⟨a0.toArray⟩, .int .i64 a1, .string ⟨a2.toArray⟩, .int .i64 a3, .int .i64 a4]) (.agg #[.string ⟨b0.toArray⟩, .int .i64 b1, .string ⟨b2.toArray⟩, .int .i64 b3, .int .i64 b4])).run Tryz.prog w = .ok (decide (a0 = b0 ∧ a1 = b1 ∧ a2 = b2 ∧ a3 = b3 ∧ a4 = b4)) w := by
 have u3 := Tryz.underlying3
 have a3' := Tryz.isAgg3
 have z3 := Tryz.sizeOf3
 have u9 := Tryz.underlying9
 have a9' := Tryz.isAgg9
 have z9 := Tryz.sizeOf9
 rw [show (10000 : Nat) = 9999 + 1 from rfl, run_equalIn_agg w 9999 _ _ _ test_fields test_held]
 simp only [Program.fieldsOf, Tryz.underlying68]
 go_simp
 by_cases h0 : a0 = b0 <;> by_cases h1 : a1 = b1 <;> by_cases h2 : a2 = b2 <;> by_cases h3 : a3 = b3 <;> by_cases h4 : a4 = b4 <;> simp [h0, h1, h2, h3, h4]
theorem test_neq (a0 : List UInt8) (a1 : Int) (a2 : List UInt8) (a3 a4 : Int) (b0 : List UInt8) (b1 : Int) (b2 : List UInt8) (b3 b4 : Int) (y : Bool) (hy : (!decide (a0 = b0 ∧ a1 = b1 ∧ a2 = b2 ∧ a3 = b3 ∧ a4 = b4)) = y) (w : World) : (binOp .neq 68 (.agg #[.string ⟨a0.toArray⟩, .int .i64 a1, .string ⟨a2.toArray⟩, .int .i64 a3, .int .i64 a4]) (.agg #[.string ⟨b0.toArray⟩, .int .i64 b1, .string ⟨b2.toArray⟩, .int .i64 b3, .int .i64 b4])).run Tryz.prog w = .ok (.bool y) w := by
 rw [run_neq_struct, test_equal, ← hy]; rfl
theorem test_gneq (x y : Operand) (xs ys : Array Value) (w : World) : (eqGuard .neq 68 x y (.agg xs) (.agg ys)).run Tryz.prog w = .ok () w := run_eqGuard_agg w .neq _ x y xs ys test_guardT
end Go.Proofs.YtilfpnkcgjonhaaGreatDoor.Pr
namespace Go.Proofs.YtilfpnkcgjonhaaGreatDoor.Pr
open Go.RowKit Go.Sort Foyer.Printer Foyer.Lexer
theorem blk_later {X W : World} {b : Nat} {T : TypeId} {cs : List Value} (h : Blk X b T cs) (hb : Below X.heap.size X W) : Blk W b T cs := (hb.block _ h.lt).trans h
theorem take_same {α : Type} {xs ys : List α} {k : Nat} {x : α} (h : xs.take k = ys.take k) (hx : xs[k]? = some x) (hy : ys[k]? = some x) : xs.take (k + 1) = ys.take (k + 1) := by
 obtain ⟨h1, h2⟩ := List.getElem?_eq_some_iff.1 hx
 obtain ⟨h3, h4⟩ := List.getElem?_eq_some_iff.1 hy
 rw [List.take_succ_eq_append_getElem h1, List.take_succ_eq_append_getElem h3, h, h2, h4]
theorem ne_at {α : Type} {xs ys : List α} {k : Nat} {x y : α} (hx : xs[k]? = some x) (hy : ys[k]? = some y) (h : ¬ x = y) : ¬ xs = ys := by
 intro e
 subst e
 rw [hx] at hy
 exact h (Option.some.inj hy)
set_option linter.unusedSimpArgs false in
set_option maxRecDepth 100000 in
set_option maxHeartbeats 4000000 in
theorem boxes_same (xs ys : List BoxZ) (v v' : Value) (w : World) (h : Lk boxL w w.heap.size v xs) (h' : Lk boxL w w.heap.size v' ys) :
  Calls Tryz.prog 59 #[v, v'] w fun e w' => e = .returned (.bool (decide (xs = ys))) ∧ Below w.heap.size w w' := by
 obtain ⟨r, hr⟩ : ∃ r, decide (xs = ys) = r := ⟨_, rfl⟩
 rw [hr]
 obtain ⟨p, c, rfl⟩ := h.slice
 obtain ⟨p', c', rfl⟩ := h'.slice
 obtain ⟨n, hn⟩ : ∃ n, xs.length = n := ⟨_, rfl⟩
 obtain ⟨n', hn'⟩ : ∃ n', ys.length = n' := ⟨_, rfl⟩
 rw [hn] at h; rw [hn'] at h'
 rw [hn, hn']
 have hn9 : n ≤ 9223372036854775807 := by have := h.len.2; unfold maxLen at this; omega
 have HL := hid h; have HL' := hid h'; have HN := hid hn; have HN' := hid hn'; have HR := hid hr
 have HB0 := hid (Below.refl w.heap.size w)
 clear hn hn' h h' hr
 by_cases hl : n = n'
 ·subst hl
  go_enter Tryz.func59, Tryz.ntmps59
  go_wp2
  go_loopw [5] (fun i wr => ∃ k : Nat, i = .int .i64 k ∧ k ≤ n ∧ Hid (xs.take k = ys.take k) ∧ Hid (Below w.heap.size w wr)) (fun i _ => n - (intOf i).toNat)
  case atStart => exact ⟨0, rfl, Nat.zero_le _, hid (by simp), HB0⟩
  case round =>
   obtain ⟨k, rfl, hk, HS, HB⟩ := hrel
   by_cases hk2 : k < n
   ·obtain ⟨x, hx⟩ : ∃ m, xs[k]? = some m := ⟨_, List.getElem?_eq_getElem (by have := HN.out; omega)⟩
    obtain ⟨y, hy⟩ : ∃ m, ys[k]? = some m := ⟨_, List.getElem?_eq_getElem (by have := HN'.out; omega)⟩
    obtain ⟨g, go, cs, rfl, hg, hc, hcell⟩ := (HL.out.below HB.out).at hx
    obtain rfl := hc
    obtain ⟨g', go', cs', rfl, hg', hc', hcell'⟩ := (HL'.out.below HB.out).at hy
    obtain rfl := hc'
    have d0 := hcell 0 _ rfl
    have d1 := hcell 1 _ rfl
    have d2 := hcell 2 _ rfl
    have d3 := hcell 3 _ rfl
    have d0' := hcell' 0 _ rfl
    have d1' := hcell' 1 _ rfl
    have d2' := hcell' 2 _ rfl
    have d3' := hcell' 3 _ rfl
    rw [show boxL.size = 4 from rfl] at d0 d1 d2 d3 d0' d1' d2' d3'
    rw [Nat.add_zero] at d0 d0'
    have hki : (0 : Int) ≤ k ∧ (k : Int) < n := by omega
    have mg := fun x y xs ys w => box_gneq x y xs ys w
    have HX := hid hx; have HY := hid hy
    clear hcell hcell' hx hy hg hg'
    by_cases hxy : x = y
    ·have me := fun w => box_neq x.x x.y x.x2 x.y2 y.x y.y y.x2 y.y2 false (by subst hxy; simp) w
     have HT := hid (take_same HS.out HX.out (by rw [hxy]; exact HY.out))
     clear hxy
     go_wp2
     go_quiet (fail)
     go_wp2
     refine ⟨⟨k + 1, by go_num, by omega, HT, hid (below_drewN HB.out _)⟩, ?_⟩
     simp [intOf]; omega
    ·have me := fun w => box_neq x.x x.y x.x2 x.y2 y.x y.y y.x2 y.y2 true (by rw [decide_eq_false (fun ⟨e1, e2, e3, e4⟩ => hxy (by cases x; cases y; simp_all))]; rfl) w
     obtain rfl : r = false := by rw [← HR.out]; exact decide_eq_false (ne_at HX.out HY.out hxy)
     clear hxy
     go_wp2
     go_quiet (fail)
     go_wp2
     go_ret
     exact ⟨rfl, below_drewN HB.out _⟩
   ·obtain rfl : k = n := by omega
    obtain rfl : r = true := by rw [← HR.out]; exact decide_eq_true (by rw [← List.take_of_length_le (l := xs) (i := k) (by have := HN.out; omega), HS.out, List.take_of_length_le (by have := HN'.out; omega)])
    go_wp2
    go_ret
    exact ⟨rfl, HB.out⟩
 ·have e : ¬ ((n : Int) = n') := by omega
  obtain rfl : r = false := by rw [← HR.out]; exact decide_eq_false (fun e => hl (by rw [← HN.out, ← HN'.out, e]))
  go_enter Tryz.func59, Tryz.ntmps59
  go_wp2
  go_ret
  exact ⟨rfl, HB0.out⟩
set_option linter.unusedSimpArgs false in
set_option maxRecDepth 100000 in
set_option maxHeartbeats 4000000 in
theorem row_same (a b : RowZ) (v v' : Value) (w : World) (h : Lk markL w w.heap.size v a.marks) (h' : Lk markL w w.heap.size v' b.marks) :
  Calls Tryz.prog 60 #[.agg (rowZC a v).toArray, .agg (rowZC b v').toArray] w fun e w' => e = .returned (.bool (decide (a.bare = b.bare))) ∧ Below w.heap.size w w' := by
 obtain ⟨r, hr⟩ : ∃ r, decide (a.bare = b.bare) = r := ⟨_, rfl⟩
 rw [hr]
 obtain ⟨p, c, rfl⟩ := h.slice
 obtain ⟨p', c', rfl⟩ := h'.slice
 obtain ⟨nm, x, y, f, l, st, ms, ps⟩ := a
 obtain ⟨nm', x', y', f', l', st', ms', ps'⟩ := b
 simp only [RowZ.bare] at h h' hr ⊢
 obtain ⟨n, hn⟩ : ∃ n, ms.length = n := ⟨_, rfl⟩
 obtain ⟨n', hn'⟩ : ∃ n', ms'.length = n' := ⟨_, rfl⟩
 rw [hn] at h; rw [hn'] at h'
 rw [hn, hn']
 show Calls Tryz.prog 60 #[.agg #[.string ⟨nm.toArray⟩, .int .i64 x, .int .i64 y, .int .i64 f, .int .i64 l, .int .i64 st, .slice p n c, .int .i64 ps], .agg #[.string ⟨nm'.toArray⟩, .int .i64 x', .int .i64 y', .int .i64 f', .int .i64 l', .int .i64 st', .slice p' n' c', .int .i64 ps']] w _
 have hn9 : n ≤ 9223372036854775807 := by have := h.len.2; unfold maxLen at this; omega
 have HL := hid h; have HL' := hid h'; have HN := hid hn; have HN' := hid hn'; have HR := hid hr
 clear hn hn' h h' hr
 rcases (Decidable.em (nm = nm')).symm with h0 | h0
 ·have e0 : (nm != nm') = true := by simpa using h0
  obtain rfl : r = false := by
   rw [← HR.out]
   refine decide_eq_false fun e => h0 ?_
   simp only [RowZ.mk.injEq] at e
   exact e.1
  have hb : Below w.heap.size w ((w.alloc (.cells #[.string ⟨nm.toArray⟩, .int .i64 x, .int .i64 y, .int .i64 f, .int .i64 l, .int .i64 st, .slice p n c, .int .i64 ps] 40)).alloc (.cells #[.string ⟨nm'.toArray⟩, .int .i64 x', .int .i64 y', .int .i64 f', .int .i64 l', .int .i64 st', .slice p' n' c', .int .i64 ps'] 40)) := ((Below.refl _ _).alloc (Nat.le_refl _) _).alloc (by simp) _
  have WB := hid hb
  clear hb
  go_enter Tryz.func60, Tryz.ntmps60
  go_wp2
  go_ret
  exact ⟨rfl, WB.out⟩
 subst h0
 have e0 : (nm != nm) = false := by simp
 rcases (Decidable.em (x = x')).symm with h1 | h1
 ·have e1 : ¬ (x = x') := h1
  obtain rfl : r = false := by
   rw [← HR.out]
   refine decide_eq_false fun e => h1 ?_
   simp only [RowZ.mk.injEq] at e
   exact e.2.1
  have hb : Below w.heap.size w ((w.alloc (.cells #[.string ⟨nm.toArray⟩, .int .i64 x, .int .i64 y, .int .i64 f, .int .i64 l, .int .i64 st, .slice p n c, .int .i64 ps] 40)).alloc (.cells #[.string ⟨nm.toArray⟩, .int .i64 x', .int .i64 y', .int .i64 f', .int .i64 l', .int .i64 st', .slice p' n' c', .int .i64 ps'] 40)) := ((Below.refl _ _).alloc (Nat.le_refl _) _).alloc (by simp) _
  have WB := hid hb
  clear hb
  go_enter Tryz.func60, Tryz.ntmps60
  go_wp2
  go_ret
  exact ⟨rfl, WB.out⟩
 subst h1
 rcases (Decidable.em (y = y')).symm with h2 | h2
 ·have e2 : ¬ (y = y') := h2
  obtain rfl : r = false := by
   rw [← HR.out]
   refine decide_eq_false fun e => h2 ?_
   simp only [RowZ.mk.injEq] at e
   exact e.2.2.1
  have hb : Below w.heap.size w ((w.alloc (.cells #[.string ⟨nm.toArray⟩, .int .i64 x, .int .i64 y, .int .i64 f, .int .i64 l, .int .i64 st, .slice p n c, .int .i64 ps] 40)).alloc (.cells #[.string ⟨nm.toArray⟩, .int .i64 x, .int .i64 y', .int .i64 f', .int .i64 l', .int .i64 st', .slice p' n' c', .int .i64 ps'] 40)) := ((Below.refl _ _).alloc (Nat.le_refl _) _).alloc (by simp) _
  have WB := hid hb
  clear hb
  go_enter Tryz.func60, Tryz.ntmps60
  go_wp2
  go_ret
  exact ⟨rfl, WB.out⟩
 subst h2
 rcases (Decidable.em (f = f')).symm with h3 | h3
 ·have e3 : ¬ (f = f') := h3
  obtain rfl : r = false := by
   rw [← HR.out]
   refine decide_eq_false fun e => h3 ?_
   simp only [RowZ.mk.injEq] at e
   exact e.2.2.2.1
  have hb : Below w.heap.size w ((w.alloc (.cells #[.string ⟨nm.toArray⟩, .int .i64 x, .int .i64 y, .int .i64 f, .int .i64 l, .int .i64 st, .slice p n c, .int .i64 ps] 40)).alloc (.cells #[.string ⟨nm.toArray⟩, .int .i64 x, .int .i64 y, .int .i64 f', .int .i64 l', .int .i64 st', .slice p' n' c', .int .i64 ps'] 40)) := ((Below.refl _ _).alloc (Nat.le_refl _) _).alloc (by simp) _
  have WB := hid hb
  clear hb
  go_enter Tryz.func60, Tryz.ntmps60
  go_wp2
  go_ret
  exact ⟨rfl, WB.out⟩
 subst h3
 rcases (Decidable.em (l = l')).symm with h4 | h4
 ·have e4 : ¬ (l = l') := h4
  obtain rfl : r = false := by
   rw [← HR.out]
   refine decide_eq_false fun e => h4 ?_
   simp only [RowZ.mk.injEq] at e
   exact e.2.2.2.2.1
  have hb : Below w.heap.size w ((w.alloc (.cells #[.string ⟨nm.toArray⟩, .int .i64 x, .int .i64 y, .int .i64 f, .int .i64 l, .int .i64 st, .slice p n c, .int .i64 ps] 40)).alloc (.cells #[.string ⟨nm.toArray⟩, .int .i64 x, .int .i64 y, .int .i64 f, .int .i64 l', .int .i64 st', .slice p' n' c', .int .i64 ps'] 40)) := ((Below.refl _ _).alloc (Nat.le_refl _) _).alloc (by simp) _
  have WB := hid hb
  clear hb
  go_enter Tryz.func60, Tryz.ntmps60
  go_wp2
  go_ret
  exact ⟨rfl, WB.out⟩
 subst h4
 rcases (Decidable.em (st = st')).symm with h5 | h5
 ·have e5 : ¬ (st = st') := h5
  obtain rfl : r = false := by
   rw [← HR.out]
   refine decide_eq_false fun e => h5 ?_
   simp only [RowZ.mk.injEq] at e
   exact e.2.2.2.2.2.1
  have hb : Below w.heap.size w ((w.alloc (.cells #[.string ⟨nm.toArray⟩, .int .i64 x, .int .i64 y, .int .i64 f, .int .i64 l, .int .i64 st, .slice p n c, .int .i64 ps] 40)).alloc (.cells #[.string ⟨nm.toArray⟩, .int .i64 x, .int .i64 y, .int .i64 f, .int .i64 l, .int .i64 st', .slice p' n' c', .int .i64 ps'] 40)) := ((Below.refl _ _).alloc (Nat.le_refl _) _).alloc (by simp) _
  have WB := hid hb
  clear hb
  go_enter Tryz.func60, Tryz.ntmps60
  go_wp2
  go_ret
  exact ⟨rfl, WB.out⟩
 subst h5
 rcases (Decidable.em (n = n')).symm with h6 | h6
 ·have e6 : ¬ ((n : Int) = n') := by omega
  obtain rfl : r = false := by
   rw [← HR.out]
   refine decide_eq_false fun e => h6 ?_
   simp only [RowZ.mk.injEq] at e
   rw [← HN.out, ← HN'.out, e.2.2.2.2.2.2.1]
  have hb : Below w.heap.size w ((w.alloc (.cells #[.string ⟨nm.toArray⟩, .int .i64 x, .int .i64 y, .int .i64 f, .int .i64 l, .int .i64 st, .slice p n c, .int .i64 ps] 40)).alloc (.cells #[.string ⟨nm.toArray⟩, .int .i64 x, .int .i64 y, .int .i64 f, .int .i64 l, .int .i64 st, .slice p' n' c', .int .i64 ps'] 40)) := ((Below.refl _ _).alloc (Nat.le_refl _) _).alloc (by simp) _
  have WB := hid hb
  clear hb
  go_enter Tryz.func60, Tryz.ntmps60
  go_wp2
  go_ret
  exact ⟨rfl, WB.out⟩
 subst h6
 have hb : Below w.heap.size w ((w.alloc (.cells #[.string ⟨nm.toArray⟩, .int .i64 x, .int .i64 y, .int .i64 f, .int .i64 l, .int .i64 st, .slice p n c, .int .i64 ps] 40)).alloc (.cells #[.string ⟨nm.toArray⟩, .int .i64 x, .int .i64 y, .int .i64 f, .int .i64 l, .int .i64 st, .slice p' n c', .int .i64 ps'] 40)) := ((Below.refl _ _).alloc (Nat.le_refl _) _).alloc (by simp) _
 have X1 := hid ((Blk.new w 40 [.string ⟨nm.toArray⟩, .int .i64 x, .int .i64 y, .int .i64 f, .int .i64 l, .int .i64 st, .slice p n c, .int .i64 ps]).alloc (.cells #[.string ⟨nm.toArray⟩, .int .i64 x, .int .i64 y, .int .i64 f, .int .i64 l, .int .i64 st, .slice p' n c', .int .i64 ps'] 40))
 have x2 := Blk.new (w.alloc (.cells #[.string ⟨nm.toArray⟩, .int .i64 x, .int .i64 y, .int .i64 f, .int .i64 l, .int .i64 st, .slice p n c, .int .i64 ps] 40)) 40 [.string ⟨nm.toArray⟩, .int .i64 x, .int .i64 y, .int .i64 f, .int .i64 l, .int .i64 st, .slice p' n c', .int .i64 ps']
 rw [World.size_alloc] at x2
 have X2 := hid x2
 have HM := hid ((HL.out.below hb).mono hb.size)
 have HM' := hid ((HL'.out.below hb).mono hb.size)
 have WB := hid hb
 clear hb x2
 go_enter Tryz.func60, Tryz.ntmps60
 go_upto_region 1 with fail
 generalize (w.alloc (.cells #[.string ⟨nm.toArray⟩, .int .i64 x, .int .i64 y, .int .i64 f, .int .i64 l, .int .i64 st, .slice p n c, .int .i64 ps] 40)).alloc (.cells #[.string ⟨nm.toArray⟩, .int .i64 x, .int .i64 y, .int .i64 f, .int .i64 l, .int .i64 st, .slice p' n c', .int .i64 ps'] 40) = W at *
 have y0 := X1.out.cell (i := 0) rfl
 have y1 := X1.out.cell (i := 1) rfl
 have y2 := X1.out.cell (i := 2) rfl
 have y3 := X1.out.cell (i := 3) rfl
 have y4 := X1.out.cell (i := 4) rfl
 have y5 := X1.out.cell (i := 5) rfl
 have y6 := X1.out.cell (i := 6) rfl
 have y7 := X1.out.cell (i := 7) rfl
 have z0 := X2.out.cell (i := 0) rfl
 have z1 := X2.out.cell (i := 1) rfl
 have z2 := X2.out.cell (i := 2) rfl
 have z3 := X2.out.cell (i := 3) rfl
 have z4 := X2.out.cell (i := 4) rfl
 have z5 := X2.out.cell (i := 5) rfl
 have z6 := X2.out.cell (i := 6) rfl
 have z7 := X2.out.cell (i := 7) rfl
 have HB0 := hid (Below.refl W.heap.size W)
 go_wp2
 go_loopw [5] (fun i wr => ∃ k : Nat, i = .int .i64 k ∧ k ≤ n ∧ Hid (ms.take k = ms'.take k) ∧ Hid (Below W.heap.size W wr)) (fun i _ => n - (intOf i).toNat)
 case atStart => exact ⟨0, rfl, Nat.zero_le _, hid (by simp), HB0⟩
 case round =>
  obtain ⟨k, rfl, hk, HS, HB⟩ := hrel
  clear y0 z0 y1 z1 y2 z2 y3 z3 y4 z4 y5 z5 y6 z6 y7 z7
  have y6 := (blk_later X1.out HB.out).cell (i := 6) rfl
  have z6 := (blk_later X2.out HB.out).cell (i := 6) rfl
  by_cases hk2 : k < n
  ·obtain ⟨x, hx⟩ : ∃ m, ms[k]? = some m := ⟨_, List.getElem?_eq_getElem (by have := HN.out; omega)⟩
   obtain ⟨y, hy⟩ : ∃ m, ms'[k]? = some m := ⟨_, List.getElem?_eq_getElem (by have := HN'.out; omega)⟩
   obtain ⟨g, go, cs, rfl, hg, hc, hcell⟩ := (HM.out.below HB.out).at hx
   obtain rfl := hc
   obtain ⟨g', go', cs', rfl, hg', hc', hcell'⟩ := (HM'.out.below HB.out).at hy
   obtain rfl := hc'
   have d0 := hcell 0 _ rfl
   have d1 := hcell 1 _ rfl
   have d2 := hcell 2 _ rfl
   have d0' := hcell' 0 _ rfl
   have d1' := hcell' 1 _ rfl
   have d2' := hcell' 2 _ rfl
   rw [show markL.size = 3 from rfl] at d0 d1 d2 d0' d1' d2'
   rw [Nat.add_zero] at d0 d0'
   have hki : (0 : Int) ≤ k ∧ (k : Int) < n := by omega
   have mg := fun x y xs ys w => mark_gneq x y xs ys w
   have HX := hid hx; have HY := hid hy
   clear hcell hcell' hx hy hg hg'
   by_cases hxy : x = y
   ·have me := fun w => mark_neq x.kind x.seat x.other y.kind y.seat y.other false (by subst hxy; simp) w
    have HT := hid (take_same HS.out HX.out (by rw [hxy]; exact HY.out))
    clear hxy
    go_wp2
    go_quiet (fail)
    go_wp2
    refine ⟨⟨k + 1, by go_num, by omega, HT, hid (below_drewN HB.out _)⟩, ?_⟩
    simp [intOf]; omega
   ·have me := fun w => mark_neq x.kind x.seat x.other y.kind y.seat y.other true (by rw [decide_eq_false (fun ⟨e1, e2, e3⟩ => hxy (by cases x; cases y; simp_all))]; rfl) w
    obtain rfl : r = false := by
     rw [← HR.out]
     refine decide_eq_false fun e => ne_at HX.out HY.out hxy ?_
     simp only [RowZ.mk.injEq] at e
     exact e.2.2.2.2.2.2.1
    clear hxy
    go_wp2
    go_quiet (fail)
    go_wp2
    go_ret
    exact ⟨rfl, WB.out.trans ((below_drewN HB.out _).mono WB.out.size)⟩
  ·obtain rfl : k = n := by omega
   obtain rfl : r = true := by
    rw [← HR.out]
    refine decide_eq_true ?_
    rw [← List.take_of_length_le (l := ms) (i := k) (by have := HN.out; omega), HS.out, List.take_of_length_le (by have := HN'.out; omega)]
   go_wp2
   go_ret
   exact ⟨rfl, WB.out.trans (HB.out.mono WB.out.size)⟩
end Go.Proofs.YtilfpnkcgjonhaaGreatDoor.Pr
