/-
  The law's own examples.
-/
import Derived.Test.YtilfpnkcgjonhaaGreatDoorZPrintR
namespace Go.Proofs.YtilfpnkcgjonhaaGreatDoor.Pr
open Go.RowKit Go.Sort Foyer.Printer Foyer.Lexer
section
variable {α : Type} {K : Look α} {W : World} {B b : Nat} {T : TypeId}
theorem lk_nil (K : Look α) (W : World) (B : Nat) : Lk K W B (.slice none 0 0) [] := ⟨none, 0, rfl, Nat.le_refl _, by unfold maxLen; omega, Or.inl rfl⟩
theorem lk1 {c : List Value} {x : α} (h : Blk W b T c) (hc : K.is W B c x) (hb : b < B) : Lk K W B (.slice (some ⟨b, 0, none⟩) 1 1) [x] := by
 refine ⟨_, 1, rfl, Nat.le_refl _, by unfold maxLen; omega, Or.inr ⟨b, 0, rfl, hb, fun i y hy => ?_⟩⟩
 match i, hy with
 | 0, hy =>
  cases hy
  exact ⟨c, hc, fun j u hj => by rw [Nat.zero_mul, Nat.zero_add]; exact h.cell hj⟩
theorem lk2 {c d : List Value} {x y : α} (h : Blk W b T (c ++ d)) (hc : K.is W B c x) (hd : K.is W B d y) (hb : b < B) : Lk K W B (.slice (some ⟨b, 0, none⟩) 2 2) [x, y] := by
 have hl := K.len hc
 refine ⟨_, 2, rfl, Nat.le_refl _, by unfold maxLen; omega, Or.inr ⟨b, 0, rfl, hb, fun i z hz => ?_⟩⟩
 match i, hz with
 | 0, hz =>
  cases hz
  exact ⟨c, hc, fun j u hj => by
   rw [Nat.zero_mul, Nat.zero_add]
   exact h.cell (by rw [List.getElem?_append_left (List.getElem?_eq_some_iff.1 hj).1]; exact hj)⟩
 | 1, hz =>
  cases hz
  exact ⟨d, hd, fun j u hj => by
   rw [Nat.one_mul, Nat.zero_add]
   exact h.cell (by rw [List.getElem?_append_right (by omega), hl, Nat.add_sub_cancel_left]; exact hj)⟩
end
def exRow : RowZ := ⟨[97], 10, 20, 1, 4, 2, [⟨1, 3, 0⟩, ⟨4, 2, 1⟩], 0⟩
def exLevel : LevelZ := ⟨[108, 111, 119], 7, [⟨[98], [exRow], 0⟩], [⟨[112, 105, 116], ⟨0, 0, 3, 4⟩, 9, 0⟩], [⟨1, 2, 3, 4⟩], [], [⟨1, 3⟩], 0⟩
def exHall : HallZ := ⟨[104], ⟨5, 0⟩, [exLevel]⟩
def exBad : HallZ := ⟨[49], ⟨5, 0⟩, [exLevel]⟩
def exRules : List ItemZ := [⟨1, [120], [[⟨[116, 105, 109, 101], 6, [], 5, 0⟩, ⟨[98, 108, 111, 99, 107], 2, [108, 111, 119, 46, 98], 0, 0⟩], [⟨[97, 103, 101], 3, [], 18, 0⟩]], 2, ⟨0, 0⟩, ⟨0, 0⟩, 0⟩, ⟨3, [112], [], 1000, ⟨1, 10⟩, ⟨0, 1⟩, 0⟩]
def exText : List UInt8 := hallT exHall
def exRText : List UInt8 := rulesT exRules
theorem exHall_all : (hallAll exHall).1 = exText ∧ (hallAll exHall).2 = 0 := by decide +kernel
theorem exBad_all : (hallAll exBad).2 = 1 := by decide +kernel
theorem exRules_all : (rulesAll exRules).1 = exRText ∧ (rulesAll exRules).2 = 0 := by decide +kernel
theorem fit_level : LevelZ.Fit exLevel := by
 refine ⟨by show _ ≤ _; decide, by show _ ∧ _; decide, ?_, ?_, ?_, ?_, ?_⟩
 ·intro x hx
  simp only [exLevel, List.mem_singleton] at hx
  subst hx
  refine ⟨by show _ ≤ _; decide, fun r hr => ?_⟩
  rw [List.mem_singleton] at hr
  subst hr
  refine ⟨by show _ ≤ _; decide, by show _ ∧ _; decide, by show _ ∧ _; decide, by show _ ∧ _; decide, by show _ ∧ _; decide, by show _ ∧ _; decide, fun m hm => ?_⟩
  simp only [exRow, List.mem_cons, List.not_mem_nil, or_false] at hm
  rcases hm with rfl | rfl <;> exact ⟨by show _ ∧ _; decide, by show _ ∧ _; decide, by show _ ∧ _; decide⟩
 ·intro x hx
  simp only [exLevel, List.mem_singleton] at hx
  subst hx
  exact ⟨by show _ ≤ _; decide, ⟨by show _ ∧ _; decide, by show _ ∧ _; decide, by show _ ∧ _; decide, by show _ ∧ _; decide⟩, by show _ ∧ _; decide⟩
 ·intro x hx
  simp only [exLevel, List.mem_singleton] at hx
  subst hx
  exact ⟨by show _ ∧ _; decide, by show _ ∧ _; decide, by show _ ∧ _; decide, by show _ ∧ _; decide⟩
 ·intro x hx
  simp [exLevel] at hx
 ·intro x hx
  simp only [exLevel, List.mem_singleton] at hx
  subst hx
  exact ⟨by show _ ∧ _; decide, by show _ ∧ _; decide⟩
theorem fit_levels : ∀ l ∈ [exLevel], LevelZ.Fit l := fun l hl => by rw [List.mem_singleton] at hl; subst hl; exact fit_level
theorem fit_hall : HallZ.Fit exHall := ⟨by show _ ≤ _; decide, ⟨by show _ ∧ _; decide, by show _ ∧ _; decide⟩, fit_levels⟩
theorem fit_bad : HallZ.Fit exBad := ⟨by show _ ≤ _; decide, ⟨by show _ ∧ _; decide, by show _ ∧ _; decide⟩, fit_levels⟩
theorem fit_rules : ∀ x ∈ exRules, ItemZ.Fit x := by
 intro x hx
 simp only [exRules, List.mem_cons, List.not_mem_nil, or_false] at hx
 rcases hx with rfl | rfl
 ·refine ⟨by show _ ∧ _; decide, by show _ ≤ _; decide, fun l hl t ht => ?_, by show _ ∧ _; decide, ⟨by show _ ∧ _; decide, by show _ ∧ _; decide⟩, ⟨by show _ ∧ _; decide, by show _ ∧ _; decide⟩⟩
  simp only [List.mem_cons, List.not_mem_nil, or_false] at hl
  rcases hl with rfl | rfl
  ·simp only [List.mem_cons, List.not_mem_nil, or_false] at ht
   rcases ht with rfl | rfl <;> exact ⟨by show _ ≤ _; decide, by show _ ∧ _; decide, by show _ ≤ _; decide, by show _ ∧ _; decide⟩
  ·rw [List.mem_singleton] at ht
   subst ht
   exact ⟨by show _ ≤ _; decide, by show _ ∧ _; decide, by show _ ≤ _; decide, by show _ ∧ _; decide⟩
 ·exact ⟨by show _ ∧ _; decide, by show _ ≤ _; decide, fun l hl => (by simp at hl), by show _ ∧ _; decide, ⟨by show _ ∧ _; decide, by show _ ∧ _; decide⟩, ⟨by show _ ∧ _; decide, by show _ ∧ _; decide⟩⟩
set_option linter.unusedSimpArgs false in
set_option maxRecDepth 100000 in
set_option maxHeartbeats 4000000 in
theorem head_any (w0 : World) (hE : Env w0) : Calls Tryz.prog 11 #[] w0 fun e w' => e = .returned (.bool true) ∧ Below w0.heap.size w0 w' := by
 obtain ⟨H, hH⟩ : ∃ H, w0.heap.size = H := ⟨_, rfl⟩
 have hn0 : Blk (w0.alloc (.cells #[.int .i64 1, .int .i64 3, .int .i64 0, .int .i64 4, .int .i64 2, .int .i64 1] 72)) w0.heap.size 72 [.int .i64 1, .int .i64 3, .int .i64 0, .int .i64 4, .int .i64 2, .int .i64 1] := Blk.new _ _ _
 obtain ⟨w1, hw1⟩ : ∃ W, w0.alloc (.cells #[.int .i64 1, .int .i64 3, .int .i64 0, .int .i64 4, .int .i64 2, .int .i64 1] 72) = W := ⟨_, rfl⟩
 have hs1 : w1.heap.size = H + 1 := by rw [← hw1, World.size_alloc, hH]
 have hb1 : Below w0.heap.size w0 w1 := by rw [← hw1]; exact (Below.refl _ _).alloc (Nat.le_refl _) _
 rw [hw1, hH] at hn0
 have hn1 : Blk (w1.alloc (.cells #[.string ⟨#[97]⟩, .int .i64 10, .int .i64 20, .int .i64 1, .int .i64 4, .int .i64 2, .slice (some ⟨H, 0, none⟩) 2 2, .int .i64 0] 40)) w1.heap.size 40 [.string ⟨#[97]⟩, .int .i64 10, .int .i64 20, .int .i64 1, .int .i64 4, .int .i64 2, .slice (some ⟨H, 0, none⟩) 2 2, .int .i64 0] := Blk.new _ _ _
 obtain ⟨w2, hw2⟩ : ∃ W, w1.alloc (.cells #[.string ⟨#[97]⟩, .int .i64 10, .int .i64 20, .int .i64 1, .int .i64 4, .int .i64 2, .slice (some ⟨H, 0, none⟩) 2 2, .int .i64 0] 40) = W := ⟨_, rfl⟩
 have hs2 : w2.heap.size = H + 1 + 1 := by rw [← hw2, World.size_alloc, hs1]
 have hb2 : Below w0.heap.size w0 w2 := by rw [← hw2]; exact hb1.alloc (by omega) _
 rw [hw2, hs1] at hn1
 replace hn0 := hn0.alloc (.cells #[.string ⟨#[97]⟩, .int .i64 10, .int .i64 20, .int .i64 1, .int .i64 4, .int .i64 2, .slice (some ⟨H, 0, none⟩) 2 2, .int .i64 0] 40)
 rw [hw2] at hn0
 have hn2 : Blk (w2.alloc (.cells #[.string ⟨#[97]⟩, .int .i64 10, .int .i64 20, .int .i64 1, .int .i64 4, .int .i64 2, .slice (some ⟨H, 0, none⟩) 2 2, .int .i64 0] 40)) w2.heap.size 40 [.string ⟨#[97]⟩, .int .i64 10, .int .i64 20, .int .i64 1, .int .i64 4, .int .i64 2, .slice (some ⟨H, 0, none⟩) 2 2, .int .i64 0] := Blk.new _ _ _
 obtain ⟨w3, hw3⟩ : ∃ W, w2.alloc (.cells #[.string ⟨#[97]⟩, .int .i64 10, .int .i64 20, .int .i64 1, .int .i64 4, .int .i64 2, .slice (some ⟨H, 0, none⟩) 2 2, .int .i64 0] 40) = W := ⟨_, rfl⟩
 have hs3 : w3.heap.size = H + 1 + 1 + 1 := by rw [← hw3, World.size_alloc, hs2]
 have hb3 : Below w0.heap.size w0 w3 := by rw [← hw3]; exact hb2.alloc (by omega) _
 rw [hw3, hs2] at hn2
 replace hn0 := hn0.alloc (.cells #[.string ⟨#[97]⟩, .int .i64 10, .int .i64 20, .int .i64 1, .int .i64 4, .int .i64 2, .slice (some ⟨H, 0, none⟩) 2 2, .int .i64 0] 40)
 rw [hw3] at hn0
 replace hn1 := hn1.alloc (.cells #[.string ⟨#[97]⟩, .int .i64 10, .int .i64 20, .int .i64 1, .int .i64 4, .int .i64 2, .slice (some ⟨H, 0, none⟩) 2 2, .int .i64 0] 40)
 rw [hw3] at hn1
 have hn3 : Blk (w3.alloc (.cells #[.string ⟨#[98]⟩, .slice (some ⟨H + 1 + 1, 0, none⟩) 1 1, .int .i64 0] 44)) w3.heap.size 44 [.string ⟨#[98]⟩, .slice (some ⟨H + 1 + 1, 0, none⟩) 1 1, .int .i64 0] := Blk.new _ _ _
 obtain ⟨w4, hw4⟩ : ∃ W, w3.alloc (.cells #[.string ⟨#[98]⟩, .slice (some ⟨H + 1 + 1, 0, none⟩) 1 1, .int .i64 0] 44) = W := ⟨_, rfl⟩
 have hs4 : w4.heap.size = H + 1 + 1 + 1 + 1 := by rw [← hw4, World.size_alloc, hs3]
 have hb4 : Below w0.heap.size w0 w4 := by rw [← hw4]; exact hb3.alloc (by omega) _
 rw [hw4, hs3] at hn3
 replace hn0 := hn0.alloc (.cells #[.string ⟨#[98]⟩, .slice (some ⟨H + 1 + 1, 0, none⟩) 1 1, .int .i64 0] 44)
 rw [hw4] at hn0
 replace hn1 := hn1.alloc (.cells #[.string ⟨#[98]⟩, .slice (some ⟨H + 1 + 1, 0, none⟩) 1 1, .int .i64 0] 44)
 rw [hw4] at hn1
 replace hn2 := hn2.alloc (.cells #[.string ⟨#[98]⟩, .slice (some ⟨H + 1 + 1, 0, none⟩) 1 1, .int .i64 0] 44)
 rw [hw4] at hn2
 have hn4 : Blk (w4.alloc (.cells #[.string ⟨#[112, 105, 116]⟩, .int .i64 0, .int .i64 0, .int .i64 3, .int .i64 4, .int .i64 9, .int .i64 0] 76)) w4.heap.size 76 [.string ⟨#[112, 105, 116]⟩, .int .i64 0, .int .i64 0, .int .i64 3, .int .i64 4, .int .i64 9, .int .i64 0] := Blk.new _ _ _
 obtain ⟨w5, hw5⟩ : ∃ W, w4.alloc (.cells #[.string ⟨#[112, 105, 116]⟩, .int .i64 0, .int .i64 0, .int .i64 3, .int .i64 4, .int .i64 9, .int .i64 0] 76) = W := ⟨_, rfl⟩
 have hs5 : w5.heap.size = H + 1 + 1 + 1 + 1 + 1 := by rw [← hw5, World.size_alloc, hs4]
 have hb5 : Below w0.heap.size w0 w5 := by rw [← hw5]; exact hb4.alloc (by omega) _
 rw [hw5, hs4] at hn4
 replace hn0 := hn0.alloc (.cells #[.string ⟨#[112, 105, 116]⟩, .int .i64 0, .int .i64 0, .int .i64 3, .int .i64 4, .int .i64 9, .int .i64 0] 76)
 rw [hw5] at hn0
 replace hn1 := hn1.alloc (.cells #[.string ⟨#[112, 105, 116]⟩, .int .i64 0, .int .i64 0, .int .i64 3, .int .i64 4, .int .i64 9, .int .i64 0] 76)
 rw [hw5] at hn1
 replace hn2 := hn2.alloc (.cells #[.string ⟨#[112, 105, 116]⟩, .int .i64 0, .int .i64 0, .int .i64 3, .int .i64 4, .int .i64 9, .int .i64 0] 76)
 rw [hw5] at hn2
 replace hn3 := hn3.alloc (.cells #[.string ⟨#[112, 105, 116]⟩, .int .i64 0, .int .i64 0, .int .i64 3, .int .i64 4, .int .i64 9, .int .i64 0] 76)
 rw [hw5] at hn3
 have hn5 : Blk (w5.alloc (.cells #[.int .i64 1, .int .i64 2, .int .i64 3, .int .i64 4] 74)) w5.heap.size 74 [.int .i64 1, .int .i64 2, .int .i64 3, .int .i64 4] := Blk.new _ _ _
 obtain ⟨w6, hw6⟩ : ∃ W, w5.alloc (.cells #[.int .i64 1, .int .i64 2, .int .i64 3, .int .i64 4] 74) = W := ⟨_, rfl⟩
 have hs6 : w6.heap.size = H + 1 + 1 + 1 + 1 + 1 + 1 := by rw [← hw6, World.size_alloc, hs5]
 have hb6 : Below w0.heap.size w0 w6 := by rw [← hw6]; exact hb5.alloc (by omega) _
 rw [hw6, hs5] at hn5
 replace hn0 := hn0.alloc (.cells #[.int .i64 1, .int .i64 2, .int .i64 3, .int .i64 4] 74)
 rw [hw6] at hn0
 replace hn1 := hn1.alloc (.cells #[.int .i64 1, .int .i64 2, .int .i64 3, .int .i64 4] 74)
 rw [hw6] at hn1
 replace hn2 := hn2.alloc (.cells #[.int .i64 1, .int .i64 2, .int .i64 3, .int .i64 4] 74)
 rw [hw6] at hn2
 replace hn3 := hn3.alloc (.cells #[.int .i64 1, .int .i64 2, .int .i64 3, .int .i64 4] 74)
 rw [hw6] at hn3
 replace hn4 := hn4.alloc (.cells #[.int .i64 1, .int .i64 2, .int .i64 3, .int .i64 4] 74)
 rw [hw6] at hn4
 have hn6 : Blk (w6.alloc (.cells #[.int .i64 1, .int .i64 3] 23)) w6.heap.size 23 [.int .i64 1, .int .i64 3] := Blk.new _ _ _
 obtain ⟨w7, hw7⟩ : ∃ W, w6.alloc (.cells #[.int .i64 1, .int .i64 3] 23) = W := ⟨_, rfl⟩
 have hs7 : w7.heap.size = H + 1 + 1 + 1 + 1 + 1 + 1 + 1 := by rw [← hw7, World.size_alloc, hs6]
 have hb7 : Below w0.heap.size w0 w7 := by rw [← hw7]; exact hb6.alloc (by omega) _
 rw [hw7, hs6] at hn6
 replace hn0 := hn0.alloc (.cells #[.int .i64 1, .int .i64 3] 23)
 rw [hw7] at hn0
 replace hn1 := hn1.alloc (.cells #[.int .i64 1, .int .i64 3] 23)
 rw [hw7] at hn1
 replace hn2 := hn2.alloc (.cells #[.int .i64 1, .int .i64 3] 23)
 rw [hw7] at hn2
 replace hn3 := hn3.alloc (.cells #[.int .i64 1, .int .i64 3] 23)
 rw [hw7] at hn3
 replace hn4 := hn4.alloc (.cells #[.int .i64 1, .int .i64 3] 23)
 rw [hw7] at hn4
 replace hn5 := hn5.alloc (.cells #[.int .i64 1, .int .i64 3] 23)
 rw [hw7] at hn5
 have hn7 : Blk (w7.alloc (.cells #[.string ⟨#[108, 111, 119]⟩, .int .i64 7, .slice (some ⟨H + 1 + 1 + 1, 0, none⟩) 1 1, .slice (some ⟨H + 1 + 1 + 1 + 1, 0, none⟩) 1 1, .slice (some ⟨H + 1 + 1 + 1 + 1 + 1, 0, none⟩) 1 1, .slice none 0 0, .slice (some ⟨H + 1 + 1 + 1 + 1 + 1 + 1, 0, none⟩) 1 1, .int .i64 0] 50)) w7.heap.size 50 [.string ⟨#[108, 111, 119]⟩, .int .i64 7, .slice (some ⟨H + 1 + 1 + 1, 0, none⟩) 1 1, .slice (some ⟨H + 1 + 1 + 1 + 1, 0, none⟩) 1 1, .slice (some ⟨H + 1 + 1 + 1 + 1 + 1, 0, none⟩) 1 1, .slice none 0 0, .slice (some ⟨H + 1 + 1 + 1 + 1 + 1 + 1, 0, none⟩) 1 1, .int .i64 0] := Blk.new _ _ _
 obtain ⟨w8, hw8⟩ : ∃ W, w7.alloc (.cells #[.string ⟨#[108, 111, 119]⟩, .int .i64 7, .slice (some ⟨H + 1 + 1 + 1, 0, none⟩) 1 1, .slice (some ⟨H + 1 + 1 + 1 + 1, 0, none⟩) 1 1, .slice (some ⟨H + 1 + 1 + 1 + 1 + 1, 0, none⟩) 1 1, .slice none 0 0, .slice (some ⟨H + 1 + 1 + 1 + 1 + 1 + 1, 0, none⟩) 1 1, .int .i64 0] 50) = W := ⟨_, rfl⟩
 have hs8 : w8.heap.size = H + 1 + 1 + 1 + 1 + 1 + 1 + 1 + 1 := by rw [← hw8, World.size_alloc, hs7]
 have hb8 : Below w0.heap.size w0 w8 := by rw [← hw8]; exact hb7.alloc (by omega) _
 rw [hw8, hs7] at hn7
 replace hn0 := hn0.alloc (.cells #[.string ⟨#[108, 111, 119]⟩, .int .i64 7, .slice (some ⟨H + 1 + 1 + 1, 0, none⟩) 1 1, .slice (some ⟨H + 1 + 1 + 1 + 1, 0, none⟩) 1 1, .slice (some ⟨H + 1 + 1 + 1 + 1 + 1, 0, none⟩) 1 1, .slice none 0 0, .slice (some ⟨H + 1 + 1 + 1 + 1 + 1 + 1, 0, none⟩) 1 1, .int .i64 0] 50)
 rw [hw8] at hn0
 replace hn1 := hn1.alloc (.cells #[.string ⟨#[108, 111, 119]⟩, .int .i64 7, .slice (some ⟨H + 1 + 1 + 1, 0, none⟩) 1 1, .slice (some ⟨H + 1 + 1 + 1 + 1, 0, none⟩) 1 1, .slice (some ⟨H + 1 + 1 + 1 + 1 + 1, 0, none⟩) 1 1, .slice none 0 0, .slice (some ⟨H + 1 + 1 + 1 + 1 + 1 + 1, 0, none⟩) 1 1, .int .i64 0] 50)
 rw [hw8] at hn1
 replace hn2 := hn2.alloc (.cells #[.string ⟨#[108, 111, 119]⟩, .int .i64 7, .slice (some ⟨H + 1 + 1 + 1, 0, none⟩) 1 1, .slice (some ⟨H + 1 + 1 + 1 + 1, 0, none⟩) 1 1, .slice (some ⟨H + 1 + 1 + 1 + 1 + 1, 0, none⟩) 1 1, .slice none 0 0, .slice (some ⟨H + 1 + 1 + 1 + 1 + 1 + 1, 0, none⟩) 1 1, .int .i64 0] 50)
 rw [hw8] at hn2
 replace hn3 := hn3.alloc (.cells #[.string ⟨#[108, 111, 119]⟩, .int .i64 7, .slice (some ⟨H + 1 + 1 + 1, 0, none⟩) 1 1, .slice (some ⟨H + 1 + 1 + 1 + 1, 0, none⟩) 1 1, .slice (some ⟨H + 1 + 1 + 1 + 1 + 1, 0, none⟩) 1 1, .slice none 0 0, .slice (some ⟨H + 1 + 1 + 1 + 1 + 1 + 1, 0, none⟩) 1 1, .int .i64 0] 50)
 rw [hw8] at hn3
 replace hn4 := hn4.alloc (.cells #[.string ⟨#[108, 111, 119]⟩, .int .i64 7, .slice (some ⟨H + 1 + 1 + 1, 0, none⟩) 1 1, .slice (some ⟨H + 1 + 1 + 1 + 1, 0, none⟩) 1 1, .slice (some ⟨H + 1 + 1 + 1 + 1 + 1, 0, none⟩) 1 1, .slice none 0 0, .slice (some ⟨H + 1 + 1 + 1 + 1 + 1 + 1, 0, none⟩) 1 1, .int .i64 0] 50)
 rw [hw8] at hn4
 replace hn5 := hn5.alloc (.cells #[.string ⟨#[108, 111, 119]⟩, .int .i64 7, .slice (some ⟨H + 1 + 1 + 1, 0, none⟩) 1 1, .slice (some ⟨H + 1 + 1 + 1 + 1, 0, none⟩) 1 1, .slice (some ⟨H + 1 + 1 + 1 + 1 + 1, 0, none⟩) 1 1, .slice none 0 0, .slice (some ⟨H + 1 + 1 + 1 + 1 + 1 + 1, 0, none⟩) 1 1, .int .i64 0] 50)
 rw [hw8] at hn5
 replace hn6 := hn6.alloc (.cells #[.string ⟨#[108, 111, 119]⟩, .int .i64 7, .slice (some ⟨H + 1 + 1 + 1, 0, none⟩) 1 1, .slice (some ⟨H + 1 + 1 + 1 + 1, 0, none⟩) 1 1, .slice (some ⟨H + 1 + 1 + 1 + 1 + 1, 0, none⟩) 1 1, .slice none 0 0, .slice (some ⟨H + 1 + 1 + 1 + 1 + 1 + 1, 0, none⟩) 1 1, .int .i64 0] 50)
 rw [hw8] at hn6
 have hn8 : Blk (w8.alloc (.cells #[.string ⟨#[104]⟩, .int .i64 5, .int .i64 0, .slice (some ⟨H + 1 + 1 + 1 + 1 + 1 + 1 + 1, 0, none⟩) 1 1] 26)) w8.heap.size 26 [.string ⟨#[104]⟩, .int .i64 5, .int .i64 0, .slice (some ⟨H + 1 + 1 + 1 + 1 + 1 + 1 + 1, 0, none⟩) 1 1] := Blk.new _ _ _
 obtain ⟨w9, hw9⟩ : ∃ W, w8.alloc (.cells #[.string ⟨#[104]⟩, .int .i64 5, .int .i64 0, .slice (some ⟨H + 1 + 1 + 1 + 1 + 1 + 1 + 1, 0, none⟩) 1 1] 26) = W := ⟨_, rfl⟩
 have hs9 : w9.heap.size = H + 1 + 1 + 1 + 1 + 1 + 1 + 1 + 1 + 1 := by rw [← hw9, World.size_alloc, hs8]
 have hb9 : Below w0.heap.size w0 w9 := by rw [← hw9]; exact hb8.alloc (by omega) _
 rw [hw9, hs8] at hn8
 replace hn0 := hn0.alloc (.cells #[.string ⟨#[104]⟩, .int .i64 5, .int .i64 0, .slice (some ⟨H + 1 + 1 + 1 + 1 + 1 + 1 + 1, 0, none⟩) 1 1] 26)
 rw [hw9] at hn0
 replace hn1 := hn1.alloc (.cells #[.string ⟨#[104]⟩, .int .i64 5, .int .i64 0, .slice (some ⟨H + 1 + 1 + 1 + 1 + 1 + 1 + 1, 0, none⟩) 1 1] 26)
 rw [hw9] at hn1
 replace hn2 := hn2.alloc (.cells #[.string ⟨#[104]⟩, .int .i64 5, .int .i64 0, .slice (some ⟨H + 1 + 1 + 1 + 1 + 1 + 1 + 1, 0, none⟩) 1 1] 26)
 rw [hw9] at hn2
 replace hn3 := hn3.alloc (.cells #[.string ⟨#[104]⟩, .int .i64 5, .int .i64 0, .slice (some ⟨H + 1 + 1 + 1 + 1 + 1 + 1 + 1, 0, none⟩) 1 1] 26)
 rw [hw9] at hn3
 replace hn4 := hn4.alloc (.cells #[.string ⟨#[104]⟩, .int .i64 5, .int .i64 0, .slice (some ⟨H + 1 + 1 + 1 + 1 + 1 + 1 + 1, 0, none⟩) 1 1] 26)
 rw [hw9] at hn4
 replace hn5 := hn5.alloc (.cells #[.string ⟨#[104]⟩, .int .i64 5, .int .i64 0, .slice (some ⟨H + 1 + 1 + 1 + 1 + 1 + 1 + 1, 0, none⟩) 1 1] 26)
 rw [hw9] at hn5
 replace hn6 := hn6.alloc (.cells #[.string ⟨#[104]⟩, .int .i64 5, .int .i64 0, .slice (some ⟨H + 1 + 1 + 1 + 1 + 1 + 1 + 1, 0, none⟩) 1 1] 26)
 rw [hw9] at hn6
 replace hn7 := hn7.alloc (.cells #[.string ⟨#[104]⟩, .int .i64 5, .int .i64 0, .slice (some ⟨H + 1 + 1 + 1 + 1 + 1 + 1 + 1, 0, none⟩) 1 1] 26)
 rw [hw9] at hn7
 replace hn0 : Blk w9 H _ _ := hn0
 have l0 : Lk markL w9 (H + 1 + 1 + 1 + 1 + 1 + 1 + 1 + 1 + 1) (.slice (some ⟨H, 0, none⟩) 2 2) exRow.marks := lk2 (K := markL) (c := markZC ⟨1, 3, 0⟩) (d := markZC ⟨4, 2, 1⟩) hn0 rfl rfl (by omega)
 have l2 : Lk rowL w9 (H + 1 + 1 + 1 + 1 + 1 + 1 + 1 + 1 + 1) (.slice (some ⟨H + 1 + 1, 0, none⟩) 1 1) [exRow] := lk1 (K := rowL) hn2 ⟨_, rfl, l0⟩ (by omega)
 have l3 : Lk blockL w9 (H + 1 + 1 + 1 + 1 + 1 + 1 + 1 + 1 + 1) (.slice (some ⟨H + 1 + 1 + 1, 0, none⟩) 1 1) exLevel.blocks := lk1 (K := blockL) hn3 ⟨_, rfl, l2⟩ (by omega)
 have l4 : Lk areaL w9 (H + 1 + 1 + 1 + 1 + 1 + 1 + 1 + 1 + 1) (.slice (some ⟨H + 1 + 1 + 1 + 1, 0, none⟩) 1 1) exLevel.areas := lk1 (K := areaL) hn4 rfl (by omega)
 have l5 : Lk boxL w9 (H + 1 + 1 + 1 + 1 + 1 + 1 + 1 + 1 + 1) (.slice (some ⟨H + 1 + 1 + 1 + 1 + 1, 0, none⟩) 1 1) exLevel.aisles := lk1 (K := boxL) hn5 rfl (by omega)
 have l6 : Lk pointL w9 (H + 1 + 1 + 1 + 1 + 1 + 1 + 1 + 1 + 1) (.slice (some ⟨H + 1 + 1 + 1 + 1 + 1 + 1, 0, none⟩) 1 1) exLevel.doors := lk1 (K := pointL) hn6 rfl (by omega)
 have l7 : Lk levelL w9 (H + 1 + 1 + 1 + 1 + 1 + 1 + 1 + 1 + 1) (.slice (some ⟨H + 1 + 1 + 1 + 1 + 1 + 1 + 1, 0, none⟩) 1 1) [exLevel] := lk1 (K := levelL) hn7 ⟨_, _, _, _, _, rfl, ⟨l3, l4, l5, lk_nil _ _ _, l6⟩⟩ (by omega)
 have HC1 := hid (printHall_any exHall fit_hall (some ⟨H + 1 + 1 + 1 + 1 + 1 + 1 + 1, 0, none⟩) 1 1 w9 (hE.since hb9) (by rw [hs9]; exact l7))
 rw [exHall_all.1, exHall_all.2] at HC1
 have HB9 := hid hb9; have HN8 := hid hn8; have HL7 := hid l7; have HE := hid hE
 clear hn0 hn1 hn2 hn3 hn4 hn5 hn6 hn7 hn8 l0 l2 l3 l4 l5 l6 l7 hE hb1 hb2 hb3 hb4 hb5 hb6 hb7 hb8 hb9
 have HW1 := hid hw1
 have HW2 := hid hw2
 have HW3 := hid hw3
 have HW4 := hid hw4
 have HW5 := hid hw5
 have HW6 := hid hw6
 have HW7 := hid hw7
 have HW8 := hid hw8
 have HW9 := hid hw9
 have HS9 := hid hs9
 clear hw1 hs1 hw2 hs2 hw3 hs3 hw4 hs4 hw5 hs5 hw6 hs6 hw7 hs7 hw8 hs8 hw9 hs9
 go_enter Tryz.func11, Tryz.ntmps11
 go_wp2_with fail
 rw [HW1.out, HW2.out, HW3.out, HW4.out, HW5.out, HW6.out, HW7.out, HW8.out, HW9.out]
 refine HC1.out.mono ?_; rintro e x0 ⟨rfl, hb⟩
 have HBX := hid (HB9.out.trans (hb.mono HB9.out.size))
 have hx0 := hb.size
 rw [HS9.out] at hx0
 have HLX : Hid (Lk levelL x0 (H + 1 + 1 + 1 + 1 + 1 + 1 + 1 + 1 + 1) (.slice (some ⟨H + 1 + 1 + 1 + 1 + 1 + 1 + 1, 0, none⟩) 1 1) [exLevel]) := hid (HL7.out.below (hb.mono (by rw [HS9.out]; exact Nat.le_refl _)))
 have HNX : Hid (Blk x0 (H + 1 + 1 + 1 + 1 + 1 + 1 + 1 + 1) 26 [.string ⟨#[104]⟩, .int .i64 5, .int .i64 0, .slice (some ⟨H + 1 + 1 + 1 + 1 + 1 + 1 + 1, 0, none⟩) 1 1]) := hid ((hb.block _ HN8.out.lt).trans HN8.out)
 clear HC1 hb HB9 HL7 HN8 HS9 HW1 HW2 HW3 HW4 HW5 HW6 HW7 HW8 HW9
 obtain ⟨J, hJ⟩ : ∃ J, x0.heap.size = J := ⟨_, rfl⟩
 rw [hJ] at hx0
 have hn0 : Blk (x0.alloc (.cells #[.string ⟨#[116, 105, 109, 101]⟩, .int .i64 6, .string ⟨#[]⟩, .int .i64 5, .int .i64 0, .string ⟨#[98, 108, 111, 99, 107]⟩, .int .i64 2, .string ⟨#[108, 111, 119, 46, 98]⟩, .int .i64 0, .int .i64 0] 68)) x0.heap.size 68 [.string ⟨#[116, 105, 109, 101]⟩, .int .i64 6, .string ⟨#[]⟩, .int .i64 5, .int .i64 0, .string ⟨#[98, 108, 111, 99, 107]⟩, .int .i64 2, .string ⟨#[108, 111, 119, 46, 98]⟩, .int .i64 0, .int .i64 0] := Blk.new _ _ _
 obtain ⟨x1, hw1⟩ : ∃ W, x0.alloc (.cells #[.string ⟨#[116, 105, 109, 101]⟩, .int .i64 6, .string ⟨#[]⟩, .int .i64 5, .int .i64 0, .string ⟨#[98, 108, 111, 99, 107]⟩, .int .i64 2, .string ⟨#[108, 111, 119, 46, 98]⟩, .int .i64 0, .int .i64 0] 68) = W := ⟨_, rfl⟩
 have hs1 : x1.heap.size = J + 1 := by rw [← hw1, World.size_alloc, hJ]
 have hb1 : Below x0.heap.size x0 x1 := by rw [← hw1]; exact (Below.refl _ _).alloc (Nat.le_refl _) _
 rw [hw1, hJ] at hn0
 have hn1 : Blk (x1.alloc (.cells #[.string ⟨#[97, 103, 101]⟩, .int .i64 3, .string ⟨#[]⟩, .int .i64 18, .int .i64 0] 68)) x1.heap.size 68 [.string ⟨#[97, 103, 101]⟩, .int .i64 3, .string ⟨#[]⟩, .int .i64 18, .int .i64 0] := Blk.new _ _ _
 obtain ⟨x2, hw2⟩ : ∃ W, x1.alloc (.cells #[.string ⟨#[97, 103, 101]⟩, .int .i64 3, .string ⟨#[]⟩, .int .i64 18, .int .i64 0] 68) = W := ⟨_, rfl⟩
 have hs2 : x2.heap.size = J + 1 + 1 := by rw [← hw2, World.size_alloc, hs1]
 have hb2 : Below x0.heap.size x0 x2 := by rw [← hw2]; exact hb1.alloc (by omega) _
 rw [hw2, hs1] at hn1
 replace hn0 := hn0.alloc (.cells #[.string ⟨#[97, 103, 101]⟩, .int .i64 3, .string ⟨#[]⟩, .int .i64 18, .int .i64 0] 68)
 rw [hw2] at hn0
 have hn2 : Blk (x2.alloc (.cells #[.slice (some ⟨J, 0, none⟩) 2 2, .slice (some ⟨J + 1, 0, none⟩) 1 1] 69)) x2.heap.size 69 [.slice (some ⟨J, 0, none⟩) 2 2, .slice (some ⟨J + 1, 0, none⟩) 1 1] := Blk.new _ _ _
 obtain ⟨x3, hw3⟩ : ∃ W, x2.alloc (.cells #[.slice (some ⟨J, 0, none⟩) 2 2, .slice (some ⟨J + 1, 0, none⟩) 1 1] 69) = W := ⟨_, rfl⟩
 have hs3 : x3.heap.size = J + 1 + 1 + 1 := by rw [← hw3, World.size_alloc, hs2]
 have hb3 : Below x0.heap.size x0 x3 := by rw [← hw3]; exact hb2.alloc (by omega) _
 rw [hw3, hs2] at hn2
 replace hn0 := hn0.alloc (.cells #[.slice (some ⟨J, 0, none⟩) 2 2, .slice (some ⟨J + 1, 0, none⟩) 1 1] 69)
 rw [hw3] at hn0
 replace hn1 := hn1.alloc (.cells #[.slice (some ⟨J, 0, none⟩) 2 2, .slice (some ⟨J + 1, 0, none⟩) 1 1] 69)
 rw [hw3] at hn1
 have hn3 : Blk (x3.alloc (.cells #[.int .i64 1, .string ⟨#[120]⟩, .slice (some ⟨J + 1 + 1, 0, none⟩) 2 2, .int .i64 2, .int .i64 0, .int .i64 0, .int .i64 0, .int .i64 0, .int .i64 0, .int .i64 3, .string ⟨#[112]⟩, .slice none 0 0, .int .i64 1000, .int .i64 1, .int .i64 10, .int .i64 0, .int .i64 1, .int .i64 0] 66)) x3.heap.size 66 [.int .i64 1, .string ⟨#[120]⟩, .slice (some ⟨J + 1 + 1, 0, none⟩) 2 2, .int .i64 2, .int .i64 0, .int .i64 0, .int .i64 0, .int .i64 0, .int .i64 0, .int .i64 3, .string ⟨#[112]⟩, .slice none 0 0, .int .i64 1000, .int .i64 1, .int .i64 10, .int .i64 0, .int .i64 1, .int .i64 0] := Blk.new _ _ _
 obtain ⟨x4, hw4⟩ : ∃ W, x3.alloc (.cells #[.int .i64 1, .string ⟨#[120]⟩, .slice (some ⟨J + 1 + 1, 0, none⟩) 2 2, .int .i64 2, .int .i64 0, .int .i64 0, .int .i64 0, .int .i64 0, .int .i64 0, .int .i64 3, .string ⟨#[112]⟩, .slice none 0 0, .int .i64 1000, .int .i64 1, .int .i64 10, .int .i64 0, .int .i64 1, .int .i64 0] 66) = W := ⟨_, rfl⟩
 have hs4 : x4.heap.size = J + 1 + 1 + 1 + 1 := by rw [← hw4, World.size_alloc, hs3]
 have hb4 : Below x0.heap.size x0 x4 := by rw [← hw4]; exact hb3.alloc (by omega) _
 rw [hw4, hs3] at hn3
 replace hn0 := hn0.alloc (.cells #[.int .i64 1, .string ⟨#[120]⟩, .slice (some ⟨J + 1 + 1, 0, none⟩) 2 2, .int .i64 2, .int .i64 0, .int .i64 0, .int .i64 0, .int .i64 0, .int .i64 0, .int .i64 3, .string ⟨#[112]⟩, .slice none 0 0, .int .i64 1000, .int .i64 1, .int .i64 10, .int .i64 0, .int .i64 1, .int .i64 0] 66)
 rw [hw4] at hn0
 replace hn1 := hn1.alloc (.cells #[.int .i64 1, .string ⟨#[120]⟩, .slice (some ⟨J + 1 + 1, 0, none⟩) 2 2, .int .i64 2, .int .i64 0, .int .i64 0, .int .i64 0, .int .i64 0, .int .i64 0, .int .i64 3, .string ⟨#[112]⟩, .slice none 0 0, .int .i64 1000, .int .i64 1, .int .i64 10, .int .i64 0, .int .i64 1, .int .i64 0] 66)
 rw [hw4] at hn1
 replace hn2 := hn2.alloc (.cells #[.int .i64 1, .string ⟨#[120]⟩, .slice (some ⟨J + 1 + 1, 0, none⟩) 2 2, .int .i64 2, .int .i64 0, .int .i64 0, .int .i64 0, .int .i64 0, .int .i64 0, .int .i64 3, .string ⟨#[112]⟩, .slice none 0 0, .int .i64 1000, .int .i64 1, .int .i64 10, .int .i64 0, .int .i64 1, .int .i64 0] 66)
 rw [hw4] at hn2
 have hn4 : Blk (x4.alloc (.cells #[.slice (some ⟨J + 1 + 1 + 1, 0, none⟩) 2 2] 29)) x4.heap.size 29 [.slice (some ⟨J + 1 + 1 + 1, 0, none⟩) 2 2] := Blk.new _ _ _
 obtain ⟨x5, hw5⟩ : ∃ W, x4.alloc (.cells #[.slice (some ⟨J + 1 + 1 + 1, 0, none⟩) 2 2] 29) = W := ⟨_, rfl⟩
 have hs5 : x5.heap.size = J + 1 + 1 + 1 + 1 + 1 := by rw [← hw5, World.size_alloc, hs4]
 have hb5 : Below x0.heap.size x0 x5 := by rw [← hw5]; exact hb4.alloc (by omega) _
 rw [hw5, hs4] at hn4
 replace hn0 := hn0.alloc (.cells #[.slice (some ⟨J + 1 + 1 + 1, 0, none⟩) 2 2] 29)
 rw [hw5] at hn0
 replace hn1 := hn1.alloc (.cells #[.slice (some ⟨J + 1 + 1 + 1, 0, none⟩) 2 2] 29)
 rw [hw5] at hn1
 replace hn2 := hn2.alloc (.cells #[.slice (some ⟨J + 1 + 1 + 1, 0, none⟩) 2 2] 29)
 rw [hw5] at hn2
 replace hn3 := hn3.alloc (.cells #[.slice (some ⟨J + 1 + 1 + 1, 0, none⟩) 2 2] 29)
 rw [hw5] at hn3
 have l0 : Lk testL x5 (J + 1 + 1 + 1 + 1 + 1) (.slice (some ⟨J, 0, none⟩) 2 2) [⟨[116, 105, 109, 101], 6, [], 5, 0⟩, ⟨[98, 108, 111, 99, 107], 2, [108, 111, 119, 46, 98], 0, 0⟩] := lk2 (K := testL) (c := [.string ⟨#[116, 105, 109, 101]⟩, .int .i64 6, .string ⟨#[]⟩, .int .i64 5, .int .i64 0]) (d := [.string ⟨#[98, 108, 111, 99, 107]⟩, .int .i64 2, .string ⟨#[108, 111, 119, 46, 98]⟩, .int .i64 0, .int .i64 0]) hn0 rfl rfl (by omega)
 have l1 : Lk testL x5 (J + 1 + 1 + 1 + 1 + 1) (.slice (some ⟨J + 1, 0, none⟩) 1 1) [⟨[97, 103, 101], 3, [], 18, 0⟩] := lk1 (K := testL) hn1 rfl (by omega)
 have l2 : Lk testsL x5 (J + 1 + 1 + 1 + 1 + 1) (.slice (some ⟨J + 1 + 1, 0, none⟩) 2 2) [[⟨[116, 105, 109, 101], 6, [], 5, 0⟩, ⟨[98, 108, 111, 99, 107], 2, [108, 111, 119, 46, 98], 0, 0⟩], [⟨[97, 103, 101], 3, [], 18, 0⟩]] := lk2 (K := testsL) (c := [.slice (some ⟨J, 0, none⟩) 2 2]) (d := [.slice (some ⟨J + 1, 0, none⟩) 1 1]) hn2 ⟨_, rfl, l0⟩ ⟨_, rfl, l1⟩ (by omega)
 have l3 : Lk itemL x5 (J + 1 + 1 + 1 + 1 + 1) (.slice (some ⟨J + 1 + 1 + 1, 0, none⟩) 2 2) exRules := lk2 (K := itemL) (c := [.int .i64 1, .string ⟨#[120]⟩, .slice (some ⟨J + 1 + 1, 0, none⟩) 2 2, .int .i64 2, .int .i64 0, .int .i64 0, .int .i64 0, .int .i64 0, .int .i64 0]) (d := [.int .i64 3, .string ⟨#[112]⟩, .slice none 0 0, .int .i64 1000, .int .i64 1, .int .i64 10, .int .i64 0, .int .i64 1, .int .i64 0]) hn3 ⟨_, rfl, l2⟩ ⟨_, rfl, lk_nil _ _ _⟩ (by omega)
 have hbw5 := HBX.out.trans (hb5.mono HBX.out.size)
 have HC2 := hid (printRules_any exRules fit_rules (some ⟨J + 1 + 1 + 1, 0, none⟩) 2 2 x5 (HE.out.since hbw5) (by rw [hs5]; exact l3))
 rw [exRules_all.1, exRules_all.2] at HC2
 have HB5 := hid hb5; have HBW := hid hbw5; have HN4 := hid hn4
 clear hn0 hn1 hn2 hn3 hn4 l0 l1 l2 l3 hb1 hb2 hb3 hb4 hb5 hbw5
 have HW1 := hid hw1
 have HW2 := hid hw2
 have HW3 := hid hw3
 have HW4 := hid hw4
 have HW5 := hid hw5
 clear hw1 hs1 hw2 hs2 hw3 hs3 hw4 hs4 hw5 hs5
 go_wp2_with fail
 rw [HW1.out, HW2.out, HW3.out, HW4.out, HW5.out]
 refine HC2.out.mono ?_; rintro e y0 ⟨rfl, hb⟩
 have HBY := hid (HBW.out.trans (hb.mono HBW.out.size))
 have hxy := HB5.out.trans (hb.mono HB5.out.size)
 have HLY := hid (HLX.out.below (hxy.mono (by rw [hJ]; exact hx0)))
 have HNY : Hid (Blk y0 (H + 1 + 1 + 1 + 1 + 1 + 1 + 1 + 1) 26 [.string ⟨#[104]⟩, .int .i64 5, .int .i64 0, .slice (some ⟨H + 1 + 1 + 1 + 1 + 1 + 1 + 1, 0, none⟩) 1 1]) := hid ((hxy.block _ HNX.out.lt).trans HNX.out)
 have hy0 : H + 1 + 1 + 1 + 1 + 1 + 1 + 1 + 1 + 1 ≤ y0.heap.size := by have := hxy.size; omega
 have c0 := HNY.out.cell (i := 0) rfl
 have c1 := HNY.out.cell (i := 1) rfl
 have c2 := HNY.out.cell (i := 2) rfl
 have c3 := HNY.out.cell (i := 3) rfl
 clear HC2 hb hxy HB5 HBW HN4 HBX HLX HNX hJ HW1 HW2 HW3 HW4 HW5
 have hbz : Below y0.heap.size y0 (y0.alloc (.cells #[.string ⟨#[49]⟩, .int .i64 5, .int .i64 0, .slice (some ⟨H + 1 + 1 + 1 + 1 + 1 + 1 + 1, 0, none⟩) 1 1] 26)) := (Below.refl _ _).alloc (Nat.le_refl _) _
 have HC3 := hid (printHall_any exBad fit_bad (some ⟨H + 1 + 1 + 1 + 1 + 1 + 1 + 1, 0, none⟩) 1 1 (y0.alloc (.cells #[.string ⟨#[49]⟩, .int .i64 5, .int .i64 0, .slice (some ⟨H + 1 + 1 + 1 + 1 + 1 + 1 + 1, 0, none⟩) 1 1] 26)) ((HE.out.since HBY.out).since hbz) ((HLY.out.below (hbz.mono hy0)).mono (Nat.le_trans hy0 hbz.size)))
 rw [exBad_all] at HC3
 have HBZ := hid (HBY.out.trans (hbz.mono HBY.out.size))
 clear hbz
 go_wp2_with fail
 refine HC3.out.mono ?_; rintro e z0 ⟨rfl, hb⟩
 have HBL := hid (HBZ.out.trans (hb.mono HBZ.out.size))
 clear HC3 hb c0 c1 c2 c3
 have hq1 : (exText == [104, 97, 108, 108, 32, 104, 32, 115, 116, 97, 103, 101, 32, 53, 32, 48, 32, 123, 10, 9, 108, 101, 118, 101, 108, 32, 108, 111, 119, 32, 104, 101, 105, 103, 104, 116, 32, 55, 32, 123, 10, 9, 9, 98, 108, 111, 99, 107, 32, 98, 32, 123, 10, 9, 9, 9, 114, 111, 119, 32, 97, 32, 97, 116, 32, 49, 48, 32, 50, 48, 32, 115, 101, 97, 116, 115, 32, 49, 32, 116, 111, 32, 52, 32, 115, 116, 101, 112, 32, 50, 32, 103, 97, 112, 32, 51, 32, 98, 101, 115, 105, 100, 101, 32, 50, 32, 111, 102, 32, 49, 59, 10, 9, 9, 125, 10, 9, 9, 97, 114, 101, 97, 32, 112, 105, 116, 32, 48, 32, 48, 32, 51, 32, 52, 32, 104, 111, 108, 100, 115, 32, 57, 59, 10, 9, 9, 97, 105, 115, 108, 101, 32, 49, 32, 50, 32, 51, 32, 52, 59, 10, 9, 9, 100, 111, 111, 114, 32, 49, 32, 51, 59, 10, 9, 125, 10, 125, 10]) = true := by decide +kernel
 have hq2 : (exRText == [97, 108, 108, 111, 119, 32, 120, 32, 108, 105, 109, 105, 116, 32, 50, 32, 119, 104, 101, 110, 32, 116, 105, 109, 101, 32, 62, 61, 32, 53, 32, 97, 110, 100, 32, 98, 108, 111, 99, 107, 32, 33, 61, 32, 108, 111, 119, 46, 98, 32, 111, 114, 32, 97, 103, 101, 32, 60, 32, 49, 56, 59, 10, 112, 114, 105, 99, 101, 32, 112, 32, 49, 48, 48, 48, 32, 102, 101, 101, 32, 49, 47, 49, 48, 59, 10]) = true := by decide +kernel
 go_wp2
 go_ret
 exact ⟨rfl, HBL.out⟩
end Go.Proofs.YtilfpnkcgjonhaaGreatDoor.Pr
