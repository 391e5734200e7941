/-
  The law's examples.
-/
import Derived.Test.YtbnnlpmflifofaaDoorWalkLex
import Derived.Test.YtbnnlpmflifofaaDoorTokEq
namespace Go.Proofs.YtbnnlpmflifofaaDoor
open Go.RowKit Go.Sort Foyer.Lexer

theorem ex1 : lexAll [114, 111, 119, 32, 97, 49, 32, 97, 116, 32, 55, 62, 61, 120, 35, 32, 121] = ([⟨1, [114, 111, 119], 0, 0⟩, ⟨1, [97, 49], 0, 4⟩, ⟨1, [97, 116], 0, 7⟩, ⟨2, [55], 7, 10⟩, ⟨3, [62, 61], 0, 11⟩, ⟨1, [120], 0, 13⟩], 0, 0) := by decide +kernel
theorem ex2 : lexAll [97, 32, 33, 98] = ([], 5, 2) := by decide +kernel
theorem ex3 : lexAll [55, 120] = ([], 6, 0) := by decide +kernel
theorem ex4 : lexAll [49, 50, 51, 52, 53, 54, 55, 56, 57, 48, 49] = ([], 6, 0) := by decide +kernel
theorem ex5 : lexAll [10, 97, 98, 99, 100, 101, 102, 103, 104, 105, 106, 107, 108, 109, 110, 111, 112, 113, 114, 115, 116, 117, 118, 119, 120, 121] = ([], 3, 1) := by decide +kernel

theorem lex_ex1 (w : World) : Calls Tryd.prog 12 #[.string ⟨#[114, 111, 119, 32, 97, 49, 32, 97, 116, 32, 55, 62, 61, 120, 35, 32, 121]⟩] w fun e w' => ∃ b off cap, e = .returned (.tuple #[.slice (some ⟨b, off, none⟩) 6 cap, .int .i64 0, .int .i64 0]) ∧
    (∀ w2, Below w'.heap.size w' w2 → TokAt w2 b (off + 4) ⟨1, [97, 49], 0, 4⟩ ∧ TokAt w2 b (off + 12) ⟨2, [55], 7, 10⟩ ∧ TokAt w2 b (off + 16) ⟨3, [62, 61], 0, 11⟩ ∧ TokAt w2 b (off + 20) ⟨1, [120], 0, 13⟩) ∧ Below w.heap.size w w' := by
  refine (lex_any _ (by decide) w).mono ?_
  rintro e w' ⟨p, cap, rfl, hr, hc, hm, hb⟩
  rw [ex1] at hr hc
  rcases hr with h | ⟨b, off, rfl, hlt, hat⟩
  · cases h
  · refine ⟨b, off, cap, by rw [ex1]; rfl, fun w2 h2 => ?_, hb⟩
    have key : ∀ j t, ([⟨1, [114, 111, 119], 0, 0⟩, ⟨1, [97, 49], 0, 4⟩, ⟨1, [97, 116], 0, 7⟩, ⟨2, [55], 7, 10⟩, ⟨3, [62, 61], 0, 11⟩, ⟨1, [120], 0, 13⟩] : List Tok)[j]? = some t → TokAt w2 b (off + j * 4) t := fun j t hj =>
      ⟨by rw [h2.cell hlt]; exact (hat j t hj).kind, by rw [h2.cell hlt]; exact (hat j t hj).text, by rw [h2.cell hlt]; exact (hat j t hj).val, by rw [h2.cell hlt]; exact (hat j t hj).pos⟩
    exact ⟨key 1 _ rfl, key 3 _ rfl, key 4 _ rfl, key 5 _ rfl⟩
theorem lex_bad {l : List UInt8} {E : Nat} {O : Int} (he : lexAll l = ([], E, O)) (hl : l.length ≤ 1000000) (w : World) : Calls Tryd.prog 12 #[.string ⟨l.toArray⟩] w fun e w' => ∃ p cap, e = .returned (.tuple #[.slice p 0 cap, .int .i64 (E : Nat), .int .i64 O]) ∧ Below w.heap.size w w' := by
  refine (lex_any _ (by rw [size_of_list]; exact hl) w).mono ?_
  rintro e w' ⟨p, cap, rfl, hr, hc, hm, hb⟩
  have he' : lexAll (⟨l.toArray⟩ : ByteArray).data.toList = ([], E, O) := by simpa using he
  rw [he']
  exact ⟨p, cap, rfl, hb⟩

set_option maxRecDepth 100000 in
set_option maxHeartbeats 2000000 in
theorem head_any (w : World) : Calls Tryd.prog 11 #[] w fun e w' => e = .returned (.bool true) ∧ Below w.heap.size w w' := by
  have HS : Hid (Since w w) := Below.refl _ _
  go_enter Tryd.func11, Tryd.ntmps11
  go_wp2_with fail
  refine (lex_ex1 _).mono ?_; rintro e w1 ⟨b, off, cap, rfl, hat, hb1⟩
  have HAT := Lib.hid hat; have HS1 := Lib.hid (HS.out.call hb1)
  clear hat hb1
  go_wp2_with fail
  refine (lex_bad ex2 (by decide) _).mono ?_; rintro e w2 ⟨p2, cap2, rfl, hb2⟩
  have HB2 : Hid (Since w1 w2) := Lib.hid hb2
  clear hb2
  go_wp2_with fail
  refine (lex_bad ex3 (by decide) _).mono ?_; rintro e w3 ⟨p3, cap3, rfl, hb3⟩
  have HB3 := Lib.hid (HB2.out.call hb3)
  clear hb3
  go_wp2_with fail
  refine (lex_bad ex4 (by decide) _).mono ?_; rintro e w4 ⟨p4, cap4, rfl, hb4⟩
  have HB4 := Lib.hid (HB3.out.call hb4)
  clear hb4
  go_wp2_with fail
  refine (lex_bad ex5 (by decide) _).mono ?_; rintro e w5 ⟨p5, cap5, rfl, hb5⟩
  have HB5 := Lib.hid (HB4.out.call hb5)
  clear hb5
  obtain ⟨t1, t3, t4, t5⟩ := HAT.out w5 HB5.out
  have a0 : w5.cell? ⟨b, off + 4, none⟩ = some (.int .i64 1) := t1.kind
  have a1 : w5.cell? ⟨b, off + 4 + 1, none⟩ = some (.string ⟨#[97, 49]⟩) := t1.text
  have a2 : w5.cell? ⟨b, off + 4 + 2, none⟩ = some (.int .i64 0) := t1.val
  have a3 : w5.cell? ⟨b, off + 4 + 3, none⟩ = some (.int .i64 4) := t1.pos
  have b0 : w5.cell? ⟨b, off + 12, none⟩ = some (.int .i64 2) := t3.kind
  have b1 : w5.cell? ⟨b, off + 12 + 1, none⟩ = some (.string ⟨#[55]⟩) := t3.text
  have b2 : w5.cell? ⟨b, off + 12 + 2, none⟩ = some (.int .i64 7) := t3.val
  have b3 : w5.cell? ⟨b, off + 12 + 3, none⟩ = some (.int .i64 10) := t3.pos
  have c0 : w5.cell? ⟨b, off + 16, none⟩ = some (.int .i64 3) := t4.kind
  have c1 : w5.cell? ⟨b, off + 16 + 1, none⟩ = some (.string ⟨#[62, 61]⟩) := t4.text
  have c2 : w5.cell? ⟨b, off + 16 + 2, none⟩ = some (.int .i64 0) := t4.val
  have c3 : w5.cell? ⟨b, off + 16 + 3, none⟩ = some (.int .i64 11) := t4.pos
  have d3 : w5.cell? ⟨b, off + 20 + 3, none⟩ = some (.int .i64 13) := t5.pos
  have e1 := fun w => tok_eql 1 1 0 0 4 4 ⟨#[97, 49]⟩ ⟨#[97, 49]⟩ true (by simp) w
  have e2 := fun w => tok_eql 2 2 7 7 10 10 ⟨#[55]⟩ ⟨#[55]⟩ true (by simp) w
  have e3 := fun w => tok_eql 3 3 0 0 11 11 ⟨#[62, 61]⟩ ⟨#[62, 61]⟩ true (by simp) w
  have g1 := fun (x y : Operand) (xs ys : Array Value) (w : World) => guard_eql x y xs ys w
  clear t1 t3 t4 t5
  go_wp2
  go_ret
  exact ⟨rfl, (HS1.out.call HB5.out)⟩
end Go.Proofs.YtbnnlpmflifofaaDoor
