/-
  The walks of a token, of names, of numbers, of comparisons.
-/
import Derived.Test.YtlfjdohjfmfcdaaGreatDoorWalkParts
namespace Go.Proofs.YtlfjdohjfmfcdaaGreatDoor
open Go.RowKit Foyer.Lexer

theorem ofCls_word : ofCls [3, 4, 5] = isWord := by
  funext c
  have : ∀ c : UInt8, ofCls [3, 4, 5] c = isWord c := all_bytes (by decide +kernel)
  exact this c
theorem ofCls_digit : ofCls [4] = isDigit := by
  funext c
  have : ∀ c : UInt8, ofCls [4] c = isDigit c := all_bytes (by decide +kernel)
  exact this c
theorem ofCls_more : ∀ c : UInt8, isDigit c = false → ofCls [3, 5] c = isWord c := all_bytes (by decide +kernel)

/-- What a token's function returns. -/
def gotV (s : List UInt8) (p : Nat) : Got → Value
  | .bad e => .tuple #[.agg #[.int .i64 0, .string ⟨#[]⟩, .int .i64 0, .int .i64 p], .int .i64 (e : Nat)]
  | .good k n v => .tuple #[.agg #[.int .i64 (k : Nat), .string ⟨(s.take n).toArray⟩, .int .i64 (v : Nat), .int .i64 p], .int .i64 0]

set_option maxRecDepth 100000 in
theorem token_any (t : ByteArray) (_ : t.size ≤ 1000000) (b p e : Nat) (kd : Int) (hp : p ≤ e) (he : e ≤ t.size) (w : World) (hs : Src w b t) :
    Calls Tryz.prog 49 #[.pointer (some ⟨b, 0, none⟩), .int .i64 kd, .int .i64 p, .int .i64 e] w fun x w' => x = .returned (.agg #[.int .i64 kd, .string ⟨((t.data.toList.drop p).take (e - p)).toArray⟩, .int .i64 0, .int .i64 p]) ∧ Below w.heap.size w w' := by
  have htx := hs.text
  have hlt := hs.lt
  have HS : Hid (Since w w) := Below.refl _ _
  have hx : t.extract p e = ⟨((t.data.toList.drop p).take (e - p)).toArray⟩ := by
    obtain ⟨l, h1, h2⟩ := part_list t p e
    rw [h1, h2]
    congr 2
    rw [List.drop_take]
  have HX := Lib.hid hx
  clear hs hx
  go_enter Tryz.func49, Tryz.ntmps49
  go_wp2
  rw [← HX.out]
  refine bodyPost_ret (results_tok rfl _ _ w.heap.size (.int .i64 kd) (.string (t.extract p e)) (.int .i64 0) (.int .i64 p) rfl ?_) rfl ⟨rfl, HS.out.alloc _⟩
  exact range_four (by simp) (by simp) (by simp) (by simp)

/-- The classes of bytes as facts for a walk. -/
theorem nameAt_any (t : ByteArray) (ht : t.size ≤ 1000000) (b p : Nat) (hp : p ≤ t.size) (w : World) (hs : Src w b t) :
    Calls Tryz.prog 47 #[.pointer (some ⟨b, 0, none⟩), .int .i64 p] w fun x w' => x = .returned (gotV (t.data.toList.drop p) p (if 24 < runLen isWord (t.data.toList.drop p) then .bad 3 else .good 1 (runLen isWord (t.data.toList.drop p)) 0)) ∧ Below w.heap.size w w' := by
  have hlt := hs.lt
  have HS : Hid (Since w w) := Below.refl _ _
  have hle := runLen_le isWord (t.data.toList.drop p)
  rw [List.length_drop, Array.length_toList] at hle
  have hparts := fun w' (h : Src w' b t) (q : Option Addr) (cap : Nat) (hr : RdN w' q [3, 4, 5]) => partsEnd_below t ht b p hp [3, 4, 5] 3 rfl (by decide) q cap w' h hr
  rw [ofCls_word] at hparts
  obtain ⟨g, hg⟩ : ∃ g, runLen isWord (t.data.toList.drop p) = g := ⟨_, rfl⟩
  rw [hg] at hle hparts ⊢
  have hle2 : p + g ≤ t.size := by
    have : t.data.size = t.size := rfl
    omega
  obtain ⟨V, hV⟩ : ∃ V, gotV (t.data.toList.drop p) p (if 24 < g then .bad 3 else .good 1 g 0) = V := ⟨_, rfl⟩
  rw [hV]
  have HP := Lib.hid hparts; have HSRC := Lib.hid hs; have HG := Lib.hid hg; have HV := Lib.hid hV
  clear hparts hs hg hle hV
  go_enter Tryz.func47, Tryz.ntmps47
  go_wp2_with fail
  have HB1 : Hid (Since w ((w.alloc (Obj.cells #[Value.int IntKind.i64 0, Value.string { data := #[] }, Value.int IntKind.i64 0, Value.int IntKind.i64 0] 67)).alloc (Obj.cells #[Value.int IntKind.i64 3, Value.int IntKind.i64 4, Value.int IntKind.i64 5] 83))) := Lib.hid ((HS.out.alloc _).alloc _)
  have hrd : RdN ((w.alloc (Obj.cells #[Value.int IntKind.i64 0, Value.string { data := #[] }, Value.int IntKind.i64 0, Value.int IntKind.i64 0] 67)).alloc (Obj.cells #[Value.int IntKind.i64 3, Value.int IntKind.i64 4, Value.int IntKind.i64 5] 83)) (some ⟨w.heap.size + 1, 0, none⟩) [3, 4, 5] := by
    refine ⟨_, rfl, by simp, fun j hj => ?_⟩
    match j, hj with
    | 0, _ => simp
    | 1, _ => simp
    | 2, _ => simp
  have HF1 := Lib.hid ((Four.new w (.int .i64 0) (.string ⟨#[]⟩) (.int .i64 0) (.int .i64 0) 67).below (Nat.lt_succ_self _) (by have := Below.alloc (Below.refl (w.alloc (.cells #[.int .i64 0, .string ⟨#[]⟩, .int .i64 0, .int .i64 0] 67)).heap.size _) (Nat.le_refl _) (.cells #[.int .i64 3, .int .i64 4, .int .i64 5] 83); simpa using this))
  refine (HP.out _ (HSRC.out.since HB1.out) _ 3 hrd).mono ?_; rintro e w2 ⟨rfl, hb2⟩
  have HB2 := Lib.hid (HB1.out.call hb2)
  have hf2 := HF1.out.below (by simp; omega) hb2
  obtain ⟨⟨d0, d1, d2, d3, h0, h1, h2, h3⟩, f0, f1, f2, f3⟩ := hf2.facts
  have HF2 := Lib.hid hf2
  clear hrd hf2 hb2
  by_cases h24 : 24 < g
  · have hd : decide ((24 : Int) < (p + g : Nat) - (p : Int)) = true := by simp; omega
    go_wp2
    refine bodyPost_ret (results_tok2 rfl _ _ w.heap.size _ _ _ _ _ rfl rfl (HF2.out.range _ _ _ _)) rfl ⟨?_, since_set4 HB2.out (Nat.le_refl _) _ _ _ _⟩
    rw [← HV.out, if_pos h24]
    rfl
  · have hd : decide ((24 : Int) < (p + g : Nat) - (p : Int)) = false := by simp; omega
    go_wp2_with fail
    refine (token_any t ht b p (p + g) 1 (Nat.le_add_right _ _) hle2 _ (HSRC.out.since HB2.out)).mono ?_; rintro e w3 ⟨rfl, hb3⟩
    have HB3 := Lib.hid (HB2.out.call hb3)
    have hf3 := HF2.out.below (lt_of_cell h0) hb3
    clear h0 h1 h2 h3 f0 f1 f2 f3 hb3
    obtain ⟨⟨d0, d1, d2, d3, h0, h1, h2, h3⟩, f0, f1, f2, f3⟩ := hf3.facts
    have HF3 := Lib.hid hf3
    clear hf3
    go_wp2
    refine bodyPost_ret (results_tok2 rfl _ _ w.heap.size _ _ _ _ _ rfl rfl (HF3.out.range _ _ _ _)) rfl ⟨?_, since_set4 HB3.out (Nat.le_refl _) _ _ _ _⟩
    rw [← HV.out, if_neg h24]
    rfl
end Go.Proofs.YtlfjdohjfmfcdaaGreatDoor
