/-
  The document's own next token.
-/
import Derived.Test.YtlfjdohjfmfcdaaGreatDoorRefGap
import Derived.Test.YtlfjdohjfmfcdaaGreatDoorMathAll
import Derived.Test.YtlfjdohjfmfcdaaGreatDoorWalkTok
namespace Go.Proofs.YtlfjdohjfmfcdaaGreatDoor
open Go.RowKit Foyer.Lexer

/-- What the document's own next returns. -/
def nextV (s : List UInt8) (p : Nat) : Got → Value
  | .bad e => .tuple #[.agg #[.int .i64 0, .string ⟨#[]⟩, .int .i64 0, .int .i64 0], .int .i64 (e : Nat)]
  | .good k n v => .tuple #[.agg #[.int .i64 (k : Nat), .string ⟨(s.take n).toArray⟩, .int .i64 (v : Nat), .int .i64 p], .int .i64 0]
theorem nextV_good (s : List UInt8) (p k n v : Nat) : nextV s p (.good k n v) = .tuple #[.agg #[.int .i64 (k : Nat), .string ⟨(s.take n).toArray⟩, .int .i64 (v : Nat), .int .i64 p], .int .i64 0] := rfl
theorem nextV_bad (s : List UInt8) (p e : Nat) : nextV s p (.bad e) = .tuple #[.agg #[.int .i64 0, .string ⟨#[]⟩, .int .i64 0, .int .i64 0], .int .i64 (e : Nat)] := rfl
theorem run_step (pr : UInt8 → Bool) (t : ByteArray) (j : Nat) (h : j < t.size) : runLen pr (t.data.toList.drop j) = if pr t[j] then runLen pr (t.data.toList.drop (j + 1)) + 1 else 0 := by
  rw [drop_byte t j h, runLen]
theorem run_end (pr : UInt8 → Bool) (t : ByteArray) (j : Nat) (h : t.size ≤ j) : runLen pr (t.data.toList.drop j) = 0 := by
  rw [drop_end t j h, runLen]

theorem extract_run (t : ByteArray) (p g : Nat) : t.extract p (p + g) = ⟨((t.data.toList.drop p).take g).toArray⟩ := by
  obtain ⟨l, h1, h2⟩ := part_list t p (p + g)
  rw [h1, h2, List.drop_take, Nat.add_sub_cancel_left]
/-- Where a run of bytes goes on, or ends. -/
theorem run_key (pr : UInt8 → Bool) (t : ByteArray) (j m : Nat) (hj : j ≤ t.size) (h1 : j + runLen pr (t.data.toList.drop j) = m) :
    (∃ h : j < t.size, pr t[j] = true ∧ (j + 1) + runLen pr (t.data.toList.drop (j + 1)) = m) ∨ ((∀ h : j < t.size, pr t[j] = false) ∧ j = m) := by
  rcases Nat.lt_or_ge j t.size with h | h
  · have h2 := run_step pr t j h
    cases hx : pr t[j] with
    | true => rw [hx, if_pos rfl] at h2; exact Or.inl ⟨h, hx, by omega⟩
    | false => rw [hx, if_neg (by decide)] at h2; exact Or.inr ⟨fun _ => hx, by omega⟩
  · rw [run_end pr t j h] at h1
    exact Or.inr ⟨fun h' => by omega, by omega⟩

set_option maxRecDepth 100000 in
set_option maxHeartbeats 2000000 in
theorem next_name (t : ByteArray) (ht : t.size ≤ 1000000) (p : Nat) (hp : p < t.size) (hc : isLetter t[p] = true) (w : World) :
    Calls Tryz.prog 23 #[.string t, .int .i64 p] w fun x w' => x = .returned (nextV (t.data.toList.drop p) p (tok (t.data.toList.drop p))) ∧ Below w.heap.size w w' := by
  have HS : Hid (Since w w) := Below.refl _ _
  have hlet := fun w => rletter_any t[p] w
  rw [hc] at hlet
  have hword := fun (k : Nat) (h : k < t.size) w => rword_any t[k] w
  have htk : tok (t.data.toList.drop p) = if 24 < runLen isWord (t.data.toList.drop p) then .bad 3 else .good 1 (runLen isWord (t.data.toList.drop p)) 0 := by
    rw [drop_byte t p hp]; exact tok_letter _ _ hc
  have hle := runLen_le isWord (t.data.toList.drop p)
  rw [List.length_drop, Array.length_toList] at hle
  have hst := run_step isWord t p hp
  rw [word_of_letter hc, if_pos rfl] at hst
  obtain ⟨g, hg⟩ : ∃ g, runLen isWord (t.data.toList.drop p) = g := ⟨_, rfl⟩
  rw [hg] at htk hle hst
  have hle2 : p + g ≤ t.size := by
    have : t.data.size = t.size := rfl
    omega
  obtain ⟨V, hV⟩ : ∃ V, nextV (t.data.toList.drop p) p (tok (t.data.toList.drop p)) = V := ⟨_, rfl⟩
  rw [hV]
  rw [htk] at hV
  have HV := Lib.hid hV; have HLT := Lib.hid hlet; have HW := Lib.hid hword; have HST := Lib.hid hst
  have hex := extract_run t p g
  have HX := Lib.hid hex
  clear hV hlet hword hst htk hle hg hc hex
  obtain ⟨N, hN⟩ : ∃ N, t[p].toNat = N := ⟨_, rfl⟩
  rw [hN] at HLT
  go_enter Tryz.func23, Tryz.ntmps23
  go_wp2_with fail
  refine (HLT.out _).mono ?_; rintro e w1 ⟨rfl, rfl⟩
  go_wp2
  have f0 := (Four.new w (.int .i64 0) (.string ⟨#[]⟩) (.int .i64 0) (.int .i64 0) 67).below (Nat.lt_succ_self _) (by have := Below.alloc (Below.refl (w.alloc (.cells #[.int .i64 0, .string ⟨#[]⟩, .int .i64 0, .int .i64 0] 67)).heap.size _) (Nat.le_refl _) (.cells #[.int .i64 0, .string ⟨#[]⟩, .int .i64 0, .int .i64 p] 67); simpa using this)
  have f1 := Four.new (w.alloc (.cells #[.int .i64 0, .string ⟨#[]⟩, .int .i64 0, .int .i64 0] 67)) (.int .i64 0) (.string ⟨#[]⟩) (.int .i64 0) (.int .i64 p) 67
  have k0 : ((w.alloc (.cells #[.int .i64 0, .string ⟨#[]⟩, .int .i64 0, .int .i64 0] 67)).alloc (.cells #[.int .i64 0, .string ⟨#[]⟩, .int .i64 0, .int .i64 p] 67)).cell? ⟨w.heap.size + 1, 0, none⟩ = some (.int .i64 0) := by simp
  have k1 : ((w.alloc (.cells #[.int .i64 0, .string ⟨#[]⟩, .int .i64 0, .int .i64 0] 67)).alloc (.cells #[.int .i64 0, .string ⟨#[]⟩, .int .i64 0, .int .i64 p] 67)).cell? ⟨w.heap.size + 1, 1, none⟩ = some (.string ⟨#[]⟩) := by simp
  have k2 : ((w.alloc (.cells #[.int .i64 0, .string ⟨#[]⟩, .int .i64 0, .int .i64 0] 67)).alloc (.cells #[.int .i64 0, .string ⟨#[]⟩, .int .i64 0, .int .i64 p] 67)).cell? ⟨w.heap.size + 1, 2, none⟩ = some (.int .i64 0) := by simp
  have k3 : ((w.alloc (.cells #[.int .i64 0, .string ⟨#[]⟩, .int .i64 0, .int .i64 0] 67)).alloc (.cells #[.int .i64 0, .string ⟨#[]⟩, .int .i64 0, .int .i64 p] 67)).cell? ⟨w.heap.size + 1, 3, none⟩ = some (.int .i64 p) := by simp
  have hS1 := (HS.out.alloc (.cells #[.int .i64 0, .string ⟨#[]⟩, .int .i64 0, .int .i64 0] 67)).alloc (.cells #[.int .i64 0, .string ⟨#[]⟩, .int .i64 0, .int .i64 p] 67)
  simp only [World.size_alloc] at f1
  generalize (w.alloc (.cells #[.int .i64 0, .string ⟨#[]⟩, .int .i64 0, .int .i64 0] 67)).alloc (.cells #[.int .i64 0, .string ⟨#[]⟩, .int .i64 0, .int .i64 p] 67) = W1 at *
  have hS1' := f1.facts
  obtain ⟨⟨e0, e1, e2, e3, q0, q1, q2, q3⟩, r0, r1, r2, r3⟩ := f0.facts
  obtain ⟨_, s0, s1, s2, s3⟩ := f1.facts
  have HF0 := Lib.hid f0; have HF1 := Lib.hid f1; have HS1 := Lib.hid hS1
  clear f0 f1 hS1 hS1'
  go_loopw [6] (fun i wr => ∃ j : Nat, i = .int .i64 j ∧ p + 1 ≤ j ∧ j ≤ t.size ∧ W1 = wr ∧ Hid (j + runLen isWord (t.data.toList.drop j) = p + g)) (fun i _ => t.size - (intOf i).toNat)
  case atStart => exact ⟨p + 1, by go_num, Nat.le_refl _, hp, rfl, Lib.hid (by have := HST.out; omega)⟩
  case round =>
    obtain ⟨j, rfl, hpj, hj, rfl, HJ⟩ := hrel
    rcases run_key isWord t j (p + g) hj HJ.out with ⟨hjl, hx, hnext⟩ | ⟨hx, hje⟩
    · have hw := HW.out j hjl
      rw [hx] at hw
      have H1 := Lib.hid hw; have HN := Lib.hid hnext
      have hd : decide ((j : Int) < (t.size : Int)) = true := by simp; omega
      clear hw hx hnext HJ
      go_wp2_with fail
      refine (H1.out _).mono ?_; rintro e w1 ⟨rfl, rfl⟩
      go_wp2
      go_roundw
      case rel => exact ⟨j + 1, by go_num, by omega, by omega, trivial, HN⟩
      case measure => simp [intOf]; omega
    · subst hje
      clear HJ
      by_cases hjl : p + g < t.size
      · have hw := HW.out (p + g) hjl
        rw [hx hjl] at hw
        have H1 := Lib.hid hw
        have hd : decide (((p + g : Nat) : Int) < (t.size : Int)) = true := by simp; omega
        clear hw hx
        go_wp2_with fail
        refine (H1.out _).mono ?_; rintro e w1 ⟨rfl, rfl⟩
        by_cases h24 : 24 < g
        · have hd24 : decide ((24 : Int) < (p + g : Nat) - (p : Int)) = true := by simp; omega
          go_wp2
          refine bodyPost_ret (results_tok2 rfl _ _ w.heap.size _ _ _ _ _ rfl rfl ((HF0.out.set _ _).range _ _ _ _)) rfl ⟨?_, since_set4 (HS1.out.setCell (p := ⟨w.heap.size + 1, 0, none⟩) (Nat.le_succ _) _) (Nat.le_refl _) _ _ _ _⟩
          rw [← HV.out, if_pos h24]
          rfl
        · have hd24 : decide ((24 : Int) < (p + g : Nat) - (p : Int)) = false := by simp; omega
          go_wp2
          refine bodyPost_ret (results_tok2 rfl _ _ w.heap.size _ _ _ _ _ rfl rfl (((HF0.out.set _ _).set _ _).range _ _ _ _)) rfl ⟨?_, since_set4 ((HS1.out.setCell (p := ⟨w.heap.size + 1, 0, none⟩) (Nat.le_succ _) _).setCell (p := ⟨w.heap.size + 1, 1, none⟩) (Nat.le_succ _) _) (Nat.le_refl _) _ _ _ _⟩
          rw [← HV.out, if_neg h24, nextV_good, ← HX.out]
          rfl
      · have hd : decide (((p + g : Nat) : Int) < (t.size : Int)) = false := by simp; omega
        clear hx
        by_cases h24 : 24 < g
        · have hd24 : decide ((24 : Int) < (p + g : Nat) - (p : Int)) = true := by simp; omega
          go_wp2
          refine bodyPost_ret (results_tok2 rfl _ _ w.heap.size _ _ _ _ _ rfl rfl ((HF0.out.set _ _).range _ _ _ _)) rfl ⟨?_, since_set4 (HS1.out.setCell (p := ⟨w.heap.size + 1, 0, none⟩) (Nat.le_succ _) _) (Nat.le_refl _) _ _ _ _⟩
          rw [← HV.out, if_pos h24]
          rfl
        · have hd24 : decide ((24 : Int) < (p + g : Nat) - (p : Int)) = false := by simp; omega
          go_wp2
          refine bodyPost_ret (results_tok2 rfl _ _ w.heap.size _ _ _ _ _ rfl rfl (((HF0.out.set _ _).set _ _).range _ _ _ _)) rfl ⟨?_, since_set4 ((HS1.out.setCell (p := ⟨w.heap.size + 1, 0, none⟩) (Nat.le_succ _) _).setCell (p := ⟨w.heap.size + 1, 1, none⟩) (Nat.le_succ _) _) (Nat.le_refl _) _ _ _ _⟩
          rw [← HV.out, if_neg h24, nextV_good, ← HX.out]
          rfl
end Go.Proofs.YtlfjdohjfmfcdaaGreatDoor
