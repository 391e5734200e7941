/-
  The document's own next token: symbols; and whatever begins at an offset.
-/
import Derived.Test.YtlfjdohjfmfcdaaGreatDoorRefNumber
namespace Go.Proofs.YtlfjdohjfmfcdaaGreatDoor
open Go.RowKit Foyer.Lexer

theorem has_cmp : ∀ b : UInt8, hasB ⟨#[33, 60, 62]⟩ b = isCmp b := all_bytes (by decide +kernel)
theorem has_sym : ∀ b : UInt8, hasB ⟨#[59, 44, 46, 58, 40, 41, 123, 125, 61, 60, 62, 43, 45, 47]⟩ b = (isSym b || (isCmp b && decide (b.toNat ≠ 33))) := all_bytes (by decide +kernel)
/-- What a symbol is, by what the document's own text asks. -/
theorem tok_sym (t : ByteArray) (p : Nat) (hp : p < t.size) (hl : isLetter t[p] = false) (hd : isDigit t[p] = false) :
    tok (t.data.toList.drop p) = if isCmp t[p] && (if h : p + 1 < t.size then decide (t[p + 1].toNat = 61) else false) then .good 3 2 0 else if isSym t[p] || (isCmp t[p] && decide (t[p].toNat ≠ 33)) then .good 3 1 0 else .bad 5 := by
  rw [drop_byte t p hp]
  have hh : (t.data.toList.drop (p + 1)).head? = some 61 ↔ (if h : p + 1 < t.size then decide (t[p + 1].toNat = 61) else false) = true := by
    split
    · rename_i h
      rw [drop_byte t (p + 1) h, List.head?_cons, Option.some.injEq, decide_eq_true_eq, ← UInt8.toNat_inj]; rfl
    · rename_i h
      rw [drop_end t (p + 1) (by omega)]; simp
  generalize (if h : p + 1 < t.size then decide (t[p + 1].toNat = 61) else false) = x at *
  generalize t[p] = c at *
  cases hs : isSym c with
  | true =>
    have hcm : isCmp c = false := (sym_not c hs).2.2.1
    rw [tok_symbol c _ hs, hcm]; simp
  | false =>
    cases hcm : isCmp c with
    | true =>
      rw [tok_cmp c _ hcm]
      unfold cmpTok
      simp only [hh]
      cases x
      · simp
      · simp
    | false => rw [tok_else c _ hl hd hs hcm]; simp

set_option maxRecDepth 100000 in
set_option maxHeartbeats 2000000 in
theorem next_symbol (t : ByteArray) (ht : t.size ≤ 1000000) (p : Nat) (hp : p < t.size) (hl : isLetter t[p] = false) (hd : isDigit t[p] = false) (w : World) :
    Calls Tryz.prog 23 #[.string t, .int .i64 p] w fun x w' => x = .returned (nextV (t.data.toList.drop p) p (tok (t.data.toList.drop p))) ∧ Below w.heap.size w w' := by
  have HS : Hid (Since w w) := Below.refl _ _
  have hlet := fun w => rletter_any t[p] w
  rw [hl] at hlet
  have hdgp := fun w => rdigitc_any t[p] w
  rw [hd] at hdgp
  have h1 := fun w => rhas_any ⟨#[33, 60, 62]⟩ (by decide) t[p] w
  rw [has_cmp] at h1
  have h2 := fun w => rhas_any ⟨#[59, 44, 46, 58, 40, 41, 123, 125, 61, 60, 62, 43, 45, 47]⟩ (by decide) t[p] w
  rw [has_sym] at h2
  have htk := tok_sym t p hp hl hd
  obtain ⟨V, hV⟩ : ∃ V, nextV (t.data.toList.drop p) p (tok (t.data.toList.drop p)) = V := ⟨_, rfl⟩
  rw [hV]
  rw [htk] at hV
  obtain ⟨x, hx⟩ : ∃ x, isCmp t[p] = x := ⟨_, rfl⟩
  obtain ⟨y, hy⟩ : ∃ y, (isSym t[p] || (isCmp t[p] && decide (t[p].toNat ≠ 33))) = y := ⟨_, rfl⟩
  rw [hy] at h2 hV
  rw [hx] at h1 hV
  obtain ⟨N, hN⟩ : ∃ N, t[p].toNat = N := ⟨_, rfl⟩
  rw [hN] at hlet hdgp h1 h2
  have HV := Lib.hid hV; have HLT := Lib.hid hlet; have HDP := Lib.hid hdgp; have H1 := Lib.hid h1; have H2 := Lib.hid h2
  clear hV hlet htk hdgp hl hd h1 h2 hx hy
  go_enter Tryz.func23, Tryz.ntmps23
  go_wp2_with fail
  refine (HLT.out _).mono ?_; rintro e w1 ⟨rfl, rfl⟩
  go_wp2_with fail
  refine (HDP.out _).mono ?_; rintro e w1 ⟨rfl, rfl⟩
  have f0 := (Four.new w (.int .i64 0) (.string ⟨#[]⟩) (.int .i64 0) (.int .i64 0) 67).below (Nat.lt_succ_self _) (by have := Below.alloc (Below.refl (w.alloc (.cells #[.int .i64 0, .string ⟨#[]⟩, .int .i64 0, .int .i64 0] 67)).heap.size _) (Nat.le_refl _) (.cells #[.int .i64 0, .string ⟨#[]⟩, .int .i64 0, .int .i64 p] 67); simpa using this)
  have f1 := Four.new (w.alloc (.cells #[.int .i64 0, .string ⟨#[]⟩, .int .i64 0, .int .i64 0] 67)) (.int .i64 0) (.string ⟨#[]⟩) (.int .i64 0) (.int .i64 p) 67
  have k0 : ((w.alloc (.cells #[.int .i64 0, .string ⟨#[]⟩, .int .i64 0, .int .i64 0] 67)).alloc (.cells #[.int .i64 0, .string ⟨#[]⟩, .int .i64 0, .int .i64 p] 67)).cell? ⟨w.heap.size + 1, 0, none⟩ = some (.int .i64 0) := by simp
  have k1 : ((w.alloc (.cells #[.int .i64 0, .string ⟨#[]⟩, .int .i64 0, .int .i64 0] 67)).alloc (.cells #[.int .i64 0, .string ⟨#[]⟩, .int .i64 0, .int .i64 p] 67)).cell? ⟨w.heap.size + 1, 1, none⟩ = some (.string ⟨#[]⟩) := by simp
  have k2 : ((w.alloc (.cells #[.int .i64 0, .string ⟨#[]⟩, .int .i64 0, .int .i64 0] 67)).alloc (.cells #[.int .i64 0, .string ⟨#[]⟩, .int .i64 0, .int .i64 p] 67)).cell? ⟨w.heap.size + 1, 2, none⟩ = some (.int .i64 0) := by simp
  have k3 : ((w.alloc (.cells #[.int .i64 0, .string ⟨#[]⟩, .int .i64 0, .int .i64 0] 67)).alloc (.cells #[.int .i64 0, .string ⟨#[]⟩, .int .i64 0, .int .i64 p] 67)).cell? ⟨w.heap.size + 1, 3, none⟩ = some (.int .i64 p) := by simp
  have hS1 := (HS.out.alloc (.cells #[.int .i64 0, .string ⟨#[]⟩, .int .i64 0, .int .i64 0] 67)).alloc (.cells #[.int .i64 0, .string ⟨#[]⟩, .int .i64 0, .int .i64 p] 67)
  simp only [World.size_alloc] at f1
  generalize (w.alloc (.cells #[.int .i64 0, .string ⟨#[]⟩, .int .i64 0, .int .i64 0] 67)).alloc (.cells #[.int .i64 0, .string ⟨#[]⟩, .int .i64 0, .int .i64 p] 67) = W1 at *
  have hS1' := f1.facts
  obtain ⟨⟨e0, e1, e2, e3, q0, q1, q2, q3⟩, r0, r1, r2, r3⟩ := f0.facts
  obtain ⟨_, s0, s1, s2, s3⟩ := f1.facts
  have HF0 := Lib.hid f0; have HF1 := Lib.hid f1; have HS1 := Lib.hid hS1
  clear f0 f1 hS1 hS1'
  cases x
  · have hV := HV.out
    simp only [Bool.false_and, Bool.false_eq_true, if_false] at hV
    clear HV
    cases y
    · simp only [Bool.false_eq_true, if_false] at hV
      have HV := Lib.hid hV; clear hV
      go_wp2_with fail
      refine (H1.out _).mono ?_; rintro e w1 ⟨rfl, rfl⟩
      go_wp2_with fail
      refine (H2.out _).mono ?_; rintro e w1 ⟨rfl, rfl⟩
      go_wp2
      refine bodyPost_ret (results_tok2 rfl _ _ w.heap.size _ _ _ _ _ rfl rfl ((HF0.out.set _ _).range _ _ _ _)) rfl ⟨?_, since_set4 (HS1.out.setCell (p := ⟨w.heap.size + 1, 0, none⟩) (Nat.le_succ _) _) (Nat.le_refl _) _ _ _ _⟩
      rw [← HV.out]
      rfl
    · simp only [if_true] at hV
      have HV := Lib.hid hV; clear hV
      go_wp2_with fail
      refine (H1.out _).mono ?_; rintro e w1 ⟨rfl, rfl⟩
      go_wp2_with fail
      refine (H2.out _).mono ?_; rintro e w1 ⟨rfl, rfl⟩
      go_wp2
      refine bodyPost_ret (results_tok2 rfl _ _ w.heap.size _ _ _ _ _ rfl rfl (((HF0.out.set _ _).set _ _).range _ _ _ _)) rfl ⟨?_, since_set4 ((HS1.out.setCell (p := ⟨w.heap.size + 1, 0, none⟩) (Nat.le_succ _) _).setCell (p := ⟨w.heap.size + 1, 1, none⟩) (Nat.le_succ _) _) (Nat.le_refl _) _ _ _ _⟩
      rw [← HV.out, nextV_good, ← extract_run t p 1]
      rfl
  · by_cases hjl : p + 1 < t.size
    · have hd : decide ((p : Int) + 1 < (t.size : Int)) = true := by simp; omega
      by_cases h61 : t[p + 1].toNat = 61
      · have hV := HV.out
        rw [dif_pos hjl, decide_eq_true h61] at hV
        simp only [Bool.and_self, if_true] at hV
        have e61 : (((t[p + 1].toNat : Nat) : Int) == 61) = true := by simp [h61]
        clear HV h61
        have HV := Lib.hid hV; clear hV
        go_wp2_with fail
        refine (H1.out _).mono ?_; rintro e w1 ⟨rfl, rfl⟩
        go_wp2
        refine bodyPost_ret (results_tok2 rfl _ _ w.heap.size _ _ _ _ _ rfl rfl (((HF0.out.set _ _).set _ _).range _ _ _ _)) rfl ⟨?_, since_set4 ((HS1.out.setCell (p := ⟨w.heap.size + 1, 0, none⟩) (Nat.le_succ _) _).setCell (p := ⟨w.heap.size + 1, 1, none⟩) (Nat.le_succ _) _) (Nat.le_refl _) _ _ _ _⟩
        rw [← HV.out, nextV_good, ← extract_run t p 2]
        rfl
      · have hV := HV.out
        rw [dif_pos hjl, decide_eq_false h61] at hV
        simp only [Bool.and_false, Bool.false_eq_true, if_false] at hV
        have e61 : (((t[p + 1].toNat : Nat) : Int) == 61) = false := by simp; omega
        clear HV h61
        cases y
        · simp only [Bool.false_eq_true, if_false] at hV
          have HV := Lib.hid hV; clear hV
          go_wp2_with fail
          refine (H1.out _).mono ?_; rintro e w1 ⟨rfl, rfl⟩
          go_wp2_with fail
          refine (H2.out _).mono ?_; rintro e w1 ⟨rfl, rfl⟩
          go_wp2
          refine bodyPost_ret (results_tok2 rfl _ _ w.heap.size _ _ _ _ _ rfl rfl ((HF0.out.set _ _).range _ _ _ _)) rfl ⟨?_, since_set4 (HS1.out.setCell (p := ⟨w.heap.size + 1, 0, none⟩) (Nat.le_succ _) _) (Nat.le_refl _) _ _ _ _⟩
          rw [← HV.out]
          rfl
        · simp only [if_true] at hV
          have HV := Lib.hid hV; clear hV
          go_wp2_with fail
          refine (H1.out _).mono ?_; rintro e w1 ⟨rfl, rfl⟩
          go_wp2_with fail
          refine (H2.out _).mono ?_; rintro e w1 ⟨rfl, rfl⟩
          go_wp2
          refine bodyPost_ret (results_tok2 rfl _ _ w.heap.size _ _ _ _ _ rfl rfl (((HF0.out.set _ _).set _ _).range _ _ _ _)) rfl ⟨?_, since_set4 ((HS1.out.setCell (p := ⟨w.heap.size + 1, 0, none⟩) (Nat.le_succ _) _).setCell (p := ⟨w.heap.size + 1, 1, none⟩) (Nat.le_succ _) _) (Nat.le_refl _) _ _ _ _⟩
          rw [← HV.out, nextV_good, ← extract_run t p 1]
          rfl
    · have hd : decide ((p : Int) + 1 < (t.size : Int)) = false := by simp; omega
      have hV := HV.out
      rw [dif_neg hjl] at hV
      simp only [Bool.and_false, Bool.false_eq_true, if_false] at hV
      clear HV
      cases y
      · simp only [Bool.false_eq_true, if_false] at hV
        have HV := Lib.hid hV; clear hV
        go_wp2_with fail
        refine (H1.out _).mono ?_; rintro e w1 ⟨rfl, rfl⟩
        go_wp2_with fail
        refine (H2.out _).mono ?_; rintro e w1 ⟨rfl, rfl⟩
        go_wp2
        refine bodyPost_ret (results_tok2 rfl _ _ w.heap.size _ _ _ _ _ rfl rfl ((HF0.out.set _ _).range _ _ _ _)) rfl ⟨?_, since_set4 (HS1.out.setCell (p := ⟨w.heap.size + 1, 0, none⟩) (Nat.le_succ _) _) (Nat.le_refl _) _ _ _ _⟩
        rw [← HV.out]
        rfl
      · simp only [if_true] at hV
        have HV := Lib.hid hV; clear hV
        go_wp2_with fail
        refine (H1.out _).mono ?_; rintro e w1 ⟨rfl, rfl⟩
        go_wp2_with fail
        refine (H2.out _).mono ?_; rintro e w1 ⟨rfl, rfl⟩
        go_wp2
        refine bodyPost_ret (results_tok2 rfl _ _ w.heap.size _ _ _ _ _ rfl rfl (((HF0.out.set _ _).set _ _).range _ _ _ _)) rfl ⟨?_, since_set4 ((HS1.out.setCell (p := ⟨w.heap.size + 1, 0, none⟩) (Nat.le_succ _) _).setCell (p := ⟨w.heap.size + 1, 1, none⟩) (Nat.le_succ _) _) (Nat.le_refl _) _ _ _ _⟩
        rw [← HV.out, nextV_good, ← extract_run t p 1]
        rfl
theorem rnext_any (t : ByteArray) (ht : t.size ≤ 1000000) (p : Nat) (hp : p < t.size) (w : World) :
    Calls Tryz.prog 23 #[.string t, .int .i64 p] w fun x w' => x = .returned (nextV (t.data.toList.drop p) p (tok (t.data.toList.drop p))) ∧ Below w.heap.size w w' := by
  cases hl : isLetter t[p] with
  | true => exact next_name t ht p hp hl w
  | false =>
    cases hd : isDigit t[p] with
    | true => exact next_number t ht p hp hl hd w
    | false => exact next_symbol t ht p hp hl hd w
end Go.Proofs.YtlfjdohjfmfcdaaGreatDoor
