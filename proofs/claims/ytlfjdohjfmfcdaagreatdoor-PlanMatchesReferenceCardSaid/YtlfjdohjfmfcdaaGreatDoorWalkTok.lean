/-
  The walk of what begins at an offset.
-/
import Derived.Test.YtlfjdohjfmfcdaaGreatDoorWalkTokenAt
namespace Go.Proofs.YtlfjdohjfmfcdaaGreatDoor
open Go.RowKit Foyer.Lexer

theorem gotV_bad (s : List UInt8) (p e : Nat) : gotV s p (.bad e) = .tuple #[.agg #[.int .i64 0, .string ⟨#[]⟩, .int .i64 0, .int .i64 p], .int .i64 (e : Nat)] := rfl
theorem tok_letter (c : UInt8) (r : List UInt8) (h : isLetter c = true) : tok (c :: r) = if 24 < runLen isWord (c :: r) then .bad 3 else .good 1 (runLen isWord (c :: r)) 0 := by
  rw [tok, if_pos h]
theorem tok_digit (c : UInt8) (r : List UInt8) (h : isDigit c = true) : tok (c :: r) = if (10 < runLen isDigit (c :: r) || nextWord ((c :: r).drop (runLen isDigit (c :: r)))) = true then .bad 6 else .good 2 (runLen isDigit (c :: r)) (numVal ((c :: r).take (runLen isDigit (c :: r)))) := by
  rw [tok, if_neg (by rw [(digit_not c h).1]; decide), if_pos h]
theorem tok_symbol (c : UInt8) (r : List UInt8) (h : isSym c = true) : tok (c :: r) = .good 3 1 0 := by
  obtain ⟨h1, h2, _⟩ := sym_not c h
  simp [tok, h1, h2, h]
theorem tok_cmp (c : UInt8) (r : List UInt8) (h : isCmp c = true) : tok (c :: r) = cmpTok (c :: r) := by
  obtain ⟨h1, h2, h3, _⟩ := cmp_not c h
  simp [tok, cmpTok, h1, h2, h3, h]
theorem tok_else (c : UInt8) (r : List UInt8) (h1 : isLetter c = false) (h2 : isDigit c = false) (h3 : isSym c = false) (h4 : isCmp c = false) : tok (c :: r) = .bad 5 := by
  simp [tok, h1, h2, h3, h4]

set_option maxRecDepth 100000 in
set_option maxHeartbeats 1000000 in
theorem tokenAt_any (t : ByteArray) (ht : t.size ≤ 1000000) (b p : Nat) (hp : p < t.size) (w : World) (hs : Src w b t) :
    Calls Tryz.prog 32 #[.pointer (some ⟨b, 0, none⟩), .int .i64 p] w fun x w' => x = .returned (gotV (t.data.toList.drop p) p (tok (t.data.toList.drop p))) ∧ Below w.heap.size w w' := by
  have hlt := hs.lt
  have HS : Hid (Since w w) := Below.refl _ _
  have htx := hs.text
  have hc := hs.at_ t[p]
  have hcls := cls_facts t[p]
  have hdr := drop_byte t p hp
  obtain ⟨s, hs2⟩ : ∃ s, t.data.toList.drop p = s := ⟨_, rfl⟩
  have hname := fun w' (h : Src w' b t) => nameAt_any t ht b p (by omega) w' h
  have hnum := fun hd1 w' (h : Src w' b t) => numberAt_any t ht b p (by omega) hd1 w' h
  have hcmp := fun w' (h : Src w' b t) => comparisonAt_any t ht b p hp w' h
  have hsym := fun w' (h : Src w' b t) => token_any t ht b p (p + 1) 3 (Nat.le_add_right _ _) hp w' h
  rw [Nat.add_sub_cancel_left] at hsym
  rw [hs2] at hname hnum hcmp hsym hdr ⊢
  obtain ⟨c, hcc⟩ : ∃ c, cls t[p] = c := ⟨_, rfl⟩
  rw [hcc] at hc hcls
  have h256 : t[p].toNat < 256 := t[p].toNat_lt
  have HF1 := Lib.hid (Four.new w (.int .i64 0) (.string ⟨#[]⟩) (.int .i64 0) (.int .i64 0) 67)
  have HB1 : Hid (Since w (w.alloc (Obj.cells #[Value.int IntKind.i64 0, Value.string { data := #[] }, Value.int IntKind.i64 0, Value.int IntKind.i64 0] 67))) := Lib.hid (HS.out.alloc _)
  have HSRC := Lib.hid hs
  obtain ⟨G, hG⟩ : ∃ G, tok s = G := ⟨_, rfl⟩
  obtain ⟨V, hV⟩ : ∃ V, gotV s p G = V := ⟨_, rfl⟩
  have HV := Lib.hid hV
  rw [hG, hV]
  clear hV hcc hs hs2
  by_cases h3 : c = 3
  · subst h3
    have e := tok_letter t[p] (t.data.toList.drop (p + 1)) (hcls.2.2.1.1 rfl)
    rw [← hdr, hG] at e
    rw [← e] at hname
    have HN := Lib.hid hname
    clear hname hnum hcmp hsym hcls hdr hG e
    obtain ⟨N, hN⟩ : ∃ N, t[p].toNat = N := ⟨_, rfl⟩
    rw [hN] at hc h256
    go_enter Tryz.func32, Tryz.ntmps32
    go_wp2
    go_quiet (fail)
    go_wp2_with fail
    have HB1' : Hid (Since w ((w.alloc (Obj.cells #[Value.int IntKind.i64 0, Value.string { data := #[] }, Value.int IntKind.i64 0, Value.int IntKind.i64 0] 67)).drewN nq)) := Lib.hid (HB1.out.drewN nq)
    refine (HN.out _ (HSRC.out.since HB1'.out)).mono ?_; rintro e w2 ⟨rfl, hb2⟩
    have HB2 := Lib.hid (HB1'.out.call hb2)
    have hf2 := (HF1.out.drewN nq).below (by simp) hb2
    obtain ⟨⟨d0, d1, d2, d3, h0, h1, h2, h3⟩, f0, f1, f2, f3⟩ := hf2.facts
    have HF2 := Lib.hid hf2
    clear hf2 hb2
    obtain ⟨k, n, v, rfl⟩ | ⟨e, rfl⟩ : (∃ k n v, G = .good k n v) ∨ ∃ e, G = .bad e := by
      cases G with
      | good k n v => exact Or.inl ⟨k, n, v, rfl⟩
      | bad e => exact Or.inr ⟨e, rfl⟩
    · rw [gotV_good]
      go_wp2
      refine bodyPost_ret (results_tok2 rfl _ _ w.heap.size _ _ _ _ _ rfl rfl (HF2.out.range _ _ _ _)) rfl ⟨?_, since_set4 HB2.out (Nat.le_refl _) _ _ _ _⟩
      rw [← HV.out, gotV_good]
      rfl
    · rw [gotV_bad]
      go_wp2
      refine bodyPost_ret (results_tok2 rfl _ _ w.heap.size _ _ _ _ _ rfl rfl (HF2.out.range _ _ _ _)) rfl ⟨?_, since_set4 HB2.out (Nat.le_refl _) _ _ _ _⟩
      rw [← HV.out, gotV_bad]
      rfl
  · by_cases h4 : c = 4
    · subst h4
      have hdig := hcls.2.2.2.1.1 rfl
      have e := tok_digit t[p] (t.data.toList.drop (p + 1)) hdig
      rw [← hdr, hG] at e
      rw [← e] at hnum
      have hnum2 := hnum (by rw [hdr, runLen, if_pos hdig]; omega)
      have HN := Lib.hid hnum2
      clear hname hnum hnum2 hcmp hsym hcls hdr hG e hdig
      obtain ⟨N, hN⟩ : ∃ N, t[p].toNat = N := ⟨_, rfl⟩
      rw [hN] at hc h256
      go_enter Tryz.func32, Tryz.ntmps32
      go_wp2
      go_quiet (fail)
      go_wp2_with fail
      have HB1' : Hid (Since w ((w.alloc (Obj.cells #[Value.int IntKind.i64 0, Value.string { data := #[] }, Value.int IntKind.i64 0, Value.int IntKind.i64 0] 67)).drewN nq)) := Lib.hid (HB1.out.drewN nq)
      refine (HN.out _ (HSRC.out.since HB1'.out)).mono ?_; rintro e w2 ⟨rfl, hb2⟩
      have HB2 := Lib.hid (HB1'.out.call hb2)
      have hf2 := (HF1.out.drewN nq).below (by simp) hb2
      obtain ⟨⟨d0, d1, d2, d3, h0, h1, h2, h3⟩, f0, f1, f2, f3⟩ := hf2.facts
      have HF2 := Lib.hid hf2
      clear hf2 hb2
      obtain ⟨k, n, v, rfl⟩ | ⟨e, rfl⟩ : (∃ k n v, G = .good k n v) ∨ ∃ e, G = .bad e := by
        cases G with
        | good k n v => exact Or.inl ⟨k, n, v, rfl⟩
        | bad e => exact Or.inr ⟨e, rfl⟩
      · rw [gotV_good]
        go_wp2
        refine bodyPost_ret (results_tok2 rfl _ _ w.heap.size _ _ _ _ _ rfl rfl (HF2.out.range _ _ _ _)) rfl ⟨?_, since_set4 HB2.out (Nat.le_refl _) _ _ _ _⟩
        rw [← HV.out, gotV_good]
        rfl
      · rw [gotV_bad]
        go_wp2
        refine bodyPost_ret (results_tok2 rfl _ _ w.heap.size _ _ _ _ _ rfl rfl (HF2.out.range _ _ _ _)) rfl ⟨?_, since_set4 HB2.out (Nat.le_refl _) _ _ _ _⟩
        rw [← HV.out, gotV_bad]
        rfl
    · by_cases h6 : c = 6
      · subst h6
        have e := tok_symbol t[p] (t.data.toList.drop (p + 1)) (hcls.2.2.2.2.2.1.1 rfl)
        rw [← hdr, hG] at e
        have HN := Lib.hid hsym
        have HG := Lib.hid e
        clear hname hnum hcmp hsym hcls hdr hG e
        obtain ⟨N, hN⟩ : ∃ N, t[p].toNat = N := ⟨_, rfl⟩
        rw [hN] at hc h256
        go_enter Tryz.func32, Tryz.ntmps32
        go_wp2
        go_quiet (fail)
        go_wp2_with fail
        have HB1' : Hid (Since w ((w.alloc (Obj.cells #[Value.int IntKind.i64 0, Value.string { data := #[] }, Value.int IntKind.i64 0, Value.int IntKind.i64 0] 67)).drewN nq)) := Lib.hid (HB1.out.drewN nq)
        refine (HN.out _ (HSRC.out.since HB1'.out)).mono ?_; rintro e w2 ⟨rfl, hb2⟩
        have HB2 := Lib.hid (HB1'.out.call hb2)
        have hf2 := (HF1.out.drewN nq).below (by simp) hb2
        obtain ⟨⟨d0, d1, d2, d3, h0, h1, h2, h3⟩, f0, f1, f2, f3⟩ := hf2.facts
        have HF2 := Lib.hid hf2
        clear hf2 hb2
        go_wp2
        refine bodyPost_ret (results_tok2 rfl _ _ w.heap.size _ _ _ _ _ rfl rfl (HF2.out.range _ _ _ _)) rfl ⟨?_, since_set4 HB2.out (Nat.le_refl _) _ _ _ _⟩
        rw [← HV.out, HG.out, gotV_good]
        rfl
      · by_cases h7 : c = 7
        · subst h7
          have e := tok_cmp t[p] (t.data.toList.drop (p + 1)) (hcls.2.2.2.2.2.2.1.1 rfl)
          rw [← hdr, hG] at e
          rw [← e] at hcmp
          have HN := Lib.hid hcmp
          clear hname hnum hcmp hsym hcls hdr hG e
          obtain ⟨N, hN⟩ : ∃ N, t[p].toNat = N := ⟨_, rfl⟩
          rw [hN] at hc h256
          go_enter Tryz.func32, Tryz.ntmps32
          go_wp2
          go_quiet (fail)
          go_wp2_with fail
          have HB1' : Hid (Since w ((w.alloc (Obj.cells #[Value.int IntKind.i64 0, Value.string { data := #[] }, Value.int IntKind.i64 0, Value.int IntKind.i64 0] 67)).drewN nq)) := Lib.hid (HB1.out.drewN nq)
          refine (HN.out _ (HSRC.out.since HB1'.out)).mono ?_; rintro e w2 ⟨rfl, hb2⟩
          have HB2 := Lib.hid (HB1'.out.call hb2)
          have hf2 := (HF1.out.drewN nq).below (by simp) hb2
          obtain ⟨⟨d0, d1, d2, d3, h0, h1, h2, h3⟩, f0, f1, f2, f3⟩ := hf2.facts
          have HF2 := Lib.hid hf2
          clear hf2 hb2
          obtain ⟨k, n, v, rfl⟩ | ⟨e, rfl⟩ : (∃ k n v, G = .good k n v) ∨ ∃ e, G = .bad e := by
            cases G with
            | good k n v => exact Or.inl ⟨k, n, v, rfl⟩
            | bad e => exact Or.inr ⟨e, rfl⟩
          · rw [gotV_good]
            go_wp2
            refine bodyPost_ret (results_tok2 rfl _ _ w.heap.size _ _ _ _ _ rfl rfl (HF2.out.range _ _ _ _)) rfl ⟨?_, since_set4 HB2.out (Nat.le_refl _) _ _ _ _⟩
            rw [← HV.out, gotV_good]
            rfl
          · rw [gotV_bad]
            go_wp2
            refine bodyPost_ret (results_tok2 rfl _ _ w.heap.size _ _ _ _ _ rfl rfl (HF2.out.range _ _ _ _)) rfl ⟨?_, since_set4 HB2.out (Nat.le_refl _) _ _ _ _⟩
            rw [← HV.out, gotV_bad]
            rfl
        · have no : ∀ {k : Nat} {x : Bool}, (c = k ↔ x = true) → c ≠ k → x = false := fun {k} {x} h hk => by
            cases x
            · rfl
            · exact absurd (h.2 rfl) hk
          have e := tok_else t[p] (t.data.toList.drop (p + 1)) (no hcls.2.2.1 h3) (no hcls.2.2.2.1 h4) (no hcls.2.2.2.2.2.1 h6) (no hcls.2.2.2.2.2.2.1 h7)
          rw [← hdr, hG] at e
          have HG := Lib.hid e
          have e3 : decide ((c : Int) = 3) = false := by simp; omega
          have e4 : decide ((c : Int) = 4) = false := by simp; omega
          have e6 : decide ((c : Int) = 6) = false := by simp; omega
          have e7 : decide ((c : Int) = 7) = false := by simp; omega
          clear hname hnum hcmp hsym hcls hdr hG e no
          obtain ⟨N, hN⟩ : ∃ N, t[p].toNat = N := ⟨_, rfl⟩
          rw [hN] at hc h256
          go_enter Tryz.func32, Tryz.ntmps32
          go_wp2
          go_quiet (fail)
          go_wp2
          refine bodyPost_ret (results_tok2 rfl _ _ w.heap.size (.int .i64 0) (.string ⟨#[]⟩) (.int .i64 0) (.int .i64 p) _ rfl rfl ((HF1.out.drewN nq).range _ _ _ _)) rfl ⟨?_, since_set4 (HB1.out.drewN nq) (Nat.le_refl _) _ _ _ _⟩
          rw [← HV.out, HG.out, gotV_bad]
          rfl
end Go.Proofs.YtlfjdohjfmfcdaaGreatDoor
