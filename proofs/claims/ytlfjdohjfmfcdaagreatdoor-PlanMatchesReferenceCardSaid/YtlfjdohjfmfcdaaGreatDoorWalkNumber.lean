/-
  The walk of numbers.
-/
import Derived.Test.YtlfjdohjfmfcdaaGreatDoorWalkToken
import Derived.Test.YtlfjdohjfmfcdaaGreatDoorShelf
import Derived.Lib.AtoiErrMem
namespace Go.Proofs.YtlfjdohjfmfcdaaGreatDoor
open Go.RowKit Foyer.Lexer

theorem gotV_good (s : List UInt8) (p k n v : Nat) : gotV s p (.good k n v) = .tuple #[.agg #[.int .i64 (k : Nat), .string ⟨(s.take n).toArray⟩, .int .i64 (v : Nat), .int .i64 p], .int .i64 0] := rfl
/-- strconv.Atoi of at most 18 bytes. -/
theorem atoi_yes (s : ByteArray) (n : Int) (w : World) (hl : s.size ≤ 18) (h : Lib.atoi s.data.toList = some n) :
    Calls Tryz.prog 59 #[.string s] w fun e w' => e = .returned (.tuple #[.int .i64 n, .nilIface]) ∧ Below w.heap.size w w' :=
  (Tryz.strconv_Atoi s n hl h w).mono fun _ _ ⟨he, t, hw⟩ => ⟨he, by rw [hw]; exact Lib.bytesWorld_below w _ t⟩

theorem more_iff (s : List UInt8) : decide (0 < runLen (ofCls [3, 5]) (s.drop (runLen isDigit s))) = nextWord (s.drop (runLen isDigit s)) := by
  have h := (runLen_split isDigit s).2
  generalize s.drop (runLen isDigit s) = r at h
  cases r with
  | nil => rfl
  | cons c r =>
    have hc := h c rfl
    have e := ofCls_more c hc
    rw [runLen, e]
    show _ = isWord c
    cases hw : isWord c
    · rfl
    · simp

set_option maxRecDepth 100000 in
theorem numberAt_any (t : ByteArray) (ht : t.size ≤ 1000000) (b p : Nat) (hp : p ≤ t.size) (hd1 : 1 ≤ runLen isDigit (t.data.toList.drop p)) (w : World) (hs : Src w b t) :
    Calls Tryz.prog 48 #[.pointer (some ⟨b, 0, none⟩), .int .i64 p] w fun x w' => x = .returned (gotV (t.data.toList.drop p) p (if 10 < runLen isDigit (t.data.toList.drop p) || nextWord ((t.data.toList.drop p).drop (runLen isDigit (t.data.toList.drop p))) then .bad 6 else .good 2 (runLen isDigit (t.data.toList.drop p)) (numVal ((t.data.toList.drop p).take (runLen isDigit (t.data.toList.drop p)))))) ∧ Below w.heap.size w w' := by
  have hlt := hs.lt
  have HS : Hid (Since w w) := Below.refl _ _
  have hle := runLen_le isDigit (t.data.toList.drop p)
  rw [List.length_drop, Array.length_toList] at hle
  have hmore := more_iff (t.data.toList.drop p)
  have hdig := (runLen_split isDigit (t.data.toList.drop p)).1
  have hlen : ((t.data.toList.drop p).take (runLen isDigit (t.data.toList.drop p))).length = runLen isDigit (t.data.toList.drop p) := by
    rw [List.length_take, List.length_drop, Array.length_toList]; omega
  have hparts := fun w' (h : Src w' b t) (q : Option Addr) (cap : Nat) (hr : RdN w' q [4]) => partsEnd_below t ht b p hp [4] 1 rfl (by decide) q cap w' h hr
  rw [ofCls_digit] at hparts
  obtain ⟨g, hg⟩ : ∃ g, runLen isDigit (t.data.toList.drop p) = g := ⟨_, rfl⟩
  rw [hg] at hle hparts hd1 hmore hdig hlen ⊢
  have hle2 : p + g ≤ t.size := by
    have : t.data.size = t.size := rfl
    omega
  rw [List.drop_drop] at hmore ⊢
  have hparts2 := fun w' (h : Src w' b t) (q : Option Addr) (cap : Nat) (hr : RdN w' q [3, 5]) => partsEnd_below t ht b (p + g) hle2 [3, 5] 2 rfl (by decide) q cap w' h hr
  obtain ⟨m, hm⟩ : ∃ m, runLen (ofCls [3, 5]) (t.data.toList.drop (p + g)) = m := ⟨_, rfl⟩
  obtain ⟨T, hT⟩ : ∃ T, (t.data.toList.drop p).take g = T := ⟨_, rfl⟩
  rw [hm] at hmore hparts2
  rw [hT] at hdig hlen ⊢
  have hat := atoi_num (l := T) (by omega) hdig
  have htok := fun w' (h : Src w' b t) => token_any t ht b p (p + g) 2 (Nat.le_add_right _ _) hle2 w' h
  rw [Nat.add_sub_cancel_left, hT] at htok
  obtain ⟨V, hV⟩ : ∃ V, gotV (t.data.toList.drop p) p (if (decide (10 < g) || nextWord (t.data.toList.drop (p + g))) = true then .bad 6 else .good 2 g (numVal T)) = V := ⟨_, rfl⟩
  rw [hV]
  rw [← hmore] at hV
  have HP := Lib.hid hparts; have HP2 := Lib.hid hparts2; have HSRC := Lib.hid hs; have HV := Lib.hid hV; have HAT := Lib.hid hat; have HT := Lib.hid hT; have HTOK := Lib.hid htok; have HLEN := Lib.hid hlen
  clear hparts hparts2 hs hg hle hV hmore hm hdig hat hT htok hlen
  go_enter Tryz.func48, Tryz.ntmps48
  go_wp2_with fail
  have HB1 : Hid (Since w ((w.alloc (Obj.cells #[Value.int IntKind.i64 0, Value.string { data := #[] }, Value.int IntKind.i64 0, Value.int IntKind.i64 0] 67)).alloc (Obj.cells #[Value.int IntKind.i64 4] 83))) := Lib.hid ((HS.out.alloc _).alloc _)
  have hrd : RdN ((w.alloc (Obj.cells #[Value.int IntKind.i64 0, Value.string { data := #[] }, Value.int IntKind.i64 0, Value.int IntKind.i64 0] 67)).alloc (Obj.cells #[Value.int IntKind.i64 4] 83)) (some ⟨w.heap.size + 1, 0, none⟩) [4] := by
    refine ⟨_, rfl, by simp, fun j hj => ?_⟩
    match j, hj with
    | 0, _ => simp
  have HF1 := Lib.hid ((Four.new w (.int .i64 0) (.string ⟨#[]⟩) (.int .i64 0) (.int .i64 0) 67).below (Nat.lt_succ_self _) (by have := Below.alloc (Below.refl (w.alloc (.cells #[.int .i64 0, .string ⟨#[]⟩, .int .i64 0, .int .i64 0] 67)).heap.size _) (Nat.le_refl _) (.cells #[.int .i64 4] 83); simpa using this))
  refine (HP.out _ (HSRC.out.since HB1.out) _ 1 hrd).mono ?_; rintro e w2 ⟨rfl, hb2⟩
  have HB2 := Lib.hid (HB1.out.call hb2)
  have hf2 := HF1.out.below (by simp; omega) hb2
  obtain ⟨⟨d0, d1, d2, d3, h0, h1, h2, h3⟩, f0, f1, f2, f3⟩ := hf2.facts
  have HF2 := Lib.hid hf2
  have hl2 := lt_of_cell h0
  have hb2l : b < w2.heap.size := Nat.lt_of_lt_of_le hlt HB2.out.size
  clear hrd hf2 hb2
  by_cases h10 : 10 < g
  · have hd : decide ((10 : Int) < (p + g : Nat) - (p : Int)) = true := by simp; omega
    go_wp2
    refine bodyPost_ret (results_tok2 rfl _ _ w.heap.size _ _ _ _ _ rfl rfl (HF2.out.range _ _ _ _)) rfl ⟨?_, since_set4 HB2.out (Nat.le_refl _) _ _ _ _⟩
    rw [← HV.out, if_pos (by simp [h10])]
    rfl
  · have hd : decide ((10 : Int) < (p + g : Nat) - (p : Int)) = false := by simp; omega
    have HB2' : Hid (Since w (w2.alloc (Obj.cells #[Value.int IntKind.i64 3, Value.int IntKind.i64 5] 83))) := Lib.hid (HB2.out.alloc _)
    have HF2' : Hid (Four (w2.alloc (Obj.cells #[Value.int IntKind.i64 3, Value.int IntKind.i64 5] 83)) w.heap.size) := Lib.hid (HF2.out.below hl2 ((Below.refl _ _).alloc (Nat.le_refl _) _))
    have HRD : Hid (RdN (w2.alloc (Obj.cells #[Value.int IntKind.i64 3, Value.int IntKind.i64 5] 83)) (some ⟨w2.heap.size, 0, none⟩) [3, 5]) := by
      refine ⟨_, rfl, by simp, fun j hj => ?_⟩
      match j, hj with
      | 0, _ => simp
      | 1, _ => simp
    go_wp2_with fail
    refine (HP2.out _ (HSRC.out.since HB2'.out) _ 2 HRD.out).mono ?_; rintro e w3 ⟨rfl, hb3⟩
    have HB3 := Lib.hid (HB2'.out.call hb3)
    have hl3 := Nat.lt_of_lt_of_le hl2 (Nat.le_trans (by simp) hb3.size)
    have hf3 := HF2'.out.below (by simp; omega) hb3
    have hb3l : b < w3.heap.size := Nat.lt_of_lt_of_le hlt HB3.out.size
    clear h0 h1 h2 h3 f0 f1 f2 f3 HF2' HB2' HRD hb3 HF1 HB1
    obtain ⟨⟨d0, d1, d2, d3, h0, h1, h2, h3⟩, f0, f1, f2, f3⟩ := hf3.facts
    have HF3 := Lib.hid hf3
    clear hf3
    by_cases hm0 : 0 < m
    · have hdm : decide ((p : Int) + g < ((p + g + m : Nat) : Int)) = true := by simp; omega
      go_wp2
      refine bodyPost_ret (results_tok2 rfl _ _ w.heap.size _ _ _ _ _ rfl rfl (HF3.out.range _ _ _ _)) rfl ⟨?_, since_set4 HB3.out (Nat.le_refl _) _ _ _ _⟩
      rw [← HV.out, if_pos (by simp [hm0])]
      rfl
    · have hdm : decide ((p : Int) + g < ((p + g + m : Nat) : Int)) = false := by simp; omega
      go_wp2_with fail
      refine (HTOK.out _ (HSRC.out.since HB3.out)).mono ?_; rintro e w4 ⟨rfl, hb4⟩
      have HB4 := Lib.hid (HB3.out.call hb4)
      have hf4 := HF3.out.below hl3 hb4
      have hl4 := Nat.lt_of_lt_of_le hl3 hb4.size
      clear h0 h1 h2 h3 f0 f1 f2 f3 HF3 hb4
      have HF4 := Lib.hid hf4
      clear hf4
      go_wp2_with fail
      refine (atoi_yes ⟨T.toArray⟩ (numVal T : Nat) _ (by rw [size_of_list]; have := HLEN.out; omega) (by simpa using HAT.out)).mono ?_; rintro e w5 ⟨rfl, hb5⟩
      have HB5 := Lib.hid ((HB4.out.alloc _).call hb5)
      have hf5 := (HF4.out.below hl4 ((Below.refl _ _).alloc (Nat.le_refl _) _)).below (by simp; omega) hb5
      have hl5 : w4.heap.size < w5.heap.size := Nat.lt_of_lt_of_le (by simp) hb5.size
      have hs4 := HB4.out.size
      have k0 : w5.cell? ⟨w4.heap.size, 0, none⟩ = some (.int .i64 2) := by rw [hb5.cell (by simp)]; simp
      have k1 : w5.cell? ⟨w4.heap.size, 1, none⟩ = some (.string ⟨T.toArray⟩) := by rw [hb5.cell (by simp)]; simp
      have k2 : w5.cell? ⟨w4.heap.size, 2, none⟩ = some (.int .i64 0) := by rw [hb5.cell (by simp)]; simp
      have k3 : w5.cell? ⟨w4.heap.size, 3, none⟩ = some (.int .i64 p) := by rw [hb5.cell (by simp)]; simp
      have kf : w5.frozen? ⟨w4.heap.size, 2, none⟩ = false := by rw [hb5.frozen (by simp)]; simp
      obtain ⟨⟨d0, d1, d2, d3, h0, h1, h2, h3⟩, f0, f1, f2, f3⟩ := hf5.facts
      have HF5 := Lib.hid hf5
      clear hf5 hb5 HF4
      go_wp2
      refine bodyPost_ret (results_tok2 rfl _ _ w.heap.size _ _ _ _ _ rfl rfl ((HF5.out.set _ _).range _ _ _ _)) rfl ⟨?_, since_set4 (Below.setCell HB5.out (p := ⟨w4.heap.size, 2, none⟩) hs4 _) (Nat.le_refl _) _ _ _ _⟩
      rw [← HV.out, if_neg (by simp [h10, hm0])]
      rw [gotV_good, HT.out]
      rfl
end Go.Proofs.YtlfjdohjfmfcdaaGreatDoor
