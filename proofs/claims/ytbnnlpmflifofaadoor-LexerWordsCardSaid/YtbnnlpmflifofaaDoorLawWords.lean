/-
  The law LexerWords: its walk.
-/
import Derived.Test.YtbnnlpmflifofaaDoorLawHelp
import Derived.Test.YtbnnlpmflifofaaDoorRefName
import Derived.Test.YtbnnlpmflifofaaDoorRefDec
import Derived.Test.YtbnnlpmflifofaaDoorRefSame
import Derived.IntWalk
namespace Go.Proofs.YtbnnlpmflifofaaDoor
open Go.RowKit Go.Sort Foyer.Lexer

def symC (x : Nat) : UInt8 := wordSyms.getD x 0
theorem sym_slice : ∀ x : Fin 14, (⟨#[61, 59, 60, 62, 40, 41, 123, 125, 43, 45, 47, 44, 46, 58]⟩ : ByteArray).extract x.val (x.val + 1) = ⟨#[symC x.val]⟩ ∧ symC x.val ∈ wordSyms := by decide +kernel
theorem name_parts {l : List UInt8} (h : nameB l = true) : (∃ d r, l = d :: r ∧ isLetter d = true) ∧ (∀ b ∈ l, isWord b = true) ∧ l.length ≤ 24 := by
  unfold nameB at h
  simp only [Bool.and_eq_true, List.all_eq_true, decide_eq_true_eq] at h
  obtain ⟨h1, ⟨h2, h3⟩, h4⟩ := h
  refine ⟨?_, h1, h3⟩
  cases l with
  | nil => simp at h2
  | cons d r => exact ⟨d, r, rfl, h4⟩

set_option maxRecDepth 100000 in
set_option maxHeartbeats 4000000 in
theorem words_ok (l : List UInt8) (R K : Nat) (hK : K < 256) (w : World) (hb : nameB l = true) :
    Calls Tryd.prog 10 #[.string ⟨l.toArray⟩, .int .u64 R, .int .u8 K] w fun e w' => e = .returned (.bool true) ∧ Below w.heap.size w w' := by
  have HS : Hid (Since w w) := Below.refl _ _
  obtain ⟨hl, hw, h24⟩ := name_parts hb
  obtain ⟨x, hx⟩ : ∃ x, K % 14 = x := ⟨_, rfl⟩
  have hx14 : x < 14 := by omega
  have hki : ((K : Int) % 14) = (x : Int) := by omega
  obtain ⟨n, hn⟩ : ∃ n, R % 10000000000 = n := ⟨_, rfl⟩
  have hnl : n < 10000000000 := by omega
  have hri : ((R : Int) % 10000000000) = (n : Int) := by omega
  obtain ⟨hsl, hcm⟩ := sym_slice ⟨x, hx14⟩
  dsimp only at hsl hcm
  have hdl := (decDigits_ten hnl).2
  have hlx := lx_words hl hw h24 hcm hnl
  have hdec := fun w => rdecimal_any n hnl w
  have hnm := fun w => rname_big ⟨l.toArray⟩ (by rw [size_of_list]; omega) w
  have hnb : nameB (⟨l.toArray⟩ : ByteArray).data.toList = true := by simpa using hb
  rw [hnb] at hnm
  obtain ⟨c, hc⟩ : ∃ c, symC x = c := ⟨_, rfl⟩
  rw [hc] at hsl hcm hlx
  obtain ⟨D, hD⟩ : ∃ D, Lib.decDigits n = D := ⟨_, rfl⟩
  rw [hD] at hdl hlx hdec
  have hx3 := lexAll_none (by rw [List.length_append, List.length_cons]; omega) hlx
  have e1 : ((⟨l.toArray⟩ : ByteArray) ++ ⟨#[c]⟩ ++ ⟨D.toArray⟩).data.toList = l ++ (c :: D) := by
    rw [ByteArray.data_append, ByteArray.data_append]; simp
  have hz : (⟨#[c]⟩ : ByteArray).size = 1 := rfl
  have z1 : ((⟨l.toArray⟩ : ByteArray) ++ ⟨#[c]⟩ ++ ⟨D.toArray⟩).size ≤ 1000000 := by
    rw [ByteArray.size_append, ByteArray.size_append, hz, size_of_list, size_of_list]; omega
  rw [← e1] at hx3
  have hlex := fun w => lex_n _ z1 _ 3 0 0 rfl hx3 w
  obtain ⟨L, hL⟩ : ∃ L, l.length = L := ⟨_, rfl⟩
  rw [hL] at h24 hlex
  have hs1 : (⟨l.toArray⟩ : ByteArray).size = L := by rw [size_of_list, hL]
  have hs2 : (⟨D.toArray⟩ : ByteArray).size = D.length := size_of_list D
  have hs3 : ((⟨l.toArray⟩ : ByteArray) ++ ⟨#[c]⟩).size = L + 1 := by rw [ByteArray.size_append, hs1]; rfl
  have HLEX := Lib.hid hlex; have HDEC := Lib.hid hdec; have HNM := Lib.hid hnm
  have HD := Lib.hid hD; have HHL := Lib.hid hL; have HNL := Lib.hid hnl; have HHN := Lib.hid hn; have HHX := Lib.hid hx; have HHC := Lib.hid hc
  clear hz hlx hlex hdec hnm hnb hx3 e1 z1 hl hw hcm hD hL hb hn hx hc hnl
  go_enter Tryd.func10, Tryd.ntmps10
  go_wp2_with fail
  refine (head_any _).mono ?_; rintro x w1 ⟨rfl, hb1⟩
  have HS1 := Lib.hid (HS.out.call hb1); clear hb1
  go_wp2_with fail
  refine (HNM.out _).mono ?_; rintro x w1' ⟨rfl, rfl⟩
  go_wp2_with fail
  refine (HDEC.out _).mono ?_; rintro x2 w2' ⟨rfl, rfl⟩
  go_wp2_with fail
  refine (HLEX.out _).mono ?_; rintro x2 w2 ⟨q, cap, rfl, hr, hcap, hm, hb2⟩
  have HS2 := Lib.hid (HS1.out.call hb2); clear hb2
  obtain ⟨b, off, rfl, t0, hbl⟩ := rdT_cells hr 0 _ rfl
  obtain ⟨b', off', e', t1, _⟩ := rdT_cells hr 1 _ rfl
  simp only [Option.some.injEq, Addr.mk.injEq, and_true] at e'
  obtain ⟨rfl, rfl⟩ := e'
  obtain ⟨b', off', e', t2, _⟩ := rdT_cells hr 2 _ rfl
  simp only [Option.some.injEq, Addr.mk.injEq, and_true] at e'
  obtain ⟨rfl, rfl⟩ := e'
  have a0 : w2.cell? ⟨b, off, none⟩ = some (.int .i64 1) := t0.kind
  have a1 : w2.cell? ⟨b, off + 1, none⟩ = some (.string ⟨l.toArray⟩) := t0.text
  have a2 : w2.cell? ⟨b, off + 2, none⟩ = some (.int .i64 0) := t0.val
  have a3 : w2.cell? ⟨b, off + 3, none⟩ = some (.int .i64 0) := t0.pos
  have b0 : w2.cell? ⟨b, off + 4, none⟩ = some (.int .i64 3) := t1.kind
  have b1 : w2.cell? ⟨b, off + 4 + 1, none⟩ = some (.string ⟨#[c]⟩) := t1.text
  have c0 : w2.cell? ⟨b, off + 8, none⟩ = some (.int .i64 2) := t2.kind
  have c1 : w2.cell? ⟨b, off + 8 + 1, none⟩ = some (.string ⟨D.toArray⟩) := t2.text
  have c2 : w2.cell? ⟨b, off + 8 + 2, none⟩ = some (.int .i64 n) := t2.val
  have c3 : w2.cell? ⟨b, off + 8 + 3, none⟩ = some (.int .i64 ((L : Int) + 1)) := t2.pos
  have f1 := fun w => tok_eql 1 1 0 0 0 0 ⟨l.toArray⟩ ⟨l.toArray⟩ true (by simp) w
  have f3 := fun w => tok_eql 2 2 (n : Int) (n : Int) ((L : Int) + 1) ((L : Int) + 1) ⟨D.toArray⟩ ⟨D.toArray⟩ true (by simp) w
  have g1 := fun (x y : Operand) (xs ys : Array Value) (w : World) => guard_eql x y xs ys w
  have hwr : IntKind.i64.wrap ((L : Int) + 1) = (L : Int) + 1 := IntWalk.i64_in _ ⟨by omega, by omega⟩
  have hdq : ∀ m, Calls Tryd.prog 19 #[.int .i64 n] (w2.drewN m) fun e w' => e = .returned (.string ⟨D.toArray⟩) ∧ ∃ m2, w' = w2.drewN m2 := fun m => (HDEC.out _).mono fun e w' ⟨he, hw⟩ => ⟨he, m, hw.symm⟩
  have HDQ := Lib.hid hdq; have HF1 := Lib.hid f1; have HF3 := Lib.hid f3; have HG1 := Lib.hid g1; have HWR := Lib.hid hwr
  clear hr t0 t1 t2 hdq f1 f3 g1 hwr hsl hki hri
  go_wp2
  have f1 := HF1.out
  have f3 := HF3.out
  have g1 := HG1.out
  have hwr := HWR.out
  go_quiet (first | with_reducible exact HDQ.out _)
  go_wp2
  go_ret
  exact ⟨rfl, HS2.out.drewN _⟩

theorem u64_low {n : Int} (h : (Lit.int .u64 n).wf = true) : 0 ≤ n := by
  simp [Lit.wf, IntKind.min, IntKind.max, IntKind.bits, IntKind.signed] at h; omega
set_option maxRecDepth 100000 in
set_option maxHeartbeats 2000000 in
theorem words_walk (t : ByteArray) (raw sraw : Int) (w : World) (ht : t.size ≤ maxLen) (hraw : (Lit.int .u64 raw).wf = true) (hsraw : (Lit.int .u8 sraw).wf = true) (_ : Env w) :
    Calls Tryd.prog 10 #[.string t, .int .u64 raw, .int .u8 sraw] w fun e w' => e = .returned (.bool true) ∧ Below w.heap.size w w' := by
  obtain ⟨R, rfl⟩ := Int.eq_ofNat_of_zero_le (u64_low hraw)
  obtain ⟨hs0, hs1⟩ := u8_bounds hsraw
  obtain ⟨K, rfl⟩ := Int.eq_ofNat_of_zero_le hs0
  have hK : K < 256 := by omega
  unfold maxLen at ht
  clear hraw hsraw hs0 hs1
  cases hb : nameB t.data.toList with
  | true =>
    have := words_ok t.data.toList R K hK w hb
    rwa [← ba_eq] at this
  | false =>
    have HS : Hid (Since w w) := Below.refl _ _
    have hnm := fun w => rname_big t ht w
    rw [hb] at hnm
    have HNM := Lib.hid hnm
    clear hnm hb
    go_enter Tryd.func10, Tryd.ntmps10
    go_wp2_with fail
    refine (head_any _).mono ?_; rintro x w1 ⟨rfl, hb1⟩
    have HS1 := Lib.hid (HS.out.call hb1); clear hb1
    go_wp2_with fail
    refine (HNM.out _).mono ?_; rintro x w1' ⟨rfl, rfl⟩
    go_wp2
    go_ret
    exact ⟨rfl, HS1.out⟩
end Go.Proofs.YtbnnlpmflifofaaDoor
