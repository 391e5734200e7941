/-
  The document's own digits, Text and Parse: they return what the program's do.
-/
import Derived.Test.YtdjilieadhnhcaaDoorRefNum
import Derived.Test.YtdjilieadhnhcaaDoorWalkParse
import Derived.Test.YtdjilieadhnhcaaDoorMathAcc
namespace Go.Proofs.YtdjilieadhnhcaaDoor
open Go.RowKit Go.Sort Foyer.Money

def digits10 : ByteArray := ⟨#[48, 49, 50, 51, 52, 53, 54, 55, 56, 57]⟩
theorem digit_slice : ∀ n : Fin 10, digits10.extract n.val (n.val + 1) = ⟨(Lib.decDigits n.val).toArray⟩ := by
  intro n
  rw [dec_small n.isLt]
  revert n
  decide +kernel

set_option maxRecDepth 100000 in
theorem rdigit_small (n : Nat) (wd : Int) (w : World) (h : n < 10) (hw : wd ≤ 1) :
    Calls Tryd.prog 37 #[.int .i64 n, .int .i64 wd] w fun e w' => e = .returned (.string ⟨(Lib.decDigits n).toArray⟩) ∧ w = w' := by
  have hs := digit_slice ⟨n, h⟩
  have Hs := Lib.hid hs; clear hs
  go_enter Tryd.func37, Tryd.ntmps37
  go_wp2
  go_ret
  exact ⟨by rw [← Hs.out]; rfl, rfl⟩

set_option maxRecDepth 100000 in
theorem rdigits_low (k : Nat) : ∀ (n : Nat) (wd : Int) (w : World), n < 10 ^ (k + 1) → k ≤ 10 → -100 + (k : Int) ≤ wd → wd ≤ 1 →
    Calls Tryd.prog 37 #[.int .i64 n, .int .i64 wd] w fun e w' => e = .returned (.string ⟨(Lib.decDigits n).toArray⟩) ∧ w = w' := by
  induction k with
  | zero => intro n wd w hn _ _ hw; exact rdigit_small n wd w (by simpa using hn) hw
  | succ k ih =>
    intro n wd w hn hk h1 h2
    by_cases hs : n < 10
    · exact rdigit_small n wd w hs h2
    · have hb : (10 : Nat) ^ (k + 1 + 1) ≤ 10 ^ 12 := Nat.pow_le_pow_right (by decide) (by omega)
      have hb2 : (10 : Nat) ^ 12 = 1000000000000 := by decide
      have hn2 : n < 1000000000000 := by omega
      have hq : n / 10 < 10 ^ (k + 1) := by rw [Nat.pow_succ] at hn; omega
      have hl := dec_length n
      have hl2 := nDigits_le 11 n (by have : (10 : Nat) ^ (11 + 1) = 1000000000000 := by decide
                                      omega)
      have hD := dec_big hs
      have hlq := dec_length (n / 10)
      have hlq2 := nDigits_le 11 (n / 10) (by have : (10 : Nat) ^ (11 + 1) = 1000000000000 := by decide
                                              omega)
      rw [hD]
      have hS := str_append (Lib.decDigits (n / 10)) [UInt8.ofNat (48 + n % 10)]
      have HS := Lib.hid hS
      have hr := dec_small (u := n % 10) (by omega)
      have c1 := fun W => ih (n / 10) (wd - 1) W hq (by omega) (by omega) (by omega)
      have c2 := fun W => rdigit_small (n % 10) 1 W (by omega) (by omega)
      rw [hr] at c2
      have H1 := Lib.hid c1; have H2 := Lib.hid c2
      have hls : (Lib.decDigits (n / 10)).length ≤ 12 := by omega
      clear hS hr c1 c2 ih hD hl hl2 hlq hlq2 hb hb2 hq hn hk
      have hn10 : ¬ (n : Int) < 10 := by omega
      generalize Lib.decDigits (n / 10) = l1 at *
      generalize UInt8.ofNat (48 + n % 10) = x at *
      go_enter Tryd.func37, Tryd.ntmps37
      go_wp2_with fail
      refine (H1.out _).mono ?_; rintro e w' ⟨rfl, rfl⟩
      go_wp2_with fail
      refine (H2.out _).mono ?_; rintro e w' ⟨rfl, rfl⟩
      go_wp2
      go_ret
      exact ⟨by rw [← HS.out]; rfl, rfl⟩

set_option maxRecDepth 100000 in
theorem rdigits_two (n : Nat) (w : World) (h : n < 100) :
    Calls Tryd.prog 37 #[.int .i64 n, .int .i64 2] w fun e w' => e = .returned (.string ⟨([UInt8.ofNat (48 + n / 10), UInt8.ofNat (48 + n % 10)] : List UInt8).toArray⟩) ∧ w = w' := by
  have c1 := fun W => rdigit_small (n / 10) 1 W (by omega) (by omega)
  have c2 := fun W => rdigit_small (n % 10) 1 W (by omega) (by omega)
  rw [dec_small (by omega)] at c1 c2
  have H1 := Lib.hid c1; have H2 := Lib.hid c2
  have HS : Hid ((⟨([UInt8.ofNat (48 + n / 10)] : List UInt8).toArray⟩ : ByteArray) ++ ⟨([UInt8.ofNat (48 + n % 10)] : List UInt8).toArray⟩ = _) := str_append _ _
  clear c1 c2
  generalize UInt8.ofNat (48 + n / 10) = x at *
  generalize UInt8.ofNat (48 + n % 10) = y at *
  by_cases hn : (n : Int) < 10
  · go_enter Tryd.func37, Tryd.ntmps37
    go_wp2_with fail
    refine (H1.out _).mono ?_; rintro e w' ⟨rfl, rfl⟩
    go_wp2_with fail
    refine (H2.out _).mono ?_; rintro e w' ⟨rfl, rfl⟩
    go_wp2
    go_ret
    exact ⟨by rw [show ([x, y] : List UInt8) = [x] ++ [y] from rfl, ← HS.out]; rfl, rfl⟩
  · go_enter Tryd.func37, Tryd.ntmps37
    go_wp2_with fail
    refine (H1.out _).mono ?_; rintro e w' ⟨rfl, rfl⟩
    go_wp2_with fail
    refine (H2.out _).mono ?_; rintro e w' ⟨rfl, rfl⟩
    go_wp2
    go_ret
    exact ⟨by rw [show ([x, y] : List UInt8) = [x] ++ [y] from rfl, ← HS.out]; rfl, rfl⟩

theorem dot_append (l : List UInt8) (x y : UInt8) : (⟨l.toArray⟩ : ByteArray) ++ ⟨#[46]⟩ ++ ⟨#[x, y]⟩ = ⟨(l ++ 46 :: [x, y]).toArray⟩ := by
  have e1 : (⟨#[46]⟩ : ByteArray) = ⟨([46] : List UInt8).toArray⟩ := rfl
  have e2 : (⟨#[x, y]⟩ : ByteArray) = ⟨([x, y] : List UInt8).toArray⟩ := rfl
  rw [e1, e2, str_append, str_append]; simp

set_option maxRecDepth 100000 in
theorem rtext_bad (n : Int) (w : World) (h : valid n = false) :
    Calls Tryd.prog 23 #[.int .i64 n] w fun e w' => e = .returned (.string ⟨(text n).toArray⟩) ∧ w = w' := by
  rw [text_nil h]
  go_enter Tryd.func23, Tryd.ntmps23
  go_wp2_with (go_at_call 21; refine (rvalid_no _ _ h).mono ?_; rintro e w' ⟨rfl, rfl⟩)
  go_ret
  exact ⟨rfl, rfl⟩

set_option maxRecDepth 100000 in
theorem rtext_plain (u : Nat) (w : World) (h : u ≤ 1000000000) :
    Calls Tryd.prog 23 #[.int .i64 u] w fun e w' => e = .returned (.string ⟨(bare u).toArray⟩) ∧ w = w' := by
  have hv : valid (u : Int) = true := valid_iff.2 (by omega)
  have hB := bare_eq u
  have hl := dec_length (u / 100)
  have hl2 := nDigits_le 9 (u / 100) (by have : (10 : Nat) ^ (9 + 1) = 10000000000 := by decide
                                         omega)
  have hls : (Lib.decDigits (u / 100)).length ≤ 10 := by omega
  have c1 := fun W => rdigits_low 8 (u / 100) 1 W (by have : (10 : Nat) ^ (8 + 1) = 1000000000 := by decide
                                                      omega) (by omega) (by omega) (by omega)
  have c2 := fun W => rdigits_two (u % 100) W (by omega)
  have hD := dot_append (Lib.decDigits (u / 100)) (UInt8.ofNat (48 + u % 100 / 10)) (UInt8.ofNat (48 + u % 100 % 10))
  rw [hB]
  have H1 := Lib.hid c1; have H2 := Lib.hid c2; have HD := Lib.hid hD; have Hv := Lib.hid hv
  clear c1 c2 hD hB hl hl2 hv
  generalize Lib.decDigits (u / 100) = l at *
  generalize UInt8.ofNat (48 + u % 100 / 10) = x at *
  generalize UInt8.ofNat (48 + u % 100 % 10) = y at *
  go_enter Tryd.func23, Tryd.ntmps23
  go_wp2_with fail
  refine (rvalid_yes _ _ Hv.out).mono ?_; rintro e w' ⟨rfl, rfl⟩
  go_wp2_with fail
  refine (H1.out _).mono ?_; rintro e w' ⟨rfl, rfl⟩
  go_wp2_with fail
  refine (H2.out _).mono ?_; rintro e w' ⟨rfl, rfl⟩
  go_wp2
  go_ret
  exact ⟨by rw [← HD.out]; rfl, rfl⟩

set_option maxRecDepth 100000 in
theorem rtext_any (n : Int) (w : World) :
    Calls Tryd.prog 23 #[.int .i64 n] w fun e w' => e = .returned (.string ⟨(text n).toArray⟩) ∧ w = w' := by
  cases hv : valid n
  · exact rtext_bad n w hv
  · have hb := valid_iff.1 hv
    by_cases hn : n < 0
    · obtain ⟨u, hu⟩ : ∃ u : Nat, n = -(u : Int) := ⟨n.natAbs, by omega⟩
      have hT : text n = 45 :: bare u := by
        unfold text; rw [if_pos hv, if_pos hn]
        have : n.natAbs = u := by omega
        rw [this]
      rw [hT]
      have c := fun W => rtext_plain u W (by omega)
      have hl := bare_length u (by omega)
      have hS := str_append [45] (bare u)
      have HC := Lib.hid c; have HS := Lib.hid hS; have Hv := Lib.hid hv
      have hu1 : 0 < (u : Int) := by omega
      have hu2 : (u : Int) ≤ 1000000000 := by omega
      clear c hS hb hT hv hn
      generalize bare u = l at *
      subst hu
      go_enter Tryd.func23, Tryd.ntmps23
      go_wp2_with fail
      refine (rvalid_yes _ _ Hv.out).mono ?_; rintro e w' ⟨rfl, rfl⟩
      go_wp2_with fail
      refine (HC.out _).mono ?_; rintro e w' ⟨rfl, rfl⟩
      go_wp2
      go_ret
      exact ⟨by rw [show (45 : UInt8) :: l = [45] ++ l from rfl, ← HS.out]; rfl, rfl⟩
    · obtain ⟨u, rfl⟩ := Int.eq_ofNat_of_zero_le (show 0 ≤ n by omega)
      have hT : text (u : Int) = bare u := by
        unfold text; rw [if_pos hv, if_neg hn]; rfl
      rw [hT]
      exact rtext_plain u w (by omega)
end Go.Proofs.YtdjilieadhnhcaaDoor
