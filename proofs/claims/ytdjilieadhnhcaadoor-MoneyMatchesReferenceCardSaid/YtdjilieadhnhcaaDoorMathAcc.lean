/-
  The plain mathematics of reading a text by its digits alone, as the document's own function does. No program is spoken of here.
-/
import Derived.Test.YtdjilieadhnhcaaDoorMathText
namespace Foyer.Money
open Go.Lib

/-- One byte more: a digit is taken on, anything else is passed over. -/
def digitStep (n : Int) (b : UInt8) : Int := if 48 ≤ b.toNat ∧ b.toNat ≤ 57 ∧ n ≤ 1000000000 then 10 * n + ((b.toNat : Int) - 48) else n
def acc (t : List UInt8) : Int := t.foldl digitStep 0

theorem acc_snoc (t : List UInt8) (b : UInt8) : acc (t ++ [b]) = digitStep (acc t) b := by unfold acc; rw [List.foldl_append]; rfl
theorem acc_bd (t : List UInt8) : 0 ≤ acc t ∧ acc t ≤ 10000000009 := by
  have h : ∀ (l : List UInt8) (n : Int), 0 ≤ n ∧ n ≤ 10000000009 → 0 ≤ l.foldl digitStep n ∧ l.foldl digitStep n ≤ 10000000009 := by
    intro l
    induction l with
    | nil => intro n h; exact h
    | cons b l ih =>
      intro n h
      apply ih
      unfold digitStep; split <;> omega
  exact h t 0 (by omega)

theorem decFrom_ge : ∀ (l : List UInt8) (a m : Nat), decFrom a l = some m → a ≤ m
  | [], a, m, h => by simp only [decFrom, Option.some.injEq] at h; omega
  | b :: r, a, m, h => by
    simp only [decFrom] at h
    cases hd : digitVal b with
    | none => rw [hd] at h; cases h
    | some d =>
      rw [hd] at h
      have := decFrom_ge r _ _ h; omega
theorem fold_dec : ∀ (l : List UInt8) (a m : Nat), decFrom a l = some m → m ≤ 1000000000 → l.foldl digitStep (a : Int) = (m : Int)
  | [], a, m, h, _ => by simp only [decFrom, Option.some.injEq] at h; simp [h]
  | b :: r, a, m, h, hm => by
    simp only [decFrom] at h
    cases hd : digitVal b with
    | none => rw [hd] at h; cases h
    | some d =>
      rw [hd] at h
      obtain ⟨d1, d2, d3⟩ := digitVal_eq hd
      have hg := decFrom_ge r _ _ h
      have e : digitStep (a : Int) b = ((a * 10 + d : Nat) : Int) := by
        unfold digitStep
        rw [if_pos ⟨d1, d2, by omega⟩]
        omega
      rw [List.foldl_cons, e]
      exact fold_dec r _ _ h hm
theorem digitStep_other (n : Int) (b : UInt8) (h : b.toNat < 48) : digitStep n b = n := by unfold digitStep; rw [if_neg (by omega)]

theorem acc_bare (u : Nat) (h : u ≤ 1000000000) : (bare u).foldl digitStep 0 = (u : Int) := by
  rw [bare_eq, List.foldl_append, List.foldl_cons, digitStep_other _ 46 (by decide)]
  have hd := digits_from u
  rw [decFrom_append, decFrom_dec] at hd
  simp only [Option.bind_some] at hd
  have h1 : (decDigits (u / 100)).foldl digitStep 0 = ((u / 100 : Nat) : Int) := fold_dec _ 0 _ (decFrom_dec _) (by omega)
  rw [h1]
  exact fold_dec _ _ _ hd h
/-- THE DIGITS OF AN AMOUNT's TEXT ARE ITS ABSOLUTE VALUE. -/
theorem acc_text {v : Int} (h : valid v = true) : acc (text v) = v.natAbs := by
  have hv := valid_iff.1 h
  unfold acc text
  rw [if_pos h]
  split
  · rw [List.foldl_cons, digitStep_other _ 45 (by decide)]; exact acc_bare _ (by omega)
  · exact acc_bare _ (by omega)

theorem parse_of_text {v : Int} {t : List UInt8} (ht : t ≠ []) (h : text v = t) : parse t = (v, 0) := by
  cases hv : valid v
  · rw [text_nil hv] at h; exact absurd h.symm ht
  · rw [← h]; exact parse_text hv
theorem parse_nil : parse [] = (0, 4) := by
  apply parse_err
  intro h
  have := parse_ok h
  exact text_ne_nil this.1 this.2
theorem parse_none {t : List UInt8} (h1 : text (acc t) ≠ t) (h2 : text (-acc t) ≠ t) : parse t = (0, 4) := by
  apply parse_err
  intro h
  obtain ⟨hv, ht⟩ := parse_ok h
  have ha := acc_text hv
  rw [ht] at ha
  by_cases hn : 0 ≤ (parse t).1
  · have e : acc t = (parse t).1 := by omega
    rw [e] at h1; exact h1 ht
  · have e : -acc t = (parse t).1 := by omega
    rw [e] at h2; exact h2 ht
end Foyer.Money
