/-
  The plain mathematics of the texts of amounts: the text of an amount, reading a text, that reading is inverse to writing. No program is spoken of here.
-/
import Derived.Lib.Atoi
import Derived.Lib.ItoaNum
import Derived.Lib.IndexMore
namespace Foyer.Money
open Go.Lib

/-- Is a number an amount? -/
def valid (n : Int) : Bool := decide (-1000000000 ≤ n ∧ n ≤ 1000000000)
theorem valid_iff {n : Int} : valid n = true ↔ -1000000000 ≤ n ∧ n ≤ 1000000000 := by simp [valid]
theorem valid_false {n : Int} : valid n = false ↔ n < -1000000000 ∨ 1000000000 < n := by simp [valid]; omega

/-- The text of an amount's absolute value. -/
def bare (u : Nat) : List UInt8 := itoa ((u / 100 : Nat) : Int) ++ [46] ++ (itoa ((100 + u % 100 : Nat) : Int)).drop 1
/-- The text of an amount; nothing for other numbers. -/
def text (n : Int) : List UInt8 := if valid n then (if n < 0 then 45 :: bare n.natAbs else bare n.natAbs) else []
/-- What is read from a text: the amount, and the error's number. -/
def parse (t : List UInt8) : Int × Int :=
  if 12 < t.length then (0, 4) else
  match atoi ((cut t [46]).1 ++ (cut t [46]).2.1) with
  | none => (0, 4)
  | some v => if text v = t then (v, 0) else (0, 4)

theorem itoa_nat (u : Nat) : itoa (u : Int) = decDigits u := by unfold itoa; rw [if_neg (by omega)]; simp
theorem dec_small {u : Nat} (h : u < 10) : decDigits u = [UInt8.ofNat (48 + u)] := by rw [decDigits, dif_pos h]
theorem dec_big {u : Nat} (h : ¬ u < 10) : decDigits u = decDigits (u / 10) ++ [UInt8.ofNat (48 + u % 10)] := by rw [decDigits, dif_neg h]

theorem digit_of (d : Nat) (h : d < 10) : digitVal (UInt8.ofNat (48 + d)) = some d := by
  unfold digitVal
  have e : (UInt8.ofNat (48 + d)).toNat = 48 + d := by simp; omega
  rw [e, if_pos (by omega)]; congr 1; omega

theorem decFrom_append (a b : List UInt8) : ∀ acc, decFrom acc (a ++ b) = (decFrom acc a).bind fun m => decFrom m b := by
  induction a with
  | nil => intro acc; simp [decFrom]
  | cons x r ih =>
    intro acc
    simp only [List.cons_append, decFrom]
    cases digitVal x with
    | none => rfl
    | some d => exact ih _

theorem decFrom_dec (u : Nat) : decFrom 0 (decDigits u) = some u := by
  induction u using Nat.strongRecOn with
  | _ u ih =>
    by_cases h : u < 10
    · rw [dec_small h]; simp only [decFrom, digit_of u h]; simp
    · rw [dec_big h, decFrom_append, ih (u / 10) (by omega)]
      simp only [Option.bind_some, decFrom, digit_of (u % 10) (by omega)]
      congr 1; omega

theorem dec_ne_nil (u : Nat) : decDigits u ≠ [] := by
  by_cases h : u < 10
  · rw [dec_small h]; simp
  · rw [dec_big h]; simp

theorem dec_bytes (u : Nat) : ∀ b ∈ decDigits u, 48 ≤ b.toNat ∧ b.toNat ≤ 57 := by
  induction u using Nat.strongRecOn with
  | _ u ih =>
    by_cases h : u < 10
    · rw [dec_small h]; intro b hb; simp only [List.mem_singleton] at hb; subst hb
      have e : (UInt8.ofNat (48 + u)).toNat = 48 + u := by simp; omega
      omega
    · rw [dec_big h]; intro b hb
      rcases List.mem_append.1 hb with hb | hb
      · exact ih _ (by omega) b hb
      · simp only [List.mem_singleton] at hb; subst hb
        have e : (UInt8.ofNat (48 + u % 10)).toNat = 48 + u % 10 := by simp; omega
        omega

theorem dec_length (u : Nat) : (decDigits u).length = nDigits u := by
  induction u using Nat.strongRecOn with
  | _ u ih =>
    by_cases h : u < 10
    · rw [dec_small h, nDigits_small h]; rfl
    · rw [dec_big h, nDigits_big h, List.length_append, ih _ (by omega)]; rfl

theorem nDigits_le : ∀ (k u : Nat), u < 10 ^ (k + 1) → nDigits u ≤ k + 1
  | 0, u, h => by rw [nDigits_small (by simpa using h)]; omega
  | k + 1, u, h => by
    by_cases h' : u < 10
    · rw [nDigits_small h']; omega
    · rw [nDigits_big h']
      have := nDigits_le k (u / 10) (by rw [Nat.pow_succ] at h; omega)
      omega

/-- The two digits of the cents. -/
theorem cents_eq (r : Nat) (h : r < 100) : (itoa ((100 + r : Nat) : Int)).drop 1 = [UInt8.ofNat (48 + r / 10), UInt8.ofNat (48 + r % 10)] := by
  rw [itoa_nat, dec_big (by omega), dec_big (u := (100 + r) / 10) (by omega), dec_small (u := (100 + r) / 10 / 10) (by omega)]
  have e1 : (100 + r) / 10 % 10 = r / 10 := by omega
  have e2 : (100 + r) % 10 = r % 10 := by omega
  rw [e1, e2]; rfl

theorem bare_eq (u : Nat) : bare u = decDigits (u / 100) ++ 46 :: [UInt8.ofNat (48 + u % 100 / 10), UInt8.ofNat (48 + u % 100 % 10)] := by
  unfold bare; rw [cents_eq _ (Nat.mod_lt _ (by decide)), itoa_nat]; simp

theorem index_dot (p q : List UInt8) (h : (46 : UInt8) ∉ p) : index (p ++ 46 :: q) [46] = (p.length : Int) := by
  induction p with
  | nil => simp [index, List.isPrefixOf]
  | cons a r ih =>
    have ha : a ≠ 46 := fun e => h (by simp [e])
    have hr := ih (fun m => h (List.mem_cons_of_mem _ m))
    have hp : List.isPrefixOf [(46 : UInt8)] (a :: (r ++ 46 :: q)) = false := by
      simp [List.isPrefixOf, Ne.symm ha]
    simp only [List.cons_append, index, hp, hr]
    have : ¬ ((r.length : Int) == -1) = true := by simp
    simp [this]

theorem cut_dot (p q : List UInt8) (h : (46 : UInt8) ∉ p) : cut (p ++ 46 :: q) [46] = (p, q, true) := by
  unfold cut; rw [index_dot p q h, if_pos (by omega)]
  simp [List.drop_append]

theorem dot_not (u : Nat) : (46 : UInt8) ∉ decDigits u := by
  intro h; have := dec_bytes u _ h; simp at this

theorem digits_from (u : Nat) : decFrom 0 (decDigits (u / 100) ++ [UInt8.ofNat (48 + u % 100 / 10), UInt8.ofNat (48 + u % 100 % 10)]) = some u := by
  rw [decFrom_append, decFrom_dec]
  simp only [Option.bind_some, decFrom, digit_of (u % 100 / 10) (by omega), digit_of (u % 100 % 10) (by omega)]
  congr 1; omega

theorem decNat_digits (u : Nat) : decNat (decDigits (u / 100) ++ [UInt8.ofNat (48 + u % 100 / 10), UInt8.ofNat (48 + u % 100 % 10)]) = some u := by
  unfold decNat; rw [if_neg (by simp), digits_from]

theorem atoi_plain (u : Nat) : atoi (decDigits (u / 100) ++ [UInt8.ofNat (48 + u % 100 / 10), UInt8.ofNat (48 + u % 100 % 10)]) = some (u : Int) := by
  have hd := decNat_digits u
  obtain ⟨b, r, hb⟩ : ∃ b r, decDigits (u / 100) = b :: r := by
    cases h : decDigits (u / 100) with
    | nil => exact absurd h (dec_ne_nil _)
    | cons b r => exact ⟨b, r, rfl⟩
  have hbb := dec_bytes (u / 100) b (by rw [hb]; simp)
  rw [hb, List.cons_append] at hd ⊢
  have h1 : (b == 45) = false := by
    simp only [beq_eq_false_iff_ne, ne_eq]; intro e; subst e; simp at hbb
  have h2 : (b == 43) = false := by
    simp only [beq_eq_false_iff_ne, ne_eq]; intro e; subst e; simp at hbb
  simp only [atoi, h1, h2, Bool.false_eq_true, if_false, hd]; rfl

theorem atoi_minus (u : Nat) : atoi (45 :: (decDigits (u / 100) ++ [UInt8.ofNat (48 + u % 100 / 10), UInt8.ofNat (48 + u % 100 % 10)])) = some (-(u : Int)) := by
  have h : ((45 : UInt8) == 45) = true := by decide
  simp only [atoi, h, if_true, decNat_digits]; rfl

theorem bare_length (u : Nat) (h : u ≤ 1000000000) : (bare u).length ≤ 11 := by
  rw [bare_eq]; simp only [List.length_append, List.length_cons, List.length_nil, dec_length]
  have := nDigits_le 7 (u / 100) (by have : (10 : Nat) ^ (7 + 1) = 100000000 := by decide
                                     omega)
  omega

theorem bare_ne_nil (u : Nat) : bare u ≠ [] := by rw [bare_eq]; simp
theorem text_ne_nil {n : Int} (h : valid n = true) : text n ≠ [] := by
  unfold text; rw [if_pos h]; split
  · simp
  · exact bare_ne_nil _
theorem text_nil {n : Int} (h : valid n = false) : text n = [] := by unfold text; simp [h]
theorem text_length (n : Int) : (text n).length ≤ 12 := by
  by_cases h : valid n = true
  · have hv := valid_iff.1 h
    have := bare_length n.natAbs (by omega)
    unfold text; rw [if_pos h]; split
    · simp; omega
    · omega
  · rw [text_nil (by simpa using h)]; simp

/-- READING IS INVERSE TO WRITING. -/
theorem parse_text {n : Int} (h : valid n = true) : parse (text n) = (n, 0) := by
  have hl := text_length n
  have hk : atoi ((cut (text n) [46]).1 ++ (cut (text n) [46]).2.1) = some n := by
    unfold text; rw [if_pos h, bare_eq]; split
    · rename_i hn
      rw [← List.cons_append, cut_dot _ _ (by
        intro hm; rcases List.mem_cons.1 hm with e | e
        · revert e; decide
        · exact dot_not _ e)]
      simp only [List.cons_append]
      rw [atoi_minus]; congr 1; omega
    · rename_i hn
      rw [cut_dot _ _ (dot_not _)]
      simp only
      rw [atoi_plain]; congr 1; omega
  unfold parse; rw [if_neg (by omega), hk]; simp

theorem text_inj {n m : Int} (hn : valid n = true) (hm : valid m = true) (h : text n = text m) : n = m := by
  have a := parse_text hn
  rw [h, parse_text hm] at a
  exact (Prod.mk.inj a).1.symm

theorem atoi_cut_nil : atoi ((cut [] [46]).1 ++ (cut [] [46]).2.1) = none := by decide

/-- A TEXT THAT IS READ IS THE TEXT OF ITS AMOUNT. -/
theorem parse_ok {t : List UInt8} (h : (parse t).2 = 0) : valid (parse t).1 = true ∧ text (parse t).1 = t := by
  unfold parse at h ⊢
  split at h
  · simp at h
  · rename_i hl
    rw [if_neg hl]
    split at h
    · simp at h
    · rename_i v hv
      split at h
      · rename_i ht
        simp only [ht, if_true]
        refine ⟨?_, trivial⟩
        cases hb : valid v with
        | true => rfl
        | false =>
          rw [text_nil hb] at ht
          rw [← ht, atoi_cut_nil] at hv
          cases hv
      · simp at h
theorem parse_err {t : List UInt8} (h : (parse t).2 ≠ 0) : parse t = (0, 4) := by
  unfold parse at h ⊢
  split
  · rfl
  · rename_i hl
    rw [if_neg hl] at h
    split
    · rfl
    · rename_i v hv
      rw [hv] at h
      simp only at h
      split
      · rename_i ht; simp [ht] at h
      · rfl
end Foyer.Money
