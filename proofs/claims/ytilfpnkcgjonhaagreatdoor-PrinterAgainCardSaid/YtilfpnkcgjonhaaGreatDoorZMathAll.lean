/-
  The plain mathematics of what Lex returns, step by step; of places; of written words; of lists of tokens. No program is spoken of here.
-/
import Derived.Test.YtilfpnkcgjonhaaGreatDoorZMathLex
namespace Foyer.Lexer
open Go.Lib
theorem lexAll_long {l : List UInt8} (h : 20000 < l.length) : lexAll l = ([], 3, -1) := by
 unfold lexAll; rw [if_pos h]
theorem lexAll_done {l : List UInt8} {ts : List Tok} (hl : l.length ≤ 20000) (h : Lx 0 l ts none) (h5 : ts.length ≤ 5000) : lexAll l = (ts, 0, 0) := by
 have hr := lx_raw h (l.length + 1) (by omega)
 unfold lexAll
 rw [if_neg (by omega)]
 simp only [hr]
 rw [List.drop_eq_nil_of_le h5]
theorem lexAll_bad {l : List UInt8} {ts : List Tok} {d p : Nat} (hl : l.length ≤ 20000) (h : Lx 0 l ts (some (d, p))) (h5 : ts.length ≤ 5000) : lexAll l = ([], d, (p : Int)) := by
 have hr := lx_raw h (l.length + 1) (by omega)
 unfold lexAll
 rw [if_neg (by omega)]
 simp only [hr]
 rw [List.drop_eq_nil_of_le h5]
theorem lexAll_many {l : List UInt8} {pre us : List Tok} {t : Tok} {e : Option (Nat × Nat)} (hl : l.length ≤ 20000) (h : Lx 0 l (pre ++ t :: us) e) (h5 : pre.length = 5000) : lexAll l = ([], 3, (t.pos : Int)) := by
 have hr := lx_raw h (l.length + 1) (by omega)
 unfold lexAll
 rw [if_neg (by omega)]
 simp only [hr]
 rw [← h5, List.drop_left]
theorem lexAll_bounds (l : List UInt8) : (lexAll l).1.length ≤ 5000 ∧ ((lexAll l).2.1 = 0 ∨ (lexAll l).2.1 = 3 ∨ (lexAll l).2.1 = 5 ∨ (lexAll l).2.1 = 6) ∧ -1 ≤ (lexAll l).2.2 ∧ (lexAll l).2.2 ≤ l.length := by
 obtain ⟨ts, e, h⟩ := lx_some 0 l
 have hr := lx_raw h (l.length + 1) (by omega)
 have hpos : ∀ {a l ts e}, Lx a l ts e → ∀ t ∈ ts, t.pos < a + l.length := by
  intro a l ts e h
  induction h with
  | nil => simp
  | bad => simp
  | good a g T rest k v ts e h hT hr ih =>
   intro t ht
   have := isTok_pos hT
   rcases List.mem_cons.1 ht with rfl | ht
   ·simp only [List.length_append]; omega
   ·have := ih t ht; simp only [List.length_append]; omega
 unfold lexAll
 by_cases h2 : 20000 < l.length
 ·rw [if_pos h2]; exact ⟨by simp, by simp, by simp, by simp⟩
 ·rw [if_neg h2]
  simp only [hr]
  cases hd : ts.drop 5000 with
  | cons t us =>
   have := hpos h t (List.mem_of_mem_drop (by rw [hd]; exact List.mem_cons_self))
   simp only
   exact ⟨by simp, by simp, by omega, by omega⟩
  | nil =>
   have h5 : ts.length ≤ 5000 := by
    have := congrArg List.length hd
    rw [List.length_drop, List.length_nil] at this; omega
   cases e with
   | none => exact ⟨h5, by simp, by simp, by simp⟩
   | some x =>
    obtain ⟨d, p⟩ := x
    obtain ⟨h6, h7, h8⟩ := lx_err h d p rfl
    simp only
    exact ⟨by simp, by omega, by omega, by omega⟩
theorem lx_place {a : Nat} {l : List UInt8} {t : Tok} {ts : List Tok} {e : Option (Nat × Nat)} (h : Lx a l (t :: ts) e) :
  ∃ g rest, l = g ++ (t.text ++ rest) ∧ gm false g = some false ∧ t.pos = a + g.length ∧ 1 ≤ t.text.length ∧ Lx (t.pos + t.text.length) rest ts e := by
 cases h with
 | good _ g T rest k v _ _ h hT hr => exact ⟨g, rest, rfl, h, rfl, isTok_pos hT, hr⟩
theorem lx_end {a : Nat} {l : List UInt8} (h : Lx a l [] none) : (gm false l).isSome = true := by
 cases h with
 | nil _ _ h => exact h
theorem place_step {a : Nat} {L : List UInt8} {t : Tok} {ts : List Tok} {e : Option (Nat × Nat)} (h : Lx a (L.drop a) (t :: ts) e) (ha : a ≤ L.length) :
  a ≤ t.pos ∧ 1 ≤ t.text.length ∧ t.pos + t.text.length ≤ L.length ∧ (L.take (t.pos + t.text.length)).drop t.pos = t.text ∧ gapL false ((L.take t.pos).drop a) = ((L.take t.pos).drop a).length ∧ Lx (t.pos + t.text.length) (L.drop (t.pos + t.text.length)) ts e := by
 obtain ⟨g, rest, hl, hg, hp, h1, hr⟩ := lx_place h
 have hL : L = L.take a ++ (g ++ (t.text ++ rest)) := by rw [← hl, List.take_append_drop]
 have hta : (L.take a).length = a := by rw [List.length_take]; omega
 have hlen : L.length = a + (g.length + (t.text.length + rest.length)) := by
  rw [hL]; simp only [List.length_append, hta]
 generalize L.take a = A at *
 subst hL
 have e1 : (A ++ (g ++ (t.text ++ rest))).take t.pos = A ++ g := by
  rw [hp, ← hta, List.take_length_add_append, List.take_left]
 have e2 : (A ++ (g ++ (t.text ++ rest))).take (t.pos + t.text.length) = A ++ (g ++ t.text) := by
  rw [show t.pos + t.text.length = A.length + (g.length + (t.text.length + 0)) by omega, List.take_length_add_append, List.take_length_add_append, List.take_length_add_append, List.take_zero, List.append_nil]
 have e3 : (A ++ (g ++ (t.text ++ rest))).drop (t.pos + t.text.length) = rest := by
  rw [show t.pos + t.text.length = A.length + (g.length + (t.text.length + 0)) by omega, List.drop_length_add_append, List.drop_length_add_append, List.drop_length_add_append, List.drop_zero]
 refine ⟨by omega, h1, by omega, ?_, ?_, by rw [e3]; exact hr⟩
 ·rw [e2, hp, ← hta, List.drop_length_add_append, List.drop_left]
 ·rw [e1, ← hta, List.drop_left]
  exact gapL_all g false (by rw [hg]; rfl)
theorem decDigits_digits : ∀ (f n : Nat), n < f → (∀ b ∈ decDigits n, isDigit b = true) ∧ numVal (decDigits n) = n
 | 0, n, h => by omega
 | f + 1, n, h => by
  have hd : ∀ i, i < 10 → isDigit (UInt8.ofNat (48 + i)) = true ∧ (UInt8.ofNat (48 + i)).toNat - 48 = i := by decide
  rw [decDigits]
  split
  ·rename_i h10
   obtain ⟨h1, h2⟩ := hd n h10
   refine ⟨by simpa using h1, ?_⟩
   unfold numVal numFrom
   simp only [List.foldl_cons, List.foldl_nil, digitStep]
   omega
  ·rename_i h10
   obtain ⟨h1, h2⟩ := hd (n % 10) (Nat.mod_lt _ (by omega))
   obtain ⟨i1, i2⟩ := decDigits_digits f (n / 10) (by omega)
   refine ⟨fun b hb => ?_, ?_⟩
   ·rcases List.mem_append.1 hb with hb | hb
    ·exact i1 b hb
    ·simp only [List.mem_singleton] at hb; subst hb; exact h1
   ·unfold numVal at i2 ⊢
    rw [numFrom_snoc, i2, h2]; omega
theorem decDigits_ten {n : Nat} (h : n < 10000000000) : 1 ≤ (decDigits n).length ∧ (decDigits n).length ≤ 10 := by
 rw [decDigits_length]
 refine ⟨nDigits_pos n, ?_⟩
 rcases Nat.lt_or_ge 10 (nDigits n) with h2 | h2
 ·exfalso
  have h0 : ∀ k u, k + 1 < nDigits u → u < 10 ^ (k + 1) → False := by
   intro k
   induction k with
   | zero => intro u hk hu; rw [nDigits_small (by simpa using hu)] at hk; omega
   | succ k ih =>
    intro u hk hu
    by_cases h10 : u < 10
    ·rw [nDigits_small h10] at hk; omega
    ·rw [nDigits_big h10] at hk
     refine ih (u / 10) (by omega) ?_
     rw [Nat.pow_succ] at hu
     exact Nat.div_lt_of_lt_mul (by rw [Nat.mul_comm]; exact hu)
  exact h0 9 n h2 (by simpa using h)
 ·exact h2
def wordSyms : List UInt8 := [61, 59, 60, 62, 40, 41, 123, 125, 43, 45, 47, 44, 46, 58]
theorem parts_ok {l m : List UInt8} {ts us : List Tok} (h : Lx 0 l ts none) (h2 : Lx 0 m us none) : Lx 0 ((l ++ [10]) ++ m) (ts ++ shift (l.length + 1) us) none := by
 have h3 := lx_shift h2 (l.length + 1)
 obtain ⟨h4, _⟩ := lx_parts h m
 have := h4 _ _ rfl (by rw [show 0 + l.length + 1 = 0 + (l.length + 1) by omega]; exact h3)
 rw [List.append_assoc]; exact this
theorem parts_second {l m : List UInt8} {ts us : List Tok} {d p : Nat} (h : Lx 0 l ts none) (h2 : Lx 0 m us (some (d, p))) : Lx 0 ((l ++ [10]) ++ m) (ts ++ shift (l.length + 1) us) (some (d, p + (l.length + 1))) := by
 have h3 := lx_shift h2 (l.length + 1)
 obtain ⟨h4, _⟩ := lx_parts h m
 have := h4 _ _ rfl (by rw [show 0 + l.length + 1 = 0 + (l.length + 1) by omega]; exact h3)
 rw [List.append_assoc]; exact this
def moved (a : List Tok) (by_ : Nat) (b : List Tok) : Bool := decide (shift by_ a = b)
def alike (a b : List Tok) : Bool := decide (sans a = sans b)
end Foyer.Lexer
