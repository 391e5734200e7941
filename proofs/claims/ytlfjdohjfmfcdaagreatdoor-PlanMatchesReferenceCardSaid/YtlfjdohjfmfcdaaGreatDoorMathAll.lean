/-
  The plain mathematics of what Lex returns, step by step; of places; of written words; of lists of tokens. No program is spoken of here.
-/
import Derived.Test.YtlfjdohjfmfcdaaGreatDoorMathLex
namespace Foyer.Lexer
open Go.Lib

/-! ### What Lex returns -/
theorem lexAll_long {l : List UInt8} (h : 20000 < l.length) : lexAll l = ([], 3, -1) := by
  unfold lexAll; rw [if_pos h]
theorem lexAll_done {l : List UInt8} {ts : List Tok} (hl : l.length ≤ 20000) (h : Lx 0 l ts none) (h5 : ts.length ≤ 5000) : lexAll l = (ts, 0, 0) := by
  have hr := lx_raw h (l.length + 1) (by omega)
  unfold lexAll
  rw [if_neg (by omega)]
  simp only [hr]
  rw [List.drop_eq_nil_of_le h5]
theorem lexAll_bad {l : List UInt8} {ts : List Tok} {d p : Nat} (hl : l.length ≤ 20000) (h : Lx 0 l ts (some (d, p))) (h5 : ts.length ≤ 5000) : lexAll l = ([], d, (p : Int)) := by
  have hr := lx_raw h (l.length + 1) (by omega)
  unfold lexAll
  rw [if_neg (by omega)]
  simp only [hr]
  rw [List.drop_eq_nil_of_le h5]
theorem lexAll_many {l : List UInt8} {pre us : List Tok} {t : Tok} {e : Option (Nat × Nat)} (hl : l.length ≤ 20000) (h : Lx 0 l (pre ++ t :: us) e) (h5 : pre.length = 5000) : lexAll l = ([], 3, (t.pos : Int)) := by
  have hr := lx_raw h (l.length + 1) (by omega)
  unfold lexAll
  rw [if_neg (by omega)]
  simp only [hr]
  rw [← h5, List.drop_left]
theorem lexAll_bounds (l : List UInt8) : (lexAll l).1.length ≤ 5000 ∧ ((lexAll l).2.1 = 0 ∨ (lexAll l).2.1 = 3 ∨ (lexAll l).2.1 = 5 ∨ (lexAll l).2.1 = 6) ∧ -1 ≤ (lexAll l).2.2 ∧ (lexAll l).2.2 ≤ l.length := by
  obtain ⟨ts, e, h⟩ := lx_some 0 l
  have hr := lx_raw h (l.length + 1) (by omega)
  have hpos : ∀ {a l ts e}, Lx a l ts e → ∀ t ∈ ts, t.pos < a + l.length := by
    intro a l ts e h
    induction h with
    | nil => simp
    | bad => simp
    | good a g T rest k v ts e h hT hr ih =>
      intro t ht
      have := isTok_pos hT
      rcases List.mem_cons.1 ht with rfl | ht
      · simp only [List.length_append]; omega
      · have := ih t ht; simp only [List.length_append]; omega
  unfold lexAll
  by_cases h2 : 20000 < l.length
  · rw [if_pos h2]; exact ⟨by simp, by simp, by simp, by simp⟩
  · rw [if_neg h2]
    simp only [hr]
    cases hd : ts.drop 5000 with
    | cons t us =>
      have := hpos h t (List.mem_of_mem_drop (by rw [hd]; exact List.mem_cons_self))
      simp only
      exact ⟨by simp, by simp, by omega, by omega⟩
    | nil =>
      have h5 : ts.length ≤ 5000 := by
        have := congrArg List.length hd
        rw [List.length_drop, List.length_nil] at this; omega
      cases e with
      | none => exact ⟨h5, by simp, by simp, by simp⟩
      | some x =>
        obtain ⟨d, p⟩ := x
        obtain ⟨h6, h7, h8⟩ := lx_err h d p rfl
        simp only
        exact ⟨by simp, by omega, by omega, by omega⟩

/-! ### P5.2 -/
/-- What the first token of a text is, with what lies before and behind it. -/
theorem lx_place {a : Nat} {l : List UInt8} {t : Tok} {ts : List Tok} {e : Option (Nat × Nat)} (h : Lx a l (t :: ts) e) :
    ∃ g rest, l = g ++ (t.text ++ rest) ∧ gm false g = some false ∧ t.pos = a + g.length ∧ 1 ≤ t.text.length ∧ Lx (t.pos + t.text.length) rest ts e := by
  cases h with
  | good _ g T rest k v _ _ h hT hr => exact ⟨g, rest, rfl, h, rfl, isTok_pos hT, hr⟩
theorem lx_end {a : Nat} {l : List UInt8} (h : Lx a l [] none) : (gm false l).isSome = true := by
  cases h with
  | nil _ _ h => exact h
theorem place_step {a : Nat} {L : List UInt8} {t : Tok} {ts : List Tok} {e : Option (Nat × Nat)} (h : Lx a (L.drop a) (t :: ts) e) (ha : a ≤ L.length) :
    a ≤ t.pos ∧ 1 ≤ t.text.length ∧ t.pos + t.text.length ≤ L.length ∧ (L.take (t.pos + t.text.length)).drop t.pos = t.text ∧ gapL false ((L.take t.pos).drop a) = ((L.take t.pos).drop a).length ∧ Lx (t.pos + t.text.length) (L.drop (t.pos + t.text.length)) ts e := by
  obtain ⟨g, rest, hl, hg, hp, h1, hr⟩ := lx_place h
  have hL : L = L.take a ++ (g ++ (t.text ++ rest)) := by rw [← hl, List.take_append_drop]
  have hta : (L.take a).length = a := by rw [List.length_take]; omega
  have hlen : L.length = a + (g.length + (t.text.length + rest.length)) := by
    rw [hL]; simp only [List.length_append, hta]
  generalize L.take a = A at *
  subst hL
  have e1 : (A ++ (g ++ (t.text ++ rest))).take t.pos = A ++ g := by
    rw [hp, ← hta, List.take_length_add_append, List.take_left]
  have e2 : (A ++ (g ++ (t.text ++ rest))).take (t.pos + t.text.length) = A ++ (g ++ t.text) := by
    rw [show t.pos + t.text.length = A.length + (g.length + (t.text.length + 0)) by omega, List.take_length_add_append, List.take_length_add_append, List.take_length_add_append, List.take_zero, List.append_nil]
  have e3 : (A ++ (g ++ (t.text ++ rest))).drop (t.pos + t.text.length) = rest := by
    rw [show t.pos + t.text.length = A.length + (g.length + (t.text.length + 0)) by omega, List.drop_length_add_append, List.drop_length_add_append, List.drop_length_add_append, List.drop_zero]
  refine ⟨by omega, h1, by omega, ?_, ?_, by rw [e3]; exact hr⟩
  · rw [e2, hp, ← hta, List.drop_length_add_append, List.drop_left]
  · rw [e1, ← hta, List.drop_left]
    exact gapL_all g false (by rw [hg]; rfl)
theorem place_end {a : Nat} {L : List UInt8} (h : Lx a (L.drop a) [] none) : gapL false (L.drop a) = (L.drop a).length := gapL_all _ false (lx_end h)

/-! ### P5.6 -/
theorem line_gm {g : List UInt8} (h : gapL false g = g.length) : gm false (g ++ [10]) = some false := gm_lf (gapL_some g false h)
theorem line_head {g : List UInt8} (h : gapL false g = g.length) : ∃ c r, g ++ [10] = c :: r ∧ (isBlank c = true ∨ isHash c = true) := by
  have := gapL_some g false h
  cases g with
  | nil => exact ⟨10, [], rfl, Or.inl rfl⟩
  | cons c r => exact ⟨c, r ++ [10], rfl, gm_head this rfl⟩
/-- A text with gaps in front, behind one of its tokens, and at the end. -/
theorem lx_gaps {l g : List UInt8} {ts : List Tok} (h : Lx 0 l ts none) (hg : gapL false g = g.length) (m : Nat)
    (hm : (ts = [] ∧ m = 0) ∨ ∃ (i : Nat) (t : Tok), ts[i]? = some t ∧ m = t.pos + t.text.length) :
    ∃ us, Lx 0 ((((((g ++ [10]) ++ l.take m) ++ (g ++ [10])) ++ l.drop m) ++ [10]) ++ g) us none ∧ sans us = sans ts := by
  have hL := line_gm hg
  have hH := line_head hg
  have hG := gapL_some g false hg
  generalize hLe : g ++ [10] = L at *
  have key : ∃ us, Lx L.length (l.take m ++ (L ++ l.drop m)) us none ∧ sans us = sans ts := by
    rcases hm with ⟨rfl, rfl⟩ | ⟨i, t, hi, rfl⟩
    · obtain ⟨us, h1, h2⟩ := lx_move h (L.length + L.length)
      refine ⟨us, ?_, h2⟩
      rw [List.take_zero, List.drop_zero, List.nil_append]
      exact lx_gap L hL h1
    · exact lx_insert h L hL hH L.length i (t.pos + t.text.length) t rfl hi (by omega)
  obtain ⟨us, h1, h2⟩ := key
  have h3 : Lx 0 (L ++ (l.take m ++ (L ++ l.drop m))) us none := lx_gap (b := 0) L hL (by rw [Nat.zero_add]; exact h1)
  obtain ⟨h4, _⟩ := lx_parts h3 g
  have h5 := h4 [] none rfl (Lx.nil _ g hG)
  rw [List.append_nil] at h5
  refine ⟨us, ?_, h2⟩
  simpa only [List.append_assoc, List.cons_append, List.nil_append] using h5

/-! ### P5.8 -/
theorem decDigits_digits : ∀ (f n : Nat), n < f → (∀ b ∈ decDigits n, isDigit b = true) ∧ numVal (decDigits n) = n
  | 0, n, h => by omega
  | f + 1, n, h => by
    have hd : ∀ i, i < 10 → isDigit (UInt8.ofNat (48 + i)) = true ∧ (UInt8.ofNat (48 + i)).toNat - 48 = i := by decide
    rw [decDigits]
    split
    · rename_i h10
      obtain ⟨h1, h2⟩ := hd n h10
      refine ⟨by simpa using h1, ?_⟩
      unfold numVal numFrom
      simp only [List.foldl_cons, List.foldl_nil, digitStep]
      omega
    · rename_i h10
      obtain ⟨h1, h2⟩ := hd (n % 10) (Nat.mod_lt _ (by omega))
      obtain ⟨i1, i2⟩ := decDigits_digits f (n / 10) (by omega)
      refine ⟨fun b hb => ?_, ?_⟩
      · rcases List.mem_append.1 hb with hb | hb
        · exact i1 b hb
        · simp only [List.mem_singleton] at hb; subst hb; exact h1
      · unfold numVal at i2 ⊢
        rw [numFrom_snoc, i2, h2]; omega
theorem decDigits_ten {n : Nat} (h : n < 10000000000) : 1 ≤ (decDigits n).length ∧ (decDigits n).length ≤ 10 := by
  rw [decDigits_length]
  refine ⟨nDigits_pos n, ?_⟩
  rcases Nat.lt_or_ge 10 (nDigits n) with h2 | h2
  · exfalso
    have h0 : ∀ k u, k + 1 < nDigits u → u < 10 ^ (k + 1) → False := by
      intro k
      induction k with
      | zero => intro u hk hu; rw [nDigits_small (by simpa using hu)] at hk; omega
      | succ k ih =>
        intro u hk hu
        by_cases h10 : u < 10
        · rw [nDigits_small h10] at hk; omega
        · rw [nDigits_big h10] at hk
          refine ih (u / 10) (by omega) ?_
          rw [Nat.pow_succ] at hu
          exact Nat.div_lt_of_lt_mul (by rw [Nat.mul_comm]; exact hu)
    exact h0 9 n h2 (by simpa using h)
  · exact h2
def wordSyms : List UInt8 := [61, 59, 60, 62, 40, 41, 123, 125, 43, 45, 47, 44, 46, 58]
theorem wordSyms_ok : ∀ c ∈ wordSyms, isSym c = true ∨ (isCmp c = true ∧ c.toNat ≠ 33) := by decide
theorem sym_noWord : ∀ c ∈ wordSyms, isWord c = false := by decide
theorem lx_words {N : List UInt8} {c : UInt8} {n : Nat} (hN : ∃ d r, N = d :: r ∧ isLetter d = true) (hw : ∀ b ∈ N, isWord b = true) (h24 : N.length ≤ 24) (hc : c ∈ wordSyms) (hn : n < 10000000000) :
    Lx 0 (N ++ (c :: decDigits n)) [⟨1, N, 0, 0⟩, ⟨3, [c], 0, N.length⟩, ⟨2, decDigits n, n, N.length + 1⟩] none := by
  obtain ⟨hd, hv⟩ := decDigits_digits (n + 1) n (by omega)
  obtain ⟨l1, l10⟩ := decDigits_ten hn
  obtain ⟨D, hD⟩ : ∃ D, decDigits n = D := ⟨_, rfl⟩
  rw [hD] at hd hv l1 l10 ⊢
  have h3 : Lx (N.length + 1) D [⟨2, D, n, N.length + 1⟩] none := by
    have := Lx.good (N.length + 1) [] D [] 2 n [] none rfl (Or.inr (Or.inl ⟨rfl, hv.symm, l1, l10, hd, fun b hb => by simp at hb⟩)) (Lx.nil _ _ rfl)
    simpa using this
  have hnx : D.head? ≠ some 61 := by
    cases D with
    | nil => simp at l1
    | cons b r =>
      simp only [List.head?_cons, ne_eq, Option.some.injEq]
      intro e
      have := hd b List.mem_cons_self
      rw [e] at this; revert this; decide
  have hT : IsTok 3 [c] 0 D.head? := by
    rcases wordSyms_ok c hc with h | ⟨h, h33⟩
    · exact Or.inr (Or.inr (Or.inl ⟨rfl, rfl, c, rfl, h⟩))
    · exact Or.inr (Or.inr (Or.inr (Or.inl ⟨rfl, rfl, c, rfl, h, h33, hnx⟩)))
  have h2 : Lx N.length ([c] ++ D) [⟨3, [c], 0, N.length⟩, ⟨2, D, n, N.length + 1⟩] none := by
    have := Lx.good N.length [] [c] D 3 0 [⟨2, D, n, N.length + 1⟩] none rfl hT (by simpa using h3)
    simpa using this
  have := Lx.good 0 [] N ([c] ++ D) 1 0 [⟨3, [c], 0, N.length⟩, ⟨2, D, n, N.length + 1⟩] none rfl (Or.inl ⟨rfl, rfl, h24, hN, hw, fun b hb => by
    simp only [List.cons_append, List.head?_cons, Option.some.injEq] at hb; subst hb; exact sym_noWord _ hc⟩) (by simpa using h2)
  simpa using this

/-! ### P5.4, P5.5 -/
theorem parts_ok {l m : List UInt8} {ts us : List Tok} (h : Lx 0 l ts none) (h2 : Lx 0 m us none) : Lx 0 ((l ++ [10]) ++ m) (ts ++ shift (l.length + 1) us) none := by
  have h3 := lx_shift h2 (l.length + 1)
  obtain ⟨h4, _⟩ := lx_parts h m
  have := h4 _ _ rfl (by rw [show 0 + l.length + 1 = 0 + (l.length + 1) by omega]; exact h3)
  rw [List.append_assoc]; exact this
theorem parts_second {l m : List UInt8} {ts us : List Tok} {d p : Nat} (h : Lx 0 l ts none) (h2 : Lx 0 m us (some (d, p))) : Lx 0 ((l ++ [10]) ++ m) (ts ++ shift (l.length + 1) us) (some (d, p + (l.length + 1))) := by
  have h3 := lx_shift h2 (l.length + 1)
  obtain ⟨h4, _⟩ := lx_parts h m
  have := h4 _ _ rfl (by rw [show 0 + l.length + 1 = 0 + (l.length + 1) by omega]; exact h3)
  rw [List.append_assoc]; exact this
theorem parts_first {l m : List UInt8} {ts : List Tok} {d p : Nat} (h : Lx 0 l ts (some (d, p))) : Lx 0 ((l ++ [10]) ++ m) ts (some (d, p)) := by
  obtain ⟨_, h4⟩ := lx_parts h m
  rw [List.append_assoc]; exact h4 _ rfl

/-! ### Lists of tokens -/
def moved (a : List Tok) (by_ : Nat) (b : List Tok) : Bool := decide (shift by_ a = b)
def alike (a b : List Tok) : Bool := decide (sans a = sans b)
theorem shift_zero (a : List Tok) : shift 0 a = a := by
  unfold shift
  conv => rhs; rw [← List.map_id a]
  exact List.map_congr_left fun t _ => rfl
end Foyer.Lexer
