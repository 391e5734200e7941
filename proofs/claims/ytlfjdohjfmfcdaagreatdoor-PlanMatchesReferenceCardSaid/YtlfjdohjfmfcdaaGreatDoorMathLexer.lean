/-
  The plain mathematics of tokens: what a text is divided into, and the promises about it. No program is spoken of here.
-/
import Derived.Lib.Atoi
import Derived.Lib.ItoaNum
namespace Foyer.Lexer
open Go.Lib

/-! ### Bytes -/
def isLetter (b : UInt8) : Bool := (decide (97 ≤ b.toNat) && decide (b.toNat ≤ 122)) || (decide (65 ≤ b.toNat) && decide (b.toNat ≤ 90))
def isDigit (b : UInt8) : Bool := decide (48 ≤ b.toNat) && decide (b.toNat ≤ 57)
def isUnder (b : UInt8) : Bool := b.toNat == 95
def isWord (b : UInt8) : Bool := isLetter b || isDigit b || isUnder b
def isBlank (b : UInt8) : Bool := b.toNat == 32 || b.toNat == 9 || b.toNat == 10
def isHash (b : UInt8) : Bool := b.toNat == 35
def isSym (b : UInt8) : Bool := [59, 44, 46, 58, 40, 41, 123, 125, 61, 43, 45, 47].contains b.toNat
def isCmp (b : UInt8) : Bool := b.toNat == 33 || b.toNat == 60 || b.toNat == 62
/-- The class of a byte, as the program numbers it. -/
def cls (b : UInt8) : Nat :=
  if isBlank b then 1 else if isHash b then 2 else if isLetter b then 3 else if isDigit b then 4 else if isUnder b then 5 else if isSym b then 6 else if isCmp b then 7 else 0
theorem all_bytes {P : UInt8 → Prop} (h : ∀ n, n < 256 → P (UInt8.ofNat n)) (b : UInt8) : P b := by
  have := h b.toNat b.toNat_lt
  rwa [UInt8.ofNat_toNat] at this
theorem cls_facts : ∀ b : UInt8, (cls b = 1 ↔ isBlank b = true) ∧ (cls b = 2 ↔ isHash b = true) ∧ (cls b = 3 ↔ isLetter b = true) ∧ (cls b = 4 ↔ isDigit b = true) ∧ (cls b = 5 ↔ isUnder b = true) ∧ (cls b = 6 ↔ isSym b = true) ∧ (cls b = 7 ↔ isCmp b = true) ∧ cls b < 8 :=
  all_bytes (by decide +kernel)
theorem letter_not : ∀ b : UInt8, isLetter b = true → isDigit b = false ∧ isSym b = false ∧ isCmp b = false ∧ isBlank b = false ∧ isHash b = false :=
  all_bytes (by decide +kernel)
theorem digit_not : ∀ b : UInt8, isDigit b = true → isLetter b = false ∧ isSym b = false ∧ isCmp b = false ∧ isBlank b = false ∧ isHash b = false :=
  all_bytes (by decide +kernel)
theorem sym_not : ∀ b : UInt8, isSym b = true → isLetter b = false ∧ isDigit b = false ∧ isCmp b = false ∧ isBlank b = false ∧ isHash b = false ∧ isWord b = false :=
  all_bytes (by decide +kernel)
theorem cmp_not : ∀ b : UInt8, isCmp b = true → isLetter b = false ∧ isDigit b = false ∧ isSym b = false ∧ isBlank b = false ∧ isHash b = false :=
  all_bytes (by decide +kernel)
theorem gap_not : ∀ b : UInt8, (isBlank b = true ∨ isHash b = true) → isWord b = false ∧ b ≠ 61 := all_bytes (by decide +kernel)
theorem word_of_letter {b : UInt8} (h : isLetter b = true) : isWord b = true := by simp [isWord, h]
theorem word_of_digit {b : UInt8} (h : isDigit b = true) : isWord b = true := by simp [isWord, h]

/-! ### Runs -/
/-- How many bytes at the beginning are of a sort. -/
def runLen (p : UInt8 → Bool) : List UInt8 → Nat
  | [] => 0
  | c :: r => if p c then runLen p r + 1 else 0
theorem runLen_le (p : UInt8 → Bool) : ∀ l, runLen p l ≤ l.length
  | [] => Nat.le_refl _
  | c :: r => by unfold runLen; split <;> simp [runLen_le p r]
theorem runLen_split (p : UInt8 → Bool) : ∀ l : List UInt8, (∀ b ∈ l.take (runLen p l), p b = true) ∧ (∀ b, (l.drop (runLen p l)).head? = some b → p b = false)
  | [] => by simp
  | c :: r => by
    obtain ⟨h1, h2⟩ := runLen_split p r
    unfold runLen
    split
    · rename_i h
      refine ⟨fun b hb => ?_, fun b hb => h2 b (by simpa using hb)⟩
      simp only [List.take_succ_cons, List.mem_cons] at hb
      rcases hb with rfl | hb
      · exact h
      · exact h1 b hb
    · rename_i h
      refine ⟨by simp, fun b hb => ?_⟩
      simp only [List.drop_zero, List.head?_cons, Option.some.injEq] at hb
      subst hb; simpa using h
theorem runLen_of (p : UInt8 → Bool) : ∀ (T rest : List UInt8), (∀ b ∈ T, p b = true) → (∀ b, rest.head? = some b → p b = false) → runLen p (T ++ rest) = T.length
  | [], [], _, _ => rfl
  | [], c :: r, _, h2 => by simp [runLen, h2 c rfl]
  | c :: r, rest, h1, h2 => by
    have := runLen_of p r rest (fun b hb => h1 b (List.mem_cons_of_mem _ hb)) h2
    simp [runLen, h1 c (List.mem_cons_self), this]
theorem runLen_stop (p : UInt8 → Bool) (c : UInt8) (m : List UInt8) (h : p c = false) : ∀ l, runLen p (l ++ c :: m) = runLen p l
  | [] => by simp [runLen, h]
  | d :: r => by simp only [List.cons_append, runLen, runLen_stop p c m h r]

/-! ### The value of digits -/
def digitStep (a : Nat) (b : UInt8) : Nat := 10 * a + (b.toNat - 48)
def numFrom (a : Nat) (l : List UInt8) : Nat := l.foldl digitStep a
theorem numFrom_nil (a : Nat) : numFrom a [] = a := rfl
theorem numFrom_cons (a : Nat) (b : UInt8) (r : List UInt8) : numFrom a (b :: r) = numFrom (10 * a + (b.toNat - 48)) r := by
  show (b :: r).foldl digitStep a = r.foldl digitStep _
  rw [List.foldl_cons]; congr 1
def numVal (l : List UInt8) : Nat := numFrom 0 l
theorem decFrom_num (l : List UInt8) : ∀ a : Nat, (∀ b ∈ l, isDigit b = true) → decFrom a l = some (numFrom a l) := by
  induction l with
  | nil => intro a _; rw [numFrom_nil, decFrom]
  | cons b r ih =>
    intro a h
    have hb := h b (List.mem_cons_self)
    simp only [isDigit, Bool.and_eq_true, decide_eq_true_eq] at hb
    have hd : digitVal b = some (b.toNat - 48) := by unfold digitVal; rw [if_pos hb]
    have e := ih (10 * a + (b.toNat - 48)) (fun x hx => h x (List.mem_cons_of_mem _ hx))
    rw [decFrom, hd, numFrom_cons, ← e, Nat.mul_comm a 10]
theorem atoi_num {l : List UInt8} (h1 : 1 ≤ l.length) (h : ∀ b ∈ l, isDigit b = true) : atoi l = some ((numVal l : Nat) : Int) := by
  cases l with
  | nil => simp at h1
  | cons b r =>
    have hb := h b (List.mem_cons_self)
    have hb2 := hb
    simp only [isDigit, Bool.and_eq_true, decide_eq_true_eq] at hb2
    have h45 : (b == 45) = false := by
      rw [beq_eq_false_iff_ne]; intro e; subst e; simp at hb2
    have h43 : (b == 43) = false := by
      rw [beq_eq_false_iff_ne]; intro e; subst e; simp at hb2
    unfold atoi
    simp only [h45, h43, Bool.false_eq_true, if_false]
    unfold decNat
    simp only [List.isEmpty_cons, Bool.false_eq_true, if_false, decFrom_num (b :: r) 0 h, Option.map_some]
    rfl
theorem numFrom_lt (l : List UInt8) : ∀ a : Nat, (∀ b ∈ l, isDigit b = true) → numFrom a l < (a + 1) * 10 ^ l.length := by
  induction l with
  | nil => intro a _; rw [numFrom_nil]; simp
  | cons b r ih =>
    intro a h
    have hb := h b (List.mem_cons_self)
    simp only [isDigit, Bool.and_eq_true, decide_eq_true_eq] at hb
    have := ih (10 * a + (b.toNat - 48)) (fun x hx => h x (List.mem_cons_of_mem _ hx))
    rw [numFrom_cons, List.length_cons]
    refine Nat.lt_of_lt_of_le this ?_
    rw [Nat.pow_succ, Nat.mul_comm (10 ^ r.length) 10, ← Nat.mul_assoc]
    exact Nat.mul_le_mul_right _ (by omega)
theorem numVal_lt {l : List UInt8} (h : ∀ b ∈ l, isDigit b = true) (hl : l.length ≤ 10) : numVal l < 10000000000 := by
  have := numFrom_lt l 0 h
  have h2 : (10 : Nat) ^ l.length ≤ 10 ^ 10 := Nat.pow_le_pow_right (by decide) hl
  unfold numVal; omega
theorem numFrom_snoc (l : List UInt8) (a : Nat) (b : UInt8) : numFrom a (l ++ [b]) = 10 * numFrom a l + (b.toNat - 48) := by
  unfold numFrom; rw [List.foldl_append, List.foldl_cons, List.foldl_nil, digitStep]

/-! ### Gaps -/
/-- Where gaps end: inside a comment (true) or not. -/
def gm : Bool → List UInt8 → Option Bool
  | m, [] => some m
  | true, c :: r => if c == 10 then gm false r else gm true r
  | false, c :: r => if isBlank c then gm false r else if isHash c then gm true r else none
/-- The length of the gaps at the beginning. -/
def gapL : Bool → List UInt8 → Nat
  | _, [] => 0
  | true, c :: r => if c == 10 then gapL false r + 1 else gapL true r + 1
  | false, c :: r => if isBlank c then gapL false r + 1 else if isHash c then gapL true r + 1 else 0
def nonGap (c : UInt8) : Prop := isBlank c = false ∧ isHash c = false
theorem gm_append : ∀ (a b : List UInt8) (m : Bool), gm m (a ++ b) = (gm m a).bind fun m' => gm m' b
  | [], b, m => by cases m <;> rfl
  | c :: r, b, true => by
    simp only [List.cons_append, gm]
    split <;> exact gm_append r b _
  | c :: r, b, false => by
    simp only [List.cons_append, gm]
    split
    · exact gm_append r b _
    · split
      · exact gm_append r b _
      · rfl
theorem gapL_le : ∀ (l : List UInt8) (m : Bool), gapL m l ≤ l.length
  | [], m => by cases m <;> simp [gapL]
  | c :: r, true => by unfold gapL; split <;> simp [gapL_le r]
  | c :: r, false => by
    unfold gapL; split
    · simp [gapL_le r]
    · split <;> simp [gapL_le r]
theorem gapL_all : ∀ (l : List UInt8) (m : Bool), (gm m l).isSome = true → gapL m l = l.length
  | [], m, _ => by cases m <;> rfl
  | c :: r, true, h => by
    simp only [gm, gapL] at h ⊢
    split at h <;> simp_all [gapL_all r _ h]
  | c :: r, false, h => by
    simp only [gm, gapL] at h ⊢
    split at h
    · rename_i hb; rw [if_pos hb, gapL_all r _ h]; rfl
    · rename_i hb
      rw [if_neg hb]
      split at h
      · rename_i hh; rw [if_pos hh, gapL_all r _ h]; rfl
      · simp at h
theorem gapL_some : ∀ (l : List UInt8) (m : Bool), gapL m l = l.length → (gm m l).isSome = true
  | [], m, _ => by cases m <;> rfl
  | c :: r, true, h => by
    simp only [gm, gapL] at h ⊢
    split at h
    · rename_i hb; rw [if_pos hb]; exact gapL_some r _ (by simpa using h)
    · rename_i hb; rw [if_neg hb]; exact gapL_some r _ (by simpa using h)
  | c :: r, false, h => by
    simp only [gm, gapL] at h ⊢
    split at h
    · rename_i hb; rw [if_pos hb]; exact gapL_some r _ (by simpa using h)
    · rename_i hb
      rw [if_neg hb]
      split at h
      · rename_i hh; rw [if_pos hh]; exact gapL_some r _ (by simpa using h)
      · simp at h
theorem gapL_closed : ∀ (g : List UInt8) (m : Bool) (c : UInt8) (r : List UInt8), gm m g = some false → nonGap c → gapL m (g ++ c :: r) = g.length
  | [], m, c, r, h, hc => by
    simp only [gm, Option.some.injEq] at h; subst h
    simp [gapL, hc.1, hc.2]
  | d :: g, true, c, r, h, hc => by
    simp only [gm, List.cons_append, gapL] at h ⊢
    split at h
    · rename_i hb; rw [if_pos hb, gapL_closed g _ c r h hc]; rfl
    · rename_i hb; rw [if_neg hb, gapL_closed g _ c r h hc]; rfl
  | d :: g, false, c, r, h, hc => by
    simp only [gm, List.cons_append, gapL] at h ⊢
    split at h
    · rename_i hb; rw [if_pos hb, gapL_closed g _ c r h hc]; rfl
    · rename_i hb
      rw [if_neg hb]
      split at h
      · rename_i hh; rw [if_pos hh, gapL_closed g _ c r h hc]; rfl
      · simp at h
/-- A text is gaps, or begins with gaps and something else. -/
theorem gap_cases : ∀ (l : List UInt8) (m : Bool), (gm m l).isSome = true ∨ ∃ g c r, l = g ++ c :: r ∧ gm m g = some false ∧ nonGap c
  | [], m => by left; cases m <;> rfl
  | c :: r, m => by
    have step : ∀ m', gm m [c] = some m' → (gm m (c :: r)).isSome = true ∨ ∃ g d s, c :: r = g ++ d :: s ∧ gm m g = some false ∧ nonGap d := by
      intro m' h
      rcases gap_cases r m' with h1 | ⟨g, d, s, rfl, hg, hd⟩
      · left
        rw [show c :: r = [c] ++ r from rfl, gm_append, h]; exact h1
      · right
        refine ⟨c :: g, d, s, rfl, ?_, hd⟩
        rw [show c :: g = [c] ++ g from rfl, gm_append, h]; exact hg
    cases m with
    | true =>
      by_cases hb : (c == 10) = true
      · exact step false (by simp [gm, hb])
      · exact step true (by simp [gm]; simpa using hb)
    | false =>
      by_cases hb : isBlank c = true
      · exact step false (by simp [gm, hb])
      · by_cases hh : isHash c = true
        · exact step true (by simp [gm, hb, hh])
        · exact Or.inr ⟨[], c, r, rfl, rfl, by simpa using hb, by simpa using hh⟩
theorem gm_lf {g : List UInt8} (h : (gm false g).isSome = true) : gm false (g ++ [10]) = some false := by
  rw [gm_append]
  obtain ⟨m, hm⟩ := Option.isSome_iff_exists.1 h
  rw [hm]; cases m <;> rfl
theorem gm_head {g : List UInt8} (h : (gm false g).isSome = true) {c : UInt8} (hc : g.head? = some c) : isBlank c = true ∨ isHash c = true := by
  cases g with
  | nil => simp at hc
  | cons d r =>
    simp only [List.head?_cons, Option.some.injEq] at hc; subst hc
    simp only [gm] at h
    split at h
    · left; assumption
    · split at h
      · right; assumption
      · simp at h

/-! ### Tokens -/
inductive Got where
  | bad (e : Nat)
  | good (kind len val : Nat)
deriving DecidableEq
/-- Is the next byte a part of a name? -/
def nextWord (l : List UInt8) : Bool := match l with | [] => false | c :: _ => isWord c
/-- What begins at a text's first byte. -/
def tok : List UInt8 → Got
  | [] => .bad 5
  | c :: r =>
    if isLetter c then (if 24 < runLen isWord (c :: r) then .bad 3 else .good 1 (runLen isWord (c :: r)) 0)
    else if isDigit c then
      (if 10 < runLen isDigit (c :: r) || nextWord ((c :: r).drop (runLen isDigit (c :: r))) then .bad 6
       else .good 2 (runLen isDigit (c :: r)) (numVal ((c :: r).take (runLen isDigit (c :: r)))))
    else if isSym c then .good 3 1 0
    else if isCmp c then (if r.head? = some 61 then .good 3 2 0 else if c.toNat = 33 then .bad 5 else .good 3 1 0)
    else .bad 5
/-- A token, by its bytes and the byte behind it. -/
def IsTok (k : Nat) (T : List UInt8) (v : Nat) (nx : Option UInt8) : Prop :=
  (k = 1 ∧ v = 0 ∧ T.length ≤ 24 ∧ (∃ c r, T = c :: r ∧ isLetter c = true) ∧ (∀ b ∈ T, isWord b = true) ∧ (∀ b, nx = some b → isWord b = false))
  ∨ (k = 2 ∧ v = numVal T ∧ 1 ≤ T.length ∧ T.length ≤ 10 ∧ (∀ b ∈ T, isDigit b = true) ∧ (∀ b, nx = some b → isWord b = false))
  ∨ (k = 3 ∧ v = 0 ∧ ∃ c, T = [c] ∧ isSym c = true)
  ∨ (k = 3 ∧ v = 0 ∧ ∃ c, T = [c] ∧ isCmp c = true ∧ c.toNat ≠ 33 ∧ nx ≠ some 61)
  ∨ (k = 3 ∧ v = 0 ∧ ∃ c, T = [c, 61] ∧ isCmp c = true)
theorem isTok_next {k : Nat} {T : List UInt8} {v : Nat} {nx nx' : Option UInt8} (h : IsTok k T v nx) (h' : nx' = nx ∨ ∀ b, nx' = some b → isBlank b = true ∨ isHash b = true) : IsTok k T v nx' := by
  rcases h' with rfl | h'
  · exact h
  · have hw : ∀ b, nx' = some b → isWord b = false := fun b hb => (gap_not b (h' b hb)).1
    have he : nx' ≠ some 61 := fun hb => (gap_not 61 (h' 61 hb)).2 rfl
    rcases h with ⟨a, b, c, d, e, f⟩ | ⟨a, b, c, d, e, f⟩ | h | ⟨a, b, x, c, d, e, f⟩ | h
    · exact Or.inl ⟨a, b, c, d, e, hw⟩
    · exact Or.inr (Or.inl ⟨a, b, c, d, e, hw⟩)
    · exact Or.inr (Or.inr (Or.inl h))
    · exact Or.inr (Or.inr (Or.inr (Or.inl ⟨a, b, x, c, d, e, he⟩)))
    · exact Or.inr (Or.inr (Or.inr (Or.inr h)))
theorem isTok_pos {k : Nat} {T : List UInt8} {v : Nat} {nx : Option UInt8} (h : IsTok k T v nx) : 1 ≤ T.length := by
  rcases h with ⟨_, _, _, ⟨c, r, rfl, _⟩, _⟩ | ⟨_, _, h, _⟩ | ⟨_, _, c, rfl, _⟩ | ⟨_, _, c, rfl, _⟩ | ⟨_, _, c, rfl, _⟩
  · simp
  · exact h
  · simp
  · simp
  · simp
theorem isTok_head {k : Nat} {T : List UInt8} {v : Nat} {nx : Option UInt8} (h : IsTok k T v nx) : ∃ c r, T = c :: r ∧ nonGap c := by
  rcases h with ⟨_, _, _, ⟨c, r, rfl, h⟩, _⟩ | ⟨_, _, h, _, hd, _⟩ | ⟨_, _, c, rfl, h⟩ | ⟨_, _, c, rfl, h, _⟩ | ⟨_, _, c, rfl, h⟩
  · exact ⟨c, r, rfl, (letter_not c h).2.2.2⟩
  · cases T with
    | nil => simp at h
    | cons c r => exact ⟨c, r, rfl, (digit_not c (hd c (List.mem_cons_self))).2.2.2⟩
  · exact ⟨c, [], rfl, (sym_not c h).2.2.2.1, (sym_not c h).2.2.2.2.1⟩
  · exact ⟨c, [], rfl, (cmp_not c h).2.2.2⟩
  · exact ⟨c, [61], rfl, (cmp_not c h).2.2.2⟩
theorem tok_of {k : Nat} {T : List UInt8} {v : Nat} {rest : List UInt8} (h : IsTok k T v rest.head?) : tok (T ++ rest) = .good k T.length v := by
  rcases h with ⟨rfl, rfl, hl, ⟨c, r, rfl, hc⟩, hw, hn⟩ | ⟨rfl, rfl, h1, h10, hd, hn⟩ | ⟨rfl, rfl, c, rfl, h⟩ | ⟨rfl, rfl, c, rfl, h, h33, hn⟩ | ⟨rfl, rfl, c, rfl, h⟩
  · have hr := runLen_of isWord (c :: r) rest hw hn
    simp only [List.cons_append] at hr ⊢
    rw [tok]
    simp only [hc, if_true, hr]
    rw [if_neg (by omega)]
  · have hr := runLen_of isDigit T rest hd (fun b hb => by
      have := hn b hb
      simp only [isWord, Bool.or_eq_false_iff] at this
      exact this.1.2)
    cases T with
    | nil => simp at h1
    | cons c r =>
      have hc := hd c (List.mem_cons_self)
      have hcl := (digit_not c hc).1
      have hnw : nextWord ((c :: (r ++ rest)).drop (c :: r).length) = false := by
        rw [← List.cons_append, List.drop_left]
        cases rest with
        | nil => rfl
        | cons x y => exact hn x rfl
      have htk : (c :: (r ++ rest)).take (c :: r).length = c :: r := by rw [← List.cons_append, List.take_left]
      simp only [List.cons_append] at hr ⊢
      rw [tok]
      simp only [hc, hcl, if_true, hr, hnw, htk, Bool.false_eq_true, if_false, Bool.or_false, decide_eq_true_eq]
      rw [if_neg (by omega)]
  · obtain ⟨h1, h2, h3, _⟩ := sym_not c h
    simp [tok, h1, h2, h]
  · obtain ⟨h1, h2, h3, _⟩ := cmp_not c h
    simp [tok, h1, h2, h3, h, hn, h33]
  · obtain ⟨h1, h2, h3, _⟩ := cmp_not c h
    simp [tok, h1, h2, h3, h]
theorem tok_good {s : List UInt8} {k n v : Nat} (h : tok s = .good k n v) : n ≤ s.length ∧ IsTok k (s.take n) v (s.drop n).head? := by
  cases s with
  | nil => simp [tok] at h
  | cons c r =>
    rw [tok] at h
    split at h
    · rename_i hc
      split at h
      · simp at h
      · rename_i hl
        simp only [Got.good.injEq] at h
        obtain ⟨rfl, rfl, rfl⟩ := h
        have hle := runLen_le isWord (c :: r)
        obtain ⟨h1, h2⟩ := runLen_split isWord (c :: r)
        refine ⟨hle, Or.inl ⟨rfl, rfl, by rw [List.length_take]; omega, ?_, h1, h2⟩⟩
        have : runLen isWord (c :: r) = runLen isWord r + 1 := by rw [runLen, if_pos (word_of_letter hc)]
        rw [this]
        exact ⟨c, r.take (runLen isWord r), rfl, hc⟩
    · split at h
      · rename_i hl hc
        split at h
        · simp at h
        · rename_i hb
          simp only [Got.good.injEq] at h
          obtain ⟨rfl, rfl, rfl⟩ := h
          have hle := runLen_le isDigit (c :: r)
          obtain ⟨h1, h2⟩ := runLen_split isDigit (c :: r)
          simp only [Bool.or_eq_true, not_or, decide_eq_true_eq, Bool.not_eq_true] at hb
          have hpos : 1 ≤ runLen isDigit (c :: r) := by rw [runLen, if_pos hc]; omega
          refine ⟨hle, Or.inr (Or.inl ⟨rfl, rfl, by rw [List.length_take]; omega, by rw [List.length_take]; omega, h1, fun b hb' => ?_⟩)⟩
          have := hb.2
          cases hdr : (c :: r).drop (runLen isDigit (c :: r)) with
          | nil => rw [hdr] at hb'; simp at hb'
          | cons x y =>
            rw [hdr] at hb' this
            simp only [List.head?_cons, Option.some.injEq] at hb'
            subst hb'; exact this
      · split at h
        · rename_i hs
          simp only [Got.good.injEq] at h
          obtain ⟨rfl, rfl, rfl⟩ := h
          exact ⟨by simp, Or.inr (Or.inr (Or.inl ⟨rfl, rfl, c, rfl, hs⟩))⟩
        · split at h
          · rename_i hcm
            split at h
            · rename_i h61
              simp only [Got.good.injEq] at h
              obtain ⟨rfl, rfl, rfl⟩ := h
              cases r with
              | nil => simp at h61
              | cons d r =>
                simp only [List.head?_cons, Option.some.injEq] at h61; subst h61
                exact ⟨by simp, Or.inr (Or.inr (Or.inr (Or.inr ⟨rfl, rfl, c, rfl, hcm⟩)))⟩
            · split at h
              · simp at h
              · rename_i h61 h33
                simp only [Got.good.injEq] at h
                obtain ⟨rfl, rfl, rfl⟩ := h
                exact ⟨by simp, Or.inr (Or.inr (Or.inr (Or.inl ⟨rfl, rfl, c, rfl, hcm, h33, h61⟩)))⟩
          · simp at h
theorem tok_bad {s : List UInt8} {e : Nat} (h : tok s = .bad e) : e = 3 ∨ e = 5 ∨ e = 6 := by
  cases s with
  | nil => simp [tok] at h; omega
  | cons c r =>
    rw [tok] at h
    repeat' split at h
    all_goals first | (simp at h; done) | (simp only [Got.bad.injEq] at h; omega)
theorem tok_lf {s : List UInt8} {e : Nat} (m : List UInt8) (hs : s ≠ []) (h : tok s = .bad e) : tok (s ++ 10 :: m) = .bad e := by
  cases s with
  | nil => exact absurd rfl hs
  | cons c r =>
    have hw := runLen_stop isWord 10 m (by decide) (c :: r)
    have hd := runLen_stop isDigit 10 m (by decide) (c :: r)
    have hle := runLen_le isDigit (c :: r)
    have hnx : nextWord ((c :: r ++ 10 :: m).drop (runLen isDigit (c :: r))) = nextWord ((c :: r).drop (runLen isDigit (c :: r))) := by
      rw [List.drop_append_of_le_length hle]
      cases (c :: r).drop (runLen isDigit (c :: r)) <;> rfl
    have h61 : (r ++ 10 :: m).head? = some 61 ↔ r.head? = some 61 := by cases r <;> simp
    simp only [List.cons_append] at hw hd hnx ⊢
    rw [tok] at h ⊢
    rw [hw, hd, hnx]
    simp only [h61]
    repeat' split at h
    all_goals first | (simp at h; done) | (simp_all; done)
end Foyer.Lexer
