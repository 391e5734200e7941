/-
  The document's own reader of rules, as functions of a state; it reads what the parser reads. No program is spoken of here.
-/
import Derived.Test.YtlfjdohjfmfcdabDoorMathRule

/-! ## The document's own reader. -/
namespace Foyer.Rule
open Foyer.Lexer

/-- The tokens that are left, the first error and its place. -/
structure St where
  left : List Tok
  err : Nat
  pos : Nat
def noTok : Tok := ⟨0, [], 0, 0⟩
def rFail (N : Nat) (s : St) (c : Nat) : St := if s.err ≠ 0 then s else ⟨s.left, (failAt c N s.left).1, (failAt c N s.left).2⟩
def rIs (s : St) (k : Nat) (x : List UInt8) : Bool :=
  decide (s.err = 0) && match s.left with
  | [] => false
  | t :: _ => decide (t.kind = k) && (decide (x = []) || decide (t.text = x))
def rKey (s : St) (x : List UInt8) : Bool := rIs s 1 x || rIs s 3 x
def rNext (s : St) : St := ⟨s.left.tail, s.err, s.pos⟩
def rTake (N : Nat) (s : St) (k : Nat) : Tok × St := if rIs s k [] = true then (s.left.headD noTok, rNext s) else (noTok, rFail N s 4)
def rWord (N : Nat) (s : St) (x : List UInt8) : St := if rKey s x = true then rNext s else rFail N s 4
def rRatio (N : Nat) (s : St) : (Nat × Nat) × St :=
  (((rTake N s 2).1.val, (rTake N (rWord N (rTake N s 2).2 wSlash) 2).1.val), (rTake N (rWord N (rTake N s 2).2 wSlash) 2).2)
/-- The last one of the first words that the next token is, counted from one. -/
def upTo (ws : List (List UInt8)) (s : St) (k : Nat) : Nat → Nat
  | 0 => 0
  | i + 1 => if rIs s k (ws.getD i []) = true then i + 1 else upTo ws s k i
def opWords : List (List UInt8) := [wEq, wNe, wLt, wLe, wGt, wGe]
def headWords : List (List UInt8) := [wAllow, wDeny, wPrice, wResale, wRefund, wTogether, wSingle]
/-- What stands behind the operation of a test. -/
def rValue (N : Nat) (a : Tok) (o : Nat) (s : St) : TestP × St :=
  if rIs s 2 [] = true then (⟨a.text, o, [], (rTake N s 2).1.val, a.pos⟩, (rTake N s 2).2)
  else if rIs (rTake N s 1).2 3 wDot = true then
    (⟨a.text, o, (rTake N s 1).1.text ++ ([46] ++ (rTake N (rWord N (rTake N s 1).2 wDot) 1).1.text), 0, a.pos⟩, (rTake N (rWord N (rTake N s 1).2 wDot) 1).2)
  else (⟨a.text, o, (rTake N s 1).1.text, 0, a.pos⟩, (rTake N s 1).2)
def rTest (N : Nat) (s : St) : TestP × St :=
  if upTo opWords (rTake N s 1).2 3 6 = 0 then (⟨(rTake N s 1).1.text, 0, [], 0, (rTake N s 1).1.pos⟩, rFail N (rTake N s 1).2 4)
  else rValue N (rTake N s 1).1 (upTo opWords (rTake N s 1).2 3 6) (rNext (rTake N s 1).2)
def rLimit (N : Nat) (s : St) (n m : Nat) : St := if n = m ∧ s.left ≠ [] then rFail N s 3 else s
/-- What a word divides: so many parts. -/
def rMany {α : Type} (N : Nat) (x : List UInt8) (q : St → α × St) : Nat → List α → St → List α × St
  | 0, l, s => (l, s)
  | f + 1, l, s =>
    if s.err = 0 then
      if rKey (q (rLimit N s l.length 12)).2 x = true then rMany N x q f (l ++ [(q (rLimit N s l.length 12)).1]) (rWord N (q (rLimit N s l.length 12)).2 x)
      else (l ++ [(q (rLimit N s l.length 12)).1], (q (rLimit N s l.length 12)).2)
    else (l, s)
def rTests (N : Nat) (s : St) : List TestP × St := rMany N wAnd (rTest N) 14 [] s
def rWhen (N : Nat) (s : St) : List (List TestP) × St := rMany N wOr (rTests N) 14 [] s
/-- A ratio behind a word, if it is there. -/
def rIf (N : Nat) (s : St) (x : List UInt8) : (Nat × Nat) × St := if rIs s 1 x = true then rRatio N (rWord N s x) else ((0, 1), s)
def rHead (N : Nat) (k : Nat) (s : St) : HeadP × St :=
  if k = 1 then
    if rIs s 1 wLimit = true then (⟨(rTake N (rWord N s wLimit) 2).1.val, 0, 0, 0, 0⟩, (rTake N (rWord N s wLimit) 2).2) else (⟨0, 0, 0, 0, 0⟩, s)
  else if k = 3 then
    (⟨(rTake N s 2).1.val, (rIf N (rTake N s 2).2 wFee).1.1, (rIf N (rTake N s 2).2 wFee).1.2, (rIf N (rIf N (rTake N s 2).2 wFee).2 wTax).1.1, (rIf N (rIf N (rTake N s 2).2 wFee).2 wTax).1.2⟩, (rIf N (rIf N (rTake N s 2).2 wFee).2 wTax).2)
  else if k = 4 then
    (⟨0, (rRatio N (rWord N s wCap)).1.1, (rRatio N (rWord N s wCap)).1.2, (rRatio N (rWord N (rRatio N (rWord N s wCap)).2 wShare)).1.1, (rRatio N (rWord N (rRatio N (rWord N s wCap)).2 wShare)).1.2⟩, (rRatio N (rWord N (rRatio N (rWord N s wCap)).2 wShare)).2)
  else if k = 5 then (⟨0, (rRatio N s).1.1, (rRatio N s).1.2, 0, 0⟩, (rRatio N s).2)
  else (⟨0, 0, 0, 0, 0⟩, s)
def rConds (N : Nat) (s : St) : List (List TestP) × St := if rIs s 1 wWhen = true then rWhen N (rWord N s wWhen) else ([], s)
/-- What stands behind the word that tells a rule's kind. -/
def rBody (N : Nat) (k q : Nat) (s : St) : ItemP × St :=
  (⟨k, (rTake N s 1).1.text, (rConds N (rHead N k (rTake N s 1).2).2).1, (rHead N k (rTake N s 1).2).1, q⟩, rWord N (rConds N (rHead N k (rTake N s 1).2).2).2 wSemi)
def rItem (N : Nat) (s : St) : ItemP × St :=
  if upTo headWords s 1 7 = 0 then (⟨0, [], [], ⟨0, 0, 0, 0, 0⟩, 0⟩, rFail N s 4)
  else rBody N (upTo headWords s 1 7) (s.left.headD noTok).pos (rNext s)
def rItems (N : Nat) : Nat → List ItemP → St → List ItemP × St
  | 0, l, s => (l, s)
  | f + 1, l, s =>
    if s.err = 0 ∧ s.left ≠ [] then rItems N f (l ++ [(rItem N (rLimit N s l.length 200)).1]) (rItem N (rLimit N s l.length 200)).2
    else (l, s)

/-! ### Tokens whose kinds their first bytes tell -/
def cl (c : UInt8) : Nat := if isLetter c then 1 else if isDigit c then 2 else 3
def Sane (t : Tok) : Prop := ∃ c r, t.text = c :: r ∧ t.kind = cl c
theorem cl_three : ∀ c : UInt8, cl c = 1 ∨ cl c = 2 ∨ cl c = 3 := all_bytes (by decide +kernel)
theorem cl_sym : ∀ c : UInt8, isSym c = true → cl c = 3 := all_bytes (by decide +kernel)
theorem cl_cmp : ∀ c : UInt8, isCmp c = true → cl c = 3 := all_bytes (by decide +kernel)
theorem cl_digit : ∀ c : UInt8, isDigit c = true → cl c = 2 := all_bytes (by decide +kernel)
theorem isTok_sane {k v a : Nat} {T : List UInt8} {nx : Option UInt8} (h : IsTok k T v nx) : Sane ⟨k, T, v, a⟩ := by
  rcases h with ⟨rfl, _, _, ⟨c, r, rfl, h⟩, _⟩ | ⟨rfl, _, h, _, hd, _⟩ | ⟨rfl, _, c, rfl, h⟩ | ⟨rfl, _, c, rfl, h, _⟩ | ⟨rfl, _, c, rfl, h⟩
  · exact ⟨c, r, rfl, by unfold cl; rw [if_pos h]⟩
  · cases T with
    | nil => simp at h
    | cons c r => exact ⟨c, r, rfl, (cl_digit c (hd c List.mem_cons_self)).symm⟩
  · exact ⟨c, [], rfl, (cl_sym c h).symm⟩
  · exact ⟨c, [], rfl, (cl_cmp c h).symm⟩
  · exact ⟨c, [61], rfl, (cl_cmp c h).symm⟩
theorem lx_sane {a : Nat} {l : List UInt8} {ts : List Tok} {e : Option (Nat × Nat)} (h : Lx a l ts e) : ∀ t ∈ ts, Sane t := by
  induction h with
  | nil => simp
  | bad => simp
  | good a g T rest k v ts e hg hT hr ih =>
    intro t ht
    rcases List.mem_cons.1 ht with rfl | ht
    · exact isTok_sane hT
    · exact ih t ht
theorem lexAll_sane (l : List UInt8) : ∀ t ∈ (lexAll l).1, Sane t := by
  obtain ⟨ts, e, h⟩ := lx_some 0 l
  have hr := lx_raw h (l.length + 1) (by omega)
  unfold lexAll
  split
  · simp
  · simp only [hr]
    split
    · simp
    · split
      · exact lx_sane h
      · simp

/-! ### The reader reads what the parser reads -/
def Fit {α : Type} (N : Nat) (p : Par α) (s : St) (a : α) (s' : St) : Prop :=
  s'.left <:+ s.left ∧ (s.err ≠ 0 → s'.err = s.err ∧ s'.pos = s.pos) ∧
  (s.err = 0 → match p s.left with
    | .ok a0 r => a = a0 ∧ s'.err = 0 ∧ s'.left = r
    | .bad c r => s'.err ≠ 0 ∧ s'.err = (failAt c N r).1 ∧ s'.pos = (failAt c N r).2)
section
variable {α β : Type} {N : Nat}
def SaneS (s : St) : Prop := ∀ t ∈ s.left, Sane t
theorem SaneS.suf {s s' : St} (h : SaneS s) (k : s'.left <:+ s.left) : SaneS s' := fun t ht => h t (k.subset ht)
theorem failAt_ne {c : Nat} (hc : c ≠ 0) (l : List Tok) : (failAt c N l).1 ≠ 0 := by
  cases l with
  | nil => exact (by decide : (7 : Nat) ≠ 0)
  | cons t r => exact hc
theorem rFail_fit {p : Par α} {s : St} {c : Nat} {a : α} (hc : c ≠ 0) (hp : p s.left = .bad c s.left) : Fit N p s a (rFail N s c) := by
  unfold rFail
  by_cases h : s.err = 0
  · rw [if_neg (fun k => k h)]
    refine ⟨List.suffix_refl _, fun k => absurd h k, fun _ => ?_⟩
    rw [hp]
    exact ⟨failAt_ne hc _, rfl, rfl⟩
  · rw [if_pos h]
    exact ⟨List.suffix_refl _, fun _ => ⟨rfl, rfl⟩, fun k => absurd k h⟩
theorem Fit.give (a : α) (s : St) : Fit N (give a) s a s := ⟨List.suffix_refl _, fun _ => ⟨rfl, rfl⟩, fun h => ⟨rfl, h, rfl⟩⟩
theorem Fit.bind {p : Par α} {f : α → Par β} {s s1 s2 : St} {a : α} {b : β} (h : Fit N p s a s1) (k : Fit N (f a) s1 b s2) : Fit N (andThen p f) s b s2 := by
  obtain ⟨h1, h2, h3⟩ := h
  obtain ⟨k1, k2, k3⟩ := k
  refine ⟨k1.trans h1, fun hs => ?_, fun hs => ?_⟩
  · obtain ⟨e1, e2⟩ := h2 hs
    obtain ⟨e3, e4⟩ := k2 (by rw [e1]; exact hs)
    exact ⟨e3.trans e1, e4.trans e2⟩
  · have h3 := h3 hs
    cases hp : p s.left with
    | ok a0 r =>
      rw [hp] at h3
      obtain ⟨rfl, e1, e2⟩ := h3
      have k3 := k3 e1
      rw [e2] at k3
      rw [then_of hp]
      exact k3
    | bad c r =>
      rw [hp] at h3
      obtain ⟨e0, e1, e2⟩ := h3
      rw [then_bad hp]
      obtain ⟨e3, e4⟩ := k2 e0
      exact ⟨by rw [e3]; exact e0, e3.trans e1, e4.trans e2⟩
theorem Fit.last {p : Par α} {f : α → β} {s s1 : St} {a : α} (h : Fit N p s a s1) : Fit N (andThen p fun a => Foyer.Rule.give (f a)) s (f a) s1 := h.bind (Fit.give _ _)
theorem next_suf (s : St) : (rNext s).left <:+ s.left := List.tail_suffix _
theorem rIs_true {s : St} {k : Nat} {x : List UInt8} (h : rIs s k x = true) : s.err = 0 ∧ ∃ t r, s.left = t :: r ∧ t.kind = k ∧ (x = [] ∨ t.text = x) := by
  unfold rIs at h
  cases hl : s.left with
  | nil => rw [hl] at h; simp at h
  | cons t r =>
    rw [hl] at h
    simp only [Bool.and_eq_true, Bool.or_eq_true, decide_eq_true_eq] at h
    exact ⟨h.1, t, r, rfl, h.2.1, h.2.2⟩
theorem rIs_of {s : St} {k : Nat} {x : List UInt8} {t : Tok} {r : List Tok} (h0 : s.err = 0) (hl : s.left = t :: r) (hk : t.kind = k) (hx : x = [] ∨ t.text = x) : rIs s k x = true := by
  unfold rIs
  rw [hl]
  simp only [Bool.and_eq_true, Bool.or_eq_true, decide_eq_true_eq]
  exact ⟨h0, hk, hx⟩
theorem take_fit (s : St) (k : Nat) : Fit N (takeP fun t => decide (t.kind = k)) s (rTake N s k).1 (rTake N s k).2 := by
  unfold rTake
  by_cases h : rIs s k [] = true
  · rw [if_pos h]
    obtain ⟨h0, t, r, hl, hk, _⟩ := rIs_true h
    refine ⟨next_suf s, fun e => absurd h0 e, fun _ => ?_⟩
    rw [hl, takeP_pos (decide_eq_true hk)]
    exact ⟨by simp, h0, by simp [rNext, hl]⟩
  · rw [if_neg h]
    cases hl : s.left with
    | nil => exact rFail_fit (by decide) (by rw [hl]; rfl)
    | cons t r =>
      by_cases h0 : s.err = 0
      · refine rFail_fit (by decide) ?_
        rw [hl]
        exact takeP_neg fun e => h (rIs_of h0 hl (of_decide_eq_true e) (Or.inl rfl))
      · unfold rFail
        rw [if_pos h0]
        exact ⟨List.suffix_refl _, fun _ => ⟨rfl, rfl⟩, fun k => absurd k h0⟩
/-- A word or symbol, which no number is. -/
def NoNum (x : List UInt8) : Prop := ∃ c r, x = c :: r ∧ cl c ≠ 2
theorem key_of {s : St} {x : List UInt8} {t : Tok} {r : List Tok} (hx : NoNum x) (hs : SaneS s) (h0 : s.err = 0) (hl : s.left = t :: r) (ht : t.text = x) : rKey s x = true := by
  obtain ⟨c, q, rfl, hc⟩ := hx
  obtain ⟨c', q', e1, e2⟩ := hs t (by rw [hl]; exact List.mem_cons_self)
  rw [ht] at e1
  cases e1
  unfold rKey
  have h123 : cl c = 1 ∨ cl c = 3 := (cl_three c).elim Or.inl fun h => h.elim (fun h => absurd h hc) Or.inr
  rcases h123 with h | h
  · rw [rIs_of h0 hl (e2.trans h) (Or.inr ht)]; rfl
  · rw [rIs_of h0 hl (e2.trans h) (Or.inr ht)]; simp
theorem key_true {s : St} {x : List UInt8} (hx : NoNum x) (h : rKey s x = true) : s.err = 0 ∧ ∃ t r, s.left = t :: r ∧ t.text = x := by
  unfold rKey at h
  obtain ⟨c, q, rfl, hc⟩ := hx
  rcases Bool.or_eq_true_iff.1 h with h | h
  all_goals
    obtain ⟨h0, t, r, hl, _, h1⟩ := rIs_true h
    exact ⟨h0, t, r, hl, h1.resolve_left (by simp)⟩
theorem word_fit {s : St} {x : List UInt8} (hx : NoNum x) (hs : SaneS s) : Fit N (word x) s (s.left.headD noTok) (rWord N s x) := by
  unfold rWord
  by_cases h : rKey s x = true
  · rw [if_pos h]
    obtain ⟨h0, t, r, hl, ht⟩ := key_true hx h
    refine ⟨next_suf s, fun e => absurd h0 e, fun _ => ?_⟩
    unfold word
    rw [hl, takeP_pos (decide_eq_true ht)]
    exact ⟨by simp, h0, by simp [rNext, hl]⟩
  · rw [if_neg h]
    cases hl : s.left with
    | nil => exact rFail_fit (by decide) (by rw [hl]; rfl)
    | cons t r =>
      by_cases h0 : s.err = 0
      · refine rFail_fit (by decide) ?_
        rw [hl]
        exact takeP_neg fun e => h (key_of hx hs h0 hl (of_decide_eq_true e))
      · unfold rFail
        rw [if_pos h0]
        exact ⟨List.suffix_refl _, fun _ => ⟨rfl, rfl⟩, fun k => absurd k h0⟩
/-- Another part, if its word stands there. -/
theorem if_fit {p q : Par α} {s s' : St} {a : α} {x : List UInt8} {b : Bool} (hb : b = true → rKey s x = true) (hn : b = false → s.err ≠ 0 ∨ ∀ t r, s.left = t :: r → t.text ≠ x) (hx : NoNum x)
    (h1 : b = true → Fit N p (rWord N s x) a s') (h2 : b = false → Fit N q s a s') : Fit N (ifSep (sepW x) p q) s a s' := by
  cases b with
  | true =>
    have hk := hb rfl
    obtain ⟨h0, t, r, hl, ht⟩ := key_true hx hk
    have hw : rWord N s x = rNext s := by unfold rWord; rw [if_pos hk]
    obtain ⟨g1, g2, g3⟩ := h1 rfl
    rw [hw] at g1 g2 g3
    refine ⟨g1.trans (next_suf s), fun e => absurd h0 e, fun _ => ?_⟩
    have g3 := g3 h0
    have e : ifSep (sepW x) p q s.left = p r := by unfold ifSep sepW; rw [hl]; simp only [if_pos ht]
    rw [e]
    have e2 : (rNext s).left = r := by simp [rNext, hl]
    rw [e2] at g3
    exact g3
  | false =>
    obtain ⟨g1, g2, g3⟩ := h2 rfl
    refine ⟨g1, g2, fun h0 => ?_⟩
    have e : ifSep (sepW x) p q s.left = q s.left := by
      unfold ifSep sepW
      cases hl : s.left with
      | nil => rfl
      | cons t r => simp only [if_neg ((hn rfl).resolve_left (fun k => k h0) t r hl)]
    rw [e]
    exact g3 h0
theorem key_no {s : St} {x : List UInt8} (hx : NoNum x) (hs : SaneS s) (h : rKey s x = false) : s.err ≠ 0 ∨ ∀ t r, s.left = t :: r → t.text ≠ x := by
  by_cases h0 : s.err = 0
  · right
    intro t r hl ht
    rw [key_of hx hs h0 hl ht] at h
    cases h
  · exact Or.inl h0
theorem is_key {s : St} {x : List UInt8} {k : Nat} (hk : k = 1 ∨ k = 3) (h : rIs s k x = true) : rKey s x = true := by
  unfold rKey
  rcases hk with rfl | rfl <;> simp [h]
theorem is_no {s : St} {x : List UInt8} {k : Nat} (hx : ∃ c r, x = c :: r ∧ cl c = k) (hs : SaneS s) (h : rIs s k x = false) : s.err ≠ 0 ∨ ∀ t r, s.left = t :: r → t.text ≠ x := by
  by_cases h0 : s.err = 0
  · right
    intro t r hl ht
    obtain ⟨c, q, rfl, hc⟩ := hx
    obtain ⟨c', q', e1, e2⟩ := hs t (by rw [hl]; exact List.mem_cons_self)
    rw [ht] at e1
    cases e1
    rw [rIs_of h0 hl (e2.trans hc) (Or.inr ht)] at h
    cases h
  · exact Or.inl h0
/-- Another part, if its word stands there: the reader's way to ask. -/
theorem is_fit {p q : Par α} {s : St} {x : List UInt8} {k : Nat} {u v : α × St} (hk : k = 1 ∨ k = 3) (hx : ∃ c r, x = c :: r ∧ cl c = k) (hs : SaneS s)
    (h1 : Fit N p (rWord N s x) u.1 u.2) (h2 : Fit N q s v.1 v.2) : Fit N (ifSep (sepW x) p q) s (if rIs s k x = true then u else v).1 (if rIs s k x = true then u else v).2 := by
  have hx' : NoNum x := by
    obtain ⟨c, r, e, h⟩ := hx
    refine ⟨c, r, e, ?_⟩
    rcases hk with rfl | rfl <;> omega
  refine if_fit (b := rIs s k x) (is_key hk) (is_no hx hs) hx' (fun e => ?_) (fun e => ?_)
  · rw [if_pos e]; exact h1
  · rw [if_neg (by rw [e]; simp)]; exact h2
theorem num_fit (s : St) : Fit N num s (rTake N s 2).1.val (rTake N s 2).2 := (take_fit s 2).last
theorem noNum_slash : NoNum wSlash := ⟨47, [], rfl, by decide⟩
theorem take_suf (s : St) (k : Nat) : (rTake N s k).2.left <:+ s.left := (take_fit s k).1
theorem fail_suf (s : St) (c : Nat) : (rFail N s c).left <:+ s.left := by unfold rFail; split <;> exact List.suffix_refl _
theorem word_suf (s : St) (x : List UInt8) : (rWord N s x).left <:+ s.left := by
  unfold rWord
  split
  · exact next_suf s
  · exact fail_suf s 4
theorem ratio_fit {s : St} (hs : SaneS s) : Fit N ratioP s (rRatio N s).1 (rRatio N s).2 :=
  (num_fit s).bind ((word_fit noNum_slash (hs.suf (take_suf s 2))).bind ((num_fit _).last (f := fun b => ((rTake N s 2).1.val, b))))
end

/-! ### Tests -/
section
variable {α β : Type} {N : Nat}
theorem upTo_at (ws : List (List UInt8)) (s : St) (k : Nat) : ∀ n, upTo ws s k n = 0 ∨ ∃ i, i < n ∧ upTo ws s k n = i + 1 ∧ rIs s k (ws.getD i []) = true
  | 0 => Or.inl rfl
  | n + 1 => by
    unfold upTo
    split
    · rename_i h; exact Or.inr ⟨n, by omega, rfl, h⟩
    · rcases upTo_at ws s k n with h | ⟨i, h1, h2, h3⟩
      · exact Or.inl h
      · exact Or.inr ⟨i, by omega, h2, h3⟩
theorem upTo_none {ws : List (List UInt8)} {s : St} {k : Nat} : ∀ {n}, upTo ws s k n = 0 → ∀ i, i < n → rIs s k (ws.getD i []) = false
  | 0, _, i, hi => by omega
  | n + 1, h, i, hi => by
    unfold upTo at h
    split at h
    · cases h
    · rename_i h2
      by_cases e : i = n
      · subst e; simpa using h2
      · exact upTo_none h i (by omega)
theorem opWord_code : ∀ i, i < 6 → opOf (opWords.getD i []) = i + 1 := by decide
theorem headWord_code : ∀ i, i < 7 → headKind (headWords.getD i []) = i + 1 := by decide
theorem opWord_ne : ∀ i, i < 6 → opWords.getD i [] ≠ [] := by decide
theorem headWord_ne : ∀ i, i < 7 → headWords.getD i [] ≠ [] := by decide
theorem opOf_word {x : List UInt8} (h : opOf x ≠ 0) : ∃ i, i < 6 ∧ opWords.getD i [] = x := by
  unfold opOf at h
  by_cases h1 : x = wEq
  · exact ⟨0, by decide, h1.symm⟩
  by_cases h2 : x = wNe
  · exact ⟨1, by decide, h2.symm⟩
  by_cases h3 : x = wLt
  · exact ⟨2, by decide, h3.symm⟩
  by_cases h4 : x = wLe
  · exact ⟨3, by decide, h4.symm⟩
  by_cases h5 : x = wGt
  · exact ⟨4, by decide, h5.symm⟩
  by_cases h6 : x = wGe
  · exact ⟨5, by decide, h6.symm⟩
  · rw [if_neg h1, if_neg h2, if_neg h3, if_neg h4, if_neg h5, if_neg h6] at h
    exact absurd rfl h
theorem headKind_word {x : List UInt8} (h : headKind x ≠ 0) : ∃ i, i < 7 ∧ headWords.getD i [] = x := by
  unfold headKind at h
  by_cases h1 : x = wAllow
  · exact ⟨0, by decide, h1.symm⟩
  by_cases h2 : x = wDeny
  · exact ⟨1, by decide, h2.symm⟩
  by_cases h3 : x = wPrice
  · exact ⟨2, by decide, h3.symm⟩
  by_cases h4 : x = wResale
  · exact ⟨3, by decide, h4.symm⟩
  by_cases h5 : x = wRefund
  · exact ⟨4, by decide, h5.symm⟩
  by_cases h6 : x = wTogether
  · exact ⟨5, by decide, h6.symm⟩
  by_cases h7 : x = wSingle
  · exact ⟨6, by decide, h7.symm⟩
  · rw [if_neg h1, if_neg h2, if_neg h3, if_neg h4, if_neg h5, if_neg h6, if_neg h7] at h
    exact absurd rfl h
theorem opWord_cl : ∀ i, i < 6 → ∀ c, (opWords.getD i []).head? = some c → cl c = 3 := by decide
theorem headWord_cl : ∀ i, i < 7 → ∀ c, (headWords.getD i []).head? = some c → cl c = 1 := by decide
/-- The words that are asked for one by one: the last one that fits is the token's own. -/
theorem pick_fit {s : St} {ws : List (List UInt8)} {f : List UInt8 → Nat} {k n : Nat} (hs : SaneS s) (hc : ∀ i, i < n → f (ws.getD i []) = i + 1) (hne : ∀ i, i < n → ws.getD i [] ≠ []) (hw : ∀ x, f x ≠ 0 → ∃ i, i < n ∧ ws.getD i [] = x)
    (hcl : ∀ i, i < n → ∀ c, (ws.getD i []).head? = some c → cl c = k) :
    (upTo ws s k n ≠ 0 → s.err = 0 ∧ ∃ t r, s.left = t :: r ∧ f t.text = upTo ws s k n) ∧ (upTo ws s k n = 0 → s.err = 0 → ∀ t r, s.left = t :: r → f t.text = 0) := by
  refine ⟨fun h => ?_, fun h h0 t r hl => ?_⟩
  · rcases upTo_at ws s k n with e | ⟨i, h1, h2, h3⟩
    · exact absurd e h
    · obtain ⟨h0, t, r, hl, hk, ht⟩ := rIs_true h3
      refine ⟨h0, t, r, hl, ?_⟩
      rw [ht.resolve_left (hne i h1), hc i h1, h2]
  · by_cases hf : f t.text = 0
    · exact hf
    · exfalso
      obtain ⟨i, hi, hx⟩ := hw _ hf
      obtain ⟨c, q, e1, e2⟩ := hs t (by rw [hl]; exact List.mem_cons_self)
      have h3 := upTo_none h i hi
      rw [rIs_of h0 hl (e2.trans (hcl i hi c (by rw [hx, e1]; rfl))) (Or.inr hx.symm)] at h3
      cases h3
theorem op_pick {s : St} (hs : SaneS s) : (upTo opWords s 3 6 ≠ 0 → s.err = 0 ∧ ∃ t r, s.left = t :: r ∧ opOf t.text = upTo opWords s 3 6) ∧ (upTo opWords s 3 6 = 0 → s.err = 0 → ∀ t r, s.left = t :: r → opOf t.text = 0) :=
  pick_fit hs opWord_code opWord_ne (fun _ => opOf_word) opWord_cl
theorem head_pick {s : St} (hs : SaneS s) : (upTo headWords s 1 7 ≠ 0 → s.err = 0 ∧ ∃ t r, s.left = t :: r ∧ headKind t.text = upTo headWords s 1 7) ∧ (upTo headWords s 1 7 = 0 → s.err = 0 → ∀ t r, s.left = t :: r → headKind t.text = 0) :=
  pick_fit hs headWord_code headWord_ne (fun _ => headKind_word) headWord_cl
/-- The token with the word that was found, left out. -/
theorem next_fit {s : St} {q : Tok → Bool} {t : Tok} {r : List Tok} (h0 : s.err = 0) (hl : s.left = t :: r) (hq : q t = true) : Fit N (takeP q) s t (rNext s) := by
  refine ⟨next_suf s, fun e => absurd h0 e, fun _ => ?_⟩
  rw [hl, takeP_pos hq]
  exact ⟨rfl, h0, by simp [rNext, hl]⟩
theorem bad_fit {s : St} {q : Tok → Bool} {a : Tok} (h : s.err = 0 → ∀ t r, s.left = t :: r → q t = false) : Fit N (takeP q) s a (rFail N s 4) := by
  cases hl : s.left with
  | nil => exact rFail_fit (by decide) (by rw [hl]; rfl)
  | cons t r =>
    by_cases h0 : s.err = 0
    · refine rFail_fit (by decide) ?_
      rw [hl]
      exact takeP_neg (by rw [h h0 t r hl]; simp)
    · unfold rFail
      rw [if_pos h0]
      exact ⟨List.suffix_refl _, fun _ => ⟨rfl, rfl⟩, fun k => absurd k h0⟩
/-- Behind a piece that fails, anything is read. -/
theorem Fit.stop {p : Par α} {f : α → Par β} {s s1 : St} {a : α} {b : β} (h : Fit N p s a s1) (he : s1.err ≠ 0) : Fit N (andThen p f) s b s1 := by
  obtain ⟨h1, h2, h3⟩ := h
  refine ⟨h1, h2, fun hs => ?_⟩
  have h3 := h3 hs
  cases hp : p s.left with
  | ok a0 r => rw [hp] at h3; exact absurd h3.2.1 he
  | bad c r => rw [hp] at h3; rw [then_bad hp]; exact h3
theorem rFail_bad {s : St} {c : Nat} (hc : c ≠ 0) : (rFail N s c).err ≠ 0 := by
  unfold rFail
  split
  · assumption
  · exact failAt_ne hc _
theorem value_fit {s : St} (hs : SaneS s) (a : Tok) (o : Nat) : Fit N (andThen (takeP fun t => decide (t.kind ≠ 3)) fun v => valueTail a o v) s (rValue N a o s).1 (rValue N a o s).2 := by
  unfold rValue
  by_cases h2 : rIs s 2 [] = true
  · rw [if_pos h2]
    obtain ⟨h0, t, r, hl, hk, _⟩ := rIs_true h2
    have e : rTake N s 2 = (t, rNext s) := by unfold rTake; rw [if_pos h2, hl]; rfl
    rw [e]
    refine (next_fit h0 hl (decide_eq_true (by omega))).bind ?_
    unfold valueTail
    rw [if_pos hk]
    exact Fit.give _ _
  · rw [if_neg h2]
    by_cases h1 : rIs s 1 [] = true
    · obtain ⟨h0, t, r, hl, hk, _⟩ := rIs_true h1
      have e : rTake N s 1 = (t, rNext s) := by unfold rTake; rw [if_pos h1, hl]; rfl
      rw [e]
      refine (next_fit h0 hl (decide_eq_true (by omega))).bind ?_
      unfold valueTail
      rw [if_neg (by omega)]
      have hs1 : SaneS (rNext s) := hs.suf (next_suf s)
      exact is_fit (k := 3) (Or.inr rfl) ⟨46, [], rfl, by decide⟩ hs1 ((take_fit _ 1).last (f := fun c => (⟨a.text, o, t.text ++ ([46] ++ c.text), 0, a.pos⟩ : TestP))) (Fit.give _ _)
    · have e : rTake N s 1 = (noTok, rFail N s 4) := by unfold rTake; rw [if_neg h1]
      rw [e]
      have hb : (rFail N s 4).err ≠ 0 := rFail_bad (by decide)
      have hd : rIs (rFail N s 4) 3 wDot = false := by
        cases h : rIs (rFail N s 4) 3 wDot with
        | false => rfl
        | true => exact absurd (rIs_true h).1 hb
      rw [if_neg (by rw [hd]; simp)]
      refine Fit.stop (a := noTok) (bad_fit fun h0 t r hl => ?_) hb
      obtain ⟨c, q, e1, e2⟩ := hs t (by rw [hl]; exact List.mem_cons_self)
      have h3 : t.kind ≠ 1 := fun k => h1 (rIs_of h0 hl k (Or.inl rfl))
      have h4 : t.kind ≠ 2 := fun k => h2 (rIs_of h0 hl k (Or.inl rfl))
      have h5 : t.kind = 3 := by
        rw [e2] at h3 h4 ⊢
        rcases cl_three c with h | h | h
        · exact absurd h h3
        · exact absurd h h4
        · exact h
      simp [h5]
theorem test_fit {s : St} (hs : SaneS s) : Fit N testP s (rTest N s).1 (rTest N s).2 := by
  unfold rTest testP
  have hs1 : SaneS (rTake N s 1).2 := hs.suf (take_suf s 1)
  obtain ⟨g1, g2⟩ := op_pick hs1
  by_cases h : upTo opWords (rTake N s 1).2 3 6 = 0
  · rw [if_pos h]
    refine (take_fit s 1).bind (Fit.stop (a := noTok) (bad_fit fun h0 t r hl => ?_) (rFail_bad (by decide)))
    rw [g2 h h0 t r hl]; rfl
  · rw [if_neg h]
    obtain ⟨h0, t, r, hl, ht⟩ := g1 h
    refine (take_fit s 1).bind ((next_fit h0 hl (decide_eq_true (by rw [ht]; exact h))).bind ?_)
    show Fit N (andThen (takeP fun t => decide (t.kind ≠ 3)) fun v => valueTail (rTake N s 1).1 (opOf t.text) v) _ _ _
    rw [ht]
    exact value_fit (hs1.suf (next_suf _)) _ _
theorem test_bad {s : St} (hs : SaneS s) (h : s.err ≠ 0 ∨ s.left = []) : (rTest N s).2.err ≠ 0 := by
  obtain ⟨_, h2, h3⟩ := test_fit (N := N) hs
  by_cases h0 : s.err = 0
  · have h3 := h3 h0
    rw [h.resolve_left (fun k => k h0)] at h3
    exact h3.1
  · rw [(h2 h0).1]; exact h0
theorem limit_suf (s : St) (n m : Nat) : (rLimit N s n m).left <:+ s.left := by
  unfold rLimit
  split
  · exact fail_suf s 3
  · exact List.suffix_refl _
theorem key_err {s : St} {x : List UInt8} (h : s.err ≠ 0) : rKey s x = false := by
  unfold rKey rIs
  simp [h]
/-! ### Lists -/
/-- What a list reads when so many parts were read, and so many may come. -/
def more (sep : Sep) (p : Par α) (l : List α) : Nat → Par (List α)
  | 0 => fun ts => .bad 3 ts
  | n + 1 => andThen p fun a => andThen (rest sep p n) fun as => give (l ++ (a :: as))
theorem then_then {γ : Type} (p : Par α) (f : α → Par β) (g : β → Par γ) : andThen (andThen p f) g = andThen p fun a => andThen (f a) g := by
  funext ts; unfold andThen; cases p ts <;> rfl
theorem sep_then (sep : Sep) (p q : Par α) (f : α → Par β) : andThen (ifSep sep p q) f = ifSep sep (andThen p f) (andThen q f) := by
  funext ts; unfold andThen ifSep; cases sep ts <;> rfl
theorem rest_succ (sep : Sep) (p : Par α) (n : Nat) (f : List α → Par β) : andThen (rest sep p (n + 1)) f = ifSep sep (andThen p fun a => andThen (rest sep p n) fun as => f (a :: as)) (f []) := by
  show andThen (ifSep sep (andThen p fun a => andThen (rest sep p n) fun as => Foyer.Rule.give (a :: as)) (Foyer.Rule.give [])) f = _
  rw [sep_then, then_then]
  have : (fun a => andThen (andThen (rest sep p n) fun as => Foyer.Rule.give (a :: as)) f) = fun a => andThen (rest sep p n) fun as => f (a :: as) := by
    funext a; rw [then_then]; rfl
  rw [this]; rfl
theorem rest_go (sep : Sep) (p : Par α) (l : List α) (a : α) (n : Nat) : (andThen (rest sep p n) fun as => give (l ++ (a :: as))) = ifSep sep (more sep p (l ++ [a]) n) (give (l ++ [a])) := by
  cases n with
  | zero => funext ts; unfold more andThen rest ifSep; cases sep ts <;> rfl
  | succ n =>
    rw [rest_succ]
    unfold more
    have : (fun b => andThen (rest sep p n) fun as => Foyer.Rule.give (l ++ a :: b :: as)) = fun b => andThen (rest sep p n) fun as => Foyer.Rule.give (l ++ [a] ++ b :: as) := by
      funext b; congr 1; funext as; simp
    rw [this]
theorem stays_bad {p : Par α} {q : St → α × St} (hq : ∀ s, SaneS s → Fit N p s (q s).1 (q s).2) (hp : ∃ c, p [] = .bad c []) {s : St} (hs : SaneS s) (h : s.err ≠ 0 ∨ s.left = []) : (q s).2.err ≠ 0 := by
  obtain ⟨_, h2, h3⟩ := hq s hs
  by_cases h0 : s.err = 0
  · have h3 := h3 h0
    obtain ⟨c, hc⟩ := hp
    rw [h.resolve_left (fun k => k h0), hc] at h3
    exact h3.1
  · rw [(h2 h0).1]; exact h0
/-- With no part to come: the limit's error, or the end's. -/
theorem full_fit {p : Par α} {q : St → α × St} (hq : ∀ s, SaneS s → Fit N p s (q s).1 (q s).2) (hp : ∃ c, p [] = .bad c []) {s : St} (hs : SaneS s) {n : Nat} (h0 : s.err = 0) (l : β) :
    Fit N (fun ts => (.bad 3 ts : Res β)) s l (q (rLimit N s n n)).2 := by
  have hl := hs.suf (limit_suf (N := N) s n n)
  obtain ⟨h1, h2, h3⟩ := hq _ hl
  refine ⟨h1.trans (limit_suf s n n), fun k => absurd h0 k, fun _ => ?_⟩
  cases he : s.left with
  | nil =>
    have e : rLimit N s n n = s := by unfold rLimit; rw [if_neg (fun k => k.2 he)]
    obtain ⟨c, hc⟩ := hp
    rw [e, he, hc] at h3
    rw [e]
    exact h3 h0
  | cons t r =>
    have e : rLimit N s n n = rFail N s 3 := by unfold rLimit; rw [if_pos ⟨rfl, by rw [he]; simp⟩]
    have hb : (rFail N s 3).err ≠ 0 := rFail_bad (by decide)
    rw [e] at h2 ⊢
    obtain ⟨e1, e2⟩ := h2 hb
    have ef : rFail N s 3 = ⟨s.left, (failAt 3 N s.left).1, (failAt 3 N s.left).2⟩ := by unfold rFail; rw [if_neg (fun k => k h0)]
    refine ⟨by rw [e1]; exact hb, ?_, ?_⟩
    · rw [e1, ef, he]
    · rw [e2, ef, he]
theorem many_fit {p : Par α} {q : St → α × St} {x : List UInt8} (hx : NoNum x) (hq : ∀ s, SaneS s → Fit N p s (q s).1 (q s).2) (hp : ∃ c, p [] = .bad c []) : ∀ (n f : Nat) (l : List α) (s : St), l.length + n = 12 → n + 1 ≤ f → SaneS s →
    Fit N (more (sepW x) p l n) s (rMany N x q f l s).1 (rMany N x q f l s).2
  | n, 0, l, s, _, hf, _ => by omega
  | n, f + 1, l, s, hl, hf, hs => by
    unfold rMany
    by_cases h0 : s.err = 0
    · rw [if_pos h0]
      cases n with
      | zero =>
        have e12 : l.length = 12 := by omega
        rw [e12]
        have hk : rKey (q (rLimit N s 12 12)).2 x = false := by
          refine key_err (stays_bad hq hp (hs.suf (limit_suf s 12 12)) ?_)
          unfold rLimit
          by_cases he : s.left = []
          · rw [if_neg (fun k => k.2 he)]; exact Or.inr he
          · rw [if_pos ⟨rfl, he⟩]; exact Or.inl (rFail_bad (by decide))
        rw [if_neg (by rw [hk]; simp)]
        exact full_fit hq hp hs h0 _
      | succ n =>
        have e : rLimit N s l.length 12 = s := by unfold rLimit; rw [if_neg (fun k => by omega)]
        rw [e]
        have h1 := hq s hs
        have hs1 : SaneS (q s).2 := hs.suf h1.1
        show Fit N (andThen p fun a => andThen (rest (sepW x) p n) fun as => Foyer.Rule.give (l ++ (a :: as))) s _ _
        refine h1.bind ?_
        rw [rest_go]
        refine if_fit (b := rKey (q s).2 x) (fun e => e) (key_no hx hs1) hx (fun e => ?_) (fun e => ?_)
        · rw [if_pos e]
          exact many_fit hx hq hp n f _ _ (by rw [List.length_append, List.length_singleton]; omega) (by omega) (hs1.suf (word_suf _ _))
        · rw [if_neg (by rw [e]; simp)]
          exact Fit.give _ _
    · rw [if_neg h0]
      exact ⟨List.suffix_refl _, fun _ => ⟨rfl, rfl⟩, fun k => absurd k h0⟩
theorem more_listP (sep : Sep) (p : Par α) : more sep p [] 12 = listP sep 11 p := rfl
theorem tests_fit {s : St} (hs : SaneS s) : Fit N testsP s (rTests N s).1 (rTests N s).2 :=
  many_fit (p := testP) ⟨97, _, rfl, by decide⟩ (fun _ h => test_fit h) ⟨4, rfl⟩ 12 14 [] s rfl (by omega) hs
theorem when_fit {s : St} (hs : SaneS s) : Fit N listsP s (rWhen N s).1 (rWhen N s).2 :=
  many_fit (p := testsP) ⟨111, _, rfl, by decide⟩ (fun _ h => tests_fit h) ⟨4, rfl⟩ 12 14 [] s rfl (by omega) hs
/-- One part more, only where one more may come. -/
theorem many_len {p : Par α} {q : St → α × St} {x : List UInt8} (hq : ∀ s, SaneS s → Fit N p s (q s).1 (q s).2) (hp : ∃ c, p [] = .bad c []) {s : St} {l : List α} (hs : SaneS s) (hl : l.length ≤ 12) (hk : rKey (q (rLimit N s l.length 12)).2 x = true) : l.length + 1 ≤ 12 := by
  by_cases e : l.length = 12
  · exfalso
    have : rKey (q (rLimit N s l.length 12)).2 x = false := by
      rw [e]
      refine key_err (stays_bad hq hp (hs.suf (limit_suf s 12 12)) ?_)
      unfold rLimit
      by_cases he : s.left = []
      · rw [if_neg (fun k => k.2 he)]; exact Or.inr he
      · rw [if_pos ⟨rfl, he⟩]; exact Or.inl (rFail_bad (by decide))
    rw [this] at hk; cases hk
  · omega

/-! ### Rules -/
theorem ratioIf_fit {s : St} (hs : SaneS s) {x : List UInt8} (hx : ∃ c r, x = c :: r ∧ cl c = 1) : Fit N (ratioIf x) s (rIf N s x).1 (rIf N s x).2 :=
  is_fit (k := 1) (Or.inl rfl) hx hs (ratio_fit (hs.suf (word_suf _ _))) (Fit.give _ _)
theorem ratio_suf (s : St) : (rRatio N s).2.left <:+ s.left := ((take_suf _ 2).trans (word_suf _ wSlash)).trans (take_suf s 2)
theorem if_suf (s : St) (x : List UInt8) : (rIf N s x).2.left <:+ s.left := by
  unfold rIf
  split
  · exact (ratio_suf _).trans (word_suf _ _)
  · exact List.suffix_refl _
theorem head_fit {s : St} (hs : SaneS s) (k : Nat) : Fit N (headRest k) s (rHead N k s).1 (rHead N k s).2 := by
  unfold headRest rHead
  by_cases h1 : k = 1
  · rw [if_pos h1, if_pos h1]
    exact is_fit (k := 1) (Or.inl rfl) ⟨108, _, rfl, by decide⟩ hs ((num_fit _).last (f := fun n => (⟨n, 0, 0, 0, 0⟩ : HeadP))) (Fit.give _ _)
  rw [if_neg h1, if_neg h1]
  by_cases h3 : k = 3
  · rw [if_pos h3, if_pos h3]
    have hs1 : SaneS (rTake N s 2).2 := hs.suf (take_suf s 2)
    have hs2 : SaneS (rIf N (rTake N s 2).2 wFee).2 := hs1.suf (if_suf _ _)
    unfold priceH
    refine Fit.bind (num_fit s) ?_
    refine Fit.bind (ratioIf_fit hs1 ⟨102, _, rfl, by decide⟩) ?_
    have h3' := ratioIf_fit (N := N) (x := wTax) hs2 ⟨116, _, rfl, by decide⟩
    generalize rIf N (rIf N (rTake N s 2).2 wFee).2 wTax = z at h3' ⊢
    exact Fit.last h3'
  rw [if_neg h3, if_neg h3]
  by_cases h4 : k = 4
  · rw [if_pos h4, if_pos h4]
    have hs1 : SaneS (rWord N s wCap) := hs.suf (word_suf s _)
    have hs2 : SaneS (rRatio N (rWord N s wCap)).2 := hs1.suf (ratio_suf _)
    have hs3 : SaneS (rWord N (rRatio N (rWord N s wCap)).2 wShare) := hs2.suf (word_suf _ _)
    unfold resaleH
    refine Fit.bind (word_fit ⟨99, _, rfl, by decide⟩ hs) ?_
    refine Fit.bind (ratio_fit hs1) ?_
    refine Fit.bind (word_fit ⟨115, _, rfl, by decide⟩ hs2) ?_
    have h3' := ratio_fit (N := N) hs3
    generalize rRatio N (rWord N (rRatio N (rWord N s wCap)).2 wShare) = z at h3' ⊢
    exact Fit.last h3'
  rw [if_neg h4, if_neg h4]
  by_cases h5 : k = 5
  · rw [if_pos h5, if_pos h5]
    unfold refundH
    have h3' := ratio_fit (N := N) hs
    generalize rRatio N s = z at h3' ⊢
    exact Fit.last h3'
  rw [if_neg h5, if_neg h5]
  exact Fit.give _ _
theorem conds_fit {s : St} (hs : SaneS s) : Fit N condsP s (rConds N s).1 (rConds N s).2 :=
  is_fit (k := 1) (Or.inl rfl) ⟨119, _, rfl, by decide⟩ hs (when_fit (hs.suf (word_suf _ _))) (Fit.give _ _)
theorem item_fit {s : St} (hs : SaneS s) : Fit N itemP s (rItem N s).1 (rItem N s).2 := by
  unfold rItem itemP frontP
  obtain ⟨g1, g2⟩ := head_pick hs
  by_cases h : upTo headWords s 1 7 = 0
  · rw [if_pos h]
    have hb : (rFail N s 4).err ≠ 0 := rFail_bad (by decide)
    refine Fit.stop (a := (noTok, noTok, ⟨0, 0, 0, 0, 0⟩)) (Fit.stop (a := noTok) (bad_fit fun h0 t r hl => ?_) hb) hb
    rw [g2 h h0 t r hl]; rfl
  · rw [if_neg h]
    obtain ⟨h0, t, r, hl, ht⟩ := g1 h
    have e : (s.left.headD noTok) = t := by rw [hl]; rfl
    rw [e]
    obtain ⟨k, hk⟩ : ∃ k, upTo headWords s 1 7 = k := ⟨_, rfl⟩
    rw [hk] at h ht ⊢
    have hs0 : SaneS (rNext s) := hs.suf (next_suf s)
    have hs1 : SaneS (rTake N (rNext s) 1).2 := hs0.suf (take_suf _ 1)
    have hh := head_fit (N := N) hs1 k
    have hs2 : SaneS (rHead N k (rTake N (rNext s) 1).2).2 := hs1.suf hh.1
    have hc := conds_fit (N := N) hs2
    have hs3 : SaneS (rConds N (rHead N k (rTake N (rNext s) 1).2).2).2 := hs2.suf hc.1
    have hw := word_fit (N := N) (x := wSemi) ⟨59, _, rfl, by decide⟩ hs3
    have hf : Fit N (andThen (takeP fun t => decide (headKind t.text ≠ 0)) fun t => andThen nameT fun n => andThen (headRest (headKind t.text)) fun h => Foyer.Rule.give (t, n, h)) s (t, (rTake N (rNext s) 1).1, (rHead N k (rTake N (rNext s) 1).2).1) (rHead N k (rTake N (rNext s) 1).2).2 := by
      refine (next_fit h0 hl (decide_eq_true (by rw [ht]; exact h))).bind ((take_fit (rNext s) 1).bind ?_)
      rw [ht]
      exact hh.last (f := fun z => (t, (rTake N (rNext s) 1).1, z))
    refine hf.bind (hc.bind ?_)
    have := hw.last (f := fun _ => (⟨headKind t.text, (rTake N (rNext s) 1).1.text, (rConds N (rHead N k (rTake N (rNext s) 1).2).2).1, (rHead N k (rTake N (rNext s) 1).2).1, t.pos⟩ : ItemP))
    unfold rBody
    rw [← ht]
    rw [ht] at this ⊢
    exact this
theorem items_err {s : St} (h : ¬ (s.err = 0 ∧ s.left ≠ [])) (l : List ItemP) : ∀ f, rItems N f l s = (l, s)
  | 0 => rfl
  | f + 1 => by unfold rItems; rw [if_neg h]
theorem items_fit : ∀ (n f : Nat) (l : List ItemP) (s : St), l.length + n = 200 → n + 1 ≤ f → SaneS s →
    Fit N (andThen (rest sepL itemP n) fun as => give (l ++ as)) s (rItems N f l s).1 (rItems N f l s).2
  | n, 0, l, s, _, hf, _ => by omega
  | n, f + 1, l, s, hl, hf, hs => by
    by_cases h0 : s.err = 0
    · by_cases he : s.left = []
      · rw [items_err (fun k => k.2 he)]
        refine ⟨List.suffix_refl _, fun k => absurd h0 k, fun _ => ?_⟩
        rw [he]
        have : (andThen (rest sepL itemP n) fun as => Foyer.Rule.give (l ++ as)) [] = .ok (l ++ []) [] := by cases n <;> rfl
        rw [this]
        exact ⟨by simp, h0, by first | rfl | exact he⟩
      · unfold rItems
        rw [if_pos ⟨h0, he⟩]
        obtain ⟨t, r, hl2⟩ : ∃ t r, s.left = t :: r := by cases h : s.left with | nil => exact absurd h he | cons t r => exact ⟨t, r, rfl⟩
        cases n with
        | zero =>
          have e : l.length = 200 := by omega
          rw [e]
          have hb : (rLimit N s 200 200).err ≠ 0 := by unfold rLimit; rw [if_pos ⟨rfl, he⟩]; exact rFail_bad (by decide)
          have hi := item_fit (N := N) (hs.suf (limit_suf (N := N) s 200 200))
          have hb2 : (rItem N (rLimit N s 200 200)).2.err ≠ 0 := by rw [(hi.2.1 hb).1]; exact hb
          rw [items_err (fun k => hb2 k.1)]
          have := full_fit (N := N) (fun _ h => item_fit h) ⟨4, rfl⟩ hs (n := 200) h0 (l ++ [(rItem N (rLimit N s 200 200)).1])
          obtain ⟨f1, f2, f3⟩ := this
          refine ⟨f1, f2, fun h => ?_⟩
          have f3 := f3 h
          have e2 : (andThen (rest sepL itemP 0) fun as => Foyer.Rule.give (l ++ as)) s.left = .bad 3 s.left := by rw [hl2]; rfl
          rw [e2]
          exact f3
        | succ n =>
          have e : rLimit N s l.length 200 = s := by unfold rLimit; rw [if_neg (fun k => by omega)]
          rw [e]
          have hi := item_fit (N := N) hs
          have ih := items_fit n f (l ++ [(rItem N s).1]) (rItem N s).2 (by rw [List.length_append, List.length_singleton]; omega) (by omega) (hs.suf hi.1)
          have hb := hi.bind (f := fun a => andThen (rest sepL itemP n) fun as => Foyer.Rule.give ((l ++ [a]) ++ as)) ih
          obtain ⟨f1, f2, f3⟩ := hb
          refine ⟨f1, f2, fun h => ?_⟩
          have f3 := f3 h
          have e2 : (andThen (rest sepL itemP (n + 1)) fun as => Foyer.Rule.give (l ++ as)) s.left = (andThen itemP fun a => andThen (rest sepL itemP n) fun as => Foyer.Rule.give ((l ++ [a]) ++ as)) s.left := by
            rw [rest_succ, hl2]
            show (andThen itemP fun a => andThen (rest sepL itemP n) fun as => Foyer.Rule.give (l ++ a :: as)) (t :: r) = _
            have : (fun a => andThen (rest sepL itemP n) fun as => Foyer.Rule.give (l ++ a :: as)) = fun a => andThen (rest sepL itemP n) fun as => Foyer.Rule.give (l ++ [a] ++ as) := by
              funext b; congr 1; funext as; simp
            rw [this]
          rw [e2]
          exact f3
    · rw [items_err (fun k => h0 k.1)]
      exact ⟨List.suffix_refl _, fun _ => ⟨rfl, rfl⟩, fun k => absurd k h0⟩
/-- What the document's Parse returns. -/
def rEnd (z : List ItemP × St) : List ItemP × Nat × Nat := if z.2.err ≠ 0 then ([], z.2.err, z.2.pos) else (z.1, 0, 0)
def rAll (l : List UInt8) : List ItemP × Nat × Int :=
  if (lexAll l).2.1 = 0 then ((rEnd (rItems l.length 201 [] ⟨(lexAll l).1, 0, 0⟩)).1, (rEnd (rItems l.length 201 [] ⟨(lexAll l).1, 0, 0⟩)).2.1, ((rEnd (rItems l.length 201 [] ⟨(lexAll l).1, 0, 0⟩)).2.2 : Nat))
  else ([], (lexAll l).2.1, (lexAll l).2.2)
theorem rEnd_toks (ts : List Tok) (n : Nat) (h : ∀ t ∈ ts, Sane t) : rEnd (rItems n 201 [] ⟨ts, 0, 0⟩) = parseToks ts n := by
  obtain ⟨_, _, h3⟩ := items_fit (N := n) 200 201 [] ⟨ts, 0, 0⟩ rfl (by omega) h
  have h3 := h3 rfl
  have e : (andThen (rest sepL itemP 200) fun as => Foyer.Rule.give ([] ++ as)) ts = rulesP ts := by
    unfold rulesP andThen
    cases rest sepL itemP 200 ts <;> rfl
  simp only [e] at h3
  unfold parseToks rEnd
  cases hr : rulesP ts with
  | ok a r =>
    rw [hr] at h3
    obtain ⟨h4, h5, _⟩ := h3
    rw [if_neg (fun k => k h5), h4]
  | bad c r =>
    rw [hr] at h3
    obtain ⟨h4, h5, h6⟩ := h3
    rw [if_pos h4, h5, h6]
theorem rAll_eq (l : List UInt8) : rAll l = parseAll l := by
  unfold rAll parseAll
  rw [rEnd_toks _ _ (lexAll_sane l)]
end
end Foyer.Rule
