/-
  The plain mathematics of rules: the parser, piece by piece, as a function of tokens. No program is spoken of here.
-/
import Derived.Test.YtlfjdohjfmfcdabDoorMathAll

/-! ## The parser, piece by piece. -/
namespace Foyer.Rule
open Foyer.Lexer

inductive Res (α : Type) where
  | ok (a : α) (r : List Tok)
  | bad (c : Nat) (r : List Tok)

abbrev Par (α : Type) := List Tok → Res α
def give {α : Type} (a : α) : Par α := fun ts => .ok a ts
def andThen {α β : Type} (p : Par α) (f : α → Par β) : Par β := fun ts =>
  match p ts with
  | .ok a r => f a r
  | .bad c r => .bad c r
/-- The next token, which must fit. -/
def takeP (q : Tok → Bool) : Par Tok
  | [] => .bad 4 []
  | t :: r => if q t then .ok t r else .bad 4 (t :: r)
/-- The text of the next token. -/
def hd (ts : List Tok) : Option (List UInt8) := ts.head?.map (·.text)
/-- What tells whether another part comes, and leaves the rest. -/
abbrev Sep := List Tok → Option (List Tok)
def sepW (s : List UInt8) : Sep
  | [] => none
  | t :: r => if t.text = s then some r else none
def sepL : Sep
  | [] => none
  | t :: r => some (t :: r)
def ifSep {α : Type} (sep : Sep) (p q : Par α) : Par α := fun ts =>
  match sep ts with
  | some r => p r
  | none => q ts
/-- Further parts, of which so many may come. -/
def rest {α : Type} (sep : Sep) (p : Par α) : Nat → Par (List α)
  | 0 => ifSep sep (fun ts => .bad 3 ts) (give [])
  | n + 1 => ifSep sep (andThen p fun a => andThen (rest sep p n) fun as => give (a :: as)) (give [])
def listP {α : Type} (sep : Sep) (n : Nat) (p : Par α) : Par (List α) := andThen p fun a => andThen (rest sep p n) fun as => give (a :: as)
def wAllow : List UInt8 := [97, 108, 108, 111, 119]
def wDeny : List UInt8 := [100, 101, 110, 121]
def wPrice : List UInt8 := [112, 114, 105, 99, 101]
def wResale : List UInt8 := [114, 101, 115, 97, 108, 101]
def wRefund : List UInt8 := [114, 101, 102, 117, 110, 100]
def wTogether : List UInt8 := [116, 111, 103, 101, 116, 104, 101, 114]
def wSingle : List UInt8 := [115, 105, 110, 103, 108, 101]
def wLimit : List UInt8 := [108, 105, 109, 105, 116]
def wFee : List UInt8 := [102, 101, 101]
def wTax : List UInt8 := [116, 97, 120]
def wCap : List UInt8 := [99, 97, 112]
def wShare : List UInt8 := [115, 104, 97, 114, 101]
def wWhen : List UInt8 := [119, 104, 101, 110]
def wOr : List UInt8 := [111, 114]
def wAnd : List UInt8 := [97, 110, 100]
def wHeld : List UInt8 := [104, 101, 108, 100]
def wSemi : List UInt8 := [59]
def wSlash : List UInt8 := [47]
def wDot : List UInt8 := [46]
def wEq : List UInt8 := [61]
def wNe : List UInt8 := [33, 61]
def wLt : List UInt8 := [60]
def wLe : List UInt8 := [60, 61]
def wGt : List UInt8 := [62]
def wGe : List UInt8 := [62, 61]

structure TestP where
  attr : List UInt8
  op : Nat
  name : List UInt8
  n : Nat
  pos : Nat
deriving DecidableEq
structure HeadP where
  n : Nat
  rn : Nat
  rd : Nat
  sn : Nat
  sd : Nat
deriving DecidableEq
structure ItemP where
  kind : Nat
  name : List UInt8
  conds : List (List TestP)
  head : HeadP
  pos : Nat
deriving DecidableEq

def headKind (s : List UInt8) : Nat :=
  if s = wAllow then 1 else if s = wDeny then 2 else if s = wPrice then 3 else if s = wResale then 4 else if s = wRefund then 5 else if s = wTogether then 6 else if s = wSingle then 7 else 0
def opOf (s : List UInt8) : Nat := if s = wEq then 1 else if s = wNe then 2 else if s = wLt then 3 else if s = wLe then 4 else if s = wGt then 5 else if s = wGe then 6 else 0
def nameT : Par Tok := takeP fun t => decide (t.kind = 1)
def numT : Par Tok := takeP fun t => decide (t.kind = 2)
def word (s : List UInt8) : Par Tok := takeP fun t => decide (t.text = s)
def num : Par Nat := andThen numT fun t => give t.val
def valueTail (a : Tok) (o : Nat) (v : Tok) : Par TestP :=
  if v.kind = 2 then give ⟨a.text, o, [], v.val, a.pos⟩
  else ifSep (sepW wDot) (andThen nameT fun c => give ⟨a.text, o, v.text ++ ([46] ++ c.text), 0, a.pos⟩) (give ⟨a.text, o, v.text, 0, a.pos⟩)
def testP : Par TestP :=
  andThen nameT fun a => andThen (takeP fun t => decide (opOf t.text ≠ 0)) fun o => andThen (takeP fun t => decide (t.kind ≠ 3)) fun v => valueTail a (opOf o.text) v
def ratioP : Par (Nat × Nat) := andThen num fun a => andThen (word wSlash) fun _ => andThen num fun b => give (a, b)
def ratioIf (s : List UInt8) : Par (Nat × Nat) := ifSep (sepW s) ratioP (give (0, 1))
def limitH : Par HeadP := ifSep (sepW wLimit) (andThen num fun n => give ⟨n, 0, 0, 0, 0⟩) (give ⟨0, 0, 0, 0, 0⟩)
def priceH : Par HeadP := andThen num fun n => andThen (ratioIf wFee) fun r => andThen (ratioIf wTax) fun s => give ⟨n, r.1, r.2, s.1, s.2⟩
def resaleH : Par HeadP := andThen (word wCap) fun _ => andThen ratioP fun r => andThen (word wShare) fun _ => andThen ratioP fun s => give ⟨0, r.1, r.2, s.1, s.2⟩
def refundH : Par HeadP := andThen ratioP fun r => give ⟨0, r.1, r.2, 0, 0⟩
def nothingH : Par HeadP := give ⟨0, 0, 0, 0, 0⟩
def headRest (k : Nat) : Par HeadP :=
  if k = 1 then limitH else if k = 3 then priceH else if k = 4 then resaleH else if k = 5 then refundH else nothingH
def testsP : Par (List TestP) := listP (sepW wAnd) 11 testP
def listsP : Par (List (List TestP)) := listP (sepW wOr) 11 testsP
def condsP : Par (List (List TestP)) := ifSep (sepW wWhen) listsP (give [])
def frontP : Par (Tok × Tok × HeadP) :=
  andThen (takeP fun t => decide (headKind t.text ≠ 0)) fun t => andThen nameT fun n => andThen (headRest (headKind t.text)) fun h => give (t, n, h)
def itemP : Par ItemP := andThen frontP fun f => andThen condsP fun cs => andThen (word wSemi) fun _ => give ⟨headKind f.1.text, f.2.1.text, cs, f.2.2, f.1.pos⟩
def rulesP : Par (List ItemP) := rest sepL itemP 200
/-- The error and the offset where tokens are left that fit nowhere. -/
def failAt (c n : Nat) : List Tok → Nat × Nat
  | [] => (7, n)
  | t :: _ => (c, t.pos)
/-- What the parsing of tokens returns. -/
def parseToks (ts : List Tok) (n : Nat) : List ItemP × Nat × Nat :=
  match rulesP ts with
  | .ok a _ => (a, 0, 0)
  | .bad c r => ([], failAt c n r)
/-- What Parse returns. -/
def parseAll (l : List UInt8) : List ItemP × Nat × Int :=
  if (lexAll l).2.1 = 0 then ((parseToks (lexAll l).1 l.length).1, (parseToks (lexAll l).1 l.length).2.1, ((parseToks (lexAll l).1 l.length).2.2 : Nat)) else ([], (lexAll l).2.1, (lexAll l).2.2)
end Foyer.Rule

/-! ## What lies behind a parsed piece makes no difference, but for the words that it looks for. -/
namespace Foyer.Rule
open Foyer.Lexer

def Res.left {α : Type} : Res α → List Tok
  | .ok _ r => r
  | .bad _ r => r
/-- What may stand in the place of what lies behind. -/
def Okay (O : List UInt8 → Prop) (r r' : List Tok) : Prop := hd r' = hd r ∨ ∀ s, hd r' = some s → ¬ O s
theorem hd_app {pre r r' : List Tok} (h : pre ≠ []) : hd (pre ++ r') = hd (pre ++ r) := by
  cases pre with
  | nil => exact absurd rfl h
  | cons t p => rfl
theorem Okay.pre {O O1 : List UInt8 → Prop} {r r' : List Tok} (h : Okay O r r') (pre : List Tok) (hp : pre ≠ [] ∨ ∀ s, O1 s → O s) : Okay O1 (pre ++ r) (pre ++ r') := by
  cases pre with
  | nil =>
    rcases hp with hp | hp
    · exact absurd rfl hp
    · exact h.imp id fun k s hs ho => k s hs (hp s ho)
  | cons t p => exact Or.inl rfl
structure Det {α : Type} (O : List UInt8 → Prop) (p : Par α) : Prop where
  ok : ∀ ts a r, p ts = .ok a r → ∃ pre, ts = pre ++ r ∧ ∀ r', Okay O r r' → p (pre ++ r') = .ok a r'
  bad : ∀ ts c r, p ts = .bad c r → ∃ pre, ts = pre ++ r ∧ ∀ t s, r = t :: s → ∀ r', p (pre ++ t :: r') = .bad c (t :: r')
  ext : ∀ ts r', (p ts).left = [] → (p (ts ++ r')).left <:+ r'
  code : ∀ ts c r, p ts = .bad c r → c = 3 ∨ c = 4
section
variable {α β γ : Type} {O O1 : List UInt8 → Prop}
theorem Det.suf {p : Par α} (h : Det O p) (ts : List Tok) : (p ts).left <:+ ts := by
  cases hp : p ts with
  | ok a r => obtain ⟨pre, rfl, _⟩ := h.ok _ _ _ hp; exact ⟨pre, rfl⟩
  | bad c r => obtain ⟨pre, rfl, _⟩ := h.bad _ _ _ hp; exact ⟨pre, rfl⟩
theorem Det.mono {p : Par α} (h : Det O1 p) (ho : ∀ s, O1 s → O s) : Det O p :=
  ⟨fun ts a r e => let ⟨pre, h1, h2⟩ := h.ok ts a r e; ⟨pre, h1, fun r' k => h2 r' (k.imp id fun j s hs hn => j s hs (ho s hn))⟩, h.bad, h.ext, h.code⟩
theorem det_give (a : α) : Det O (give a) := by
  refine ⟨fun ts b r h => ?_, fun ts c r h => ?_, fun ts r' h => ?_, fun ts c r h => ?_⟩
  · cases h; exact ⟨[], rfl, fun _ _ => rfl⟩
  · cases h
  · have : ts = [] := h
    subst this
    exact List.suffix_refl _
  · cases h
theorem takeP_pos {q : Tok → Bool} {t : Tok} {r : List Tok} (h : q t = true) : takeP q (t :: r) = .ok t r := by
  show (if q t then _ else _) = _
  rw [if_pos h]
theorem takeP_neg {q : Tok → Bool} {t : Tok} {r : List Tok} (h : ¬ q t = true) : takeP q (t :: r) = .bad 4 (t :: r) := by
  show (if q t then _ else _) = _
  rw [if_neg h]
theorem takeP_ok {q : Tok → Bool} {ts r : List Tok} {t : Tok} (h : takeP q ts = .ok t r) : ts = t :: r ∧ q t = true := by
  cases ts with
  | nil => cases h
  | cons u s =>
    by_cases hq : q u = true
    · rw [takeP_pos hq] at h; cases h; exact ⟨rfl, hq⟩
    · rw [takeP_neg hq] at h; cases h
theorem takeP_bad {q : Tok → Bool} {ts r : List Tok} {c : Nat} (h : takeP q ts = .bad c r) : c = 4 ∧ r = ts ∧ ∀ t s, ts = t :: s → ¬ q t = true := by
  cases ts with
  | nil => cases h; exact ⟨rfl, rfl, fun t s e => by cases e⟩
  | cons u s =>
    by_cases hq : q u = true
    · rw [takeP_pos hq] at h; cases h
    · rw [takeP_neg hq] at h; cases h; exact ⟨rfl, rfl, fun t s e => by cases e; exact hq⟩
theorem det_take (q : Tok → Bool) : Det O (takeP q) := by
  refine ⟨?_, ?_, ?_, ?_⟩
  · intro ts a r h
    obtain ⟨rfl, hq⟩ := takeP_ok h
    exact ⟨[a], rfl, fun r' _ => takeP_pos hq⟩
  · intro ts c r h
    obtain ⟨rfl, rfl, hq⟩ := takeP_bad h
    exact ⟨[], rfl, fun t s e r' => takeP_neg (hq t s e)⟩
  · intro ts r' h
    cases hp : takeP q ts with
    | ok a r =>
      rw [hp] at h
      obtain ⟨rfl, hq⟩ := takeP_ok hp
      have : r = [] := h
      subst this
      rw [List.cons_append, takeP_pos hq]
      exact List.suffix_refl _
    | bad c r =>
      rw [hp] at h
      obtain ⟨rfl, rfl, hq⟩ := takeP_bad hp
      have : r = [] := h
      subst this
      rw [List.nil_append]
      cases r' with
      | nil => exact List.suffix_refl _
      | cons t s =>
        by_cases hq : q t = true
        · rw [takeP_pos hq]; exact List.suffix_cons t s
        · rw [takeP_neg hq]; exact List.suffix_refl _
  · intro ts c r h
    exact Or.inr (takeP_bad h).1
theorem det_limit : Det O (fun ts => (.bad 3 ts : Res α)) := by
  refine ⟨fun ts a r h => ?_, fun ts c r h => ?_, fun ts r' h => ?_, fun ts c r h => ?_⟩
  · cases h
  · cases h; exact ⟨[], rfl, fun _ _ _ _ => rfl⟩
  · have : ts = [] := h
    subst this
    exact List.suffix_refl _
  · cases h; exact Or.inl rfl
theorem then_ok {p : Par α} {f : α → Par β} {ts r : List Tok} {b : β} (h : andThen p f ts = .ok b r) : ∃ a s, p ts = .ok a s ∧ f a s = .ok b r := by
  unfold andThen at h
  cases hp : p ts with
  | bad c s => rw [hp] at h; cases h
  | ok a s => rw [hp] at h; exact ⟨a, s, rfl, h⟩
theorem then_of {p : Par α} {f : α → Par β} {ts s : List Tok} {a : α} (h : p ts = .ok a s) : andThen p f ts = f a s := by
  unfold andThen; rw [h]
theorem then_bad {p : Par α} {f : α → Par β} {ts s : List Tok} {c : Nat} (h : p ts = .bad c s) : andThen p f ts = .bad c s := by
  unfold andThen; rw [h]
def Eats (p : Par α) : Prop := ∀ ts a r, p ts = .ok a r → r.length < ts.length
theorem eats_ne {p : Par α} (h : Eats p) {pre r : List Tok} {a : α} (k : p (pre ++ r) = .ok a r) : pre ≠ [] := by
  rintro rfl
  have := h _ _ _ k
  simp at this
theorem det_gen {p : Par α} {f : α → Par β} (hp : Det O1 p) (hf : ∀ a, Det O (f a)) (hg : (∀ a, Eats (f a)) ∨ ∀ s, O1 s → O s) : Det O (andThen p f) := by
  refine ⟨?_, ?_, ?_, ?_⟩
  · intro ts b r h
    obtain ⟨a, s, h1, h2⟩ := then_ok h
    obtain ⟨pre, rfl, k1⟩ := hp.ok _ _ _ h1
    obtain ⟨pre2, rfl, k2⟩ := (hf a).ok _ _ _ h2
    refine ⟨pre ++ pre2, by simp, fun r' hr => ?_⟩
    rw [List.append_assoc, then_of (k1 _ (hr.pre pre2 (hg.imp (fun he => eats_ne (he a) h2) id)))]
    exact k2 r' hr
  · intro ts c r h
    cases h1 : p ts with
    | bad d s =>
      rw [then_bad h1] at h
      cases h
      obtain ⟨pre, rfl, k1⟩ := hp.bad _ _ _ h1
      exact ⟨pre, rfl, fun t s e r' => then_bad (k1 t s e r')⟩
    | ok a s =>
      rw [then_of h1] at h
      obtain ⟨pre, rfl, k1⟩ := hp.ok _ _ _ h1
      obtain ⟨pre2, rfl, k2⟩ := (hf a).bad _ _ _ h
      refine ⟨pre ++ pre2, by simp, fun t s e r' => ?_⟩
      subst e
      rw [List.append_assoc, then_of (k1 _ (Or.inl (by cases pre2 <;> rfl)))]
      exact k2 t s rfl r'
  · intro ts r' h
    cases h1 : p ts with
    | bad d s =>
      rw [then_bad h1] at h
      have h2 := hp.ext ts r' (by rw [h1]; exact h)
      cases h3 : p (ts ++ r') with
      | bad d' s' => rw [h3] at h2; rw [then_bad h3]; exact h2
      | ok a' s' => rw [h3] at h2; rw [then_of h3]; exact ((hf a').suf s').trans h2
    | ok a s =>
      rw [then_of h1] at h
      by_cases hs : s = []
      · subst hs
        have h2 := hp.ext ts r' (by rw [h1]; rfl)
        cases h3 : p (ts ++ r') with
        | bad d' s' => rw [h3] at h2; rw [then_bad h3]; exact h2
        | ok a' s' => rw [h3] at h2; rw [then_of h3]; exact ((hf a').suf s').trans h2
      · obtain ⟨pre, rfl, k1⟩ := hp.ok _ _ _ h1
        rw [List.append_assoc, then_of (k1 _ (Or.inl (by
          cases s with
          | nil => exact absurd rfl hs
          | cons t s => rfl)))]
        exact (hf a).ext s r' h
  · intro ts c r h
    cases h1 : p ts with
    | bad d s => rw [then_bad h1] at h; cases h; exact hp.code _ _ _ h1
    | ok a s => rw [then_of h1] at h; exact (hf a).code _ _ _ h
theorem det_then {p : Par α} {f : α → Par β} (hp : Det O p) (hf : ∀ a, Det O (f a)) : Det O (andThen p f) := det_gen hp hf (Or.inr fun _ h => h)
theorem eats_take (q : Tok → Bool) : Eats (takeP q) := fun ts a r h => by
  obtain ⟨rfl, _⟩ := takeP_ok h
  simp
theorem suf_length {p : Par α} (h : Det O p) {ts r : List Tok} {a : α} (k : p ts = .ok a r) : r.length ≤ ts.length := by
  obtain ⟨pre, rfl, _⟩ := h.ok _ _ _ k
  simp
theorem eats_then {p : Par α} {f : α → Par β} (hp : Eats p) (hf : ∀ a, Det O (f a)) : Eats (andThen p f) := fun ts b r h => by
  obtain ⟨a, s, h1, h2⟩ := then_ok h
  have k1 := hp _ _ _ h1
  have k2 := suf_length (hf a) h2
  omega
theorem eats_behind {p : Par α} {f : α → Par β} (hp : Det O p) (hf : ∀ a, Eats (f a)) : Eats (andThen p f) := fun ts b r h => by
  obtain ⟨a, s, h1, h2⟩ := then_ok h
  have k1 := suf_length hp h1
  have k2 := hf a _ _ _ h2
  omega
/-! ### Further parts -/
structure SepOk (O : List UInt8 → Prop) (sep : Sep) : Prop where
  some : ∀ ts r, sep ts = some r → ∃ pre, ts = pre ++ r ∧ ∀ r', (r' ≠ [] ∨ r = []) → sep (pre ++ r') = some r'
  none : ∀ r r', sep r = none → Okay O r r' → sep r' = none
theorem sepW_pos {s : List UInt8} {t : Tok} {r : List Tok} (h : t.text = s) : sepW s (t :: r) = some r := if_pos h
theorem sepW_neg {s : List UInt8} {t : Tok} {r : List Tok} (h : ¬ t.text = s) : sepW s (t :: r) = none := if_neg h
theorem sepW_ok {s : List UInt8} (h : O s) : SepOk O (sepW s) := by
  refine ⟨fun ts r e => ?_, fun r r' e k => ?_⟩
  · cases ts with
    | nil => cases e
    | cons t ts =>
      by_cases ht : t.text = s
      · rw [sepW_pos ht] at e
        cases e
        exact ⟨[t], rfl, fun r' _ => sepW_pos ht⟩
      · rw [sepW_neg ht] at e; cases e
  · cases r' with
    | nil => rfl
    | cons t r' =>
      refine sepW_neg fun ht => ?_
      rcases k with k | k
      · cases r with
        | nil => cases k
        | cons u r =>
          have hu : t.text = u.text := by simpa [hd] using k
          rw [sepW_pos (hu ▸ ht)] at e; cases e
      · exact k t.text rfl (ht ▸ h)
theorem sepL_ok : SepOk (fun _ => True) sepL := by
  refine ⟨fun ts r e => ?_, fun r r' e k => ?_⟩
  · cases ts with
    | nil => cases e
    | cons t ts =>
      cases e
      refine ⟨[], rfl, fun r' h => ?_⟩
      cases r' with
      | nil => rcases h with h | h
               · exact absurd rfl h
               · cases h
      | cons u r' => rfl
  · cases r with
    | cons t r => cases e
    | nil =>
      cases r' with
      | nil => rfl
      | cons t r' =>
        rcases k with k | k
        · cases k
        · exact absurd trivial (k _ rfl)
theorem ifSep_some {sep : Sep} {p q : Par α} {ts r : List Tok} (h : sep ts = some r) : ifSep sep p q ts = p r := by unfold ifSep; rw [h]
theorem ifSep_none {sep : Sep} {p q : Par α} {ts : List Tok} (h : sep ts = none) : ifSep sep p q ts = q ts := by unfold ifSep; rw [h]
theorem det_ifS {sep : Sep} {p q : Par α} (hs : SepOk O sep) (hp : Det O p) (he : Eats p) (hq : Det O q) : Det O (ifSep sep p q) := by
  refine ⟨?_, ?_, ?_, ?_⟩
  · intro ts a r h
    cases h0 : sep ts with
    | some r0 =>
      rw [ifSep_some h0] at h
      obtain ⟨pre0, rfl, k0⟩ := hs.some _ _ h0
      obtain ⟨pre, rfl, k1⟩ := hp.ok _ _ _ h
      refine ⟨pre0 ++ pre, by simp, fun r' hr => ?_⟩
      rw [List.append_assoc, ifSep_some (k0 (pre ++ r') (Or.inl (by
        have := eats_ne he h
        cases pre with
        | nil => exact absurd rfl this
        | cons t p => exact List.cons_ne_nil _ _)))]
      exact k1 r' hr
    | none =>
      rw [ifSep_none h0] at h
      obtain ⟨pre, rfl, k1⟩ := hq.ok _ _ _ h
      refine ⟨pre, rfl, fun r' hr => ?_⟩
      rw [ifSep_none (hs.none _ _ h0 (hr.pre pre (Or.inr fun _ h => h)))]
      exact k1 r' hr
  · intro ts c r h
    cases h0 : sep ts with
    | some r0 =>
      rw [ifSep_some h0] at h
      obtain ⟨pre0, rfl, k0⟩ := hs.some _ _ h0
      obtain ⟨pre, rfl, k1⟩ := hp.bad _ _ _ h
      refine ⟨pre0 ++ pre, by simp, fun t s e r' => ?_⟩
      rw [List.append_assoc, ifSep_some (k0 (pre ++ t :: r') (Or.inl (by simp)))]
      exact k1 t s e r'
    | none =>
      rw [ifSep_none h0] at h
      obtain ⟨pre, rfl, k1⟩ := hq.bad _ _ _ h
      refine ⟨pre, rfl, fun t s e r' => ?_⟩
      subst e
      rw [ifSep_none (hs.none _ _ h0 (Or.inl (by cases pre <;> rfl)))]
      exact k1 t s rfl r'
  · intro ts r' h
    cases h0 : sep ts with
    | some r0 =>
      rw [ifSep_some h0] at h
      obtain ⟨pre0, rfl, k0⟩ := hs.some _ _ h0
      rw [List.append_assoc, ifSep_some (k0 (r0 ++ r') (by
        cases r0 with
        | nil => exact Or.inr rfl
        | cons t r0 => exact Or.inl (by simp)))]
      exact hp.ext _ _ h
    | none =>
      rw [ifSep_none h0] at h
      by_cases ht : ts = []
      · subst ht
        rw [List.nil_append]
        cases h1 : sep r' with
        | some r0 =>
          obtain ⟨pre0, rfl, k0⟩ := hs.some _ _ h1
          rw [ifSep_some h1]
          exact (hp.suf r0).trans (List.suffix_append pre0 r0)
        | none => rw [ifSep_none h1]; exact hq.suf r'
      · rw [ifSep_none (hs.none _ _ h0 (Or.inl (by
          cases ts with
          | nil => exact absurd rfl ht
          | cons t ts => rfl)))]
        exact hq.ext _ _ h
  · intro ts c r h
    cases h0 : sep ts with
    | some r0 => rw [ifSep_some h0] at h; exact hp.code _ _ _ h
    | none => rw [ifSep_none h0] at h; exact hq.code _ _ _ h
theorem det_rest {sep : Sep} {p : Par α} (hs : SepOk O sep) (hp : Det O p) (he : Eats p) : ∀ n, Det O (rest sep p n)
  | 0 => det_ifS hs det_limit (fun ts a r h => by cases h) (det_give _)
  | n + 1 =>
    have h2 : ∀ a : α, Det O (andThen (rest sep p n) fun as => give (a :: as)) := fun a => det_then (det_rest hs hp he n) fun as => det_give _
    det_ifS hs (det_then hp h2) (eats_then he h2) (det_give _)
theorem det_list {sep : Sep} {p : Par α} (hs : SepOk O sep) (hp : Det O p) (he : Eats p) (n : Nat) : Det O (listP sep n p) := det_then hp fun _ => det_then (det_rest hs hp he n) fun _ => det_give _
theorem eats_list {sep : Sep} {p : Par α} (hs : SepOk O sep) (hp : Det O p) (he : Eats p) (n : Nat) : Eats (listP sep n p) := eats_then (O := O) he fun _ => det_then (det_rest hs hp he n) fun _ => det_give _
theorem rest_none {sep : Sep} {p : Par α} {ts : List Tok} (h : sep ts = none) : ∀ n, rest sep p n ts = .ok [] ts
  | 0 => ifSep_none h
  | _ + 1 => ifSep_none h
theorem rest_full {sep : Sep} {p : Par α} {ts r : List Tok} (h : sep ts = some r) : rest sep p 0 ts = .bad 3 r := ifSep_some h
theorem rest_some {sep : Sep} {p : Par α} {ts r : List Tok} (h : sep ts = some r) (n : Nat) : rest sep p (n + 1) ts = andThen p (fun a => andThen (rest sep p n) fun as => give (a :: as)) r := ifSep_some h
/-- Fewer may come, if only fewer do. -/
theorem rest_fewer {sep : Sep} {p : Par α} : ∀ {n k : Nat} {ts r : List Tok} {as : List α}, rest sep p n ts = .ok as r → as.length ≤ k → rest sep p k ts = .ok as r
  | 0, k, ts, r, as, h, hk => by
    cases h0 : sep ts with
    | some r0 => rw [rest_full h0] at h; cases h
    | none => rw [rest_none h0] at h ⊢; exact h
  | n + 1, k, ts, r, as, h, hk => by
    cases h0 : sep ts with
    | none => rw [rest_none h0] at h ⊢; exact h
    | some r0 =>
      rw [rest_some h0] at h
      obtain ⟨a, s, h1, h2⟩ := then_ok h
      obtain ⟨bs, s2, h3, h4⟩ := then_ok h2
      cases h4
      cases k with
      | zero => simp at hk
      | succ k =>
        rw [rest_some h0, then_of h1, then_of (rest_fewer h3 (by simpa using hk))]
        rfl
theorem rest_length {sep : Sep} {p : Par α} : ∀ {n : Nat} {ts r : List Tok} {as : List α}, rest sep p n ts = .ok as r → as.length ≤ n
  | 0, ts, r, as, h => by
    cases h0 : sep ts with
    | some r0 => rw [rest_full h0] at h; cases h
    | none => rw [rest_none h0] at h; cases h; exact Nat.zero_le _
  | n + 1, ts, r, as, h => by
    cases h0 : sep ts with
    | none => rw [rest_none h0] at h; cases h; exact Nat.zero_le _
    | some r0 =>
      rw [rest_some h0] at h
      obtain ⟨a, s, h1, h2⟩ := then_ok h
      obtain ⟨bs, s2, h3, h4⟩ := then_ok h2
      cases h4
      have := rest_length h3
      simpa using this
/-- More parts behind those that came. -/
theorem rest_more {sep : Sep} {p : Par α} (hs : SepOk O sep) (hp : Det O1 p) (he : Eats p) : ∀ (n : Nat) (ts r : List Tok) (as : List α), rest sep p n ts = .ok as r →
    ∃ pre, ts = pre ++ r ∧ ∀ r', (∀ s, hd r' = some s → ¬ O1 s) → rest sep p n (pre ++ r') = andThen (rest sep p (n - as.length)) (fun bs => give (as ++ bs)) r'
  | n, ts, r, as, h => by
    cases h0 : sep ts with
    | none =>
      rw [rest_none h0] at h
      cases h
      refine ⟨[], rfl, fun r' _ => ?_⟩
      show rest sep p n r' = andThen (rest sep p n) (fun bs => give bs) r'
      unfold andThen give
      cases rest sep p n r' <;> rfl
    | some r0 =>
      cases n with
      | zero => rw [rest_full h0] at h; cases h
      | succ n =>
        rw [rest_some h0] at h
        obtain ⟨a, s, h1, h2⟩ := then_ok h
        obtain ⟨bs, s2, h3, h4⟩ := then_ok h2
        cases h4
        obtain ⟨pre0, rfl, k0⟩ := hs.some _ _ h0
        obtain ⟨pre1, rfl, k1⟩ := hp.ok _ _ _ h1
        obtain ⟨pre2, rfl, k2⟩ := rest_more hs hp he n _ _ _ h3
        have hne := eats_ne he h1
        refine ⟨pre0 ++ (pre1 ++ pre2), by simp, fun r' hr => ?_⟩
        rw [List.append_assoc, List.append_assoc, rest_some (k0 (pre1 ++ (pre2 ++ r')) (Or.inl (by
          cases pre1 with
          | nil => exact absurd rfl hne
          | cons t q => exact List.cons_ne_nil _ _))), then_of (k1 (pre2 ++ r') (by
          cases pre2 with
          | nil => exact Or.inr hr
          | cons t q => exact Or.inl rfl))]
        have k3 := k2 r' hr
        unfold andThen give at k3 ⊢
        rw [k3]
        simp only [List.length_cons, Nat.add_sub_add_right]
        cases rest sep p (n - bs.length) r' <;> rfl
end
/-! ### The pieces of the grammar -/
def none_ (_ : List UInt8) : Prop := False
def oDot (s : List UInt8) : Prop := s = wDot
def oTests (s : List UInt8) : Prop := s = wDot ∨ s = wAnd
def oLists (s : List UInt8) : Prop := s = wDot ∨ s = wAnd ∨ s = wOr
def oConds (s : List UInt8) : Prop := s = wDot ∨ s = wAnd ∨ s = wOr ∨ s = wWhen
def oHead (s : List UInt8) : Prop := s = wLimit ∨ s = wFee ∨ s = wTax
theorem det_name {O : List UInt8 → Prop} : Det O nameT := det_take _
theorem det_num {O : List UInt8 → Prop} : Det O num := det_then (det_take _) fun _ => det_give _
theorem eats_num : Eats num := eats_then (O := none_) (eats_take _) fun _ => det_give _
theorem det_value (a : Tok) (o : Nat) (v : Tok) : Det oDot (valueTail a o v) := by
  unfold valueTail
  split
  · exact det_give _
  · exact det_ifS (sepW_ok rfl) (det_then det_name fun _ => det_give _) (eats_then (O := none_) (eats_take _) fun _ => det_give _) (det_give _)
theorem det_test : Det oDot testP := det_then det_name fun _ => det_then (det_take _) fun _ => det_then (det_take _) fun _ => det_value _ _ _
theorem eats_test : Eats testP := eats_then (O := oDot) (eats_take _) fun _ => det_then (det_take _) fun _ => det_then (det_take _) fun _ => det_value _ _ _
theorem det_ratio {O : List UInt8 → Prop} : Det O ratioP := det_then det_num fun _ => det_then (det_take _) fun _ => det_then det_num fun _ => det_give _
theorem eats_ratio : Eats ratioP := eats_then (O := none_) eats_num fun _ => det_then (det_take _) fun _ => det_then det_num fun _ => det_give _
theorem det_ratioIf {s : List UInt8} (h : oHead s) : Det oHead (ratioIf s) := det_ifS (sepW_ok h) det_ratio eats_ratio (det_give _)
theorem det_headRest (k : Nat) : Det oHead (headRest k) := by
  unfold headRest
  split
  · exact det_ifS (sepW_ok (Or.inl rfl)) (det_then det_num fun _ => det_give _) (eats_then (O := none_) eats_num fun _ => det_give _) (det_give _)
  split
  · exact det_then det_num fun _ => det_then (det_ratioIf (Or.inr (Or.inl rfl))) fun _ => det_then (det_ratioIf (Or.inr (Or.inr rfl))) fun _ => det_give _
  split
  · exact det_then (det_take _) fun _ => det_then det_ratio fun _ => det_then (det_take _) fun _ => det_then det_ratio fun _ => det_give _
  split
  · exact det_then det_ratio fun _ => det_give _
  · exact det_give _
theorem det_tests : Det oTests testsP := det_list (sepW_ok (Or.inr rfl)) (det_test.mono fun _ h => Or.inl h) eats_test _
theorem eats_tests : Eats testsP := eats_list (O := oTests) (sepW_ok (Or.inr rfl)) (det_test.mono fun _ h => Or.inl h) eats_test _
theorem det_lists : Det oLists listsP := det_list (sepW_ok (Or.inr (Or.inr rfl))) (det_tests.mono fun _ h => h.imp id Or.inl) eats_tests _
theorem eats_lists : Eats listsP := eats_list (O := oLists) (sepW_ok (Or.inr (Or.inr rfl))) (det_tests.mono fun _ h => h.imp id Or.inl) eats_tests _
theorem det_conds : Det oConds condsP := det_ifS (sepW_ok (Or.inr (Or.inr (Or.inr rfl)))) (det_lists.mono fun _ h => h.imp id fun h => h.imp id Or.inl) eats_lists (det_give _)
theorem det_front : Det oHead frontP := det_then (det_take _) fun _ => det_then det_name fun _ => det_then (det_headRest _) fun _ => det_give _
theorem eats_front : Eats frontP := eats_then (O := oHead) (eats_take _) fun _ => det_then det_name fun _ => det_then (det_headRest _) fun _ => det_give _
def backP (f : Tok × Tok × HeadP) : Par ItemP := andThen condsP fun cs => andThen (word wSemi) fun _ => give ⟨headKind f.1.text, f.2.1.text, cs, f.2.2, f.1.pos⟩
theorem item_eq : itemP = andThen frontP backP := rfl
theorem det_semi {f : Tok × Tok × HeadP} (cs : List (List TestP)) : Det none_ (andThen (word wSemi) fun _ => give (⟨headKind f.1.text, f.2.1.text, cs, f.2.2, f.1.pos⟩ : ItemP)) := det_then (det_take _) fun _ => det_give _
theorem eats_semi {f : Tok × Tok × HeadP} (cs : List (List TestP)) : Eats (andThen (word wSemi) fun _ => give (⟨headKind f.1.text, f.2.1.text, cs, f.2.2, f.1.pos⟩ : ItemP)) := eats_then (O := none_) (eats_take _) fun _ => det_give _
theorem det_back (f : Tok × Tok × HeadP) : Det none_ (backP f) := det_gen det_conds (fun cs => det_semi cs) (Or.inl fun cs => eats_semi cs)
theorem eats_back (f : Tok × Tok × HeadP) : Eats (backP f) := eats_behind det_conds fun cs => eats_semi cs
theorem det_item : Det none_ itemP := det_gen det_front det_back (Or.inl eats_back)
theorem eats_item : Eats itemP := eats_then (O := none_) eats_front det_back
theorem det_rules : Det (fun _ => True) rulesP := det_rest sepL_ok (det_item.mono fun _ _ => trivial) eats_item _
theorem rules_all : ∀ {n : Nat} {ts r : List Tok} {as : List ItemP}, rest sepL itemP n ts = .ok as r → r = []
  | n, [], r, as, h => by rw [rest_none rfl] at h; cases h; rfl
  | 0, t :: ts, r, as, h => by rw [rest_full (sep := sepL) (r := t :: ts) rfl] at h; cases h
  | n + 1, t :: ts, r, as, h => by
    rw [rest_some (sep := sepL) (r := t :: ts) rfl] at h
    obtain ⟨a, s, h1, h2⟩ := then_ok h
    obtain ⟨bs, s2, h3, h4⟩ := then_ok h2
    cases h4
    exact rules_all h3

/-! ### Offsets -/
inductive All2 {α β : Type} (R : α → β → Prop) : List α → List β → Prop
  | nil : All2 R [] []
  | cons {a : α} {b : β} {as : List α} {bs : List β} (h : R a b) (hs : All2 R as bs) : All2 R (a :: as) (b :: bs)
def TokRel (ρ : Nat → Nat → Prop) (t u : Tok) : Prop := t.kind = u.kind ∧ t.text = u.text ∧ t.val = u.val ∧ ρ t.pos u.pos
def RelR {α β : Type} (ρ : Nat → Nat → Prop) (R : α → β → Prop) : Res α → Res β → Prop
  | .ok a r, .ok b s => R a b ∧ All2 (TokRel ρ) r s
  | .bad c r, .bad d s => c = d ∧ All2 (TokRel ρ) r s
  | _, _ => False
def Rel {α β : Type} (ρ : Nat → Nat → Prop) (R : α → β → Prop) (p : Par α) (q : Par β) : Prop := ∀ ts us, All2 (TokRel ρ) ts us → RelR ρ R (p ts) (q us)
section
variable {α β γ δ : Type} {ρ : Nat → Nat → Prop}
theorem rel_give {R : α → β → Prop} {a : α} {b : β} (h : R a b) : Rel ρ R (give a) (give b) := fun _ _ e => ⟨h, e⟩
theorem rel_take {q : Tok → Bool} (hq : ∀ t u : Tok, t.kind = u.kind → t.text = u.text → q t = q u) : Rel ρ (TokRel ρ) (takeP q) (takeP q) := by
  intro ts us h
  cases h with
  | nil => exact ⟨rfl, .nil⟩
  | @cons t u ts us h hs =>
    have := hq t u h.1 h.2.1
    by_cases ht : q t = true
    · rw [takeP_pos ht, takeP_pos (this ▸ ht)]; exact ⟨h, hs⟩
    · rw [takeP_neg ht, takeP_neg (this ▸ ht)]; exact ⟨rfl, .cons h hs⟩
theorem rel_then {R : α → β → Prop} {S : γ → δ → Prop} {p : Par α} {q : Par β} {f : α → Par γ} {g : β → Par δ} (hp : Rel ρ R p q) (hf : ∀ a b, R a b → Rel ρ S (f a) (g b)) : Rel ρ S (andThen p f) (andThen q g) := by
  intro ts us h
  have := hp ts us h
  unfold andThen
  cases h1 : p ts with
  | bad c r =>
    cases h2 : q us with
    | bad d s => rw [h1, h2] at this; exact this
    | ok b s => rw [h1, h2] at this; exact this.elim
  | ok a r =>
    cases h2 : q us with
    | bad d s => rw [h1, h2] at this; exact this.elim
    | ok b s => rw [h1, h2] at this; exact hf a b this.1 _ _ this.2
def SepRel (ρ : Nat → Nat → Prop) (sep : Sep) : Prop := ∀ ts us, All2 (TokRel ρ) ts us → (sep ts = none ∧ sep us = none) ∨ ∃ r s, sep ts = some r ∧ sep us = some s ∧ All2 (TokRel ρ) r s
theorem sepW_rel (s : List UInt8) : SepRel ρ (sepW s) := by
  intro ts us h
  cases h with
  | nil => exact Or.inl ⟨rfl, rfl⟩
  | @cons t u ts us h hs =>
    by_cases ht : t.text = s
    · exact Or.inr ⟨_, _, sepW_pos ht, sepW_pos (h.2.1 ▸ ht), hs⟩
    · exact Or.inl ⟨sepW_neg ht, sepW_neg (h.2.1 ▸ ht)⟩
theorem sepL_rel : SepRel ρ sepL := by
  intro ts us h
  cases h with
  | nil => exact Or.inl ⟨rfl, rfl⟩
  | cons h hs => exact Or.inr ⟨_, _, rfl, rfl, .cons h hs⟩
theorem rel_ifS {R : α → β → Prop} {sep : Sep} {p p' : Par α} {q q' : Par β} (hs : SepRel ρ sep) (hp : Rel ρ R p q) (hq : Rel ρ R p' q') : Rel ρ R (ifSep sep p p') (ifSep sep q q') := by
  intro ts us h
  rcases hs ts us h with ⟨h1, h2⟩ | ⟨r, s, h1, h2, h3⟩
  · rw [ifSep_none h1, ifSep_none h2]; exact hq _ _ h
  · rw [ifSep_some h1, ifSep_some h2]; exact hp _ _ h3
theorem rel_rest {R : α → β → Prop} {sep : Sep} {p : Par α} {q : Par β} (hs : SepRel ρ sep) (hp : Rel ρ R p q) : ∀ n, Rel ρ (All2 R) (rest sep p n) (rest sep q n)
  | 0 => rel_ifS hs (fun _ _ h => ⟨rfl, h⟩) (rel_give .nil)
  | n + 1 => rel_ifS hs (rel_then hp fun _ _ hab => rel_then (rel_rest hs hp n) fun _ _ h => rel_give (.cons hab h)) (rel_give .nil)
theorem rel_list {R : α → β → Prop} {sep : Sep} {p : Par α} {q : Par β} (hs : SepRel ρ sep) (hp : Rel ρ R p q) (n : Nat) : Rel ρ (All2 R) (listP sep n p) (listP sep n q) := rel_then hp fun _ _ hab => rel_then (rel_rest hs hp n) fun _ _ h => rel_give (.cons hab h)
def TestRel (ρ : Nat → Nat → Prop) (a b : TestP) : Prop := a.attr = b.attr ∧ a.op = b.op ∧ a.name = b.name ∧ a.n = b.n ∧ ρ a.pos b.pos
def ItemRel (ρ : Nat → Nat → Prop) (a b : ItemP) : Prop := a.kind = b.kind ∧ a.name = b.name ∧ All2 (All2 (TestRel ρ)) a.conds b.conds ∧ a.head = b.head ∧ ρ a.pos b.pos
theorem rel_name : Rel ρ (TokRel ρ) nameT nameT := rel_take fun t u h _ => by rw [h]
theorem rel_word (s : List UInt8) : Rel ρ (TokRel ρ) (word s) (word s) := rel_take fun t u _ h => by rw [h]
theorem rel_num : Rel ρ (fun a b => a = b) num num := rel_then (rel_take fun t u h _ => by rw [h]) fun _ _ h => rel_give h.2.2.1
theorem rel_test : Rel ρ (TestRel ρ) testP testP := by
  refine rel_then rel_name fun a a' ha => rel_then (rel_take fun t u _ h => by rw [h]) fun o o' ho => rel_then (rel_take fun t u h _ => by rw [h]) fun v v' hv => ?_
  unfold valueTail
  rw [← hv.1, ← ho.2.1]
  split
  · exact rel_give ⟨ha.2.1, rfl, rfl, hv.2.2.1, ha.2.2.2⟩
  · exact rel_ifS (sepW_rel _) (rel_then rel_name fun c c' hc => rel_give ⟨ha.2.1, rfl, by rw [hv.2.1, hc.2.1], rfl, ha.2.2.2⟩) (rel_give ⟨ha.2.1, rfl, hv.2.1, rfl, ha.2.2.2⟩)
theorem rel_ratio : Rel ρ (fun a b => a = b) ratioP ratioP := rel_then rel_num fun _ _ h1 => rel_then (rel_word _) fun _ _ _ => rel_then rel_num fun _ _ h2 => rel_give (by rw [h1, h2])
theorem rel_ratioIf (s : List UInt8) : Rel ρ (fun a b => a = b) (ratioIf s) (ratioIf s) := rel_ifS (sepW_rel _) rel_ratio (rel_give rfl)
theorem rel_headRest (k : Nat) : Rel ρ (fun a b => a = b) (headRest k) (headRest k) := by
  unfold headRest
  split
  · exact rel_ifS (sepW_rel _) (rel_then rel_num fun _ _ h => rel_give (by rw [h])) (rel_give rfl)
  split
  · exact rel_then rel_num fun _ _ h1 => rel_then (rel_ratioIf _) fun _ _ h2 => rel_then (rel_ratioIf _) fun _ _ h3 => rel_give (by rw [h1, h2, h3])
  split
  · exact rel_then (rel_word _) fun _ _ _ => rel_then rel_ratio fun _ _ h1 => rel_then (rel_word _) fun _ _ _ => rel_then rel_ratio fun _ _ h2 => rel_give (by rw [h1, h2])
  split
  · exact rel_then rel_ratio fun _ _ h1 => rel_give (by rw [h1])
  · exact rel_give rfl
theorem rel_front : Rel ρ (fun f g => TokRel ρ f.1 g.1 ∧ TokRel ρ f.2.1 g.2.1 ∧ f.2.2 = g.2.2) frontP frontP := by
  refine rel_then (rel_take fun t u _ h => by rw [h]) fun t t' ht => rel_then rel_name fun n n' hn => ?_
  rw [← ht.2.1]
  exact rel_then (rel_headRest _) fun h h' hh => rel_give ⟨ht, hn, hh⟩
theorem rel_item : Rel ρ (ItemRel ρ) itemP itemP :=
  rel_then rel_front fun f g hf => rel_then (rel_ifS (sepW_rel _) (rel_list (sepW_rel _) (rel_list (sepW_rel _) rel_test _) _) (rel_give .nil)) fun cs cs' hc => rel_then (rel_word _) fun _ _ _ => rel_give ⟨by rw [hf.1.2.1], hf.2.1.2.1, hc, hf.2.2, hf.1.2.2.2⟩
theorem rel_rules (n : Nat) : Rel ρ (All2 (ItemRel ρ)) (rest sepL itemP n) (rest sepL itemP n) := rel_rest sepL_rel rel_item n
theorem all2_map {R : α → β → Prop} {f : α → γ} {g : β → γ} {as : List α} {bs : List β} (h : All2 R as bs) (hf : ∀ a b, R a b → f a = g b) : as.map f = bs.map g := by
  induction h with
  | nil => rfl
  | cons h _ ih => rw [List.map_cons, List.map_cons, hf _ _ h, ih]
end
def TestP.at_ (f : Nat → Nat) (t : TestP) : TestP := { t with pos := f t.pos }
def ItemP.at_ (f : Nat → Nat) (x : ItemP) : ItemP := { x with conds := x.conds.map fun l => l.map (TestP.at_ f), pos := f x.pos }
theorem item_at {ρ : Nat → Nat → Prop} {f g : Nat → Nat} (hf : ∀ a b, ρ a b → f a = g b) {x y : ItemP} (h : ItemRel ρ x y) : x.at_ f = y.at_ g := by
  obtain ⟨h1, h2, h3, h4, h5⟩ := h
  unfold ItemP.at_
  rw [h1, h2, h4, hf _ _ h5, all2_map h3 fun a b h => all2_map h fun t u (h : TestRel ρ t u) => ?_]
  obtain ⟨k1, k2, k3, k4, k5⟩ := h
  unfold TestP.at_
  rw [k1, k2, k3, k4, hf _ _ k5]
/-- Without offsets, and with greater ones. -/
def ItemP.bare (x : ItemP) : ItemP := x.at_ fun _ => 0
def ItemP.moved (d : Nat) (x : ItemP) : ItemP := x.at_ fun p => p + d
theorem item_id (x : ItemP) : x.at_ (fun p => p) = x := by
  unfold ItemP.at_ TestP.at_
  have h : ∀ l : List TestP, l.map (fun t : TestP => { t with pos := t.pos }) = l := fun l => by
    induction l with
    | nil => rfl
    | cons t l ih => rw [List.map_cons, ih]
  have h2 : ∀ c : List (List TestP), c.map (fun l => l.map fun t : TestP => { t with pos := t.pos }) = c := fun c => by
    induction c with
    | nil => rfl
    | cons l c ih => rw [List.map_cons, ih, h]
  rw [h2]
theorem toks_sans {ts us : List Tok} (h : sans ts = sans us) : All2 (TokRel fun _ _ => True) ts us := by
  induction ts generalizing us with
  | nil =>
    cases us with
    | nil => exact .nil
    | cons u us => cases h
  | cons t ts ih =>
    cases us with
    | nil => cases h
    | cons u us =>
      simp only [sans, List.map_cons, List.cons.injEq, Prod.mk.injEq] at h
      exact .cons ⟨h.1.1, h.1.2.1, h.1.2.2, trivial⟩ (ih h.2)
theorem toks_shift (d : Nat) (ts : List Tok) : All2 (TokRel fun a b => b = a + d) ts (shift d ts) := by
  induction ts with
  | nil => exact .nil
  | cons t ts ih => exact .cons ⟨rfl, rfl, rfl, rfl⟩ ih
theorem rules_shift {n d : Nat} {ts r : List Tok} {as : List ItemP} (h : rest sepL itemP n ts = .ok as r) : rest sepL itemP n (shift d ts) = .ok (as.map (ItemP.moved d)) [] := by
  have hr := rel_rules n ts _ (toks_shift d ts)
  cases h2 : rest sepL itemP n (shift d ts) with
  | bad c s => rw [h, h2] at hr; exact hr.elim
  | ok bs s =>
    rw [h, h2] at hr
    rw [rules_all h2]
    have := all2_map (f := ItemP.moved d) (g := fun x : ItemP => x.at_ fun p => p) hr.1 fun a b hab => show a.at_ (fun p => p + d) = b.at_ (fun p => p) from item_at (fun p q hpq => hpq.symm) hab
    rw [this, show (bs.map fun x => x.at_ fun p => p) = bs from by
      have : (fun x : ItemP => x.at_ fun p => p) = id := funext item_id
      rw [this, List.map_id]]
theorem rules_sans {n : Nat} {ts us r : List Tok} {as : List ItemP} (h : rest sepL itemP n ts = .ok as r) (hs : sans ts = sans us) : ∃ bs, rest sepL itemP n us = .ok bs [] ∧ bs.map ItemP.bare = as.map ItemP.bare ∧ bs.length = as.length := by
  have hr := rel_rules n ts us (toks_sans hs)
  cases h2 : rest sepL itemP n us with
  | bad c s => rw [h, h2] at hr; exact hr.elim
  | ok bs s =>
    rw [h, h2] at hr
    have hm := all2_map (f := ItemP.bare) (g := ItemP.bare) hr.1 fun a b hab => show a.at_ (fun _ => 0) = b.at_ (fun _ => 0) from item_at (fun _ _ _ => rfl) hab
    exact ⟨bs, by rw [rules_all h2], hm.symm, by simpa using (congrArg List.length hm).symm⟩
end Foyer.Rule
