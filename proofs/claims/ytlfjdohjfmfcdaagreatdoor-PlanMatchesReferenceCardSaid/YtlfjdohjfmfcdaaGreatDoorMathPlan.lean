/-
  The plain mathematics of plans of halls: the parser, piece by piece, as a function of tokens. No program is spoken of here.
-/
import Derived.Test.YtlfjdohjfmfcdaaGreatDoorMathAll

/-! ## The plain mathematics of plans of halls: the parser, piece by piece, as a function of tokens. No program is spoken of here. -/
namespace Foyer.Plan
open Foyer.Lexer

inductive Res (α : Type) where
  | ok (a : α) (r : List Tok)
  | bad (r : List Tok)

abbrev Par (α : Type) := List Tok → Res α
def give {α : Type} (a : α) : Par α := fun ts => .ok a ts
def andThen {α β : Type} (p : Par α) (f : α → Par β) : Par β := fun ts =>
  match p ts with
  | .ok a r => f a r
  | .bad r => .bad r
/-- The next token, which must fit. -/
def takeP (q : Tok → Bool) : Par Tok
  | [] => .bad []
  | t :: r => if q t then .ok t r else .bad (t :: r)
/-- What comes until the closing token. -/
def many {α : Type} (c : List UInt8) (p : Par α) : Nat → Par (List α)
  | 0, ts => .bad ts
  | n + 1, ts =>
    if ts.head?.map (·.text) = some c then .ok [] ts.tail
    else
      match p ts with
      | .bad r => .bad r
      | .ok a r =>
        match many c p n r with
        | .ok as s => .ok (a :: as) s
        | .bad s => .bad s
def wHall : List UInt8 := [104, 97, 108, 108]
def wStage : List UInt8 := [115, 116, 97, 103, 101]
def wLevel : List UInt8 := [108, 101, 118, 101, 108]
def wHeight : List UInt8 := [104, 101, 105, 103, 104, 116]
def wBlock : List UInt8 := [98, 108, 111, 99, 107]
def wArea : List UInt8 := [97, 114, 101, 97]
def wAisle : List UInt8 := [97, 105, 115, 108, 101]
def wPillar : List UInt8 := [112, 105, 108, 108, 97, 114]
def wDoor : List UInt8 := [100, 111, 111, 114]
def wHolds : List UInt8 := [104, 111, 108, 100, 115]
def wRow : List UInt8 := [114, 111, 119]
def wAt : List UInt8 := [97, 116]
def wSeats : List UInt8 := [115, 101, 97, 116, 115]
def wTo : List UInt8 := [116, 111]
def wStep : List UInt8 := [115, 116, 101, 112]
def wGap : List UInt8 := [103, 97, 112]
def wWheel : List UInt8 := [119, 104, 101, 101, 108]
def wHidden : List UInt8 := [104, 105, 100, 100, 101, 110]
def wBeside : List UInt8 := [98, 101, 115, 105, 100, 101]
def wOf : List UInt8 := [111, 102]
def wOpen : List UInt8 := [123]
def wClose : List UInt8 := [125]
def wSemi : List UInt8 := [59]

structure MarkP where
  kind : Nat
  seat : Nat
  other : Nat
deriving DecidableEq
structure RowP where
  name : List UInt8
  x : Nat
  y : Nat
  first : Nat
  last : Nat
  step : Nat
  marks : List MarkP
  pos : Nat
deriving DecidableEq
structure BlockP where
  name : List UInt8
  rows : List RowP
  pos : Nat
deriving DecidableEq
structure BoxP where
  x : Nat
  y : Nat
  x2 : Nat
  y2 : Nat
deriving DecidableEq
structure AreaP where
  name : List UInt8
  box : BoxP
  holds : Nat
  pos : Nat
deriving DecidableEq
structure LevelP where
  name : List UInt8
  height : Nat
  blocks : List BlockP
  areas : List AreaP
  aisles : List BoxP
  pillars : List BoxP
  doors : List (Nat × Nat)
  pos : Nat
deriving DecidableEq
structure HallP where
  name : List UInt8
  sx : Nat
  sy : Nat
  levels : List LevelP
deriving DecidableEq
inductive ItemP where
  | block (b : BlockP)
  | area (a : AreaP)
  | aisle (b : BoxP)
  | pillar (b : BoxP)
  | door (p : Nat × Nat)
deriving DecidableEq

/-- More than there are tokens. -/
def fuel : Nat := 5001
def word (s : List UInt8) : Par Nat := andThen (takeP fun t => decide (t.text = s)) fun t => give t.pos
def nameP : Par (List UInt8) := andThen (takeP fun t => decide (t.kind = 1)) fun t => give t.text
def num : Par Nat := andThen (takeP fun t => decide (t.kind = 2)) fun t => give t.val
def markKind (s : List UInt8) : Nat := if s = wGap then 1 else if s = wWheel then 2 else if s = wHidden then 3 else if s = wBeside then 4 else 0
def markP : Par MarkP :=
  andThen (takeP fun t => decide (markKind t.text ≠ 0)) fun t => andThen num fun s =>
    if markKind t.text = 4 then andThen (word wOf) fun _ => andThen num fun o => give ⟨4, s, o⟩ else give ⟨markKind t.text, s, 0⟩
def rowP : Par RowP :=
  andThen (word wRow) fun at_ => andThen nameP fun n => andThen (word wAt) fun _ => andThen num fun x => andThen num fun y => andThen (word wSeats) fun _ => andThen num fun a =>
    andThen (word wTo) fun _ => andThen num fun b => andThen (word wStep) fun _ => andThen num fun s => andThen (many wSemi markP fuel) fun ms => give ⟨n, x, y, a, b, s, ms, at_⟩
def boxP : Par BoxP := andThen num fun x => andThen num fun y => andThen num fun x2 => andThen num fun y2 => give ⟨x, y, x2, y2⟩
def pointP : Par (Nat × Nat) := andThen num fun x => andThen num fun y => give (x, y)
def blockP (at_ : Nat) : Par BlockP := andThen nameP fun n => andThen (word wOpen) fun _ => andThen (many wClose rowP fuel) fun rs => give ⟨n, rs, at_⟩
def areaP (at_ : Nat) : Par AreaP := andThen nameP fun n => andThen boxP fun b => andThen (word wHolds) fun _ => andThen num fun h => andThen (word wSemi) fun _ => give ⟨n, b, h, at_⟩
def sort (s : List UInt8) : Nat := if s = wBlock then 1 else if s = wArea then 2 else if s = wAisle then 3 else if s = wPillar then 4 else if s = wDoor then 5 else 0
/-- What an item is behind its first word. -/
def itemRest (k at_ : Nat) : Par ItemP :=
  if k = 1 then andThen (blockP at_) fun b => give (.block b)
  else if k = 2 then andThen (areaP at_) fun b => give (.area b)
  else if k = 3 then andThen boxP fun b => andThen (word wSemi) fun _ => give (.aisle b)
  else if k = 4 then andThen boxP fun b => andThen (word wSemi) fun _ => give (.pillar b)
  else andThen pointP fun b => andThen (word wSemi) fun _ => give (.door b)
def itemP : Par ItemP := andThen (takeP fun t => decide (sort t.text ≠ 0)) fun t => itemRest (sort t.text) t.pos
def blocksOf (l : List ItemP) : List BlockP := l.filterMap fun | .block b => some b | _ => none
def areasOf (l : List ItemP) : List AreaP := l.filterMap fun | .area b => some b | _ => none
def aislesOf (l : List ItemP) : List BoxP := l.filterMap fun | .aisle b => some b | _ => none
def pillarsOf (l : List ItemP) : List BoxP := l.filterMap fun | .pillar b => some b | _ => none
def doorsOf (l : List ItemP) : List (Nat × Nat) := l.filterMap fun | .door b => some b | _ => none
def levelOf (n : List UInt8) (h : Nat) (is : List ItemP) (at_ : Nat) : LevelP := ⟨n, h, blocksOf is, areasOf is, aislesOf is, pillarsOf is, doorsOf is, at_⟩
def levelP : Par LevelP :=
  andThen (word wLevel) fun at_ => andThen nameP fun n => andThen (word wHeight) fun _ => andThen num fun h => andThen (word wOpen) fun _ => andThen (many wClose itemP fuel) fun is => give (levelOf n h is at_)
def hallP : Par HallP :=
  andThen (word wHall) fun _ => andThen nameP fun n => andThen (word wStage) fun _ => andThen num fun x => andThen num fun y => andThen (word wOpen) fun _ => andThen (many wClose levelP fuel) fun ls => give ⟨n, x, y, ls⟩
def noHall : HallP := ⟨[], 0, 0, []⟩
/-- The error and the offset where tokens are left that fit nowhere. -/
def failAt (n : Nat) : List Tok → Nat × Nat
  | [] => (7, n)
  | t :: _ => (4, t.pos)
/-- What the parsing of tokens returns. -/
def parseToks (ts : List Tok) (n : Nat) : HallP × Nat × Nat :=
  match hallP ts with
  | .ok h [] => (h, 0, 0)
  | .ok _ (t :: r) => (noHall, failAt n (t :: r))
  | .bad r => (noHall, failAt n r)
/-- What Parse returns. -/
def parseAll (l : List UInt8) : HallP × Nat × Int :=
  if (lexAll l).2.1 = 0 then ((parseToks (lexAll l).1 l.length).1, (parseToks (lexAll l).1 l.length).2.1, ((parseToks (lexAll l).1 l.length).2.2 : Nat)) else (noHall, (lexAll l).2.1, (lexAll l).2.2)
end Foyer.Plan

/-! ## The plain mathematics of plans: what lies behind a parsed piece makes no difference; offsets make none either. -/
namespace Foyer.Plan
open Foyer.Lexer

/-! ### What lies behind makes no difference -/
structure Det {α : Type} (p : Par α) : Prop where
  ok : ∀ ts a r, p ts = .ok a r → ∃ pre, ts = pre ++ r ∧ ∀ r', p (pre ++ r') = .ok a r'
  bad : ∀ ts r, p ts = .bad r → ∃ pre, ts = pre ++ r ∧ ∀ t s, r = t :: s → (∀ r', p (pre ++ t :: r') = .bad (t :: r')) ∧ p pre = .bad []
theorem det_give {α : Type} (a : α) : Det (give a) := ⟨fun ts b r h => by cases h; exact ⟨[], rfl, fun _ => rfl⟩, fun ts r h => by cases h⟩
theorem takeP_pos {q : Tok → Bool} {t : Tok} {r : List Tok} (h : q t = true) : takeP q (t :: r) = .ok t r := by
  show (if q t then _ else _) = _
  rw [if_pos h]
theorem takeP_neg {q : Tok → Bool} {t : Tok} {r : List Tok} (h : ¬ q t = true) : takeP q (t :: r) = .bad (t :: r) := by
  show (if q t then _ else _) = _
  rw [if_neg h]
theorem takeP_ok {q : Tok → Bool} {ts r : List Tok} {t : Tok} (h : takeP q ts = .ok t r) : ts = t :: r ∧ q t = true := by
  cases ts with
  | nil => cases h
  | cons u s =>
    by_cases hq : q u = true
    · rw [takeP_pos hq] at h; cases h; exact ⟨rfl, hq⟩
    · rw [takeP_neg hq] at h; cases h
theorem takeP_bad {q : Tok → Bool} {ts r : List Tok} (h : takeP q ts = .bad r) : r = ts ∧ ∀ t s, ts = t :: s → ¬ q t = true := by
  cases ts with
  | nil => cases h; exact ⟨rfl, fun t s e => by cases e⟩
  | cons u s =>
    by_cases hq : q u = true
    · rw [takeP_pos hq] at h; cases h
    · rw [takeP_neg hq] at h; cases h; exact ⟨rfl, fun t s e => by cases e; exact hq⟩
theorem det_take (q : Tok → Bool) : Det (takeP q) := by
  constructor
  · intro ts a r h
    obtain ⟨rfl, hq⟩ := takeP_ok h
    exact ⟨[a], rfl, fun r' => takeP_pos hq⟩
  · intro ts r h
    obtain ⟨rfl, hq⟩ := takeP_bad h
    exact ⟨[], rfl, fun t s e => ⟨fun r' => takeP_neg (hq t s e), rfl⟩⟩
section
variable {α β γ : Type}
theorem then_ok {p : Par α} {f : α → Par β} {ts r : List Tok} {b : β} (h : andThen p f ts = .ok b r) : ∃ a s, p ts = .ok a s ∧ f a s = .ok b r := by
  unfold andThen at h
  cases hp : p ts with
  | bad s => rw [hp] at h; cases h
  | ok a s => rw [hp] at h; exact ⟨a, s, rfl, h⟩
theorem then_of {p : Par α} {f : α → Par β} {ts s : List Tok} {a : α} (h : p ts = .ok a s) : andThen p f ts = f a s := by
  unfold andThen; rw [h]
theorem then_bad {p : Par α} {f : α → Par β} {ts s : List Tok} (h : p ts = .bad s) : andThen p f ts = .bad s := by
  unfold andThen; rw [h]
theorem det_then {p : Par α} {f : α → Par β} (hp : Det p) (hf : ∀ a, Det (f a)) : Det (andThen p f) := by
  constructor
  · intro ts b r h
    obtain ⟨a, s, h1, h2⟩ := then_ok h
    obtain ⟨pre, rfl, k1⟩ := hp.ok _ _ _ h1
    obtain ⟨pre2, rfl, k2⟩ := (hf a).ok _ _ _ h2
    refine ⟨pre ++ pre2, by simp, fun r' => ?_⟩
    rw [List.append_assoc, then_of (k1 _)]
    exact k2 r'
  · intro ts r h
    cases h1 : p ts with
    | bad s =>
      rw [then_bad h1] at h
      cases h
      obtain ⟨pre, rfl, k1⟩ := hp.bad _ _ h1
      exact ⟨pre, rfl, fun t s e => ⟨fun r' => then_bad ((k1 t s e).1 r'), then_bad (k1 t s e).2⟩⟩
    | ok a s =>
      rw [then_of h1] at h
      obtain ⟨pre, rfl, k1⟩ := hp.ok _ _ _ h1
      obtain ⟨pre2, rfl, k2⟩ := (hf a).bad _ _ h
      refine ⟨pre ++ pre2, by simp, fun t s e => ⟨fun r' => ?_, ?_⟩⟩
      · rw [List.append_assoc, then_of (k1 _)]
        exact (k2 t s e).1 r'
      · rw [then_of (k1 _)]
        exact (k2 t s e).2
theorem many_zero {c : List UInt8} {p : Par α} {ts : List Tok} : many c p 0 ts = .bad ts := rfl
theorem many_close {c : List UInt8} {p : Par α} {n : Nat} {t : Tok} {r : List Tok} (h : t.text = c) : many c p (n + 1) (t :: r) = .ok [] r := by
  rw [many, if_pos (by simp [h])]; rfl
theorem many_go {c : List UInt8} {p : Par α} {n : Nat} {ts : List Tok} (h : ∀ t r, ts = t :: r → t.text ≠ c) : many c p (n + 1) ts = andThen p (fun a => andThen (many c p n) fun as => give (a :: as)) ts := by
  rw [many, if_neg (by cases ts with | nil => simp | cons t r => simpa using h t r rfl)]
  unfold andThen give
  cases p ts with
  | bad r => rfl
  | ok a r => dsimp only; cases many c p n r <;> rfl
/-- How a list begins: with its end, or with one of its parts. -/
theorem many_ways (c : List UInt8) (ts : List Tok) : (∃ t r, ts = t :: r ∧ t.text = c) ∨ ∀ t r, ts = t :: r → t.text ≠ c := by
  cases ts with
  | nil => exact Or.inr fun t r h => by cases h
  | cons t r =>
    by_cases h : t.text = c
    · exact Or.inl ⟨t, r, rfl, h⟩
    · exact Or.inr fun t' r' e => by cases e; exact h
def Eats (p : Par α) : Prop := ∀ ts a r, p ts = .ok a r → r.length < ts.length
theorem eats_take (q : Tok → Bool) : Eats (takeP q) := fun ts a r h => by
  obtain ⟨rfl, _⟩ := takeP_ok h
  simp
theorem eats_then {p : Par α} {f : α → Par β} (hp : Eats p) (hf : ∀ a, Det (f a)) : Eats (andThen p f) := fun ts b r h => by
  obtain ⟨a, s, h1, h2⟩ := then_ok h
  have k1 := hp _ _ _ h1
  obtain ⟨pre, rfl, _⟩ := (hf a).ok _ _ _ h2
  simp only [List.length_append] at k1
  omega
theorem go_of_head {c : List UInt8} {pre r : List Tok} (hn : ∀ t s, pre ++ r = t :: s → t.text ≠ c) (h0 : pre ≠ []) (r' : List Tok) : ∀ t s, pre ++ r' = t :: s → t.text ≠ c := by
  cases pre with
  | nil => exact absurd rfl h0
  | cons u pre =>
    intro t s e
    rw [List.cons_append] at e
    cases e
    exact hn u (pre ++ r) rfl
theorem det_many {c : List UInt8} {p : Par α} (hp : Det p) (he : Eats p) : ∀ n, Det (many c p n)
  | 0 => by
    refine ⟨fun ts a r h => ?_, fun ts r h => ?_⟩
    · cases h
    · cases h
      exact ⟨[], rfl, fun t s _ => ⟨fun r' => rfl, rfl⟩⟩
  | n + 1 => by
    have hd : Det (andThen p (fun a => andThen (many c p n) fun as => give (a :: as))) := det_then hp fun a => det_then (det_many hp he n) fun as => det_give _
    have hee : Eats (andThen p (fun a => andThen (many c p n) fun as => give (a :: as))) := eats_then he fun a => det_then (det_many hp he n) fun as => det_give _
    constructor
    · intro ts as r h
      rcases many_ways c ts with ⟨t, s, rfl, ht⟩ | hn
      · rw [many_close ht] at h
        cases h
        exact ⟨[t], rfl, fun r' => many_close ht⟩
      · rw [many_go hn] at h
        have hl := hee _ _ _ h
        obtain ⟨pre, rfl, k⟩ := hd.ok _ _ _ h
        refine ⟨pre, rfl, fun r' => ?_⟩
        rw [many_go (go_of_head hn (by rintro rfl; simp at hl) r')]
        exact k r'
    · intro ts r h
      rcases many_ways c ts with ⟨t, s, rfl, ht⟩ | hn
      · rw [many_close ht] at h; cases h
      · rw [many_go hn] at h
        obtain ⟨pre, rfl, k⟩ := hd.bad _ _ h
        refine ⟨pre, rfl, fun t s e => ?_⟩
        subst e
        obtain ⟨k1, k2⟩ := k t s rfl
        by_cases h0 : pre = []
        · subst h0
          exact ⟨fun r' => by rw [many_go (fun t' s' e => by cases e; exact hn t s rfl)]; exact k1 r', by rw [many_go (fun t' s' e => by cases e)]; exact k2⟩
        · refine ⟨fun r' => ?_, ?_⟩
          · rw [many_go (go_of_head hn h0 _)]; exact k1 r'
          · have := go_of_head hn h0 []
            rw [List.append_nil] at this
            rw [many_go this]; exact k2
/-- With more fuel than tokens, fuel makes no difference. -/
theorem many_fuel {c : List UInt8} {p : Par α} (he : Eats p) : ∀ (n : Nat) (ts : List Tok), ts.length < n → ∀ k, many c p (n + k) ts = many c p n ts
  | 0, ts, h => by omega
  | n + 1, ts, h => fun k => by
    rw [show n + 1 + k = n + k + 1 by omega]
    rcases many_ways c ts with ⟨t, s, rfl, ht⟩ | hn
    · rw [many_close ht, many_close ht]
    · rw [many_go hn, many_go hn]
      unfold andThen
      cases h1 : p ts with
      | bad r => rfl
      | ok a r =>
        have := he _ _ _ h1
        simp only
        rw [many_fuel he n r (by omega) k]
/-- Two lists of parts, one behind the other. -/
theorem many_append {c : List UInt8} {p : Par α} (hp : Det p) (he : Eats p) : ∀ (n : Nat) (ts r : List Tok) (as : List α), many c p n ts = .ok as r →
    ∃ body t, ts = body ++ t :: r ∧ t.text = c ∧ ∀ m us, many c p (n + m) (body ++ us) = andThen (many c p (m + (n - as.length))) (fun bs => give (as ++ bs)) us
  | 0, ts, r, as, h => by cases h
  | n + 1, ts, r, as, h => by
    rcases many_ways c ts with ⟨t, s, rfl, ht⟩ | hn
    · rw [many_close ht] at h
      cases h
      refine ⟨[], t, rfl, ht, fun m us => ?_⟩
      rw [List.nil_append, show m + (n + 1 - ([] : List α).length) = n + 1 + m by simp; omega]
      unfold andThen give
      cases many c p (n + 1 + m) us <;> rfl
    · rw [many_go hn] at h
      obtain ⟨a, s, h1, h2⟩ := then_ok h
      obtain ⟨bs, s2, h3, h4⟩ := then_ok h2
      cases h4
      have hl := he _ _ _ h1
      obtain ⟨pre, rfl, k1⟩ := hp.ok _ _ _ h1
      obtain ⟨body, t, rfl, ht, k2⟩ := many_append hp he n _ _ _ h3
      have h0 : pre ≠ [] := by rintro rfl; simp at hl
      refine ⟨pre ++ body, t, by simp, ht, fun m us => ?_⟩
      rw [show n + 1 + m = n + m + 1 by omega, List.append_assoc, many_go (go_of_head hn h0 _), then_of (k1 _)]
      unfold andThen at k2 ⊢
      rw [k2 m us, show n + 1 - (a :: bs).length = n - bs.length by simp]
      unfold give
      cases many c p (m + (n - bs.length)) us <;> rfl

/-! ### Offsets make no difference -/
inductive All2 (R : α → β → Prop) : List α → List β → Prop
  | nil : All2 R [] []
  | cons {a : α} {b : β} {as : List α} {bs : List β} (h : R a b) (hs : All2 R as bs) : All2 R (a :: as) (b :: bs)
def RelR (R : α → β → Prop) : Res α → Res β → Prop
  | .ok a r, .ok b s => R a b ∧ sans r = sans s
  | .bad r, .bad s => sans r = sans s
  | _, _ => False
def Rel (R : α → β → Prop) (p : Par α) (q : Par β) : Prop := ∀ ts us, sans ts = sans us → RelR R (p ts) (q us)
end
theorem sans_cons {t : Tok} {ts us : List Tok} (h : sans (t :: ts) = sans us) : ∃ u us', us = u :: us' ∧ t.kind = u.kind ∧ t.text = u.text ∧ t.val = u.val ∧ sans ts = sans us' := by
  cases us with
  | nil => cases h
  | cons u us' =>
    simp only [sans, List.map_cons, List.cons.injEq, Prod.mk.injEq] at h
    exact ⟨u, us', rfl, h.1.1, h.1.2.1, h.1.2.2, h.2⟩
theorem sans_nil {us : List Tok} (h : sans [] = sans us) : us = [] := by
  cases us with
  | nil => rfl
  | cons u us' => cases h
theorem sans_length {ts us : List Tok} (h : sans ts = sans us) : ts.length = us.length := by
  have := congrArg List.length h
  simpa [sans] using this
section
variable {α β γ δ : Type}
theorem rel_give {R : α → β → Prop} {a : α} {b : β} (h : R a b) : Rel R (give a) (give b) := fun _ _ e => ⟨h, e⟩
theorem rel_take {q : Tok → Bool} (hq : ∀ t u : Tok, t.kind = u.kind → t.text = u.text → t.val = u.val → q t = q u) : Rel (fun t u : Tok => t.kind = u.kind ∧ t.text = u.text ∧ t.val = u.val) (takeP q) (takeP q) := by
  intro ts us h
  cases ts with
  | nil => rw [sans_nil h]; exact rfl
  | cons t ts =>
    obtain ⟨u, us', rfl, h1, h2, h3, h4⟩ := sans_cons h
    have := hq t u h1 h2 h3
    by_cases ht : q t = true
    · rw [takeP_pos ht, takeP_pos (this ▸ ht)]; exact ⟨⟨h1, h2, h3⟩, h4⟩
    · rw [takeP_neg ht, takeP_neg (this ▸ ht)]; exact h
theorem rel_then {R : α → β → Prop} {S : γ → δ → Prop} {p : Par α} {q : Par β} {f : α → Par γ} {g : β → Par δ} (hp : Rel R p q) (hf : ∀ a b, R a b → Rel S (f a) (g b)) : Rel S (andThen p f) (andThen q g) := by
  intro ts us h
  have := hp ts us h
  unfold andThen
  cases h1 : p ts with
  | bad r =>
    cases h2 : q us with
    | bad s => rw [h1, h2] at this; exact this
    | ok b s => rw [h1, h2] at this; exact this.elim
  | ok a r =>
    cases h2 : q us with
    | bad s => rw [h1, h2] at this; exact this.elim
    | ok b s => rw [h1, h2] at this; exact hf a b this.1 _ _ this.2
theorem rel_many {R : α → β → Prop} {p : Par α} {q : Par β} (c : List UInt8) (hp : Rel R p q) : ∀ n, Rel (All2 R) (many c p n) (many c q n)
  | 0 => fun ts us h => h
  | n + 1 => fun ts us h => by
    rcases many_ways c ts with ⟨t, s, rfl, ht⟩ | hn
    · obtain ⟨u, us', rfl, h1, h2, h3, h4⟩ := sans_cons h
      rw [many_close ht, many_close (h2 ▸ ht)]
      exact ⟨All2.nil, h4⟩
    · have hm : ∀ t r, us = t :: r → t.text ≠ c := fun t r e => by
        subst e
        obtain ⟨u, us', rfl, h1, h2, h3, h4⟩ := sans_cons h.symm
        rw [h2]; exact hn u us' rfl
      rw [many_go hn, many_go hm]
      exact rel_then hp (fun a b hab => rel_then (rel_many c hp n) fun as bs hs => rel_give (All2.cons hab hs)) ts us h
end
end Foyer.Plan

/-! ## The plain mathematics of plans: each piece of the grammar, what it leaves behind it, and what it is without offsets. -/
namespace Foyer.Plan
open Foyer.Lexer

theorem det_word (s : List UInt8) : Det (word s) := det_then (det_take _) fun _ => det_give _
theorem det_name : Det nameP := det_then (det_take _) fun _ => det_give _
theorem det_num : Det num := det_then (det_take _) fun _ => det_give _
theorem eats_word (s : List UInt8) : Eats (word s) := eats_then (eats_take _) fun _ => det_give _
theorem det_markRest (k : Nat) : Det (andThen num fun s => if k = 4 then andThen (word wOf) fun _ => andThen num fun o => give (⟨4, s, o⟩ : MarkP) else give ⟨k, s, 0⟩) := by
  refine det_then det_num fun s => ?_
  split
  · exact det_then (det_word _) fun _ => det_then det_num fun _ => det_give _
  · exact det_give _
theorem det_mark : Det markP := det_then (det_take _) fun _ => det_markRest _
theorem eats_mark : Eats markP := eats_then (eats_take _) fun _ => det_markRest _
theorem det_box : Det boxP := det_then det_num fun _ => det_then det_num fun _ => det_then det_num fun _ => det_then det_num fun _ => det_give _
theorem det_point : Det pointP := det_then det_num fun _ => det_then det_num fun _ => det_give _
theorem det_row : Det rowP := by
  unfold rowP
  repeat' first | exact det_word _ | exact det_name | exact det_num | exact det_many det_mark eats_mark _ | exact det_give _ | refine det_then ?_ fun _ => ?_
theorem eats_row : Eats rowP := by
  refine eats_then (eats_word _) fun _ => ?_
  repeat' first | exact det_word _ | exact det_name | exact det_num | exact det_many det_mark eats_mark _ | exact det_give _ | refine det_then ?_ fun _ => ?_
theorem det_block (a : Nat) : Det (blockP a) := by
  unfold blockP
  repeat' first | exact det_word _ | exact det_name | exact det_many det_row eats_row _ | exact det_give _ | refine det_then ?_ fun _ => ?_
theorem det_area (a : Nat) : Det (areaP a) := by
  unfold areaP
  repeat' first | exact det_word _ | exact det_name | exact det_num | exact det_box | exact det_give _ | refine det_then ?_ fun _ => ?_
theorem det_itemRest (k a : Nat) : Det (itemRest k a) := by
  unfold itemRest
  split
  · exact det_then (det_block _) fun _ => det_give _
  split
  · exact det_then (det_area _) fun _ => det_give _
  split
  · exact det_then det_box fun _ => det_then (det_word _) fun _ => det_give _
  split
  · exact det_then det_box fun _ => det_then (det_word _) fun _ => det_give _
  · exact det_then det_point fun _ => det_then (det_word _) fun _ => det_give _
theorem det_item : Det itemP := det_then (det_take _) fun _ => det_itemRest _ _
theorem eats_item : Eats itemP := eats_then (eats_take _) fun _ => det_itemRest _ _
theorem det_level : Det levelP := by
  unfold levelP
  repeat' first | exact det_word _ | exact det_name | exact det_num | exact det_many det_item eats_item _ | exact det_give _ | refine det_then ?_ fun _ => ?_
theorem eats_level : Eats levelP := by
  refine eats_then (eats_word _) fun _ => ?_
  repeat' first | exact det_word _ | exact det_name | exact det_num | exact det_many det_item eats_item _ | exact det_give _ | refine det_then ?_ fun _ => ?_
theorem det_hall : Det hallP := by
  unfold hallP
  repeat' first | exact det_word _ | exact det_name | exact det_num | exact det_many det_level eats_level _ | exact det_give _ | refine det_then ?_ fun _ => ?_

/-! ### Without offsets -/
def RowP.bare (r : RowP) : RowP := { r with pos := 0 }
def BlockP.bare (b : BlockP) : BlockP := ⟨b.name, b.rows.map RowP.bare, 0⟩
def AreaP.bare (a : AreaP) : AreaP := { a with pos := 0 }
def LevelP.bare (l : LevelP) : LevelP := ⟨l.name, l.height, l.blocks.map BlockP.bare, l.areas.map AreaP.bare, l.aisles, l.pillars, l.doors, 0⟩
def HallP.bare (h : HallP) : HallP := ⟨h.name, h.sx, h.sy, h.levels.map LevelP.bare⟩
def ItemP.bare : ItemP → ItemP
  | .block b => .block b.bare
  | .area a => .area a.bare
  | .aisle b => .aisle b
  | .pillar b => .pillar b
  | .door p => .door p
theorem map_of_forall2 {α β γ : Type} {f : α → γ} {g : β → γ} {as : List α} {bs : List β} (h : All2 (fun a b => f a = g b) as bs) : as.map f = bs.map g := by
  induction h with
  | nil => rfl
  | cons h _ ih => rw [List.map_cons, List.map_cons, h, ih]
theorem rel_word (s : List UInt8) : Rel (fun _ _ => True) (word s) (word s) :=
  rel_then (rel_take fun t u _ h _ => by rw [h]) fun _ _ _ => rel_give trivial
theorem rel_name : Rel (fun a b => a = b) nameP nameP := rel_then (rel_take fun t u h _ _ => by rw [h]) fun _ _ h => rel_give h.2.1
theorem rel_num : Rel (fun a b => a = b) num num := rel_then (rel_take fun t u h _ _ => by rw [h]) fun _ _ h => rel_give h.2.2
theorem rel_mark : Rel (fun a b => a = b) markP markP :=
  rel_then (rel_take fun t u _ h _ => by rw [h]) fun t u h => by
    rw [h.2.1]
    refine rel_then rel_num fun s s' hs => ?_
    subst hs
    split
    · exact rel_then (rel_word _) fun _ _ _ => rel_then rel_num fun o o' ho => rel_give (by rw [ho])
    · exact rel_give rfl
theorem rel_box : Rel (fun a b => a = b) boxP boxP :=
  rel_then rel_num fun _ _ h1 => rel_then rel_num fun _ _ h2 => rel_then rel_num fun _ _ h3 => rel_then rel_num fun _ _ h4 => rel_give (by rw [h1, h2, h3, h4])
theorem rel_point : Rel (fun a b => a = b) pointP pointP := rel_then rel_num fun _ _ h1 => rel_then rel_num fun _ _ h2 => rel_give (by rw [h1, h2])
theorem forall2_eq {α : Type} {as bs : List α} (h : All2 (fun a b => a = b) as bs) : as = bs := by
  induction h with
  | nil => rfl
  | cons h _ ih => rw [h, ih]
theorem rel_row : Rel (fun a b : RowP => a.bare = b.bare) rowP rowP := by
  refine rel_then (rel_word _) fun _ _ _ => rel_then rel_name fun _ _ h1 => rel_then (rel_word _) fun _ _ _ => rel_then rel_num fun _ _ h2 => rel_then rel_num fun _ _ h3 => rel_then (rel_word _) fun _ _ _ => rel_then rel_num fun _ _ h4 =>
    rel_then (rel_word _) fun _ _ _ => rel_then rel_num fun _ _ h5 => rel_then (rel_word _) fun _ _ _ => rel_then rel_num fun _ _ h6 => rel_then (rel_many _ rel_mark _) fun _ _ h7 => rel_give ?_
  subst h1 h2 h3 h4 h5 h6
  rw [forall2_eq h7]
  rfl
theorem rel_block (a b : Nat) : Rel (fun a b : BlockP => a.bare = b.bare) (blockP a) (blockP b) := by
  refine rel_then rel_name fun _ _ h1 => rel_then (rel_word _) fun _ _ _ => rel_then (rel_many _ rel_row _) fun _ _ h2 => rel_give ?_
  subst h1
  unfold BlockP.bare
  rw [map_of_forall2 h2]
theorem rel_area (a b : Nat) : Rel (fun a b : AreaP => a.bare = b.bare) (areaP a) (areaP b) := by
  refine rel_then rel_name fun _ _ h1 => rel_then rel_box fun _ _ h2 => rel_then (rel_word _) fun _ _ _ => rel_then rel_num fun _ _ h3 => rel_then (rel_word _) fun _ _ _ => rel_give ?_
  subst h1 h2 h3
  rfl
theorem rel_itemRest (k a b : Nat) : Rel (fun a b : ItemP => a.bare = b.bare) (itemRest k a) (itemRest k b) := by
  unfold itemRest
  split
  · exact rel_then (rel_block a b) fun _ _ h => rel_give (by show ItemP.block _ = ItemP.block _; rw [h])
  split
  · exact rel_then (rel_area a b) fun _ _ h => rel_give (by show ItemP.area _ = ItemP.area _; rw [h])
  split
  · exact rel_then rel_box fun _ _ h => rel_then (rel_word _) fun _ _ _ => rel_give (by rw [h])
  split
  · exact rel_then rel_box fun _ _ h => rel_then (rel_word _) fun _ _ _ => rel_give (by rw [h])
  · exact rel_then rel_point fun _ _ h => rel_then (rel_word _) fun _ _ _ => rel_give (by rw [h])
theorem rel_item : Rel (fun a b : ItemP => a.bare = b.bare) itemP itemP :=
  rel_then (rel_take fun t u _ h _ => by rw [h]) fun t u h => by rw [h.2.1]; exact rel_itemRest _ _ _
theorem bare_of (is js : List ItemP) (h : is.map ItemP.bare = js.map ItemP.bare) :
    (blocksOf is).map BlockP.bare = (blocksOf js).map BlockP.bare ∧ (areasOf is).map AreaP.bare = (areasOf js).map AreaP.bare ∧ aislesOf is = aislesOf js ∧ pillarsOf is = pillarsOf js ∧ doorsOf is = doorsOf js := by
  induction is generalizing js with
  | nil =>
    cases js with
    | nil => exact ⟨rfl, rfl, rfl, rfl, rfl⟩
    | cons j js => cases h
  | cons i is ih =>
    cases js with
    | nil => cases h
    | cons j js =>
      rw [List.map_cons, List.map_cons, List.cons.injEq] at h
      obtain ⟨h1, h2, h3, h4, h5⟩ := ih js h.2
      have hij := h.1
      cases i <;> cases j <;> simp only [ItemP.bare, ItemP.block.injEq, ItemP.area.injEq, ItemP.aisle.injEq, ItemP.pillar.injEq, ItemP.door.injEq, reduceCtorEq] at hij <;>
        simp only [blocksOf, areasOf, aislesOf, pillarsOf, doorsOf, List.filterMap_cons, List.map_cons] at h1 h2 h3 h4 h5 ⊢ <;> simp only [hij, h1, h2, h3, h4, h5, and_self]
theorem rel_level : Rel (fun a b : LevelP => a.bare = b.bare) levelP levelP := by
  refine rel_then (rel_word _) fun _ _ _ => rel_then rel_name fun _ _ h1 => rel_then (rel_word _) fun _ _ _ => rel_then rel_num fun _ _ h2 => rel_then (rel_word _) fun _ _ _ => rel_then (rel_many _ rel_item _) fun is js h3 => rel_give ?_
  subst h1 h2
  obtain ⟨e1, e2, e3, e4, e5⟩ := bare_of is js (map_of_forall2 h3)
  unfold levelOf LevelP.bare
  simp only [e1, e2, e3, e4, e5]
theorem rel_hall : Rel (fun a b : HallP => a.bare = b.bare) hallP hallP := by
  refine rel_then (rel_word _) fun _ _ _ => rel_then rel_name fun _ _ h1 => rel_then (rel_word _) fun _ _ _ => rel_then rel_num fun _ _ h2 => rel_then rel_num fun _ _ h3 => rel_then (rel_word _) fun _ _ _ => rel_then (rel_many _ rel_level _) fun is js h4 => rel_give ?_
  subst h1 h2 h3
  unfold HallP.bare
  rw [map_of_forall2 h4]

/-! ### What parsing returns -/
theorem parse_bad {ts r : List Tok} {t : Tok} (h : hallP ts = .bad (t :: r)) (n : Nat) : parseToks ts n = (noHall, 4, t.pos) := by
  unfold parseToks; rw [h]; rfl
theorem parse_more {ts r : List Tok} {t : Tok} {a : HallP} (h : hallP ts = .ok a (t :: r)) (n : Nat) : parseToks ts n = (noHall, 4, t.pos) := by
  unfold parseToks; rw [h]; rfl
theorem parse_end {ts : List Tok} (h : hallP ts = .bad []) (n : Nat) : parseToks ts n = (noHall, 7, n) := by
  unfold parseToks; rw [h]; rfl
theorem parse_ok {ts : List Tok} {a : HallP} (h : hallP ts = .ok a []) (n : Nat) : parseToks ts n = (a, 0, 0) := by
  unfold parseToks; rw [h]
/-- The ways of a parsing: a hall; the end; a token that fits nowhere, whatever lies behind it. -/
theorem parse_ways (ts : List Tok) : (∃ h, hallP ts = .ok h [] ∧ ∀ n, parseToks ts n = (h, 0, 0)) ∨ (hallP ts = .bad [] ∧ ∀ n, parseToks ts n = (noHall, 7, n)) ∨
    ∃ pre t r, ts = pre ++ t :: r ∧ (∀ n, parseToks ts n = (noHall, 4, t.pos)) ∧ (∀ r' n, parseToks (pre ++ t :: r') n = (noHall, 4, t.pos)) ∧ ((hallP pre = .bad []) ∨ ∃ h, hallP pre = .ok h []) := by
  cases h : hallP ts with
  | ok a r =>
    cases r with
    | nil => exact Or.inl ⟨a, rfl, fun n => parse_ok h n⟩
    | cons t r =>
      obtain ⟨pre, rfl, k⟩ := det_hall.ok _ _ _ h
      refine Or.inr (Or.inr ⟨pre, t, r, rfl, fun n => parse_more h n, fun r' n => parse_more (k _) n, Or.inr ⟨a, ?_⟩⟩)
      have := k []
      rwa [List.append_nil] at this
  | bad r =>
    cases r with
    | nil => exact Or.inr (Or.inl ⟨rfl, fun n => parse_end h n⟩)
    | cons t r =>
      obtain ⟨pre, rfl, k⟩ := det_hall.bad _ _ h
      obtain ⟨k1, k2⟩ := k t r rfl
      exact Or.inr (Or.inr ⟨pre, t, r, rfl, fun n => parse_bad h n, fun r' n => parse_bad (k1 r') n, Or.inl k2⟩)
/-- P6.2: the same tokens at other offsets. -/
theorem parse_gaps {ts us : List Tok} (h : sans ts = sans us) (n m : Nat) : (parseToks ts n).1.bare = (parseToks us m).1.bare ∧ (parseToks ts n).2.1 = (parseToks us m).2.1 ∧
    (((parseToks ts n).2.1 = 0 ∧ (parseToks ts n).2.2 = 0 ∧ (parseToks us m).2.2 = 0) ∨ ((parseToks ts n).2.1 = 7 ∧ (parseToks ts n).2.2 = n ∧ (parseToks us m).2.2 = m) ∨
      ((parseToks ts n).2.1 = 4 ∧ ∃ (i : Nat) (t u : Tok), ts[i]? = some t ∧ us[i]? = some u ∧ (parseToks ts n).2.2 = t.pos ∧ (parseToks us m).2.2 = u.pos)) := by
  have hr := rel_hall ts us h
  have key : ∀ {pre pre' r s : List Tok} {t u : Tok}, ts = pre ++ t :: r → us = pre' ++ u :: s → sans (t :: r) = sans (u :: s) → ∃ i : Nat, ts[i]? = some t ∧ us[i]? = some u := by
    intro pre pre' r s t u e1 e2 hs
    have l1 := sans_length h
    have l2 := sans_length hs
    rw [e1, e2] at l1
    simp only [List.length_append, List.length_cons] at l1 l2
    refine ⟨pre.length, by rw [e1]; simp, ?_⟩
    rw [e2, show pre.length = pre'.length by omega]; simp
  cases h1 : hallP ts with
  | ok a r =>
    cases h2 : hallP us with
    | bad s => rw [h1, h2] at hr; exact hr.elim
    | ok b s =>
      rw [h1, h2] at hr
      obtain ⟨hb, hs⟩ := hr
      cases r with
      | nil =>
        rw [sans_nil hs] at h2
        rw [parse_ok h1 n, parse_ok h2 m]
        exact ⟨hb, rfl, Or.inl ⟨rfl, rfl, rfl⟩⟩
      | cons t r =>
        obtain ⟨u, s, rfl, _⟩ := sans_cons hs
        obtain ⟨pre, e1, _⟩ := det_hall.ok _ _ _ h1
        obtain ⟨pre', e2, _⟩ := det_hall.ok _ _ _ h2
        obtain ⟨i, i1, i2⟩ := key e1 e2 hs
        rw [parse_more h1 n, parse_more h2 m]
        exact ⟨rfl, rfl, Or.inr (Or.inr ⟨rfl, i, t, u, i1, i2, rfl, rfl⟩)⟩
  | bad r =>
    cases h2 : hallP us with
    | ok b s => rw [h1, h2] at hr; exact hr.elim
    | bad s =>
      rw [h1, h2] at hr
      have hs : sans r = sans s := hr
      cases r with
      | nil =>
        rw [sans_nil hs] at h2
        rw [parse_end h1 n, parse_end h2 m]
        exact ⟨rfl, rfl, Or.inr (Or.inl ⟨rfl, rfl, rfl⟩)⟩
      | cons t r =>
        obtain ⟨u, s, rfl, _⟩ := sans_cons hs
        obtain ⟨pre, e1, _⟩ := det_hall.bad _ _ h1
        obtain ⟨pre', e2, _⟩ := det_hall.bad _ _ h2
        obtain ⟨i, i1, i2⟩ := key e1 e2 hs
        rw [parse_bad h1 n, parse_bad h2 m]
        exact ⟨rfl, rfl, Or.inr (Or.inr ⟨rfl, i, t, u, i1, i2, rfl, rfl⟩)⟩
end Foyer.Plan

/-! ## The plain mathematics of plans: offsets in their order, halls that are joined, items that are sorted. -/
namespace Foyer.Plan
open Foyer.Lexer

/-! ### Offsets -/
section
variable {S : List UInt8 → Nat → Prop} {α β : Type}
/-- Tokens that stand one behind the other, from a place on. -/
def Inc (S : List UInt8 → Nat → Prop) : Nat → List Tok → Prop
  | _, [] => True
  | lo, t :: r => lo ≤ t.pos ∧ S t.text t.pos ∧ Inc S (t.pos + 1) r
theorem Inc.mono {lo lo' : Nat} (h : lo' ≤ lo) : ∀ {ts : List Tok}, Inc S lo ts → Inc S lo' ts
  | [], _ => trivial
  | _ :: _, k => ⟨Nat.le_trans h k.1, k.2⟩
def Off (S : List UInt8 → Nat → Prop) (p : Par α) (Q : Nat → α → Nat → Prop) : Prop := ∀ lo ts a r, Inc S lo ts → p ts = .ok a r → ∃ hi, lo ≤ hi ∧ Inc S hi r ∧ Q lo a hi
theorem off_give (a : α) : Off S (give a) (fun lo b hi => hi = lo ∧ b = a) := fun lo ts b r h e => by
  cases e; exact ⟨lo, Nat.le_refl _, h, rfl, rfl⟩
theorem off_take (q : Tok → Bool) : Off S (takeP q) (fun lo t hi => lo ≤ t.pos ∧ hi = t.pos + 1 ∧ S t.text t.pos ∧ q t = true) := fun lo ts t r h e => by
  obtain ⟨rfl, hq⟩ := takeP_ok e
  exact ⟨t.pos + 1, by have := h.1; omega, h.2.2, h.1, rfl, h.2.1, hq⟩
theorem off_then {p : Par α} {f : α → Par β} {Q : Nat → α → Nat → Prop} {R : α → Nat → β → Nat → Prop} (hp : Off S p Q) (hf : ∀ a, Off S (f a) (R a)) : Off S (andThen p f) (fun lo b hi => ∃ a m, lo ≤ m ∧ m ≤ hi ∧ Q lo a m ∧ R a m b hi) := fun lo ts b r h e => by
  obtain ⟨a, s, h1, h2⟩ := then_ok e
  obtain ⟨m, k1, k2, k3⟩ := hp _ _ _ _ h h1
  obtain ⟨hi, j1, j2, j3⟩ := hf a _ _ _ _ k2 h2
  exact ⟨hi, by omega, j2, a, m, k1, j1, k3, j3⟩
theorem Off.weak {p : Par α} {Q Q' : Nat → α → Nat → Prop} (h : Off S p Q) (hq : ∀ lo a hi, lo ≤ hi → Q lo a hi → Q' lo a hi) : Off S p Q' := fun lo ts a r hi e =>
  let ⟨hi, h1, h2, h3⟩ := h lo ts a r hi e; ⟨hi, h1, h2, hq _ _ _ h1 h3⟩
def Chain (Q : Nat → α → Nat → Prop) : Nat → List α → Nat → Prop
  | lo, [], hi => lo ≤ hi
  | lo, a :: as, hi => ∃ m, lo ≤ m ∧ Q lo a m ∧ Chain Q m as hi
theorem chain_le {Q : Nat → α → Nat → Prop} : ∀ {as : List α} {lo hi : Nat}, Chain Q lo as hi → lo ≤ hi
  | [], _, _, h => h
  | _ :: _, _, _, ⟨_, h1, _, h3⟩ => Nat.le_trans h1 (chain_le h3)
theorem chain_mono {Q : Nat → α → Nat → Prop} (hQ : ∀ lo lo' a hi, lo' ≤ lo → Q lo a hi → Q lo' a hi) {lo lo' : Nat} (h : lo' ≤ lo) : ∀ {as : List α} {hi : Nat}, Chain Q lo as hi → Chain Q lo' as hi
  | [], _, k => Nat.le_trans h k
  | _ :: _, _, ⟨m, h1, h2, h3⟩ => ⟨m, Nat.le_trans h h1, hQ _ _ _ _ h h2, h3⟩
theorem off_many {c : List UInt8} {p : Par α} {Q : Nat → α → Nat → Prop} (hp : Off S p Q) : ∀ n, Off S (many c p n) (Chain Q)
  | 0 => fun lo ts a r h e => by cases e
  | n + 1 => fun lo ts as r h e => by
    rcases many_ways c ts with ⟨t, s, rfl, ht⟩ | hn
    · rw [many_close ht] at e
      cases e
      exact ⟨t.pos + 1, by have := h.1; omega, h.2.2, by have := h.1; show lo ≤ _; omega⟩
    · rw [many_go hn] at e
      obtain ⟨a, s, h1, h2⟩ := then_ok e
      obtain ⟨bs, s2, h3, h4⟩ := then_ok h2
      cases h4
      obtain ⟨m, k1, k2, k3⟩ := hp _ _ _ _ h h1
      obtain ⟨hi, j1, j2, j3⟩ := off_many hp n _ _ _ _ k2 h3
      exact ⟨hi, by omega, j2, m, k1, k3, j3⟩
def Any (lo : Nat) (_ : α) (hi : Nat) : Prop := lo ≤ hi
theorem off_any {p : Par α} {Q : Nat → α → Nat → Prop} (h : Off S p Q) : Off S p Any := h.weak fun _ _ _ h _ => h
theorem any_then {p : Par α} {f : α → Par β} (hp : Off S p Any) (hf : ∀ a, Off S (f a) Any) : Off S (andThen p f) Any := off_any (off_then hp hf)
theorem any_give (a : α) : Off S (give a) Any := off_any (off_give a)
theorem any_word (s : List UInt8) : Off S (word s) Any := any_then (off_any (off_take _)) fun _ => any_give _
theorem any_name : Off S nameP Any := any_then (off_any (off_take _)) fun _ => any_give _
theorem any_num : Off S num Any := any_then (off_any (off_take _)) fun _ => any_give _
theorem any_box : Off S boxP Any := any_then any_num fun _ => any_then any_num fun _ => any_then any_num fun _ => any_then any_num fun _ => any_give _
theorem any_point : Off S pointP Any := any_then any_num fun _ => any_then any_num fun _ => any_give _
theorem any_mark : Off S markP Any := any_then (off_any (off_take _)) fun t => any_then any_num fun s => by
  split
  · exact any_then (any_word _) fun _ => any_then any_num fun _ => any_give _
  · exact any_give _
/-- The first word's offset. -/
theorem off_word (s : List UInt8) : Off S (word s) (fun lo at_ hi => lo ≤ at_ ∧ hi = at_ + 1 ∧ S s at_) :=
  (off_then (off_take _) fun _ => off_give _).weak fun lo at_ hi _ ⟨t, m, _, _, ⟨h1, h2, h3, h4⟩, h5, h6⟩ => by
    subst h6
    exact ⟨h1, by omega, (of_decide_eq_true h4) ▸ h3⟩
def RowAt (S : List UInt8 → Nat → Prop) (lo : Nat) (r : RowP) (hi : Nat) : Prop := lo ≤ r.pos ∧ r.pos < hi ∧ S wRow r.pos
def BlockAt (S : List UInt8 → Nat → Prop) (lo : Nat) (b : BlockP) (hi : Nat) : Prop := lo ≤ b.pos ∧ b.pos < hi ∧ S wBlock b.pos ∧ Chain (RowAt S) (b.pos + 1) b.rows hi
def AreaAt (S : List UInt8 → Nat → Prop) (lo : Nat) (a : AreaP) (hi : Nat) : Prop := lo ≤ a.pos ∧ a.pos < hi ∧ S wArea a.pos
def LevelAt (S : List UInt8 → Nat → Prop) (lo : Nat) (l : LevelP) (hi : Nat) : Prop := lo ≤ l.pos ∧ l.pos < hi ∧ S wLevel l.pos ∧ Chain (BlockAt S) (l.pos + 1) l.blocks hi ∧ Chain (AreaAt S) (l.pos + 1) l.areas hi
def ItemAt (S : List UInt8 → Nat → Prop) (lo : Nat) : ItemP → Nat → Prop
  | .block b, hi => BlockAt S lo b hi
  | .area a, hi => AreaAt S lo a hi
  | _, _ => True
theorem off_row : Off S rowP (RowAt S) := by
  have hr : ∀ at_ : Nat, Off S (andThen nameP fun n => andThen (word wAt) fun _ => andThen num fun x => andThen num fun y => andThen (word wSeats) fun _ => andThen num fun a =>
    andThen (word wTo) fun _ => andThen num fun b => andThen (word wStep) fun _ => andThen num fun s => andThen (many wSemi markP fuel) fun ms => give (⟨n, x, y, a, b, s, ms, at_⟩ : RowP)) (fun _ r _ => r.pos = at_) := fun at_ lo ts r s h e => by
    have hd : Off S (andThen nameP fun n => andThen (word wAt) fun _ => andThen num fun x => andThen num fun y => andThen (word wSeats) fun _ => andThen num fun a =>
      andThen (word wTo) fun _ => andThen num fun b => andThen (word wStep) fun _ => andThen num fun s => andThen (many wSemi markP fuel) fun ms => give (⟨n, x, y, a, b, s, ms, at_⟩ : RowP)) Any := by
      repeat' first | exact any_word _ | exact any_name | exact any_num | exact off_any (off_many any_mark _) | exact any_give _ | refine any_then ?_ fun _ => ?_
    obtain ⟨hi, h1, h2, _⟩ := hd _ _ _ _ h e
    refine ⟨hi, h1, h2, ?_⟩
    obtain ⟨_, _, _, e⟩ := then_ok e
    obtain ⟨_, _, _, e⟩ := then_ok e
    obtain ⟨_, _, _, e⟩ := then_ok e
    obtain ⟨_, _, _, e⟩ := then_ok e
    obtain ⟨_, _, _, e⟩ := then_ok e
    obtain ⟨_, _, _, e⟩ := then_ok e
    obtain ⟨_, _, _, e⟩ := then_ok e
    obtain ⟨_, _, _, e⟩ := then_ok e
    obtain ⟨_, _, _, e⟩ := then_ok e
    obtain ⟨_, _, _, e⟩ := then_ok e
    obtain ⟨_, _, _, e⟩ := then_ok e
    cases e
    rfl
  exact (off_then (off_word wRow) hr).weak fun lo r hi _ ⟨at_, m, h1, h2, ⟨h3, h4, h5⟩, h6⟩ => by
    subst h6
    exact ⟨h3, by omega, h5⟩
theorem off_block (at_ : Nat) : Off S (blockP at_) (fun lo b hi => b.pos = at_ ∧ Chain (RowAt S) lo b.rows hi) :=
  (off_then any_name fun n => off_then (any_word wOpen) fun _ => off_then (off_many off_row fuel) fun rs => off_give _).weak
    fun lo b hi _ ⟨n, m, h1, h2, _, _, m2, h3, h4, _, rs, m3, h5, h6, h7, h8, h9⟩ => by
      subst h9
      refine ⟨rfl, ?_⟩
      have := chain_mono (Q := RowAt S) (fun lo lo' a hi h k => ⟨Nat.le_trans h k.1, k.2⟩) (show lo ≤ m2 by omega) h7
      rw [h8]; exact this
theorem off_area (at_ : Nat) : Off S (areaP at_) (fun _ a _ => a.pos = at_) :=
  (off_then any_name fun n => off_then any_box fun _ => off_then (any_word _) fun _ => off_then any_num fun h => off_then (any_word _) fun _ => off_give _).weak
    fun lo b hi _ ⟨_, _, _, _, _, _, _, _, _, _, _, _, _, _, _, _, _, _, _, _, _, _, _, _, _, _, h⟩ => by subst h; rfl
theorem off_item : Off S itemP (ItemAt S) := by
  have hr : ∀ t : Tok, Off S (itemRest (sort t.text) t.pos) (fun lo it hi => match it with | .block b => b.pos = t.pos ∧ sort t.text = 1 ∧ Chain (RowAt S) lo b.rows hi | .area a => a.pos = t.pos ∧ sort t.text = 2 | _ => True) := by
    intro t
    unfold itemRest
    split
    · rename_i h
      exact (off_then (off_block _) fun _ => off_give _).weak fun lo it hi _ ⟨b, m, _, _, ⟨h3, h4⟩, h5, h6⟩ => by
        subst h6; exact ⟨h3, h, h5 ▸ h4⟩
    split
    · rename_i h
      exact (off_then (off_area _) fun _ => off_give _).weak fun lo it hi _ ⟨b, m, _, _, h3, h5, h6⟩ => by
        subst h6; exact ⟨h3, h⟩
    split
    · exact (off_then any_box fun _ => off_then (any_word _) fun _ => off_give _).weak fun lo it hi _ ⟨_, _, _, _, _, _, _, _, _, _, _, h⟩ => by subst h; trivial
    split
    · exact (off_then any_box fun _ => off_then (any_word _) fun _ => off_give _).weak fun lo it hi _ ⟨_, _, _, _, _, _, _, _, _, _, _, h⟩ => by subst h; trivial
    · exact (off_then any_point fun _ => off_then (any_word _) fun _ => off_give _).weak fun lo it hi _ ⟨_, _, _, _, _, _, _, _, _, _, _, h⟩ => by subst h; trivial
  have hs1 : ∀ s, sort s = 1 → s = wBlock := fun s h => by
    unfold sort at h
    repeat' split at h
    all_goals first | assumption | omega
  have hs2 : ∀ s, sort s = 2 → s = wArea := fun s h => by
    unfold sort at h
    repeat' split at h
    all_goals first | assumption | omega
  exact (off_then (off_take _) hr).weak fun lo it hi _ ⟨t, m, h1, h2, ⟨h3, h4, h5, _⟩, h6⟩ => by
    cases it with
    | block b =>
      obtain ⟨e1, e2, e3⟩ := h6
      exact ⟨by rw [e1]; exact h3, by rw [e1]; omega, by rw [e1]; exact (hs1 _ e2) ▸ h5, by rw [e1, ← h4]; exact e3⟩
    | area a =>
      obtain ⟨e1, e2⟩ := h6
      exact ⟨by rw [e1]; exact h3, by rw [e1]; omega, by rw [e1]; exact (hs2 _ e2) ▸ h5⟩
    | aisle b => trivial
    | pillar b => trivial
    | door b => trivial
theorem chain_items {is : List ItemP} : ∀ {lo hi : Nat}, Chain (ItemAt S) lo is hi → Chain (BlockAt S) lo (blocksOf is) hi ∧ Chain (AreaAt S) lo (areasOf is) hi := by
  have mB : ∀ lo lo' (a : BlockP) hi, lo' ≤ lo → BlockAt S lo a hi → BlockAt S lo' a hi := fun _ _ _ _ h k => ⟨Nat.le_trans h k.1, k.2⟩
  have mA : ∀ lo lo' (a : AreaP) hi, lo' ≤ lo → AreaAt S lo a hi → AreaAt S lo' a hi := fun _ _ _ _ h k => ⟨Nat.le_trans h k.1, k.2⟩
  induction is with
  | nil => exact fun h => ⟨h, h⟩
  | cons i is ih =>
    intro lo hi ⟨m, h1, h2, h3⟩
    obtain ⟨k1, k2⟩ := ih h3
    cases i with
    | block b => exact ⟨⟨m, h1, h2, k1⟩, chain_mono mA h1 k2⟩
    | area a => exact ⟨chain_mono mB h1 k1, ⟨m, h1, h2, k2⟩⟩
    | aisle b => exact ⟨chain_mono mB h1 k1, chain_mono mA h1 k2⟩
    | pillar b => exact ⟨chain_mono mB h1 k1, chain_mono mA h1 k2⟩
    | door b => exact ⟨chain_mono mB h1 k1, chain_mono mA h1 k2⟩
theorem off_level : Off S levelP (LevelAt S) :=
  (off_then (off_word wLevel) fun at_ => off_then any_name fun n => off_then (any_word _) fun _ => off_then any_num fun h => off_then (any_word _) fun _ => off_then (off_many off_item fuel) fun is => off_give _).weak
    fun lo l hi _ ⟨at_, m, h1, h2, ⟨h3, h4, h5⟩, n, m2, h6, h7, _, _, m3, h8, h9, _, hh, m4, h10, h11, _, _, m5, h12, h13, _, is, m6, h14, h15, hc, h16, h17⟩ => by
      subst h17 h16
      obtain ⟨k1, k2⟩ := chain_items hc
      exact ⟨h3, by show at_ < _; omega, h5, chain_mono (fun _ _ _ _ h k => ⟨Nat.le_trans h k.1, k.2⟩) (show at_ + 1 ≤ m5 by omega) k1, chain_mono (fun _ _ _ _ h k => ⟨Nat.le_trans h k.1, k.2⟩) (show at_ + 1 ≤ m5 by omega) k2⟩
theorem off_hall : Off S hallP (fun lo h hi => Chain (LevelAt S) lo h.levels hi) :=
  (off_then (any_word wHall) fun _ => off_then any_name fun n => off_then (any_word _) fun _ => off_then any_num fun x => off_then any_num fun y => off_then (any_word _) fun _ => off_then (off_many off_level fuel) fun ls => off_give _).weak
    fun lo l hi _ ⟨_, m, h1, h2, _, n, m2, h6, h7, _, _, m3, h8, h9, _, hh, m4, h10, h11, _, _, m5, h12, h13, _, _, m6, h14, h15, _, ls, m7, h16, h17, hc, h18, h19⟩ => by
      subst h19 h18
      exact chain_mono (fun _ _ _ _ h k => ⟨Nat.le_trans h k.1, k.2⟩) (show lo ≤ m6 by omega) hc
end

/-! ### Joined halls -/
theorem many_count {α : Type} {c : List UInt8} {p : Par α} : ∀ (n : Nat) (ts r : List Tok) (as : List α), many c p n ts = .ok as r → as.length ≤ n
  | 0, ts, r, as, h => by cases h
  | n + 1, ts, r, as, h => by
    rcases many_ways c ts with ⟨t, s, rfl, ht⟩ | hn
    · rw [many_close ht] at h; cases h; simp
    · rw [many_go hn] at h
      obtain ⟨a, s, h1, h2⟩ := then_ok h
      obtain ⟨bs, s2, h3, h4⟩ := then_ok h2
      cases h4
      have := many_count n _ _ _ h3
      simp only [List.length_cons]; omega
/-- What stands between the braces of two lists of parts, in one. -/
theorem many_join {α : Type} {c : List UInt8} {p : Par α} (hp : Det p) (he : Eats p) {ts r : List Tok} {as : List α} (h : many c p fuel ts = .ok as r) :
    ∃ body t, ts = body ++ t :: r ∧ t.text = c ∧ ∀ us, (body ++ us).length < fuel → many c p fuel (body ++ us) = andThen (many c p fuel) (fun bs => give (as ++ bs)) us := by
  obtain ⟨body, t, e, ht, k⟩ := many_append hp he _ _ _ _ h
  refine ⟨body, t, e, ht, fun us hl => ?_⟩
  have := k as.length us
  have hc := many_count _ _ _ _ h
  rwa [many_fuel he _ _ hl, show as.length + (fuel - as.length) = fuel by omega] at this
theorem one_word {s : List UInt8} {ts r : List Tok} {a : Nat} (h : word s ts = .ok a r) : ∃ t, ts = t :: r ∧ t.text = s ∧ a = t.pos := by
  obtain ⟨t, s', h1, h2⟩ := then_ok h
  cases h2
  obtain ⟨rfl, h3⟩ := takeP_ok h1
  exact ⟨t, rfl, of_decide_eq_true h3, rfl⟩
theorem one_name {ts r : List Tok} {a : List UInt8} (h : nameP ts = .ok a r) : ∃ t, ts = t :: r ∧ t.kind = 1 ∧ a = t.text := by
  obtain ⟨t, s', h1, h2⟩ := then_ok h
  cases h2
  obtain ⟨rfl, h3⟩ := takeP_ok h1
  exact ⟨t, rfl, of_decide_eq_true h3, rfl⟩
theorem one_num {ts r : List Tok} {a : Nat} (h : num ts = .ok a r) : ∃ t, ts = t :: r ∧ t.kind = 2 ∧ a = t.val := by
  obtain ⟨t, s', h1, h2⟩ := then_ok h
  cases h2
  obtain ⟨rfl, h3⟩ := takeP_ok h1
  exact ⟨t, rfl, of_decide_eq_true h3, rfl⟩
theorem word_pos {s : List UInt8} {t : Tok} {r : List Tok} (h : t.text = s) : word s (t :: r) = .ok t.pos r := then_of (takeP_pos (decide_eq_true h))
theorem name_pos {t : Tok} {r : List Tok} (h : t.kind = 1) : nameP (t :: r) = .ok t.text r := then_of (takeP_pos (decide_eq_true h))
theorem num_pos {t : Tok} {r : List Tok} (h : t.kind = 2) : num (t :: r) = .ok t.val r := then_of (takeP_pos (decide_eq_true h))
/-- A hall's first six tokens, and its levels. -/
theorem hall_split {ts r : List Tok} {a : HallP} (h : hallP ts = .ok a r) : ∃ t1 t2 t3 t4 t5 t6 r1, ts = t1 :: t2 :: t3 :: t4 :: t5 :: t6 :: r1 ∧ t6.text = wOpen ∧ many wClose levelP fuel r1 = .ok a.levels r ∧
    ∀ r', hallP (t1 :: t2 :: t3 :: t4 :: t5 :: t6 :: r') = andThen (many wClose levelP fuel) (fun ls => give ⟨a.name, a.sx, a.sy, ls⟩) r' := by
  obtain ⟨_, _, j1, k1⟩ := then_ok h
  clear h
  obtain ⟨t1, rfl, e1, rfl⟩ := one_word j1
  obtain ⟨_, _, j2, k2⟩ := then_ok k1
  clear k1
  obtain ⟨t2, rfl, e2, rfl⟩ := one_name j2
  obtain ⟨_, _, j3, k3⟩ := then_ok k2
  clear k2
  obtain ⟨t3, rfl, e3, rfl⟩ := one_word j3
  obtain ⟨_, _, j4, k4⟩ := then_ok k3
  clear k3
  obtain ⟨t4, rfl, e4, rfl⟩ := one_num j4
  obtain ⟨_, _, j5, k5⟩ := then_ok k4
  clear k4
  obtain ⟨t5, rfl, e5, rfl⟩ := one_num j5
  obtain ⟨_, _, j6, k6⟩ := then_ok k5
  clear k5
  obtain ⟨t6, rfl, e6, rfl⟩ := one_word j6
  obtain ⟨ls, s, h1, h2⟩ := then_ok k6
  cases h2
  refine ⟨t1, t2, t3, t4, t5, t6, _, rfl, e6, h1, fun r' => ?_⟩
  unfold hallP
  rw [then_of (word_pos e1), then_of (name_pos e2), then_of (word_pos e3), then_of (num_pos e4), then_of (num_pos e5), then_of (word_pos e6)]
/-- P6.5: the levels of two halls in one. -/
theorem hall_join {ts us : List Tok} {a b : HallP} (ha : hallP ts = .ok a []) (hb : hallP us = .ok b []) :
    ∃ p1 t1 q body t2, ts = p1 ++ [t1] ∧ us = q ++ (body ++ [t2]) ∧ q.length = 6 ∧ (∃ o, q[5]? = some o ∧ o.text = wOpen) ∧ t1.text = wClose ∧ t2.text = wClose ∧ 6 ≤ p1.length ∧
      ∀ vs, sans vs = sans (body ++ [t2]) → (p1 ++ vs).length < fuel → ∃ bs, hallP (p1 ++ vs) = .ok ⟨a.name, a.sx, a.sy, a.levels ++ bs⟩ [] ∧ bs.map LevelP.bare = b.levels.map LevelP.bare := by
  obtain ⟨a1, a2, a3, a4, a5, a6, r1, rfl, _, hm, hA⟩ := hall_split ha
  obtain ⟨b1, b2, b3, b4, b5, b6, r2, rfl, ho, hm2, hB⟩ := hall_split hb
  obtain ⟨body1, t1, rfl, ht1, k1⟩ := many_join det_level eats_level hm
  obtain ⟨body2, t2, rfl, ht2, k2⟩ := many_join det_level eats_level hm2
  refine ⟨a1 :: a2 :: a3 :: a4 :: a5 :: a6 :: body1, t1, [b1, b2, b3, b4, b5, b6], body2, t2, rfl, rfl, rfl, ⟨b6, rfl, ho⟩, ht1, ht2, by simp, fun vs hs hl => ?_⟩
  have hr := rel_many wClose rel_level fuel _ _ hs.symm
  rw [hm2] at hr
  cases hv : many wClose levelP fuel vs with
  | bad r => rw [hv] at hr; exact hr.elim
  | ok bs r =>
    rw [hv] at hr
    obtain ⟨h1, h2⟩ := hr
    have h3 := sans_nil h2
    subst h3
    refine ⟨bs, ?_, (map_of_forall2 h1).symm⟩
    have hl2 : (body1 ++ vs).length < fuel := by simp only [List.length_append, List.length_cons] at hl ⊢; omega
    show hallP (a1 :: a2 :: a3 :: a4 :: a5 :: a6 :: (body1 ++ vs)) = _
    rw [hA]
    unfold andThen
    rw [k1 vs hl2]
    unfold andThen
    rw [hv]
    rfl
end Foyer.Plan

/-! ## The plain mathematics of plans' texts: where their tokens stand, and what is left of them when a text is cut. -/
namespace Foyer.Plan
open Foyer.Lexer

theorem lx_low {a : Nat} {l : List UInt8} {ts : List Tok} {e : Option (Nat × Nat)} (h : Lx a l ts e) : ∀ t ∈ ts, a ≤ t.pos := by
  induction h with
  | nil => simp
  | bad => simp
  | good a g T rest k v ts e h hT hr ih =>
    intro t ht
    rcases List.mem_cons.1 ht with rfl | ht
    · exact Nat.le_add_right _ _
    · have := ih t ht; omega
theorem lx_cut : ∀ {pre us : List Tok} {t : Tok} {a : Nat} {l : List UInt8} {e : Option (Nat × Nat)}, Lx a l (pre ++ t :: us) e →
    Lx a (l.take (t.pos - a)) pre none ∧ Lx a (l.take (t.pos + t.text.length - a)) (pre ++ [t]) none ∧ Lx (t.pos + t.text.length) (l.drop (t.pos + t.text.length - a)) us e
  | [], us, t, a, l, e, h => by
    rw [List.nil_append] at h
    cases h with
    | good _ g T rest k v _ _ hg hT hr =>
      have e1 : a + g.length - a = g.length := by omega
      have e2 : a + g.length + T.length - a = g.length + (T.length + 0) := by omega
      have e3 : g.length + (T.length + 0) = g.length + T.length := by omega
      refine ⟨?_, ?_, ?_⟩
      · show Lx a ((g ++ (T ++ rest)).take (a + g.length - a)) [] none
        rw [e1, List.take_left]
        exact Lx.nil a g (by rw [hg]; rfl)
      · show Lx a ((g ++ (T ++ rest)).take (a + g.length + T.length - a)) ([] ++ [⟨k, T, v, a + g.length⟩]) none
        rw [e2, List.take_length_add_append, List.take_length_add_append, List.take_zero]
        exact Lx.good a g T [] k v [] none hg (isTok_next hT (Or.inr (fun b hb => by simp at hb))) (Lx.nil _ _ rfl)
      · show Lx (a + g.length + T.length) ((g ++ (T ++ rest)).drop (a + g.length + T.length - a)) us e
        rw [e2, List.drop_length_add_append, List.drop_length_add_append, List.drop_zero]
        exact hr
  | p :: pre, us, t, a, l, e, h => by
    rw [List.cons_append] at h
    cases h with
    | good _ g T rest k v _ _ hg hT hr =>
      have hlow := lx_low hr t (by simp)
      obtain ⟨h1, h2, h3⟩ := lx_cut hr
      have e1 : t.pos - a = g.length + (T.length + (t.pos - (a + g.length + T.length))) := by omega
      have e2 : t.pos + t.text.length - a = g.length + (T.length + (t.pos + t.text.length - (a + g.length + T.length))) := by omega
      refine ⟨?_, ?_, ?_⟩
      · rw [e1, List.take_length_add_append, List.take_length_add_append]
        exact Lx.good a g T _ k v pre none hg (isTok_next hT (head_take rest _)) h1
      · rw [e2, List.take_length_add_append, List.take_length_add_append]
        exact Lx.good a g T _ k v (pre ++ [t]) none hg (isTok_next hT (head_take rest _)) h2
      · rw [e2, List.drop_length_add_append, List.drop_length_add_append]
        exact h3
/-- What stands at a place of a text. -/
def StandsAt (L : List UInt8) (T : List UInt8) (p : Nat) : Prop := p + T.length ≤ L.length ∧ (L.take (p + T.length)).drop p = T
theorem lx_inc {L : List UInt8} {e : Option (Nat × Nat)} : ∀ {ts : List Tok} {a : Nat}, Lx a (L.drop a) ts e → a ≤ L.length → Inc (StandsAt L) a ts
  | [], _, _, _ => trivial
  | t :: ts, a, h, ha => by
    obtain ⟨h1, h2, h3, h4, _, h6⟩ := place_step h ha
    exact ⟨h1, ⟨h3, h4⟩, (lx_inc h6 h3).mono (by omega)⟩
/-- Tokens stand at places that rise. -/
theorem inc_at {S : List UInt8 → Nat → Prop} : ∀ {ts : List Tok} {lo : Nat}, Inc S lo ts → ∀ {i j : Nat} {t u : Tok}, ts[i]? = some t → ts[j]? = some u → i < j → t.pos < u.pos
  | [], _, _, i, _, _, _, hi, _, _ => by simp at hi
  | x :: ts, lo, ⟨_, _, h⟩, i, j, t, u, hi, hj, hij => by
    obtain ⟨j, rfl⟩ : ∃ q, j = q + 1 := ⟨j - 1, by omega⟩
    have hj' : ts[j]? = some u := by simpa using hj
    cases i with
    | zero =>
      simp only [List.getElem?_cons_zero, Option.some.injEq] at hi
      subst hi
      have key : ∀ {ts : List Tok} {lo : Nat}, Inc S lo ts → ∀ {j : Nat} {u : Tok}, ts[j]? = some u → lo ≤ u.pos := by
        intro ts
        induction ts with
        | nil => intro _ _ j u h; simp at h
        | cons y ts ih =>
          intro lo h j u hj
          cases j with
          | zero => simp only [List.getElem?_cons_zero, Option.some.injEq] at hj; subst hj; exact h.1
          | succ j => have h1 := ih h.2.2 (j := j) (by simpa using hj); have h2 := h.1; omega
      exact key h hj'
    | succ i => exact inc_at h (by simpa using hi) hj' (by omega)
theorem inc_uniq {S : List UInt8 → Nat → Prop} {ts : List Tok} {lo : Nat} (h : Inc S lo ts) {i j : Nat} {t u : Tok} (hi : ts[i]? = some t) (hj : ts[j]? = some u) (hp : t.pos = u.pos) : i = j := by
  rcases Nat.lt_trichotomy i j with hl | hl | hl
  · have := inc_at h hi hj hl; omega
  · exact hl
  · have := inc_at h hj hi hl; omega

/-! ### P6.3 -/
theorem bytes_count {l : List UInt8} {ts : List Tok} {e : Option (Nat × Nat)} (h : Lx 0 l ts e) (hl : l.length ≤ 5000) : ts.length ≤ 5000 := Nat.le_trans (lx_count h) hl
/-- The error of a text whose tokens end with a token that fits nowhere. -/
theorem first_error {l : List UInt8} (hl : l.length ≤ 2000) {x : HallP} {O : Int} (h : parseAll l = (x, 4, O)) :
    ∃ pre t us, Lx 0 l (pre ++ t :: us) none ∧ lexAll l = (pre ++ t :: us, 0, 0) ∧ O = (t.pos : Int) ∧ t.pos + t.text.length ≤ l.length ∧
      ((parseAll (l.take t.pos)).2.1 = 0 ∨ ((parseAll (l.take t.pos)).2.1 = 7 ∧ (parseAll (l.take t.pos)).2.2 = (t.pos : Int))) ∧
      ∀ m : List UInt8, m.length ≤ 2000 → (lexAll ((l.take (t.pos + t.text.length) ++ [10]) ++ m)).2.1 = 0 → parseAll ((l.take (t.pos + t.text.length) ++ [10]) ++ m) = (noHall, 4, (t.pos : Int)) := by
  obtain ⟨ts, e, hx⟩ := lx_some 0 l
  cases e with
  | some y =>
    obtain ⟨d, p⟩ := y
    obtain ⟨h1, _, _⟩ := lx_err hx d p rfl
    have hle := lexAll_some (by omega) hx
    unfold parseAll at h
    rw [hle] at h
    simp only at h
    split at h
    · omega
    · simp only [Prod.mk.injEq] at h; omega
  | none =>
    have hle := lexAll_none (by omega) hx
    have h2 := h
    unfold parseAll at h2
    rw [hle, if_pos rfl] at h2
    simp only [Prod.mk.injEq] at h2
    rcases parse_ways ts with ⟨a, _, hp⟩ | ⟨_, hp⟩ | ⟨pre, t, r, rfl, hp, hp2, hpre⟩
    · rw [hp] at h2; simp at h2
    · rw [hp] at h2; simp at h2
    · rw [hp] at h2
      obtain ⟨c1, c2, c3⟩ := lx_cut hx
      rw [Nat.sub_zero] at c1 c2
      have hpl : t.pos + t.text.length ≤ l.length := by
        have hi := lx_inc (L := l) (a := 0) (by simpa using hx) (Nat.zero_le _)
        have key : ∀ {ts : List Tok} {lo : Nat}, Inc (StandsAt l) lo ts → ∀ u ∈ ts, u.pos + u.text.length ≤ l.length := by
          intro ts
          induction ts with
          | nil => intro _ _ u hu; cases hu
          | cons y ts ih =>
            intro lo h u hu
            rcases List.mem_cons.1 hu with rfl | hu
            · exact h.2.1.1
            · exact ih h.2.2 u hu
        exact key hi t (by simp)
      have hlp := lexAll_none (l := l.take t.pos) (by rw [List.length_take]; omega) c1
      refine ⟨pre, t, r, hx, hle, h2.2.2.symm, hpl, ?_, fun m hm hlm => ?_⟩
      · unfold parseAll
        rw [hlp, if_pos rfl]
        rcases hpre with h | ⟨a, h⟩
        · right
          rw [parse_end h]
          refine ⟨rfl, ?_⟩
          show (((l.take t.pos).length : Nat) : Int) = _
          rw [List.length_take]; omega
        · left
          rw [parse_ok h]
      · obtain ⟨us, e, hy⟩ := lx_some 0 m
        have hlen : ((l.take (t.pos + t.text.length) ++ [10]) ++ m).length ≤ 5000 := by simp only [List.length_append, List.length_take, List.length_cons, List.length_nil]; omega
        cases e with
        | some y =>
          obtain ⟨d, p⟩ := y
          obtain ⟨h1, _, _⟩ := lx_err hy d p rfl
          have h3 := lexAll_some hlen (parts_second c2 hy)
          rw [h3] at hlm
          simp only at hlm
          omega
        | none =>
          have h3 := lexAll_none hlen (parts_ok c2 hy)
          unfold parseAll
          rw [h3, if_pos rfl]
          have h4 := hp2 (shift ((l.take (t.pos + t.text.length)).length + 1) us)
          have e5 : (pre ++ [t]) ++ shift ((l.take (t.pos + t.text.length)).length + 1) us = pre ++ t :: shift ((l.take (t.pos + t.text.length)).length + 1) us := by simp
          simp only [e5, h4]
/-! ### P6.4 -/
theorem offsets {l : List UInt8} {x : HallP} {O : Int} (h : parseAll l = (x, 0, O)) : ∃ hi, Chain (LevelAt (StandsAt l)) 0 x.levels hi := by
  obtain ⟨ts, e, hx⟩ := lx_some 0 l
  have hi := lx_inc (L := l) (a := 0) (by simpa using hx) (Nat.zero_le _)
  have hr := lx_raw hx (l.length + 1) (by omega)
  have hlex : lexAll l = (ts, 0, 0) ∨ (lexAll l).2.1 ≠ 0 := by
    unfold lexAll
    split
    · right; simp
    · simp only [hr]
      split
      · right; simp
      · split
        · left; rfl
        · right
          have := (lx_err hx _ _ rfl).1
          simp only; omega
  rcases hlex with hle | hle
  · unfold parseAll at h
    rw [hle, if_pos rfl] at h
    simp only [Prod.mk.injEq] at h
    rcases parse_ways ts with ⟨a, ha, hp⟩ | ⟨_, hp⟩ | ⟨pre, t, r, rfl, hp, _⟩
    · rw [hp] at h
      obtain ⟨q, _, _, hc⟩ := off_hall 0 ts a [] hi ha
      rw [← h.1]
      exact ⟨q, hc⟩
    · rw [hp] at h; simp at h
    · rw [hp] at h; simp at h
  · unfold parseAll at h
    rw [if_neg hle] at h
    simp only [Prod.mk.injEq] at h
    omega
theorem noHall_of {l : List UInt8} {x : HallP} {E : Nat} {O : Int} (h : parseAll l = (x, E, O)) (hE : E ≠ 0) : x = noHall := by
  unfold parseAll at h
  split at h
  · simp only [Prod.mk.injEq] at h
    rcases parse_ways (lexAll l).1 with ⟨a, _, hp⟩ | ⟨_, hp⟩ | ⟨pre, t, r, _, hp, _⟩
    · rw [hp] at h; exact absurd h.2.1.symm hE
    · rw [hp] at h; exact h.1.symm
    · rw [hp] at h; exact h.1.symm
  · simp only [Prod.mk.injEq] at h; exact h.1.symm
end Foyer.Plan

/-! ## The law's examples, reckoned. -/
namespace Foyer.Plan
theorem pex1 : parseAll [104, 97, 108, 108, 32, 104, 32, 115, 116, 97, 103, 101, 32, 53, 32, 48, 32, 123, 32, 125] = (⟨[104], 5, 0, []⟩, 0, 0) := by decide +kernel
theorem pex2 : parseAll [104, 97, 108, 108, 32, 104, 32, 115, 116, 97, 103, 101, 32, 53, 32, 48, 32, 123, 32, 108, 101, 118, 101, 108, 32, 97, 32, 104, 101, 105, 103, 104, 116, 32, 50, 32, 123, 32, 100, 111, 111, 114, 32, 49, 32, 50, 59, 32, 97, 105, 115, 108, 101, 32, 48, 32, 48, 32, 51, 32, 52, 59, 32, 125, 32, 125] = (⟨[104], 5, 0, [⟨[97], 2, [], [], [⟨0, 0, 3, 4⟩], [], [(1, 2)], 19⟩]⟩, 0, 0) := by decide +kernel
theorem pex3 : parseAll [104, 97, 108, 108, 32, 104, 32, 115, 116, 97, 103, 101, 32, 53, 32, 123, 32, 125] = (noHall, 4, 15) := by decide +kernel
theorem pex4 : parseAll [104, 97, 108, 108, 32, 104, 32, 115, 116, 97, 103, 101, 32, 53, 32, 48, 32, 123, 32, 108, 101, 118, 101, 108] = (noHall, 7, 24) := by decide +kernel
theorem pex5 : parseAll [104, 97, 108, 108, 32, 104, 32, 115, 116, 97, 103, 101, 32, 53, 32, 48, 32, 123, 32, 125, 32, 120] = (noHall, 4, 21) := by decide +kernel
theorem pex6 : parseAll [104, 97, 108, 108, 32, 104, 32, 115, 116, 97, 103, 101, 32, 53, 32, 48, 32, 123, 32, 108, 101, 118, 101, 108, 32, 97, 32, 104, 101, 105, 103, 104, 116, 32, 50, 32, 123, 32, 98, 108, 111, 99, 107, 32, 98, 32, 123, 32, 114, 111, 119, 32, 114, 32, 97, 116, 32, 55, 32, 56, 32, 115, 101, 97, 116, 115, 32, 49, 32, 116, 111, 32, 53, 32, 115, 116, 101, 112, 32, 50, 32, 119, 104, 101, 101, 108, 32, 49, 32, 98, 101, 115, 105, 100, 101, 32, 50, 32, 111, 102, 32, 49, 32, 103, 97, 112, 32, 52, 59, 32, 125, 32, 97, 114, 101, 97, 32, 115, 32, 49, 32, 50, 32, 51, 32, 52, 32, 104, 111, 108, 100, 115, 32, 57, 59, 32, 125, 32, 125] = (⟨[104], 5, 0, [⟨[97], 2, [⟨[98], [⟨[114], 7, 8, 1, 5, 2, [⟨2, 1, 0⟩, ⟨4, 2, 1⟩, ⟨1, 4, 0⟩], 48⟩], 38⟩], [⟨[115], ⟨1, 2, 3, 4⟩, 9, 112⟩], [], [], [], 19⟩]⟩, 0, 0) := by decide +kernel
end Foyer.Plan
