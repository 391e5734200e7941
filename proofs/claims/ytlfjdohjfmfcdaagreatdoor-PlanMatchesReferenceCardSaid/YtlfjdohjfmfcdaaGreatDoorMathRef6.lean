/-
  The document's own reader of plans, as functions of a state; it reads what the parser reads. No program is spoken of here.
-/
import Derived.Test.YtlfjdohjfmfcdaaGreatDoorMathPlan
namespace Foyer.Plan
open Foyer.Lexer

/-- The tokens that are left, the first error and its place. -/
structure St where
  left : List Tok
  err : Nat
  pos : Nat
def noTok : Tok := ⟨0, [], 0, 0⟩
def rFail (N : Nat) (s : St) : St := if s.err ≠ 0 then s else ⟨s.left, (failAt N s.left).1, (failAt N s.left).2⟩
def rSees (s : St) (x : List UInt8) : Bool :=
  decide (s.err = 0) && match s.left with
  | [] => false
  | t :: _ => decide (t.kind ≠ 2) && decide (t.text = x)
def rHas (s : St) (k : Nat) : Bool :=
  decide (s.err = 0) && match s.left with
  | [] => false
  | t :: _ => decide (t.kind = k)
def rNext (s : St) : St := ⟨s.left.tail, s.err, s.pos⟩
def rMust (N : Nat) (s : St) (x : List UInt8) : St := if rSees s x = true then rNext s else rFail N s
def rTok (N : Nat) (s : St) (k : Nat) : Tok × St := if rHas s k = true then (s.left.headD noTok, rNext s) else (noTok, rFail N s)
def rAt (N : Nat) (s : St) : Nat :=
  match s.left with
  | [] => N
  | t :: _ => t.pos
def bindS {α β : Type} (m : St → α × St) (f : α → St → β × St) : St → β × St := fun s => f (m s).1 (m s).2
def retS {α : Type} (a : α) : St → α × St := fun s => (a, s)
def mustS (N : Nat) (x : List UInt8) : St → Nat × St := fun s => (rAt N s, rMust N s x)
def nameS (N : Nat) : St → List UInt8 × St := fun s => ((rTok N s 1).1.text, (rTok N s 1).2)
def numS (N : Nat) : St → Nat × St := fun s => ((rTok N s 2).1.val, (rTok N s 2).2)
/-- Parts until the closing token. -/
def rMany {α : Type} (c : List UInt8) (q : St → List α × St) : Nat → List α → St → List α × St
  | 0, l, s => (l, s)
  | f + 1, l, s => if s.err = 0 ∧ rSees s c = false then rMany c q f (l ++ (q s).1) (q s).2 else (l, s)
def manyS {α : Type} (N : Nat) (c : List UInt8) (q : St → List α × St) : St → List α × St :=
  fun s => ((rMany c q (s.left.length + 1) [] s).1, rMust N (rMany c q (s.left.length + 1) [] s).2 c)
/-- The last one of the first words that comes next, counted from one. -/
def upTo (ws : List (List UInt8)) (s : St) : Nat → Nat
  | 0 => 0
  | i + 1 => if rSees s (ws.getD i []) = true then i + 1 else upTo ws s i
def markWords : List (List UInt8) := [wGap, wWheel, wHidden, wBeside]
def markS (N : Nat) : St → List MarkP × St := fun s =>
  if upTo markWords s 4 = 0 then ([], rFail N s)
  else
    bindS (numS N) (fun a => if upTo markWords s 4 = 4 then bindS (mustS N wOf) (fun _ => bindS (numS N) fun o => retS [⟨4, a, o⟩]) else retS [⟨upTo markWords s 4, a, 0⟩]) (rNext s)
def boxS (N : Nat) : St → BoxP × St := bindS (numS N) fun x => bindS (numS N) fun y => bindS (numS N) fun x2 => bindS (numS N) fun y2 => retS ⟨x, y, x2, y2⟩
def rowS (N : Nat) : St → RowP × St :=
  bindS (mustS N wRow) fun at_ => bindS (nameS N) fun n => bindS (mustS N wAt) fun _ => bindS (numS N) fun x => bindS (numS N) fun y => bindS (mustS N wSeats) fun _ => bindS (numS N) fun a =>
    bindS (mustS N wTo) fun _ => bindS (numS N) fun b => bindS (mustS N wStep) fun _ => bindS (numS N) fun st => bindS (manyS N wSemi (markS N)) fun ms => retS ⟨n, x, y, a, b, st, ms, at_⟩
def blockS (N at_ : Nat) : St → BlockP × St := bindS (nameS N) fun n => bindS (mustS N wOpen) fun _ => bindS (manyS N wClose fun s => ([(rowS N s).1], (rowS N s).2)) fun rs => retS ⟨n, rs, at_⟩
def areaS (N at_ : Nat) : St → AreaP × St := bindS (nameS N) fun n => bindS (boxS N) fun b => bindS (mustS N wHolds) fun _ => bindS (numS N) fun h => bindS (mustS N wSemi) fun _ => retS ⟨n, b, h, at_⟩
def pointS (N : Nat) : St → (Nat × Nat) × St := bindS (numS N) fun x => bindS (numS N) fun y => retS (x, y)
def sortS (s : St) : Nat := if rSees s wBlock = true then 1 else if rSees s wArea = true then 2 else if rSees s wAisle = true then 3 else if rSees s wPillar = true then 4 else if rSees s wDoor = true then 5 else 0
def restS (N k at_ : Nat) : St → ItemP × St :=
  if k = 1 then bindS (blockS N at_) fun b => retS (.block b)
  else if k = 2 then bindS (areaS N at_) fun b => retS (.area b)
  else if k = 3 then bindS (boxS N) fun b => bindS (mustS N wSemi) fun _ => retS (.aisle b)
  else if k = 4 then bindS (boxS N) fun b => bindS (mustS N wSemi) fun _ => retS (.pillar b)
  else bindS (pointS N) fun b => bindS (mustS N wSemi) fun _ => retS (.door b)
def itemS (N : Nat) : St → List ItemP × St := fun s => if sortS s = 0 then ([], rFail N s) else ([(restS N (sortS s) (rAt N s) (rNext s)).1], (restS N (sortS s) (rAt N s) (rNext s)).2)
def levelS (N : Nat) : St → LevelP × St :=
  bindS (mustS N wLevel) fun at_ => bindS (nameS N) fun n => bindS (mustS N wHeight) fun _ => bindS (numS N) fun h => bindS (mustS N wOpen) fun _ => bindS (manyS N wClose (itemS N)) fun is => retS (levelOf n h is at_)
def hallS (N : Nat) : St → HallP × St :=
  bindS (mustS N wHall) fun _ => bindS (nameS N) fun n => bindS (mustS N wStage) fun _ => bindS (numS N) fun x => bindS (numS N) fun y => bindS (mustS N wOpen) fun _ => bindS (manyS N wClose fun s => ([(levelS N s).1], (levelS N s).2)) fun ls => retS ⟨n, x, y, ls⟩

/-! ### Tokens whose kinds their first bytes tell -/
def cl (c : UInt8) : Nat := if isLetter c then 1 else if isDigit c then 2 else 3
def SaneK (t : Tok) : Prop := ∃ c r, t.text = c :: r ∧ t.kind = cl c
theorem cl_three : ∀ c : UInt8, cl c = 1 ∨ cl c = 2 ∨ cl c = 3 := all_bytes (by decide +kernel)
theorem cl_sym : ∀ c : UInt8, isSym c = true → cl c = 3 := all_bytes (by decide +kernel)
theorem cl_cmp : ∀ c : UInt8, isCmp c = true → cl c = 3 := all_bytes (by decide +kernel)
theorem cl_digit : ∀ c : UInt8, isDigit c = true → cl c = 2 := all_bytes (by decide +kernel)
theorem isTok_saneK {k v a : Nat} {T : List UInt8} {nx : Option UInt8} (h : IsTok k T v nx) : SaneK ⟨k, T, v, a⟩ := by
  rcases h with ⟨rfl, _, _, ⟨c, r, rfl, h⟩, _⟩ | ⟨rfl, _, h, _, hd, _⟩ | ⟨rfl, _, c, rfl, h⟩ | ⟨rfl, _, c, rfl, h, _⟩ | ⟨rfl, _, c, rfl, h⟩
  · exact ⟨c, r, rfl, by unfold cl; rw [if_pos h]⟩
  · cases T with
    | nil => simp at h
    | cons c r => exact ⟨c, r, rfl, (cl_digit c (hd c List.mem_cons_self)).symm⟩
  · exact ⟨c, [], rfl, (cl_sym c h).symm⟩
  · exact ⟨c, [], rfl, (cl_cmp c h).symm⟩
  · exact ⟨c, [61], rfl, (cl_cmp c h).symm⟩
theorem lx_saneK {a : Nat} {l : List UInt8} {ts : List Tok} {e : Option (Nat × Nat)} (h : Lx a l ts e) : ∀ t ∈ ts, SaneK t := by
  induction h with
  | nil => simp
  | bad => simp
  | good a g T rest k v ts e hg hT hr ih =>
    intro t ht
    rcases List.mem_cons.1 ht with rfl | ht
    · exact isTok_saneK hT
    · exact ih t ht
theorem lexAll_saneK (l : List UInt8) : ∀ t ∈ (lexAll l).1, SaneK t := by
  obtain ⟨ts, e, h⟩ := lx_some 0 l
  have hr := lx_raw h (l.length + 1) (by omega)
  unfold lexAll
  split
  · simp
  · simp only [hr]
    split
    · simp
    · split
      · exact lx_saneK h
      · simp

/-! ### The reader reads what the parser reads -/
def Fit {α : Type} (N : Nat) (p : Par α) (s : St) (a : α) (s' : St) : Prop :=
  s'.left <:+ s.left ∧ (s.err ≠ 0 → s'.err = s.err ∧ s'.pos = s.pos) ∧
  (s.err = 0 → match p s.left with
    | .ok a0 r => a = a0 ∧ s'.err = 0 ∧ s'.left = r
    | .bad r => s'.err ≠ 0 ∧ s'.err = (failAt N r).1 ∧ s'.pos = (failAt N r).2)
def SaneS (s : St) : Prop := (∀ t ∈ s.left, SaneK t) ∧ s.left.length ≤ 5000
/-- A piece of the reader that reads what a piece of the parser reads. -/
def FitM {α : Type} (N : Nat) (p : Par α) (m : St → α × St) : Prop := ∀ s, SaneS s → Fit N p s (m s).1 (m s).2
section
variable {α β : Type} {N : Nat}
theorem SaneS.suf {s s' : St} (h : SaneS s) (k : s'.left <:+ s.left) : SaneS s' := ⟨fun t ht => h.1 t (k.subset ht), Nat.le_trans k.length_le h.2⟩
theorem failAt_ne (l : List Tok) : (failAt N l).1 ≠ 0 := by
  cases l with
  | nil => exact (by decide : (7 : Nat) ≠ 0)
  | cons t r => exact (by decide : (4 : Nat) ≠ 0)
theorem rFail_bad (s : St) : (rFail N s).err ≠ 0 := by
  unfold rFail
  split
  · assumption
  · exact failAt_ne _
theorem rFail_fit {p : Par α} {s : St} {a : α} (hp : s.err = 0 → p s.left = .bad s.left) : Fit N p s a (rFail N s) := by
  unfold rFail
  by_cases h : s.err = 0
  · rw [if_neg (fun k => k h)]
    refine ⟨List.suffix_refl _, fun k => absurd h k, fun _ => ?_⟩
    rw [hp h]
    exact ⟨failAt_ne _, rfl, rfl⟩
  · rw [if_pos h]
    exact ⟨List.suffix_refl _, fun _ => ⟨rfl, rfl⟩, fun k => absurd k h⟩
theorem Fit.bind {p : Par α} {f : α → Par β} {s s1 s2 : St} {a : α} {b : β} (h : Fit N p s a s1) (k : Fit N (f a) s1 b s2) : Fit N (andThen p f) s b s2 := by
  obtain ⟨h1, h2, h3⟩ := h
  obtain ⟨k1, k2, k3⟩ := k
  refine ⟨k1.trans h1, fun hs => ?_, fun hs => ?_⟩
  · obtain ⟨e1, e2⟩ := h2 hs
    obtain ⟨e3, e4⟩ := k2 (by rw [e1]; exact hs)
    exact ⟨e3.trans e1, e4.trans e2⟩
  · have h3 := h3 hs
    cases hp : p s.left with
    | ok a0 r =>
      rw [hp] at h3
      obtain ⟨rfl, e1, e2⟩ := h3
      have k3 := k3 e1
      rw [e2] at k3
      rw [then_of hp]
      exact k3
    | bad r =>
      rw [hp] at h3
      obtain ⟨e0, e1, e2⟩ := h3
      rw [then_bad hp]
      obtain ⟨e3, e4⟩ := k2 e0
      exact ⟨by rw [e3]; exact e0, e3.trans e1, e4.trans e2⟩
theorem FitM.ret (a : α) : FitM N (give a) (retS a) := fun _ _ => ⟨List.suffix_refl _, fun _ => ⟨rfl, rfl⟩, fun h => ⟨rfl, h, rfl⟩⟩
theorem FitM.bind {p : Par α} {f : α → Par β} {m : St → α × St} {g : α → St → β × St} (h : FitM N p m) (k : ∀ a, FitM N (f a) (g a)) : FitM N (andThen p f) (bindS m g) := fun s hs =>
  (h s hs).bind (k _ _ (hs.suf (h s hs).1))
theorem next_suf (s : St) : (rNext s).left <:+ s.left := List.tail_suffix _
theorem sees_true {s : St} {x : List UInt8} (h : rSees s x = true) : s.err = 0 ∧ ∃ t r, s.left = t :: r ∧ t.text = x := by
  unfold rSees at h
  cases hl : s.left with
  | nil => rw [hl] at h; simp at h
  | cons t r =>
    rw [hl] at h
    simp only [Bool.and_eq_true, decide_eq_true_eq] at h
    exact ⟨h.1, t, r, rfl, h.2.2⟩
/-- A word or symbol, which no number is. -/
def NoNum (x : List UInt8) : Prop := ∃ c r, x = c :: r ∧ cl c ≠ 2
theorem sees_of {s : St} {x : List UInt8} {t : Tok} {r : List Tok} (hx : NoNum x) (hs : SaneS s) (h0 : s.err = 0) (hl : s.left = t :: r) (ht : t.text = x) : rSees s x = true := by
  obtain ⟨c, q, rfl, hc⟩ := hx
  obtain ⟨c', q', e1, e2⟩ := hs.1 t (by rw [hl]; exact List.mem_cons_self)
  rw [ht] at e1
  cases e1
  unfold rSees
  rw [hl]
  simp only [Bool.and_eq_true, decide_eq_true_eq]
  exact ⟨h0, by rw [e2]; exact hc, ht⟩
theorem next_fit {s : St} {q : Tok → Bool} {t : Tok} {r : List Tok} (h0 : s.err = 0) (hl : s.left = t :: r) (hq : q t = true) : Fit N (takeP q) s t (rNext s) := by
  refine ⟨next_suf s, fun e => absurd h0 e, fun _ => ?_⟩
  rw [hl, takeP_pos hq]
  exact ⟨rfl, h0, by simp [rNext, hl]⟩
theorem bad_fit {s : St} {q : Tok → Bool} {a : Tok} (h : s.err = 0 → ∀ t r, s.left = t :: r → q t = false) : Fit N (takeP q) s a (rFail N s) := by
  refine rFail_fit fun h0 => ?_
  cases hl : s.left with
  | nil => rfl
  | cons t r => exact takeP_neg (by rw [h h0 t r hl]; simp)
theorem must_m {x : List UInt8} (hx : NoNum x) : FitM N (word x) (mustS N x) := fun s hs => by
  unfold mustS rMust word
  dsimp only
  by_cases h : rSees s x = true
  · rw [if_pos h]
    obtain ⟨h0, t, r, hl, ht⟩ := sees_true h
    have e : rAt N s = t.pos := by unfold rAt; rw [hl]
    rw [e]
    exact (next_fit h0 hl (decide_eq_true ht)).bind (FitM.ret _ _ (hs.suf (next_suf s)))
  · rw [if_neg h]
    have hb := bad_fit (N := N) (s := s) (q := fun t => decide (t.text = x)) (a := noTok) fun h0 t r hl => by
      cases hd : decide (t.text = x) with
      | false => rfl
      | true => exact absurd (sees_of hx hs h0 hl (of_decide_eq_true hd)) h
    obtain ⟨h1, h2, h3⟩ := hb
    refine ⟨h1, h2, fun h0 => ?_⟩
    have h3 := h3 h0
    cases hp : takeP (fun t => decide (t.text = x)) s.left with
    | ok a0 r => rw [hp] at h3; exact absurd h3.2.1 (rFail_bad s)
    | bad r => rw [hp] at h3; rw [then_bad hp]; exact h3
theorem tok_m (k : Nat) : FitM N (takeP fun t => decide (t.kind = k)) fun s => rTok N s k := fun s _ => by
  dsimp only
  unfold rTok
  by_cases h : rHas s k = true
  · rw [if_pos h]
    unfold rHas at h
    cases hl : s.left with
    | nil => rw [hl] at h; simp at h
    | cons t r =>
      rw [hl] at h
      simp only [Bool.and_eq_true, decide_eq_true_eq] at h
      exact next_fit h.1 hl (decide_eq_true h.2)
  · rw [if_neg h]
    refine bad_fit fun h0 t r hl => ?_
    cases hd : decide (t.kind = k) with
    | false => rfl
    | true =>
      refine absurd ?_ h
      unfold rHas
      rw [hl]
      simp only [Bool.and_eq_true, decide_eq_true_eq]
      exact ⟨h0, of_decide_eq_true hd⟩
theorem name_m : FitM N nameP (nameS N) := (tok_m 1).bind fun t => FitM.ret t.text
theorem num_m : FitM N num (numS N) := (tok_m 2).bind fun t => FitM.ret t.val
/-- Behind a piece that fails, anything is read. -/
theorem Fit.stop {p : Par α} {f : α → Par β} {s s1 : St} {a : α} {b : β} (h : Fit N p s a s1) (he : s1.err ≠ 0) : Fit N (andThen p f) s b s1 := by
  obtain ⟨h1, h2, h3⟩ := h
  refine ⟨h1, h2, fun hs => ?_⟩
  have h3 := h3 hs
  cases hp : p s.left with
  | ok a0 r => rw [hp] at h3; exact absurd h3.2.1 he
  | bad r => rw [hp] at h3; rw [then_bad hp]; exact h3
theorem must_bad {s : St} {x : List UInt8} (h : s.err ≠ 0) : rMust N s x = s := by
  unfold rMust rSees rFail
  rw [if_neg (by simp [h]), if_pos h]
theorem many_err {c : List UInt8} {q : St → List α × St} {s : St} (h : s.err ≠ 0) (l : List α) : ∀ f, rMany c q f l s = (l, s)
  | 0 => rfl
  | f + 1 => by unfold rMany; rw [if_neg (fun k => h k.1)]
theorem many_end {c : List UInt8} {q : St → List α × St} {s : St} (h : rSees s c = true) (l : List α) : ∀ f, rMany c q f l s = (l, s)
  | 0 => rfl
  | f + 1 => by unfold rMany; rw [if_neg (fun k => by rw [h] at k; cases k.2)]
theorem many_step {c : List UInt8} {q : St → List α × St} {s s1 : St} {a : List α} (h0 : s.err = 0) (h : rSees s c = false) (hq : q s = (a, s1)) (f : Nat) (l : List α) : rMany c q (f + 1) l s = rMany c q f (l ++ a) s1 := by
  rw [rMany, if_pos ⟨h0, h⟩, hq]
theorem many_fit {c : List UInt8} (hc : NoNum c) {p : Par α} (he : Eats p) {q : St → List α × St} (hq : FitM N (andThen p fun a => give [a]) q) : ∀ (f n : Nat) (l : List α) (s : St), (s.err = 0 → s.left.length + 1 ≤ f) → (s.err = 0 → s.left.length < n) → SaneS s →
    Fit N (andThen (many c p n) fun as => give (l ++ as)) s (rMany c q f l s).1 (rMust N (rMany c q f l s).2 c)
  | f, n, l, s, hf, hn, hs => by
    by_cases h0 : s.err = 0
    · have hf := hf h0
      have hn := hn h0
      obtain ⟨n, rfl⟩ : ∃ m, n = m + 1 := ⟨n - 1, by omega⟩
      cases hk : rSees s c with
      | true =>
        rw [many_end hk]
        have hm : rMust N s c = rNext s := by unfold rMust; rw [if_pos hk]
        obtain ⟨_, t, r, hl, ht⟩ := sees_true hk
        dsimp only
        rw [hm]
        refine ⟨next_suf s, fun e => absurd h0 e, fun _ => ?_⟩
        rw [hl, then_of (many_close ht)]
        exact ⟨by simp, h0, by simp [rNext, hl]⟩
      | false =>
        obtain ⟨f, rfl⟩ : ∃ m, f = m + 1 := ⟨f - 1, by omega⟩
        obtain ⟨⟨a, s1⟩, hqs⟩ : ∃ z, q s = z := ⟨_, rfl⟩
        have h1 := hq s hs
        rw [hqs] at h1
        dsimp only at h1
        rw [many_step h0 hk hqs]
        have hgo : many c p (n + 1) s.left = andThen p (fun a => andThen (many c p n) fun as => give (a :: as)) s.left := many_go fun t r hl ht => by
          rw [sees_of hc hs h0 hl ht] at hk; cases hk
        have hrw : (andThen (many c p (n + 1)) fun as => Foyer.Plan.give (l ++ as)) s.left = (andThen (andThen p fun a => Foyer.Plan.give [a]) fun b => andThen (many c p n) fun as => Foyer.Plan.give ((l ++ b) ++ as)) s.left := by
          unfold andThen at hgo ⊢
          rw [hgo]
          cases p s.left with
          | bad r => rfl
          | ok x r =>
            simp only [Foyer.Plan.give]
            cases many c p n r with
            | bad z => rfl
            | ok xs z => simp
        by_cases he1 : s1.err = 0
        · have hlt : s1.left.length < s.left.length := by
            obtain ⟨_, _, h3⟩ := h1
            have h3 := h3 h0
            cases hp : p s.left with
            | bad r => rw [then_bad hp] at h3; exact absurd he1 h3.1
            | ok x r =>
              rw [then_of hp] at h3
              have := he _ _ _ hp
              obtain ⟨_, _, h5⟩ := h3
              rw [h5]; exact this
          have ih := many_fit hc he hq f n (l ++ a) s1 (fun _ => by omega) (fun _ => by omega) (hs.suf h1.1)
          have hb := h1.bind (f := fun b => andThen (many c p n) fun as => Foyer.Plan.give ((l ++ b) ++ as)) ih
          obtain ⟨g1, g2, g3⟩ := hb
          refine ⟨g1, g2, fun h => ?_⟩
          rw [hrw]
          exact g3 h
        · rw [many_err he1]
          dsimp only
          rw [must_bad he1]
          have hb := Fit.stop (f := fun b => andThen (many c p n) fun as => Foyer.Plan.give ((l ++ b) ++ as)) (b := l ++ a) h1 he1
          obtain ⟨g1, g2, g3⟩ := hb
          refine ⟨g1, g2, fun h => ?_⟩
          rw [hrw]
          exact g3 h
    · rw [many_err h0]
      dsimp only
      rw [must_bad h0]
      exact ⟨List.suffix_refl _, fun _ => ⟨rfl, rfl⟩, fun k => absurd k h0⟩
  termination_by f => f
theorem many_m {c : List UInt8} (hc : NoNum c) {p : Par α} (he : Eats p) {q : St → List α × St} (hq : FitM N (andThen p fun a => give [a]) q) : FitM N (many c p fuel) (manyS N c q) := fun s hs => by
  have h := many_fit (N := N) hc he hq (s.left.length + 1) fuel [] s (fun _ => Nat.le_refl _) (fun _ => by have := hs.2; unfold fuel; omega) hs
  unfold manyS
  obtain ⟨h1, h2, h3⟩ := h
  refine ⟨h1, h2, fun h0 => ?_⟩
  have h3 := h3 h0
  have e : (andThen (many c p fuel) fun as => Foyer.Plan.give ([] ++ as)) s.left = many c p fuel s.left := by
    unfold andThen
    cases many c p fuel s.left <;> rfl
  rw [e] at h3
  exact h3
/-- One part, as a list. -/
theorem one_m {p : Par α} {m : St → α × St} (h : FitM N p m) : FitM N (andThen p fun a => give [a]) (fun s => ([(m s).1], (m s).2)) := FitM.bind h fun a => FitM.ret [a]
theorem upTo_at (ws : List (List UInt8)) (s : St) : ∀ n, upTo ws s n = 0 ∨ ∃ i, i < n ∧ upTo ws s n = i + 1 ∧ rSees s (ws.getD i []) = true
  | 0 => Or.inl rfl
  | n + 1 => by
    unfold upTo
    split
    · rename_i h; exact Or.inr ⟨n, by omega, rfl, h⟩
    · rcases upTo_at ws s n with h | ⟨i, h1, h2, h3⟩
      · exact Or.inl h
      · exact Or.inr ⟨i, by omega, h2, h3⟩
theorem upTo_none {ws : List (List UInt8)} {s : St} : ∀ {n}, upTo ws s n = 0 → ∀ i, i < n → rSees s (ws.getD i []) = false
  | 0, _, i, hi => by omega
  | n + 1, h, i, hi => by
    unfold upTo at h
    split at h
    · cases h
    · rename_i h2
      by_cases e : i = n
      · subst e; simpa using h2
      · exact upTo_none h i (by omega)
theorem markWord_code : ∀ i, i < 4 → markKind (markWords.getD i []) = i + 1 := by decide
theorem markWord_cl : ∀ i, i < 4 → ∀ c, (markWords.getD i []).head? = some c → cl c ≠ 2 := by decide
theorem markKind_word {x : List UInt8} (h : markKind x ≠ 0) : ∃ i, i < 4 ∧ markWords.getD i [] = x := by
  unfold markKind at h
  by_cases h1 : x = wGap
  · exact ⟨0, by decide, h1.symm⟩
  by_cases h2 : x = wWheel
  · exact ⟨1, by decide, h2.symm⟩
  by_cases h3 : x = wHidden
  · exact ⟨2, by decide, h3.symm⟩
  by_cases h4 : x = wBeside
  · exact ⟨3, by decide, h4.symm⟩
  · rw [if_neg h1, if_neg h2, if_neg h3, if_neg h4] at h
    exact absurd rfl h
theorem mark_pick {s : St} (hs : SaneS s) : (upTo markWords s 4 ≠ 0 → s.err = 0 ∧ ∃ t r, s.left = t :: r ∧ markKind t.text = upTo markWords s 4) ∧ (upTo markWords s 4 = 0 → s.err = 0 → ∀ t r, s.left = t :: r → markKind t.text = 0) := by
  refine ⟨fun h => ?_, fun h h0 t r hl => ?_⟩
  · rcases upTo_at markWords s 4 with e | ⟨i, h1, h2, h3⟩
    · exact absurd e h
    · obtain ⟨h0, t, r, hl, ht⟩ := sees_true h3
      exact ⟨h0, t, r, hl, by rw [ht, markWord_code i h1, h2]⟩
  · by_cases hf : markKind t.text = 0
    · exact hf
    · exfalso
      obtain ⟨i, hi, hx⟩ := markKind_word hf
      obtain ⟨c, q, e1, e2⟩ := hs.1 t (by rw [hl]; exact List.mem_cons_self)
      have h3 := upTo_none h i hi
      rw [sees_of ⟨c, q, hx.trans e1, markWord_cl i hi c (by rw [hx, e1]; rfl)⟩ hs h0 hl hx.symm] at h3
      cases h3
theorem mark_m : FitM N (andThen markP fun a => give [a]) (markS N) := fun s hs => by
  unfold markS markP
  obtain ⟨g1, g2⟩ := mark_pick hs
  by_cases h : upTo markWords s 4 = 0
  · rw [if_pos h]
    refine Fit.stop (a := ⟨0, 0, 0⟩) (Fit.stop (a := noTok) (bad_fit fun h0 t r hl => ?_) (rFail_bad s)) (rFail_bad s)
    rw [g2 h h0 t r hl]; rfl
  · rw [if_neg h]
    obtain ⟨h0, t, r, hl, ht⟩ := g1 h
    obtain ⟨k, hk⟩ : ∃ k, upTo markWords s 4 = k := ⟨_, rfl⟩
    rw [hk] at h ht ⊢
    have hn := next_fit (N := N) (q := fun t => decide (markKind t.text ≠ 0)) h0 hl (decide_eq_true (by rw [ht]; exact h))
    have e : (andThen (andThen (takeP fun t => decide (markKind t.text ≠ 0)) fun t => andThen num fun s => if markKind t.text = 4 then andThen (word wOf) fun _ => andThen num fun o => Foyer.Plan.give (⟨4, s, o⟩ : MarkP) else Foyer.Plan.give ⟨markKind t.text, s, 0⟩) fun a => Foyer.Plan.give [a]) =
        andThen (takeP fun t => decide (markKind t.text ≠ 0)) fun t => andThen num fun s => if markKind t.text = 4 then andThen (word wOf) fun _ => andThen num fun o => Foyer.Plan.give [(⟨4, s, o⟩ : MarkP)] else Foyer.Plan.give [⟨markKind t.text, s, 0⟩] := by
      funext ts
      unfold andThen
      cases takeP (fun t => decide (markKind t.text ≠ 0)) ts with
      | bad r => rfl
      | ok t r =>
        dsimp only
        cases num r with
        | bad r => rfl
        | ok x r =>
          dsimp only
          by_cases h4 : markKind t.text = 4
          · rw [if_pos h4, if_pos h4]
            cases word wOf r with
            | bad r => rfl
            | ok y r =>
              dsimp only
              cases num r <;> rfl
          · rw [if_neg h4, if_neg h4]; rfl
    rw [e]
    refine hn.bind ?_
    rw [ht]
    refine FitM.bind num_m (fun a => ?_) _ (hs.suf (next_suf s))
    by_cases h4 : k = 4
    · rw [if_pos h4, if_pos h4]
      exact (must_m ⟨111, _, rfl, by decide⟩).bind fun _ => num_m.bind fun o => FitM.ret _
    · rw [if_neg h4, if_neg h4]
      exact FitM.ret _
theorem box_m : FitM N boxP (boxS N) := num_m.bind fun _ => num_m.bind fun _ => num_m.bind fun _ => num_m.bind fun _ => FitM.ret _
theorem point_m : FitM N pointP (pointS N) := num_m.bind fun _ => num_m.bind fun _ => FitM.ret _
theorem row_m : FitM N rowP (rowS N) :=
  (must_m ⟨114, _, rfl, by decide⟩).bind fun _ => name_m.bind fun _ => (must_m ⟨97, _, rfl, by decide⟩).bind fun _ => num_m.bind fun _ => num_m.bind fun _ => (must_m ⟨115, _, rfl, by decide⟩).bind fun _ => num_m.bind fun _ =>
    (must_m ⟨116, _, rfl, by decide⟩).bind fun _ => num_m.bind fun _ => (must_m ⟨115, _, rfl, by decide⟩).bind fun _ => num_m.bind fun _ => (many_m ⟨59, _, rfl, by decide⟩ eats_mark mark_m).bind fun _ => FitM.ret _
theorem block_m (a : Nat) : FitM N (blockP a) (blockS N a) :=
  name_m.bind fun _ => (must_m ⟨123, _, rfl, by decide⟩).bind fun _ => (many_m ⟨125, _, rfl, by decide⟩ eats_row (one_m row_m)).bind fun _ => FitM.ret _
theorem area_m (a : Nat) : FitM N (areaP a) (areaS N a) :=
  name_m.bind fun _ => box_m.bind fun _ => (must_m ⟨104, _, rfl, by decide⟩).bind fun _ => num_m.bind fun _ => (must_m ⟨59, _, rfl, by decide⟩).bind fun _ => FitM.ret _
theorem semi_no : NoNum wSemi := ⟨59, _, rfl, by decide⟩
theorem rest_m (k a : Nat) : FitM N (itemRest k a) (restS N k a) := by
  unfold itemRest restS
  by_cases h1 : k = 1
  · rw [if_pos h1, if_pos h1]; exact (block_m a).bind fun _ => FitM.ret _
  rw [if_neg h1, if_neg h1]
  by_cases h2 : k = 2
  · rw [if_pos h2, if_pos h2]; exact (area_m a).bind fun _ => FitM.ret _
  rw [if_neg h2, if_neg h2]
  by_cases h3 : k = 3
  · rw [if_pos h3, if_pos h3]; exact box_m.bind fun _ => (must_m semi_no).bind fun _ => FitM.ret _
  rw [if_neg h3, if_neg h3]
  by_cases h4 : k = 4
  · rw [if_pos h4, if_pos h4]; exact box_m.bind fun _ => (must_m semi_no).bind fun _ => FitM.ret _
  rw [if_neg h4, if_neg h4]
  exact point_m.bind fun _ => (must_m semi_no).bind fun _ => FitM.ret _
theorem sees_same {s : St} {x : List UInt8} {t : Tok} {r : List Tok} (hx : NoNum x) (hs : SaneS s) (h0 : s.err = 0) (hl : s.left = t :: r) : rSees s x = decide (t.text = x) := by
  by_cases h : t.text = x
  · rw [sees_of hx hs h0 hl h, decide_eq_true h]
  · rw [decide_eq_false h]
    cases hk : rSees s x with
    | false => rfl
    | true =>
      obtain ⟨_, u, q, hl2, ht⟩ := sees_true hk
      rw [hl] at hl2; cases hl2
      exact absurd ht h
theorem sort_is {s : St} {t : Tok} {r : List Tok} (hs : SaneS s) (h0 : s.err = 0) (hl : s.left = t :: r) : sortS s = sort t.text := by
  unfold sortS sort
  rw [sees_same (x := wBlock) ⟨98, _, rfl, by decide⟩ hs h0 hl, sees_same (x := wArea) ⟨97, _, rfl, by decide⟩ hs h0 hl, sees_same (x := wAisle) ⟨97, _, rfl, by decide⟩ hs h0 hl, sees_same (x := wPillar) ⟨112, _, rfl, by decide⟩ hs h0 hl, sees_same (x := wDoor) ⟨100, _, rfl, by decide⟩ hs h0 hl]
  simp only [decide_eq_true_eq]
theorem sort_left {s : St} (h : sortS s ≠ 0) : s.err = 0 ∧ ∃ t r, s.left = t :: r := by
  unfold sortS at h
  by_cases h1 : rSees s wBlock = true
  · obtain ⟨h0, t, r, hl, _⟩ := sees_true h1; exact ⟨h0, t, r, hl⟩
  rw [if_neg h1] at h
  by_cases h2 : rSees s wArea = true
  · obtain ⟨h0, t, r, hl, _⟩ := sees_true h2; exact ⟨h0, t, r, hl⟩
  rw [if_neg h2] at h
  by_cases h3 : rSees s wAisle = true
  · obtain ⟨h0, t, r, hl, _⟩ := sees_true h3; exact ⟨h0, t, r, hl⟩
  rw [if_neg h3] at h
  by_cases h4 : rSees s wPillar = true
  · obtain ⟨h0, t, r, hl, _⟩ := sees_true h4; exact ⟨h0, t, r, hl⟩
  rw [if_neg h4] at h
  by_cases h5 : rSees s wDoor = true
  · obtain ⟨h0, t, r, hl, _⟩ := sees_true h5; exact ⟨h0, t, r, hl⟩
  rw [if_neg h5] at h
  exact absurd rfl h
theorem item_m : FitM N (andThen itemP fun a => give [a]) (itemS N) := fun s hs => by
  unfold itemS itemP
  by_cases h : sortS s = 0
  · rw [if_pos h]
    refine Fit.stop (a := .door (0, 0)) (Fit.stop (a := noTok) (bad_fit fun h0 t r hl => ?_) (rFail_bad s)) (rFail_bad s)
    rw [sort_is hs h0 hl] at h
    rw [h]; rfl
  · rw [if_neg h]
    obtain ⟨h0, t, r, hl⟩ := sort_left h
    have e := sort_is hs h0 hl
    have ea : rAt N s = t.pos := by unfold rAt; rw [hl]
    rw [ea, e]
    rw [e] at h
    have hn := next_fit (N := N) (q := fun t => decide (sort t.text ≠ 0)) h0 hl (decide_eq_true h)
    exact (hn.bind (f := fun t => itemRest (sort t.text) t.pos) (rest_m _ _ _ (hs.suf (next_suf s)))).bind (f := fun a => Foyer.Plan.give [a]) (FitM.ret _ _ ((hs.suf (next_suf s)).suf (rest_m (N := N) _ _ _ (hs.suf (next_suf s))).1))
theorem level_m : FitM N levelP (levelS N) :=
  (must_m ⟨108, _, rfl, by decide⟩).bind fun _ => name_m.bind fun _ => (must_m ⟨104, _, rfl, by decide⟩).bind fun _ => num_m.bind fun _ => (must_m ⟨123, _, rfl, by decide⟩).bind fun _ => (many_m ⟨125, _, rfl, by decide⟩ eats_item item_m).bind fun _ => FitM.ret _
theorem hall_m : FitM N hallP (hallS N) :=
  (must_m ⟨104, _, rfl, by decide⟩).bind fun _ => name_m.bind fun _ => (must_m ⟨115, _, rfl, by decide⟩).bind fun _ => num_m.bind fun _ => num_m.bind fun _ => (must_m ⟨123, _, rfl, by decide⟩).bind fun _ => (many_m ⟨125, _, rfl, by decide⟩ eats_level (one_m level_m)).bind fun _ => FitM.ret _
/-- What the document's Parse returns of tokens. -/
def rLast (N : Nat) (s : St) : St := if s.err = 0 ∧ s.left ≠ [] then rFail N s else s
def rEnd (N : Nat) (z : HallP × St) : HallP × Nat × Nat := if (rLast N z.2).err ≠ 0 then (noHall, (rLast N z.2).err, (rLast N z.2).pos) else (z.1, 0, 0)
theorem rEnd_toks (ts : List Tok) (n : Nat) (h : ∀ t ∈ ts, SaneK t) (hl : ts.length ≤ 5000) : rEnd n (hallS n ⟨ts, 0, 0⟩) = parseToks ts n := by
  obtain ⟨_, _, h3⟩ := hall_m (N := n) ⟨ts, 0, 0⟩ ⟨h, hl⟩
  have h3 := h3 rfl
  dsimp only at h3
  unfold parseToks rEnd
  obtain ⟨⟨y, s⟩, hz⟩ : ∃ z, hallS n ⟨ts, 0, 0⟩ = z := ⟨_, rfl⟩
  rw [hz] at h3 ⊢
  dsimp only at h3 ⊢
  cases hr : hallP ts with
  | bad r =>
    rw [hr] at h3
    obtain ⟨h4, h5, h6⟩ := h3
    have e : rLast n s = s := by unfold rLast; rw [if_neg (fun k => h4 k.1)]
    rw [e, if_pos h4, h5, h6]
  | ok a r =>
    rw [hr] at h3
    obtain ⟨h4, h5, h6⟩ := h3
    cases r with
    | nil =>
      have e : rLast n s = s := by unfold rLast; rw [if_neg (fun k => k.2 h6)]
      rw [e, if_neg (fun k => k h5), h4]
    | cons t r =>
      have e : rLast n s = rFail n s := by unfold rLast; rw [if_pos ⟨h5, by rw [h6]; simp⟩]
      have e2 : rFail n s = ⟨s.left, (failAt n s.left).1, (failAt n s.left).2⟩ := by unfold rFail; rw [if_neg (fun k => k h5)]
      rw [e, if_pos (rFail_bad s), e2]
      dsimp only
      rw [h6]
def rAll (l : List UInt8) : HallP × Nat × Int :=
  if (lexAll l).2.1 = 0 then ((rEnd l.length (hallS l.length ⟨(lexAll l).1, 0, 0⟩)).1, (rEnd l.length (hallS l.length ⟨(lexAll l).1, 0, 0⟩)).2.1, ((rEnd l.length (hallS l.length ⟨(lexAll l).1, 0, 0⟩)).2.2 : Nat))
  else (noHall, (lexAll l).2.1, (lexAll l).2.2)
theorem rAll_eq (l : List UInt8) : rAll l = parseAll l := by
  unfold rAll parseAll
  rw [rEnd_toks _ _ (lexAll_saneK l) (lexAll_bounds l).1]
end
end Foyer.Plan
