/-
  The plain mathematics of texts: their tokens, their first error, and the promises about them. No program is spoken of here.
-/
import Derived.Test.YtlfjdohjfmfcdaaGreatDoorMathLexer
namespace Foyer.Lexer
open Go.Lib

structure Tok where
  kind : Nat
  text : List UInt8
  val : Nat
  pos : Nat
deriving DecidableEq

/-- The tokens of a text that begins at an offset, and its first error with the offset. -/
def raw : Nat → Nat → List UInt8 → List Tok × Option (Nat × Nat)
  | 0, _, _ => ([], none)
  | f + 1, a, l =>
    match l.drop (gapL false l) with
    | [] => ([], none)
    | c :: r =>
      match tok (c :: r) with
      | .bad e => ([], some (e, a + gapL false l))
      | .good k m v =>
        let q := raw f (a + gapL false l + m) ((c :: r).drop m)
        (⟨k, (c :: r).take m, v, a + gapL false l⟩ :: q.1, q.2)
/-- What Lex returns: tokens, error, offset. -/
def lexAll (l : List UInt8) : List Tok × Nat × Int :=
  if 20000 < l.length then ([], 3, -1)
  else
    let q := raw (l.length + 1) 0 l
    match q.1.drop 5000 with
    | t :: _ => ([], 3, (t.pos : Int))
    | [] =>
      match q.2 with
      | none => (q.1, 0, 0)
      | some (e, p) => ([], e, (p : Int))

inductive Lx : Nat → List UInt8 → List Tok → Option (Nat × Nat) → Prop
  | nil (a : Nat) (g : List UInt8) (h : (gm false g).isSome = true) : Lx a g [] none
  | bad (a : Nat) (g : List UInt8) (c : UInt8) (r : List UInt8) (e : Nat) (h : gm false g = some false) (hc : nonGap c) (hb : tok (c :: r) = .bad e) : Lx a (g ++ c :: r) [] (some (e, a + g.length))
  | good (a : Nat) (g T rest : List UInt8) (k v : Nat) (ts : List Tok) (e : Option (Nat × Nat)) (h : gm false g = some false) (hT : IsTok k T v rest.head?) (hr : Lx (a + g.length + T.length) rest ts e) : Lx a (g ++ (T ++ rest)) (⟨k, T, v, a + g.length⟩ :: ts) e

/-- What a text begins with, in the words of the program. -/
theorem gap_parts {l : List UInt8} : (l.drop (gapL false l) = [] ∧ (gm false l).isSome = true) ∨ ∃ c r, l.drop (gapL false l) = c :: r ∧ gm false (l.take (gapL false l)) = some false ∧ nonGap c ∧ (l.take (gapL false l)).length = gapL false l := by
  rcases gap_cases l false with h | ⟨g, c, r, rfl, hg, hc⟩
  · left
    exact ⟨by rw [gapL_all l false h]; exact List.drop_length, h⟩
  · right
    rw [gapL_closed g false c r hg hc]
    exact ⟨c, r, by simp, by simpa using hg, hc, by simp⟩
theorem raw_lx : ∀ (f a : Nat) (l : List UInt8), l.length < f → Lx a l (raw f a l).1 (raw f a l).2
  | 0, a, l, h => by omega
  | f + 1, a, l, h => by
    rcases gap_parts (l := l) with ⟨hd, hg⟩ | ⟨c, r, hd, hg, hc, hn⟩
    · rw [raw]; simp only [hd]
      exact Lx.nil a l hg
    · rw [raw]; simp only [hd]
      have hl : l = l.take (gapL false l) ++ c :: r := by rw [← hd]; exact (List.take_append_drop _ _).symm
      obtain ⟨g, hge⟩ : ∃ g, l.take (gapL false l) = g := ⟨_, rfl⟩
      obtain ⟨n, hne⟩ : ∃ n, gapL false l = n := ⟨_, rfl⟩
      rw [hge] at hl hg hn
      rw [hne] at hn ⊢
      subst hn
      cases hk : tok (c :: r) with
      | bad e =>
        simp only
        have := Lx.bad a g c r e hg hc hk
        rwa [← hl] at this
      | good k m v =>
        simp only
        obtain ⟨hm, hT⟩ := tok_good hk
        have hm1 : 1 ≤ m := by
          have := isTok_pos hT
          rw [List.length_take] at this; omega
        have hlen : ((c :: r).take m).length = m := by rw [List.length_take]; omega
        have hlt : ((c :: r).drop m).length < f := by
          rw [List.length_drop]
          have : l.length = g.length + (c :: r).length := by rw [hl, List.length_append]
          omega
        have hrec : Lx (a + g.length + ((c :: r).take m).length) ((c :: r).drop m) (raw f (a + g.length + m) ((c :: r).drop m)).1 (raw f (a + g.length + m) ((c :: r).drop m)).2 := by
          rw [hlen]; exact raw_lx f (a + g.length + m) ((c :: r).drop m) hlt
        have := Lx.good a g ((c :: r).take m) _ k v _ _ hg hT hrec
        rw [List.take_append_drop, ← hl] at this
        exact this
theorem lx_raw {a : Nat} {l : List UInt8} {ts : List Tok} {e : Option (Nat × Nat)} (h : Lx a l ts e) : ∀ f, l.length < f → raw f a l = (ts, e) := by
  induction h with
  | nil a g h =>
    intro f hf
    obtain ⟨f, rfl⟩ : ∃ f', f = f' + 1 := ⟨f - 1, by omega⟩
    rw [raw, gapL_all g false h, List.drop_length]
  | bad a g c r e h hc hb =>
    intro f hf
    obtain ⟨f, rfl⟩ : ∃ f', f = f' + 1 := ⟨f - 1, by omega⟩
    rw [raw, gapL_closed g false c r h hc, List.drop_left]
    simp only [hb]
  | good a g T rest k v ts e h hT hr ih =>
    intro f hf
    obtain ⟨f, rfl⟩ : ∃ f', f = f' + 1 := ⟨f - 1, by omega⟩
    obtain ⟨c, r, rfl, hc⟩ := isTok_head hT
    have htok := tok_of hT
    simp only [List.cons_append, List.length_append, List.length_cons] at hf htok ⊢
    rw [raw, gapL_closed g false c (r ++ rest) h hc, List.drop_left]
    simp only [htok]
    have := ih f (by omega)
    simp only [List.length_cons] at this
    have e1 : (c :: (r ++ rest)).drop (r.length + 1) = rest := by simp
    have e2 : (c :: (r ++ rest)).take (r.length + 1) = c :: r := by simp
    rw [e1, e2, this]
theorem lx_det {a : Nat} {l : List UInt8} {ts ts' : List Tok} {e e' : Option (Nat × Nat)} (h : Lx a l ts e) (h' : Lx a l ts' e') : ts = ts' ∧ e = e' := by
  have := (lx_raw h (l.length + 1) (by omega)).symm.trans (lx_raw h' (l.length + 1) (by omega))
  exact ⟨congrArg Prod.fst this, congrArg Prod.snd this⟩
theorem lx_some (a : Nat) (l : List UInt8) : ∃ ts e, Lx a l ts e := ⟨_, _, raw_lx (l.length + 1) a l (by omega)⟩
theorem lx_count {a : Nat} {l : List UInt8} {ts : List Tok} {e : Option (Nat × Nat)} (h : Lx a l ts e) : ts.length ≤ l.length := by
  induction h with
  | nil => simp
  | bad => simp
  | good a g T rest k v ts e h hT hr ih =>
    have := isTok_pos hT
    simp only [List.length_cons, List.length_append]; omega
theorem lx_err {a : Nat} {l : List UInt8} {ts : List Tok} {e : Option (Nat × Nat)} (h : Lx a l ts e) : ∀ d p, e = some (d, p) → (d = 3 ∨ d = 5 ∨ d = 6) ∧ a ≤ p ∧ p < a + l.length := by
  induction h with
  | nil => intro d p h; simp at h
  | bad a g c r e h hc hb =>
    intro d p he
    simp only [Option.some.injEq, Prod.mk.injEq] at he
    obtain ⟨rfl, rfl⟩ := he
    exact ⟨tok_bad hb, by omega, by simp⟩
  | good a g T rest k v ts e h hT hr ih =>
    intro d p he
    obtain ⟨h1, h2, h3⟩ := ih d p he
    exact ⟨h1, by omega, by simp only [List.length_append]; omega⟩
/-- Within the limits. -/
theorem lexAll_none {l : List UInt8} {ts : List Tok} (hl : l.length ≤ 5000) (h : Lx 0 l ts none) : lexAll l = (ts, 0, 0) := by
  have hr := lx_raw h (l.length + 1) (by omega)
  have hc := lx_count h
  unfold lexAll
  rw [if_neg (by omega)]
  simp only [hr]
  rw [List.drop_eq_nil_of_le (by omega)]
theorem lexAll_some {l : List UInt8} {ts : List Tok} {d p : Nat} (hl : l.length ≤ 5000) (h : Lx 0 l ts (some (d, p))) : lexAll l = ([], d, (p : Int)) := by
  have hr := lx_raw h (l.length + 1) (by omega)
  have hc := lx_count h
  unfold lexAll
  rw [if_neg (by omega)]
  simp only [hr]
  rw [List.drop_eq_nil_of_le (by omega)]

/-! ### Offsets -/
def shift (d : Nat) (ts : List Tok) : List Tok := ts.map fun t => ⟨t.kind, t.text, t.val, t.pos + d⟩
def sans (ts : List Tok) : List (Nat × List UInt8 × Nat) := ts.map fun t => (t.kind, t.text, t.val)
theorem sans_shift (d : Nat) (ts : List Tok) : sans (shift d ts) = sans ts := by simp [sans, shift]
theorem lx_shift {a : Nat} {l : List UInt8} {ts : List Tok} {e : Option (Nat × Nat)} (h : Lx a l ts e) (d : Nat) : Lx (a + d) l (shift d ts) (e.map fun x => (x.1, x.2 + d)) := by
  induction h with
  | nil a g h => exact Lx.nil _ _ h
  | bad a g c r e h hc hb =>
    have := Lx.bad (a + d) g c r e h hc hb
    rw [show a + d + g.length = a + g.length + d by omega] at this; exact this
  | good a g T rest k v ts e h hT hr ih =>
    have := Lx.good (a + d) g T rest k v (shift d ts) (e.map fun x => (x.1, x.2 + d)) h hT (by rw [show a + d + g.length + T.length = a + g.length + T.length + d by omega]; exact ih)
    rw [show a + d + g.length = a + g.length + d by omega] at this; exact this
theorem lx_move {a : Nat} {l : List UInt8} {ts : List Tok} (h : Lx a l ts none) (b : Nat) : ∃ us, Lx b l us none ∧ sans us = sans ts := by
  obtain ⟨us, e, h2⟩ := lx_some b l
  have h3 := lx_shift h b
  have h4 := lx_shift h2 a
  rw [Nat.add_comm b a] at h4
  obtain ⟨h5, h6⟩ := lx_det h3 h4
  cases e with
  | none => exact ⟨us, h2, by rw [← sans_shift a us, ← h5, sans_shift]⟩
  | some => simp at h6
/-- A closed gap in front changes nothing but offsets. -/
theorem lx_gap {b : Nat} {l : List UInt8} {ts : List Tok} {e : Option (Nat × Nat)} (G : List UInt8) (hG : gm false G = some false) (h : Lx (b + G.length) l ts e) : Lx b (G ++ l) ts e := by
  cases h with
  | nil _ g h => exact Lx.nil _ _ (by rw [gm_append, hG]; exact h)
  | bad _ g c r e h hc hb =>
    have := Lx.bad b (G ++ g) c r e (by rw [gm_append, hG]; exact h) hc hb
    rwa [List.append_assoc, List.length_append, ← Nat.add_assoc] at this
  | good _ g T rest k v ts e h hT hr =>
    have := Lx.good b (G ++ g) T rest k v ts e (by rw [gm_append, hG]; exact h) hT (by rw [List.length_append, ← Nat.add_assoc]; exact hr)
    rwa [List.append_assoc, List.length_append, ← Nat.add_assoc] at this

/-! ### P5.4 -/
theorem head_lf (rest m : List UInt8) : (rest ++ 10 :: m).head? = rest.head? ∨ ∀ b, (rest ++ 10 :: m).head? = some b → isBlank b = true ∨ isHash b = true := by
  cases rest with
  | nil => right; intro b hb; simp only [List.nil_append, List.head?_cons, Option.some.injEq] at hb; subst hb; left; rfl
  | cons c r => left; rfl
theorem lx_parts {a : Nat} {l : List UInt8} {ts : List Tok} {e : Option (Nat × Nat)} (h : Lx a l ts e) :
    ∀ m : List UInt8, (∀ us e', e = none → Lx (a + l.length + 1) m us e' → Lx a (l ++ 10 :: m) (ts ++ us) e') ∧ (∀ x, e = some x → Lx a (l ++ 10 :: m) ts (some x)) := by
  induction h with
  | nil a g h =>
    intro m
    refine ⟨fun us e' _ hm => ?_, fun x hx => by simp at hx⟩
    have := lx_gap (b := a) (g ++ [10]) (gm_lf h) (by rw [List.length_append]; exact hm)
    rwa [List.append_assoc] at this
  | bad a g c r e h hc hb =>
    intro m
    refine ⟨fun us e' he => by simp at he, fun x hx => ?_⟩
    rw [← hx, List.append_assoc]
    have h2 := tok_lf m (by simp) hb
    exact Lx.bad a g c (r ++ 10 :: m) e h hc h2
  | good a g T rest k v ts e h hT hr ih =>
    intro m
    obtain ⟨i1, i2⟩ := ih m
    have hT2 := isTok_next hT (head_lf rest m)
    refine ⟨fun us e' he hm => ?_, fun x hx => ?_⟩
    · have := Lx.good a g T (rest ++ 10 :: m) k v (ts ++ us) e' h hT2 (i1 us e' he (by
        simp only [List.length_append] at hm
        rwa [show a + g.length + T.length + rest.length + 1 = a + (g.length + (T.length + rest.length)) + 1 by omega]))
      rw [List.append_assoc, List.append_assoc]; exact this
    · have := Lx.good a g T (rest ++ 10 :: m) k v ts (some x) h hT2 (i2 x hx)
      rw [List.append_assoc, List.append_assoc]; exact this

/-! ### P5.5 -/
theorem head_take (rest : List UInt8) (n : Nat) : (rest.take n).head? = rest.head? ∨ ∀ b, (rest.take n).head? = some b → isBlank b = true ∨ isHash b = true := by
  cases rest with
  | nil => left; simp
  | cons c r =>
    cases n with
    | zero => right; intro b hb; simp at hb
    | succ n => left; rfl
theorem lx_begin {a : Nat} {l : List UInt8} {ts : List Tok} {e : Option (Nat × Nat)} (h : Lx a l ts e) :
    ∀ d p, e = some (d, p) → Lx a (l.take (p - a)) ts none ∧ Lx 0 (l.drop (p - a)) [] (some (d, 0)) := by
  induction h with
  | nil => intro d p h; simp at h
  | bad a g c r e h hc hb =>
    intro d p he
    simp only [Option.some.injEq, Prod.mk.injEq] at he
    obtain ⟨rfl, rfl⟩ := he
    rw [Nat.add_sub_cancel_left, List.take_left, List.drop_left]
    refine ⟨Lx.nil _ _ (by rw [h]; rfl), ?_⟩
    exact Lx.bad 0 [] c r e rfl hc hb
  | good a g T rest k v ts e h hT hr ih =>
    intro d p he
    obtain ⟨h1, h2⟩ := ih d p he
    have := (lx_err hr d p he).2.1
    obtain ⟨q, hq⟩ : ∃ q, p - (a + g.length + T.length) = q := ⟨_, rfl⟩
    have hp : p - a = g.length + (T.length + q) := by omega
    rw [hq] at h1 h2
    rw [hp, List.take_length_add_append, List.take_length_add_append, List.drop_length_add_append, List.drop_length_add_append]
    exact ⟨Lx.good a g T _ k v ts none h (isTok_next hT (head_take rest q)) h1, h2⟩

/-! ### P5.3 -/
def written (ts : List Tok) : List UInt8 := ts.flatMap fun t => t.text ++ [32]
theorem lx_again {a : Nat} {l : List UInt8} {ts : List Tok} {e : Option (Nat × Nat)} (h : Lx a l ts e) :
    ∀ (b : Nat) (g : List UInt8), gm false g = some false → ∃ us, Lx b (g ++ written ts) us none ∧ sans us = sans ts := by
  induction h with
  | nil a g h => intro b G hG; exact ⟨[], by simp only [written, List.flatMap_nil, List.append_nil]; exact Lx.nil _ _ (by rw [hG]; rfl), rfl⟩
  | bad a g c r e h hc hb => intro b G hG; exact ⟨[], by simp only [written, List.flatMap_nil, List.append_nil]; exact Lx.nil _ _ (by rw [hG]; rfl), rfl⟩
  | good a g T rest k v ts e h hT hr ih =>
    intro b G hG
    obtain ⟨us, h1, h2⟩ := ih (b + G.length + T.length) [32] rfl
    refine ⟨⟨k, T, v, b + G.length⟩ :: us, ?_, by simp only [sans, List.map_cons] at h2 ⊢; rw [h2]⟩
    have := Lx.good b G T ([32] ++ written ts) k v us none hG (isTok_next hT (Or.inr (fun c hc => by simp at hc; subst hc; left; rfl))) h1
    rw [show written (⟨k, T, v, a + g.length⟩ :: ts) = T ++ ([32] ++ written ts) by simp [written]]
    exact this
theorem written_length {a : Nat} {l : List UInt8} {ts : List Tok} {e : Option (Nat × Nat)} (h : Lx a l ts e) : (written ts).length ≤ 2 * l.length := by
  induction h with
  | nil => simp [written]
  | bad => simp [written]
  | good a g T rest k v ts e h hT hr ih =>
    have := isTok_pos hT
    rw [show written (⟨k, T, v, a + g.length⟩ :: ts) = T ++ ([32] ++ written ts) by simp [written]]
    simp only [List.length_append, List.length_cons, List.length_nil]; omega

/-! ### P5.6 -/
theorem head_gap (A L B : List UInt8) (rest : List UInt8) (hA : A = [] ∨ A.head? = rest.head?) (hL : ∃ c r, L = c :: r ∧ (isBlank c = true ∨ isHash c = true)) : (A ++ (L ++ B)).head? = rest.head? ∨ ∀ b, (A ++ (L ++ B)).head? = some b → isBlank b = true ∨ isHash b = true := by
  obtain ⟨c, r, rfl, hc⟩ := hL
  cases A with
  | nil => right; intro b hb; simp only [List.nil_append, List.cons_append, List.head?_cons, Option.some.injEq] at hb; subst hb; exact hc
  | cons x y => left; rcases hA with h | h
                · simp at h
                · rw [← h]; rfl
theorem lx_insert {a : Nat} {l : List UInt8} {ts : List Tok} {e : Option (Nat × Nat)} (h : Lx a l ts e) (L : List UInt8) (hL : gm false L = some false) (hL1 : ∃ c r, L = c :: r ∧ (isBlank c = true ∨ isHash c = true)) :
    ∀ (b i m : Nat) (t : Tok), e = none → ts[i]? = some t → m + a = t.pos + t.text.length → ∃ us, Lx b (l.take m ++ (L ++ l.drop m)) us none ∧ sans us = sans ts := by
  induction h with
  | nil => intro b i m t _ h; simp at h
  | bad => intro b i m t _ h; simp at h
  | good a g T rest k v ts e h hT hr ih =>
    intro b i m t he hi hm
    cases i with
    | zero =>
      simp only [List.getElem?_cons_zero, Option.some.injEq] at hi
      subst hi
      simp only at hm
      have hm : m = g.length + (T.length + 0) := by omega
      rw [hm, List.take_length_add_append, List.take_length_add_append, List.drop_length_add_append, List.drop_length_add_append]
      simp only [List.take_zero, List.drop_zero, List.append_nil]
      subst he
      obtain ⟨us, h1, h2⟩ := lx_move hr (b + g.length + T.length + L.length)
      have h3 := lx_gap L hL h1
      have hT2 : IsTok k T v (L ++ rest).head? := isTok_next hT (head_gap [] L rest rest (Or.inl rfl) hL1)
      have := Lx.good b g T (L ++ rest) k v us none h hT2 h3
      rw [List.append_assoc]
      exact ⟨_, this, by simp only [sans, List.map_cons] at h2 ⊢; rw [h2]⟩
    | succ i =>
      simp only [List.getElem?_cons_succ] at hi
      have hlow : ∀ {a l ts e}, Lx a l ts e → ∀ t ∈ ts, a ≤ t.pos := by
        intro a l ts e h
        induction h with
        | nil => simp
        | bad => simp
        | good a g T rest k v ts e h hT hr ih =>
          intro t ht
          rcases List.mem_cons.1 ht with rfl | ht
          · simp
          · have := ih t ht; omega
      have hp := hlow hr t (List.mem_of_getElem? hi)
      obtain ⟨q, hq⟩ : ∃ q, m = g.length + (T.length + q) := ⟨m - g.length - T.length, by omega⟩
      obtain ⟨us, h1, h2⟩ := ih (b + g.length + T.length) i q t he hi (by omega)
      rw [hq, List.take_length_add_append, List.take_length_add_append, List.drop_length_add_append, List.drop_length_add_append]
      have hT2 : IsTok k T v (rest.take q ++ (L ++ rest.drop q)).head? := isTok_next hT (head_gap _ L _ rest (by
        cases rest with
        | nil => left; simp
        | cons c r => cases q with
                      | zero => left; simp
                      | succ q => right; rfl) hL1)
      have := Lx.good b g T _ k v us none h hT2 h1
      simp only [List.append_assoc] at this ⊢
      exact ⟨_, this, by simp only [sans, List.map_cons] at h2 ⊢; rw [h2]⟩

/-! ### P5.7 -/
theorem lx_touch {a : Nat} {l : List UInt8} {ts : List Tok} {e : Option (Nat × Nat)} (h : Lx a l ts e) :
    ∀ (i : Nat) (t u : Tok), ts[i]? = some t → ts[i + 1]? = some u → t.pos + t.text.length = u.pos → Lx 0 (t.text ++ u.text) [⟨t.kind, t.text, t.val, 0⟩, ⟨u.kind, u.text, u.val, t.text.length⟩] none := by
  induction h with
  | nil => intro i t u h; simp at h
  | bad => intro i t u h; simp at h
  | good a g T rest k v ts e h hT hr ih =>
    intro i t u ht hu htu
    cases i with
    | succ i => exact ih i t u (by simpa using ht) (by simpa using hu) htu
    | zero =>
      simp only [List.getElem?_cons_zero, Option.some.injEq] at ht
      subst ht
      simp only [Nat.zero_add, List.getElem?_cons_succ] at hu
      cases hr with
      | nil => simp at hu
      | bad => simp at hu
      | good _ g2 T2 rest2 k2 v2 ts2 _ h2 hT2 hr2 =>
        simp only [List.getElem?_cons_zero, Option.some.injEq] at hu
        subst hu
        simp only at htu ⊢
        have hg2 : g2 = [] := List.length_eq_zero_iff.1 (by omega)
        subst hg2
        simp only [List.nil_append] at hT
        obtain ⟨c, r, rfl, hc⟩ := isTok_head hT2
        have i2 : Lx T.length (c :: r) [⟨k2, c :: r, v2, T.length⟩] none := by
          have := Lx.good T.length [] (c :: r) [] k2 v2 [] none rfl (isTok_next hT2 (Or.inr (fun b hb => by simp at hb))) (Lx.nil _ _ rfl)
          simpa using this
        have := Lx.good 0 [] T (c :: r) k v _ none rfl (by simpa using hT) (by simpa using i2)
        simpa using this
end Foyer.Lexer
