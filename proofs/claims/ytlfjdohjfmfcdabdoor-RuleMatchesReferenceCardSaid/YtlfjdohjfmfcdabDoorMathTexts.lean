/-
  The plain mathematics of rules' texts: tokens of texts that are cut and joined, and the promises about rules.
-/
import Derived.Test.YtlfjdohjfmfcdabDoorMathRule

/-! ## Tokens of texts that are cut and joined -/
namespace Foyer.Rule
open Foyer.Lexer

theorem lx_short {a : Nat} {l : List UInt8} {ts : List Tok} {e : Option (Nat × Nat)} (h : Lx a l ts e) : ∀ t ∈ ts, t.text.length ≤ 24 ∧ t.kind ≠ 0 := by
  induction h with
  | nil => simp
  | bad => simp
  | good a g T rest k v ts e h hT hr ih =>
    intro t ht
    rcases List.mem_cons.1 ht with rfl | ht
    · rcases hT with ⟨rfl, _, h, _⟩ | ⟨rfl, _, _, h, _⟩ | ⟨rfl, _, c, rfl, _⟩ | ⟨rfl, _, c, rfl, _⟩ | ⟨rfl, _, c, rfl, _⟩
      · exact ⟨h, by simp⟩
      · exact ⟨Nat.le_trans h (by omega), by simp⟩
      all_goals exact ⟨by simp, by simp⟩
    · exact ih t ht
theorem lex_inv {l : List UInt8} (h : (lexAll l).2.1 = 0) : ∃ ts, lexAll l = (ts, 0, 0) ∧ Lx 0 l ts none ∧ ts.length ≤ 5000 ∧ l.length ≤ 20000 := by
  obtain ⟨ts, e, hx⟩ := lx_some 0 l
  have hr := lx_raw hx (l.length + 1) (by omega)
  have hb := (lexAll_bounds l).1
  unfold lexAll at h hb ⊢
  split at h
  · simp at h
  · rename_i hl
    rw [if_neg hl] at hb ⊢
    simp only [hr] at h hb ⊢
    cases hd : ts.drop 5000 with
    | cons t r => simp only [hd] at h; omega
    | nil =>
      simp only [hd] at h hb ⊢
      cases e with
      | none => exact ⟨ts, rfl, hx, hb, by omega⟩
      | some y =>
        obtain ⟨d, p⟩ := y
        have := (lx_err hx d p rfl).1
        simp only at h
        omega
theorem lexAll_short (l : List UInt8) : ∀ t ∈ (lexAll l).1, t.text.length ≤ 24 ∧ t.kind ≠ 0 := by
  by_cases h : (lexAll l).2.1 = 0
  · obtain ⟨ts, h1, h2, _⟩ := lex_inv h
    rw [h1]; exact lx_short h2
  · have : (lexAll l).1 = [] := by
      unfold lexAll at h ⊢
      split
      · rfl
      · rename_i hl
        rw [if_neg hl] at h
        simp only at h ⊢
        split
        · rfl
        · rename_i hd
          rw [hd] at h
          simp only at h
          split
          · rename_i he; rw [he] at h; simp at h
          · rfl
    rw [this]; simp
theorem lx_low {a : Nat} {l : List UInt8} {ts : List Tok} {e : Option (Nat × Nat)} (h : Lx a l ts e) : ∀ t ∈ ts, a ≤ t.pos := by
  induction h with
  | nil => simp
  | bad => simp
  | good a g T rest k v ts e h hT hr ih =>
    intro t ht
    rcases List.mem_cons.1 ht with rfl | ht
    · exact Nat.le_add_right _ _
    · have := ih t ht; omega
theorem lx_cut : ∀ {pre us : List Tok} {t : Tok} {a : Nat} {l : List UInt8} {e : Option (Nat × Nat)}, Lx a l (pre ++ t :: us) e →
    Lx a (l.take (t.pos - a)) pre none ∧ Lx a (l.take (t.pos + t.text.length - a)) (pre ++ [t]) none ∧ Lx (t.pos + t.text.length) (l.drop (t.pos + t.text.length - a)) us e
  | [], us, t, a, l, e, h => by
    rw [List.nil_append] at h
    cases h with
    | good _ g T rest k v _ _ hg hT hr =>
      have e1 : a + g.length - a = g.length := by omega
      have e2 : a + g.length + T.length - a = g.length + (T.length + 0) := by omega
      have e3 : g.length + (T.length + 0) = g.length + T.length := by omega
      refine ⟨?_, ?_, ?_⟩
      · show Lx a ((g ++ (T ++ rest)).take (a + g.length - a)) [] none
        rw [e1, List.take_left]
        exact Lx.nil a g (by rw [hg]; rfl)
      · show Lx a ((g ++ (T ++ rest)).take (a + g.length + T.length - a)) ([] ++ [⟨k, T, v, a + g.length⟩]) none
        rw [e2, List.take_length_add_append, List.take_length_add_append, List.take_zero]
        exact Lx.good a g T [] k v [] none hg (isTok_next hT (Or.inr (fun b hb => by simp at hb))) (Lx.nil _ _ rfl)
      · show Lx (a + g.length + T.length) ((g ++ (T ++ rest)).drop (a + g.length + T.length - a)) us e
        rw [e2, List.drop_length_add_append, List.drop_length_add_append, List.drop_zero]
        exact hr
  | p :: pre, us, t, a, l, e, h => by
    rw [List.cons_append] at h
    cases h with
    | good _ g T rest k v _ _ hg hT hr =>
      have hlow := lx_low hr t (by simp)
      obtain ⟨h1, h2, h3⟩ := lx_cut hr
      have e1 : t.pos - a = g.length + (T.length + (t.pos - (a + g.length + T.length))) := by omega
      have e2 : t.pos + t.text.length - a = g.length + (T.length + (t.pos + t.text.length - (a + g.length + T.length))) := by omega
      refine ⟨?_, ?_, ?_⟩
      · rw [e1, List.take_length_add_append, List.take_length_add_append]
        exact Lx.good a g T _ k v pre none hg (isTok_next hT (head_take rest _)) h1
      · rw [e2, List.take_length_add_append, List.take_length_add_append]
        exact Lx.good a g T _ k v (pre ++ [t]) none hg (isTok_next hT (head_take rest _)) h2
      · rw [e2, List.drop_length_add_append, List.drop_length_add_append]
        exact h3
/-- The rest of a text, from one of its tokens on. -/
theorem lx_from : ∀ {pre us : List Tok} {t : Tok} {a : Nat} {l : List UInt8} {e : Option (Nat × Nat)}, Lx a l (pre ++ t :: us) e → Lx t.pos (l.drop (t.pos - a)) (t :: us) e ∧ a ≤ t.pos ∧ t.pos - a ≤ l.length
  | [], us, t, a, l, e, h => by
    rw [List.nil_append] at h
    cases h with
    | good _ g T rest k v _ _ hg hT hr =>
      have e1 : a + g.length - a = g.length := by omega
      refine ⟨?_, Nat.le_add_right _ _, by simp⟩
      show Lx (a + g.length) ((g ++ (T ++ rest)).drop (a + g.length - a)) _ e
      rw [e1, List.drop_left]
      have := Lx.good (a + g.length) [] T rest k v us e rfl hT (by simpa using hr)
      simpa using this
  | p :: pre, us, t, a, l, e, h => by
    rw [List.cons_append] at h
    cases h with
    | good _ g T rest k v _ _ hg hT hr =>
      obtain ⟨h1, h2, h3⟩ := lx_from hr
      refine ⟨?_, by omega, by simp only [List.length_append]; omega⟩
      rw [show t.pos - a = g.length + (T.length + (t.pos - (a + g.length + T.length))) by omega, List.drop_length_add_append, List.drop_length_add_append]
      exact h1
/-- Another end in the place of what begins at a token: it begins with a blank. -/
theorem lx_resume : ∀ {pre us : List Tok} {t : Tok} {a : Nat} {l : List UInt8} {e e' : Option (Nat × Nat)} {b : UInt8} {m : List UInt8} {ts' : List Tok}, Lx a l (pre ++ t :: us) e → isBlank b = true → Lx t.pos (b :: m) ts' e' → Lx a (l.take (t.pos - a) ++ (b :: m)) (pre ++ ts') e'
  | [], us, t, a, l, e, e', b, m, ts', h, hb, hm => by
    rw [List.nil_append] at h ⊢
    cases h with
    | good _ g T rest k v _ _ hg hT hr =>
      have e1 : a + g.length - a = g.length := by omega
      show Lx a ((g ++ (T ++ rest)).take (a + g.length - a) ++ _) _ _
      rw [e1, List.take_left]
      exact lx_gap g hg hm
  | p :: pre, us, t, a, l, e, e', b, m, ts', h, hb, hm => by
    rw [List.cons_append] at h ⊢
    cases h with
    | good _ g T rest k v _ _ hg hT hr =>
      obtain ⟨_, h2, h3⟩ := lx_from hr
      have h4 := lx_resume hr hb hm
      rw [show t.pos - a = g.length + (T.length + (t.pos - (a + g.length + T.length))) by omega, List.take_length_add_append, List.take_length_add_append, List.append_assoc, List.append_assoc]
      refine Lx.good a g T _ k v (pre ++ ts') e' hg (isTok_next hT ?_) h4
      cases hq : rest.take (t.pos - (a + g.length + T.length)) with
      | nil => right; intro c hc; simp at hc; subst hc; exact Or.inl hb
      | cons c q =>
        left
        cases rest with
        | nil => simp at hq
        | cons d rest =>
          cases hz : t.pos - (a + g.length + T.length) with
          | zero => rw [hz] at hq; simp at hq
          | succ z => rw [hz] at hq; simp at hq; simp [hq.1]
/-- A gap in front of each token. -/
def wide (G L : List UInt8) : Nat → List Tok → List UInt8
  | e, [] => L.drop e
  | e, t :: ts => (L.take t.pos).drop e ++ (G ++ wide G L t.pos ts)
theorem wide_step {G L : List UInt8} {e n : Nat} : ∀ {ts : List Tok}, (∀ t ∈ ts, e + n ≤ t.pos) → wide G L e ts = (L.drop e).take n ++ wide G L (e + n) ts
  | [], _ => by
    show L.drop e = (L.drop e).take n ++ L.drop (e + n)
    rw [← List.drop_drop, List.take_append_drop]
  | t :: ts, h => by
    show (L.take t.pos).drop e ++ _ = (L.drop e).take n ++ ((L.take t.pos).drop (e + n) ++ _)
    have h1 := h t List.mem_cons_self
    rw [← List.append_assoc (List.take n (List.drop e L))]
    congr 1
    rw [← List.drop_drop, List.drop_take, show (L.drop e).take n = ((L.drop e).take (t.pos - e)).take n by rw [List.take_take]; congr 1; omega, List.take_append_drop]
theorem wide_lx {G L : List UInt8} (hG : gm false G = some false) (hG1 : ∃ c r, G = c :: r ∧ (isBlank c = true ∨ isHash c = true)) : ∀ {ts : List Tok} {a : Nat}, Lx a (L.drop a) ts none → a ≤ L.length → ∀ b, ∃ us, Lx b (wide G L a ts) us none ∧ sans us = sans ts
  | [], a, h, _, b => ⟨[], Lx.nil b _ (lx_end h), rfl⟩
  | t :: ts, a, h, ha, b => by
    obtain ⟨l, hl⟩ : ∃ l, L.drop a = l := ⟨_, rfl⟩
    rw [hl] at h
    cases h with
    | good _ g T rest k v _ _ hg hT hr =>
      have hlen : L.length - a = g.length + (T.length + rest.length) := by have := congrArg List.length hl; simpa using this
      have hrest : rest = L.drop (a + g.length + T.length) := by
        rw [show a + g.length + T.length = a + (g.length + T.length) by omega, ← List.drop_drop, hl, List.drop_length_add_append, ← Nat.add_zero T.length, List.drop_length_add_append, List.drop_zero]
      rw [hrest] at hr hT
      obtain ⟨us, h1, h2⟩ := wide_lx hG hG1 hr (by omega) (b + (g.length + G.length) + T.length)
      have hw : wide G L (a + g.length) ts = T ++ wide G L (a + g.length + T.length) ts := by
        rw [wide_step (n := T.length) (fun t ht => lx_low hr t ht), ← List.drop_drop, hl, List.drop_left, List.take_left]
      refine ⟨⟨k, T, v, b + (g.length + G.length)⟩ :: us, ?_, by simp only [sans, List.map_cons] at h2 ⊢; rw [h2]⟩
      show Lx b ((L.take (a + g.length)).drop a ++ (G ++ wide G L (a + g.length) ts)) _ none
      rw [hw, List.drop_take, hl, show a + g.length - a = g.length by omega, List.take_left, ← List.append_assoc]
      have := Lx.good b (g ++ G) T (wide G L (a + g.length + T.length) ts) k v us none (by rw [gm_append, hg]; exact hG) (isTok_next hT ?_) (by rw [List.length_append]; exact h1)
      · rwa [List.length_append] at this
      · cases ts with
        | nil => exact Or.inl rfl
        | cons t2 ts =>
          show ((L.take t2.pos).drop (a + g.length + T.length) ++ (G ++ wide G L t2.pos ts)).head? = _ ∨ _
          refine head_gap _ _ _ _ ?_ hG1
          rw [List.drop_take]
          cases hz : t2.pos - (a + g.length + T.length) with
          | zero => left; simp
          | succ z =>
            right
            cases L.drop (a + g.length + T.length) <;> rfl
end Foyer.Rule

/-! ## The promises -/
namespace Foyer.Rule
open Foyer.Lexer

theorem rules_at {l : List UInt8} {ts : List Tok} (h : lexAll l = (ts, 0, 0)) : parseAll l = ((parseToks ts l.length).1, (parseToks ts l.length).2.1, (((parseToks ts l.length).2.2 : Nat) : Int)) := by
  unfold parseAll
  rw [h]
  rfl
theorem parse_rules {l : List UInt8} {ts r : List Tok} {as : List ItemP} (h : lexAll l = (ts, 0, 0)) (hr : rulesP ts = .ok as r) : parseAll l = (as, 0, 0) := by
  rw [rules_at h]
  unfold parseToks
  rw [hr]; rfl
theorem parse_bad {l : List UInt8} {ts r : List Tok} {c : Nat} (h : lexAll l = (ts, 0, 0)) (hr : rulesP ts = .bad c r) : parseAll l = ([], (failAt c l.length r).1, (((failAt c l.length r).2 : Nat) : Int)) := by
  rw [rules_at h]
  unfold parseToks
  rw [hr]
theorem lex_code {l : List UInt8} (h : (lexAll l).2.1 ≠ 0) : parseAll l = ([], (lexAll l).2.1, (lexAll l).2.2) := by unfold parseAll; rw [if_neg h]
theorem fail_ne {c n : Nat} (hc : c = 3 ∨ c = 4) (r : List Tok) : (failAt c n r).1 ≠ 0 := by
  cases r with
  | nil => simp [failAt]
  | cons t r => simp only [failAt]; omega
/-- What a text that can be parsed is. -/
theorem parse_inv {l : List UInt8} {as : List ItemP} {O : Int} (h : parseAll l = (as, 0, O)) : ∃ ts, lexAll l = (ts, 0, 0) ∧ Lx 0 l ts none ∧ ts.length ≤ 5000 ∧ rulesP ts = .ok as [] := by
  by_cases h0 : (lexAll l).2.1 = 0
  · obtain ⟨ts, h1, h2, h3, _⟩ := lex_inv h0
    refine ⟨ts, h1, h2, h3, ?_⟩
    cases hr : rulesP ts with
    | ok bs r =>
      rw [parse_rules h1 hr] at h
      cases h
      rw [rules_all hr]
    | bad c r =>
      rw [parse_bad h1 hr] at h
      exact absurd (congrArg (fun x => x.2.1) h) (fail_ne (det_rules.code _ _ _ hr) r)
  · rw [lex_code h0] at h
    exact absurd (congrArg (fun x => x.2.1) h) h0
/-- Beside an error there are no rules. -/
theorem none_of {l : List UInt8} {as : List ItemP} {E : Nat} {O : Int} (h : parseAll l = (as, E, O)) (hE : E ≠ 0) : as = [] := by
  by_cases h0 : (lexAll l).2.1 = 0
  · obtain ⟨ts, h1, _⟩ := lex_inv h0
    cases hr : rulesP ts with
    | ok bs r => rw [parse_rules h1 hr] at h; cases h; exact absurd rfl hE
    | bad c r => rw [parse_bad h1 hr] at h; cases h; rfl
  · rw [lex_code h0] at h; cases h; rfl

/-! ### P7.2 -/
theorem rules_join {n : Nat} {ts us r : List Tok} {as bs : List ItemP} (h1 : rest sepL itemP n ts = .ok as r) (h2 : rest sepL itemP 200 us = .ok bs []) (hl : as.length + bs.length ≤ n) : rest sepL itemP n (ts ++ us) = .ok (as ++ bs) [] := by
  obtain rfl := rules_all h1
  obtain ⟨pre, e, k⟩ := rest_more sepL_ok det_item eats_item n ts [] as h1
  rw [List.append_nil] at e
  subst e
  rw [k us (fun s _ h => h), then_of (rest_fewer h2 (by omega))]
  rfl
theorem joins {a b : List UInt8} {p q : List ItemP} {O1 O2 : Int} (ha : parseAll a = (p, 0, O1)) (hb : parseAll b = (q, 0, O2)) (hl : p.length + q.length ≤ 200) (hx : (lexAll ((a ++ [10]) ++ b)).2.1 = 0) :
    parseAll ((a ++ [10]) ++ b) = (p ++ q.map (ItemP.moved (a.length + 1)), 0, 0) := by
  obtain ⟨ts, _, h1, _, h2⟩ := parse_inv ha
  obtain ⟨us, _, h3, _, h4⟩ := parse_inv hb
  obtain ⟨vs, h5, h6, _⟩ := lex_inv hx
  obtain ⟨rfl, _⟩ := lx_det h6 (parts_ok h1 h3)
  exact parse_rules h5 (rules_join h2 (rules_shift h4) (by rw [List.length_map]; omega))

/-! ### P7.3 -/
theorem gaps {l G : List UInt8} {ts : List Tok} (hx : lexAll l = (ts, 0, 0)) (hG : gm false G = some false) (hG1 : ∃ c r, G = c :: r ∧ (isBlank c = true ∨ isHash c = true)) (hm : (wide G l 0 ts).length ≤ 20000) :
    (parseAll l).2.1 = (parseAll (wide G l 0 ts)).2.1 ∧ (parseAll l).1.map ItemP.bare = (parseAll (wide G l 0 ts)).1.map ItemP.bare := by
  obtain ⟨ts', h1, h2, h3, _⟩ := lex_inv (l := l) (by rw [hx])
  rw [hx] at h1
  cases h1
  obtain ⟨us, h4, h5⟩ := wide_lx hG hG1 (L := l) (a := 0) (by simpa using h2) (Nat.zero_le _) 0
  have h6 := lexAll_done hm h4 (by have := congrArg List.length h5; simp [sans] at this; omega)
  have hr := rel_rules 200 ts us (toks_sans h5.symm)
  cases ha : rulesP ts with
  | ok as r =>
    obtain ⟨bs, h7, h8, _⟩ := rules_sans ha h5.symm
    rw [parse_rules hx ha, parse_rules h6 h7]
    exact ⟨rfl, h8.symm⟩
  | bad c r =>
    have ha' : rest sepL itemP 200 ts = .bad c r := ha
    cases hb : rulesP us with
    | ok bs s =>
      have hb' : rest sepL itemP 200 us = .ok bs s := hb
      rw [ha', hb'] at hr; exact hr.elim
    | bad d s =>
      have hb' : rest sepL itemP 200 us = .bad d s := hb
      rw [ha', hb'] at hr
      obtain ⟨rfl, h9⟩ := hr
      rw [parse_bad hx ha, parse_bad h6 hb]
      refine ⟨?_, rfl⟩
      cases h9 with
      | nil => rfl
      | cons h hs => rfl

/-! ### P7.5 -/
theorem parse_ways (ts : List Tok) : (∃ a, rulesP ts = .ok a []) ∨ (∃ c, rulesP ts = .bad c [] ∧ ∀ r', (rulesP (ts ++ r')).left <:+ r') ∨ ∃ pre t r c, ts = pre ++ t :: r ∧ (c = 3 ∨ c = 4) ∧ ∀ r', rulesP (pre ++ t :: r') = .bad c (t :: r') := by
  cases h : rulesP ts with
  | ok a r => exact Or.inl ⟨a, by rw [rules_all h]⟩
  | bad c r =>
    cases r with
    | nil => exact Or.inr (Or.inl ⟨c, rfl, fun r' => det_rules.ext ts r' (by rw [h]; rfl)⟩)
    | cons t r =>
      obtain ⟨pre, e, k⟩ := det_rules.bad _ _ _ h
      exact Or.inr (Or.inr ⟨pre, t, r, c, e, det_rules.code _ _ _ h, fun r' => k t r rfl r'⟩)
theorem errors {l : List UInt8} (hl : l.length ≤ 4000) {ts : List Tok} (hx : lexAll l = (ts, 0, 0)) {x : List ItemP} {E : Nat} {O : Int} (h : parseAll l = (x, E, O)) (hE : E ≠ 0) :
    (E = 7 ∧ O = l.length ∧ ∀ (m : List UInt8) (us : List Tok), m.length ≤ 200 → lexAll ((l ++ [10]) ++ m) = (us, 0, 0) → ts.length ≤ us.length ∧ (us.length = ts.length → (parseAll ((l ++ [10]) ++ m)).2.1 = 7) ∧ (us.length = ts.length ∨ (parseAll ((l ++ [10]) ++ m)).2.1 = 0 ∨ (l.length : Int) < (parseAll ((l ++ [10]) ++ m)).2.2)) ∨
    (∃ pre t r, ts = pre ++ t :: r ∧ (E = 3 ∨ E = 4) ∧ O = (t.pos : Int) ∧ t.pos + t.text.length ≤ l.length ∧ t.kind ≠ 0 ∧ (parseAll (l.take (t.pos + t.text.length))).2 = (E, O) ∧ ∀ m : List UInt8, m.length ≤ 200 → (lexAll ((l ++ [10]) ++ m)).2.1 = 0 → (parseAll ((l ++ [10]) ++ m)).2 = (E, O)) := by
  obtain ⟨ts', h1, h2, h3, _⟩ := lex_inv (l := l) (by rw [hx])
  rw [hx] at h1
  cases h1
  rcases parse_ways ts with ⟨a, ha⟩ | ⟨c, ha, hext⟩ | ⟨pre, t, r, c, rfl, hc, hk⟩
  · rw [parse_rules hx ha] at h
    cases h
    exact absurd rfl hE
  · rw [parse_bad hx ha] at h
    cases h
    refine Or.inl ⟨rfl, rfl, fun m us hm hu => ?_⟩
    obtain ⟨us', h4, h5, _⟩ := lex_inv (l := (l ++ [10]) ++ m) (by rw [hu])
    rw [hu] at h4
    cases h4
    obtain ⟨vs, e, hv⟩ := lx_some 0 m
    cases e with
    | some y =>
      obtain ⟨d, q⟩ := y
      have := (lx_det h5 (parts_second h2 hv)).2
      cases this
    | none =>
      obtain ⟨rfl, _⟩ := lx_det h5 (parts_ok h2 hv)
      have hlen : (ts ++ shift (l.length + 1) vs).length = ts.length + vs.length := by simp [shift]
      refine ⟨by omega, fun he => ?_, ?_⟩
      · have : vs = [] := List.length_eq_zero_iff.1 (by omega)
        subst this
        rw [show ts ++ shift (l.length + 1) [] = ts by simp [shift]] at hu
        rw [parse_bad hu ha]
        rfl
      · by_cases hvs : vs = []
        · left; rw [hlen, hvs]; rfl
        · right
          have hs := hext (shift (l.length + 1) vs)
          cases hr : rulesP (ts ++ shift (l.length + 1) vs) with
          | ok a r => left; rw [parse_rules hu hr]
          | bad d r =>
            right
            rw [hr] at hs
            rw [parse_bad hu hr]
            cases r with
            | nil =>
              show (l.length : Int) < (((l ++ [10]) ++ m).length : Nat)
              simp only [List.length_append, List.length_cons, List.length_nil]; omega
            | cons u r =>
              show (l.length : Int) < ((u.pos : Nat) : Int)
              have hu : u ∈ shift (l.length + 1) vs := hs.subset List.mem_cons_self
              simp only [shift, List.mem_map] at hu
              obtain ⟨z, _, rfl⟩ := hu
              show (l.length : Int) < ((z.pos + (l.length + 1) : Nat) : Int)
              omega
  · rw [parse_bad hx (hk r)] at h
    cases h
    obtain ⟨c1, c2, c3⟩ := lx_cut h2
    rw [Nat.sub_zero] at c2
    have hkind := (lx_short h2 t (by simp)).2
    have hpl : t.pos + t.text.length ≤ l.length := by
      obtain ⟨h6, h7, h8⟩ := lx_from h2
      obtain ⟨h9, h10, h11, _⟩ := place_step (L := l) (a := t.pos) (by simpa using h6) (by simpa using h8)
      exact h11
    refine Or.inr ⟨pre, t, r, rfl, hc, rfl, hpl, hkind, ?_, fun m hm hlm => ?_⟩
    · have h6 := lexAll_none (l := l.take (t.pos + t.text.length)) (by rw [List.length_take]; omega) c2
      rw [parse_bad h6 (hk [])]
      rfl
    · obtain ⟨us, h4, h5, _⟩ := lex_inv hlm
      obtain ⟨vs, e, hv⟩ := lx_some 0 m
      cases e with
      | some y =>
        obtain ⟨d, q⟩ := y
        have := (lx_det h5 (parts_second h2 hv)).2
        cases this
      | none =>
        obtain ⟨rfl, _⟩ := lx_det h5 (parts_ok h2 hv)
        have e5 : (pre ++ t :: r) ++ shift (l.length + 1) vs = pre ++ t :: (r ++ shift (l.length + 1) vs) := by simp
        rw [e5] at h4
        rw [parse_bad h4 (hk _)]
        rfl
end Foyer.Rule
