/-
  The plain mathematics of rules' texts without one of their rules.
-/
import Derived.Test.YtllhonjhjhajjabDoorMathTexts
namespace Foyer.Rule
open Foyer.Lexer

theorem item_pos {t : Tok} {r s : List Tok} {a : ItemP} (h : itemP (t :: r) = .ok a s) : a.pos = t.pos := by
  obtain ⟨f, s1, h1, h2⟩ := then_ok h
  obtain ⟨u, s2, h3, h4⟩ := then_ok h1
  obtain ⟨e, _⟩ := takeP_ok h3
  cases e
  obtain ⟨n, s3, h5, h6⟩ := then_ok h4
  obtain ⟨hd, s4, h7, h8⟩ := then_ok h6
  cases h8
  obtain ⟨cs, s5, h9, h10⟩ := then_ok h2
  obtain ⟨v, s6, h11, h12⟩ := then_ok h10
  cases h12
  rfl
theorem rules_cons {n : Nat} {ts : List Tok} {a : ItemP} {bs : List ItemP} (h : rest sepL itemP n ts = .ok (a :: bs) []) : ∃ t r s m, ts = t :: r ∧ n = m + 1 ∧ itemP (t :: r) = .ok a s ∧ rest sepL itemP m s = .ok bs [] := by
  cases ts with
  | nil => rw [rest_none rfl] at h; cases h
  | cons t r =>
    cases n with
    | zero => rw [rest_full (sep := sepL) (r := t :: r) rfl] at h; cases h
    | succ m =>
      rw [rest_some (sep := sepL) (r := t :: r) rfl] at h
      obtain ⟨x, s, h1, h2⟩ := then_ok h
      obtain ⟨xs, s2, h3, h4⟩ := then_ok h2
      cases h4
      exact ⟨t, r, s, m, rfl, rfl, h1, h3⟩
theorem rules_nil {n : Nat} {ts : List Tok} (h : rest sepL itemP n ts = .ok [] []) : ts = [] := by
  cases ts with
  | nil => rfl
  | cons t r =>
    cases n with
    | zero => rw [rest_full (sep := sepL) (r := t :: r) rfl] at h; cases h
    | succ m =>
      rw [rest_some (sep := sepL) (r := t :: r) rfl] at h
      obtain ⟨x, s, h1, h2⟩ := then_ok h
      obtain ⟨xs, s2, h3, h4⟩ := then_ok h2
      cases h4
/-- Where one of the rules stands among the tokens, and those behind it. -/
theorem rules_split : ∀ (i n : Nat) (ts : List Tok) (l : List ItemP) (x : ItemP), rest sepL itemP n ts = .ok l [] → l[i]? = some x →
    ∃ A t B D C, ts = A ++ t :: B ∧ t.pos = x.pos ∧ rest sepL itemP n A = .ok (l.take i) [] ∧ t :: B = D ++ C ∧ rest sepL itemP n C = .ok (l.drop (i + 1)) [] ∧ ((i + 1 = l.length ∧ C = []) ∨ ∃ y u C', l[i + 1]? = some y ∧ C = u :: C' ∧ u.pos = y.pos)
  | i, n, ts, [], x, _, hx => by simp at hx
  | 0, n, ts, a :: bs, x, h, hx => by
    obtain ⟨t, r, s, m, rfl, rfl, h1, h2⟩ := rules_cons h
    simp only [List.getElem?_cons_zero, Option.some.injEq] at hx
    subst hx
    obtain ⟨pre, e, _⟩ := det_item.ok _ _ _ h1
    have hl := rest_length h2
    refine ⟨[], t, r, pre, s, rfl, (item_pos h1).symm, rest_none rfl _, e, rest_fewer h2 (Nat.le_succ_of_le hl), ?_⟩
    cases bs with
    | nil => exact Or.inl ⟨rfl, rules_nil h2⟩
    | cons b bs =>
      obtain ⟨u, r2, s2, m2, rfl, _, h3, _⟩ := rules_cons h2
      exact Or.inr ⟨b, u, r2, rfl, rfl, (item_pos h3).symm⟩
  | i + 1, n, ts, a :: bs, x, h, hx => by
    obtain ⟨t, r, s, m, rfl, rfl, h1, h2⟩ := rules_cons h
    obtain ⟨A, t2, B, D, C, rfl, h3, h4, h5, h6, h7⟩ := rules_split i m s bs x h2 (by simpa using hx)
    obtain ⟨pre, e, k⟩ := det_item.ok _ _ _ h1
    have hl := rest_length h2
    refine ⟨pre ++ A, t2, B, D, C, by rw [e]; simp, h3, ?_, h5, ?_, ?_⟩
    · have k2 := k A (Or.inr fun s _ h => h)
      have hne := eats_ne eats_item k2
      cases hq : pre ++ A with
      | nil => simp at hq; exact absurd hq.1 hne
      | cons z zs =>
        rw [rest_some (sep := sepL) (r := z :: zs) rfl, ← hq, then_of k2, then_of h4]
        rfl
    · rw [List.drop_succ_cons]
      exact rest_fewer h6 (by rw [List.length_drop]; omega)
    · rcases h7 with ⟨e1, e2⟩ | ⟨y, u, C', e1, e2, e3⟩
      · exact Or.inl ⟨by rw [List.length_cons]; omega, e2⟩
      · exact Or.inr ⟨y, u, C', by simpa using e1, e2, e3⟩
/-- P7.6 -/
theorem leaves {l : List UInt8} (hl : l.length ≤ 4000) {xs : List ItemP} {O : Int} (h : parseAll l = (xs, 0, O)) {i : Nat} {x : ItemP} (hx : xs[i]? = some x) {en : Nat} (hen : (i + 1 = xs.length ∧ en = l.length) ∨ ∃ y, xs[i + 1]? = some y ∧ en = y.pos) :
    x.pos ≤ en ∧ en ≤ l.length ∧ ∃ bs, parseAll ((l.take x.pos ++ [10]) ++ l.drop en) = (bs, 0, 0) ∧ bs.map ItemP.bare = (xs.take i ++ xs.drop (i + 1)).map ItemP.bare := by
  obtain ⟨ts, h1, h2, h3, h4⟩ := parse_inv h
  obtain ⟨A, t, B, D, C, rfl, k1, k2, k3, k4, k5⟩ := rules_split i 200 ts xs x h4 hx
  obtain ⟨c1, _, _⟩ := lx_cut h2
  obtain ⟨d1, _, d2⟩ := lx_from h2
  rw [Nat.sub_zero] at c1 d1 d2
  have hlen := rest_length h4
  have hi : i < xs.length := (List.getElem?_eq_some_iff.1 hx).1
  have key : x.pos ≤ en ∧ en ≤ l.length ∧ ∃ us, Lx 0 (l.drop en) us none ∧ sans us = sans C := by
    rcases k5 with ⟨e1, rfl⟩ | ⟨y, u, C', e1, rfl, e3⟩
    · rcases hen with ⟨_, rfl⟩ | ⟨y, e4, _⟩
      · exact ⟨by rw [← k1]; exact d2, Nat.le_refl _, [], by rw [List.drop_length]; exact Lx.nil 0 [] rfl, rfl⟩
      · have := (List.getElem?_eq_some_iff.1 e4).1
        omega
    · rcases hen with ⟨e4, _⟩ | ⟨y', e4, rfl⟩
      · have := (List.getElem?_eq_some_iff.1 e1).1
        omega
      · rw [e1] at e4
        cases e4
        rw [k3] at d1
        obtain ⟨f1, f2, f3⟩ := lx_from d1
        rw [List.drop_drop, show t.pos + (u.pos - t.pos) = u.pos by omega, e3] at f1
        rw [List.length_drop] at f3
        obtain ⟨us, g1, g2⟩ := lx_move f1 0
        exact ⟨by omega, by omega, us, g1, g2⟩
  obtain ⟨p1, p2, us, q1, q2⟩ := key
  refine ⟨p1, p2, ?_⟩
  rw [k1] at c1
  have hlx := parts_ok c1 q1
  have hle := lexAll_none (by simp only [List.length_append, List.length_take, List.length_drop, List.length_cons, List.length_nil]; omega) hlx
  obtain ⟨bs, r1, r2, r3⟩ := rules_sans (us := shift ((l.take x.pos).length + 1) us) k4 (by rw [sans_shift]; exact q2.symm)
  have hj := rules_join k2 (rest_fewer r1 (by rw [r3, List.length_drop]; omega)) (by rw [r3, List.length_take, List.length_drop]; omega)
  exact ⟨_, parse_rules hle hj, by rw [List.map_append, List.map_append, r2]⟩
end Foyer.Rule
