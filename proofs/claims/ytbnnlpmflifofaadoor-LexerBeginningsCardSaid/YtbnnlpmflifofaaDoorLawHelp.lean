/-
  What the laws' walks share.
-/
import Derived.Test.YtbnnlpmflifofaaDoorHead
import Derived.Test.YtbnnlpmflifofaaDoorEnv
namespace Go.Proofs.YtbnnlpmflifofaaDoor
open Go.RowKit Go.Sort Foyer.Lexer

theorem lx_pos {a : Nat} {l : List UInt8} {ts : List Foyer.Lexer.Tok} {e : Option (Nat × Nat)} (h : Lx a l ts e) : ∀ t ∈ ts, t.pos + t.text.length ≤ a + l.length := by
  induction h with
  | nil => simp
  | bad => simp
  | good a g T rest k v ts e h hT hr ih =>
    intro t ht
    rcases List.mem_cons.1 ht with rfl | ht
    · simp only [List.length_append]; omega
    · have := ih t ht; simp only [List.length_append]; omega
theorem lexAll_pos (l : List UInt8) : ∀ t ∈ (lexAll l).1, t.pos + t.text.length ≤ l.length := by
  obtain ⟨ts, e, h⟩ := lx_some 0 l
  have hr := lx_raw h (l.length + 1) (by omega)
  have hp := lx_pos h
  unfold lexAll
  split
  · simp
  · simp only [hr]
    split
    · simp
    · split
      · intro t ht; have := hp t ht; omega
      · simp
/-- What Lex returns, under names. -/
theorem lex_c (t : ByteArray) (ht : t.size ≤ 1000000) (ts : List Foyer.Lexer.Tok) (E : Nat) (O : Int) (h : lexAll t.data.toList = (ts, E, O)) (w : World) :
    Calls Tryd.prog 12 #[.string t] w fun e w' => ∃ p cap, e = .returned (.tuple #[.slice p ts.length cap, .int .i64 (E : Nat), .int .i64 O]) ∧ RdT w' p ts ∧ ts.length ≤ cap ∧ cap ≤ maxLen ∧ Below w.heap.size w w' := by
  refine (lex_any t ht w).mono ?_
  rintro e w' ⟨p, cap, rfl, hr, hc, hm, hb⟩
  rw [h] at hr hc
  refine ⟨p, cap, by rw [h], hr, hc, hm.1, hb⟩
theorem lex_n (t : ByteArray) (ht : t.size ≤ 1000000) (ts : List Foyer.Lexer.Tok) (n E : Nat) (O : Int) (hn : ts.length = n) (h : lexAll t.data.toList = (ts, E, O)) (w : World) :
    Calls Tryd.prog 12 #[.string t] w fun e w' => ∃ p cap, e = .returned (.tuple #[.slice p n cap, .int .i64 (E : Nat), .int .i64 O]) ∧ RdT w' p ts ∧ n ≤ cap ∧ cap ≤ maxLen ∧ Below w.heap.size w w' := by
  subst hn; exact lex_c t ht ts E O h w
/-- With what is known of a slice that is nil. -/
theorem lex_q (t : ByteArray) (ht : t.size ≤ 1000000) (ts : List Foyer.Lexer.Tok) (n E : Nat) (O : Int) (hn : ts.length = n) (h : lexAll t.data.toList = (ts, E, O)) (w : World) :
    Calls Tryd.prog 12 #[.string t] w fun e w' => ∃ p cap, e = .returned (.tuple #[.slice p n cap, .int .i64 (E : Nat), .int .i64 O]) ∧ RdT w' p ts ∧ n ≤ cap ∧ cap ≤ maxLen ∧ Below w.heap.size w w' ∧ (p = none → cap = 0) := by
  subst hn
  refine (lex_any t ht w).mono ?_
  rintro e w' ⟨p, cap, rfl, hr, hc, hm, hb⟩
  rw [h] at hr hc
  exact ⟨p, cap, by rw [h], hr, hc, hm.1, hb, hm.2⟩
/-- The few ways in which a short text may be read. -/
theorem lex_ways (l : List UInt8) (hl : l.length ≤ 5000) : (∃ ts, Lx 0 l ts none ∧ lexAll l = (ts, 0, 0)) ∨ ∃ ts d p, Lx 0 l ts (some (d, p)) ∧ lexAll l = ([], d, (p : Int)) ∧ (d = 3 ∨ d = 5 ∨ d = 6) ∧ p < l.length := by
  obtain ⟨ts, e, h⟩ := lx_some 0 l
  cases e with
  | none => exact Or.inl ⟨ts, h, lexAll_none hl h⟩
  | some x =>
    obtain ⟨d, p⟩ := x
    obtain ⟨h1, h2, h3⟩ := lx_err h d p rfl
    exact Or.inr ⟨ts, d, p, h, lexAll_some hl h, h1, by omega⟩
end Go.Proofs.YtbnnlpmflifofaaDoor
