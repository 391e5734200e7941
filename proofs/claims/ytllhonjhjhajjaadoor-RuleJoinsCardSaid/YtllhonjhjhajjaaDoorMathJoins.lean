/-
  The plain mathematics of rules' joins: how great offsets and how long lists can be.
-/
import Derived.Test.YtllhonjhjhajjaaDoorMathOffs
namespace Foyer.Rule
open Foyer.Lexer

theorem lx_upto {a : Nat} {l : List UInt8} {ts : List Tok} {e : Option (Nat × Nat)} (h : Lx a l ts e) : ∀ t ∈ ts, t.pos ≤ a + l.length := by
  induction h with
  | nil => simp
  | bad => simp
  | good a g T rest k v ts e h hT hr ih =>
    intro t ht
    rcases List.mem_cons.1 ht with rfl | ht
    · simp only [List.length_append]; omega
    · have := ih t ht; simp only [List.length_append] at this ⊢; omega
section
variable {S : Tok → Prop} {N : Nat}
theorem chain_tests (hS : ∀ u, S u → u.pos ≤ N) : ∀ {l : List TestP} {lo hi : Nat}, Chain (TestAt S) lo l hi → (l = [] ∨ lo + l.length ≤ N + 1) ∧ ∀ t ∈ l, t.pos ≤ N
  | [], _, _, _ => ⟨Or.inl rfl, fun _ h => by cases h⟩
  | t :: l, lo, hi, ⟨m, h1, ⟨h2, h3, u, h4, h5, _⟩, h6⟩ => by
    obtain ⟨k1, k2⟩ := chain_tests hS h6
    have hu := hS u h4
    refine ⟨Or.inr ?_, fun x hx => ?_⟩
    · rcases k1 with rfl | k1
      · simp only [List.length_cons, List.length_nil]; omega
      · simp only [List.length_cons]; omega
    · rcases List.mem_cons.1 hx with rfl | hx
      · omega
      · exact k2 x hx
theorem chain_lists (hS : ∀ u, S u → u.pos ≤ N) : ∀ {c : List (List TestP)} {lo hi : Nat}, Chain (ListAt S) lo c hi → (c = [] ∨ lo + c.length ≤ N + 1) ∧ ∀ l ∈ c, l.length ≤ N + 1 ∧ ∀ t ∈ l, t.pos ≤ N
  | [], _, _, _ => ⟨Or.inl rfl, fun _ h => by cases h⟩
  | l :: c, lo, hi, ⟨m, h1, ⟨h2, h3⟩, h6⟩ => by
    obtain ⟨k1, k2⟩ := chain_lists hS h6
    obtain ⟨j1, j2⟩ := chain_tests hS h3
    have j3 := j1.resolve_left h2
    have hlp := List.length_pos_iff.2 h2
    have hm : lo + 1 ≤ m := by
      cases l with
      | nil => exact absurd rfl h2
      | cons t l =>
        obtain ⟨m', g1, ⟨g2, g3, _⟩, g4⟩ := h3
        have hle : ∀ (l : List TestP) (a b : Nat), Chain (TestAt S) a l b → a ≤ b := fun l => by
          induction l with
          | nil => intro a b h; exact h
          | cons t l ih => intro a b h; obtain ⟨m, h1, _, h2⟩ := h; exact Nat.le_trans h1 (ih _ _ h2)
        have := hle _ _ _ g4
        omega
    refine ⟨Or.inr ?_, fun x hx => ?_⟩
    · rcases k1 with rfl | k1
      · simp only [List.length_cons, List.length_nil]; omega
      · simp only [List.length_cons]; omega
    · rcases List.mem_cons.1 hx with rfl | hx
      · exact ⟨by omega, j2⟩
      · exact k2 x hx
theorem chain_items (hS : ∀ u, S u → u.pos ≤ N) : ∀ {as : List ItemP} {lo hi : Nat}, Chain (ItemAt S) lo as hi → ∀ x ∈ as, x.pos ≤ N ∧ x.conds.length ≤ N + 1 ∧ ∀ l ∈ x.conds, l.length ≤ N + 1 ∧ ∀ t ∈ l, t.pos ≤ N
  | [], _, _, _ => fun _ h => by cases h
  | a :: as, lo, hi, ⟨m, h1, ⟨h2, ⟨u, h3, h4, _⟩, _, _, h5⟩, h6⟩ => fun x hx => by
    rcases List.mem_cons.1 hx with rfl | hx
    · have hu := hS u h3
      obtain ⟨k1, k2⟩ := chain_lists hS h5
      refine ⟨by omega, ?_, k2⟩
      rcases k1 with k1 | k1
      · rw [k1]; exact Nat.zero_le _
      · omega
    · exact chain_items hS h6 x hx
end
/-- How great offsets and how long lists can be. -/
def Small (N : Nat) (xs : List ItemP) : Prop := ∀ x ∈ xs, x.pos ≤ N ∧ x.conds.length ≤ N + 1 ∧ ∀ l ∈ x.conds, l.length ≤ N + 1 ∧ ∀ t ∈ l, t.pos ≤ N
theorem small_parse {l : List UInt8} {as : List ItemP} {O : Int} (h : parseAll l = (as, 0, O)) : Small l.length as := by
  obtain ⟨ts, _, h1, _, hi, hc⟩ := offsets h
  exact chain_items (fun u hu => by have := lx_upto h1 u hu; omega) hc
end Foyer.Rule
