/-
  The plain mathematics of texts whose tokens are written each on a line of its own.
-/
import Derived.Test.YtplfknpdaeaefaaDoorMathPlan
namespace Foyer.Plan
open Foyer.Lexer

/-- The tokens' texts, each followed by a line feed. -/
def lines (ts : List Tok) : List UInt8 := ts.flatMap fun t => t.text ++ [10]
/-- The same tokens where those lines have them. -/
def placed : Nat → List Tok → List Tok
  | _, [] => []
  | b, t :: ts => ⟨t.kind, t.text, t.val, b⟩ :: placed (b + (t.text.length + 1)) ts
theorem placed_sans : ∀ (ts : List Tok) (b : Nat), sans (placed b ts) = sans ts
  | [], _ => rfl
  | t :: ts, b => by
    have := placed_sans ts (b + (t.text.length + 1))
    unfold sans at *
    rw [placed, List.map_cons, List.map_cons, this]
theorem placed_length : ∀ (ts : List Tok) (b : Nat), (placed b ts).length = ts.length
  | [], _ => rfl
  | t :: ts, b => by rw [placed, List.length_cons, placed_length, List.length_cons]
/-- Where the i-th token stands then. -/
def placeOf (ts : List Tok) (i : Nat) : Nat := (lines (ts.take i)).length
theorem lines_cons (t : Tok) (ts : List Tok) : lines (t :: ts) = t.text ++ [10] ++ lines ts := by unfold lines; rw [List.flatMap_cons]
theorem lines_snoc (t : Tok) (ts : List Tok) : lines (ts ++ [t]) = lines ts ++ (t.text ++ [10]) := by unfold lines; rw [List.flatMap_append]; simp
theorem placed_at : ∀ (ts : List Tok) (b i : Nat) (t : Tok), ts[i]? = some t → (placed b ts)[i]? = some ⟨t.kind, t.text, t.val, b + placeOf ts i⟩
  | [], _, _, _, h => by simp at h
  | u :: ts, b, 0, t, h => by
    simp only [List.getElem?_cons_zero, Option.some.injEq] at h
    subst h
    rfl
  | u :: ts, b, i + 1, t, h => by
    have := placed_at ts (b + (u.text.length + 1)) i t (by simpa using h)
    rw [placed, List.getElem?_cons_succ, this]
    unfold placeOf
    rw [List.take_succ_cons, lines_cons]
    simp only [List.length_append, List.length_cons, List.length_nil]
    congr 2; omega
theorem lx_lines {a : Nat} {l : List UInt8} {ts : List Tok} {e : Option (Nat × Nat)} (h : Lx a l ts e) : ∀ b, Lx b (lines ts) (placed b ts) none := by
  have key : ∀ {ts : List Tok}, (∀ t ∈ ts, IsTok t.kind t.text t.val (some 10)) → ∀ b, ∀ g : List UInt8, gm false g = some false → Lx (b - g.length) (g ++ lines ts) (placed b ts) none ∨ b < g.length := by
    intro ts
    induction ts with
    | nil =>
      intro _ b g hg
      exact Or.inl (by
        show Lx _ (g ++ []) [] none
        rw [List.append_nil]
        exact Lx.nil _ _ (by rw [hg]; rfl))
    | cons t ts ih =>
      intro hT b g hg
      by_cases hb : b < g.length
      · exact Or.inr hb
      left
      rcases ih (fun u hu => hT u (List.mem_cons_of_mem _ hu)) (b + (t.text.length + 1)) [10] rfl with h | h
      · have e1 : b + (t.text.length + 1) - ([10] : List UInt8).length = b + t.text.length := by simp
        rw [e1] at h
        have := Lx.good (b - g.length) g t.text ([10] ++ lines ts) t.kind t.val (placed (b + (t.text.length + 1)) ts) none hg (by rw [List.cons_append, List.head?_cons]; exact hT t List.mem_cons_self) (by rw [show b - g.length + g.length + t.text.length = b + t.text.length by omega]; exact h)
        rw [show b - g.length + g.length = b by omega] at this
        rw [lines_cons, List.append_assoc]
        exact this
      · simp at h
  have hall : ∀ t ∈ ts, IsTok t.kind t.text t.val (some 10) := by
    induction h with
    | nil => simp
    | bad => simp
    | good a g T rest k v ts e hg hT hr ih =>
      intro t ht
      rcases List.mem_cons.1 ht with rfl | ht
      · exact isTok_next hT (Or.inr fun b hb => by cases hb; exact Or.inl rfl)
      · exact ih t ht
  intro b
  rcases key hall b [] rfl with h | h
  · simpa using h
  · simp at h
theorem lines_length {a : Nat} {l : List UInt8} {ts : List Tok} {e : Option (Nat × Nat)} (h : Lx a l ts e) : (lines ts).length ≤ 2 * l.length := by
  induction h with
  | nil => simp [lines]
  | bad => simp [lines]
  | good a g T rest k v ts e hg hT hr ih =>
    have := isTok_pos hT
    rw [lines_cons]
    simp only [List.length_append, List.length_cons, List.length_nil] at *
    omega
/-- P6.2: the parsing of the lines. -/
theorem gaps_lines {l : List UInt8} (hl : l.length ≤ 2000) {ts : List Tok} (h : Lx 0 l ts none) :
    (parseAll l).1.bare = (parseAll (lines ts)).1.bare ∧ (parseAll l).2.1 = (parseAll (lines ts)).2.1 ∧
      (((parseAll l).2.1 = 0 ∧ (parseAll l).2.2 = 0 ∧ (parseAll (lines ts)).2.2 = 0) ∨ ((parseAll l).2.1 = 7 ∧ (parseAll l).2.2 = (l.length : Int) ∧ (parseAll (lines ts)).2.2 = ((lines ts).length : Int)) ∨
        ((parseAll l).2.1 = 4 ∧ ∃ (i : Nat) (t : Tok), ts[i]? = some t ∧ (parseAll l).2.2 = (t.pos : Int) ∧ (parseAll (lines ts)).2.2 = (placeOf ts i : Int))) := by
  have h1 := lexAll_none (by omega) h
  have h2 := lexAll_none (l := lines ts) (by have := lines_length h; omega) (lx_lines h 0)
  have hg := parse_gaps (placed_sans ts 0).symm l.length (lines ts).length
  unfold parseAll
  rw [h1, h2]
  simp only [if_true]
  obtain ⟨g1, g2, g3⟩ := hg
  refine ⟨g1, g2, ?_⟩
  rcases g3 with ⟨a, b, c⟩ | ⟨a, b, c⟩ | ⟨a, i, t, u, hi, hu, b, c⟩
  · exact Or.inl ⟨a, by rw [b]; rfl, by rw [c]; rfl⟩
  · exact Or.inr (Or.inl ⟨a, by rw [b], by rw [c]⟩)
  · refine Or.inr (Or.inr ⟨a, i, t, hi, by rw [b], ?_⟩)
    have := placed_at ts 0 i t hi
    rw [hu] at this
    cases this
    rw [c]; simp
end Foyer.Plan
