/-
  The plain mathematics of picking the greatest remainder again and again, as the document's own split does. No program is spoken of here.
-/
import Derived.Test.YtdjilieadhnhcaaDoorMathParts
namespace Foyer.Money

/-- What the search for the best place has found among the first i places, when those of a rank below t are done. -/
def BestAt (rs : List Int) (t i : Nat) (best : Int) : Prop :=
  (best = -1 ∧ ∀ j, j < i → rank rs j < t) ∨ ∃ b : Nat, best = b ∧ b < i ∧ t ≤ rank rs b ∧ ∀ j, j < i → t ≤ rank rs j → j = b ∨ before rs b j = true

theorem best_start (rs : List Int) (t : Nat) : BestAt rs t 0 (-1) := Or.inl ⟨rfl, fun _ hj => absurd hj (Nat.not_lt_zero _)⟩
theorem best_done {rs : List Int} {t i : Nat} {best : Int} (h : BestAt rs t i best) (hd : rank rs i < t) : BestAt rs t (i + 1) best := by
  rcases h with ⟨e, h⟩ | ⟨b, e, hb, ht, h⟩
  · refine Or.inl ⟨e, fun j hj => ?_⟩
    by_cases k : j = i
    · subst k; exact hd
    · exact h j (by omega)
  · refine Or.inr ⟨b, e, by omega, ht, fun j hj hj' => ?_⟩
    by_cases k : j = i
    · subst k; omega
    · exact h j (by omega) hj'
theorem best_first {rs : List Int} {t i : Nat} (h : BestAt rs t i (-1)) (hd : ¬ rank rs i < t) : BestAt rs t (i + 1) i := by
  rcases h with ⟨_, h⟩ | ⟨b, e, _⟩
  · refine Or.inr ⟨i, rfl, by omega, by omega, fun j hj hj' => ?_⟩
    by_cases k : j = i
    · exact Or.inl k
    · have := h j (by omega); omega
  · omega
theorem best_more {rs : List Int} {t i b : Nat} (h : BestAt rs t i b) (hd : ¬ rank rs i < t) (hg : rs.getD b 0 < rs.getD i 0) : BestAt rs t (i + 1) i := by
  rcases h with ⟨e, _⟩ | ⟨c, e, hb, ht, h⟩
  · omega
  · have e' : b = c := by omega
    subst e'
    refine Or.inr ⟨i, rfl, by omega, by omega, fun j hj hj' => ?_⟩
    by_cases k : j = i
    · exact Or.inl k
    · right
      rcases h j (by omega) hj' with h' | h'
      · subst h'
        simp only [before, Bool.or_eq_true, decide_eq_true_eq]
        exact Or.inl hg
      · simp only [before, Bool.or_eq_true, decide_eq_true_eq, Bool.and_eq_true, beq_iff_eq] at *
        omega
theorem best_less {rs : List Int} {t i b : Nat} (h : BestAt rs t i b) (hg : ¬ rs.getD b 0 < rs.getD i 0) : BestAt rs t (i + 1) b := by
  rcases h with ⟨e, _⟩ | ⟨c, e, hb, ht, h⟩
  · omega
  · have e' : b = c := by omega
    subst e'
    refine Or.inr ⟨b, rfl, by omega, ht, fun j hj hj' => ?_⟩
    by_cases k : j = i
    · subst k
      right
      simp only [before, Bool.or_eq_true, decide_eq_true_eq, Bool.and_eq_true, beq_iff_eq]
      omega
    · exact h j (by omega) hj'
/-- THE BEST PLACE OF ALL HAS THE NEXT RANK. -/
theorem best_rank {rs : List Int} {t : Nat} {best : Int} (h : BestAt rs t rs.length best) (ht : t < rs.length) : ∃ b : Nat, best = b ∧ b < rs.length ∧ rank rs b = t := by
  have hc := count_rank rs t (by omega)
  rcases h with ⟨_, h⟩ | ⟨b, e, hb, hbt, h⟩
  · have : (List.range rs.length).countP (fun i => decide (rank rs i < t)) = (List.range rs.length).length := by
      rw [List.countP_eq_length]
      intro j hj
      simpa using h j (List.mem_range.1 hj)
    rw [hc, List.length_range] at this
    omega
  · refine ⟨b, e, hb, ?_⟩
    have hi : (List.range rs.length).countP (fun j => before rs j b) = (List.range rs.length).countP (fun i => decide (rank rs i < t)) := by
      apply List.countP_congr
      intro j hj
      have hj' := List.mem_range.1 hj
      simp only [decide_eq_true_eq]
      constructor
      · intro hbf
        apply Classical.byContradiction
        intro hn
        rcases h j hj' (by omega) with k | k
        · subst k; rw [before_irrefl] at hbf; cases hbf
        · rw [before_asymm k] at hbf; cases hbf
      · intro hr
        by_cases k : j = b
        · subst k; omega
        · rcases before_total (rs := rs) k with h' | h'
          · exact h'
          · have := rank_lt hb h'; omega
    unfold rank at hi ⊢
    rw [hi]; exact hc
theorem rank_inj {rs : List Int} {i j : Nat} (hi : i < rs.length) (hj : j < rs.length) (h : rank rs i = rank rs j) : i = j := by
  apply Classical.byContradiction
  intro hn
  rcases before_total (rs := rs) hn with h' | h'
  · have := rank_lt hi h'; omega
  · have := rank_lt hj h'; omega
theorem sum_take_bases (zs : List Int) (k : Nat) (hk : k < zs.length) : (zs.take (k + 1)).sum = (zs.take k).sum + zs.getD k 0 := by
  rw [List.take_succ_eq_append_getElem (by omega), List.sum_append]
  simp [List.getD_eq_getElem?_getD, List.getElem?_eq_getElem hk]
theorem sum_take_le {zs : List Int} (h : ∀ z ∈ zs, 0 ≤ z) (k : Nat) : 0 ≤ (zs.take k).sum ∧ (zs.take k).sum ≤ zs.sum := by
  have h1 := sum_nonneg (l := zs.take k) fun z hz => h z (List.mem_of_mem_take hz)
  have h2 := sum_nonneg (l := zs.drop k) fun z hz => h z (List.mem_of_mem_drop hz)
  have e : zs.sum = (zs.take k).sum + (zs.drop k).sum := by rw [← List.sum_append, List.take_append_drop]
  omega
end Foyer.Money
