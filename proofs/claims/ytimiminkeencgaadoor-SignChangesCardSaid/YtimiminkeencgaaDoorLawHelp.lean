/-
  What the laws of sign need besides: lengths, and the contracts of the law's own functions in a handy form.
-/
import Derived.Test.YtimiminkeencgaaDoorWalkShown
import Derived.Test.YtimiminkeencgaaDoorLawVerifies
namespace Go.Proofs.YtimiminkeencgaaDoor
open Go.RowKit Go.Sort Foyer.Digest Foyer.Sign

theorem own_c (s : List UInt8) (hs : s.length ≤ 1000) (w : World) :
    Calls Tryd.prog 20 #[.string ⟨s.toArray⟩] w fun e w' => ∃ p cap, e = .returned (.slice p 18 cap) ∧ RdS w' p (endsOf s) ∧ Below w.heap.size w w' :=
  (own_any s hs w).mono fun e w' ⟨v, he, ho, hb⟩ => by
    obtain ⟨p, cap, hv, hr, _⟩ := ho.slice
    rw [show (endsOf s).length = 18 by unfold endsOf; simp] at hv
    exact ⟨p, cap, by rw [he, hv], hr, hb⟩
theorem links_le (t : List UInt8) (n : Nat) (ht : t.length ≤ 1000000) : ∀ x ∈ links t n, x.length ≤ 1000000000 := fun x hx => by
  unfold links at hx
  obtain ⟨i, _, rfl⟩ := List.mem_map.1 hx
  have := chain_length_le t i
  omega
theorem joined_le (ls : List (List UInt8)) (k : Nat) (hk : ls.length = k) (h18 : k ≤ 18) (h : ∀ t ∈ ls, t.length ≤ 1000000) : (joined ls).length ≤ 1000000000 := by
  have := joined_take_length ls h ls.length (Nat.le_refl _)
  rw [List.take_length, hk] at this
  omega
theorem startText_le (s : List UInt8) (hs : s.length ≤ 1000) (i : Nat) (hi : i < 18) : (joined [s, Lib.decDigits i]).length ≤ 1000000000 :=
  joined_le _ 2 rfl (by decide) fun t ht => by
    have h1 := dec_length i
    have h2 := nDigits_le 1 i (by have : (10 : Nat) ^ (1 + 1) = 100 := by decide
                                  omega)
    simp only [List.mem_cons, List.not_mem_nil, or_false] at ht
    rcases ht with rfl | rfl <;> omega
theorem chainsTo_le (s : List UInt8) (n : Nat) (hs : s.length ≤ 1000) : ∀ k, k ≤ 18 → ∀ x ∈ chainsTo s n k, x.length ≤ 1000000000
  | 0, _, x, hx => by cases hx
  | k + 1, hk, x, hx => by
    rw [chainsTo] at hx
    rcases List.mem_append.1 hx with h | h
    · exact chainsTo_le s n hs k (by omega) x h
    · rw [oneChain] at h
      rcases List.mem_cons.1 h with rfl | h
      · exact startText_le s hs k (by omega)
      · exact links_le _ n (by rw [sum_length]; omega) x h
theorem endsOf_le (s : List UInt8) : ∀ t ∈ endsOf s, t.length ≤ 1000000 := fun t ht => by
  unfold endsOf at ht
  obtain ⟨i, _, rfl⟩ := List.mem_map.1 ht
  rw [endAt_length]; omega
theorem endsOf_length (s : List UInt8) : (endsOf s).length = 18 := by unfold endsOf; simp
theorem two_le {l : List (List UInt8)} {x y : List UInt8} {n : Nat} (hl : ∀ t ∈ l, t.length ≤ n) (hx : x.length ≤ n) (hy : y.length ≤ n) : ∀ t ∈ l ++ [x, y], t.length ≤ n := fun t ht => by
  rcases List.mem_append.1 ht with h | h
  · exact hl t h
  · simp only [List.mem_cons, List.not_mem_nil, or_false] at h
    rcases h with rfl | rfl <;> assumption

/-- The test, of a list of the law's own. -/
theorem shown_c (ls : List (List UInt8)) (B : Nat) (v : Value) (w : World) (ho : OwnS w B v ls) (hl : ls.length ≤ 100000) (ht : ∀ t ∈ ls, t.length ≤ 1000000000) (hc : Collides ls) :
    Calls Tryd.prog 22 #[v] w fun e w' => e = .returned (.bool true) ∧ Below w.heap.size w w' := by
  obtain ⟨p, cap, rfl, hr, _⟩ := ho.slice
  exact shown_any ls p _ cap rfl hl ht hc w hr
end Go.Proofs.YtimiminkeencgaaDoor
