/-
  The plain mathematics of shares: they are nearest, even of two, grow with the amount, and are opposite for the opposite. No program is spoken of here.
-/
import Derived.Test.YtdjilieadhnhcaaDoorMathSplit
namespace Foyer.Money

theorem size_cases (n : Int) : (n < 0 ∧ size n = -n ∧ sgn n = -1) ∨ (0 ≤ n ∧ size n = n ∧ sgn n = 1) := by
  unfold size sgn
  by_cases h : n < 0
  · left; rw [if_pos h, if_pos h]; exact ⟨h, rfl, rfl⟩
  · right; rw [if_neg h, if_neg h]; exact ⟨by omega, rfl, rfl⟩

/-- The nearest number: its distance, and that it is even where there are two. -/
theorem nearest_spec (x d : Int) (hd : 1 ≤ d) :
    -d ≤ 2 * (nearest x d * d - x) ∧ 2 * (nearest x d * d - x) ≤ d ∧ (2 * (nearest x d * d - x) = d ∨ 2 * (nearest x d * d - x) = -d → nearest x d % 2 = 0) := by
  have e := Int.mul_ediv_add_emod x d
  have h0 := Int.emod_nonneg x (b := d) (by omega)
  have h1 := Int.emod_lt_of_pos x (b := d) (by omega)
  unfold nearest
  generalize x / d = q at *
  generalize x % d = r at *
  have hq : q * d = d * q := Int.mul_comm _ _
  have hq1 : (q + 1) * d = d * q + d := by rw [Int.add_mul, hq]; omega
  split
  · rename_i h; rw [hq1]; omega
  · rename_i h; rw [hq]; omega

theorem nearest_mono {x y d : Int} (hd : 1 ≤ d) (h : x ≤ y) : nearest x d ≤ nearest y d := by
  have e1 := Int.mul_ediv_add_emod x d
  have e2 := Int.mul_ediv_add_emod y d
  have hq := Int.ediv_le_ediv (c := d) (by omega) h
  unfold nearest
  by_cases hlt : x / d < y / d
  · split <;> split <;> omega
  · have e : y / d = x / d := by omega
    rw [e] at e2 ⊢
    split <;> split <;> omega
theorem nearest_nonneg {x d : Int} (hd : 1 ≤ d) (h : 0 ≤ x) : 0 ≤ nearest x d := by
  have := Int.ediv_nonneg h (b := d) (by omega)
  unfold nearest; split <;> omega
theorem nearest_self {x d : Int} (hd : 1 ≤ d) : nearest (x * d) d = x := by
  unfold nearest
  rw [Int.mul_ediv_cancel _ (by omega), Int.mul_emod_left, if_neg (by omega)]

theorem share_self {n d : Int} (h : valid n = true) (hd : 1 ≤ d) (hd' : d ≤ 1000000) : shareS n d d = (n, 0) := by
  have hr : vRatio d d = true := by simp only [vRatio, Bool.and_eq_true, decide_eq_true_eq]; omega
  have hs : sgn n * nearest (size n * d) d = n := by
    rw [nearest_self hd]
    rcases size_cases n with ⟨_, e1, e2⟩ | ⟨_, e1, e2⟩ <;> rw [e1, e2] <;> omega
  unfold shareS; rw [h, hr, hs, h]; rfl

theorem valid_neg {n : Int} : valid (-n) = valid n := by
  rw [Bool.eq_iff_iff, valid_iff, valid_iff]; omega
theorem share_neg (n num d : Int) (hd : 1 ≤ d) : shareS (-n) num d = (-(shareS n num d).1, (shareS n num d).2) := by
  by_cases h0 : n = 0
  · subst h0
    have hz : sgn 0 * nearest (size 0 * num) d = 0 := by
      have : size 0 * num = 0 * d := by show (0 : Int) * num = 0 * d; omega
      rw [this, nearest_self hd]; rfl
    unfold shareS
    rw [Int.neg_zero, hz]
    split
    · split <;> rfl
    · rfl
  · have e1 : size (-n) = size n := by unfold size; split <;> split <;> omega
    have e2 : sgn (-n) = -sgn n := by unfold sgn; split <;> split <;> omega
    unfold shareS
    rw [valid_neg, e1, e2, Int.neg_mul, valid_neg]
    split
    · split <;> rfl
    · rfl

/-- What a share that is an amount is. -/
theorem share_is {n num d : Int} (h : (shareS n num d).2 = 0) : valid n = true ∧ vRatio num d = true ∧ (shareS n num d).1 = sgn n * nearest (size n * num) d ∧ valid (shareS n num d).1 = true := by
  unfold shareS at h ⊢
  split at h
  · rename_i hv
    obtain ⟨h1, h2⟩ := (Bool.and_eq_true _ _).mp hv
    rw [if_pos hv]
    split at h
    · rename_i hs
      rw [if_pos hs]
      exact ⟨h1, h2, rfl, hs⟩
    · simp at h
  · simp at h

theorem share_near {n num d : Int} (h : (shareS n num d).2 = 0) :
    -d ≤ 2 * ((shareS n num d).1 * d - n * num) ∧ 2 * ((shareS n num d).1 * d - n * num) ≤ d ∧
    (2 * ((shareS n num d).1 * d - n * num) = d ∨ 2 * ((shareS n num d).1 * d - n * num) = -d → (shareS n num d).1 % 2 = 0) := by
  obtain ⟨hv, hr, e, _⟩ := share_is h
  simp only [vRatio, Bool.and_eq_true, decide_eq_true_eq] at hr
  rw [e]
  have hs := nearest_spec (size n * num) d (by omega)
  rcases size_cases n with ⟨_, e1, e2⟩ | ⟨_, e1, e2⟩
  · rw [e1] at hs ⊢
    rw [e2]
    have k : -n * num = -(n * num) := Int.neg_mul _ _
    rw [k] at hs ⊢
    generalize n * num = x at *
    have k2 : -1 * nearest (-x) d = -nearest (-x) d := by omega
    rw [k2]
    have k3 : -nearest (-x) d * d = -(nearest (-x) d * d) := Int.neg_mul _ _
    rw [k3]
    generalize nearest (-x) d * d = y at *
    omega
  · rw [e1] at hs ⊢
    rw [e2, Int.one_mul]
    exact hs

theorem share_grows {n m num d : Int} (h1 : (shareS n num d).2 = 0) (h2 : (shareS m num d).2 = 0) (h : n ≤ m) : (shareS n num d).1 ≤ (shareS m num d).1 := by
  obtain ⟨_, hr, e1, _⟩ := share_is h1
  obtain ⟨_, _, e2, _⟩ := share_is h2
  simp only [vRatio, Bool.and_eq_true, decide_eq_true_eq] at hr
  rw [e1, e2]
  have hd : 1 ≤ d := hr.2.1
  have hn := hr.1.1
  rcases size_cases n with ⟨a0, a1, a2⟩ | ⟨a0, a1, a2⟩
  · rcases size_cases m with ⟨b0, b1, b2⟩ | ⟨b0, b1, b2⟩
    · rw [a1, a2, b1, b2]
      have := nearest_mono (x := -m * num) (y := -n * num) hd (Int.mul_le_mul_of_nonneg_right (by omega) hn)
      omega
    · rw [a1, a2, b1, b2]
      have p1 := nearest_nonneg (x := -n * num) hd (Int.mul_nonneg (by omega) hn)
      have p2 := nearest_nonneg (x := m * num) hd (Int.mul_nonneg (by omega) hn)
      omega
  · rcases size_cases m with ⟨b0, b1, b2⟩ | ⟨b0, b1, b2⟩
    · omega
    · rw [a1, a2, b1, b2]
      have := nearest_mono (x := n * num) (y := m * num) hd (Int.mul_le_mul_of_nonneg_right h hn)
      omega
end Foyer.Money
