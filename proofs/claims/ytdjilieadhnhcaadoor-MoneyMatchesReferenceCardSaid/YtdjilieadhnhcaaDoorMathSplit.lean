/-
  The plain mathematics of sums, shares and splits of amounts. No program is spoken of here.
-/
import Derived.Test.YtdjilieadhnhcaaDoorMathText
namespace Foyer.Money

/-! ### Sums -/
def sumS (l : List Int) : Int × Int :=
  if l.all valid then (if valid l.sum then (l.sum, 0) else (0, 2)) else (0, 1)

/-! ### Shares -/
def sgn (n : Int) : Int := if n < 0 then -1 else 1
def size (n : Int) : Int := if n < 0 then -n else n
def vRatio (num den : Int) : Bool := decide (0 ≤ num ∧ num ≤ 1000000) && decide (1 ≤ den ∧ den ≤ 1000000)
def nearest (num den : Int) : Int := if den < 2 * (num % den) ∨ (2 * (num % den) = den ∧ num / den % 2 = 1) then num / den + 1 else num / den
def shareS (n num den : Int) : Int × Int :=
  if valid n && vRatio num den then
    (if valid (sgn n * nearest (size n * num) den) then (sgn n * nearest (size n * num) den, 0) else (0, 2))
  else (0, 1)

/-! ### Splits -/
/-- Which of two places comes first when the cents that are left are given out. -/
def before (rs : List Int) (j i : Nat) : Bool := decide (rs.getD i 0 < rs.getD j 0) || (rs.getD i 0 == rs.getD j 0 && decide (j < i))
/-- How many places come before a place. -/
def rank (rs : List Int) (i : Nat) : Nat := (List.range rs.length).countP fun j => before rs j i
def bases (n W : Int) (ws : List Int) : List Int := ws.map fun w => n * w / W
def rests (n W : Int) (ws : List Int) : List Int := ws.map fun w => n * w % W
def left (n W : Int) (ws : List Int) : Int := n - (bases n W ws).sum
def divS (n : Int) (ws : List Int) : List Int :=
  (List.range ws.length).map fun i => (bases n ws.sum ws).getD i 0 + if (rank (rests n ws.sum ws) i : Int) < left n ws.sum ws then 1 else 0
def vWeights (ws : List Int) : Bool := ws.all (fun w => decide (0 ≤ w ∧ w ≤ 1000000000)) && decide (0 < ws.sum)
def splitS (n : Int) (ws : List Int) : List Int := (divS (size n) ws).map fun p => p * sgn n

theorem before_irrefl (rs : List Int) (i : Nat) : before rs i i = false := by simp [before]
theorem before_asymm {rs : List Int} {i j : Nat} (h : before rs i j = true) : before rs j i = false := by
  simp only [before, Bool.or_eq_true, decide_eq_true_eq, Bool.and_eq_true, beq_iff_eq, Bool.or_eq_false_iff, decide_eq_false_iff_not, Bool.and_eq_false_iff, beq_eq_false_iff_ne] at *
  omega
theorem before_trans {rs : List Int} {i j k : Nat} (h : before rs i j = true) (h' : before rs j k = true) : before rs i k = true := by
  simp only [before, Bool.or_eq_true, decide_eq_true_eq, Bool.and_eq_true, beq_iff_eq] at *
  omega
theorem before_total {rs : List Int} {i j : Nat} (h : i ≠ j) : before rs i j = true ∨ before rs j i = true := by
  simp only [before, Bool.or_eq_true, decide_eq_true_eq, Bool.and_eq_true, beq_iff_eq] at *
  omega

/-- In an order of all places the k-th place has the rank k. -/
theorem rank_of_order {rs : List Int} {o : List Nat} (hp : o.Perm (List.range rs.length)) (hs : o.Pairwise fun a b => before rs a b = true) (k : Nat) (hk : k < o.length) : rank rs o[k] = k := by
  unfold rank
  rw [← hp.countP_eq]
  have e : o = o.take k ++ o[k] :: o.drop (k + 1) := by
    rw [← List.drop_eq_getElem_cons hk, List.take_append_drop]
  have hl : (o.take k).length = k := by rw [List.length_take]; omega
  generalize o[k] = x at e ⊢
  generalize o.take k = p at e hl
  generalize o.drop (k + 1) = q at e
  subst e
  have h1 : p.countP (fun j => before rs j x) = p.length := by
    rw [List.countP_eq_length]
    intro j hj
    exact (List.pairwise_append.1 hs).2.2 j hj x (by simp)
  have h2 : q.countP (fun j => before rs j x) = 0 := by
    rw [List.countP_eq_zero]
    intro j hj
    have := (List.pairwise_cons.1 (List.pairwise_append.1 hs).2.1).1 j hj
    rw [before_asymm this]; decide
  rw [List.countP_append, List.countP_cons, h1, h2, before_irrefl]
  simpa using hl

/-- There is an order of all places. -/
theorem order_exists (rs : List Int) : ∃ o : List Nat, o.Perm (List.range rs.length) ∧ o.Pairwise fun a b => before rs a b = true := by
  refine ⟨(List.range rs.length).mergeSort fun a b => !before rs b a, List.mergeSort_perm _ _, ?_⟩
  have hp := List.mergeSort_perm (List.range rs.length) fun a b => !before rs b a
  have hn : ((List.range rs.length).mergeSort fun a b => !before rs b a).Nodup := hp.nodup_iff.2 List.nodup_range
  have hs := List.pairwise_mergeSort (le := fun a b => !before rs b a) (by
    intro a b c h1 h2
    simp only [before, Bool.not_eq_true', Bool.or_eq_false_iff, decide_eq_false_iff_not, Bool.and_eq_false_iff, beq_eq_false_iff_ne] at *
    omega) (by
    intro a b
    simp only [before, Bool.or_eq_true, Bool.not_eq_true', Bool.or_eq_false_iff, decide_eq_false_iff_not, Bool.and_eq_false_iff, beq_eq_false_iff_ne]
    omega) (List.range rs.length)
  refine (hs.and hn).imp ?_
  intro a b ⟨h, hne⟩
  rcases before_total (rs := rs) hne with h' | h'
  · exact h'
  · rw [h'] at h; exact absurd h (by decide)

/-- As many places as are left have a rank below that number. -/
theorem count_rank (rs : List Int) (m : Nat) (hm : m ≤ rs.length) : (List.range rs.length).countP (fun i => decide (rank rs i < m)) = m := by
  obtain ⟨o, hp, hs⟩ := order_exists rs
  have hl : o.length = rs.length := by rw [hp.length_eq, List.length_range]
  rw [← hp.countP_eq, ← List.take_append_drop m o, List.countP_append]
  have h1 : (o.take m).countP (fun i => decide (rank rs i < m)) = (o.take m).length := by
    rw [List.countP_eq_length]
    intro i hi
    obtain ⟨k, hk, rfl⟩ := List.mem_take_iff_getElem.1 hi
    rw [rank_of_order hp hs k (by omega)]
    simp; omega
  have h2 : (o.drop m).countP (fun i => decide (rank rs i < m)) = 0 := by
    rw [List.countP_eq_zero]
    intro i hi
    obtain ⟨k, hk, rfl⟩ := List.mem_drop_iff_getElem.1 hi
    rw [rank_of_order hp hs (m + k) (by omega)]
    simp
  rw [h1, h2, List.length_take]; omega

/-- A place is among the first ones of an order exactly if its rank says so. -/
theorem mem_take_order {rs : List Int} {o : List Nat} (hp : o.Perm (List.range rs.length)) (hs : o.Pairwise fun a b => before rs a b = true) (m i : Nat) (hi : i < rs.length) : i ∈ o.take m ↔ rank rs i < m := by
  have hl : o.length = rs.length := by rw [hp.length_eq, List.length_range]
  have hio : i ∈ o := hp.mem_iff.2 (List.mem_range.2 hi)
  obtain ⟨k, hk, rfl⟩ := List.mem_iff_getElem.1 hio
  have hr := rank_of_order hp hs k hk
  constructor
  · intro h
    obtain ⟨k', hk', e⟩ := List.mem_take_iff_getElem.1 h
    have := rank_of_order hp hs k' (by omega)
    rw [e] at this
    omega
  · intro h
    exact List.mem_take_iff_getElem.2 ⟨k, by omega, rfl⟩

/-! ### What the remainders add up to -/
theorem sum_parts (n W : Int) : ∀ ws : List Int, W * (bases n W ws).sum + (rests n W ws).sum = n * ws.sum
  | [] => by simp [bases, rests]
  | w :: ws => by
    have ih := sum_parts n W ws
    have h := Int.mul_ediv_add_emod (n * w) W
    simp only [bases, rests, List.map_cons, List.sum_cons] at *
    rw [Int.mul_add, Int.mul_add]; omega

theorem rests_bound {n W : Int} (hW : 0 < W) (ws : List Int) : ∀ r ∈ rests n W ws, 0 ≤ r ∧ r < W := by
  intro r hr
  obtain ⟨w, _, rfl⟩ := List.mem_map.1 hr
  exact ⟨Int.emod_nonneg _ (by omega), Int.emod_lt_of_pos _ hW⟩

theorem sum_nonneg : ∀ {l : List Int}, (∀ r ∈ l, 0 ≤ r) → 0 ≤ l.sum
  | [], _ => by simp
  | a :: l, h => by
    have := sum_nonneg fun r hr => h r (List.mem_cons_of_mem _ hr)
    have := h a (by simp)
    simp only [List.sum_cons]; omega
/-- The sum of remainders below W is at most W for each that is not 0, and less if there is one. -/
theorem sum_le_count {W : Int} (hW : 0 < W) : ∀ {l : List Int}, (∀ r ∈ l, 0 ≤ r ∧ r < W) → l.sum ≤ (l.countP fun r => decide (0 < r)) * W ∧ (0 < (l.countP fun r => decide (0 < r)) → l.sum < (l.countP fun r => decide (0 < r)) * W)
  | [], _ => by simp
  | a :: l, h => by
    obtain ⟨h1, h2⟩ := sum_le_count hW fun r hr => h r (List.mem_cons_of_mem _ hr)
    have ha := h a (by simp)
    simp only [List.sum_cons, List.countP_cons]
    by_cases hp : 0 < a
    · simp only [hp, decide_true, if_true]
      rw [Int.natCast_add, Int.add_mul]
      constructor
      · simp; omega
      · intro _; simp; omega
    · have : a = 0 := by omega
      subst this
      have e : decide (0 < (0 : Int)) = false := by decide
      simp only [e, Bool.false_eq_true, if_false, Int.zero_add, Nat.add_zero]
      exact ⟨h1, h2⟩

theorem le_sum : ∀ {l : List Int}, (∀ r ∈ l, 0 ≤ r) → ∀ x ∈ l, x ≤ l.sum
  | [], _, x, h => by simp at h
  | a :: l, h, x, hx => by
    have h0 := sum_nonneg fun r hr => h r (List.mem_cons_of_mem _ hr)
    have ha := h a (by simp)
    simp only [List.sum_cons]
    rcases List.mem_cons.1 hx with rfl | hx
    · omega
    · have := le_sum (fun r hr => h r (List.mem_cons_of_mem _ hr)) x hx; omega
/-- Each first part is from 0 to the amount. -/
theorem bases_bd {n : Int} {ws : List Int} (hn : 0 ≤ n) (hw : ∀ z ∈ ws, 0 ≤ z) (hW : 0 < ws.sum) : ∀ z ∈ bases n ws.sum ws, 0 ≤ z ∧ z ≤ n := by
  intro z hz
  obtain ⟨x, hx, rfl⟩ := List.mem_map.1 hz
  have hm0 : 0 ≤ n * x := Int.mul_nonneg hn (hw x hx)
  refine ⟨Int.ediv_nonneg hm0 (by omega), ?_⟩
  have h2 : n * x ≤ n * ws.sum := Int.mul_le_mul_of_nonneg_left (le_sum hw x hx) hn
  have h3 : n * x / ws.sum ≤ n * ws.sum / ws.sum := Int.ediv_le_ediv (by omega) h2
  rw [Int.mul_ediv_cancel _ (by omega)] at h3
  exact h3

theorem left_eq {n : Int} {ws : List Int} (_hW : 0 < ws.sum) : left n ws.sum ws * ws.sum = (rests n ws.sum ws).sum := by
  have := sum_parts n ws.sum ws
  unfold left
  rw [Int.sub_mul]
  have e : (bases n ws.sum ws).sum * ws.sum = ws.sum * (bases n ws.sum ws).sum := Int.mul_comm _ _
  omega

theorem left_nonneg {n : Int} {ws : List Int} (hW : 0 < ws.sum) : 0 ≤ left n ws.sum ws := by
  have h := left_eq (n := n) hW
  have := sum_nonneg fun r hr => (rests_bound (n := n) hW ws r hr).1
  rw [← h] at this
  by_cases hc : 0 ≤ left n ws.sum ws
  · exact hc
  · have : left n ws.sum ws * ws.sum < 0 := Int.mul_neg_of_neg_of_pos (by omega) hW
    omega
/-- There are no more cents left than remainders that are not 0. -/
theorem left_le_count {n : Int} {ws : List Int} (hW : 0 < ws.sum) : left n ws.sum ws ≤ ((rests n ws.sum ws).countP fun r => decide (0 < r)) := by
  have h := left_eq (n := n) hW
  have h2 := (sum_le_count hW (rests_bound (n := n) hW ws)).1
  rw [← h] at h2
  exact Int.le_of_mul_le_mul_right h2 hW
theorem left_le {n : Int} {ws : List Int} (hW : 0 < ws.sum) : left n ws.sum ws ≤ ws.length := by
  have h1 := left_le_count (n := n) hW
  have h2 := List.countP_le_length (p := fun r : Int => decide (0 < r)) (l := rests n ws.sum ws)
  have h3 : (rests n ws.sum ws).length = ws.length := by simp [rests]
  omega
end Foyer.Money
