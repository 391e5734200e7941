/-
  The plain mathematics of splits: the parts add up, are nearly exact, are fair, and do not change when the weights are scaled. No program is spoken of here.
-/
import Derived.Test.YtdjilieadhnhcaaDoorMathShare
namespace Foyer.Money

theorem bases_length (n W : Int) (ws : List Int) : (bases n W ws).length = ws.length := by simp [bases]
theorem rests_length (n W : Int) (ws : List Int) : (rests n W ws).length = ws.length := by simp [rests]
theorem bases_get (n W : Int) (ws : List Int) (i : Nat) (hi : i < ws.length) : (bases n W ws).getD i 0 = n * ws.getD i 0 / W := by
  simp [bases, List.getD_eq_getElem?_getD, hi]
theorem rests_get (n W : Int) (ws : List Int) (i : Nat) (hi : i < ws.length) : (rests n W ws).getD i 0 = n * ws.getD i 0 % W := by
  simp [rests, List.getD_eq_getElem?_getD, hi]
theorem divS_get (n : Int) (ws : List Int) (i : Nat) (hi : i < ws.length) :
    (divS n ws).getD i 0 = n * ws.getD i 0 / ws.sum + if (rank (rests n ws.sum ws) i : Int) < left n ws.sum ws then 1 else 0 := by
  rw [← bases_get n ws.sum ws i hi]
  unfold divS; rw [List.getD_eq_getElem?_getD, List.getElem?_map, List.getElem?_range hi]; rfl
theorem divS_len (n : Int) (ws : List Int) : (divS n ws).length = ws.length := by simp [divS]

theorem range_getD (l : List Int) : (List.range l.length).map (fun i => l.getD i 0) = l := by
  apply List.ext_getElem
  · simp
  · intro i h1 h2; simp [h2]
theorem count_getD (l : List Int) (p : Int → Bool) : (List.range l.length).countP (fun i => p (l.getD i 0)) = l.countP p := by
  conv => rhs; rw [← range_getD l]
  rw [List.countP_map]; rfl

theorem sum_marked (f : Nat → Int) (c : Nat → Bool) : ∀ l : List Nat, (l.map fun i => f i + if c i then 1 else 0).sum = (l.map f).sum + (l.countP c : Int)
  | [] => by simp
  | a :: l => by
    have ih := sum_marked f c l
    simp only [List.map_cons, List.sum_cons, List.countP_cons, ih]
    by_cases h : c a
    · simp only [h, if_true]; omega
    · simp only [h, Bool.false_eq_true, if_false]; omega

/-- THE PARTS ADD UP. -/
theorem divS_sum {n : Int} {ws : List Int} (hW : 0 < ws.sum) : (divS n ws).sum = n := by
  have hl0 := left_nonneg (n := n) hW
  have hl1 := left_le (n := n) hW
  have hm := sum_marked (fun i => (bases n ws.sum ws).getD i 0) (fun i => decide ((rank (rests n ws.sum ws) i : Int) < left n ws.sum ws)) (List.range ws.length)
  have hb : (List.range ws.length).map (fun i => (bases n ws.sum ws).getD i 0) = bases n ws.sum ws := by
    have := range_getD (bases n ws.sum ws); rw [bases_length] at this; exact this
  have hc := count_rank (rests n ws.sum ws) (left n ws.sum ws).toNat (by rw [rests_length]; omega)
  rw [rests_length] at hc
  have hc' : (List.range ws.length).countP (fun i => decide ((rank (rests n ws.sum ws) i : Int) < left n ws.sum ws)) = (left n ws.sum ws).toNat := by
    rw [← hc]
    apply List.countP_congr
    intro i _
    simp only [decide_eq_true_eq]; omega
  rw [hb, hc'] at hm
  have e : divS n ws = (List.range ws.length).map fun i => (bases n ws.sum ws).getD i 0 + if decide ((rank (rests n ws.sum ws) i : Int) < left n ws.sum ws) = true then 1 else 0 := by
    unfold divS
    apply List.map_congr_left
    intro i _
    simp only [decide_eq_true_eq]
  rw [e, hm]
  unfold left at *; omega

/-- Only a place with a remainder gets a cent. -/
theorem rest_pos {n : Int} {ws : List Int} (hW : 0 < ws.sum) (i : Nat) (hi : i < ws.length) (h : (rank (rests n ws.sum ws) i : Int) < left n ws.sum ws) : 0 < (rests n ws.sum ws).getD i 0 := by
  have hi' : i < (rests n ws.sum ws).length := by rw [rests_length]; exact hi
  have hb := rests_bound (n := n) hW ws
  have h0 := (hb ((rests n ws.sum ws).getD i 0) (by rw [List.getD_eq_getElem?_getD, List.getElem?_eq_getElem hi']; exact List.getElem_mem _)).1
  apply Classical.byContradiction
  intro hn
  have hz : (rests n ws.sum ws).getD i 0 = 0 := by omega
  have hle := left_le_count (n := n) hW
  have hc : (rests n ws.sum ws).countP (fun r => decide (0 < r)) ≤ rank (rests n ws.sum ws) i := by
    rw [← count_getD (rests n ws.sum ws) (fun r => decide (0 < r))]
    unfold rank
    apply List.countP_mono_left
    intro j _ hj
    simp only [decide_eq_true_eq] at hj
    simp only [before, hz, Bool.or_eq_true, decide_eq_true_eq]
    exact Or.inl hj
  omega

/-- EACH PART IS NEARLY EXACT; a weight 0 gets nothing; no part is negative. -/
theorem divS_near {n : Int} {ws : List Int} (hn : 0 ≤ n) (hw : ∀ z ∈ ws, 0 ≤ z) (hW : 0 < ws.sum) (i : Nat) (hi : i < ws.length) :
    0 ≤ (divS n ws).getD i 0 ∧ (ws.getD i 0 = 0 → (divS n ws).getD i 0 = 0) ∧
    (divS n ws).getD i 0 * ws.sum - n * ws.getD i 0 < ws.sum ∧ -ws.sum < (divS n ws).getD i 0 * ws.sum - n * ws.getD i 0 := by
  have hx : 0 ≤ ws.getD i 0 := hw _ (by rw [List.getD_eq_getElem?_getD, List.getElem?_eq_getElem hi]; exact List.getElem_mem _)
  have hr := rest_pos (n := n) hW i hi
  rw [rests_get n ws.sum ws i hi] at hr
  rw [divS_get n ws i hi]
  generalize ws.getD i 0 = x at *
  have hm : 0 ≤ n * x := Int.mul_nonneg hn hx
  have e := Int.mul_ediv_add_emod (n * x) ws.sum
  have h0 := Int.emod_nonneg (n * x) (b := ws.sum) (by omega)
  have h1 := Int.emod_lt_of_pos (n * x) hW
  have hq : 0 ≤ n * x / ws.sum := Int.ediv_nonneg hm (by omega)
  have hz : x = 0 → n * x / ws.sum = 0 ∧ n * x % ws.sum = 0 := by intro h; subst h; simp
  generalize n * x % ws.sum = r at *
  have hc : n * x / ws.sum * ws.sum = ws.sum * (n * x / ws.sum) := Int.mul_comm _ _
  have hc1 : (n * x / ws.sum + 1) * ws.sum = ws.sum * (n * x / ws.sum) + ws.sum := by rw [Int.add_mul, hc]; omega
  by_cases hp : (rank (rests n ws.sum ws) i : Int) < left n ws.sum ws
  · rw [if_pos hp]
    have hr' := hr hp
    rw [hc1]
    refine ⟨by omega, fun h => ?_, by omega, by omega⟩
    have := hz h; omega
  · rw [if_neg hp, Int.add_zero]
    rw [hc]
    refine ⟨by omega, fun h => (hz h).1, by omega, by omega⟩

/-! ### Fairness -/
theorem rank_lt {rs : List Int} {i k : Nat} (hi : i < rs.length) (h : before rs i k = true) : rank rs i < rank rs k := by
  unfold rank
  have hs : (List.range rs.length).countP (fun j => before rs j i) + (List.range rs.length).countP (fun j => decide (j = i)) ≤ (List.range rs.length).countP (fun j => before rs j k) := by
    have e : (List.range rs.length).countP (fun j => before rs j i) + (List.range rs.length).countP (fun j => decide (j = i)) = (List.range rs.length).countP (fun j => before rs j i || decide (j = i)) := by
      generalize List.range rs.length = l
      induction l with
      | nil => rfl
      | cons a l ih =>
        simp only [List.countP_cons]
        by_cases ha : a = i
        · subst ha; simp only [before_irrefl]; simp; omega
        · simp only [ha, decide_false, Bool.or_false]; simp; omega
    rw [e]
    apply List.countP_mono_left
    intro j _ hj
    simp only [Bool.or_eq_true, decide_eq_true_eq] at hj
    rcases hj with hj | hj
    · exact before_trans hj h
    · subst hj; exact h
  have h1 : 0 < (List.range rs.length).countP (fun j => decide (j = i)) := by
    rw [List.countP_pos_iff]
    exact ⟨i, List.mem_range.2 hi, by simp⟩
  omega

theorem divS_fair {n : Int} {ws : List Int} (hn : 0 ≤ n) (hw : ∀ z ∈ ws, 0 ≤ z) (hW : 0 < ws.sum) (i k : Nat) (hi : i < ws.length) (hk : k < ws.length) :
    (ws.getD k 0 < ws.getD i 0 → (divS n ws).getD k 0 ≤ (divS n ws).getD i 0) ∧
    (ws.getD i 0 = ws.getD k 0 → i < k → (divS n ws).getD i 0 = (divS n ws).getD k 0 ∨ (divS n ws).getD i 0 = (divS n ws).getD k 0 + 1) := by
  have hx : 0 ≤ ws.getD k 0 := hw _ (by rw [List.getD_eq_getElem?_getD, List.getElem?_eq_getElem hk]; exact List.getElem_mem _)
  rw [divS_get n ws i hi, divS_get n ws k hk]
  have hb : before (rests n ws.sum ws) i k = true → rank (rests n ws.sum ws) i < rank (rests n ws.sum ws) k := rank_lt (by rw [rests_length]; exact hi)
  have hbd : before (rests n ws.sum ws) i k = (decide (n * ws.getD k 0 % ws.sum < n * ws.getD i 0 % ws.sum) || (n * ws.getD k 0 % ws.sum == n * ws.getD i 0 % ws.sum && decide (i < k))) := by
    unfold before; rw [rests_get n ws.sum ws i hi, rests_get n ws.sum ws k hk]
  rw [hbd] at hb
  simp only [Bool.or_eq_true, decide_eq_true_eq, Bool.and_eq_true, beq_iff_eq] at hb
  have hl0 : n = 0 → left n ws.sum ws = 0 := by
    intro h
    have h1 := left_eq (n := n) hW
    have h2 : rests n ws.sum ws = ws.map fun _ => 0 := by unfold rests; apply List.map_congr_left; intro z _; rw [h]; simp
    have h3 : ∀ l : List Int, (l.map fun _ => (0 : Int)).sum = 0 := by intro l; induction l with
      | nil => rfl
      | cons a l ih => simp only [List.map_cons, List.sum_cons, ih]; omega
    rw [h2, h3] at h1
    rcases Int.mul_eq_zero.1 h1 with h4 | h4
    · exact h4
    · omega
  generalize ws.getD k 0 = y at *
  generalize ws.getD i 0 = x at *
  constructor
  · intro hxy
    have hle : n * y ≤ n * x := Int.mul_le_mul_of_nonneg_left (by omega) hn
    have hq := Int.ediv_le_ediv hW hle
    by_cases hlt : n * y / ws.sum < n * x / ws.sum
    · split <;> split <;> omega
    · have e : n * x / ws.sum = n * y / ws.sum := by omega
      have e1 := Int.mul_ediv_add_emod (n * x) ws.sum
      have e2 := Int.mul_ediv_add_emod (n * y) ws.sum
      rw [e] at e1 ⊢
      by_cases h0 : n = 0
      · have := hl0 h0
        rw [this]; split <;> split <;> omega
      · have hlt2 : n * y < n * x := by
          have : n * (y + 1) ≤ n * x := Int.mul_le_mul_of_nonneg_left (by omega) hn
          rw [Int.mul_add] at this; omega
        have := hb (Or.inl (by omega))
        split <;> split <;> omega
  · intro hxy hik
    subst hxy
    have := hb (Or.inr ⟨rfl, hik⟩)
    split <;> split <;> omega

/-! ### Scale -/
theorem sum_scaled (k : Int) : ∀ ws : List Int, (ws.map fun w => k * w).sum = k * ws.sum
  | [] => by simp
  | a :: l => by simp only [List.map_cons, List.sum_cons, sum_scaled k l, Int.mul_add]
theorem bases_scaled {n k : Int} (hk : 0 < k) (W : Int) (ws : List Int) : bases n (k * W) (ws.map fun w => k * w) = bases n W ws := by
  unfold bases
  rw [List.map_map]
  apply List.map_congr_left
  intro w _
  simp only [Function.comp_apply]
  rw [show n * (k * w) = k * (n * w) from Int.mul_left_comm _ _ _, Int.mul_ediv_mul_of_pos _ _ hk]
theorem rests_scaled {n k : Int} (hk : 0 < k) (W : Int) (ws : List Int) : rests n (k * W) (ws.map fun w => k * w) = (rests n W ws).map fun r => k * r := by
  unfold rests
  rw [List.map_map, List.map_map]
  apply List.map_congr_left
  intro w _
  simp only [Function.comp_apply]
  rw [show n * (k * w) = k * (n * w) from Int.mul_left_comm _ _ _, Int.mul_emod_mul_of_pos _ _ hk]
theorem before_scaled {k : Int} (hk : 0 < k) (rs : List Int) (i j : Nat) (hi : i < rs.length) (hj : j < rs.length) : before (rs.map fun r => k * r) j i = before rs j i := by
  have ei : (rs.map fun r => k * r).getD i 0 = k * rs.getD i 0 := by simp [List.getD_eq_getElem?_getD, hi]
  have ej : (rs.map fun r => k * r).getD j 0 = k * rs.getD j 0 := by simp [List.getD_eq_getElem?_getD, hj]
  unfold before
  rw [ei, ej]
  have h1 : decide (k * rs.getD i 0 < k * rs.getD j 0) = decide (rs.getD i 0 < rs.getD j 0) := by
    rw [decide_eq_decide]; exact Int.mul_lt_mul_left hk
  have h2 : (k * rs.getD i 0 == k * rs.getD j 0) = (rs.getD i 0 == rs.getD j 0) := by
    rw [Bool.eq_iff_iff, beq_iff_eq, beq_iff_eq]
    constructor
    · intro h; exact Int.eq_of_mul_eq_mul_left (by omega) h
    · intro h; rw [h]
  rw [h1, h2]
theorem rank_scaled {k : Int} (hk : 0 < k) (rs : List Int) (i : Nat) (hi : i < rs.length) : rank (rs.map fun r => k * r) i = rank rs i := by
  unfold rank
  rw [List.length_map]
  apply List.countP_congr
  intro j hj
  rw [before_scaled hk rs i j hi (List.mem_range.1 hj)]
/-- THE SPLIT BY SCALED WEIGHTS. -/
theorem divS_scaled {n k : Int} (hk : 0 < k) (ws : List Int) : divS n (ws.map fun w => k * w) = divS n ws := by
  unfold divS
  rw [List.length_map, sum_scaled]
  apply List.map_congr_left
  intro i hi
  have hi' := List.mem_range.1 hi
  unfold left
  rw [bases_scaled hk, rests_scaled hk, rank_scaled hk _ _ (by rw [rests_length]; exact hi')]
theorem divS_one {n k : Int} (hk : 0 < k) : divS n [k] = [n] := by
  have h1 : (divS n [k]).length = 1 := divS_len n [k]
  have h2 : (divS n [k]).sum = n := divS_sum (n := n) (ws := [k]) (by simpa using hk)
  match h : divS n [k], h1 with
  | [x], _ => rw [h] at h2; simp at h2; rw [h2]
theorem divS_zero {ws : List Int} (hw : ∀ z ∈ ws, 0 ≤ z) (hW : 0 < ws.sum) : ∀ z ∈ divS 0 ws, z = 0 := by
  have hs : (divS 0 ws).sum = 0 := divS_sum hW
  have hn : ∀ z ∈ divS 0 ws, 0 ≤ z := by
    intro z hz
    obtain ⟨i, hi, rfl⟩ := List.mem_iff_getElem.1 hz
    have hi' : i < ws.length := by rw [divS_len] at hi; exact hi
    have := (divS_near (n := 0) (by omega) hw hW i hi').1
    rw [List.getD_eq_getElem?_getD, List.getElem?_eq_getElem hi] at this
    exact this
  intro z hz
  have := le_sum hn z hz
  have := hn z hz
  omega

/-! ### With the sign -/
theorem splitS_len (n : Int) (ws : List Int) : (splitS n ws).length = ws.length := by simp [splitS, divS]
theorem splitS_get (n : Int) (ws : List Int) (i : Nat) (hi : i < ws.length) : (splitS n ws).getD i 0 = (divS (size n) ws).getD i 0 * sgn n := by
  have : i < (divS (size n) ws).length := by rw [divS_len]; exact hi
  simp [splitS, List.getD_eq_getElem?_getD, this]
theorem sum_times (s : Int) : ∀ l : List Int, (l.map fun p => p * s).sum = l.sum * s
  | [] => by simp
  | a :: l => by simp only [List.map_cons, List.sum_cons, sum_times s l, Int.add_mul]
theorem size_sgn (n : Int) : size n * sgn n = n := by
  rcases size_cases n with ⟨_, e1, e2⟩ | ⟨_, e1, e2⟩ <;> rw [e1, e2] <;> omega
theorem splitS_sum {n : Int} {ws : List Int} (hW : 0 < ws.sum) : (splitS n ws).sum = n := by
  unfold splitS; rw [sum_times, divS_sum hW, size_sgn]
theorem splitS_scaled {n k : Int} (hk : 0 < k) (ws : List Int) : splitS n (ws.map fun w => k * w) = splitS n ws := by
  unfold splitS; rw [divS_scaled hk]
theorem splitS_one {n k : Int} (hk : 0 < k) : splitS n [k] = [n] := by
  unfold splitS; rw [divS_one hk]; simp [size_sgn]
theorem splitS_zero {ws : List Int} (hw : ∀ z ∈ ws, 0 ≤ z) (hW : 0 < ws.sum) : ∀ z ∈ splitS 0 ws, z = 0 := by
  intro z hz
  obtain ⟨p, hp, rfl⟩ := List.mem_map.1 hz
  have := divS_zero hw hW p hp
  rw [this]; simp
theorem splitS_neg {n : Int} (hn : 0 ≤ n) {ws : List Int} (hw : ∀ z ∈ ws, 0 ≤ z) (hW : 0 < ws.sum) (i : Nat) (hi : i < ws.length) : (splitS (-n) ws).getD i 0 = -(splitS n ws).getD i 0 := by
  rw [splitS_get _ _ _ hi, splitS_get _ _ _ hi]
  by_cases h0 : n = 0
  · subst h0
    have hz := divS_zero hw hW ((divS (size 0) ws).getD i 0) (by
      rw [List.getD_eq_getElem?_getD, List.getElem?_eq_getElem (by rw [divS_len]; exact hi)]; exact List.getElem_mem _)
    show (divS (size (-0)) ws).getD i 0 * _ = _
    rw [Int.neg_zero, hz]; simp
  · have e1 : size (-n) = size n := by unfold size; split <;> split <;> omega
    have e2 : sgn (-n) = -sgn n := by unfold sgn; split <;> split <;> omega
    rw [e1, e2]; simp [Int.mul_neg]
/-- EACH PART OF A SPLIT, as the promise has it. -/
theorem splitS_near {n : Int} {ws : List Int} (hw : ∀ z ∈ ws, 0 ≤ z) (hW : 0 < ws.sum) (i : Nat) (hi : i < ws.length) :
    (ws.getD i 0 = 0 → (splitS n ws).getD i 0 = 0) ∧ (0 ≤ n → 0 ≤ (splitS n ws).getD i 0) ∧ (n ≤ 0 → (splitS n ws).getD i 0 ≤ 0) ∧
    (splitS n ws).getD i 0 * ws.sum - n * ws.getD i 0 < ws.sum ∧ -ws.sum < (splitS n ws).getD i 0 * ws.sum - n * ws.getD i 0 := by
  rw [splitS_get _ _ _ hi]
  have hs : 0 ≤ size n := by unfold size; split <;> omega
  obtain ⟨h1, h2, h3, h4⟩ := divS_near hs hw hW i hi
  have hz : n = 0 → (divS (size n) ws).getD i 0 = 0 := by
    intro h0
    have : size n = 0 := by rw [h0]; rfl
    rw [this]
    exact divS_zero hw hW _ (by rw [List.getD_eq_getElem?_getD, List.getElem?_eq_getElem (by rw [divS_len]; exact hi)]; exact List.getElem_mem _)
  rcases size_cases n with ⟨a0, a1, a2⟩ | ⟨a0, a1, a2⟩
  · rw [a1] at h1 h2 h3 h4
    rw [a1, a2]
    rw [Int.neg_mul] at h3 h4
    clear hz
    generalize (divS (-n) ws).getD i 0 = d at *
    generalize n * ws.getD i 0 = x at *
    have e : d * -1 = -d := by omega
    have e2 : -d * ws.sum = -(d * ws.sum) := Int.neg_mul _ _
    rw [e, e2]
    refine ⟨fun h => by have := h2 h; omega, fun h => by omega, fun h => by omega, by omega, by omega⟩
  · rw [a1] at h1 h2 h3 h4 hz
    rw [a1, a2]
    rw [Int.mul_one]
    refine ⟨h2, fun _ => h1, fun h => ?_, h3, h4⟩
    have := hz (by omega); omega
theorem splitS_bd {n : Int} {ws : List Int} (hv : valid n = true) (hw : ∀ z ∈ ws, 0 ≤ z) (hW : 0 < ws.sum) (i : Nat) (hi : i < ws.length) : -1000000000 ≤ (splitS n ws).getD i 0 ∧ (splitS n ws).getD i 0 ≤ 1000000000 := by
  have hvv := valid_iff.1 hv
  have hs : 0 ≤ size n ∧ size n ≤ 1000000000 := by unfold size; split <;> omega
  have hd : ∀ z ∈ divS (size n) ws, 0 ≤ z := by
    intro z hz
    obtain ⟨j, hj, rfl⟩ := List.mem_iff_getElem.1 hz
    have hj' : j < ws.length := by rw [divS_len] at hj; exact hj
    have := (divS_near hs.1 hw hW j hj').1
    rw [List.getD_eq_getElem?_getD, List.getElem?_eq_getElem hj] at this
    exact this
  have h1 := hd ((divS (size n) ws).getD i 0) (by rw [List.getD_eq_getElem?_getD, List.getElem?_eq_getElem (by rw [divS_len]; exact hi)]; exact List.getElem_mem _)
  have h2 := le_sum hd ((divS (size n) ws).getD i 0) (by rw [List.getD_eq_getElem?_getD, List.getElem?_eq_getElem (by rw [divS_len]; exact hi)]; exact List.getElem_mem _)
  rw [divS_sum hW] at h2
  rw [splitS_get _ _ _ hi]
  rcases size_cases n with ⟨_, _, e2⟩ | ⟨_, _, e2⟩ <;> rw [e2] <;> omega
theorem mul_le_bd {a b : Int} (x y : Nat) (h1 : -(x : Int) ≤ a) (h2 : a ≤ x) (h3 : 0 ≤ b) (h4 : b ≤ y) : -((x * y : Nat) : Int) ≤ a * b ∧ a * b ≤ ((x * y : Nat) : Int) := by
  have e : ((x * y : Nat) : Int) = (x : Int) * y := by simp
  rw [e]
  constructor
  · have k1 : -(x : Int) * b ≤ a * b := Int.mul_le_mul_of_nonneg_right h1 h3
    have k2 : (x : Int) * b ≤ x * y := Int.mul_le_mul_of_nonneg_left h4 (by omega)
    rw [Int.neg_mul] at k1; omega
  · have k1 : a * b ≤ x * b := Int.mul_le_mul_of_nonneg_right h2 h3
    have k2 : (x : Int) * b ≤ x * y := Int.mul_le_mul_of_nonneg_left h4 (by omega)
    omega
end Foyer.Money
