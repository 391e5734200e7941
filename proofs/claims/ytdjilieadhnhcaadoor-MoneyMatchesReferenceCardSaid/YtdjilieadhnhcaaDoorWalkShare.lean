/-
  The walks of absolute, nearest, validRatio, Share, Sum, validWeights, and of the law's own total.
-/
import Derived.Test.YtdjilieadhnhcaaDoorWalkNum
namespace Go.Proofs.YtdjilieadhnhcaaDoor
open Go.RowKit Foyer.Money

theorem absolute_any (n : Int) (w : World) (h : valid n = true) :
    Calls Tryd.prog 27 #[.int .i64 n] w fun e w' => e = .returned (.tuple #[.int .i64 (size n), .int .i64 (sgn n)]) ∧ w = w' := by
  obtain ⟨h1, h2⟩ := valid_iff.1 h
  clear h
  by_cases hn : n < 0
  · have e1 : size n = -n := by unfold size; rw [if_pos hn]
    have e2 : sgn n = -1 := by unfold sgn; rw [if_pos hn]
    rw [e1, e2]; clear e1 e2
    go_enter Tryd.func27, Tryd.ntmps27
    go_wp2
    go_ret2
    exact ⟨rfl, rfl⟩
  · have e1 : size n = n := by unfold size; rw [if_neg hn]
    have e2 : sgn n = 1 := by unfold sgn; rw [if_neg hn]
    rw [e1, e2]; clear e1 e2
    go_enter Tryd.func27, Tryd.ntmps27
    go_wp2
    go_ret2
    exact ⟨rfl, rfl⟩

theorem nearest_any (n d : Int) (w : World) (h0 : 0 ≤ n) (h1 : n ≤ 1000000000000000) (hd : 1 ≤ d) (hd' : d ≤ 1000000) :
    Calls Tryd.prog 28 #[.int .i64 n, .int .i64 d] w fun e w' => e = .returned (.int .i64 (nearest n d)) ∧ ∃ q, w' = w.drewN q := by
  have b1 : 0 ≤ n / d := Int.ediv_nonneg h0 (by omega)
  have b2 : n / d ≤ n := Int.ediv_le_self _ h0
  have b3 : 0 ≤ n % d := Int.emod_nonneg _ (by omega)
  have b4 : n % d < d := Int.emod_lt_of_pos _ (by omega)
  have b5 : 0 ≤ n / d % 2 := Int.emod_nonneg _ (by omega)
  have hdz : (d == 0) = false := by simp; omega
  by_cases c1 : d < 2 * (n % d)
  · have e1 : nearest n d = n / d + 1 := by unfold nearest; rw [if_pos (Or.inl c1)]
    rw [e1]; clear e1
    go_enter Tryd.func28, Tryd.ntmps28
    go_wp2
    go_quiet (fail)
    go_wp2
    go_ret
    exact ⟨rfl, _, rfl⟩
  · by_cases c2 : 2 * (n % d) = d
    · have c2' : (2 * (n % d) == d) = true := by simp [c2]
      by_cases c3 : n / d % 2 = 1
      · have c3' : (n / d % 2 == 1) = true := by simp [c3]
        have e1 : nearest n d = n / d + 1 := by unfold nearest; rw [if_pos (Or.inr ⟨c2, c3⟩)]
        rw [e1]; clear e1 c2 c3
        go_enter Tryd.func28, Tryd.ntmps28
        go_wp2
        go_quiet (fail)
        go_wp2
        go_ret
        exact ⟨rfl, _, rfl⟩
      · have c3' : (n / d % 2 == 1) = false := by simp [c3]
        have e1 : nearest n d = n / d := by unfold nearest; rw [if_neg (by omega)]
        rw [e1]; clear e1 c2 c3
        go_enter Tryd.func28, Tryd.ntmps28
        go_wp2
        go_quiet (fail)
        go_wp2
        go_ret
        exact ⟨rfl, _, rfl⟩
    · have c2' : (2 * (n % d) == d) = false := by simp [c2]
      have e1 : nearest n d = n / d := by unfold nearest; rw [if_neg (by omega)]
      rw [e1]; clear e1 c2
      go_enter Tryd.func28, Tryd.ntmps28
      go_wp2
      go_quiet (fail)
      go_wp2
      go_ret
      exact ⟨rfl, _, rfl⟩

theorem validRatio_any (num den : Int) (w : World) :
    Calls Tryd.prog 26 #[.agg #[.int .i64 num, .int .i64 den]] w fun e w' => e = .returned (.bool (vRatio num den)) ∧ Below w.heap.size w w' := by
  have hbel : ∀ o, Below w.heap.size w (w.alloc o) := fun o => (Below.refl _ _).alloc (Nat.le_refl _) o
  by_cases h1 : 0 ≤ num ∧ num ≤ 1000000
  · obtain ⟨h1, h1'⟩ := h1
    by_cases h2 : 1 ≤ den ∧ den ≤ 1000000
    · have hv : vRatio num den = true := by simp only [vRatio, Bool.and_eq_true, decide_eq_true_eq]; exact ⟨⟨h1, h1'⟩, h2⟩
      rw [hv]; clear hv
      obtain ⟨h2, h2'⟩ := h2
      go_enter Tryd.func26, Tryd.ntmps26
      go_wp2_with fail
      refine (within_yes _ _ _ _ h1 h1').mono ?_; rintro e w' ⟨rfl, rfl⟩
      go_wp2_with fail
      refine (within_yes _ _ _ _ h2 h2').mono ?_; rintro e w' ⟨rfl, rfl⟩
      go_wp2
      go_ret
      exact ⟨rfl, hbel _⟩
    · have hv : vRatio num den = false := by simp only [vRatio, Bool.and_eq_false_iff, decide_eq_false_iff_not]; exact Or.inr h2
      have h2 : den < 1 ∨ 1000000 < den := by omega
      rw [hv]; clear hv
      go_enter Tryd.func26, Tryd.ntmps26
      go_wp2_with fail
      refine (within_yes _ _ _ _ h1 h1').mono ?_; rintro e w' ⟨rfl, rfl⟩
      go_wp2_with fail
      refine (within_no _ _ _ _ h2).mono ?_; rintro e w' ⟨rfl, rfl⟩
      go_wp2
      go_ret
      exact ⟨rfl, hbel _⟩
  · have hv : vRatio num den = false := by simp only [vRatio, Bool.and_eq_false_iff, decide_eq_false_iff_not]; exact Or.inl h1
    have h1 : num < 0 ∨ 1000000 < num := by omega
    rw [hv]; clear hv
    go_enter Tryd.func26, Tryd.ntmps26
    go_wp2_with (go_at_call 35; refine (within_no _ _ _ _ h1).mono ?_; rintro e w' ⟨rfl, rfl⟩)
    go_ret
    exact ⟨rfl, hbel _⟩

theorem nearest_le (n d : Int) (h0 : 0 ≤ n) (h1 : n ≤ 1000000000000000) (hd : 1 ≤ d) : 0 ≤ nearest n d ∧ nearest n d ≤ 1000000000000001 := by
  have b1 : 0 ≤ n / d := Int.ediv_nonneg h0 (by omega)
  have b2 : n / d ≤ n := Int.ediv_le_self _ h0
  unfold nearest; split <;> omega
theorem size_bd {n : Int} (h : valid n = true) : 0 ≤ size n ∧ size n ≤ 1000000000 := by
  have := valid_iff.1 h
  unfold size; split <;> omega
theorem sgn_cases (n : Int) : sgn n = 1 ∨ sgn n = -1 := by unfold sgn; split <;> simp
theorem vRatio_iff {num den : Int} : vRatio num den = true ↔ (0 ≤ num ∧ num ≤ 1000000) ∧ (1 ≤ den ∧ den ≤ 1000000) := by
  simp only [vRatio, Bool.and_eq_true, decide_eq_true_eq]
theorem size_mul_bd {n num : Int} (h : valid n = true) (h0 : 0 ≤ num) (h1 : num ≤ 1000000) : 0 ≤ size n * num ∧ size n * num ≤ 1000000000000000 := by
  obtain ⟨a, b⟩ := size_bd h
  refine ⟨Int.mul_nonneg a h0, ?_⟩
  have := Int.mul_le_mul b h1 h0 (by omega)
  omega

theorem share_bad (n num den : Int) (w : World) (h : (valid n && vRatio num den) = false) :
    Calls Tryd.prog 13 #[.int .i64 n, .agg #[.int .i64 num, .int .i64 den]] w fun e w' => e = .returned (.tuple #[.int .i64 0, .int .i64 1]) ∧ Below w.heap.size w w' := by
  have hbel : ∀ o, Below w.heap.size w (w.alloc o) := fun o => (Below.refl _ _).alloc (Nat.le_refl _) o
  cases hv : valid n
  · clear h
    go_enter Tryd.func13, Tryd.ntmps13
    go_wp2_with fail
    refine (valid_no _ _ hv).mono ?_; rintro e w' ⟨rfl, rfl⟩
    go_wp2
    go_ret2
    exact ⟨rfl, hbel _⟩
  · have hr : vRatio num den = false := by simpa [hv] using h
    clear h
    have Hr := Lib.hid hr; clear hr
    go_enter Tryd.func13, Tryd.ntmps13
    go_wp2_with fail
    refine (valid_yes _ _ hv).mono ?_; rintro e w' ⟨rfl, rfl⟩
    go_wp2_with fail
    refine (validRatio_any _ _ _).mono ?_; rintro e w' ⟨rfl, hb⟩
    rw [Hr.out]
    have hb' := (hbel _).trans (hb.mono (by simp))
    clear hb hbel
    go_wp2
    go_ret2
    exact ⟨rfl, hb'⟩

theorem share_ok (n num den : Int) (w : World) (h : (valid n && vRatio num den) = true) :
    Calls Tryd.prog 13 #[.int .i64 n, .agg #[.int .i64 num, .int .i64 den]] w fun e w' => e = .returned (.tuple #[.int .i64 (shareS n num den).1, .int .i64 (shareS n num den).2]) ∧ Below w.heap.size w w' := by
  have hbel : ∀ o, Below w.heap.size w (w.alloc o) := fun o => (Below.refl _ _).alloc (Nat.le_refl _) o
  have hS : shareS n num den = if valid (sgn n * nearest (size n * num) den) then (sgn n * nearest (size n * num) den, 0) else (0, 2) := by unfold shareS; rw [if_pos h]
  have HS := Lib.hid hS; clear hS
  obtain ⟨hv, hr⟩ := (Bool.and_eq_true _ _).mp h
  clear h
  obtain ⟨⟨r1, r2⟩, r3, r4⟩ := vRatio_iff.1 hr
  obtain ⟨m1, m2⟩ := size_mul_bd hv r1 r2
  obtain ⟨n1, n2⟩ := nearest_le (size n * num) den m1 m2 r3
  obtain ⟨s1, s2⟩ := size_bd hv
  have s3 : -1 ≤ sgn n ∧ sgn n ≤ 1 := by rcases sgn_cases n with e | e <;> rw [e] <;> decide
  obtain ⟨s3, s4⟩ := s3
  have p1 : -1000000000000001 ≤ sgn n * nearest (size n * num) den ∧ sgn n * nearest (size n * num) den ≤ 1000000000000001 := by
    rcases sgn_cases n with e | e <;> rw [e] <;> omega
  obtain ⟨p1, p2⟩ := p1
  have Hr := Lib.hid hr; clear hr
  have Hv := Lib.hid hv; clear hv
  generalize hx : nearest (size n * num) den = x at *
  have Hx := Lib.hid hx; clear hx
  go_enter Tryd.func13, Tryd.ntmps13
  go_wp2_with fail
  refine (valid_yes _ _ Hv.out).mono ?_; rintro e w' ⟨rfl, rfl⟩
  go_wp2_with fail
  refine (validRatio_any _ _ _).mono ?_; rintro e w1 ⟨rfl, hb⟩
  rw [Hr.out]
  have hb' := (hbel _).trans (hb.mono (by simp))
  have hc0 : w1.cell? ⟨w.heap.size, 0, none⟩ = some (.int .i64 num) := by rw [hb.cell (by simp)]; simp
  have hc1 : w1.cell? ⟨w.heap.size, 1, none⟩ = some (.int .i64 den) := by rw [hb.cell (by simp)]; simp
  clear hb hbel
  go_wp2_with fail
  refine (absolute_any _ _ Hv.out).mono ?_; rintro e w' ⟨rfl, rfl⟩
  go_wp2_with fail
  refine (nearest_any _ _ _ m1 m2 r3 r4).mono ?_; rintro e w' ⟨rfl, q, rfl⟩
  rw [Hx.out]
  cases hy : valid (sgn n * x)
  · have Hy := Lib.hid hy; clear hy
    go_wp2_with fail
    refine (valid_no _ _ Hy.out).mono ?_; rintro e w' ⟨rfl, rfl⟩
    go_wp2
    go_ret2
    exact ⟨by rw [HS.out, Hy.out]; rfl, ⟨hb'.os, hb'.tape, hb'.output, hb'.size, hb'.block⟩⟩
  · have Hy := Lib.hid hy; clear hy
    go_wp2_with fail
    refine (valid_yes _ _ Hy.out).mono ?_; rintro e w' ⟨rfl, rfl⟩
    go_wp2
    go_ret2
    exact ⟨by rw [HS.out, Hy.out]; rfl, ⟨hb'.os, hb'.tape, hb'.output, hb'.size, hb'.block⟩⟩

theorem share_any (n num den : Int) (w : World) :
    Calls Tryd.prog 13 #[.int .i64 n, .agg #[.int .i64 num, .int .i64 den]] w fun e w' => e = .returned (.tuple #[.int .i64 (shareS n num den).1, .int .i64 (shareS n num den).2]) ∧ Below w.heap.size w w' := by
  cases h : valid n && vRatio num den
  · have e : shareS n num den = (0, 1) := by unfold shareS; rw [h]; rfl
    rw [e]
    exact share_bad n num den w h
  · exact share_ok n num den w h
end Go.Proofs.YtdjilieadhnhcaaDoor
