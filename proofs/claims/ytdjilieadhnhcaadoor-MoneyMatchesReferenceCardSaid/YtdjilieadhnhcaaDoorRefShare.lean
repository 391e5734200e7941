/-
  The document's own Share and Weights: they return what the program's do.
-/
import Derived.Test.YtdjilieadhnhcaaDoorRefNum
namespace Go.Proofs.YtdjilieadhnhcaaDoor
open Go.RowKit Foyer.Money

theorem nearest_zero {d : Int} (hd : 1 ≤ d) : nearest 0 d = 0 := by
  have := nearest_self (x := 0) hd
  rw [Int.zero_mul] at this; exact this
/-- The share, as the document's own function computes it: the sign is that of the product. -/
theorem share_by_product {n num den : Int} (h : (valid n && vRatio num den) = true) :
    (n * num < 0 → shareS n num den = if valid (nearest (-(n * num)) den) then (-1 * nearest (-(n * num)) den, 0) else (0, 2)) ∧
    (0 ≤ n * num → shareS n num den = if valid (nearest (n * num) den) then (1 * nearest (n * num) den, 0) else (0, 2)) := by
  have hr := ((Bool.and_eq_true _ _).mp h).2
  obtain ⟨⟨r1, r2⟩, r3, r4⟩ := vRatio_iff.1 hr
  have hS : shareS n num den = if valid (sgn n * nearest (size n * num) den) then (sgn n * nearest (size n * num) den, 0) else (0, 2) := by unfold shareS; rw [if_pos h]
  rw [hS]
  rcases size_cases n with ⟨h0, e1, e2⟩ | ⟨h0, e1, e2⟩
  · rw [e1, e2]
    have k : -n * num = -(n * num) := Int.neg_mul _ _
    rw [k]
    have hneg : ∀ y : Int, valid (-1 * y) = valid y := fun y => by
      rw [show -1 * y = -y by omega, valid_neg]
    constructor
    · intro _
      rw [hneg]
    · intro hx
      have hx0 : n * num = 0 := by
        have : n * num ≤ 0 := Int.mul_nonpos_of_nonpos_of_nonneg (by omega) r1
        omega
      rw [hx0, Int.neg_zero, nearest_zero r3]
      rfl
  · rw [e1, e2]
    constructor
    · intro hx
      have : 0 ≤ n * num := Int.mul_nonneg h0 r1
      omega
    · intro _
      rw [Int.one_mul]

set_option maxRecDepth 100000 in
theorem rshare_bad (n num den : Int) (w : World) (h : (valid n && vRatio num den) = false) :
    Calls Tryd.prog 14 #[.int .i64 n, .agg #[.int .i64 num, .int .i64 den]] w fun e w' => e = .returned (.tuple #[.int .i64 0, .int .i64 1]) ∧ RowKit.Below w.heap.size w w' := by
  have hbel : ∀ o, RowKit.Below w.heap.size w (w.alloc o) := fun o => (RowKit.Below.refl _ _).alloc (Nat.le_refl _) o
  cases hv : valid n
  · clear h
    go_enter Tryd.func14, Tryd.ntmps14
    go_wp2_with fail
    refine (rvalid_no _ _ hv).mono ?_; rintro e w' ⟨rfl, rfl⟩
    go_wp2
    go_ret2
    exact ⟨rfl, hbel _⟩
  · have hr : vRatio num den = false := by simpa [hv] using h
    clear h
    have Hr := Lib.hid hr; clear hr
    go_enter Tryd.func14, Tryd.ntmps14
    go_wp2_with fail
    refine (rvalid_yes _ _ hv).mono ?_; rintro e w' ⟨rfl, rfl⟩
    go_wp2_with fail
    refine (rratio_any _ _ _).mono ?_; rintro e w' ⟨rfl, hb⟩
    rw [Hr.out]
    have hb' := (hbel _).trans (hb.mono (by simp))
    clear hb hbel
    go_wp2
    go_ret2
    exact ⟨rfl, hb'⟩

/-- What 'nearest' comes to, as the tests have it. -/
theorem nearest_ways (x d : Int) :
    (d < 2 * (x % d) ∧ nearest x d = x / d + 1) ∨
    (¬ d < 2 * (x % d) ∧ (2 * (x % d) == d) = true ∧ (x / d % 2 == 1) = true ∧ nearest x d = x / d + 1) ∨
    (¬ d < 2 * (x % d) ∧ (2 * (x % d) == d) = true ∧ (x / d % 2 == 1) = false ∧ nearest x d = x / d) ∨
    (¬ d < 2 * (x % d) ∧ (2 * (x % d) == d) = false ∧ nearest x d = x / d) := by
  unfold nearest
  by_cases c1 : d < 2 * (x % d)
  · exact Or.inl ⟨c1, by rw [if_pos (Or.inl c1)]⟩
  · by_cases c2 : 2 * (x % d) = d
    · by_cases c3 : x / d % 2 = 1
      · exact Or.inr (Or.inl ⟨c1, by simp [c2], by simp [c3], by rw [if_pos (Or.inr ⟨c2, c3⟩)]⟩)
      · exact Or.inr (Or.inr (Or.inl ⟨c1, by simp [c2], by simp [c3], by rw [if_neg (by omega)]⟩))
    · exact Or.inr (Or.inr (Or.inr ⟨c1, by simp [c2], by rw [if_neg (by omega)]⟩))

set_option maxRecDepth 100000 in
set_option maxHeartbeats 2000000 in
theorem rshare_ok (n num den : Int) (w : World) (h : (valid n && vRatio num den) = true) :
    Calls Tryd.prog 14 #[.int .i64 n, .agg #[.int .i64 num, .int .i64 den]] w fun e w' => e = .returned (.tuple #[.int .i64 (shareS n num den).1, .int .i64 (shareS n num den).2]) ∧ RowKit.Below w.heap.size w w' := by
  have hbel : ∀ o, RowKit.Below w.heap.size w (w.alloc o) := fun o => (RowKit.Below.refl _ _).alloc (Nat.le_refl _) o
  obtain ⟨hS1, hS2⟩ := share_by_product h
  obtain ⟨hv, hr⟩ := (Bool.and_eq_true _ _).mp h
  clear h
  obtain ⟨⟨r1, r2⟩, r3, r4⟩ := vRatio_iff.1 hr
  obtain ⟨v1, v2⟩ := valid_iff.1 hv
  obtain ⟨m1, m2⟩ := mul_le_bd 1000000000 1000000 v1 v2 r1 r2
  have Hr := Lib.hid hr; have Hv := Lib.hid hv; have HS1 := Lib.hid hS1; have HS2 := Lib.hid hS2
  clear hr hv hS1 hS2
  have hdz : (den == 0) = false := by simp; omega
  go_enter Tryd.func14, Tryd.ntmps14
  go_wp2_with fail
  refine (rvalid_yes _ _ Hv.out).mono ?_; rintro e w' ⟨rfl, rfl⟩
  go_wp2_with fail
  refine (rratio_any _ _ _).mono ?_; rintro e w1 ⟨rfl, hb⟩
  rw [Hr.out]
  have hb' := (hbel _).trans (hb.mono (by simp))
  have hc0 : w1.cell? ⟨w.heap.size, 0, none⟩ = some (.int .i64 num) := by rw [hb.cell (by simp)]; simp
  have hc1 : w1.cell? ⟨w.heap.size, 1, none⟩ = some (.int .i64 den) := by rw [hb.cell (by simp)]; simp
  clear hb hbel
  have HB := Lib.hid hb'; clear hb'
  by_cases hx : n * num < 0
  · obtain ⟨y, hy⟩ : ∃ y : Int, n * num = -y := ⟨-(n * num), by omega⟩
    have hs := HS1.out hx
    rw [hy, Int.neg_neg] at hs
    have y0 : 0 ≤ y := by omega
    have yp : 0 < y := by omega
    have y1 : y ≤ 1000000000000000 := by omega
    have q0 : 0 ≤ y / den := Int.ediv_nonneg y0 (by omega)
    have q1 : y / den ≤ y := Int.ediv_le_self _ y0
    have q2 : 0 ≤ y % den := Int.emod_nonneg _ (by omega)
    have q3 : y % den < den := Int.emod_lt_of_pos _ (by omega)
    have q4 : 0 ≤ y / den % 2 := Int.emod_nonneg _ (by omega)
    have hw := nearest_ways y den
    generalize hN : nearest y den = N at *
    clear hx m1 m2 hN
    have HW := Lib.hid hw; clear hw
    have Hs := Lib.hid hs; clear hs
    cases hvN : valid N
    · have HN := Lib.hid hvN; clear hvN
      rw [HN.out] at Hs
      rcases HW.out with ⟨c1, e⟩ | ⟨c1, c2, c3, e⟩ | ⟨c1, c2, c3, e⟩ | ⟨c1, c2, e⟩ <;>
        (rw [e] at HN
         clear e
         go_wp2_with fail
         refine (rvalid_no _ _ HN.out).mono ?_; rintro e w' ⟨rfl, rfl⟩
         go_wp2
         go_ret2
         exact ⟨by rw [Hs.out]; rfl, HB.out⟩)
    · have HN := Lib.hid hvN; clear hvN
      rw [HN.out] at Hs
      obtain ⟨b1, b2⟩ := valid_iff.1 HN.out
      rcases HW.out with ⟨c1, e⟩ | ⟨c1, c2, c3, e⟩ | ⟨c1, c2, c3, e⟩ | ⟨c1, c2, e⟩ <;>
        (rw [e] at HN Hs b1 b2
         clear e
         go_wp2_with fail
         refine (rvalid_yes _ _ HN.out).mono ?_; rintro e w' ⟨rfl, rfl⟩
         go_wp2
         go_ret2
         exact ⟨by rw [Hs.out]; simp, HB.out⟩)
  · obtain ⟨y, hy⟩ : ∃ y : Int, n * num = y := ⟨n * num, rfl⟩
    have hs := HS2.out (by omega)
    rw [hy] at hs
    have y0 : 0 ≤ y := by omega
    have y1 : y ≤ 1000000000000000 := by omega
    have q0 : 0 ≤ y / den := Int.ediv_nonneg y0 (by omega)
    have q1 : y / den ≤ y := Int.ediv_le_self _ y0
    have q2 : 0 ≤ y % den := Int.emod_nonneg _ (by omega)
    have q3 : y % den < den := Int.emod_lt_of_pos _ (by omega)
    have q4 : 0 ≤ y / den % 2 := Int.emod_nonneg _ (by omega)
    have hw := nearest_ways y den
    generalize hN : nearest y den = N at *
    clear hx m1 m2 hN
    have HW := Lib.hid hw; clear hw
    have Hs := Lib.hid hs; clear hs
    have hxx : ¬ y < 0 := by omega
    cases hvN : valid N
    · have HN := Lib.hid hvN; clear hvN
      rw [HN.out] at Hs
      rcases HW.out with ⟨c1, e⟩ | ⟨c1, c2, c3, e⟩ | ⟨c1, c2, c3, e⟩ | ⟨c1, c2, e⟩ <;>
        (rw [e] at HN
         clear e
         go_wp2_with fail
         refine (rvalid_no _ _ HN.out).mono ?_; rintro e w' ⟨rfl, rfl⟩
         go_wp2
         go_ret2
         exact ⟨by rw [Hs.out]; rfl, HB.out⟩)
    · have HN := Lib.hid hvN; clear hvN
      rw [HN.out] at Hs
      obtain ⟨b1, b2⟩ := valid_iff.1 HN.out
      rcases HW.out with ⟨c1, e⟩ | ⟨c1, c2, c3, e⟩ | ⟨c1, c2, c3, e⟩ | ⟨c1, c2, e⟩ <;>
        (rw [e] at HN Hs b1 b2
         clear e
         go_wp2_with fail
         refine (rvalid_yes _ _ HN.out).mono ?_; rintro e w' ⟨rfl, rfl⟩
         go_wp2
         go_ret2
         exact ⟨by rw [Hs.out]; simp, HB.out⟩)

theorem rshare_any (n num den : Int) (w : World) :
    Calls Tryd.prog 14 #[.int .i64 n, .agg #[.int .i64 num, .int .i64 den]] w fun e w' => e = .returned (.tuple #[.int .i64 (shareS n num den).1, .int .i64 (shareS n num den).2]) ∧ RowKit.Below w.heap.size w w' := by
  cases h : valid n && vRatio num den
  · have e : shareS n num den = (0, 1) := by unfold shareS; rw [h]; rfl
    rw [e]
    exact rshare_bad n num den w h
  · exact rshare_ok n num den w h
end Go.Proofs.YtdjilieadhnhcaaDoor
