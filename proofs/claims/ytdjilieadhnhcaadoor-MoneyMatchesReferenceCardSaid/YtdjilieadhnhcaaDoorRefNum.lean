/-
  The document's own functions over numbers and lists: Valid, Ratio, Sum, Share, Weights: they return what the program's do.
-/
import Derived.Test.YtdjilieadhnhcaaDoorWalkSplit
import Derived.Test.YtdjilieadhnhcaaDoorMathParts
namespace Go.Proofs.YtdjilieadhnhcaaDoor
open Go.RowKit Foyer.Money

theorem rvalid_yes (n : Int) (w : World) (h : valid n = true) :
    Calls Tryd.prog 21 #[.int .i64 n] w fun e w' => e = .returned (.bool true) ∧ w = w' := by
  obtain ⟨h1, h2⟩ := valid_iff.1 h
  clear h
  go_enter Tryd.func21, Tryd.ntmps21
  go_wp2
  go_ret
  exact ⟨rfl, rfl⟩
theorem rvalid_no (n : Int) (w : World) (h : valid n = false) :
    Calls Tryd.prog 21 #[.int .i64 n] w fun e w' => e = .returned (.bool false) ∧ w = w' := by
  have H := valid_false.1 h
  clear h
  by_cases h1 : n < -1000000000
  · clear H
    go_enter Tryd.func21, Tryd.ntmps21
    go_wp2
    go_ret
    exact ⟨rfl, rfl⟩
  · have h2 : -1000000000 ≤ n := by omega
    have h3 : 1000000000 < n := by omega
    clear H h1
    go_enter Tryd.func21, Tryd.ntmps21
    go_wp2
    go_ret
    exact ⟨by simp; omega, rfl⟩
theorem rvalid_any (n : Int) (w : World) :
    Calls Tryd.prog 21 #[.int .i64 n] w fun e w' => e = .returned (.bool (valid n)) ∧ w = w' := by
  cases h : valid n
  · exact rvalid_no n w h
  · exact rvalid_yes n w h

theorem rratio_any (num den : Int) (w : World) :
    Calls Tryd.prog 29 #[.agg #[.int .i64 num, .int .i64 den]] w fun e w' => e = .returned (.bool (vRatio num den)) ∧ RowKit.Below w.heap.size w w' := by
  have hbel : ∀ o, RowKit.Below w.heap.size w (w.alloc o) := fun o => (RowKit.Below.refl _ _).alloc (Nat.le_refl _) o
  by_cases h1 : 0 ≤ num
  · by_cases h2 : num ≤ 1000000
    · by_cases h3 : 1 ≤ den
      · by_cases h4 : den ≤ 1000000
        · have hv : vRatio num den = true := by simp only [vRatio, Bool.and_eq_true, decide_eq_true_eq]; exact ⟨⟨h1, h2⟩, h3, h4⟩
          rw [hv]; clear hv
          go_enter Tryd.func29, Tryd.ntmps29
          go_wp2
          go_ret
          exact ⟨rfl, hbel _⟩
        · have hv : vRatio num den = false := by simp only [vRatio, Bool.and_eq_false_iff, decide_eq_false_iff_not]; exact Or.inr (by omega)
          rw [hv]; clear hv
          have h4' : 1000000 < den := by omega
          clear h4
          go_enter Tryd.func29, Tryd.ntmps29
          go_wp2
          go_ret
          exact ⟨by simp; omega, hbel _⟩
      · have hv : vRatio num den = false := by simp only [vRatio, Bool.and_eq_false_iff, decide_eq_false_iff_not]; exact Or.inr (by omega)
        rw [hv]; clear hv
        go_enter Tryd.func29, Tryd.ntmps29
        go_wp2
        go_ret
        exact ⟨rfl, hbel _⟩
    · have hv : vRatio num den = false := by simp only [vRatio, Bool.and_eq_false_iff, decide_eq_false_iff_not]; exact Or.inl (by omega)
      rw [hv]; clear hv
      go_enter Tryd.func29, Tryd.ntmps29
      go_wp2
      go_ret
      exact ⟨rfl, hbel _⟩
  · have hv : vRatio num den = false := by simp only [vRatio, Bool.and_eq_false_iff, decide_eq_false_iff_not]; exact Or.inl (by omega)
    rw [hv]; clear hv
    go_enter Tryd.func29, Tryd.ntmps29
    go_wp2
    go_ret
    exact ⟨rfl, hbel _⟩

theorem rsum_any (zs : List Int) (p : Option Addr) (cap : Nat) (w : World) (h : Rd w p zs) (hl : zs.length ≤ 1000) :
    Calls Tryd.prog 12 #[.slice p zs.length cap] w fun e w' => e = .returned (.tuple #[.int .i64 (sumS zs).1, .int .i64 (sumS zs).2]) ∧ w = w' := by
  have Hr := Lib.hid h; clear h
  go_enter Tryd.func12, Tryd.ntmps12
  go_wp2
  go_loop [4, 5] (fun t i => ∃ k : Nat, k ≤ zs.length ∧ i = .int .i64 k ∧ t = .int .i64 (zs.take k).sum ∧ Hid (∀ j, j < k → valid (zs.getD j 0) = true) ∧ -(10000000000 * (k : Int)) ≤ (zs.take k).sum ∧ (zs.take k).sum ≤ 10000000000 * (k : Int)) (fun _ i => zs.length - (intOf i).toNat)
  case atStart => exact ⟨0, Nat.zero_le _, rfl, rfl, Lib.hid (fun j hj => absurd hj (Nat.not_lt_zero _)), by simp, by simp⟩
  case round =>
    obtain ⟨k, hk, rfl, rfl, Hv, b1, b2⟩ := hrel
    by_cases hlt : k < zs.length
    · rcases Hr.out with e | ⟨b, off, rfl, _, hc⟩
      · rw [e] at hlt; simp at hlt
      · have hck := hc k hlt
        clear hc
        have hs := sum_take_succ zs k hlt
        generalize hz : zs.getD k 0 = z at *
        have Hz := Lib.hid hz; have Hs := Lib.hid hs; clear hz hs
        cases hvz : valid z
        · have hS : sumS zs = (0, 1) := by unfold sumS; rw [not_all_valid hlt (by rw [Hz.out]; exact hvz)]; rfl
          have HS := Lib.hid hS; clear hS
          go_wp2_with (go_at_call 21; refine (rvalid_no _ _ hvz).mono ?_; rintro e w' ⟨rfl, rfl⟩)
          go_ret2
          exact ⟨by rw [HS.out]; rfl, rfl⟩
        · have Hv' := Lib.hid (upto_succ Hv.out (by rw [Hz.out]; exact hvz)); clear Hv
          obtain ⟨z1, z2⟩ := valid_iff.1 hvz
          go_wp2_with (go_at_call 21; refine (rvalid_yes _ _ hvz).mono ?_; rintro e w' ⟨rfl, rfl⟩)
          go_round
          case rel => exact ⟨k + 1, by omega, by go_num, by rw [Hs.out], Hv', by rw [Hs.out]; omega, by rw [Hs.out]; omega⟩
          case measure => simp [intOf]; omega
    · have e : k = zs.length := by omega
      subst e
      have hS : sumS zs = if valid (zs.take zs.length).sum then ((zs.take zs.length).sum, 0) else (0, 2) := by unfold sumS; rw [List.take_length, if_pos (all_valid Hv.out)]
      have HS := Lib.hid hS; clear hS
      rw [List.take_length] at HS b1 b2
      cases hvs : valid zs.sum
      · rw [hvs] at HS
        go_wp2_with (go_at_call 21; refine (rvalid_no _ _ hvs).mono ?_; rintro e w' ⟨rfl, rfl⟩)
        go_ret2
        exact ⟨by rw [HS.out]; rfl, rfl⟩
      · rw [hvs] at HS
        go_wp2_with (go_at_call 21; refine (rvalid_yes _ _ hvs).mono ?_; rintro e w' ⟨rfl, rfl⟩)
        go_ret2
        exact ⟨by rw [HS.out]; rfl, rfl⟩
end Go.Proofs.YtdjilieadhnhcaaDoor
