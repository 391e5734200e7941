/-
  The walks of Sum, validWeights, the law's own total, and the comparison of two lists.
-/
import Derived.Test.YtdjilieadhnhcaaDoorWalkShare
namespace Go.Proofs.YtdjilieadhnhcaaDoor
open Go.RowKit Foyer.Money

theorem all_valid_bd {zs : List Int} (h : ∀ k, k < zs.length → valid (zs.getD k 0) = true) : ∀ z ∈ zs, -10000000000 ≤ z ∧ z ≤ 10000000000 := by
  intro z hz
  obtain ⟨k, hk, rfl⟩ := List.mem_iff_getElem.1 hz
  have := valid_iff.1 (h k hk)
  rw [List.getD_eq_getElem?_getD, List.getElem?_eq_getElem hk] at this
  simp only [Option.getD_some] at this
  omega
theorem all_valid {zs : List Int} (h : ∀ k, k < zs.length → valid (zs.getD k 0) = true) : zs.all valid = true := by
  rw [List.all_eq_true]
  intro z hz
  obtain ⟨k, hk, rfl⟩ := List.mem_iff_getElem.1 hz
  have := h k hk
  rw [List.getD_eq_getElem?_getD, List.getElem?_eq_getElem hk] at this
  exact this
theorem not_all_valid {zs : List Int} {k : Nat} (hk : k < zs.length) (h : valid (zs.getD k 0) = false) : zs.all valid = false := by
  rw [List.all_eq_false]
  refine ⟨zs[k], List.getElem_mem _, ?_⟩
  rw [List.getD_eq_getElem?_getD, List.getElem?_eq_getElem hk] at h
  simpa using h
theorem upto_succ {P : Nat → Prop} {k : Nat} (h : ∀ j, j < k → P j) (hk : P k) : ∀ j, j < k + 1 → P j := by
  intro j hj
  by_cases e : j = k
  · subst e; exact hk
  · exact h j (by omega)

theorem sum_any (zs : List Int) (p : Option Addr) (cap : Nat) (w : World) (h : Rd w p zs) (hl : zs.length ≤ 1000) :
    Calls Tryd.prog 11 #[.slice p zs.length cap] w fun e w' => e = .returned (.tuple #[.int .i64 (sumS zs).1, .int .i64 (sumS zs).2]) ∧ w = w' := by
  have Hr := Lib.hid h; clear h
  go_enter Tryd.func11, Tryd.ntmps11
  go_wp2
  go_loop [9] (fun i => ∃ k : Nat, k ≤ zs.length ∧ i = .int .i64 k ∧ Hid (∀ j, j < k → valid (zs.getD j 0) = true)) (fun i => zs.length - (intOf i).toNat)
  case atStart => exact ⟨0, Nat.zero_le _, rfl, Lib.hid (fun j hj => absurd hj (Nat.not_lt_zero _))⟩
  case round =>
    obtain ⟨k, hk, rfl, Hv⟩ := hrel
    by_cases hlt : k < zs.length
    · rcases Hr.out with e | ⟨b, off, rfl, _, hc⟩
      · rw [e] at hlt; simp at hlt
      · have hck := hc k hlt
        clear hc
        generalize hz : zs.getD k 0 = z at *
        have Hz := Lib.hid hz; clear hz
        cases hvz : valid z
        · have hS : sumS zs = (0, 1) := by unfold sumS; rw [not_all_valid hlt (by rw [Hz.out]; exact hvz)]; rfl
          have HS := Lib.hid hS; clear hS
          go_wp2_with (go_at_call 20; refine (valid_no _ _ hvz).mono ?_; rintro e w' ⟨rfl, rfl⟩)
          go_ret2
          exact ⟨by rw [HS.out]; rfl, rfl⟩
        · have Hv' := Lib.hid (upto_succ Hv.out (by rw [Hz.out]; exact hvz)); clear Hv
          go_wp2_with (go_at_call 20; refine (valid_yes _ _ hvz).mono ?_; rintro e w' ⟨rfl, rfl⟩)
          go_round
          case rel => exact ⟨k + 1, by omega, by go_num, Hv'⟩
          case measure => simp [intOf]; omega
    · have e : k = zs.length := by omega
      subst e
      have Hb := Lib.hid (all_valid_bd Hv.out)
      have hS : sumS zs = if valid zs.sum then (zs.sum, 0) else (0, 2) := by unfold sumS; rw [if_pos (all_valid Hv.out)]
      have HS := Lib.hid hS; clear hS
      cases hvs : valid zs.sum
      · rw [hvs] at HS
        have Hvs := Lib.hid hvs; clear hvs
        go_wp2_with fail
        refine (add_any zs p cap _ Hr.out hl Hb.out).mono ?_; rintro e w' ⟨rfl, rfl⟩
        go_wp2_with fail
        refine (valid_no _ _ Hvs.out).mono ?_; rintro e w' ⟨rfl, rfl⟩
        go_wp2
        go_ret2
        exact ⟨by rw [HS.out]; rfl, rfl⟩
      · rw [hvs] at HS
        have Hvs := Lib.hid hvs; clear hvs
        go_wp2_with fail
        refine (add_any zs p cap _ Hr.out hl Hb.out).mono ?_; rintro e w' ⟨rfl, rfl⟩
        go_wp2_with fail
        refine (valid_yes _ _ Hvs.out).mono ?_; rintro e w' ⟨rfl, rfl⟩
        go_wp2
        go_ret2
        exact ⟨by rw [HS.out]; rfl, rfl⟩

theorem weights_any (zs : List Int) (p : Option Addr) (cap : Nat) (w : World) (h : Rd w p zs) (hl : zs.length ≤ 1000) :
    Calls Tryd.prog 30 #[.slice p zs.length cap] w fun e w' => e = .returned (.bool (vWeights zs)) ∧ w = w' := by
  have Hr := Lib.hid h; clear h
  go_enter Tryd.func30, Tryd.ntmps30
  go_wp2
  go_loop [7] (fun i => ∃ k : Nat, k ≤ zs.length ∧ i = .int .i64 k ∧ Hid (∀ j, j < k → 0 ≤ zs.getD j 0 ∧ zs.getD j 0 ≤ 1000000000)) (fun i => zs.length - (intOf i).toNat)
  case atStart => exact ⟨0, Nat.zero_le _, rfl, Lib.hid (fun j hj => absurd hj (Nat.not_lt_zero _))⟩
  case round =>
    obtain ⟨k, hk, rfl, Hv⟩ := hrel
    by_cases hlt : k < zs.length
    · rcases Hr.out with e | ⟨b, off, rfl, _, hc⟩
      · rw [e] at hlt; simp at hlt
      · have hck := hc k hlt
        clear hc
        generalize hz : zs.getD k 0 = z at *
        have Hz := Lib.hid hz; clear hz
        by_cases hvz : 0 ≤ z ∧ z ≤ 1000000000
        · have Hv' := Lib.hid (upto_succ Hv.out (by rw [Hz.out]; exact hvz)); clear Hv
          obtain ⟨v1, v2⟩ := hvz
          go_wp2_with (go_at_call 35; refine (within_yes _ _ _ _ v1 v2).mono ?_; rintro e w' ⟨rfl, rfl⟩)
          go_round
          case rel => exact ⟨k + 1, by omega, by go_num, Hv'⟩
          case measure => simp [intOf]; omega
        · have hS : vWeights zs = false := by
            have : zs.all (fun w => decide (0 ≤ w ∧ w ≤ 1000000000)) = false := by
              rw [List.all_eq_false]
              refine ⟨zs[k], List.getElem_mem _, ?_⟩
              have hzz := Hz.out
              rw [List.getD_eq_getElem?_getD, List.getElem?_eq_getElem hlt, Option.getD_some] at hzz
              rw [hzz, decide_eq_true_eq]; exact hvz
            unfold vWeights; rw [this]; rfl
          have HS := Lib.hid hS; clear hS
          have v1 : z < 0 ∨ 1000000000 < z := by omega
          clear hvz
          go_wp2_with (go_at_call 35; refine (within_no _ _ _ _ v1).mono ?_; rintro e w' ⟨rfl, rfl⟩)
          go_ret
          exact ⟨by rw [HS.out]; rfl, rfl⟩
    · have e : k = zs.length := by omega
      subst e
      have Hb : Hid (∀ z ∈ zs, -10000000000 ≤ z ∧ z ≤ 10000000000) := by
        intro z hz
        obtain ⟨k, hk, rfl⟩ := List.mem_iff_getElem.1 hz
        have := Hv.out k hk
        rw [List.getD_eq_getElem?_getD, List.getElem?_eq_getElem hk, Option.getD_some] at this
        omega
      have hS : vWeights zs = decide (0 < zs.sum) := by
        have : zs.all (fun w => decide (0 ≤ w ∧ w ≤ 1000000000)) = true := by
          rw [List.all_eq_true]
          intro z hz
          obtain ⟨k, hk, rfl⟩ := List.mem_iff_getElem.1 hz
          have := Hv.out k hk
          rw [List.getD_eq_getElem?_getD, List.getElem?_eq_getElem hk, Option.getD_some] at this
          rw [decide_eq_true_eq]; exact this
        unfold vWeights; rw [this]; rfl
      have HS := Lib.hid hS; clear hS
      go_wp2_with fail
      refine (add_any zs p cap _ Hr.out hl Hb.out).mono ?_; rintro e w' ⟨rfl, rfl⟩
      go_wp2
      go_ret
      exact ⟨by rw [HS.out]; rfl, rfl⟩

theorem total_any (zs : List Int) (p : Option Addr) (cap : Nat) (w : World) (h : Rd w p zs) (hl : zs.length ≤ 1000) (hb : ∀ z ∈ zs, -10000000000 ≤ z ∧ z ≤ 10000000000) :
    Calls Tryd.prog 24 #[.slice p zs.length cap] w fun e w' => e = .returned (.int .i64 zs.sum) ∧ w = w' := by
  have hbd := fun k hk => sum_take_bd zs hb k hk
  have hsum : (zs.take zs.length).sum = zs.sum := by rw [List.take_length]
  have Hbd := Lib.hid hbd; clear hbd
  have Hsum := Lib.hid hsum; clear hsum
  have Hb := Lib.hid hb; clear hb
  have Hr := Lib.hid h; clear h
  go_enter Tryd.func24, Tryd.ntmps24
  go_wp2
  go_loop [3, 4] (fun t i => ∃ k : Nat, k ≤ zs.length ∧ i = .int .i64 k ∧ t = .int .i64 (zs.take k).sum) (fun _ i => zs.length - (intOf i).toNat)
  case atStart => exact ⟨0, Nat.zero_le _, rfl, rfl⟩
  case round =>
    obtain ⟨k, hk, rfl, rfl⟩ := hrel
    by_cases hlt : k < zs.length
    · have hs := sum_take_succ zs k hlt
      have Hs := Lib.hid hs; clear hs
      have hbk := Hbd.out k hk
      have hbk' := Hbd.out (k + 1) hlt
      rw [Hs.out] at hbk'
      rcases Hr.out with e | ⟨b, off, rfl, _, hc⟩
      · rw [e] at hlt; simp at hlt
      · have hck := hc k hlt
        clear hc
        generalize zs.getD k 0 = z at *
        go_wp2
        go_round
        case rel => exact ⟨k + 1, by omega, by go_num, by rw [Hs.out]⟩
        case measure => simp [intOf]; omega
    · have e : k = zs.length := by omega
      subst e
      go_wp2
      go_ret
      exact ⟨by first | rfl | rw [Hsum.out], rfl⟩

/-- The comparison of two lists. -/
theorem eq_of_getD {xs ys : List Int} (hl : xs.length = ys.length) (h : ∀ j, j < xs.length → xs.getD j 0 = ys.getD j 0) : (xs == ys) = true := by
  rw [beq_iff_eq]
  refine List.ext_getElem hl fun i h1 h2 => ?_
  have := h i h1
  rw [List.getD_eq_getElem?_getD, List.getD_eq_getElem?_getD, List.getElem?_eq_getElem h1, List.getElem?_eq_getElem h2] at this
  exact this
theorem ne_of_getD {xs ys : List Int} {j : Nat} (h : xs.getD j 0 ≠ ys.getD j 0) : (xs == ys) = false := by
  rw [beq_eq_false_iff_ne]; intro e; rw [e] at h; exact h rfl
theorem ints_any (xs ys : List Int) (p q : Option Addr) (c1 c2 : Nat) (w : World) (hx : Rd w p xs) (hy : Rd w q ys) (hl : xs.length ≤ 1000) (_hl2 : ys.length ≤ 1000) :
    Calls Tryd.prog 19 #[.slice p xs.length c1, .slice q ys.length c2] w fun e w' => e = .returned (.bool (xs == ys)) ∧ ∃ n, w' = w.drewN n := by
  by_cases he : xs.length = ys.length
  · have Hx := Lib.hid hx; clear hx
    have Hy := Lib.hid hy; clear hy
    have He := Lib.hid he
    have hle : ((xs.length : Int) != ys.length) = false := by simp [he]
    rw [← he]
    rw [← he] at hle
    clear he
    go_enter Tryd.func19, Tryd.ntmps19
    go_wp2
    go_loopw [5] (fun i wr => ∃ k : Nat, k ≤ xs.length ∧ i = .int .i64 k ∧ Hid (∀ j, j < k → xs.getD j 0 = ys.getD j 0) ∧ ∃ n, wr = w.drewN n) (fun i _ => xs.length - (intOf i).toNat)
    case atStart => exact ⟨0, Nat.zero_le _, rfl, Lib.hid (fun j hj => absurd hj (Nat.not_lt_zero _)), 0, rfl⟩
    case round =>
      obtain ⟨k, hk, rfl, Hv, n, rfl⟩ := hrel
      by_cases hlt : k < xs.length
      · rcases Hx.out with e | ⟨b, off, rfl, _, hc⟩
        · rw [e] at hlt; simp at hlt
        rcases Hy.out with e | ⟨b', off', rfl, _, hc'⟩
        · have := He.out; rw [e] at this; simp at this; rw [this] at hlt; simp at hlt
        have hck := hc k hlt
        have hck' := hc' k (by have := He.out; omega)
        clear hc hc'
        generalize hz : xs.getD k 0 = z at *
        generalize hz' : ys.getD k 0 = z' at *
        have Hz := Lib.hid hz; clear hz
        have Hz' := Lib.hid hz'; clear hz'
        by_cases hzz : z = z'
        · have Hv' := Lib.hid (upto_succ Hv.out (by rw [Hz.out, Hz'.out]; exact hzz)); clear Hv
          have hzb : (z != z') = false := by simp [hzz]
          clear hzz
          go_wp2
          go_quiet (fail)
          go_wp2
          go_roundw
          case rel => exact ⟨k + 1, by omega, by go_num, Hv', _, rfl⟩
          case measure => simp [intOf]; omega
        · have hzb : (z != z') = true := by simp [hzz]
          have HF : Hid ((xs == ys) = false) := ne_of_getD (j := k) (by rw [Hz.out, Hz'.out]; exact hzz)
          clear hzz
          go_wp2
          go_quiet (fail)
          go_wp2
          go_ret
          exact ⟨by rw [HF.out]; rfl, _, World.drewN_drewN _ _ _⟩
      · have e : k = xs.length := by omega
        subst e
        have HF : Hid ((xs == ys) = true) := eq_of_getD He.out Hv.out
        go_wp2
        go_ret
        exact ⟨by rw [HF.out]; rfl, _, rfl⟩
  · have HF : Hid ((xs == ys) = false) := by
      show (xs == ys) = false
      rw [beq_eq_false_iff_ne]; intro e; rw [e] at he; exact he rfl
    have hle : ((xs.length : Int) != ys.length) = true := by simp; omega
    clear he
    go_enter Tryd.func19, Tryd.ntmps19
    go_wp2
    go_ret
    exact ⟨by rw [HF.out]; rfl, 0, rfl⟩
end Go.Proofs.YtdjilieadhnhcaaDoor
