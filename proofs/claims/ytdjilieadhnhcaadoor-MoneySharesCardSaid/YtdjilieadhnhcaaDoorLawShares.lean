/-
  The law MoneyShares: its walk.
-/
import Derived.Test.YtdjilieadhnhcaaDoorHead
import Derived.Test.YtdjilieadhnhcaaDoorMathShare
namespace Go.Proofs.YtdjilieadhnhcaaDoor
open Go.RowKit Go.Sort Go.Shelf Foyer.Money

/-- The two cells of a struct that came in, behind a call. -/
theorem two_kept {w w' : World} {b : Nat} {x y : Value} (h : w.cell? ⟨b, 0, none⟩ = some x ∧ w.cell? ⟨b, 1, none⟩ = some y) (hb : RowKit.Below w.heap.size w w') :
    w'.cell? ⟨b, 0, none⟩ = some x ∧ w'.cell? ⟨b, 1, none⟩ = some y :=
  ⟨by rw [hb.cell (Lib.lt_of_cell h.1)]; exact h.1, by rw [hb.cell (Lib.lt_of_cell h.2)]; exact h.2⟩

set_option maxRecDepth 100000 in
set_option maxHeartbeats 1000000 in
theorem shares_bad (n m num den : Int) (w : World) (h : (valid n && vRatio num den) = false) (hE : Env w) :
    Calls Tryd.prog 5 #[.int .i64 n, .int .i64 m, .agg #[.int .i64 num, .int .i64 den]] w fun e w' => e = .returned (.bool true) ∧ RowKit.Below w.heap.size w w' := by
  have HE := Lib.hid hE; clear hE
  have HS : Hid (Since w w) := RowKit.Below.refl _ _
  have hS : shareS n num den = (0, 1) := by unfold shareS; rw [h]; rfl
  have HSn := Lib.hid hS; clear hS
  have HH := Lib.hid h; clear h
  go_enter Tryd.func5, Tryd.ntmps5
  go_wp2_with fail
  refine (head_any _ (HE.out.below (HS.out.alloc _))).mono ?_; rintro e w1 ⟨rfl, hb1⟩
  have HS := Lib.hid ((HS.out.alloc _).call hb1)
  have hc1 : w1.cell? ⟨w.heap.size, 0, none⟩ = some (.int .i64 num) ∧ w1.cell? ⟨w.heap.size, 1, none⟩ = some (.int .i64 den) := two_kept (by simp) hb1
  clear hb1
  go_wp2_with fail
  refine (share_any n num den _).mono ?_; rintro e w2 ⟨rfl, hb2⟩
  rw [HSn.out]
  have HS := Lib.hid (HS.out.call hb2)
  have hc2 := two_kept hc1 hb2
  clear hb2 hc1
  go_wp2_with fail
  refine (share_any _ num den _).mono ?_; rintro e w3 ⟨rfl, hb3⟩
  have HS := Lib.hid (HS.out.call hb3)
  have hc3 := two_kept hc2 hb3
  clear hb3 hc2
  go_wp2_with fail
  refine (share_any m num den _).mono ?_; rintro e w4 ⟨rfl, hb4⟩
  have HS := Lib.hid (HS.out.call hb4)
  have hc4 := two_kept hc3 hb4
  clear hb4 hc3
  obtain ⟨hc, hc'⟩ := hc4
  generalize (shareS m num den).1 = x1
  generalize (shareS m num den).2 = x2
  cases hv : valid n
  · go_wp2_with fail
    refine (valid_no _ _ hv).mono ?_; rintro e w5 ⟨rfl, rfl⟩
    go_wp2
    go_ret
    exact ⟨rfl, HS.out⟩
  · have hr : vRatio num den = false := by have := HH.out; simpa [hv] using this
    have h4 : num < 0 ∨ 1000000 < num ∨ den < 1 ∨ 1000000 < den := by
      apply Classical.byContradiction
      intro hn
      have : vRatio num den = true := vRatio_iff.2 (by omega)
      rw [this] at hr; cases hr
    clear hr HH
    go_wp2_with fail
    refine (valid_yes _ _ hv).mono ?_; rintro e w5 ⟨rfl, rfl⟩
    rcases h4 with h | h | h | h
    · go_wp2
      go_ret
      exact ⟨rfl, HS.out⟩
    · have h0 : ¬ num < 0 := by omega
      go_wp2
      go_ret
      exact ⟨rfl, HS.out⟩
    · by_cases h0 : num < 0
      · go_wp2
        go_ret
        exact ⟨rfl, HS.out⟩
      · by_cases h1 : 1000000 < num
        · go_wp2
          go_ret
          exact ⟨rfl, HS.out⟩
        · go_wp2
          go_ret
          exact ⟨rfl, HS.out⟩
    · by_cases h0 : num < 0
      · go_wp2
        go_ret
        exact ⟨rfl, HS.out⟩
      · by_cases h1 : 1000000 < num
        · go_wp2
          go_ret
          exact ⟨rfl, HS.out⟩
        · have h2 : ¬ den < 1 := by omega
          go_wp2
          go_ret
          exact ⟨rfl, HS.out⟩

theorem share_two {n num den : Int} (h : (valid n && vRatio num den) = true) : (shareS n num den).2 = 0 ∨ ((shareS n num den).1 = 0 ∧ (shareS n num den).2 = 2) := by
  unfold shareS; rw [if_pos h]; split
  · exact Or.inl rfl
  · exact Or.inr ⟨rfl, rfl⟩
theorem mul_bd {a b : Int} {x y : Nat} (h1 : -(x : Int) ≤ a) (h2 : a ≤ x) (h3 : 0 ≤ b) (h4 : b ≤ y) : -((x * y : Nat) : Int) ≤ a * b ∧ a * b ≤ ((x * y : Nat) : Int) := by
  have e : ((x * y : Nat) : Int) = (x : Int) * y := by simp
  rw [e]
  constructor
  · have k1 : -(x : Int) * b ≤ a * b := Int.mul_le_mul_of_nonneg_right h1 h3
    have k2 : (x : Int) * b ≤ x * y := Int.mul_le_mul_of_nonneg_left h4 (by omega)
    rw [Int.neg_mul] at k1; omega
  · have k1 : a * b ≤ x * b := Int.mul_le_mul_of_nonneg_right h2 h3
    have k2 : (x : Int) * b ≤ x * y := Int.mul_le_mul_of_nonneg_left h4 (by omega)
    omega

set_option maxRecDepth 100000 in
set_option maxHeartbeats 1000000 in
theorem shares_good (n m num den : Int) (w : World) (h : (valid n && vRatio num den) = true) (hE : Env w) :
    Calls Tryd.prog 5 #[.int .i64 n, .int .i64 m, .agg #[.int .i64 num, .int .i64 den]] w fun e w' => e = .returned (.bool true) ∧ RowKit.Below w.heap.size w w' := by
  have HE := Lib.hid hE; clear hE
  have HS : Hid (Since w w) := RowKit.Below.refl _ _
  have htwo := share_two h
  obtain ⟨hv, hr⟩ := (Bool.and_eq_true _ _).mp h
  obtain ⟨⟨r1, r2⟩, r3, r4⟩ := vRatio_iff.1 hr
  obtain ⟨v1, v2⟩ := valid_iff.1 hv
  have hneg := share_neg n num den r3
  have hself := share_self hv r3 r4
  have hnear : (shareS n num den).2 = 0 → _ := fun k => share_near (n := n) (num := num) (d := den) k
  have hval : (shareS n num den).2 = 0 → valid (shareS n num den).1 = true := fun k => (share_is k).2.2.2
  have hmono1 : (shareS n num den).2 = 0 → (shareS m num den).2 = 0 → n ≤ m → (shareS n num den).1 ≤ (shareS m num den).1 := share_grows
  have hmono2 : (shareS n num den).2 = 0 → (shareS m num den).2 = 0 → m ≤ n → (shareS m num den).1 ≤ (shareS n num den).1 := fun a b c => share_grows b a c
  have Hneg := Lib.hid hneg; have Hself := Lib.hid hself
  clear hneg hself hv hr h
  have hcall := share_any n num den
  have hcallm := share_any m num den
  generalize (shareS n num den).1 = a at *
  generalize (shareS n num den).2 = e at *
  generalize (shareS m num den).1 = c at *
  generalize (shareS m num den).2 = g at *
  have hab : -1000000000 ≤ a ∧ a ≤ 1000000000 := by
    rcases htwo with k | ⟨k, _⟩
    · exact valid_iff.1 (hval k)
    · omega
  obtain ⟨a1, a2⟩ := hab
  have Hnear := Lib.hid hnear; have Hval := Lib.hid hval; have Hm1 := Lib.hid hmono1; have Hm2 := Lib.hid hmono2; have Hcall := Lib.hid hcall; have Hcallm := Lib.hid hcallm; have Htwo := Lib.hid htwo
  clear hnear hval hmono1 hmono2 hcall hcallm htwo
  go_enter Tryd.func5, Tryd.ntmps5
  go_wp2_with fail
  refine (head_any _ (HE.out.below (HS.out.alloc _))).mono ?_; rintro e' w1 ⟨rfl, hb1⟩
  have HS := Lib.hid ((HS.out.alloc _).call hb1)
  have hc1 : w1.cell? ⟨w.heap.size, 0, none⟩ = some (.int .i64 num) ∧ w1.cell? ⟨w.heap.size, 1, none⟩ = some (.int .i64 den) := two_kept (by simp) hb1
  clear hb1
  go_wp2_with fail
  refine (Hcall.out _).mono ?_; rintro e' w2 ⟨rfl, hb2⟩
  have HS := Lib.hid (HS.out.call hb2)
  have hc2 := two_kept hc1 hb2
  clear hb2 hc1
  go_wp2_with fail
  refine (share_any _ num den _).mono ?_; rintro e' w3 ⟨rfl, hb3⟩
  rw [Hneg.out]
  have HS := Lib.hid (HS.out.call hb3)
  have hc3 := two_kept hc2 hb3
  clear hb3 hc2
  go_wp2_with fail
  refine (Hcallm.out _).mono ?_; rintro e' w4 ⟨rfl, hb4⟩
  have HS := Lib.hid (HS.out.call hb4)
  have hc4 := two_kept hc3 hb4
  clear hb4 hc3
  obtain ⟨hc, hc'⟩ := hc4
  have he1 : (e == 1) = false := by
    rcases Htwo.out with k | ⟨_, k⟩ <;> rw [k] <;> decide
  go_wp2_with fail
  refine (share_any n den den _).mono ?_; rintro e' w5 ⟨rfl, hb5⟩
  rw [Hself.out]
  have HS := Lib.hid (HS.out.call hb5)
  obtain ⟨hd, hd'⟩ := two_kept ⟨hc, hc'⟩ hb5
  clear hb5 hc hc'
  by_cases hz : e = 0
  · have hzb : (e != 0) = false := by simp [hz]
    have hn := Hnear.out hz
    have hva := Hval.out hz
    obtain ⟨p1, p2⟩ := mul_bd (x := 1000000000) (y := 1000000) a1 a2 (show 0 ≤ den by omega) r4
    obtain ⟨q1, q2⟩ := mul_bd (x := 1000000000) (y := 1000000) v1 v2 r1 r2
    obtain ⟨n1, n2, n3⟩ := hn
    have hg : g ≠ 0 ∨ (g = 0 ∧ n ≤ m ∧ a ≤ c) ∨ (g = 0 ∧ ¬ n ≤ m ∧ m ≤ n ∧ c ≤ a) := by
      by_cases k : g = 0
      · by_cases k2 : n ≤ m
        · exact Or.inr (Or.inl ⟨k, k2, Hm1.out hz k k2⟩)
        · exact Or.inr (Or.inr ⟨k, k2, by omega, Hm2.out hz k (by omega)⟩)
      · exact Or.inl k
    have Hg := Lib.hid hg; have Hva := Lib.hid hva
    clear hg hva hz
    have hcase : (max (2 * (a * den - n * num)) (-(2 * (a * den - n * num))) = den ∧ a % 2 = 0) ∨ ¬ max (2 * (a * den - n * num)) (-(2 * (a * den - n * num))) = den := by
      by_cases k : max (2 * (a * den - n * num)) (-(2 * (a * den - n * num))) = den
      · exact Or.inl ⟨k, n3 (by omega)⟩
      · exact Or.inr k
    clear n3
    rcases hcase with ⟨k, k2⟩ | k
    · have hb : (max (2 * (a * den - n * num)) (-(2 * (a * den - n * num))) == den) = true := by simp [k]
      have ht : (a.tmod 2 != 0) = false := by
        rw [Int.tmod_eq_zero_of_dvd (Int.dvd_of_emod_eq_zero k2)]; rfl
      clear k k2
      go_wp2_with fail
      refine (valid_yes _ _ Hva.out).mono ?_; rintro e' w6 ⟨rfl, rfl⟩
      rcases Hg.out with k | ⟨k, k1, k2⟩ | ⟨k, k1, k2, k3⟩
      · have hgb : (g != 0) = true := by simp [k]
        clear k
        go_wp2
        go_ret
        exact ⟨rfl, HS.out⟩
      · have hgb : (g != 0) = false := by simp [k]
        clear k
        go_wp2
        go_ret
        exact ⟨rfl, HS.out⟩
      · have hgb : (g != 0) = false := by simp [k]
        clear k
        go_wp2
        go_ret
        exact ⟨rfl, HS.out⟩
    · have hb : (max (2 * (a * den - n * num)) (-(2 * (a * den - n * num))) == den) = false := by simp [k]
      clear k
      go_wp2_with fail
      refine (valid_yes _ _ Hva.out).mono ?_; rintro e' w6 ⟨rfl, rfl⟩
      rcases Hg.out with k | ⟨k, k1, k2⟩ | ⟨k, k1, k2, k3⟩
      · have hgb : (g != 0) = true := by simp [k]
        clear k
        go_wp2
        go_ret
        exact ⟨rfl, HS.out⟩
      · have hgb : (g != 0) = false := by simp [k]
        clear k
        go_wp2
        go_ret
        exact ⟨rfl, HS.out⟩
      · have hgb : (g != 0) = false := by simp [k]
        clear k
        go_wp2
        go_ret
        exact ⟨rfl, HS.out⟩
  · have hzb : (e != 0) = true := by simp [hz]
    have he2 : (e == 2) = true := by
      rcases Htwo.out with k | ⟨_, k⟩
      · exact absurd k hz
      · rw [k]; decide
    clear hz
    go_wp2
    go_ret
    exact ⟨rfl, HS.out⟩

theorem shares_walk (n m num den : Int) (w : World) (_ : (Lit.int .i64 n).wf = true) (_ : (Lit.int .i64 m).wf = true) (_ : (Lit.int .i64 num).wf = true) (_ : (Lit.int .i64 den).wf = true) (hE : Env w) :
    Calls Tryd.prog 5 #[.int .i64 n, .int .i64 m, .agg #[.int .i64 num, .int .i64 den]] w fun e w' => e = .returned (.bool true) ∧ RowKit.Below w.heap.size w w' := by
  cases h : valid n && vRatio num den
  · exact shares_bad n m num den w h hE
  · exact shares_good n m num den w h hE
end Go.Proofs.YtdjilieadhnhcaaDoor
