/-
  The walk of the law's own decimal digits.
-/
import Derived.Test.YtllhonjhjhajjabDoorMathAlts
import Derived.Test.YtllhonjhjhajjabDoorMid
import Derived.Test.YtllhonjhjhajjabDoorTail
namespace Go.Proofs.YtllhonjhjhajjabDoor
open Go.RowKit Foyer.Rule

set_option maxRecDepth 100000 in
theorem digit_one (n : Nat) (h : n < 10) (w : World) : Calls Tryd.prog 7 #[.int .i64 (n : Nat)] w fun e w' => e = .returned (.string ⟨(dig n).toArray⟩) ∧ w' = w := by
  rw [dig_small h]
  have hc : ∀ m : Nat, m < 10 → ∀ w, Calls Tryd.prog 7 #[.int .i64 (m : Nat)] w fun e w' => e = .returned (.string ⟨[UInt8.ofNat (48 + m)].toArray⟩) ∧ w' = w := by
    intro m hm w
    have h10 : m = 0 ∨ m = 1 ∨ m = 2 ∨ m = 3 ∨ m = 4 ∨ m = 5 ∨ m = 6 ∨ m = 7 ∨ m = 8 ∨ m = 9 := by omega
    rcases h10 with rfl | rfl | rfl | rfl | rfl | rfl | rfl | rfl | rfl | rfl <;>
    · go_enter Tryd.func7, Tryd.ntmps7
      go_wp2
      go_ret
      exact ⟨rfl, rfl⟩
  exact hc n h w
set_option maxRecDepth 100000 in
theorem digits_any : ∀ (k n : Nat), n < 10 ^ (k + 1) → n < 65536 → ∀ w, Calls Tryd.prog 7 #[.int .i64 (n : Nat)] w fun e w' => e = .returned (.string ⟨(dig n).toArray⟩) ∧ w' = w
  | 0, n, h, _, w => digit_one n (by simpa using h) w
  | k + 1, n, h, hn, w => by
    by_cases h' : n < 10
    · exact digit_one n h' w
    · have hk : n / 10 < 10 ^ (k + 1) := by
        rw [Nat.pow_succ] at h
        exact Nat.div_lt_of_lt_mul (by rw [Nat.mul_comm]; exact h)
      have hd := digits_any k (n / 10) hk (by omega)
      have hd1 := digit_one (n % 10) (by omega)
      obtain ⟨f1, f2, f3, f4⟩ := dig_facts k (n / 10) hk
      have hl : (dig (n / 10)).length ≤ 5 := by
        obtain ⟨_, _, _, h⟩ := dig_facts 4 (n / 10) (by omega)
        exact h
      have hs := str_append (dig (n / 10)) [UInt8.ofNat (48 + n % 10)]
      rw [dig_great h']
      rw [dig_small (show n % 10 < 10 by omega)] at hd1
      have hlt : decide ((n : Int) < 10) = false := by simp; omega
      have hq : Int.tdiv (n : Int) 10 = ((n / 10 : Nat) : Int) := by rw [Int.tdiv_eq_ediv_of_nonneg (by omega)]; rfl
      have hr : Int.tmod (n : Int) 10 = ((n % 10 : Nat) : Int) := by rw [Int.tmod_eq_emod_of_nonneg (by omega)]; rfl
      obtain ⟨D, hD⟩ : ∃ D, dig (n / 10) = D := ⟨_, rfl⟩
      obtain ⟨E, hE⟩ : ∃ E, [UInt8.ofNat (48 + n % 10)] = E := ⟨_, rfl⟩
      have hEl : E.length = 1 := by rw [← hE]; rfl
      rw [hD] at hd hl hs ⊢
      rw [hE] at hd1 hs ⊢
      obtain ⟨q, hq1⟩ : ∃ q, n / 10 = q := ⟨_, rfl⟩
      obtain ⟨r, hr1⟩ : ∃ r, n % 10 = r := ⟨_, rfl⟩
      rw [hq1] at hd hq
      rw [hr1] at hd1 hr
      have hqs : q < 65536 := by omega
      have hrs : r < 10 := by omega
      have HD := Lib.hid hd; have HD1 := Lib.hid hd1
      clear hd hd1 f1 f2 f3 f4 hk h hD hE hq1 hr1 h'
      go_enter Tryd.func7, Tryd.ntmps7
      go_wp2_with fail
      refine (HD.out _).mono ?_; rintro e w1 ⟨rfl, rfl⟩
      go_wp2_with fail
      refine (HD1.out _).mono ?_; rintro e w1 ⟨rfl, rfl⟩
      go_wp2
      go_ret
      exact ⟨rfl, rfl⟩
end Go.Proofs.YtllhonjhjhajjabDoor
