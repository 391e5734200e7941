/-
  The document's own digit: its value.
-/
import Derived.Test.YtimiminkeencgaaDoorWalkList
namespace Go.Proofs.YtimiminkeencgaaDoor
open Go.RowKit Go.Sort Foyer.Digest

def digS (c : UInt8) : Int := if isHex c then (unhex c : Nat) else -1

theorem rdigit_low (c : Nat) (w : World) (h1 : 48 ≤ c) (h2 : c ≤ 57) :
    Calls Tryd.prog 52 #[.int .u8 c] w fun e w' => e = .returned (.int .i64 ((c : Int) - 48)) ∧ w = w' := by
  go_enter Tryd.func52, Tryd.ntmps52
  go_wp2
  go_ret
  exact ⟨rfl, rfl⟩
theorem rdigit_high (c : Nat) (w : World) (h1 : 97 ≤ c) (h2 : c ≤ 102) :
    Calls Tryd.prog 52 #[.int .u8 c] w fun e w' => e = .returned (.int .i64 ((c : Int) - 97 + 10)) ∧ w = w' := by
  have h3 : decide ((c : Int) ≤ 57) = false := by simp; omega
  go_enter Tryd.func52, Tryd.ntmps52
  go_wp2
  go_ret
  exact ⟨rfl, rfl⟩
theorem rdigit_no (c : Nat) (w : World) (h : ¬ ((48 ≤ c ∧ c ≤ 57) ∨ (97 ≤ c ∧ c ≤ 102))) :
    Calls Tryd.prog 52 #[.int .u8 c] w fun e w' => e = .returned (.int .i64 (-1)) ∧ w = w' := by
  have h5 : c < 48 ∨ (57 < c ∧ c < 97) ∨ 102 < c := by omega
  clear h
  rcases h5 with h1 | ⟨h1, h2⟩ | h1
  · have h3 : decide (48 ≤ (c : Int)) = false := by simp; omega
    have h4 : decide (97 ≤ (c : Int)) = false := by simp; omega
    go_enter Tryd.func52, Tryd.ntmps52
    go_wp2
    go_ret
    exact ⟨rfl, rfl⟩
  · have h3 : decide ((c : Int) ≤ 57) = false := by simp; omega
    have h4 : decide (97 ≤ (c : Int)) = false := by simp; omega
    go_enter Tryd.func52, Tryd.ntmps52
    go_wp2
    go_ret
    exact ⟨rfl, rfl⟩
  · have h3 : decide ((c : Int) ≤ 57) = false := by simp; omega
    have h4 : decide ((c : Int) ≤ 102) = false := by simp; omega
    go_enter Tryd.func52, Tryd.ntmps52
    go_wp2
    go_ret
    exact ⟨rfl, rfl⟩
theorem rdigit_any (c : UInt8) (w : World) :
    Calls Tryd.prog 52 #[.int .u8 c.toNat] w fun e w' => e = .returned (.int .i64 (digS c)) ∧ w = w' := by
  cases h : isHex c
  · have e : digS c = -1 := by unfold digS; rw [h]; rfl
    rw [e]; exact rdigit_no _ w (fun h' => by rw [(isHex_iff c).2 h'] at h; cases h)
  · have e : digS c = (unhex c : Nat) := by unfold digS; rw [h]; rfl
    rw [e]
    rcases (isHex_iff c).1 h with ⟨h1, h2⟩ | ⟨h1, h2⟩
    · have : ((unhex c : Nat) : Int) = (c.toNat : Int) - 48 := by unfold unhex; rw [if_pos h2]; omega
      rw [this]; exact rdigit_low _ w h1 h2
    · have : ((unhex c : Nat) : Int) = (c.toNat : Int) - 97 + 10 := by unfold unhex; rw [if_neg (by omega)]; omega
      rw [this]; exact rdigit_high _ w h1 h2
end Go.Proofs.YtimiminkeencgaaDoor
