/-
  The law RuleMatchesReference: its walk.
-/
import Derived.Test.YtlfjdohjfmfcdabDoorRefPa7
import Derived.Test.YtlfjdohjfmfcdabDoorHead7
import Derived.Test.YtlfjdohjfmfcdabDoorHelpA
namespace Go.Proofs.YtlfjdohjfmfcdabDoor
open Go.RowKit Go.Sort Go.Shelf Foyer.Rule

set_option maxRecDepth 100000 in
set_option maxHeartbeats 2000000 in
theorem ref_walk (t : ByteArray) (w : World) (ht : t.size ≤ maxLen) (_ : Env w) :
    Calls Tryd.prog 3 #[.string t] w fun e w' => e = .returned (.bool true) ∧ Below w.heap.size w w' := by
  have HS : Hid (Since w w) := Lib.hid (Below.refl _ _)
  unfold maxLen at ht
  by_cases h2 : 20100 < t.size
  · have hd : decide ((20100 : Int) < (t.size : Int)) = true := by simp; omega
    go_enter Tryd.func3, Tryd.ntmps3
    go_wp2_with fail
    refine (head_any _).mono ?_; rintro x w1 ⟨rfl, hb1⟩
    have HS1 := Lib.hid (HS.out.call hb1); clear hb1
    go_wp2
    go_ret
    exact ⟨rfl, HS1.out⟩
  · have hd : decide ((20100 : Int) < (t.size : Int)) = false := by simp; omega
    obtain ⟨⟨xs, E, O⟩, hx⟩ : ∃ x, parseAll t.data.toList = x := ⟨_, rfl⟩
    have HP := Lib.hid (fun w => rule_s t (by omega) xs E O hx w)
    have HR := Lib.hid (fun w => rparse_any t (by omega) xs E O hx w)
    have e0 : (((E : Nat) : Int) == ((E : Nat) : Int)) = true := by simp
    have e1 : (O == O) = true := by simp
    clear hx h2
    go_enter Tryd.func3, Tryd.ntmps3
    go_wp2_with fail
    refine (head_any _).mono ?_; rintro x w1 ⟨rfl, hb1⟩
    have HS1 := Lib.hid (HS.out.call hb1); clear hb1
    go_wp2_with fail
    refine (HP.out _).mono ?_; rintro x w2 ⟨a2, c2, rfl, hl2, hb2⟩
    have HS2 := Lib.hid (HS1.out.call hb2); have HL2 := Lib.hid hl2; clear hb2 hl2
    have HA2 := Lib.hid ((Below.refl w2.heap.size w2).alloc (Nat.le_refl _) (.cells #[.slice a2 xs.length c2] 25))
    have K2 := Lib.hid (Blk.new w2 25 [.slice a2 xs.length c2])
    go_upto_region 5 with fail
    obtain ⟨w3, hw3⟩ : ∃ z, w2.alloc (.cells #[.slice a2 xs.length c2] 25) = z := ⟨_, rfl⟩
    have K3 : Hid (Blk w3 w2.heap.size 25 [.slice a2 xs.length c2]) := Lib.hid (by rw [← hw3]; exact K2.out)
    have HB3 : Hid (Below w2.heap.size w2 w3) := Lib.hid (by rw [← hw3]; exact HA2.out)
    rw [hw3]
    clear hw3 K2 HA2
    go_wp2_with fail
    refine (HR.out _).mono ?_; rintro x w4 ⟨⟨v, rfl, hl4⟩, hb4⟩
    obtain ⟨a4, c4, hv4⟩ := hl4.len
    subst hv4
    have HL4 := Lib.hid hl4; have HB4 := Lib.hid hb4; clear hb4 hl4
    have K4 := Lib.hid (K3.out.below HB4.out)
    go_upto_region 6 with fail
    obtain ⟨w5, hw5⟩ : ∃ z, w4.alloc (.cells #[.slice a4 xs.length c4] 25) = z := ⟨_, rfl⟩
    have HB5 : Hid (Below w4.heap.size w4 w5) := Lib.hid (by rw [← hw5]; exact (Below.refl _ _).alloc (Nat.le_refl _) _)
    have K5 : Hid (Blk w5 w4.heap.size 25 [.slice a4 xs.length c4]) := Lib.hid (by rw [← hw5]; exact Blk.new _ _ _)
    have KA5 := Lib.hid (K4.out.below HB5.out)
    rw [hw5]
    clear hw5
    have q0 := K5.out.cell (i := 0) rfl
    have q1 := KA5.out.cell (i := 0) rfl
    have HX := Lib.hid (same_true xs xs rfl _ _ _ _ w5 (((HL2.out.below HB3.out).below (HB4.out.mono (Nat.le_refl _))).below HB5.out) (HL4.out.below HB5.out))
    have HS5 := Lib.hid (((HS2.out.call HB3.out).call HB4.out).call HB5.out)
    go_wp2_with fail
    refine HX.out.mono ?_; rintro x w6 ⟨rfl, hb6⟩
    have HS6 := Lib.hid (HS5.out.call hb6); clear hb6 q0 q1
    go_wp2
    go_ret
    exact ⟨rfl, HS6.out⟩
end Go.Proofs.YtlfjdohjfmfcdabDoor
