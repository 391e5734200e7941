/-
  The law DigestShort: its walk.
-/
import Derived.Test.YtpfbclomnkfahaaDoorHead
namespace Go.Proofs.YtpfbclomnkfahaaDoor
open Go.RowKit Go.Sort Foyer.Digest

set_option maxRecDepth 100000 in
set_option maxHeartbeats 1000000 in
theorem short_walk (a b : ByteArray) (w : World) (ha : a.size ≤ maxLen) (hb : b.size ≤ maxLen) (hE : Env w) :
    Calls Tryd.prog 6 #[.string a, .string b] w fun e w' => e = .returned (.bool true) ∧ Below w.heap.size w w' := by
  unfold maxLen at ha hb
  have HE := Lib.hid hE; clear hE
  have HS : Hid (Since w w) := Below.refl _ _
  obtain ⟨x, hx, hxl⟩ := cut_list a (min (a.size : Int) 7).toNat
  obtain ⟨y, hy, hyl⟩ := cut_list b (min (b.size : Int) 7).toNat
  have HXL : Hid (x.length ≤ 7) := by show _ ≤ _; rw [hxl, List.length_take]; omega
  have HYL : Hid (y.length ≤ 7) := by show _ ≤ _; rw [hyl, List.length_take]; omega
  have HX := Lib.hid hx; have HY := Lib.hid hy
  clear hx hy hxl hyl
  have hiff : (sum x == sum y) = (x == y) := by
    rw [Bool.eq_iff_iff]; simp only [beq_iff_eq]; exact short_iff HXL.out HYL.out
  obtain ⟨sx, hsx⟩ : ∃ s, sum x = s := ⟨_, rfl⟩
  obtain ⟨sy, hsy⟩ : ∃ s, sum y = s := ⟨_, rfl⟩
  rw [hsx, hsy] at hiff
  have HSX := Lib.hid hsx; have HSY := Lib.hid hsy; have HIF := Lib.hid hiff; clear hsx hsy hiff
  go_enter Tryd.func6, Tryd.ntmps6
  go_wp2_with fail
  refine (head_any _ HE.out).mono ?_; rintro e w1 ⟨rfl, hb1⟩
  have HS := Lib.hid (HS.out.call hb1); clear hb1
  go_wp2_with fail
  rw [HX.out, HY.out]
  refine (sum_c x sx HSX.out (by have := HXL.out; omega) _ (HE.out.below HS.out).hex).mono ?_; rintro e w2 ⟨rfl, hb1⟩
  have HS := Lib.hid (HS.out.call hb1); clear hb1
  go_wp2_with fail
  refine (sum_c y sy HSY.out (by have := HYL.out; omega) _ (HE.out.below HS.out).hex).mono ?_; rintro e w3 ⟨rfl, hb1⟩
  have HS := Lib.hid (HS.out.call hb1); clear hb1
  go_wp2
  go_ret
  exact ⟨congrArg (fun z => Ending.returned (Value.bool z)) (by rw [HIF.out]; simp), HS.out⟩
end Go.Proofs.YtpfbclomnkfahaaDoor
