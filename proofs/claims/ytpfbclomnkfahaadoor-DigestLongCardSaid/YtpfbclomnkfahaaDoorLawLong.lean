/-
  The law DigestLong: its walk.
-/
import Derived.Test.YtpfbclomnkfahaaDoorRefIs
import Derived.Test.YtpfbclomnkfahaaDoorHead
namespace Go.Proofs.YtpfbclomnkfahaaDoor
open Go.RowKit Go.Sort Foyer.Digest

set_option maxRecDepth 100000 in
set_option maxHeartbeats 1000000 in
theorem long_walk (t : ByteArray) (n : Int) (w : World) (ht : t.size ≤ maxLen) (_ : (Lit.int .i64 n).wf = true) (hE : Env w) :
    Calls Tryd.prog 4 #[.string t, .int .i64 n] w fun e w' => e = .returned (.bool true) ∧ Below w.heap.size w w' := by
  unfold maxLen at ht
  have HE := Lib.hid hE; clear hE
  have HS : Hid (Since w w) := Below.refl _ _
  by_cases h200 : 200 < (t.size : Int)
  · go_enter Tryd.func4, Tryd.ntmps4
    go_wp2_with fail
    refine (head_any _ HE.out).mono ?_; rintro e w1 ⟨rfl, hb1⟩
    have HS := Lib.hid (HS.out.call hb1); clear hb1
    go_wp2
    go_ret
    exact ⟨rfl, HS.out⟩
  · by_cases hn : n ≤ 1000
    · go_enter Tryd.func4, Tryd.ntmps4
      go_wp2_with fail
      refine (head_any _ HE.out).mono ?_; rintro e w1 ⟨rfl, hb1⟩
      have HS := Lib.hid (HS.out.call hb1); clear hb1
      go_wp2
      go_ret
      exact ⟨rfl, HS.out⟩
    · obtain ⟨l, rfl⟩ : ∃ l : List UInt8, t = ⟨l.toArray⟩ := ⟨_, ba_eq t⟩
      have hlen : (⟨l.toArray⟩ : ByteArray).size = l.length := size_of_list _
      have HLL : Hid (l.length ≤ 200) := by show _ ≤ _; omega
      obtain ⟨s, hs⟩ : ∃ s, chain l 1000 = s := ⟨_, rfl⟩
      have c1 : ∀ W, HexTab W → Calls Tryd.prog 17 #[.string ⟨l.toArray⟩, .int .i64 n] W fun e w' => e = .returned (.string ⟨s.toArray⟩) ∧ Below W.heap.size W w' := fun W hT => by
        rw [← hs]; exact chain_great l n (by omega) (by have := HLL.out; omega) W hT
      have c2 : ∀ W, Calls Tryd.prog 18 #[.string ⟨l.toArray⟩, .int .i64 1000] W fun e w' => e = .returned (.string ⟨s.toArray⟩) ∧ W = w' := fun W => by
        rw [← hs]; exact rchain_small l 1000 (Nat.le_refl _) (by have := HLL.out; omega) W
      have C1 := Lib.hid c1; have C2 := Lib.hid c2; clear c1 c2 hs
      go_enter Tryd.func4, Tryd.ntmps4
      go_wp2_with fail
      refine (head_any _ HE.out).mono ?_; rintro e w1 ⟨rfl, hb1⟩
      have HS := Lib.hid (HS.out.call hb1); clear hb1
      go_wp2_with fail
      refine (C1.out _ (HE.out.below HS.out).hex).mono ?_; rintro e w2 ⟨rfl, hb1⟩
      have HS := Lib.hid (HS.out.call hb1); clear hb1
      go_wp2_with fail
      refine (C2.out _).mono ?_; rintro e w3 ⟨rfl, rfl⟩
      go_wp2
      go_ret
      exact ⟨rfl, HS.out⟩
end Go.Proofs.YtpfbclomnkfahaaDoor
