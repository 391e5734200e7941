/-
  The law's own links, and the document's numerals and joined texts.
-/
import Derived.Test.YtimiminkeencgaaDoorHead3
import Derived.Test.YtimiminkeencgaaDoorOwnStrs
import Derived.Test.YtimiminkeencgaaDoorRefCalls
namespace Go.Proofs.YtimiminkeencgaaDoor
open Go.RowKit Go.Sort Foyer.Digest Foyer.Sign

theorem links_succ (t : List UInt8) (n : Nat) : links t (n + 1) = links t n ++ [chain t (n + 1)] := range_snoc _ _
theorem links_length (t : List UInt8) (n : Nat) : (links t n).length = n + 1 := by unfold links; simp

set_option maxRecDepth 100000 in
set_option maxHeartbeats 1000000 in
theorem links_any (t : List UInt8) (n : Nat) (hn : n ≤ 100) (ht : t.length ≤ 1000000) (w : World) :
    Calls Tryd.prog 25 #[.string ⟨t.toArray⟩, .int .i64 n] w fun e w' => ∃ v, e = .returned v ∧ OwnS w' w.heap.size v (links t n) ∧ Below w.heap.size w w' := by
  have HL : Hid (∀ k, (chain t k).length ≤ 1000000000) := fun k => by have := chain_length_le t k; omega
  have HLK : Hid (∀ k, (links t k).length = k + 1) := links_length t
  clear ht
  go_enter Tryd.func25, Tryd.ntmps25
  go_wp2
  have ho := ownS_lit w w.heap.size [t] (Nat.le_refl _) (by show 1 ≤ maxLen; unfold maxLen; omega)
  have HO : Hid (OwnS (w.alloc (.cells #[.string ⟨t.toArray⟩] 9)) w.heap.size (.slice (some ⟨w.heap.size, 0, none⟩) 1 1) (links t 0)) := ho
  clear ho
  go_loopw [0, 5, 6] (fun x v i wr => ∃ (k : Nat) (z : Value), k ≤ n ∧ i = .int .i64 k ∧ x = .string ⟨(chain t k).toArray⟩ ∧ z = v ∧ Hid (OwnS wr w.heap.size z (links t k)) ∧ Hid (Below w.heap.size w wr)) (fun _ _ i _ => n - (intOf i).toNat)
  case atStart => exact ⟨0, _, Nat.zero_le _, rfl, rfl, rfl, HO, Lib.hid ((Below.refl _ _).alloc (Nat.le_refl _) _)⟩
  case round =>
    obtain ⟨k, z, hk, rfl, rfl, rfl, HO, HB⟩ := hrel
    by_cases hlt : k < n
    · have HNX : Hid (sum (chain t k) = chain t (k + 1)) := rfl
      have HNL : Hid (links t (k + 1) = links t k ++ [chain t (k + 1)]) := links_succ t k
      have HCL := Lib.hid (HL.out k)
      have HLL := Lib.hid (HLK.out k)
      generalize chain t k = c at *
      generalize hc2 : chain t (k + 1) = c2 at *
      have HC2 := Lib.hid hc2; clear hc2
      go_wp2_with fail
      refine (rsum_c c c2 HNX.out (by have := HCL.out; omega) _).mono ?_; rintro e w' ⟨rfl, rfl⟩
      go_wp2_with (at_builtin; refine wpList_append_s _ rfl _ _ rfl w.heap.size _ _ rfl (HO.out.alloc _) wr.heap.size 0 1 [c2] 1 rfl rfl ?c1 ?d3 ?d5 ?_)
      case c1 =>
        intro j hj
        match j, hj with
        | 0, _ => simp
      case d3 => have := HLL.out; omega
      case d5 => have := HB.out.size; simp; omega
      intro v2 w2 hown2 hsz2 hbel2
      have HO2 := Lib.hid hown2
      have HB2 := Lib.hid (hbel2 _ _ (Nat.le_refl _) (HB.out.alloc HB.out.size _))
      clear hown2 hsz2 hbel2
      go_wp2
      go_roundw
      case rel => exact ⟨k + 1, v2, by omega, by go_num, by rw [HC2.out], rfl, Lib.hid (by rw [HNL.out]; exact HO2.out), HB2⟩
      case measure => simp [intOf]; omega
    · obtain rfl : k = n := by omega
      go_wp2
      go_ret
      exact ⟨_, rfl, HO.out, HB.out⟩
end Go.Proofs.YtimiminkeencgaaDoor
