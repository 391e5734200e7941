/-
  The law DigestChains: its walk.
-/
import Derived.Test.YtpfbclomnkfahaaDoorHead
namespace Go.Proofs.YtpfbclomnkfahaaDoor
open Go.RowKit Go.Sort Foyer.Digest

set_option maxRecDepth 100000 in
set_option maxHeartbeats 1000000 in
theorem chains_walk (t : ByteArray) (p q : Int) (w : World) (ht : t.size ≤ maxLen) (hp : (Lit.int .u8 p).wf = true) (hq : (Lit.int .u8 q).wf = true) (hE : Env w) :
    Calls Tryd.prog 8 #[.string t, .int .u8 p, .int .u8 q] w fun e w' => e = .returned (.bool true) ∧ Below w.heap.size w w' := by
  unfold maxLen at ht
  obtain ⟨hp1, hp2⟩ := u8_bounds hp
  obtain ⟨hq1, hq2⟩ := u8_bounds hq
  clear hp hq
  have HE := Lib.hid hE; clear hE
  have HS : Hid (Since w w) := Below.refl _ _
  by_cases h2000 : 2000 < (t.size : Int)
  · go_enter Tryd.func8, Tryd.ntmps8
    go_wp2_with fail
    refine (head_any _ HE.out).mono ?_; rintro e w1 ⟨rfl, hb1⟩
    have HS := Lib.hid (HS.out.call hb1); clear hb1
    go_wp2
    go_ret
    exact ⟨rfl, HS.out⟩
  · obtain ⟨l, hl⟩ : ∃ l : List UInt8, t = ⟨l.toArray⟩ := ⟨_, ba_eq t⟩
    subst hl
    have hlen : (⟨l.toArray⟩ : ByteArray).size = l.length := size_of_list _
    have HLL : Hid (l.length ≤ 2000) := by show _ ≤ _; omega
    obtain ⟨a, ha⟩ : ∃ a : Nat, p % 51 = (a : Int) := ⟨(p % 51).toNat, by omega⟩
    obtain ⟨b, hb⟩ : ∃ b : Nat, q % 51 = (b : Int) := ⟨(q % 51).toNat, by omega⟩
    have ha1 : a ≤ 50 := by omega
    have hb1 : b ≤ 50 := by omega
    obtain ⟨ca, hca⟩ : ∃ s, chain l a = s := ⟨_, rfl⟩
    obtain ⟨cb, hcb⟩ : ∃ s, chain ca b = s := ⟨_, rfl⟩
    have hcab : chain l (a + b) = cb := by rw [← chain_add, hca, hcb]
    have HCL : Hid (ca.length ≤ 3000) := by show _ ≤ _; have := chain_length_le l a; rw [hca] at this; omega
    have HCA := Lib.hid hca; have HCB := Lib.hid hcb; have HCAB := Lib.hid hcab
    clear hca hcb hcab
    have HA := Lib.hid ha; have HB := Lib.hid hb; clear ha hb
    go_enter Tryd.func8, Tryd.ntmps8
    go_wp2_with fail
    refine (head_any _ HE.out).mono ?_; rintro e w1 ⟨rfl, hb2⟩
    have HS := Lib.hid (HS.out.call hb2); clear hb2
    go_wp2_with fail
    rw [HA.out, HB.out]
    refine (chain_c l ca a a rfl (by omega) HCA.out (by have := HLL.out; omega) _ (HE.out.below HS.out).hex).mono ?_; rintro e w2 ⟨rfl, hb2⟩
    have HS := Lib.hid (HS.out.call hb2); clear hb2
    go_wp2_with fail
    refine (chain_c ca cb b b rfl (by omega) HCB.out (by have := HCL.out; omega) _ (HE.out.below HS.out).hex).mono ?_; rintro e w3 ⟨rfl, hb2⟩
    have HS := Lib.hid (HS.out.call hb2); clear hb2
    go_wp2_with fail
    refine (chain_c l cb (a + b) (a + b) (by omega) (by omega) HCAB.out (by have := HLL.out; omega) _ (HE.out.below HS.out).hex).mono ?_; rintro e w4 ⟨rfl, hb2⟩
    have HS := Lib.hid (HS.out.call hb2); clear hb2
    go_wp2
    go_ret
    exact ⟨rfl, HS.out⟩
end Go.Proofs.YtpfbclomnkfahaaDoor
