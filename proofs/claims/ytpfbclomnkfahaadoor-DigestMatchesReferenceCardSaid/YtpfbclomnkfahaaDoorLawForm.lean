/-
  The law DigestForm: its walk.
-/
import Derived.Test.YtpfbclomnkfahaaDoorFew
import Derived.Test.YtpfbclomnkfahaaDoorHead
namespace Go.Proofs.YtpfbclomnkfahaaDoor
open Go.RowKit Go.Sort Foyer.Digest

theorem each_of_few {ls : List (List UInt8)} (h : few ls = true) : ∀ t ∈ ls, t.length ≤ 1000000 := fun t ht => by
  have := (few_iff.1 h).1 t ht; omega

set_option maxRecDepth 100000 in
set_option maxHeartbeats 1000000 in
theorem form_walk (t : ByteArray) (p : Option Addr) (len cap : Nat) (ls : List (List UInt8)) (q : Int) (w : World) (ht : t.size ≤ maxLen) (hl : IsStrs w p len ls) (hq : (Lit.int .u8 q).wf = true) (hE : Env w) :
    Calls Tryd.prog 5 #[.string t, .slice p len cap, .int .u8 q] w fun e w' => e = .returned (.bool true) ∧ Below w.heap.size w w' := by
  unfold maxLen at ht
  obtain ⟨hq1, hq2⟩ := u8_bounds hq
  clear hq
  have HE := Lib.hid hE; clear hE
  have HL := Lib.hid hl; clear hl
  have HS : Hid (Since w w) := Below.refl _ _
  by_cases h2000 : 2000 < (t.size : Int)
  · go_enter Tryd.func5, Tryd.ntmps5
    go_wp2_with fail
    refine (head_any _ HE.out).mono ?_; rintro e w1 ⟨rfl, hb1⟩
    have HS := Lib.hid (HS.out.call hb1); clear hb1
    go_wp2
    go_ret
    exact ⟨rfl, HS.out⟩
  · cases hf : few ls
    · have hfew := fun W (h : Since w W) => few_any ls p len cap W (HL.out.since h)
      rw [hf] at hfew
      have HF := Lib.hid hfew; clear hfew hf
      go_enter Tryd.func5, Tryd.ntmps5
      go_wp2_with fail
      refine (head_any _ HE.out).mono ?_; rintro e w1 ⟨rfl, hb1⟩
      have HS := Lib.hid (HS.out.call hb1); clear hb1
      go_wp2_with fail
      refine (HF.out _ HS.out).mono ?_; rintro e w2 ⟨rfl, rfl⟩
      go_wp2
      go_ret
      exact ⟨rfl, HS.out⟩
    · have hfew := fun W (h : Since w W) => few_any ls p len cap W (HL.out.since h)
      rw [hf] at hfew
      have hlen : ls.length ≤ 30 := (few_iff.1 hf).2
      have HF := Lib.hid hfew; have HEA := Lib.hid (each_of_few hf); have HLE := Lib.hid hlen
      clear hfew hf hlen
      obtain ⟨l, rfl⟩ : ∃ l : List UInt8, t = ⟨l.toArray⟩ := ⟨_, ba_eq t⟩
      have hlen : (⟨l.toArray⟩ : ByteArray).size = l.length := size_of_list _
      have HLL : Hid (l.length ≤ 2000) := by show _ ≤ _; omega
      obtain ⟨b, hb⟩ : ∃ b : Nat, 1 + q % 30 = (b : Int) := ⟨(1 + q % 30).toNat, by omega⟩
      have hb1 : 1 ≤ b := by omega
      have hb2 : b ≤ 30 := by omega
      have HB := Lib.hid hb; clear hb
      obtain ⟨s1, hs1⟩ : ∃ s, sum l = s := ⟨_, rfl⟩
      obtain ⟨s2, hs2⟩ : ∃ s, listSum ls = s := ⟨_, rfl⟩
      obtain ⟨s3, hs3⟩ : ∃ s, chain l b = s := ⟨_, rfl⟩
      have hd1 : isDigest s1 = true := by rw [← hs1]; exact sum_isDigest _
      have hd2 : isDigest s2 = true := by rw [← hs2]; exact sum_isDigest _
      have hd3 : isDigest s3 = true := by rw [← hs3]; exact chain_isDigest _ hb1
      have hz : ∀ s : List UInt8, isDigest s = true → s.length ≤ 1000000000000 := fun s h => by
        unfold isDigest at h; simp only [Bool.and_eq_true, decide_eq_true_eq] at h; omega
      have H1 := Lib.hid hs1; have H2 := Lib.hid hs2; have H3 := Lib.hid hs3
      have D1 := Lib.hid hd1; have D2 := Lib.hid hd2; have D3 := Lib.hid hd3; have HZ := Lib.hid hz
      clear hs1 hs2 hs3 hd1 hd2 hd3 hz
      go_enter Tryd.func5, Tryd.ntmps5
      go_wp2_with fail
      refine (head_any _ HE.out).mono ?_; rintro e w1 ⟨rfl, hbb⟩
      have HS := Lib.hid (HS.out.call hbb); clear hbb
      go_wp2_with fail
      refine (HF.out _ HS.out).mono ?_; rintro e w2 ⟨rfl, rfl⟩
      go_wp2_with fail
      refine (sum_c l s1 H1.out (by have := HLL.out; omega) _ (HE.out.below HS.out).hex).mono ?_; rintro e w2 ⟨rfl, hbb⟩
      have HS := Lib.hid (HS.out.call hbb); clear hbb
      go_wp2_with fail
      refine (is_c s1 true D1.out (HZ.out _ D1.out) _).mono ?_; rintro e w3 ⟨rfl, rfl⟩
      go_wp2_with fail
      refine (list_c ls s2 len HL.out.length H2.out p cap _ (HL.out.since HS.out).rd (by have := HLE.out; have := HL.out.length; omega) HEA.out (HE.out.below HS.out)).mono ?_; rintro e w3 ⟨rfl, hbb⟩
      have HS := Lib.hid (HS.out.call hbb); clear hbb
      go_wp2_with fail
      refine (is_c s2 true D2.out (HZ.out _ D2.out) _).mono ?_; rintro e w4 ⟨rfl, rfl⟩
      go_wp2_with fail
      rw [HB.out]
      refine (chain_c l s3 b b rfl (by omega) H3.out (by have := HLL.out; omega) _ (HE.out.below HS.out).hex).mono ?_; rintro e w4 ⟨rfl, hbb⟩
      have HS := Lib.hid (HS.out.call hbb); clear hbb
      go_wp2_with fail
      refine (is_c s3 true D3.out (HZ.out _ D3.out) _).mono ?_; rintro e w5 ⟨rfl, rfl⟩
      go_wp2
      go_ret
      exact ⟨rfl, HS.out⟩
end Go.Proofs.YtpfbclomnkfahaaDoor
