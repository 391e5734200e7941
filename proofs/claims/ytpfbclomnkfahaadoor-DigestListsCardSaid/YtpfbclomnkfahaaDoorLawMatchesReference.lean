/-
  The law DigestMatchesReference: its walk.
-/
import Derived.Test.YtpfbclomnkfahaaDoorRefJoin
import Derived.Test.YtpfbclomnkfahaaDoorLawForm
namespace Go.Proofs.YtpfbclomnkfahaaDoor
open Go.RowKit Go.Sort Foyer.Digest

theorem ris_c (l : List UInt8) (b : Bool) (h : isDigest l = b) (w : World) :
    Calls Tryd.prog 20 #[.string ⟨l.toArray⟩] w fun e w' => e = .returned (.bool b) ∧ w = w' := by
  have := ris_any ⟨l.toArray⟩ w
  rw [show (⟨l.toArray⟩ : ByteArray).data.toList = l from rfl, h] at this
  exact this
theorem rbelow_c (l : List UInt8) (n m : Int) (h : below l n = m) (hn : n ≤ 9223372036854775807) (w : World) :
    Calls Tryd.prog 22 #[.string ⟨l.toArray⟩, .int .i64 n] w fun e w' => e = .returned (.int .i64 m) ∧ w = w' := by
  have := rbelow_any ⟨l.toArray⟩ n hn w
  rw [show (⟨l.toArray⟩ : ByteArray).data.toList = l from rfl, h] at this
  exact this
theorem rsum_c (l m : List UInt8) (h : sum l = m) (hs : l.length ≤ 1000000000000) (w : World) :
    Calls Tryd.prog 14 #[.string ⟨l.toArray⟩] w fun e w' => e = .returned (.string ⟨m.toArray⟩) ∧ w = w' := by
  rw [← h]; exact rsum_l l hs w
theorem rlist_c (ls : List (List UInt8)) (m : List UInt8) (k : Nat) (hk : ls.length = k) (h : listSum ls = m) (p : Option Addr) (cap : Nat) (w : World) (hr : RdS w p ls) (hl : k ≤ 1000) (ht : ∀ t ∈ ls, t.length ≤ 1000000) :
    Calls Tryd.prog 16 #[.slice p k cap] w fun e w' => e = .returned (.string ⟨m.toArray⟩) ∧ Below w.heap.size w w' := by
  rw [← h, ← hk]; exact rlist_any ls p cap w hr (by omega) ht
/-- Both chains, for whatever number of at most 40. -/
theorem chain_pair (l : List UInt8) (q : Int) (hq : q ≤ 40) (hs : l.length ≤ 2000) : ∃ s : List UInt8,
    (∀ W, HexTab W → Calls Tryd.prog 17 #[.string ⟨l.toArray⟩, .int .i64 q] W fun e w' => e = .returned (.string ⟨s.toArray⟩) ∧ Below W.heap.size W w') ∧
    ∀ W, Calls Tryd.prog 18 #[.string ⟨l.toArray⟩, .int .i64 q] W fun e w' => e = .returned (.string ⟨s.toArray⟩) ∧ W = w' := by
  by_cases h : q ≤ 0
  · exact ⟨l, fun W _ => chain_none l q h W, fun W => rchain_none l q h W⟩
  · obtain ⟨k, rfl⟩ := Int.eq_ofNat_of_zero_le (show 0 ≤ q by omega)
    exact ⟨chain l k, fun W hT => chain_small l k (by omega) (by omega) W hT, fun W => rchain_small l k (by omega) (by omega) W⟩

set_option maxRecDepth 100000 in
set_option maxHeartbeats 2000000 in
theorem ref_walk (t : ByteArray) (p : Option Addr) (len cap : Nat) (ls : List (List UInt8)) (n : Int) (w : World) (ht : t.size ≤ maxLen) (hl : IsStrs w p len ls) (hn : (Lit.int .i64 n).wf = true) (hE : Env w) :
    Calls Tryd.prog 3 #[.string t, .slice p len cap, .int .i64 n] w fun e w' => e = .returned (.bool true) ∧ Below w.heap.size w w' := by
  unfold maxLen at ht
  have hnn : -9223372036854775808 ≤ n ∧ n ≤ 9223372036854775807 := by
    simp [Lit.wf, IntKind.min, IntKind.max, IntKind.bits, IntKind.signed] at hn; omega
  obtain ⟨hn1, hn2⟩ := hnn
  clear hn
  have HE := Lib.hid hE; clear hE
  have HL := Lib.hid hl; clear hl
  have HS : Hid (Since w w) := Below.refl _ _
  by_cases h2000 : 2000 < (t.size : Int)
  · go_enter Tryd.func3, Tryd.ntmps3
    go_wp2_with fail
    refine (head_any _ HE.out).mono ?_; rintro e w1 ⟨rfl, hb1⟩
    have HS := Lib.hid (HS.out.call hb1); clear hb1
    go_wp2
    go_ret
    exact ⟨rfl, HS.out⟩
  · cases hf : few ls
    · have hfew := fun W (h : Since w W) => few_any ls p len cap W (HL.out.since h)
      rw [hf] at hfew
      have HF := Lib.hid hfew; clear hfew hf
      go_enter Tryd.func3, Tryd.ntmps3
      go_wp2_with fail
      refine (head_any _ HE.out).mono ?_; rintro e w1 ⟨rfl, hb1⟩
      have HS := Lib.hid (HS.out.call hb1); clear hb1
      go_wp2_with fail
      refine (HF.out _ HS.out).mono ?_; rintro e w2 ⟨rfl, rfl⟩
      go_wp2
      go_ret
      exact ⟨rfl, HS.out⟩
    · have hfew := fun W (h : Since w W) => few_any ls p len cap W (HL.out.since h)
      rw [hf] at hfew
      have hlen : ls.length ≤ 30 := (few_iff.1 hf).2
      have HF := Lib.hid hfew; have HEA := Lib.hid (each_of_few hf); have HLE := Lib.hid hlen
      clear hfew hf hlen
      obtain ⟨l, rfl⟩ : ∃ l : List UInt8, t = ⟨l.toArray⟩ := ⟨_, ba_eq t⟩
      have hlen : (⟨l.toArray⟩ : ByteArray).size = l.length := size_of_list _
      have HLL : Hid (l.length ≤ 2000) := by show _ ≤ _; omega
      obtain ⟨q, hq⟩ : ∃ q, n.tmod 40 = q := ⟨_, rfl⟩
      have hq40 : q ≤ 40 := by
        have h1 := Int.tmod_lt_of_pos n (show (0 : Int) < 40 by decide)
        omega
      obtain ⟨s3, c1, c2⟩ := chain_pair l q hq40 HLL.out
      obtain ⟨d, hd⟩ : ∃ s, sum l = s := ⟨_, rfl⟩
      obtain ⟨s2, hs2⟩ : ∃ s, listSum ls = s := ⟨_, rfl⟩
      obtain ⟨b1, hb1⟩ : ∃ b, isDigest l = b := ⟨_, rfl⟩
      obtain ⟨x, hx⟩ : ∃ x, below l n = x := ⟨_, rfl⟩
      obtain ⟨y, hy⟩ : ∃ y, below d n = y := ⟨_, rfl⟩
      have hdl : d.length = 16 := by rw [← hd]; exact sum_length _
      have HQ := Lib.hid hq; have HC1 := Lib.hid c1; have HC2 := Lib.hid c2
      have H1 := Lib.hid hd; have H2 := Lib.hid hs2; have HB := Lib.hid hb1; have HX := Lib.hid hx; have HY := Lib.hid hy; have HDL := Lib.hid hdl
      clear hq c1 c2 hd hs2 hb1 hx hy hdl
      go_enter Tryd.func3, Tryd.ntmps3
      go_wp2_with fail
      refine (head_any _ HE.out).mono ?_; rintro e w1 ⟨rfl, hbb⟩
      have HS := Lib.hid (HS.out.call hbb); clear hbb
      go_wp2_with fail
      refine (HF.out _ HS.out).mono ?_; rintro e w2 ⟨rfl, rfl⟩
      go_wp2_with fail
      refine (sum_c l d H1.out (by have := HLL.out; omega) _ (HE.out.below HS.out).hex).mono ?_; rintro e w2 ⟨rfl, hbb⟩
      have HS := Lib.hid (HS.out.call hbb); clear hbb
      go_wp2_with fail
      refine (rsum_c l d H1.out (by have := HLL.out; omega) _).mono ?_; rintro e w3 ⟨rfl, rfl⟩
      go_wp2_with fail
      refine (list_c ls s2 len HL.out.length H2.out p cap _ (HL.out.since HS.out).rd (by have := HLE.out; have := HL.out.length; omega) HEA.out (HE.out.below HS.out)).mono ?_; rintro e w3 ⟨rfl, hbb⟩
      have HS := Lib.hid (HS.out.call hbb); clear hbb
      go_wp2_with fail
      refine (rlist_c ls s2 len HL.out.length H2.out p cap _ (HL.out.since HS.out).rd (by have := HLE.out; have := HL.out.length; omega) HEA.out).mono ?_; rintro e w4 ⟨rfl, hbb⟩
      have HS := Lib.hid (HS.out.call hbb); clear hbb
      go_wp2_with fail
      rw [HQ.out]
      refine (HC1.out _ (HE.out.below HS.out).hex).mono ?_; rintro e w5 ⟨rfl, hbb⟩
      have HS := Lib.hid (HS.out.call hbb); clear hbb
      go_wp2_with fail
      rw [HQ.out]
      refine (HC2.out _).mono ?_; rintro e w6 ⟨rfl, rfl⟩
      go_wp2_with fail
      refine (is_c l b1 HB.out (by have := HLL.out; omega) _).mono ?_; rintro e w6 ⟨rfl, rfl⟩
      go_wp2_with fail
      refine (ris_c l b1 HB.out _).mono ?_; rintro e w6 ⟨rfl, rfl⟩
      go_wp2_with fail
      refine (below_c l n x HX.out (by have := HLL.out; omega) hn2 _).mono ?_; rintro e w6 ⟨rfl, hbb⟩
      have HS := Lib.hid (HS.out.call hbb); clear hbb
      go_wp2_with fail
      refine (rbelow_c l n x HX.out hn2 _).mono ?_; rintro e w7 ⟨rfl, rfl⟩
      go_wp2_with fail
      refine (below_c d n y HY.out (by rw [HDL.out]; omega) hn2 _).mono ?_; rintro e w7 ⟨rfl, hbb⟩
      have HS := Lib.hid (HS.out.call hbb); clear hbb
      go_wp2_with fail
      refine (rbelow_c d n y HY.out hn2 _).mono ?_; rintro e w8 ⟨rfl, rfl⟩
      go_wp2
      go_ret
      exact ⟨rfl, HS.out⟩
end Go.Proofs.YtpfbclomnkfahaaDoor
