/-
  The law's own examples: they hold.
-/
import Derived.Test.YtpfbclomnkfahaaDoorWalkList
namespace Go.Proofs.YtpfbclomnkfahaaDoor
open Go.RowKit Go.Sort Foyer.Digest

theorem is_c (l : List UInt8) (b : Bool) (h : isDigest l = b) (hs : l.length ≤ 1000000000000) (w : World) :
    Calls Tryd.prog 19 #[.string ⟨l.toArray⟩] w fun e w' => e = .returned (.bool b) ∧ w = w' := by
  have := is_any ⟨l.toArray⟩ (by rw [size_of_list]; exact hs) w
  rw [show (⟨l.toArray⟩ : ByteArray).data.toList = l from rfl, h] at this
  exact this
theorem below_c (l : List UInt8) (n m : Int) (h : below l n = m) (hs : l.length ≤ 1000000000000) (hn : n ≤ 9223372036854775807) (w : World) :
    Calls Tryd.prog 21 #[.string ⟨l.toArray⟩, .int .i64 n] w fun e w' => e = .returned (.int .i64 m) ∧ Below w.heap.size w w' := by
  have := below_any ⟨l.toArray⟩ n (by rw [size_of_list]; exact hs) hn w
  rw [show (⟨l.toArray⟩ : ByteArray).data.toList = l from rfl, h] at this
  exact this
theorem sum_c (l m : List UInt8) (h : sum l = m) (hs : l.length ≤ 1000000000000) (w : World) (hT : HexTab w) :
    Calls Tryd.prog 13 #[.string ⟨l.toArray⟩] w fun e w' => e = .returned (.string ⟨m.toArray⟩) ∧ Below w.heap.size w w' := by
  rw [← h]; exact sum_l l hs w hT
theorem chain_c (l m : List UInt8) (n : Int) (k : Nat) (hk : n = k) (h1 : k ≤ 1000) (h : chain l k = m) (hs : l.length ≤ 100000000000) (w : World) (hT : HexTab w) :
    Calls Tryd.prog 17 #[.string ⟨l.toArray⟩, .int .i64 n] w fun e w' => e = .returned (.string ⟨m.toArray⟩) ∧ Below w.heap.size w w' := by
  rw [← h, hk]; exact chain_small l k h1 hs w hT
theorem list_c (ls : List (List UInt8)) (m : List UInt8) (k : Nat) (hk : ls.length = k) (h : listSum ls = m) (p : Option Addr) (cap : Nat) (w : World) (hr : RdS w p ls) (hl : k ≤ 1000) (ht : ∀ t ∈ ls, t.length ≤ 1000000) (hE : Env w) :
    Calls Tryd.prog 15 #[.slice p k cap] w fun e w' => e = .returned (.string ⟨m.toArray⟩) ∧ Below w.heap.size w w' := by
  rw [← h, ← hk]; exact list_any ls p cap w hr (by omega) ht hE

theorem ex_is1 : isDigest [48, 49, 50, 51, 52, 53, 54, 55, 56, 57, 97, 98, 99, 100, 101, 102] = true := by decide +kernel
theorem ex_is2 : isDigest [48, 49, 50, 51, 52, 53, 54, 55, 56, 57, 97, 98, 99, 100, 101, 70] = false := by decide +kernel
theorem ex_is3 : isDigest [] = false := by decide +kernel
theorem ex_below1 : below [48, 48, 48, 48, 48, 48, 48, 48, 48, 48, 48, 48, 48, 97, 53, 102] 7 = 4 := by decide +kernel
theorem ex_below2 : below [48, 48, 48, 48, 48, 48, 48, 48, 48, 48, 48, 48, 48, 97, 53, 102] 0 = 0 := by decide +kernel
theorem ex_list : listSum [[97], [98, 99]] = sum [49, 58, 97, 50, 58, 98, 99] := by
  unfold listSum
  have e : joined [[97], [98, 99]] = [49, 58, 97, 50, 58, 98, 99] := by
    simp only [joined, item, List.length_cons, List.length_nil]
    rw [dec_small (by omega), dec_small (by omega)]; rfl
  rw [e]
theorem ex_ne1 : sum [] ≠ sum [0] := fun h => by have := (short_iff (by decide) (by decide)).1 h; cases this
theorem ex_ne2 : sum [1] ≠ sum [] := fun h => by have := (short_iff (by decide) (by decide)).1 h; cases this

set_option maxRecDepth 100000 in
set_option maxHeartbeats 2000000 in
theorem head_any (w : World) (hE : Env w) : Calls Tryd.prog 11 #[] w fun e w' => e = .returned (.bool true) ∧ Below w.heap.size w w' := by
  have HE := Lib.hid hE; clear hE
  have HS : Hid (Since w w) := Below.refl _ _
  obtain ⟨s0, hs0⟩ : ∃ s, sum [] = s := ⟨_, rfl⟩
  obtain ⟨s00, hs00⟩ : ∃ s, sum [0] = s := ⟨_, rfl⟩
  obtain ⟨s1, hs1⟩ : ∃ s, sum [1] = s := ⟨_, rfl⟩
  obtain ⟨sl, hsl⟩ : ∃ s, sum [49, 58, 97, 50, 58, 98, 99] = s := ⟨_, rfl⟩
  obtain ⟨sx, hsx⟩ : ∃ s, sum [120] = s := ⟨_, rfl⟩
  obtain ⟨sxx, hsxx⟩ : ∃ s, sum sx = s := ⟨_, rfl⟩
  have hll : listSum [[97], [98, 99]] = sl := by rw [ex_list]; exact hsl
  have hcx : chain [120] 2 = sxx := by show sum (sum [120]) = sxx; rw [hsx]; exact hsxx
  have hn1 : (s0 == s00) = false := beq_eq_false_iff_ne.2 fun e => ex_ne1 (by rw [hs0, hs00, e])
  have hn2 : (s1 == s0) = false := beq_eq_false_iff_ne.2 fun e => ex_ne2 (by rw [hs0, hs1, e])
  have H0 := Lib.hid hs0; have H00 := Lib.hid hs00; have H1 := Lib.hid hs1; have HL := Lib.hid hsl; have HX := Lib.hid hsx; have HXX := Lib.hid hsxx; have HLL := Lib.hid hll; have HCX := Lib.hid hcx
  have HSX : Hid (sx.length ≤ 1000000000000) := by show _ ≤ _; rw [← hsx, sum_length]; omega
  clear hs0 hs00 hs1 hsl hsx hsxx hll hcx
  go_enter Tryd.func11, Tryd.ntmps11
  go_wp2_with fail
  refine (is_c _ _ ex_is1 (by decide) _).mono ?_; rintro e w1 ⟨rfl, rfl⟩
  go_wp2_with fail
  refine (is_c _ _ ex_is2 (by decide) _).mono ?_; rintro e w1 ⟨rfl, rfl⟩
  go_wp2_with fail
  refine (is_c _ _ ex_is3 (by decide) _).mono ?_; rintro e w1 ⟨rfl, rfl⟩
  go_wp2_with fail
  refine (below_c _ _ _ ex_below1 (by decide) (by omega) _).mono ?_; rintro e w1 ⟨rfl, hb1⟩
  have HS := Lib.hid (HS.out.call hb1); clear hb1
  go_wp2_with fail
  refine (below_c _ _ _ ex_below2 (by decide) (by omega) _).mono ?_; rintro e w2 ⟨rfl, hb1⟩
  have HS := Lib.hid (HS.out.call hb1); clear hb1
  go_wp2_with fail
  refine (list_c [[97], [98, 99]] sl 2 rfl HLL.out _ _ _ (rd_two _ _ _ _) (by decide) (by simp) (HE.out.below (HS.out.alloc _))).mono ?_; rintro e w3 ⟨rfl, hb1⟩
  have HS := Lib.hid ((HS.out.alloc _).call hb1); clear hb1
  go_wp2_with fail
  refine (sum_c _ _ HL.out (by decide) _ (HE.out.below HS.out).hex).mono ?_; rintro e w4 ⟨rfl, hb1⟩
  have HS := Lib.hid (HS.out.call hb1); clear hb1
  go_wp2_with fail
  refine (chain_c [120] [120] 0 0 rfl (by decide) rfl (by decide) _ (HE.out.below HS.out).hex).mono ?_; rintro e w5 ⟨rfl, hb1⟩
  have HS := Lib.hid (HS.out.call hb1); clear hb1
  go_wp2_with fail
  refine (chain_c [120] sxx 2 2 rfl (by decide) HCX.out (by decide) _ (HE.out.below HS.out).hex).mono ?_; rintro e w6 ⟨rfl, hb1⟩
  have HS := Lib.hid (HS.out.call hb1); clear hb1
  go_wp2_with fail
  refine (sum_c _ _ HX.out (by decide) _ (HE.out.below HS.out).hex).mono ?_; rintro e w7 ⟨rfl, hb1⟩
  have HS := Lib.hid (HS.out.call hb1); clear hb1
  go_wp2_with fail
  refine (sum_c _ _ HXX.out HSX.out _ (HE.out.below HS.out).hex).mono ?_; rintro e w8 ⟨rfl, hb1⟩
  have HS := Lib.hid (HS.out.call hb1); clear hb1
  go_wp2_with fail
  refine (sum_c _ _ H0.out (by decide) _ (HE.out.below HS.out).hex).mono ?_; rintro e w9 ⟨rfl, hb1⟩
  have HS := Lib.hid (HS.out.call hb1); clear hb1
  go_wp2_with fail
  refine (sum_c _ _ H00.out (by decide) _ (HE.out.below HS.out).hex).mono ?_; rintro e w10 ⟨rfl, hb1⟩
  have HS := Lib.hid (HS.out.call hb1); clear hb1
  go_wp2_with fail
  refine (sum_c _ _ H1.out (by decide) _ (HE.out.below HS.out).hex).mono ?_; rintro e w11 ⟨rfl, hb1⟩
  have HS := Lib.hid (HS.out.call hb1); clear hb1
  go_wp2_with fail
  refine (sum_c _ _ H0.out (by decide) _ (HE.out.below HS.out).hex).mono ?_; rintro e w12 ⟨rfl, hb1⟩
  have HS := Lib.hid (HS.out.call hb1); clear hb1
  go_wp2
  go_ret
  exact ⟨rfl, HS.out⟩
end Go.Proofs.YtpfbclomnkfahaaDoor
