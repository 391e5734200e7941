/-
  The law DigestNumbers: its walk.
-/
import Derived.Test.YtpfbclomnkfahaaDoorRefDigit
import Derived.Test.YtpfbclomnkfahaaDoorHead
namespace Go.Proofs.YtpfbclomnkfahaaDoor
open Go.RowKit Go.Sort Foyer.Digest

/-- The last k of the first fifteen digits. -/
def lastOf (d : List UInt8) (k : Nat) : List UInt8 := (d.take 15).drop (15 - k)
theorem lastOf_length {d : List UInt8} (h : d.length = 16) {k : Nat} (hk : k ≤ 15) : (lastOf d k).length = k := by
  unfold lastOf; rw [List.length_drop, List.length_take]; omega
theorem lastOf_all {d : List UInt8} (h : isDigest d = true) (k : Nat) : (lastOf d k).all isHex = true :=
  List.all_eq_true.2 fun x hx => List.all_eq_true.1 (take_hex h).1 x (List.mem_of_mem_drop hx)
theorem lastOf_below {d : List UInt8} (h : isDigest d = true) {k : Nat} (hk : k ≤ 14) : below d ((16 ^ k : Nat) : Int) = ((num (lastOf d k) : Nat) : Int) := by
  have h16 : d.length = 16 := by unfold isDigest at h; simp only [Bool.and_eq_true, decide_eq_true_eq] at h; exact h.1
  have hp : 0 < 16 ^ k := Nat.pow_pos (by decide)
  have e1 : (((16 ^ k : Nat) : Int) < 1) = False := eq_false (by omega)
  simp only [below, e1, if_false, h, if_true]
  rw [← Int.natCast_emod]
  congr 1
  have e : d.take 15 = (d.take 15).take (15 - k) ++ lastOf d k := (List.take_append_drop _ _).symm
  rw [e]
  exact num_mod k _ _ (lastOf_length h16 (by omega)) (lastOf_all h k)
theorem lastOf_get {d : List UInt8} (h : d.length = 16) {k j : Nat} (hk : k ≤ 14) (hj : j < k) : (lastOf d k)[j]'(by rw [lastOf_length h (by omega)]; exact hj) = d[15 - k + j]'(by omega) := by
  unfold lastOf; rw [List.getElem_drop, List.getElem_take]

set_option maxRecDepth 100000 in
set_option maxHeartbeats 2000000 in
theorem numbers_walk (t : ByteArray) (n f q : Int) (w : World) (ht : t.size ≤ maxLen) (hn : (Lit.int .u16 n).wf = true) (hf : (Lit.int .u16 f).wf = true) (hq : (Lit.int .u8 q).wf = true) (hE : Env w) :
    Calls Tryd.prog 10 #[.string t, .int .u16 n, .int .u16 f, .int .u8 q] w fun e w' => e = .returned (.bool true) ∧ Below w.heap.size w w' := by
  unfold maxLen at ht
  obtain ⟨hq1, hq2⟩ := u8_bounds hq
  obtain ⟨hn1, hn2⟩ := u16_bounds hn
  obtain ⟨hf1, hf2⟩ := u16_bounds hf
  clear hq hn hf
  have HE := Lib.hid hE; clear hE
  have HS : Hid (Since w w) := Below.refl _ _
  by_cases h2000 : 2000 < (t.size : Int)
  · go_enter Tryd.func10, Tryd.ntmps10
    go_wp2_with fail
    refine (head_any _ HE.out).mono ?_; rintro e w1 ⟨rfl, hb1⟩
    have HS := Lib.hid (HS.out.call hb1); clear hb1
    go_wp2
    go_ret
    exact ⟨rfl, HS.out⟩
  · by_cases hn0 : n = 0
    · have hnb : (n == 0) = true := by simp [hn0]
      clear hn0
      go_enter Tryd.func10, Tryd.ntmps10
      go_wp2_with fail
      refine (head_any _ HE.out).mono ?_; rintro e w1 ⟨rfl, hb1⟩
      have HS := Lib.hid (HS.out.call hb1); clear hb1
      go_wp2
      go_ret
      exact ⟨rfl, HS.out⟩
    · have hnb : (n == 0) = false := by simp [hn0]
      by_cases hf0 : f = 0
      · have hfb : (f == 0) = true := by simp [hf0]
        clear hf0
        go_enter Tryd.func10, Tryd.ntmps10
        go_wp2_with fail
        refine (head_any _ HE.out).mono ?_; rintro e w1 ⟨rfl, hb1⟩
        have HS := Lib.hid (HS.out.call hb1); clear hb1
        go_wp2
        go_ret
        exact ⟨rfl, HS.out⟩
      · have hfb : (f == 0) = false := by simp [hf0]
        obtain ⟨l, rfl⟩ : ∃ l : List UInt8, t = ⟨l.toArray⟩ := ⟨_, ba_eq t⟩
        have hlen : (⟨l.toArray⟩ : ByteArray).size = l.length := size_of_list _
        have HLL : Hid (l.length ≤ 2000) := by show _ ≤ _; omega
        obtain ⟨d, hd⟩ : ∃ s, sum l = s := ⟨_, rfl⟩
        have hdd : isDigest d = true := by rw [← hd]; exact sum_isDigest _
        have hdl : d.length = 16 := by rw [← hd]; exact sum_length _
        have hds : (⟨d.toArray⟩ : ByteArray).size = 16 := by rw [size_of_list]; exact hdl
        obtain ⟨x, hx⟩ : ∃ x, below d n = x := ⟨_, rfl⟩
        obtain ⟨hx1, hx2⟩ := below_range (t := d) (n := n) (by omega)
        rw [hx] at hx1 hx2
        obtain ⟨y, hy⟩ : ∃ y, below d (n * f) = y := ⟨_, rfl⟩
        have hxy : y % n = x := by rw [← hy, ← hx]; exact below_mul hdd (by omega) (by omega)
        have hnf1 : 1 ≤ n * f := by
          have := Int.mul_le_mul (show 1 ≤ n by omega) (show 1 ≤ f by omega) (by omega) (by omega)
          omega
        have hnf2 : n * f ≤ 4294836225 := by
          have := Int.mul_le_mul (show n ≤ 65535 by omega) (show f ≤ 65535 by omega) (by omega) (by omega)
          omega
        obtain ⟨hy1, hy2⟩ := below_range (t := d) (n := n * f) hnf1
        rw [hy] at hy1 hy2
        obtain ⟨k, hk⟩ : ∃ k : Nat, q % 15 = (k : Int) := ⟨(q % 15).toNat, by omega⟩
        have hk14 : k ≤ 14 := by omega
        have H1 := Lib.hid hd; have HDD := Lib.hid hdd; have HX := Lib.hid hx; have HY := Lib.hid hy; have HXY := Lib.hid hxy; have HK := Lib.hid hk
        have HDL := Lib.hid hdl; have HDS := Lib.hid hds
        clear hd hdd hx hy hxy hk hdl hn0 hf0
        generalize hmm : n * f = m at *
        have hwm : wrap64 (n * f) = m := by rw [hmm]; exact IntWalk.wrap64_in _ ⟨by omega, by omega⟩
        have HW := Lib.hid hwm
        clear hmm hwm
        have hyx : (y % n != x) = false := by rw [HXY.out]; simp
        have HYX := Lib.hid hyx; clear hyx
        go_enter Tryd.func10, Tryd.ntmps10
        go_wp2_with fail
        refine (head_any _ HE.out).mono ?_; rintro e w1 ⟨rfl, hb1⟩
        have HS := Lib.hid (HS.out.call hb1); clear hb1
        go_wp2_with fail
        refine (sum_c l d H1.out (by have := HLL.out; omega) _ (HE.out.below HS.out).hex).mono ?_; rintro e w2 ⟨rfl, hbb⟩
        have HS := Lib.hid (HS.out.call hbb); clear hbb
        go_wp2_with fail
        refine (below_c d n x HX.out (by rw [HDL.out]; omega) (by omega) _).mono ?_; rintro e w3 ⟨rfl, hbb⟩
        have HS := Lib.hid (HS.out.call hbb); clear hbb
        go_wp2_with fail
        rw [HW.out]
        refine (below_c d m y HY.out (by rw [HDL.out]; omega) (by omega) _).mono ?_; rintro e w4 ⟨rfl, hbb⟩
        have HS := Lib.hid (HS.out.call hbb); clear hbb
        have hyx := HYX.out
        have hdl := HDL.out
        have hkk := HK.out
        go_wp2_with fail
        clear hyx hkk hy1 hy2 hx1 hx2
        have hk14' : k ≤ 14 := hk14
        go_loop [14, 15, 16] (fun a b i => ∃ j s wh wa : Nat, s ≤ 15 ∧ wh ≤ 72057594037927936 ∧ wa ≤ 72057594037927936 ∧ a = .int .i64 wh ∧ b = .int .i64 wa ∧ i = .int .i64 s ∧ Hid (j ≤ k ∧ s + k = 15 + j ∧ wh = 16 ^ j ∧ wa = num ((lastOf d k).take j))) (fun _ _ i => 15 - (intOf i).toNat)
        case atStart =>
          exact ⟨0, 15 - k, 1, 0, by omega, by omega, by omega, rfl, rfl, by congr 1; omega, Lib.hid ⟨by omega, by omega, rfl, rfl⟩⟩
        case round =>
          obtain ⟨j, s, wh, wa, hs15, hwh, hwa, rfl, rfl, rfl, HJ⟩ := hrel
          by_cases hlt : s < 15
          · have hsd : s < d.length := by rw [HDL.out]; omega
            obtain ⟨hj1, hj2, hj3, hj4⟩ := HJ.out
            have hjk : j < k := by omega
            have hll : (lastOf d k).length = k := lastOf_length HDL.out (by omega)
            have hget : (lastOf d k)[j]'(by rw [hll]; exact hjk) = d[s] := by
              rw [lastOf_get HDL.out hk14' hjk]; congr 1; omega
            have hhex : isHex d[s] = true := by
              rw [← hget]; exact List.all_eq_true.1 (lastOf_all HDD.out k) _ (List.getElem_mem _)
            obtain ⟨u, hu⟩ : ∃ u, unhex d[s] = u := ⟨_, rfl⟩
            have hul : u < 16 := by rw [← hu]; exact unhex_lt hhex
            have hdig : digS ((⟨d.toArray⟩ : ByteArray)[s]'(by rw [size_of_list]; exact hsd)) = (u : Nat) := by
              have e : (⟨d.toArray⟩ : ByteArray)[s]'(by rw [size_of_list]; exact hsd) = d[s] := rfl
              rw [e]; unfold digS; rw [if_pos hhex, hu]
            have hcall : ∀ W, Calls Tryd.prog 25 #[.int .u8 ((⟨d.toArray⟩ : ByteArray)[s]'(by rw [size_of_list]; exact hsd)).toNat] W fun e w' => e = .returned (.int .i64 (u : Nat)) ∧ W = w' := fun W => by
              rw [← hdig]; exact rdigit_any _ W
            have hnum : num ((lastOf d k).take (j + 1)) = wa * 16 + u := by
              rw [num_take_succ (by rw [hll]; exact hjk), ← hj4, hget, hu]
            have hpow : wh * 16 = 16 ^ (j + 1) := by rw [Nat.pow_succ, hj3]
            have hp2 : 16 ^ (j + 1) ≤ 16 ^ 14 := Nat.pow_le_pow_right (by decide) (by omega)
            have hp3 : (16 : Nat) ^ 14 = 72057594037927936 := by decide
            have hn3 : num ((lastOf d k).take (j + 1)) ≤ 72057594037927935 := num_take_bound (lastOf_all HDD.out k) (by omega) (by rw [hll]; omega)
            have hwh2 : wh * 16 ≤ 72057594037927936 := by omega
            have hwa2 : wa * 16 + u ≤ 72057594037927935 := by omega
            have HCALL := Lib.hid hcall
            have HNEW : Hid (j + 1 ≤ k ∧ s + 1 + k = 15 + (j + 1) ∧ wh * 16 = 16 ^ (j + 1) ∧ wa * 16 + u = num ((lastOf d k).take (j + 1))) := ⟨by omega, by omega, hpow, hnum.symm⟩
            clear hj1 hj2 hj3 hj4 hll hget hhex hu hdig hcall hnum hpow hp2 hp3 hn3 HJ hjk
            go_wp2_with fail
            refine (HCALL.out _).mono ?_; rintro e w5 ⟨rfl, rfl⟩
            go_wp2
            go_round
            case rel => exact ⟨j + 1, s + 1, wh * 16, wa * 16 + u, by omega, hwh2, by omega, by go_num, by go_num, by go_num, HNEW⟩
            case measure => simp [intOf]; omega
          · obtain ⟨hj1, hj2, hj3, hj4⟩ := HJ.out
            have hjk : j = k := by omega
            have hll : (lastOf d k).length = k := lastOf_length HDL.out (by omega)
            have hbel : below d ((wh : Nat) : Int) = (wa : Nat) := by
              rw [hj3, hj4, hjk, lastOf_below HDD.out hk14', List.take_of_length_le (by omega)]
            have HBEL := Lib.hid hbel
            clear hj1 hj2 hj3 hj4 hjk hll hbel HJ
            go_wp2_with fail
            refine (below_c d (wh : Nat) (wa : Nat) HBEL.out (by rw [HDL.out]; omega) (by omega) _).mono ?_; rintro e w5 ⟨rfl, hbb⟩
            have HS := Lib.hid (HS.out.call hbb); clear hbb
            go_wp2
            go_ret
            exact ⟨rfl, HS.out⟩
end Go.Proofs.YtpfbclomnkfahaaDoor
