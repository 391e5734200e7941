/-
  The document's own Chain, Is and Below.
-/
import Derived.Test.YtimiminkeencgaaDoorRefSum
namespace Go.Proofs.YtimiminkeencgaaDoor
open Go.RowKit Go.Sort Foyer.Digest

theorem rsum_l (c : List UInt8) (hs : c.length ≤ 1000000000000) (w : World) :
    Calls Tryd.prog 19 #[.string ⟨c.toArray⟩] w fun e w' => e = .returned (.string ⟨(sum c).toArray⟩) ∧ w = w' :=
  rsum_any ⟨c.toArray⟩ (by rw [size_of_list]; exact hs) w

set_option maxRecDepth 100000 in
theorem rchain_small (t : List UInt8) (m : Nat) (h1 : m ≤ 1000) (hs : t.length ≤ 100000000000) (w : World) :
    Calls Tryd.prog 29 #[.string ⟨t.toArray⟩, .int .i64 m] w fun e w' => e = .returned (.string ⟨(chain t m).toArray⟩) ∧ w = w' := by
  have HL : Hid (∀ k, (chain t k).length ≤ 1000000000000) := fun k => by have := chain_length_le t k; omega
  clear hs
  have hmin : min (m : Int) 1000 = (m : Int) := by omega
  go_enter Tryd.func29, Tryd.ntmps29
  go_wp2
  go_loop [0, 5] (fun v i => ∃ k : Nat, k ≤ m ∧ i = .int .i64 k ∧ v = .string ⟨(chain t k).toArray⟩) (fun _ i => m - (intOf i).toNat)
  case atStart => exact ⟨0, Nat.zero_le _, rfl, rfl⟩
  case round =>
    obtain ⟨k, hk, rfl, rfl⟩ := hrel
    have hcl := HL.out k
    have hnx : chain t (k + 1) = sum (chain t k) := rfl
    have HNX := Lib.hid hnx; clear hnx
    have HCL := Lib.hid hcl; clear hcl
    by_cases hlt : k < m
    · generalize chain t k = c at *
      go_wp2_with fail
      refine (rsum_l c HCL.out _).mono ?_; rintro e w2 ⟨rfl, rfl⟩
      go_wp2
      go_round
      case rel => exact ⟨k + 1, by omega, by go_num, by rw [HNX.out]⟩
      case measure => simp [intOf]; omega
    · have hkm : k = m := by omega
      subst hkm
      go_wp2
      go_ret
      exact ⟨rfl, rfl⟩
theorem rchain_none (t : List UInt8) (n : Int) (hn : n ≤ 0) (w : World) :
    Calls Tryd.prog 29 #[.string ⟨t.toArray⟩, .int .i64 n] w fun e w' => e = .returned (.string ⟨t.toArray⟩) ∧ w = w' := by
  have hmin : min n 1000 = n := by omega
  go_enter Tryd.func29, Tryd.ntmps29
  go_wp2
  go_loop [0, 5] (fun v i => v = .string ⟨t.toArray⟩ ∧ i = .int .i64 0) (fun _ _ => 0)
  case atStart => exact ⟨rfl, rfl⟩
  case round =>
    obtain ⟨rfl, rfl⟩ := hrel
    go_wp2
    go_ret
    exact ⟨rfl, rfl⟩

theorem not_digest {l : List UInt8} {k : Nat} (hk : k < l.length) (hn : isHex l[k] = false) : isDigest l = false := by
  unfold isDigest
  rw [all_of_not hk hn, Bool.and_false]

set_option maxRecDepth 100000 in
theorem ris_any (t : ByteArray) (w : World) :
    Calls Tryd.prog 36 #[.string t] w fun e w' => e = .returned (.bool (isDigest t.data.toList)) ∧ w = w' := by
  have hlen : t.data.toList.length = t.size := by simp
  have HL := Lib.hid hlen; clear hlen
  generalize hr : isDigest t.data.toList = r at *
  have HR := Lib.hid hr; clear hr
  go_enter Tryd.func36, Tryd.ntmps36
  go_wp2
  go_loop [3] (fun i => ∃ k : Nat, k ≤ t.size ∧ k ≤ 16 ∧ i = .int .i64 k ∧ Hid ((t.data.toList.take k).all isHex = true)) (fun i => t.size - (intOf i).toNat)
  case atStart => exact ⟨0, Nat.zero_le _, Nat.zero_le _, rfl, Lib.hid rfl⟩
  case round =>
    obtain ⟨k, hk, hk16, rfl, HK⟩ := hrel
    by_cases hlt : k < t.size
    · by_cases hlt2 : k < 16
      · have hx := rdigit_any t[k] w
        have hstep := all_take_succ (l := t.data.toList) (k := k) (by rw [HL.out]; exact hlt)
        have hno := not_digest (l := t.data.toList) (k := k) (by rw [HL.out]; exact hlt)
        rw [show t.data.toList[k]'(by rw [HL.out]; exact hlt) = t[k] from rfl] at hstep hno
        cases hc : isHex t[k]
        · have HC : Hid (r = false) := by show r = false; rw [← HR.out]; exact hno hc
          have hd : digS t[k] = -1 := by unfold digS; rw [hc]; rfl
          rw [hd] at hx
          have HX := Lib.hid hx
          clear hc hd hx hstep hno
          go_wp2_with fail
          refine (HX.out).mono ?_; rintro e w' ⟨rfl, rfl⟩
          go_wp2
          go_ret
          exact ⟨by rw [HC.out]; rfl, rfl⟩
        · have HC : Hid ((t.data.toList.take (k + 1)).all isHex = true) := by
            show _ = true
            rw [hstep, HK.out, hc]; rfl
          have hd : digS t[k] = (unhex t[k] : Nat) := by unfold digS; rw [hc]; rfl
          rw [hd] at hx
          have HX := Lib.hid hx
          clear hc hd hx hstep hno
          generalize unhex t[k] = u at *
          go_wp2_with fail
          refine (HX.out).mono ?_; rintro e w' ⟨rfl, rfl⟩
          go_wp2
          go_round
          case rel => exact ⟨k + 1, by omega, by omega, by go_num, HC⟩
          case measure => simp [intOf]; omega
      · have hE : Hid (r = decide (t.size = 16)) := by
          show r = _
          rw [← HR.out]; unfold isDigest; rw [HL.out]
          by_cases e : t.size = 16
          · have := HK.out
            rw [List.take_of_length_le (by rw [HL.out]; omega)] at this
            rw [this]; simp
          · simp [e]
        have hb1 : decide ((k : Int) < (t.size : Int)) = true := by simp; omega
        have hb2 : decide ((k : Int) < 16) = false := by simp; omega
        go_wp2
        go_ret
        exact ⟨congrArg (fun z => Ending.returned (Value.bool z)) (by rw [hE.out, Bool.eq_iff_iff]; simp; omega), rfl⟩
    · have hE : Hid (r = decide (t.size = 16)) := by
        show r = _
        rw [← HR.out]; unfold isDigest; rw [HL.out]
        have := HK.out
        rw [List.take_of_length_le (by rw [HL.out]; omega)] at this
        rw [this]; simp
      have hb1 : decide ((k : Int) < (t.size : Int)) = false := by simp; omega
      go_wp2
      go_ret
      exact ⟨congrArg (fun z => Ending.returned (Value.bool z)) (by rw [hE.out, Bool.eq_iff_iff]; simp; omega), rfl⟩
end Go.Proofs.YtimiminkeencgaaDoor
