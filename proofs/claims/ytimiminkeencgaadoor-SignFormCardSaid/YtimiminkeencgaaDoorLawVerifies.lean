/-
  The law SignVerifies: its walk.
-/
import Derived.Test.YtimiminkeencgaaDoorHead3
import Derived.Test.YtimiminkeencgaaDoorShort
import Derived.Test.YtimiminkeencgaaDoorRefSame
namespace Go.Proofs.YtimiminkeencgaaDoor
open Go.RowKit Go.Sort Foyer.Digest Foyer.Sign

theorem sigOf_le (s m : List UInt8) : ∀ t ∈ sigOf s m, t.length ≤ 1000000 := fun t ht => by
  rw [isDigest_length (List.all_eq_true.1 (sig_digests s m) t ht)]; omega

set_option maxRecDepth 100000 in
set_option maxHeartbeats 1000000 in
theorem verifies_walk (a b : ByteArray) (w : World) (ha : a.size ≤ maxLen) (hb : b.size ≤ maxLen) (hE : Env w) :
    Calls Tryd.prog 4 #[.string a, .string b] w fun e w' => e = .returned (.bool true) ∧ Below w.heap.size w w' := by
  obtain ⟨s, rfl⟩ : ∃ l : List UInt8, a = ⟨l.toArray⟩ := ⟨_, ba_eq a⟩
  obtain ⟨m, rfl⟩ : ∃ l : List UInt8, b = ⟨l.toArray⟩ := ⟨_, ba_eq b⟩
  rw [size_of_list] at ha hb
  have HE := Lib.hid hE; clear hE
  have HS : Hid (Since w w) := Below.refl _ _
  have HA := Lib.hid ha; have HB := Lib.hid hb; clear ha hb
  cases hsh : shortB [s, m]
  · have HSH := Lib.hid hsh; clear hsh
    go_enter Tryd.func4, Tryd.ntmps4
    go_wp2_with fail
    refine (head_any _ HE.out).mono ?_; rintro e w1 ⟨rfl, hb1⟩
    have HS := Lib.hid (HS.out.call hb1); clear hb1
    go_wp2_with fail
    refine (short_two s m _ HSH.out HA.out HB.out _ _).mono ?_; rintro e w2 ⟨rfl, rfl⟩
    go_wp2
    go_ret
    exact ⟨rfl, HS.out.alloc _⟩
  · have hl := (short_iff'.1 hsh).1
    have hsl : s.length ≤ 300 := hl s (by simp)
    have hml : m.length ≤ 300 := hl m (by simp)
    have HSH : Hid (∀ _ : Unit, shortB [s, m] = true) := fun _ => hsh
    have HSL := Lib.hid hsl; have HML := Lib.hid hml; clear hsh hl hsl hml
    obtain ⟨pk, hpk⟩ : ∃ pk, pub s = pk := ⟨_, rfl⟩
    have hpd : isDigest pk = true := by rw [← hpk]; exact pub_isDigest s
    have hv : verify pk m (sigOf s m) = true := by rw [← hpk]; exact verify_own _ _
    have HPK := Lib.hid hpk; have HPD : Hid (∀ _ : Unit, isDigest pk = true) := fun _ => hpd
    have HV : Hid (∀ _ : Unit, verify pk m (sigOf s m) = true) := fun _ => hv
    have HDG : Hid (∀ k, k < 18 → isDigest (sigAt s m k) = true) := fun k _ => chain_of_digest (startOf_isDigest s k) _
    clear hpk hpd hv
    go_enter Tryd.func4, Tryd.ntmps4
    go_wp2_with fail
    refine (head_any _ HE.out).mono ?_; rintro e w1 ⟨rfl, hb1⟩
    have HS := Lib.hid (HS.out.call hb1); clear hb1
    go_wp2_with fail
    refine (short_two s m _ (HSH.out ()) HA.out HB.out _ _).mono ?_; rintro e w2 ⟨rfl, rfl⟩
    have HS := Lib.hid (HS.out.alloc (.cells #[.string ⟨s.toArray⟩, .string ⟨m.toArray⟩] 9))
    generalize w1.alloc (.cells #[.string ⟨s.toArray⟩, .string ⟨m.toArray⟩] 9) = w2 at *
    go_wp2_with fail
    refine (public_any s (by have := HSL.out; omega) pk HPK.out _ (HE.out.below HS.out)).mono ?_; rintro e w3 ⟨rfl, hb3⟩
    have HS := Lib.hid (HS.out.call hb3); clear hb3
    go_wp2_with fail
    refine (sign_any s m (by have := HSL.out; omega) (by have := HML.out; omega) _ (HE.out.below HS.out)).mono ?_; rintro e w4 ⟨bs, rfl, _, hr4, hb4⟩
    have HR := Lib.hid hr4
    have HS := Lib.hid (HS.out.call hb4); clear hb4 hr4
    go_wp2
    go_loop [8] (fun i => ∃ k : Nat, k ≤ 18 ∧ i = .int .i64 k) (fun i => 18 - (intOf i).toNat)
    case atStart => exact ⟨0, Nat.zero_le _, rfl⟩
    case round =>
      obtain ⟨k, hk, rfl⟩ := hrel
      by_cases hlt : k < 18
      · have hck := (HR.out k hlt).1
        rw [if_pos hlt] at hck
        have hdg := HDG.out k hlt
        have hdl := isDigest_length hdg
        have hcall := is_c (sigAt s m k) true hdg (by omega) w4
        generalize sigAt s m k = t at *
        have HC := Lib.hid hcall; clear hcall hdg
        go_wp2_with fail
        refine (HC.out).mono ?_; rintro e w' ⟨rfl, rfl⟩
        go_wp2
        go_round
        case rel => exact ⟨k + 1, by omega, by go_num⟩
        case measure => simp [intOf]; omega
      · obtain rfl : k = 18 := by omega
        go_wp2_with fail
        refine (is_c pk true (HPD.out ()) (by rw [isDigest_length (HPD.out ())]; omega) _).mono ?_; rintro e w5 ⟨rfl, rfl⟩
        go_wp2_with fail
        refine (sign_any s m (by have := HSL.out; omega) (by have := HML.out; omega) _ (HE.out.below HS.out)).mono ?_; rintro e w5 ⟨bs2, rfl, _, hr5, hb5⟩
        have HR1 := Lib.hid (HR.out.below hb5)
        have HR2 := Lib.hid hr5
        have HS := Lib.hid (HS.out.call hb5); clear hb5 hr5
        go_wp2_with fail
        refine (rsame_c (sigOf s m) (sigOf s m) true (by simp) 18 18 (sigOf_length _ _) (sigOf_length _ _) _ _ _ _ _ HR1.out.rd HR2.out.rd (by decide)).mono ?_; rintro e w6 ⟨rfl, hb6⟩
        have HR1 := Lib.hid (HR1.out.below hb6)
        have HS := Lib.hid (HS.out.call hb6); clear hb6
        go_wp2_with fail
        refine (verify_any pk m (sigOf s m) _ 18 18 (by have := HML.out; omega) (sigOf_length _ _) (sigOf_le s m) true (HV.out ()) _ HR1.out.rd (HE.out.below HS.out)).mono ?_; rintro e w7 ⟨rfl, hb7⟩
        have HS := Lib.hid (HS.out.call hb7); clear hb7
        go_wp2
        go_ret
        exact ⟨rfl, HS.out⟩
end Go.Proofs.YtimiminkeencgaaDoor
