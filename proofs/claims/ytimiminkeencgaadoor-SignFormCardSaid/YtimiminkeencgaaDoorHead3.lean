/-
  The law's own examples of layer 3: they hold.
-/
import Derived.Test.YtimiminkeencgaaDoorRefDigits
import Derived.Lib.QuietBelow
import Derived.Deep.DeepCutAuto
namespace Go.Proofs.YtimiminkeencgaaDoor
open Go.RowKit Go.Sort Foyer.Digest Foyer.Sign

def exA : List UInt8 := [48, 48, 48, 48, 48, 48, 48, 48, 48, 48, 48, 48, 48, 48, 48, 48]
def exB : List UInt8 := [49, 50, 51, 52, 53, 54, 55, 56, 57, 97, 98, 99, 100, 101, 102, 48]
theorem ex_digA : digits exA = [0, 0, 0, 0, 0, 0, 0, 0, 0, 0, 0, 0, 0, 0, 0, 0, 15, 0] := by decide +kernel
theorem ex_digB : digits exB = [1, 2, 3, 4, 5, 6, 7, 8, 9, 10, 11, 12, 13, 14, 15, 0, 7, 8] := by decide +kernel

set_option maxRecDepth 100000 in
set_option maxHeartbeats 4000000 in
theorem head_any (w : World) (hE : Env w) : Calls Tryd.prog 9 #[] w fun e w' => e = .returned (.bool true) ∧ Below w.heap.size w w' := by
  have HE := Lib.hid hE; clear hE
  have HS : Hid (Since w w) := Below.refl _ _
  have hA := fun W => qdigits_any exA rfl (by decide +kernel) W
  have hB := fun W => qdigits_any exB rfl (by decide +kernel) W
  rw [ex_digA] at hA
  rw [ex_digB] at hB
  have HA := Lib.hid hA; have HB := Lib.hid hB; clear hA hB
  go_enter Tryd.func9, Tryd.ntmps9
  go_wp2_with fail
  refine (HA.out _).mono ?_; rintro e w1 ⟨p1, cap1, rfl, hr1, hb1⟩
  have HR1 := Lib.hid hr1
  have HS := Lib.hid (HS.out.call hb1); clear hb1 hr1
  go_wp2_with fail
  refine (HB.out _).mono ?_; rintro e w2 ⟨p2, cap2, rfl, hr2, hb2⟩
  have HR1 := Lib.hid (HR1.out.below hb2)
  have HR2 := Lib.hid hr2
  have HS := Lib.hid (HS.out.call hb2); clear hb2 hr2
  go_wp2_with fail
  refine (sign_any [115, 101, 99, 114, 101, 116] [109, 101, 115, 115, 97, 103, 101] (by decide) (by decide) _ (HE.out.below HS.out)).mono ?_; rintro e w3 ⟨b3, rfl, _, hr3, hb3⟩
  have HR1 := Lib.hid (HR1.out.below hb3)
  have HR2 := Lib.hid (HR2.out.below hb3)
  have HR3 := Lib.hid hr3
  have HS := Lib.hid (HS.out.call hb3); clear hb3 hr3
  obtain ⟨q1, rfl, _, h1⟩ := HR1.out
  obtain ⟨q2, rfl, _, h2⟩ := HR2.out
  have c1 := h1 16 (by decide)
  have c2 := h1 17 (by decide)
  have c3 := h2 9 (by decide)
  have c4 := h2 16 (by decide)
  have c5 := h2 17 (by decide)
  simp only [List.getD_cons_succ, List.getD_cons_zero] at c1 c2 c3 c4 c5
  clear h1 h2
  obtain ⟨pk, hpk⟩ : ∃ pk, pub [115, 101, 99, 114, 101, 116] = pk := ⟨_, rfl⟩
  have hv : verify pk [109, 101, 115, 115, 97, 103, 101] (sigOf [115, 101, 99, 114, 101, 116] [109, 101, 115, 115, 97, 103, 101]) = true := by rw [← hpk]; exact verify_own _ _
  have hrd := HR3.out.rd
  have hP : ∀ d os, Calls Tryd.prog 11 #[.string ⟨#[115, 101, 99, 114, 101, 116]⟩] (grow (redrawn w3 d) os) fun e w'' => e = .returned (.string ⟨pk.toArray⟩) ∧ ∃ p : Regrown, w'' = grow (redrawn w3 p.d) p.os :=
    fun d os => Calls.regrown_of (public_any [115, 101, 99, 114, 101, 116] (by decide) pk hpk _ (HE.out.below (HS.out.call (below_regrown w3 d os))))
  have hV1 : ∀ d os, Calls Tryd.prog 16 #[.string ⟨pk.toArray⟩, .string ⟨#[109, 101, 115, 115, 97, 103, 101]⟩, .slice (some ⟨b3, 0, none⟩) 18 18] (grow (redrawn w3 d) os) fun e w'' => e = .returned (.bool true) ∧ ∃ p : Regrown, w'' = grow (redrawn w3 p.d) p.os :=
    fun d os => Calls.regrown_of (verify_any pk [109, 101, 115, 115, 97, 103, 101] (sigOf [115, 101, 99, 114, 101, 116] [109, 101, 115, 115, 97, 103, 101]) _ 18 18 (by decide) (sigOf_length _ _) (fun t ht => by
      rw [isDigest_length (List.all_eq_true.1 (sig_digests _ _) t ht)]; omega) true hv _ (hrd.below (Nat.le_refl _) (below_regrown w3 d os)) (HE.out.below (HS.out.call (below_regrown w3 d os))))
  have hV2 : ∀ d os, Calls Tryd.prog 16 #[.string ⟨pk.toArray⟩, .string ⟨#[109, 101, 115, 115, 97, 103, 101]⟩, .slice (some ⟨b3, 1, none⟩) 17 17] (grow (redrawn w3 d) os) fun e w'' => e = .returned (.bool false) ∧ ∃ p : Regrown, w'' = grow (redrawn w3 p.d) p.os :=
    fun d os => Calls.regrown_of (verify_len pk [109, 101, 115, 115, 97, 103, 101] _ 17 17 (by decide) _)
  have hV3 : ∀ d os, Calls Tryd.prog 16 #[.string ⟨#[]⟩, .string ⟨#[109, 101, 115, 115, 97, 103, 101]⟩, .slice none 0 0] (grow (redrawn w3 d) os) fun e w'' => e = .returned (.bool false) ∧ ∃ p : Regrown, w'' = grow (redrawn w3 p.d) p.os :=
    fun d os => Calls.regrown_of (verify_len [] [109, 101, 115, 115, 97, 103, 101] _ 0 0 (by decide) _)
  have HP := Lib.hid hP; have HV1 := Lib.hid hV1; have HV2 := Lib.hid hV2; have HV3 := Lib.hid hV3
  clear hP hV1 hV2 hV3 hv hpk hrd
  go_wp2
  refine wp_region_quiet_below (by kernel_rfl) (by kernel_rfl) ?_
  repeat (go_big_quiet_step (first | with_reducible exact HP.out _ _ | with_reducible exact HV1.out _ _ | with_reducible exact HV2.out _ _ | with_reducible exact HV3.out _ _))
  refine wpQuiet_nil ?_
  intro _ hw'
  obtain ⟨⟨dq, osq⟩, hw''⟩ := hw'
  subst hw''
  go_wp2
  go_ret
  exact ⟨rfl, HS.out.call (below_regrown _ dq osq)⟩
end Go.Proofs.YtimiminkeencgaaDoor
