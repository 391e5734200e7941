/-
  The walks of the chains of a secret: the closure that walks some steps; the value of a digit.
-/
import Derived.Test.YtimiminkeencgaaDoorCalls
import Derived.Test.YtimiminkeencgaaDoorMathSign
import Derived.Deep.RegionWith
namespace Go.Proofs.YtimiminkeencgaaDoor
open Go.RowKit Go.Sort Foyer.Digest Foyer.Sign

theorem digitValue_low (c : Nat) (w : World) (h1 : 48 ≤ c) (h2 : c ≤ 57) :
    Calls Tryd.prog 60 #[.int .u8 c] w fun e w' => e = .returned (.int .i64 ((c : Int) - 48)) ∧ w = w' := by
  go_enter Tryd.func60, Tryd.ntmps60
  go_wp2
  go_ret
  exact ⟨rfl, rfl⟩
theorem digitValue_high (c : Nat) (w : World) (h1 : 97 ≤ c) (h2 : c ≤ 102) :
    Calls Tryd.prog 60 #[.int .u8 c] w fun e w' => e = .returned (.int .i64 ((c : Int) - 97 + 10)) ∧ w = w' := by
  have h3 : decide ((c : Int) ≤ 57) = false := by simp; omega
  go_enter Tryd.func60, Tryd.ntmps60
  go_wp2
  go_ret
  exact ⟨rfl, rfl⟩
theorem digitValue_any (c : UInt8) (d : Nat) (h : isHex c = true) (hd : unhex c = d) (w : World) :
    Calls Tryd.prog 60 #[.int .u8 c.toNat] w fun e w' => e = .returned (.int .i64 d) ∧ w = w' := by
  subst hd
  rcases (isHex_iff c).1 h with ⟨h1, h2⟩ | ⟨h1, h2⟩
  · have : ((unhex c : Nat) : Int) = (c.toNat : Int) - 48 := by unfold unhex; rw [if_pos h2]; omega
    rw [this]; exact digitValue_low _ w h1 h2
  · have : ((unhex c : Nat) : Int) = (c.toNat : Int) - 97 + 10 := by unfold unhex; rw [if_neg (by omega)]; omega
    rw [this]; exact digitValue_high _ w h1 h2

theorem chainsOf_any (s : ByteArray) (w : World) :
    Calls Tryd.prog 27 #[.string s] w fun e w' => e = .returned (.func (.func 42) #[] #[.pointer (some ⟨w.heap.size, 0, none⟩)]) ∧ w' = w.alloc (.cells #[.string s] 9) := by
  go_enter Tryd.func27, Tryd.ntmps27
  go_wp2
  go_ret
  exact ⟨rfl, rfl⟩

set_option maxRecDepth 100000 in
set_option maxHeartbeats 1000000 in
theorem walk_any (s : List UInt8) (hs : s.length ≤ 1000) (i k : Nat) (hi : i < 18) (hk : k ≤ 15) (r : List UInt8) (hr : chain (startOf s i) k = r) (b : Nat) (w : World) (hb : w.cell? ⟨b, 0, none⟩ = some (.string ⟨s.toArray⟩)) (hE : Env w) :
    Calls Tryd.prog 42 #[.int .i64 i, .int .i64 k, .pointer (some ⟨b, 0, none⟩)] w fun e w' => e = .returned (.string ⟨r.toArray⟩) ∧ Below w.heap.size w w' := by
  have HE := Lib.hid hE; clear hE
  have hit := itoa_nat i
  obtain ⟨d, hd⟩ : ∃ d, Lib.decDigits i = d := ⟨_, rfl⟩
  obtain ⟨st, hst⟩ : ∃ st, startOf s i = st := ⟨_, rfl⟩
  have hls : listSum [s, d] = st := by rw [← hst, ← hd]; rfl
  rw [hst] at hr
  rw [hd] at hit
  have hdl : d.length ≤ 1000 := by
    have h1 := dec_length i
    have h2 := nDigits_le 1 i (by have : (10 : Nat) ^ (1 + 1) = 100 := by decide
                                  omega)
    rw [← hd]; omega
  have hstl : st.length ≤ 1000 := by rw [← hst, isDigest_length (startOf_isDigest s i)]; omega
  have HIT := Lib.hid hit; have HLS := Lib.hid hls; have HR := Lib.hid hr; have HSL := Lib.hid hs; have HDL := Lib.hid hdl; have HSTL := Lib.hid hstl
  have HB : Hid (b < w.heap.size) := lt_of_cell hb
  have HC := Lib.hid hb
  clear hit hls hr hst hd hdl hstl hs
  go_enter Tryd.func42, Tryd.ntmps42
  go_wp2_with fail
  have hcI : Calls Tryd.prog 43 #[.int .i64 i] w.drew fun e w' => e = .returned (.string ⟨d.toArray⟩) ∧ Hid (Since w w') ∧ w'.cell? ⟨b, 0, none⟩ = some (.string ⟨s.toArray⟩) := by
    have := itoa_call i (by omega) (by omega) w.drew (HE.out.below ((Below.refl _ _).drew))
    rw [HIT.out] at this
    refine this.mono ?_
    rintro e w1 ⟨rfl, hb1⟩
    have hs : Since w w1 := Since.call (w := w) ((Below.refl w.heap.size w).drew) hb1
    exact ⟨rfl, hs, (Below.cell hs HB.out).trans HC.out⟩
  have hcL : ∀ W, Hid (Since w W) → Calls Tryd.prog 28 #[.slice (some ⟨W.heap.size, 0, none⟩) 2 2] (W.alloc (.cells #[.string ⟨s.toArray⟩, .string ⟨d.toArray⟩] 9)) fun e w' => e = .returned (.string ⟨st.toArray⟩) ∧ Hid (Since w w') := by
    intro W hW
    refine (list_c [s, d] st 2 rfl HLS.out _ _ _ (rd_two _ _ _ _) (by decide) ?_ (HE.out.below (hW.out.alloc _))).mono ?_
    · intro t ht
      have h1 := HSL.out; have h2 := HDL.out
      simp only [List.mem_cons, List.not_mem_nil, or_false] at ht
      rcases ht with rfl | rfl <;> omega
    · rintro e w2 ⟨rfl, hb2⟩
      exact ⟨rfl, (hW.out.alloc _).call hb2⟩
  have HCI := Lib.hid hcI; have HCL := Lib.hid hcL; clear hcI hcL
  have hc0 := HC.out
  go_region_with (first
    | (go_at_call 43; refine (HCI.out).mono ?_; rintro e w1 ⟨rfl, HS, hc1⟩)
    | (go_at_call 28; refine (HCL.out _ HS).mono ?_; rintro e w2 ⟨rfl, HS⟩))
  all_goals (
    go_wp2_with fail
    refine (chain_c st r k k rfl (by omega) HR.out (by have := HSTL.out; omega) _ (HE.out.below HS.out).hex).mono ?_; rintro e w3 ⟨rfl, hb3⟩
    have HS := Lib.hid (HS.out.call hb3); clear hb3
    go_wp2
    go_ret
    exact ⟨rfl, HS.out⟩)
end Go.Proofs.YtimiminkeencgaaDoor
