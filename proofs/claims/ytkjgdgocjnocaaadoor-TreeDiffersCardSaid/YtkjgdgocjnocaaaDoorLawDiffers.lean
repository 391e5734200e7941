/-
  The law TreeDiffers: its walk.
-/
import Derived.Test.YtkjgdgocjnocaaaDoorLawSound
import Derived.Lib.QuietBelow
import Derived.Deep.DeepCutAuto
namespace Go.Proofs.YtkjgdgocjnocaaaDoor
open Go.RowKit Go.Sort Foyer.Digest Foyer.Tree

set_option maxRecDepth 100000 in
set_option maxHeartbeats 2000000 in
theorem differs_walk (p : Option Addr) (n c1 : Nat) (l : List (List UInt8)) (q : Option Addr) (k c2 : Nat) (m : List (List UInt8)) (w : World) (hl : IsStrs w p n l) (_ : n ≤ c1) (hm : IsStrs w q k m) (_ : k ≤ c2) (hE : Env w) :
    Calls Tryd.prog 6 #[.slice p n c1, .slice q k c2] w fun e w' => e = .returned (.bool true) ∧ Below w.heap.size w w' := by
  have HE := Lib.hid hE; have HL := Lib.hid hl; have HM := Lib.hid hm
  have hnm := hl.small
  have hkm := hm.small
  unfold maxLen at hnm hkm
  have HS : Hid (Since w w) := Below.refl _ _
  clear hE hl hm
  obtain ⟨s1, hs1⟩ : ∃ s, shortN l 40 = s := ⟨_, rfl⟩
  obtain ⟨s2, hs2⟩ : ∃ s, shortN m 40 = s := ⟨_, rfl⟩
  have HS1 := Lib.hid hs1; have HS2 := Lib.hid hs2
  cases s1
  · clear hs1 hs2
    go_enter Tryd.func6, Tryd.ntmps6
    go_wp2_with fail
    refine (head_any _ HE.out).mono ?_; rintro e w1 ⟨rfl, hb1⟩
    have HSa := Lib.hid (HS.out.call hb1); clear hb1
    go_wp2_with fail
    refine (short_c l 40 (by decide) false HS1.out _ _ _ _ (HL.out.since HSa.out)).mono ?_; rintro e w2 ⟨rfl, rfl⟩
    go_wp2
    go_ret
    exact ⟨rfl, HSa.out⟩
  cases s2
  · clear hs1 hs2
    go_enter Tryd.func6, Tryd.ntmps6
    go_wp2_with fail
    refine (head_any _ HE.out).mono ?_; rintro e w1 ⟨rfl, hb1⟩
    have HSa := Lib.hid (HS.out.call hb1); clear hb1
    go_wp2_with fail
    refine (short_c l 40 (by decide) true HS1.out _ _ _ _ (HL.out.since HSa.out)).mono ?_; rintro e w2 ⟨rfl, rfl⟩
    go_wp2_with fail
    refine (short_c m 40 (by decide) false HS2.out _ _ _ _ (HM.out.since HSa.out)).mono ?_; rintro e w2 ⟨rfl, rfl⟩
    go_wp2
    go_ret
    exact ⟨rfl, HSa.out⟩
  have hlen := HL.out.length
  have hmen := HM.out.length
  obtain ⟨hl200, hl40⟩ := short_iff'.1 hs1
  obtain ⟨hm200, hm40⟩ := short_iff'.1 hs2
  rw [hlen] at hl40
  rw [hmen] at hm40
  have HL2 := Lib.hid hl200; have HM2 := Lib.hid hm200; have HN := Lib.hid hlen; have HK := Lib.hid hmen
  clear hs1 hs2 hl200 hm200 hlen hmen
  by_cases hnk : n = k
  case neg =>
    have hne : ((n : Int) != (k : Int)) = true := by simp; omega
    go_enter Tryd.func6, Tryd.ntmps6
    go_wp2_with fail
    refine (head_any _ HE.out).mono ?_; rintro e w1 ⟨rfl, hb1⟩
    have HSa := Lib.hid (HS.out.call hb1); clear hb1
    go_wp2_with fail
    refine (short_c l 40 (by decide) true HS1.out _ _ _ _ (HL.out.since HSa.out)).mono ?_; rintro e w2 ⟨rfl, rfl⟩
    go_wp2_with fail
    refine (short_c m 40 (by decide) true HS2.out _ _ _ _ (HM.out.since HSa.out)).mono ?_; rintro e w2 ⟨rfl, rfl⟩
    go_wp2
    go_ret
    exact ⟨rfl, HSa.out⟩
  subst hnk
  have hneq : ((n : Int) != (n : Int)) = false := by simp
  obtain ⟨rl, hrl⟩ : ∃ r, root l = r := ⟨_, rfl⟩
  obtain ⟨rm, hrm⟩ : ∃ r, root m = r := ⟨_, rfl⟩
  have hltl : Hid (∀ x ∈ l, x.length ≤ 1000000) := fun x hx => by have := HL2.out x hx; omega
  have hltm : Hid (∀ x ∈ m, x.length ≤ 1000000) := fun x hx => by have := HM2.out x hx; omega
  have HRL := Lib.hid hrl; have HRM := Lib.hid hrm
  clear hrl hrm
  by_cases hrr : rl = rm
  case neg =>
    have hrb : (rl == rm) = false := by simp [hrr]
    go_enter Tryd.func6, Tryd.ntmps6
    go_wp2_with fail
    refine (head_any _ HE.out).mono ?_; rintro e w1 ⟨rfl, hb1⟩
    have HSa := Lib.hid (HS.out.call hb1); clear hb1
    go_wp2_with fail
    refine (short_c l 40 (by decide) true HS1.out _ _ _ _ (HL.out.since HSa.out)).mono ?_; rintro e w2 ⟨rfl, rfl⟩
    go_wp2_with fail
    refine (short_c m 40 (by decide) true HS2.out _ _ _ _ (HM.out.since HSa.out)).mono ?_; rintro e w2 ⟨rfl, rfl⟩
    go_wp2_with fail
    refine (root_c l rl HRL.out _ _ _ _ (HL.out.since HSa.out).rd HN.out (by omega) hltl (HE.out.below HSa.out)).mono ?_; rintro e w3 ⟨rfl, hb3⟩
    have HSb := Lib.hid (HSa.out.call hb3); clear hb3
    go_wp2_with fail
    refine (root_c m rm HRM.out _ _ _ _ (HM.out.since HSb.out).rd HK.out (by omega) hltm (HE.out.below HSb.out)).mono ?_; rintro e w4 ⟨rfl, hb4⟩
    have HSc := Lib.hid (HSb.out.call hb4); clear hb4
    go_wp2
    go_ret
    exact ⟨rfl, HSc.out⟩
  subst hrr
  have hdf : Hid (∀ i, i < n → l.getD i [] = m.getD i [] ∨ found l i (m.getD i []) (path m i) = true) := fun i hi =>
    differs (by rw [HN.out, HK.out]) (by rw [HN.out]; omega) (by rw [HRL.out, HRM.out]) (by rw [HN.out]; exact hi)
  go_enter Tryd.func6, Tryd.ntmps6
  go_wp2_with fail
  refine (head_any _ HE.out).mono ?_; rintro e w1 ⟨rfl, hb1⟩
  have HSa := Lib.hid (HS.out.call hb1); clear hb1
  go_wp2_with fail
  refine (short_c l 40 (by decide) true HS1.out _ _ _ _ (HL.out.since HSa.out)).mono ?_; rintro e w2 ⟨rfl, rfl⟩
  go_wp2_with fail
  refine (short_c m 40 (by decide) true HS2.out _ _ _ _ (HM.out.since HSa.out)).mono ?_; rintro e w2 ⟨rfl, rfl⟩
  go_wp2_with fail
  refine (root_c l rl HRL.out _ _ _ _ (HL.out.since HSa.out).rd HN.out (by omega) hltl (HE.out.below HSa.out)).mono ?_; rintro e w3 ⟨rfl, hb3⟩
  have HSb := Lib.hid (HSa.out.call hb3); clear hb3
  go_wp2_with fail
  refine (root_c m rl HRM.out _ _ _ _ (HM.out.since HSb.out).rd HK.out (by omega) hltm (HE.out.below HSb.out)).mono ?_; rintro e w4 ⟨rfl, hb4⟩
  have HSc := Lib.hid (HSb.out.call hb4); clear hb4
  go_wp2
  go_loopw [6] (fun i wr => ∃ j : Nat, j ≤ n ∧ i = .int .i64 j ∧ Hid (Since w wr)) (fun i _ => n - (intOf i).toNat)
  case atStart => exact ⟨0, Nat.zero_le _, rfl, HSc⟩
  case round =>
    clear HSa HSb HSc HS
    obtain ⟨j, hj, rfl, HB⟩ := hrel
    by_cases hlt : j < n
    · obtain ⟨bp, op, rfl⟩ := HL.out.form_some (by omega)
      obtain ⟨bq, oq, rfl⟩ := HM.out.form_some (by omega)
      obtain ⟨pth, hpt⟩ : ∃ pth, path m j = pth := ⟨_, rfl⟩
      obtain ⟨kk, hkk⟩ : ∃ kk, pth.length = kk := ⟨_, rfl⟩
      have hk64 : kk ≤ 64 := by rw [← hkk, ← hpt]; exact path_length_le m j
      have hp16 : Hid (∀ x ∈ pth, x.length ≤ 1000000) := fun x hx => by
        rw [← hpt] at hx
        rw [path_16 m j x hx]; omega
      have hd := hdf.out j hlt
      have hml : (m.getD j []).length ≤ 1000000 := hltm _ (getD_mem (by rw [HK.out]; exact hlt))
      rw [hpt] at hd
      obtain ⟨lj, hlj⟩ : ∃ x, l.getD j [] = x := ⟨_, rfl⟩
      obtain ⟨mj, hmj⟩ : ∃ x, m.getD j [] = x := ⟨_, rfl⟩
      rw [hlj, hmj] at hd
      rw [hmj] at hml
      have HPT := Lib.hid hpt; have HKK := Lib.hid hkk; have HLJ := Lib.hid hlj; have HMJ := Lib.hid hmj; have HML := Lib.hid hml; have HD := Lib.hid hd
      clear hpt hkk hlj hmj hml hd
      by_cases hjm : lj = mj
      · subst hjm
        clear HD
        go_wp2_with fail
        refine (path_c m pth kk _ _ _ j HPT.out HKK.out _ (HM.out.since HB.out).rd HK.out (by omega) hltm hlt (HE.out.below HB.out)).mono ?_; rintro e w5 ⟨q5, c5, rfl, hr5, hc5, _, hb5⟩
        have HSd := Lib.hid (Since.call HB.out hb5); clear hb5 hr5
        have hx1 := HL.out.at_some HSd.out hlt
        have hx2 := HM.out.at_some HSd.out hlt
        rw [HLJ.out] at hx1
        rw [HMJ.out] at hx2
        have hg1 := fun d os => cell_regrown hx1 d os
        have hg2 := fun d os => cell_regrown hx2 d os
        have hjj : (lj == lj) = true := by simp
        have hjlt : (j : Int) < (n : Int) := by omega
        go_wp2
        refine wp_region_quiet_below (by kernel_rfl) (by kernel_rfl) ?_
        repeat (go_big_quiet_step (fail))
        refine wpQuiet_nil ?_
        intro _ hw'
        obtain ⟨⟨dq, osq⟩, hw''⟩ := hw'
        subst hw''
        clear hx1 hx2 hg1 hg2
        go_wp2
        go_roundw
        case rel => exact ⟨j + 1, by omega, by go_num, Lib.hid (HSd.out.call (below_regrown _ dq osq))⟩
        case measure => simp [intOf]; omega
      · have hf : found l j mj pth = true := HD.out.resolve_left hjm
        have HF := Lib.hid hf; clear HD hf
        have hjj : (lj == mj) = false := by simp [hjm]
        have hjlt : (j : Int) < (n : Int) := by omega
        go_wp2_with fail
        refine (path_c m pth kk _ _ _ j HPT.out HKK.out _ (HM.out.since HB.out).rd HK.out (by omega) hltm hlt (HE.out.below HB.out)).mono ?_; rintro e w5 ⟨q5, c5, rfl, hr5, hc5, _, hb5⟩
        have HR5 := Lib.hid hr5
        have HSd := Lib.hid (Since.call HB.out hb5); clear hb5 hr5
        have hx1 := HL.out.at_some HSd.out hlt
        have hx2 := HM.out.at_some HSd.out hlt
        rw [HLJ.out] at hx1
        rw [HMJ.out] at hx2
        have hg1 := fun d os => cell_regrown hx1 d os
        have hg2 := fun d os => cell_regrown hx2 d os
        have hcall : ∀ d os, Calls Tryd.prog 18 #[.slice (some ⟨bp, op, none⟩) n c1, .int .i64 j, .string ⟨mj.toArray⟩, .slice q5 kk c5] (grow (redrawn w5 d) os) fun e w'' => e = .returned (.bool true) ∧ ∃ p : Regrown, w'' = grow (redrawn w5 p.d) p.os := fun d os =>
          Calls.regrown_of (found_any l pth j mj _ _ n c1 kk c5 _ ((HL.out.since (HSd.out.call (below_regrown w5 d os))).rd) (HR5.out.below (Nat.le_refl _) (below_regrown w5 d os)) HN.out HKK.out (by omega) (by omega) hlt HML.out hltl hp16 true HF.out (HE.out.below (HSd.out.call (below_regrown w5 d os))))
        have HCA := Lib.hid hcall; clear hcall
        go_wp2
        refine wp_region_quiet_below (by kernel_rfl) (by kernel_rfl) ?_
        repeat (go_big_quiet_step (with_reducible exact HCA.out _ _))
        refine wpQuiet_nil ?_
        intro _ hw'
        obtain ⟨⟨dq, osq⟩, hw''⟩ := hw'
        subst hw''
        clear hx1 hx2 hg1 hg2
        go_wp2
        go_roundw
        case rel => exact ⟨j + 1, by omega, by go_num, Lib.hid (HSd.out.call (below_regrown _ dq osq))⟩
        case measure => simp [intOf]; omega
    · obtain rfl : j = n := by omega
      go_wp2
      go_ret
      exact ⟨rfl, HB.out⟩
end Go.Proofs.YtkjgdgocjnocaaaDoor
