/-
  The law TreeComplete: its walk.
-/
import Derived.Test.YtkjgdgocjnocaaaDoorHead4
import Derived.Test.YtkjgdgocjnocaaaDoorShort4
import Derived.Test.YtkjgdgocjnocaaaDoorLawHelp4
import Derived.Lib.QuietBelow
import Derived.Deep.DeepCutAuto
namespace Go.Proofs.YtkjgdgocjnocaaaDoor
open Go.RowKit Go.Sort Foyer.Digest Foyer.Tree

/-- Does no one of the first j levels take the element up as it is? -/
def evenTo (n i : Nat) : Nat → Bool
  | 0 => true
  | j + 1 => evenTo n i j && decide (sib (i / 2 ^ j) < sz n j)
theorem evenTo_iff (n i : Nat) : ∀ j, evenTo n i j = true ↔ ∀ k, k < j → sib (i / 2 ^ k) < sz n k
  | 0 => by simp [evenTo]
  | j + 1 => by
    rw [evenTo, Bool.and_eq_true, evenTo_iff n i j, decide_eq_true_eq]
    refine ⟨fun ⟨h1, h2⟩ k hk => ?_, fun h => ⟨fun k hk => h k (by omega), h j (by omega)⟩⟩
    by_cases e : k = j
    · rw [e]; exact h2
    · exact h1 k (by omega)
theorem path_lengths {l : List (List UInt8)} {n i j : Nat} (hn : l.length = n) (hi : i < n) (hj : j ≤ Foyer.Tree.hi) (h : sz n j ≤ 1) : (path l i).length ≤ j ∧ ((path l i).length = j ↔ evenTo n i j = true) := by
  rw [path_at (by rw [hn]; exact hi) hj (by rw [lvl_length, hn]; exact h), evenTo_iff]
  have := pathTo_length (leaves l) i j
  refine ⟨this.1, this.2.trans ?_⟩
  refine forall_congr' fun k => forall_congr' fun _ => ?_
  rw [ups_length, leaves_length, hn]

set_option maxRecDepth 100000 in
set_option maxHeartbeats 600000 in
theorem complete_walk (p : Option Addr) (n c1 : Nat) (l : List (List UInt8)) (raw : Int) (w : World) (hl : IsStrs w p n l) (_ : n ≤ c1) (hraw : (Lit.int .u8 raw).wf = true) (hE : Env w) :
    Calls Tryd.prog 4 #[.slice p n c1, .int .u8 raw] w fun e w' => e = .returned (.bool true) ∧ Below w.heap.size w w' := by
  obtain ⟨hr0, hr1⟩ := u8_bounds hraw
  have HE := Lib.hid hE; have HL := Lib.hid hl
  have hnm := hl.small
  unfold maxLen at hnm
  have HS : Hid (Since w w) := Below.refl _ _
  clear hE hl hraw
  obtain ⟨s1, hs1⟩ : ∃ s, shortN l 60 = s := ⟨_, rfl⟩
  have HS1 := Lib.hid hs1
  cases s1
  · clear hs1
    go_enter Tryd.func4, Tryd.ntmps4
    go_wp2_with fail
    refine (head_any _ HE.out).mono ?_; rintro e w1 ⟨rfl, hb1⟩
    have HSa := Lib.hid (HS.out.call hb1); clear hb1
    go_wp2_with fail
    refine (short_c l 60 (by decide) false HS1.out _ _ _ _ (HL.out.since HSa.out)).mono ?_; rintro e w2 ⟨rfl, rfl⟩
    go_wp2
    go_ret
    exact ⟨rfl, HSa.out⟩
  have hlen := HL.out.length
  obtain ⟨hl200, hl60⟩ := short_iff'.1 hs1
  rw [hlen] at hl60
  have HL2 := Lib.hid hl200; have HN := Lib.hid hlen
  clear hs1 hl200 hlen
  by_cases hn0 : n = 0
  · subst hn0
    go_enter Tryd.func4, Tryd.ntmps4
    go_wp2_with fail
    refine (head_any _ HE.out).mono ?_; rintro e w1 ⟨rfl, hb1⟩
    have HSa := Lib.hid (HS.out.call hb1); clear hb1
    go_wp2_with fail
    refine (short_c l 60 (by decide) true HS1.out _ _ _ _ (HL.out.since HSa.out)).mono ?_; rintro e w2 ⟨rfl, rfl⟩
    go_wp2
    go_ret
    exact ⟨rfl, HSa.out⟩
  have hne : ((n : Int) == 0) = false := by simp; omega
  obtain ⟨R, rfl⟩ := Int.eq_ofNat_of_zero_le hr0
  obtain ⟨i, hi⟩ : ∃ i, R % n = i := ⟨_, rfl⟩
  have hin : i < n := by rw [← hi]; exact Nat.mod_lt _ (by omega)
  have hri : ((R : Int) % (n : Int)) = (i : Int) := by rw [← hi]; rfl
  obtain ⟨rt, hrt⟩ : ∃ rt, root l = rt := ⟨_, rfl⟩
  have hrt16 : rt.length = 16 := by rw [← hrt]; exact root_length l (by rw [HN.out]; omega)
  obtain ⟨pth, hpt⟩ : ∃ pth, path l i = pth := ⟨_, rfl⟩
  obtain ⟨k, hk⟩ : ∃ k, pth.length = k := ⟨_, rfl⟩
  obtain ⟨li, hli⟩ : ∃ li, l.getD i [] = li := ⟨_, rfl⟩
  have hk64 : k ≤ 64 := by rw [← hk, ← hpt]; exact path_length_le l i
  have hcheck : check rt n i li pth = true := by
    rw [check_nat hin, ← hrt, ← hpt, ← hli]
    have := complete (l := l) (i := i) (by rw [HN.out]; exact hin) (by rw [HN.out]; omega)
    rwa [HN.out] at this
  have hltl : Hid (∀ x ∈ l, x.length ≤ 1000000) := fun x hx => by have := HL2.out x hx; omega
  have hp16 : Hid (∀ x ∈ pth, x.length ≤ 1000000) := fun x hx => by
    rw [← hpt] at hx
    rw [path_16 l i x hx]; omega
  have hlil : li.length ≤ 1000000 := by rw [← hli]; exact hltl _ (getD_mem (by rw [HN.out]; exact hin))
  have HLEN : Hid (∀ j, j ≤ Foyer.Tree.hi → sz n j ≤ 1 → k ≤ j ∧ (k = j ↔ evenTo n i j = true)) := fun j hj h => by
    have := path_lengths HN.out hin hj h
    rwa [hpt, hk] at this
  obtain ⟨bp, op, rfl⟩ := HL.out.place (by omega)
  have HRT := Lib.hid hrt; have HPT := Lib.hid hpt; have HK := Lib.hid hk; have HLI := Lib.hid hli; have HCK := Lib.hid hcheck; have HLL := Lib.hid hlil
  clear hrt hpt hk hli hcheck hlil hi
  go_enter Tryd.func4, Tryd.ntmps4
  go_wp2_with fail
  refine (head_any _ HE.out).mono ?_; rintro e w1 ⟨rfl, hb1⟩
  have HSa := Lib.hid (HS.out.call hb1); clear hb1
  go_wp2_with fail
  refine (short_c l 60 (by decide) true HS1.out _ _ _ _ (HL.out.since HSa.out)).mono ?_; rintro e w2 ⟨rfl, rfl⟩
  go_wp2_with fail
  refine (path_c l pth k _ _ _ i HPT.out HK.out _ (HL.out.since HSa.out).rd HN.out (by omega) hltl hin (HE.out.below HSa.out)).mono ?_; rintro e w5 ⟨q5, c5, rfl, hr5, hc5, _, hb5⟩
  have HR5 := Lib.hid hr5
  have HSd := Lib.hid (HSa.out.call hb5); clear hb5 hr5
  go_wp2
  go_loop [9, 10, 11, 12] (fun lv ev kv nv => ∃ (j kk mm : Nat) (b : Bool), lv = .int .i64 j ∧ ev = .bool b ∧ kv = .int .i64 kk ∧ nv = .int .i64 mm ∧ kk < mm ∧ mm ≤ 60 ∧ Hid (evenTo n i j = b) ∧ Hid (i / 2 ^ j = kk) ∧ Hid (sz n j = mm) ∧ Hid (mm ≤ 2 ^ (64 - j)) ∧ j ≤ 64) (fun _ _ _ nv => (intOf nv).toNat)
  case atStart => exact ⟨0, i, n, true, rfl, rfl, rfl, rfl, hin, hl60, Lib.hid rfl, Lib.hid (by simp), Lib.hid rfl, Lib.hid (by simp; omega), by omega⟩
  case round =>
    obtain ⟨j, kk, mm, b, rfl, rfl, rfl, rfl, hkm, hm60, HEV, HKK, HSZ, HPW, hj64⟩ := hrel
    by_cases hm1 : 1 < mm
    · have hj63 : j < 64 := by
        rcases Nat.lt_or_ge j 64 with h | h
        · exact h
        · have := HPW.out
          rw [show 64 - j = 0 by omega, Nat.pow_zero] at this; omega
      have hpw : (mm + 1) / 2 ≤ 2 ^ (64 - (j + 1)) := by
        have := HPW.out
        rw [show 64 - j = (64 - (j + 1)) + 1 by omega, Nat.pow_succ] at this; omega
      have hsz : sz n (j + 1) = (mm + 1) / 2 := by rw [sz, HSZ.out]
      have hkk : i / 2 ^ (j + 1) = kk / 2 := by rw [Nat.pow_succ, ← Nat.div_div_eq_div_mul, HKK.out]
      have hev : evenTo n i (j + 1) = (b && decide (sib kk < mm)) := by rw [evenTo, HEV.out, HKK.out, HSZ.out]
      have HPW2 := Lib.hid hpw; have HSZ2 := Lib.hid hsz; have HKK2 := Lib.hid hkk
      clear hpw hsz hkk HPW HSZ HKK HEV
      have hdm : decide ((1 : Int) < (mm : Int)) = true := by simp; omega
      cases b
      · have HEV2 := Lib.hid hev; clear hev
        go_wp2
        go_round
        case rel => exact ⟨j + 1, kk / 2, (mm + 1) / 2, false, by go_num, rfl, by go_num, by go_num, by omega, by omega, Lib.hid (by rw [HEV2.out]; rfl), HKK2, HSZ2, HPW2, by omega⟩
        case measure => simp [intOf]; omega
      · by_cases hodd : kk % 2 = 1
        · have hz : (kk : Int) % 2 = 1 := by omega
          have hs : decide (sib kk < mm) = true := by simp; unfold sib; rw [if_neg (by omega)]; omega
          rw [hs] at hev
          have HEV2 := Lib.hid hev; clear hev hs
          go_wp2
          go_round
          case rel => exact ⟨j + 1, kk / 2, (mm + 1) / 2, true, by go_num, rfl, by go_num, by go_num, by omega, by omega, Lib.hid (by rw [HEV2.out]; rfl), HKK2, HSZ2, HPW2, by omega⟩
          case measure => simp [intOf]; omega
        · have hz : (kk : Int) % 2 = 0 := by omega
          by_cases hs1 : kk + 1 < mm
          · have hs : decide (sib kk < mm) = true := by simp; unfold sib; rw [if_pos (by omega)]; omega
            have hd1 : decide ((kk : Int) + 1 < (mm : Int)) = true := by simp; omega
            rw [hs] at hev
            have HEV2 := Lib.hid hev; clear hev hs
            go_wp2
            go_round
            case rel => exact ⟨j + 1, kk / 2, (mm + 1) / 2, true, by go_num, rfl, by go_num, by go_num, by omega, by omega, Lib.hid (by rw [HEV2.out]; rfl), HKK2, HSZ2, HPW2, by omega⟩
            case measure => simp [intOf]; omega
          · have hs : decide (sib kk < mm) = false := by simp; unfold sib; rw [if_pos (by omega)]; omega
            have hd1 : decide ((kk : Int) + 1 < (mm : Int)) = false := by simp; omega
            rw [hs] at hev
            have HEV2 := Lib.hid hev; clear hev hs
            go_wp2
            go_round
            case rel => exact ⟨j + 1, kk / 2, (mm + 1) / 2, false, by go_num, rfl, by go_num, by go_num, by omega, by omega, Lib.hid (by rw [HEV2.out]; rfl), HKK2, HSZ2, HPW2, by omega⟩
            case measure => simp [intOf]; omega
    · obtain ⟨hkj, hiff⟩ := HLEN.out j (by unfold Foyer.Tree.hi; omega) (by rw [HSZ.out]; omega)
      rw [HEV.out] at hiff
      have hle : decide ((k : Int) ≤ (j : Int)) = true := by simp; omega
      have hbb : ((k : Int) == (j : Int)) = b := by
        cases b
        · have : k ≠ j := fun e => by have := hiff.1 e; cases this
          simp; omega
        · have := hiff.2 rfl
          simp; omega
      clear hiff HEV HKK HSZ HPW
      have hx := HL.out.cellAt HSd.out hin
      rw [HLI.out] at hx
      have hg := fun d os => cell_regrown hx d os
      have hR : ∀ d os, Calls Tryd.prog 13 #[.slice (some ⟨bp, op, none⟩) n c1] (grow (redrawn w5 d) os) fun e w'' => e = .returned (.string ⟨rt.toArray⟩) ∧ ∃ p : Regrown, w'' = grow (redrawn w5 p.d) p.os := fun d os =>
        Calls.regrown_of (root_c l rt HRT.out _ _ _ _ (HL.out.since (HSd.out.call (below_regrown w5 d os))).rd HN.out (by omega) hltl (HE.out.below (HSd.out.call (below_regrown w5 d os))))
      have hC : ∀ d os, Calls Tryd.prog 16 #[.string ⟨rt.toArray⟩, .int .i64 n, .int .i64 i, .string ⟨li.toArray⟩, .slice q5 k c5] (grow (redrawn w5 d) os) fun e w'' => e = .returned (.bool true) ∧ ∃ p : Regrown, w'' = grow (redrawn w5 p.d) p.os := fun d os =>
        Calls.regrown_of (check_c rt li n i pth true HCK.out _ _ _ _ HLL.out hp16 HK.out (by omega) hc5 (by omega) (HR5.out.below (Nat.le_refl _) (below_regrown w5 d os)) (HE.out.below (HSd.out.call (below_regrown w5 d os))))
      have HRC := Lib.hid hR; have HCC := Lib.hid hC; clear hR hC
      have hinI : (i : Int) < (n : Int) := by omega
      have HG := Lib.hid hg; have HX := Lib.hid hx; have HBB := Lib.hid hbb; have HLE := Lib.hid hle; have HIN := Lib.hid hinI
      clear hg hx hbb hle hinI
      have hmm : mm = 1 := by omega
      subst hmm
      cases b <;> (
        go_upto_region 15 with fail
        have hg := HG.out
        have hx := HX.out
        have hbb := HBB.out
        have hle := HLE.out
        have hinI := HIN.out
        refine wp_region_quiet_below (by kernel_rfl) (by kernel_rfl) ?_
        repeat (go_big_quiet_step (first | with_reducible exact HRC.out _ _ | with_reducible exact HCC.out _ _))
        refine wpQuiet_nil ?_
        intro _ hw'
        obtain ⟨⟨dq, osq⟩, hw''⟩ := hw'
        subst hw''
        clear hx hg
        go_wp2
        go_ret
        exact ⟨rfl, HSd.out.call (below_regrown _ dq osq)⟩)
end Go.Proofs.YtkjgdgocjnocaaaDoor
