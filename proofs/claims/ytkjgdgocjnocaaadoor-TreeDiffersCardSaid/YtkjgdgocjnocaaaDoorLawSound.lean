/-
  The law TreeSound: its walk.
-/
import Derived.Test.YtkjgdgocjnocaaaDoorHead4
import Derived.Test.YtkjgdgocjnocaaaDoorShort4
import Derived.Test.YtkjgdgocjnocaaaDoorWalkFound
namespace Go.Proofs.YtkjgdgocjnocaaaDoor
open Go.RowKit Go.Sort Foyer.Digest Foyer.Tree

theorem IsStrs.form_some {w : World} {p : Option Addr} {n : Nat} {l : List (List UInt8)} (h : IsStrs w p n l) (hn : 0 < n) : ∃ b off, p = some ⟨b, off, none⟩ := by
  rcases h.rd with e | ⟨b, off, e, _⟩
  · have := h.length; rw [e] at this; simp at this; omega
  · exact ⟨b, off, e⟩
theorem IsStrs.at_some {w w1 : World} {b off n i : Nat} {l : List (List UInt8)} (h : IsStrs w (some ⟨b, off, none⟩) n l) (hs : Since w w1) (hi : i < n) : w1.cell? ⟨b, off + i, none⟩ = some (.string ⟨(l.getD i []).toArray⟩) := by
  obtain ⟨b', off', e, hc⟩ := (h.since hs).rd.atj (j := i) (by rw [h.length]; exact hi)
  simp only [Option.some.injEq, Addr.mk.injEq, and_true] at e
  obtain ⟨rfl, rfl⟩ := e
  exact hc

set_option maxRecDepth 100000 in
set_option maxHeartbeats 2000000 in
theorem sound_walk (p : Option Addr) (n c1 : Nat) (l : List (List UInt8)) (raw : Int) (tx : ByteArray) (q : Option Addr) (m c2 : Nat) (ps : List (List UInt8)) (w : World) (hl : IsStrs w p n l) (_ : n ≤ c1) (hraw : (Lit.int .u8 raw).wf = true) (htx : tx.size ≤ maxLen) (hps : IsStrs w q m ps) (hcap : m ≤ c2) (hE : Env w) :
    Calls Tryd.prog 5 #[.slice p n c1, .int .u8 raw, .string tx, .slice q m c2] w fun e w' => e = .returned (.bool true) ∧ Below w.heap.size w w' := by
  obtain ⟨t, rfl⟩ : ∃ l : List UInt8, tx = ⟨l.toArray⟩ := ⟨_, ba_eq tx⟩
  have htsz := size_of_list t
  rw [htsz] at htx
  obtain ⟨hr0, hr1⟩ := u8_bounds hraw
  have HE := Lib.hid hE; have HL := Lib.hid hl; have HP := Lib.hid hps
  have hnm := hl.small
  have hmm := hps.small
  unfold maxLen at hnm hmm htx
  have HS : Hid (Since w w) := Below.refl _ _
  clear hE hl hps hraw
  obtain ⟨s1, hs1⟩ : ∃ s, shortN l 40 = s := ⟨_, rfl⟩
  obtain ⟨s2, hs2⟩ : ∃ s, shortN ps 80 = s := ⟨_, rfl⟩
  have HS1 := Lib.hid hs1; have HS2 := Lib.hid hs2
  cases s1
  · clear hs1 hs2
    go_enter Tryd.func5, Tryd.ntmps5
    go_wp2_with fail
    refine (head_any _ HE.out).mono ?_; rintro e w1 ⟨rfl, hb1⟩
    have HSa := Lib.hid (HS.out.call hb1); clear hb1
    go_wp2_with fail
    refine (short_c l 40 (by decide) false HS1.out _ _ _ _ (HL.out.since HSa.out)).mono ?_; rintro e w2 ⟨rfl, rfl⟩
    go_wp2
    go_ret
    exact ⟨rfl, HSa.out⟩
  cases s2
  · clear hs1 hs2
    go_enter Tryd.func5, Tryd.ntmps5
    go_wp2_with fail
    refine (head_any _ HE.out).mono ?_; rintro e w1 ⟨rfl, hb1⟩
    have HSa := Lib.hid (HS.out.call hb1); clear hb1
    go_wp2_with fail
    refine (short_c l 40 (by decide) true HS1.out _ _ _ _ (HL.out.since HSa.out)).mono ?_; rintro e w2 ⟨rfl, rfl⟩
    go_wp2_with fail
    refine (short_c ps 80 (by decide) false HS2.out _ _ _ _ (HP.out.since HSa.out)).mono ?_; rintro e w2 ⟨rfl, rfl⟩
    go_wp2
    go_ret
    exact ⟨rfl, HSa.out⟩
  have hlen := HL.out.length
  have hplen := HP.out.length
  obtain ⟨hl200, hl40⟩ := short_iff'.1 hs1
  obtain ⟨hp200, hp80⟩ := short_iff'.1 hs2
  rw [hlen] at hl40
  rw [hplen] at hp80
  have HL2 := Lib.hid hl200; have HP2 := Lib.hid hp200; have HN := Lib.hid hlen; have HM := Lib.hid hplen
  clear hs1 hs2 hl200 hp200 hlen hplen
  by_cases hn0 : n = 0
  · subst hn0
    go_enter Tryd.func5, Tryd.ntmps5
    go_wp2_with fail
    refine (head_any _ HE.out).mono ?_; rintro e w1 ⟨rfl, hb1⟩
    have HSa := Lib.hid (HS.out.call hb1); clear hb1
    go_wp2_with fail
    refine (short_c l 40 (by decide) true HS1.out _ _ _ _ (HL.out.since HSa.out)).mono ?_; rintro e w2 ⟨rfl, rfl⟩
    go_wp2_with fail
    refine (short_c ps 80 (by decide) true HS2.out _ _ _ _ (HP.out.since HSa.out)).mono ?_; rintro e w2 ⟨rfl, rfl⟩
    go_wp2
    go_ret
    exact ⟨rfl, HSa.out⟩
  have hne : ((n : Int) == 0) = false := by simp; omega
  by_cases ht2 : 200 < t.length
  · go_enter Tryd.func5, Tryd.ntmps5
    go_wp2_with fail
    refine (head_any _ HE.out).mono ?_; rintro e w1 ⟨rfl, hb1⟩
    have HSa := Lib.hid (HS.out.call hb1); clear hb1
    go_wp2_with fail
    refine (short_c l 40 (by decide) true HS1.out _ _ _ _ (HL.out.since HSa.out)).mono ?_; rintro e w2 ⟨rfl, rfl⟩
    go_wp2_with fail
    refine (short_c ps 80 (by decide) true HS2.out _ _ _ _ (HP.out.since HSa.out)).mono ?_; rintro e w2 ⟨rfl, rfl⟩
    go_wp2
    go_ret
    exact ⟨rfl, HSa.out⟩
  have htd : decide ((200 : Int) < (t.length : Int)) = false := by simp; omega
  obtain ⟨R, rfl⟩ := Int.eq_ofNat_of_zero_le hr0
  obtain ⟨i, hi⟩ : ∃ i, R % n = i := ⟨_, rfl⟩
  have hin : i < n := by rw [← hi]; exact Nat.mod_lt _ (by omega)
  have hri : ((R : Int) % (n : Int)) = (i : Int) := by rw [← hi]; rfl
  obtain ⟨rt, hrt⟩ : ∃ rt, root l = rt := ⟨_, rfl⟩
  have hrt16 : rt.length = 16 := by rw [← hrt]; exact root_length l (by rw [HN.out]; omega)
  obtain ⟨ck, hck⟩ : ∃ ck, check rt n i t ps = ck := ⟨_, rfl⟩
  have HRT := Lib.hid hrt; have HCK := Lib.hid hck
  have hltl : Hid (∀ x ∈ l, x.length ≤ 1000000) := fun x hx => by have := HL2.out x hx; omega
  have hltp : Hid (∀ x ∈ ps, x.length ≤ 1000000) := fun x hx => by have := HP2.out x hx; omega
  clear hrt hck hi
  cases ck
  · go_enter Tryd.func5, Tryd.ntmps5
    go_wp2_with fail
    refine (head_any _ HE.out).mono ?_; rintro e w1 ⟨rfl, hb1⟩
    have HSa := Lib.hid (HS.out.call hb1); clear hb1
    go_wp2_with fail
    refine (short_c l 40 (by decide) true HS1.out _ _ _ _ (HL.out.since HSa.out)).mono ?_; rintro e w2 ⟨rfl, rfl⟩
    go_wp2_with fail
    refine (short_c ps 80 (by decide) true HS2.out _ _ _ _ (HP.out.since HSa.out)).mono ?_; rintro e w2 ⟨rfl, rfl⟩
    go_wp2_with fail
    refine (root_c l rt HRT.out _ _ _ _ (HL.out.since HSa.out).rd HN.out (by omega) hltl (HE.out.below HSa.out)).mono ?_; rintro e w3 ⟨rfl, hb3⟩
    have HSb := Lib.hid (HSa.out.call hb3); clear hb3
    go_wp2_with fail
    refine (check_c rt t n i ps false HCK.out _ _ _ _ (by omega) hltp HM.out (by omega) hcap (by omega) (HP.out.since HSb.out).rd (HE.out.below HSb.out)).mono ?_; rintro e w4 ⟨rfl, hb4⟩
    have HSc := Lib.hid (HSb.out.call hb4); clear hb4
    go_wp2
    go_ret
    exact ⟨rfl, HSc.out⟩
  · obtain ⟨pth, hpt⟩ : ∃ pth, path l i = pth := ⟨_, rfl⟩
    obtain ⟨k, hk⟩ : ∃ k, pth.length = k := ⟨_, rfl⟩
    obtain ⟨li, hli⟩ : ∃ li, l.getD i [] = li := ⟨_, rfl⟩
    have hk64 : k ≤ 64 := by rw [← hk, ← hpt]; exact path_length_le l i
    have hsound : (t = li ∧ ps = pth) ∨ found l i t ps = true := by
      have h := HCK.out
      rw [check_nat hin] at h
      have := sound (l := l) (i := i) (t := t) (ps := ps) (by rw [HN.out]; exact hin) (by rw [HN.out]; omega) (by rw [HN.out, HRT.out]; exact h)
      rwa [hli, hpt] at this
    obtain ⟨bp, op, rfl⟩ := HL.out.form_some (by omega)
    have HPT := Lib.hid hpt; have HK := Lib.hid hk; have HLI := Lib.hid hli; have HSD := Lib.hid hsound
    clear hpt hk hli hsound
    by_cases e1 : t = li
    · by_cases e2 : ps = pth
      · have h3 : (pth == ps) = true := by simp [e2]
        have H3 := Lib.hid h3; clear h3 HSD e2
        subst e1
        go_enter Tryd.func5, Tryd.ntmps5
        go_wp2_with fail
        refine (head_any _ HE.out).mono ?_; rintro e w1 ⟨rfl, hb1⟩
        have HSa := Lib.hid (HS.out.call hb1); clear hb1
        go_wp2_with fail
        refine (short_c l 40 (by decide) true HS1.out _ _ _ _ (HL.out.since HSa.out)).mono ?_; rintro e w2 ⟨rfl, rfl⟩
        go_wp2_with fail
        refine (short_c ps 80 (by decide) true HS2.out _ _ _ _ (HP.out.since HSa.out)).mono ?_; rintro e w2 ⟨rfl, rfl⟩
        go_wp2_with fail
        refine (root_c l rt HRT.out _ _ _ _ (HL.out.since HSa.out).rd HN.out (by omega) hltl (HE.out.below HSa.out)).mono ?_; rintro e w3 ⟨rfl, hb3⟩
        have HSb := Lib.hid (HSa.out.call hb3); clear hb3
        go_wp2_with fail
        refine (check_c rt t n i ps true HCK.out _ _ _ _ (by omega) hltp HM.out (by omega) hcap (by omega) (HP.out.since HSb.out).rd (HE.out.below HSb.out)).mono ?_; rintro e w4 ⟨rfl, hb4⟩
        have HSc := Lib.hid (HSb.out.call hb4); clear hb4
        go_wp2_with fail
        refine (path_c l pth k _ _ _ i HPT.out HK.out _ (HL.out.since HSc.out).rd HN.out (by omega) hltl hin (HE.out.below HSc.out)).mono ?_; rintro e w5 ⟨q5, c5, rfl, hr5, hc5, _, hb5⟩
        have HR5 := Lib.hid hr5
        have HSd := Lib.hid (HSc.out.call hb5); clear hb5 hr5
        have hcell := HL.out.at_some HSd.out hin
        rw [HLI.out] at hcell
        go_wp2_with fail
        refine (rsame_c pth ps true H3.out k m HK.out HM.out _ _ _ _ _ HR5.out (HP.out.since HSd.out).rd (by omega)).mono ?_; rintro e w6 ⟨rfl, hb6⟩
        have HSe := Lib.hid (HSd.out.call hb6); clear hb6
        go_wp2
        go_ret
        exact ⟨rfl, HSe.out⟩
      · have h3 : (pth == ps) = false := by simp; exact fun h => e2 h.symm
        have hf : found l i t ps = true := HSD.out.resolve_left fun h => e2 h.2
        have H3 := Lib.hid h3; have HF := Lib.hid hf; clear h3 HSD e2 hf
        subst e1
        go_enter Tryd.func5, Tryd.ntmps5
        go_wp2_with fail
        refine (head_any _ HE.out).mono ?_; rintro e w1 ⟨rfl, hb1⟩
        have HSa := Lib.hid (HS.out.call hb1); clear hb1
        go_wp2_with fail
        refine (short_c l 40 (by decide) true HS1.out _ _ _ _ (HL.out.since HSa.out)).mono ?_; rintro e w2 ⟨rfl, rfl⟩
        go_wp2_with fail
        refine (short_c ps 80 (by decide) true HS2.out _ _ _ _ (HP.out.since HSa.out)).mono ?_; rintro e w2 ⟨rfl, rfl⟩
        go_wp2_with fail
        refine (root_c l rt HRT.out _ _ _ _ (HL.out.since HSa.out).rd HN.out (by omega) hltl (HE.out.below HSa.out)).mono ?_; rintro e w3 ⟨rfl, hb3⟩
        have HSb := Lib.hid (HSa.out.call hb3); clear hb3
        go_wp2_with fail
        refine (check_c rt t n i ps true HCK.out _ _ _ _ (by omega) hltp HM.out (by omega) hcap (by omega) (HP.out.since HSb.out).rd (HE.out.below HSb.out)).mono ?_; rintro e w4 ⟨rfl, hb4⟩
        have HSc := Lib.hid (HSb.out.call hb4); clear hb4
        go_wp2_with fail
        refine (path_c l pth k _ _ _ i HPT.out HK.out _ (HL.out.since HSc.out).rd HN.out (by omega) hltl hin (HE.out.below HSc.out)).mono ?_; rintro e w5 ⟨q5, c5, rfl, hr5, hc5, _, hb5⟩
        have HR5 := Lib.hid hr5
        have HSd := Lib.hid (HSc.out.call hb5); clear hb5 hr5
        have hcell := HL.out.at_some HSd.out hin
        rw [HLI.out] at hcell
        go_wp2_with fail
        refine (rsame_c pth ps false H3.out k m HK.out HM.out _ _ _ _ _ HR5.out (HP.out.since HSd.out).rd (by omega)).mono ?_; rintro e w6 ⟨rfl, hb6⟩
        have HSe := Lib.hid (HSd.out.call hb6); clear hb6
        go_wp2_with fail
        refine (found_any l ps i t _ _ n c1 m c2 _ (HL.out.since HSe.out).rd (HP.out.since HSe.out).rd HN.out HM.out (by omega) (by omega) hin (by omega) hltl hltp true HF.out (HE.out.below HSe.out)).mono ?_; rintro e w7 ⟨rfl, hb7⟩
        have HSf := Lib.hid (HSe.out.call hb7); clear hb7
        go_wp2
        go_ret
        exact ⟨rfl, HSf.out⟩
    · have hf : found l i t ps = true := HSD.out.resolve_left fun h => e1 h.1
      have HF := Lib.hid hf; clear HSD hf
      have e1b : (t == li) = false := by simp [e1]
      go_enter Tryd.func5, Tryd.ntmps5
      go_wp2_with fail
      refine (head_any _ HE.out).mono ?_; rintro e w1 ⟨rfl, hb1⟩
      have HSa := Lib.hid (HS.out.call hb1); clear hb1
      go_wp2_with fail
      refine (short_c l 40 (by decide) true HS1.out _ _ _ _ (HL.out.since HSa.out)).mono ?_; rintro e w2 ⟨rfl, rfl⟩
      go_wp2_with fail
      refine (short_c ps 80 (by decide) true HS2.out _ _ _ _ (HP.out.since HSa.out)).mono ?_; rintro e w2 ⟨rfl, rfl⟩
      go_wp2_with fail
      refine (root_c l rt HRT.out _ _ _ _ (HL.out.since HSa.out).rd HN.out (by omega) hltl (HE.out.below HSa.out)).mono ?_; rintro e w3 ⟨rfl, hb3⟩
      have HSb := Lib.hid (HSa.out.call hb3); clear hb3
      go_wp2_with fail
      refine (check_c rt t n i ps true HCK.out _ _ _ _ (by omega) hltp HM.out (by omega) hcap (by omega) (HP.out.since HSb.out).rd (HE.out.below HSb.out)).mono ?_; rintro e w4 ⟨rfl, hb4⟩
      have HSc := Lib.hid (HSb.out.call hb4); clear hb4
      go_wp2_with fail
      refine (path_c l pth k _ _ _ i HPT.out HK.out _ (HL.out.since HSc.out).rd HN.out (by omega) hltl hin (HE.out.below HSc.out)).mono ?_; rintro e w5 ⟨q5, c5, rfl, hr5, hc5, _, hb5⟩
      have HR5 := Lib.hid hr5
      have HSd := Lib.hid (HSc.out.call hb5); clear hb5 hr5
      have hcell := HL.out.at_some HSd.out hin
      rw [HLI.out] at hcell
      go_wp2_with fail
      refine (found_any l ps i t _ _ n c1 m c2 _ (HL.out.since HSd.out).rd (HP.out.since HSd.out).rd HN.out HM.out (by omega) (by omega) hin (by omega) hltl hltp true HF.out (HE.out.below HSd.out)).mono ?_; rintro e w7 ⟨rfl, hb7⟩
      have HSf := Lib.hid (HSd.out.call hb7); clear hb7
      go_wp2
      go_ret
      exact ⟨rfl, HSf.out⟩
end Go.Proofs.YtkjgdgocjnocaaaDoor
