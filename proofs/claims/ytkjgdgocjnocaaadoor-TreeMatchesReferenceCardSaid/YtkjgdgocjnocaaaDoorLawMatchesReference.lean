/-
  The law TreeMatchesReference: its walk.
-/
import Derived.Test.YtkjgdgocjnocaaaDoorHead4
import Derived.Test.YtkjgdgocjnocaaaDoorShort4
import Derived.Test.YtkjgdgocjnocaaaDoorRefCheck
import Derived.SizedLaws
namespace Go.Proofs.YtkjgdgocjnocaaaDoor
open Go.RowKit Go.Sort Foyer.Digest Foyer.Tree

/-- The document's own path, as a slice that is read. -/
theorem rpath_c (l ps : List (List UInt8)) (k : Nat) (p : Option Addr) (n cap i : Nat) (h : path l i = ps) (hk : ps.length = k) (w : World) (hr : RdS w p l) (hn : l.length = n) (hl : n ≤ 1000) (ht : ∀ t ∈ l, t.length ≤ 1000000) (hi : i < n) :
    Calls Tryd.prog 12 #[.slice p n cap, .int .i64 i] w fun e w' => ∃ q c, e = .returned (.tuple #[.slice q k c, .int .i64 0]) ∧ RdS w' q ps ∧ Below w.heap.size w w' :=
  (rpath_any l p n cap i w hr hn hl ht hi).mono fun e w' ⟨v, he, ho, hb⟩ => by
    rw [h] at ho
    obtain ⟨q, c, hv, hrd, _⟩ := ho.slice
    rw [hk] at hv
    exact ⟨q, c, by rw [he, hv], hrd, hb⟩

set_option maxRecDepth 100000 in
set_option maxHeartbeats 4000000 in
theorem ref_walk (p : Option Addr) (n1 c1 : Nat) (l : List (List UInt8)) (i : Int) (rb : ByteArray) (n k : Int) (tb : ByteArray) (q : Option Addr) (m c2 : Nat) (ps : List (List UInt8)) (w : World) (hl : IsStrs w p n1 l) (_ : n1 ≤ c1) (hi : (Lit.int .i64 i).wf = true) (hrb : rb.size ≤ reachBytes) (hn : (Lit.int .i64 n).wf = true) (hk : (Lit.int .i64 k).wf = true) (htb : tb.size ≤ reachBytes) (hps : IsStrs w q m ps) (hcap : m ≤ c2) (hE : Env w) :
    Calls Tryd.prog 3 #[.slice p n1 c1, .int .i64 i, .string rb, .int .i64 n, .int .i64 k, .string tb, .slice q m c2] w fun e w' => e = .returned (.bool true) ∧ Below w.heap.size w w' := by
  obtain ⟨r, rfl⟩ : ∃ l : List UInt8, rb = ⟨l.toArray⟩ := ⟨_, ba_eq rb⟩
  obtain ⟨t, rfl⟩ : ∃ l : List UInt8, tb = ⟨l.toArray⟩ := ⟨_, ba_eq tb⟩
  have hrsz := size_of_list r
  have htsz := size_of_list t
  rw [hrsz] at hrb
  rw [htsz] at htb
  obtain ⟨hi0, hi1⟩ := i64_bounds hi
  obtain ⟨hn0, hn1⟩ := i64_bounds hn
  obtain ⟨hk0, hk1⟩ := i64_bounds hk
  have HE := Lib.hid hE; have HL := Lib.hid hl; have HP := Lib.hid hps
  have hnm := hl.small
  have hmm := hps.small
  unfold maxLen at hnm hmm
  unfold reachBytes at hrb htb
  have HS : Hid (Since w w) := Below.refl _ _
  clear hE hl hps hi hn hk
  obtain ⟨s1, hs1⟩ : ∃ s, shortN l 40 = s := ⟨_, rfl⟩
  obtain ⟨s2, hs2⟩ : ∃ s, shortN ps 80 = s := ⟨_, rfl⟩
  have HS1 := Lib.hid hs1; have HS2 := Lib.hid hs2
  cases s1
  · clear hs1 hs2
    go_enter Tryd.func3, Tryd.ntmps3
    go_wp2_with fail
    refine (head_any _ HE.out).mono ?_; rintro x w1 ⟨rfl, hb1⟩
    have HSa := Lib.hid (HS.out.call hb1); clear hb1
    go_wp2_with fail
    refine (short_c l 40 (by decide) false HS1.out _ _ _ _ (HL.out.since HSa.out)).mono ?_; rintro x w2 ⟨rfl, rfl⟩
    go_wp2
    go_ret
    exact ⟨rfl, HSa.out⟩
  cases s2
  · clear hs1 hs2
    go_enter Tryd.func3, Tryd.ntmps3
    go_wp2_with fail
    refine (head_any _ HE.out).mono ?_; rintro x w1 ⟨rfl, hb1⟩
    have HSa := Lib.hid (HS.out.call hb1); clear hb1
    go_wp2_with fail
    refine (short_c l 40 (by decide) true HS1.out _ _ _ _ (HL.out.since HSa.out)).mono ?_; rintro x w2 ⟨rfl, rfl⟩
    go_wp2_with fail
    refine (short_c ps 80 (by decide) false HS2.out _ _ _ _ (HP.out.since HSa.out)).mono ?_; rintro x w2 ⟨rfl, rfl⟩
    go_wp2
    go_ret
    exact ⟨rfl, HSa.out⟩
  have hlen := HL.out.length
  have hplen := HP.out.length
  obtain ⟨hl200, hl40⟩ := short_iff'.1 hs1
  obtain ⟨hp200, hp80⟩ := short_iff'.1 hs2
  rw [hlen] at hl40
  rw [hplen] at hp80
  have HL2 := Lib.hid hl200; have HP2 := Lib.hid hp200; have HN := Lib.hid hlen; have HM := Lib.hid hplen
  clear hs1 hs2 hl200 hp200 hlen hplen
  by_cases hbig : 300 < r.length + t.length
  · have hd : decide ((300 : Int) < (r.length : Int) + (t.length : Int)) = true := by simp; omega
    have hw : wrap64 ((r.length : Int) + (t.length : Int)) = (r.length : Int) + (t.length : Int) := by unfold wrap64; omega
    go_enter Tryd.func3, Tryd.ntmps3
    go_wp2_with fail
    refine (head_any _ HE.out).mono ?_; rintro x w1 ⟨rfl, hb1⟩
    have HSa := Lib.hid (HS.out.call hb1); clear hb1
    go_wp2_with fail
    refine (short_c l 40 (by decide) true HS1.out _ _ _ _ (HL.out.since HSa.out)).mono ?_; rintro x w2 ⟨rfl, rfl⟩
    go_wp2_with fail
    refine (short_c ps 80 (by decide) true HS2.out _ _ _ _ (HP.out.since HSa.out)).mono ?_; rintro x w2 ⟨rfl, rfl⟩
    go_wp2
    go_ret
    exact ⟨rfl, HSa.out⟩
  have hd : decide ((300 : Int) < (r.length : Int) + (t.length : Int)) = false := by simp; omega
  obtain ⟨rl, hrl⟩ : ∃ x, root l = x := ⟨_, rfl⟩
  obtain ⟨ck, hck⟩ : ∃ x, check r n k t ps = x := ⟨_, rfl⟩
  have HRL := Lib.hid hrl; have HCK := Lib.hid hck
  have hltl : Hid (∀ x ∈ l, x.length ≤ 1000000) := fun x hx => by have := HL2.out x hx; omega
  have hltp : Hid (∀ x ∈ ps, x.length ≤ 1000000) := fun x hx => by have := HP2.out x hx; omega
  have hrr : (rl == rl) = true := by simp
  clear hrl hck
  by_cases hin : 0 ≤ i ∧ i < n1
  · obtain ⟨ii, rfl⟩ := Int.eq_ofNat_of_zero_le hin.1
    have hin : ii < n1 := by have := hin.2; omega
    obtain ⟨pth, hpt⟩ : ∃ pth, path l ii = pth := ⟨_, rfl⟩
    obtain ⟨kk, hkk⟩ : ∃ kk, pth.length = kk := ⟨_, rfl⟩
    have hk64 : kk ≤ 64 := by rw [← hkk, ← hpt]; exact path_length_le l ii
    have HPT := Lib.hid hpt; have HKK := Lib.hid hkk
    clear hpt hkk
    cases ck
    · go_enter Tryd.func3, Tryd.ntmps3
      go_wp2_with fail
      refine (head_any _ HE.out).mono ?_; rintro x w1 ⟨rfl, hb1⟩
      have HSa := Lib.hid (HS.out.call hb1); clear hb1
      go_wp2_with fail
      refine (short_c l 40 (by decide) true HS1.out _ _ _ _ (HL.out.since HSa.out)).mono ?_; rintro x w2 ⟨rfl, rfl⟩
      go_wp2_with fail
      refine (short_c ps 80 (by decide) true HS2.out _ _ _ _ (HP.out.since HSa.out)).mono ?_; rintro x w2 ⟨rfl, rfl⟩
      go_wp2_with fail
      refine (path_c l pth kk _ _ _ ii HPT.out HKK.out _ (HL.out.since HSa.out).rd HN.out (by omega) hltl hin (HE.out.below HSa.out)).mono ?_; rintro x w3 ⟨q3, c3, rfl, hr3, _, _, hb3⟩
      have HSb := Lib.hid (HSa.out.call hb3)
      have HR3 := Lib.hid hr3; clear hb3 hr3
      go_wp2_with fail
      refine (rpath_c l pth kk _ _ _ ii HPT.out HKK.out _ (HL.out.since HSb.out).rd HN.out (by omega) hltl hin).mono ?_; rintro x w4 ⟨q4, c4, rfl, hr4, hb4⟩
      have HSc := Lib.hid (HSb.out.call hb4)
      have HR3 := Lib.hid (HR3.out.below (Nat.le_refl _) hb4)
      have HR4 := Lib.hid hr4; clear hb4 hr4
      go_wp2_with fail
      refine (root_c l rl HRL.out _ _ _ _ (HL.out.since HSc.out).rd HN.out (by omega) hltl (HE.out.below HSc.out)).mono ?_; rintro x w5 ⟨rfl, hb5⟩
      have HSd := Lib.hid (HSc.out.call hb5)
      have HR3 := Lib.hid (HR3.out.below (Nat.le_refl _) hb5)
      have HR4 := Lib.hid (HR4.out.below (Nat.le_refl _) hb5)
      clear hb5
      go_wp2_with fail
      refine (rroot_c l rl HRL.out _ _ _ _ (HL.out.since HSd.out).rd HN.out (by omega) hltl).mono ?_; rintro x w6 ⟨rfl, hb6⟩
      have HSe := Lib.hid (HSd.out.call hb6)
      have HR3 := Lib.hid (HR3.out.below (Nat.le_refl _) hb6)
      have HR4 := Lib.hid (HR4.out.below (Nat.le_refl _) hb6)
      clear hb6
      go_wp2_with fail
      refine (rsame_c pth pth true (by simp) kk kk HKK.out HKK.out _ _ _ _ _ HR3.out HR4.out (by omega)).mono ?_; rintro x w7 ⟨rfl, hb7⟩
      have HSf := Lib.hid (HSe.out.call hb7); clear hb7
      go_wp2_with fail
      refine (check_c r t n k ps false HCK.out _ _ _ _ (by omega) hltp HM.out (by omega) hcap (by omega) (HP.out.since HSf.out).rd (HE.out.below HSf.out)).mono ?_; rintro x w8 ⟨rfl, hb8⟩
      have HSg := Lib.hid (HSf.out.call hb8); clear hb8
      go_wp2_with fail
      refine (rcheck_c r t n k ps false HCK.out _ _ _ _ (by omega) hltp HM.out (by omega) (by omega) (HP.out.since HSg.out).rd).mono ?_; rintro x w9 ⟨rfl, hb9⟩
      have HSh := Lib.hid (HSg.out.call hb9); clear hb9
      go_wp2
      go_ret
      exact ⟨rfl, HSh.out⟩
    · go_enter Tryd.func3, Tryd.ntmps3
      go_wp2_with fail
      refine (head_any _ HE.out).mono ?_; rintro x w1 ⟨rfl, hb1⟩
      have HSa := Lib.hid (HS.out.call hb1); clear hb1
      go_wp2_with fail
      refine (short_c l 40 (by decide) true HS1.out _ _ _ _ (HL.out.since HSa.out)).mono ?_; rintro x w2 ⟨rfl, rfl⟩
      go_wp2_with fail
      refine (short_c ps 80 (by decide) true HS2.out _ _ _ _ (HP.out.since HSa.out)).mono ?_; rintro x w2 ⟨rfl, rfl⟩
      go_wp2_with fail
      refine (path_c l pth kk _ _ _ ii HPT.out HKK.out _ (HL.out.since HSa.out).rd HN.out (by omega) hltl hin (HE.out.below HSa.out)).mono ?_; rintro x w3 ⟨q3, c3, rfl, hr3, _, _, hb3⟩
      have HSb := Lib.hid (HSa.out.call hb3)
      have HR3 := Lib.hid hr3; clear hb3 hr3
      go_wp2_with fail
      refine (rpath_c l pth kk _ _ _ ii HPT.out HKK.out _ (HL.out.since HSb.out).rd HN.out (by omega) hltl hin).mono ?_; rintro x w4 ⟨q4, c4, rfl, hr4, hb4⟩
      have HSc := Lib.hid (HSb.out.call hb4)
      have HR3 := Lib.hid (HR3.out.below (Nat.le_refl _) hb4)
      have HR4 := Lib.hid hr4; clear hb4 hr4
      go_wp2_with fail
      refine (root_c l rl HRL.out _ _ _ _ (HL.out.since HSc.out).rd HN.out (by omega) hltl (HE.out.below HSc.out)).mono ?_; rintro x w5 ⟨rfl, hb5⟩
      have HSd := Lib.hid (HSc.out.call hb5)
      have HR3 := Lib.hid (HR3.out.below (Nat.le_refl _) hb5)
      have HR4 := Lib.hid (HR4.out.below (Nat.le_refl _) hb5)
      clear hb5
      go_wp2_with fail
      refine (rroot_c l rl HRL.out _ _ _ _ (HL.out.since HSd.out).rd HN.out (by omega) hltl).mono ?_; rintro x w6 ⟨rfl, hb6⟩
      have HSe := Lib.hid (HSd.out.call hb6)
      have HR3 := Lib.hid (HR3.out.below (Nat.le_refl _) hb6)
      have HR4 := Lib.hid (HR4.out.below (Nat.le_refl _) hb6)
      clear hb6
      go_wp2_with fail
      refine (rsame_c pth pth true (by simp) kk kk HKK.out HKK.out _ _ _ _ _ HR3.out HR4.out (by omega)).mono ?_; rintro x w7 ⟨rfl, hb7⟩
      have HSf := Lib.hid (HSe.out.call hb7); clear hb7
      go_wp2_with fail
      refine (check_c r t n k ps true HCK.out _ _ _ _ (by omega) hltp HM.out (by omega) hcap (by omega) (HP.out.since HSf.out).rd (HE.out.below HSf.out)).mono ?_; rintro x w8 ⟨rfl, hb8⟩
      have HSg := Lib.hid (HSf.out.call hb8); clear hb8
      go_wp2_with fail
      refine (rcheck_c r t n k ps true HCK.out _ _ _ _ (by omega) hltp HM.out (by omega) (by omega) (HP.out.since HSg.out).rd).mono ?_; rintro x w9 ⟨rfl, hb9⟩
      have HSh := Lib.hid (HSg.out.call hb9); clear hb9
      go_wp2
      go_ret
      exact ⟨rfl, HSh.out⟩
  · cases ck
    · go_enter Tryd.func3, Tryd.ntmps3
      go_wp2_with fail
      refine (head_any _ HE.out).mono ?_; rintro x w1 ⟨rfl, hb1⟩
      have HSa := Lib.hid (HS.out.call hb1); clear hb1
      go_wp2_with fail
      refine (short_c l 40 (by decide) true HS1.out _ _ _ _ (HL.out.since HSa.out)).mono ?_; rintro x w2 ⟨rfl, rfl⟩
      go_wp2_with fail
      refine (short_c ps 80 (by decide) true HS2.out _ _ _ _ (HP.out.since HSa.out)).mono ?_; rintro x w2 ⟨rfl, rfl⟩
      go_wp2_with fail
      refine (path_bad l _ _ _ i _ HN.out (by omega) hin).mono ?_; rintro x w3 ⟨rfl, hb3⟩
      have HSb := Lib.hid (HSa.out.call hb3); clear hb3
      go_wp2_with fail
      refine (rpath_bad l _ _ _ i _ HN.out hin).mono ?_; rintro x w4 ⟨rfl, hb4⟩
      have HSc := Lib.hid (HSb.out.call hb4); clear hb4
      go_wp2_with fail
      refine (root_c l rl HRL.out _ _ _ _ (HL.out.since HSc.out).rd HN.out (by omega) hltl (HE.out.below HSc.out)).mono ?_; rintro x w5 ⟨rfl, hb5⟩
      have HSd := Lib.hid (HSc.out.call hb5)
      clear hb5
      go_wp2_with fail
      refine (rroot_c l rl HRL.out _ _ _ _ (HL.out.since HSd.out).rd HN.out (by omega) hltl).mono ?_; rintro x w6 ⟨rfl, hb6⟩
      have HSe := Lib.hid (HSd.out.call hb6)
      clear hb6
      go_wp2_with fail
      refine (rsame_c [] [] true (by simp) 0 0 rfl rfl none none _ _ _ (Or.inl rfl) (Or.inl rfl) (by decide)).mono ?_; rintro x w7 ⟨rfl, hb7⟩
      have HSf := Lib.hid (HSe.out.call hb7); clear hb7
      go_wp2_with fail
      refine (check_c r t n k ps false HCK.out _ _ _ _ (by omega) hltp HM.out (by omega) hcap (by omega) (HP.out.since HSf.out).rd (HE.out.below HSf.out)).mono ?_; rintro x w8 ⟨rfl, hb8⟩
      have HSg := Lib.hid (HSf.out.call hb8); clear hb8
      go_wp2_with fail
      refine (rcheck_c r t n k ps false HCK.out _ _ _ _ (by omega) hltp HM.out (by omega) (by omega) (HP.out.since HSg.out).rd).mono ?_; rintro x w9 ⟨rfl, hb9⟩
      have HSh := Lib.hid (HSg.out.call hb9); clear hb9
      go_wp2
      go_ret
      exact ⟨rfl, HSh.out⟩
    · go_enter Tryd.func3, Tryd.ntmps3
      go_wp2_with fail
      refine (head_any _ HE.out).mono ?_; rintro x w1 ⟨rfl, hb1⟩
      have HSa := Lib.hid (HS.out.call hb1); clear hb1
      go_wp2_with fail
      refine (short_c l 40 (by decide) true HS1.out _ _ _ _ (HL.out.since HSa.out)).mono ?_; rintro x w2 ⟨rfl, rfl⟩
      go_wp2_with fail
      refine (short_c ps 80 (by decide) true HS2.out _ _ _ _ (HP.out.since HSa.out)).mono ?_; rintro x w2 ⟨rfl, rfl⟩
      go_wp2_with fail
      refine (path_bad l _ _ _ i _ HN.out (by omega) hin).mono ?_; rintro x w3 ⟨rfl, hb3⟩
      have HSb := Lib.hid (HSa.out.call hb3); clear hb3
      go_wp2_with fail
      refine (rpath_bad l _ _ _ i _ HN.out hin).mono ?_; rintro x w4 ⟨rfl, hb4⟩
      have HSc := Lib.hid (HSb.out.call hb4); clear hb4
      go_wp2_with fail
      refine (root_c l rl HRL.out _ _ _ _ (HL.out.since HSc.out).rd HN.out (by omega) hltl (HE.out.below HSc.out)).mono ?_; rintro x w5 ⟨rfl, hb5⟩
      have HSd := Lib.hid (HSc.out.call hb5)
      clear hb5
      go_wp2_with fail
      refine (rroot_c l rl HRL.out _ _ _ _ (HL.out.since HSd.out).rd HN.out (by omega) hltl).mono ?_; rintro x w6 ⟨rfl, hb6⟩
      have HSe := Lib.hid (HSd.out.call hb6)
      clear hb6
      go_wp2_with fail
      refine (rsame_c [] [] true (by simp) 0 0 rfl rfl none none _ _ _ (Or.inl rfl) (Or.inl rfl) (by decide)).mono ?_; rintro x w7 ⟨rfl, hb7⟩
      have HSf := Lib.hid (HSe.out.call hb7); clear hb7
      go_wp2_with fail
      refine (check_c r t n k ps true HCK.out _ _ _ _ (by omega) hltp HM.out (by omega) hcap (by omega) (HP.out.since HSf.out).rd (HE.out.below HSf.out)).mono ?_; rintro x w8 ⟨rfl, hb8⟩
      have HSg := Lib.hid (HSf.out.call hb8); clear hb8
      go_wp2_with fail
      refine (rcheck_c r t n k ps true HCK.out _ _ _ _ (by omega) hltp HM.out (by omega) (by omega) (HP.out.since HSg.out).rd).mono ?_; rintro x w9 ⟨rfl, hb9⟩
      have HSh := Lib.hid (HSg.out.call hb9); clear hb9
      go_wp2
      go_ret
      exact ⟨rfl, HSh.out⟩
end Go.Proofs.YtkjgdgocjnocaaaDoor
