/-
  The law SignMatchesReference: its walk.
-/
import Derived.Test.YtimiminkeencgaaDoorLawVerifies
import Derived.Test.YtimiminkeencgaaDoorRefVerify
namespace Go.Proofs.YtimiminkeencgaaDoor
open Go.RowKit Go.Sort Foyer.Digest Foyer.Sign

set_option maxRecDepth 100000 in
set_option maxHeartbeats 4000000 in
theorem ref_walk (a b c : ByteArray) (q : Option Addr) (len cap : Nat) (ls : List (List UInt8)) (w : World) (ha : a.size ≤ maxLen) (hb : b.size ≤ maxLen) (hc : c.size ≤ maxLen) (hl : IsStrs w q len ls) (hE : Env w) :
    Calls Tryd.prog 3 #[.string a, .string b, .string c, .slice q len cap] w fun e w' => e = .returned (.bool true) ∧ Below w.heap.size w w' := by
  obtain ⟨s, rfl⟩ : ∃ l : List UInt8, a = ⟨l.toArray⟩ := ⟨_, ba_eq a⟩
  obtain ⟨p, rfl⟩ : ∃ l : List UInt8, b = ⟨l.toArray⟩ := ⟨_, ba_eq b⟩
  obtain ⟨m, rfl⟩ : ∃ l : List UInt8, c = ⟨l.toArray⟩ := ⟨_, ba_eq c⟩
  rw [size_of_list] at ha hb hc
  have HE := Lib.hid hE; clear hE
  have HS : Hid (Since w w) := Below.refl _ _
  have HA := Lib.hid ha; have HB := Lib.hid hb; have HC := Lib.hid hc; have HL := Lib.hid hl; clear ha hb hc hl
  cases hsh : shortB [s, p, m]
  · have HSH := Lib.hid hsh; clear hsh
    go_enter Tryd.func3, Tryd.ntmps3
    go_wp2_with fail
    refine (head_any _ HE.out).mono ?_; rintro e w1 ⟨rfl, hb1⟩
    have HS := Lib.hid (HS.out.call hb1); clear hb1
    go_wp2_with fail
    refine (short_three s p m _ HSH.out HA.out HB.out HC.out _ _).mono ?_; rintro e w2 ⟨rfl, rfl⟩
    go_wp2
    go_ret
    exact ⟨rfl, HS.out.alloc _⟩
  · have hl := (short_iff'.1 hsh).1
    have hsl : s.length ≤ 300 := hl s (by simp)
    have hpl : p.length ≤ 300 := hl p (by simp)
    have hml : m.length ≤ 300 := hl m (by simp)
    have HSH : Hid (∀ _ : Unit, shortB [s, p, m] = true) := fun _ => hsh
    have HSL := Lib.hid hsl; have HPL := Lib.hid hpl; have HML := Lib.hid hml; clear hsh hl hsl hpl hml
    cases hsz : shortB ls
    · have HSZ := Lib.hid hsz; clear hsz
      go_enter Tryd.func3, Tryd.ntmps3
      go_wp2_with fail
      refine (head_any _ HE.out).mono ?_; rintro e w1 ⟨rfl, hb1⟩
      have HS := Lib.hid (HS.out.call hb1); clear hb1
      go_wp2_with fail
      refine (short_three s p m _ (HSH.out ()) HA.out HB.out HC.out _ _).mono ?_; rintro e w2 ⟨rfl, rfl⟩
      have HS := Lib.hid (HS.out.alloc (.cells #[.string ⟨s.toArray⟩, .string ⟨p.toArray⟩, .string ⟨m.toArray⟩] 9))
      generalize w1.alloc (.cells #[.string ⟨s.toArray⟩, .string ⟨p.toArray⟩, .string ⟨m.toArray⟩] 9) = w2 at *
      have hsc := short_any ls q len cap w2 (HL.out.since HS.out)
      rw [HSZ.out] at hsc
      have HSC := Lib.hid hsc; clear hsc
      go_wp2_with fail
      refine (HSC.out).mono ?_; rintro e w3 ⟨rfl, rfl⟩
      go_wp2
      go_ret
      exact ⟨rfl, HS.out⟩
    · by_cases h30 : 30 < len
      · have hgt : decide ((30 : Int) < (len : Int)) = true := by simp; omega
        have HSZ := Lib.hid hsz; clear hsz
        go_enter Tryd.func3, Tryd.ntmps3
        go_wp2_with fail
        refine (head_any _ HE.out).mono ?_; rintro e w1 ⟨rfl, hb1⟩
        have HS := Lib.hid (HS.out.call hb1); clear hb1
        go_wp2_with fail
        refine (short_three s p m _ (HSH.out ()) HA.out HB.out HC.out _ _).mono ?_; rintro e w2 ⟨rfl, rfl⟩
        have HS := Lib.hid (HS.out.alloc (.cells #[.string ⟨s.toArray⟩, .string ⟨p.toArray⟩, .string ⟨m.toArray⟩] 9))
        generalize w1.alloc (.cells #[.string ⟨s.toArray⟩, .string ⟨p.toArray⟩, .string ⟨m.toArray⟩] 9) = w2 at *
        have hsc := short_any ls q len cap w2 (HL.out.since HS.out)
        rw [HSZ.out] at hsc
        have HSC := Lib.hid hsc; clear hsc
        go_wp2_with fail
        refine (HSC.out).mono ?_; rintro e w3 ⟨rfl, rfl⟩
        go_wp2
        go_ret
        exact ⟨rfl, HS.out⟩
      · have hgt : decide ((30 : Int) < (len : Int)) = false := by simp; omega
        have hel : ∀ t ∈ ls, t.length ≤ 1000000 := fun t ht => by have := (short_iff'.1 hsz).1 t ht; omega
        have HEL := Lib.hid hel
        have HSZ := Lib.hid hsz; clear hsz hel
        have HLEN : Hid (ls.length = len) := HL.out.length
        obtain ⟨pk, hpk⟩ : ∃ pk, pub s = pk := ⟨_, rfl⟩
        obtain ⟨v1, hv1⟩ : ∃ v, verify p m ls = v := ⟨_, rfl⟩
        obtain ⟨v2, hv2⟩ : ∃ v, verify pk m ls = v := ⟨_, rfl⟩
        have HPK := Lib.hid hpk; have HV1 := Lib.hid hv1; have HV2 := Lib.hid hv2
        clear hpk hv1 hv2
        have hpp : (pk == pk) = true := by simp
        have hb1' : (v1 == v1) = true := by simp
        have hb2' : (v2 == v2) = true := by simp
        go_enter Tryd.func3, Tryd.ntmps3
        go_wp2_with fail
        refine (head_any _ HE.out).mono ?_; rintro e w1 ⟨rfl, hb1⟩
        have HS := Lib.hid (HS.out.call hb1); clear hb1
        go_wp2_with fail
        refine (short_three s p m _ (HSH.out ()) HA.out HB.out HC.out _ _).mono ?_; rintro e w2 ⟨rfl, rfl⟩
        have HS := Lib.hid (HS.out.alloc (.cells #[.string ⟨s.toArray⟩, .string ⟨p.toArray⟩, .string ⟨m.toArray⟩] 9))
        generalize w1.alloc (.cells #[.string ⟨s.toArray⟩, .string ⟨p.toArray⟩, .string ⟨m.toArray⟩] 9) = w2 at *
        have hsc := short_any ls q len cap w2 (HL.out.since HS.out)
        rw [HSZ.out] at hsc
        have HSC := Lib.hid hsc; clear hsc
        go_wp2_with fail
        refine (HSC.out).mono ?_; rintro e w3 ⟨rfl, rfl⟩
        go_wp2_with fail
        refine (public_any s (by have := HSL.out; omega) pk HPK.out _ (HE.out.below HS.out)).mono ?_; rintro e w3 ⟨rfl, hb3⟩
        have HS := Lib.hid (HS.out.call hb3); clear hb3
        go_wp2_with fail
        refine (qpublic_c s (by have := HSL.out; omega) pk HPK.out _).mono ?_; rintro e w4 ⟨rfl, hb4⟩
        have HS := Lib.hid (HS.out.call hb4); clear hb4
        go_wp2_with fail
        refine (sign_any s m (by have := HSL.out; omega) (by have := HML.out; omega) _ (HE.out.below HS.out)).mono ?_; rintro e w5 ⟨bs, rfl, _, hr5, hb5⟩
        have HR := Lib.hid hr5.rd
        have HS := Lib.hid (HS.out.call hb5); clear hb5 hr5
        go_wp2_with fail
        refine (qsign_any s m (by have := HSL.out; omega) (by have := HML.out; omega) _).mono ?_; rintro e w6 ⟨v6, rfl, ho6, hb6⟩
        obtain ⟨p6, c6, rfl, hr6, hm6⟩ := ho6.slice
        rw [sigOf_length]
        have HR := Lib.hid (HR.out.below (Nat.le_refl _) hb6)
        have HR6 := Lib.hid hr6
        have HS := Lib.hid (HS.out.call hb6); clear hb6 ho6 hr6 hm6
        go_wp2_with fail
        refine (rsame_c (sigOf s m) (sigOf s m) true (by simp) 18 18 (sigOf_length _ _) (sigOf_length _ _) _ _ _ _ _ HR.out HR6.out (by decide)).mono ?_; rintro e w7 ⟨rfl, hb7⟩
        have HS := Lib.hid (HS.out.call hb7); clear hb7 HR HR6
        go_wp2_with fail
        refine (verify_any p m ls q len cap (by have := HML.out; omega) HLEN.out HEL.out v1 HV1.out _ (HL.out.since HS.out).rd (HE.out.below HS.out)).mono ?_; rintro e w8 ⟨rfl, hb8⟩
        have HS := Lib.hid (HS.out.call hb8); clear hb8
        go_wp2_with fail
        refine (qverify_any p m ls q len cap (by have := HML.out; omega) HLEN.out HEL.out v1 HV1.out _ (HL.out.since HS.out).rd).mono ?_; rintro e w9 ⟨rfl, hb9⟩
        have HS := Lib.hid (HS.out.call hb9); clear hb9
        go_wp2_with fail
        refine (public_any s (by have := HSL.out; omega) pk HPK.out _ (HE.out.below HS.out)).mono ?_; rintro e wa ⟨rfl, hba⟩
        have HS := Lib.hid (HS.out.call hba); clear hba
        go_wp2_with fail
        refine (verify_any pk m ls q len cap (by have := HML.out; omega) HLEN.out HEL.out v2 HV2.out _ (HL.out.since HS.out).rd (HE.out.below HS.out)).mono ?_; rintro e wb ⟨rfl, hbb⟩
        have HS := Lib.hid (HS.out.call hbb); clear hbb
        go_wp2_with fail
        refine (qpublic_c s (by have := HSL.out; omega) pk HPK.out _).mono ?_; rintro e wc ⟨rfl, hbc⟩
        have HS := Lib.hid (HS.out.call hbc); clear hbc
        go_wp2_with fail
        refine (qverify_any pk m ls q len cap (by have := HML.out; omega) HLEN.out HEL.out v2 HV2.out _ (HL.out.since HS.out).rd).mono ?_; rintro e wd ⟨rfl, hbd⟩
        have HS := Lib.hid (HS.out.call hbd); clear hbd
        go_wp2
        go_ret
        exact ⟨rfl, HS.out⟩
end Go.Proofs.YtimiminkeencgaaDoor
