/-
  The law SignKeys: its walk.
-/
import Derived.Test.YtimiminkeencgaaDoorLawHelp
namespace Go.Proofs.YtimiminkeencgaaDoor
open Go.RowKit Go.Sort Foyer.Digest Foyer.Sign

set_option maxRecDepth 100000 in
set_option maxHeartbeats 4000000 in
theorem keys_walk (a b c : ByteArray) (w : World) (ha : a.size ≤ maxLen) (hb : b.size ≤ maxLen) (hc : c.size ≤ maxLen) (hE : Env w) :
    Calls Tryd.prog 7 #[.string a, .string b, .string c] w fun e w' => e = .returned (.bool true) ∧ Below w.heap.size w w' := by
  obtain ⟨s, rfl⟩ : ∃ l : List UInt8, a = ⟨l.toArray⟩ := ⟨_, ba_eq a⟩
  obtain ⟨o, rfl⟩ : ∃ l : List UInt8, b = ⟨l.toArray⟩ := ⟨_, ba_eq b⟩
  obtain ⟨m, rfl⟩ : ∃ l : List UInt8, c = ⟨l.toArray⟩ := ⟨_, ba_eq c⟩
  rw [size_of_list] at ha hb hc
  have HE := Lib.hid hE; clear hE
  have HS : Hid (Since w w) := Below.refl _ _
  have HA := Lib.hid ha; have HB := Lib.hid hb; have HC := Lib.hid hc; clear ha hb hc
  cases hsh : shortB [s, o, m]
  · have HSH := Lib.hid hsh; clear hsh
    go_enter Tryd.func7, Tryd.ntmps7
    go_wp2_with fail
    refine (head_any _ HE.out).mono ?_; rintro e w1 ⟨rfl, hb1⟩
    have HS := Lib.hid (HS.out.call hb1); clear hb1
    go_wp2_with fail
    refine (short_three s o m _ HSH.out HA.out HB.out HC.out _ _).mono ?_; rintro e w2 ⟨rfl, rfl⟩
    go_wp2
    go_ret
    exact ⟨rfl, HS.out.alloc _⟩
  · have hl := (short_iff'.1 hsh).1
    have hsl : s.length ≤ 300 := hl s (by simp)
    have hol : o.length ≤ 300 := hl o (by simp)
    have hml : m.length ≤ 300 := hl m (by simp)
    have HSH : Hid (∀ _ : Unit, shortB [s, o, m] = true) := fun _ => hsh
    have HSL := Lib.hid hsl; have HOL := Lib.hid hol; have HML := Lib.hid hml; clear hsh hl hsl hol hml
    by_cases hso : s = o
    · have heq : (s == o) = true := by simp [hso]
      clear hso
      go_enter Tryd.func7, Tryd.ntmps7
      go_wp2_with fail
      refine (head_any _ HE.out).mono ?_; rintro e w1 ⟨rfl, hb1⟩
      have HS := Lib.hid (HS.out.call hb1); clear hb1
      go_wp2_with fail
      refine (short_three s o m _ (HSH.out ()) HA.out HB.out HC.out _ _).mono ?_; rintro e w2 ⟨rfl, rfl⟩
      go_wp2
      go_ret
      exact ⟨rfl, HS.out.alloc _⟩
    · have heq : (s == o) = false := by simp [hso]
      obtain ⟨pk, hpk⟩ : ∃ pk, pub o = pk := ⟨_, rfl⟩
      obtain ⟨v, hv⟩ : ∃ v, verify pk m (sigOf s m) = v := ⟨_, rfl⟩
      have hcol : v = true → Collides ((chainsTo s 16 18 ++ chainsTo o 16 18) ++ [joined (endsOf s), joined (endsOf o)]) := fun h => keys hso (by rw [hpk, hv, h])
      have HPK := Lib.hid hpk; have HV := Lib.hid hv; have HCOL := Lib.hid hcol
      clear hpk hv hcol hso
      go_enter Tryd.func7, Tryd.ntmps7
      go_wp2_with fail
      refine (head_any _ HE.out).mono ?_; rintro e w1 ⟨rfl, hb1⟩
      have HS := Lib.hid (HS.out.call hb1); clear hb1
      go_wp2_with fail
      refine (short_three s o m _ (HSH.out ()) HA.out HB.out HC.out _ _).mono ?_; rintro e w2 ⟨rfl, rfl⟩
      have HS := Lib.hid (HS.out.alloc (.cells #[.string ⟨s.toArray⟩, .string ⟨o.toArray⟩, .string ⟨m.toArray⟩] 9))
      generalize w1.alloc (.cells #[.string ⟨s.toArray⟩, .string ⟨o.toArray⟩, .string ⟨m.toArray⟩] 9) = w2 at *
      go_wp2_with fail
      refine (public_any o (by have := HOL.out; omega) pk HPK.out _ (HE.out.below HS.out)).mono ?_; rintro e w3 ⟨rfl, hb3⟩
      have HS := Lib.hid (HS.out.call hb3); clear hb3 heq
      go_wp2_with fail
      refine (sign_any s m (by have := HSL.out; omega) (by have := HML.out; omega) _ (HE.out.below HS.out)).mono ?_; rintro e w4 ⟨bs, rfl, _, hr4, hb4⟩
      have HR := Lib.hid hr4
      have HS := Lib.hid (HS.out.call hb4); clear hb4 hr4
      go_wp2_with fail
      refine (verify_any pk m (sigOf s m) _ 18 18 (by have := HML.out; omega) (sigOf_length _ _) (sigOf_le s m) v HV.out _ HR.out.rd (HE.out.below HS.out)).mono ?_; rintro e w5 ⟨rfl, hb5⟩
      have HS := Lib.hid (HS.out.call hb5); clear hb5 HV
      cases v
      · go_wp2
        go_ret
        exact ⟨rfl, HS.out⟩
      · have hcol := HCOL.out rfl
        obtain ⟨ja, hja⟩ : ∃ j, joined (endsOf s) = j := ⟨_, rfl⟩
        obtain ⟨jb, hjb⟩ : ∃ j, joined (endsOf o) = j := ⟨_, rfl⟩
        rw [hja, hjb] at hcol
        have hjl1 : ja.length ≤ 1000000000 := by rw [← hja]; exact joined_le _ 18 (endsOf_length s) (by decide) (endsOf_le s)
        have hjl2 : jb.length ≤ 1000000000 := by rw [← hjb]; exact joined_le _ 18 (endsOf_length o) (by decide) (endsOf_le o)
        have hc1 := chainsTo_le s 16 (by have := HSL.out; omega) 18 (Nat.le_refl _)
        have hc2 := chainsTo_le o 16 (by have := HOL.out; omega) 18 (Nat.le_refl _)
        have hn1 : (chainsTo s 16 18).length ≤ 1000 := by rw [chainsTo_length]; omega
        obtain ⟨N2, hn2⟩ : ∃ N2, (chainsTo o 16 18).length = N2 := ⟨_, rfl⟩
        have hp2 : 0 < N2 := by rw [← hn2, chainsTo_length]; omega
        have hm2 : N2 ≤ 1000 := by rw [← hn2, chainsTo_length]; omega
        have hall : ∀ t ∈ (chainsTo s 16 18 ++ chainsTo o 16 18) ++ [ja, jb], t.length ≤ 1000000000 := two_le (fun t ht => by
          rcases List.mem_append.1 ht with h | h
          · exact hc1 t h
          · exact hc2 t h) hjl1 hjl2
        have hch1 := fun W => chains_any s 16 (by decide) (by have := HSL.out; omega) W
        have hch2 := fun W => chains_any o 16 (by decide) (by have := HOL.out; omega) W
        generalize chainsTo s 16 18 = L1 at *
        generalize chainsTo o 16 18 = L2 at *
        obtain ⟨L, hL⟩ : ∃ L, L1 ++ L2 = L := ⟨_, rfl⟩
        have hln : L.length ≤ 2000 := by rw [← hL, List.length_append]; omega
        rw [hL] at hcol hall
        have HLE := Lib.hid hL; have HLN := Lib.hid hln
        clear hL hln
        have HCOLB := Lib.hid hcol; have HJA := Lib.hid hja; have HJB := Lib.hid hjb; have HALL := Lib.hid hall; have HN1 := Lib.hid hn1; have HN2 := Lib.hid hn2; have HM2 := Lib.hid hm2; have HP2 := Lib.hid hp2; have HC1 := Lib.hid hch1; have HC2 := Lib.hid hch2
        clear hcol hja hjb hjl1 hjl2 hc1 hc2 hn1 hn2 hm2 hp2 hall hch1 hch2
        go_wp2_with fail
        refine (HC1.out _).mono ?_; rintro e w6 ⟨v6, rfl, ho6, hb6⟩
        have HO := Lib.hid (ho6.base HS.out.size)
        have HS := Lib.hid (HS.out.call hb6); clear ho6 hb6
        go_wp2_with fail
        refine (HC2.out _).mono ?_; rintro e w7 ⟨v7, rfl, ho7, hb7⟩
        have HO := Lib.hid (HO.out.kept hb7)
        have HS := Lib.hid (HS.out.call hb7)
        obtain ⟨p7, c7, rfl, hr7, _⟩ := ho7.slice
        clear ho7 hb7
        rw [HN2.out]
        rcases hr7 with e0 | ⟨b7, off7, rfl, _, hc7⟩
        · have := HN2.out; have hp := HP2.out; rw [e0] at this; simp at this; omega
        · have HC7 := Lib.hid hc7; clear hc7
          go_wp2_with (at_builtin; refine wpList_append_g _ rfl _ _ rfl w.heap.size _ _ rfl HO.out b7 off7 c7 L2 _ HN2.out rfl HC7.out ?d3 ?d5 ?_)
          case d3 => have := HN1.out; have := HM2.out; omega
          case d5 => exact HS.out.size
          intro v8 w8 hown8 hsz8 hbel8
          rw [HLE.out] at hown8
          have HO := Lib.hid hown8
          have HS : Hid (Since w w8) := hbel8 _ _ (Nat.le_refl _) HS.out
          clear hown8 hsz8 hbel8 HC7
          go_wp2_with fail
          refine (own_c s (by have := HSL.out; omega) _).mono ?_; rintro e w9 ⟨p9, c9, rfl, hr9, hb9⟩
          have HO := Lib.hid (HO.out.kept hb9)
          have HS := Lib.hid (HS.out.call hb9)
          have HR9 := Lib.hid hr9
          clear hb9 hr9
          go_wp2_with fail
          refine (qjoined_c (endsOf s) ja 18 (endsOf_length s) HJA.out _ _ _ HR9.out (by decide) (endsOf_le s)).mono ?_; rintro e w10 ⟨rfl, hb10⟩
          have HO := Lib.hid (HO.out.kept hb10)
          have HS := Lib.hid (HS.out.call hb10)
          clear hb10
          go_wp2_with fail
          refine (own_c o (by have := HOL.out; omega) _).mono ?_; rintro e w11 ⟨p11, c11, rfl, hr11, hb11⟩
          have HO := Lib.hid (HO.out.kept hb11)
          have HS := Lib.hid (HS.out.call hb11)
          have HR11 := Lib.hid hr11
          clear hb11 hr11
          go_wp2_with fail
          refine (qjoined_c (endsOf o) jb 18 (endsOf_length o) HJB.out _ _ _ HR11.out (by decide) (endsOf_le o)).mono ?_; rintro e w12 ⟨rfl, hb12⟩
          have HO := Lib.hid (HO.out.kept hb12)
          have HS := Lib.hid (HS.out.call hb12)
          clear hb12
          go_wp2_with (at_builtin; refine wpList_append_g _ rfl _ _ rfl w.heap.size _ _ rfl (HO.out.alloc _) w12.heap.size 0 2 [ja, jb] 2 rfl rfl ?c1 ?d3 ?d5 ?_)
          case c1 =>
            intro j hj
            match j, hj with
            | 0, _ => simp
            | 1, _ => simp
          case d3 => have := HLN.out; omega
          case d5 => have := HS.out.size; simp; omega
          intro v13 w13 hown13 hsz13 hbel13
          have HO13 := Lib.hid hown13
          have HS : Hid (Since w w13) := hbel13 _ _ (Nat.le_refl _) (HS.out.alloc _)
          have HN13 : Hid ((L ++ [ja, jb]).length ≤ 100000) := by
            show _ ≤ _
            have := HLN.out
            rw [List.length_append]; simp; omega
          clear hown13 hsz13 hbel13
          go_wp2_with fail
          refine (shown_c (L ++ [ja, jb]) _ v13 _ HO13.out HN13.out HALL.out HCOLB.out).mono ?_; rintro e w14 ⟨rfl, hb14⟩
          have HS := Lib.hid (HS.out.call hb14); clear hb14
          go_wp2
          go_ret
          exact ⟨rfl, HS.out⟩
end Go.Proofs.YtimiminkeencgaaDoor
