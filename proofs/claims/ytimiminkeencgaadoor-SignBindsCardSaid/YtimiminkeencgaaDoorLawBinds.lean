/-
  The law SignBinds: its walk.
-/
import Derived.Test.YtimiminkeencgaaDoorLawEnds
namespace Go.Proofs.YtimiminkeencgaaDoor
open Go.RowKit Go.Sort Foyer.Digest Foyer.Sign

set_option maxRecDepth 100000 in
set_option maxHeartbeats 4000000 in
theorem binds_walk (a b c : ByteArray) (w : World) (ha : a.size ≤ maxLen) (hb : b.size ≤ maxLen) (hc : c.size ≤ maxLen) (hE : Env w) :
    Calls Tryd.prog 5 #[.string a, .string b, .string c] w fun e w' => e = .returned (.bool true) ∧ Below w.heap.size w w' := by
  obtain ⟨s, rfl⟩ : ∃ l : List UInt8, a = ⟨l.toArray⟩ := ⟨_, ba_eq a⟩
  obtain ⟨m, rfl⟩ : ∃ l : List UInt8, b = ⟨l.toArray⟩ := ⟨_, ba_eq b⟩
  obtain ⟨o, rfl⟩ : ∃ l : List UInt8, c = ⟨l.toArray⟩ := ⟨_, ba_eq c⟩
  rw [size_of_list] at ha hb hc
  have HE := Lib.hid hE; clear hE
  have HS : Hid (Since w w) := Below.refl _ _
  have HA := Lib.hid ha; have HB := Lib.hid hb; have HC := Lib.hid hc; clear ha hb hc
  cases hsh : shortB [s, m, o]
  · have HSH := Lib.hid hsh; clear hsh
    go_enter Tryd.func5, Tryd.ntmps5
    go_wp2_with fail
    refine (head_any _ HE.out).mono ?_; rintro e w1 ⟨rfl, hb1⟩
    have HS := Lib.hid (HS.out.call hb1); clear hb1
    go_wp2_with fail
    refine (short_three s m o _ HSH.out HA.out HB.out HC.out _ _).mono ?_; rintro e w2 ⟨rfl, rfl⟩
    go_wp2
    go_ret
    exact ⟨rfl, HS.out.alloc _⟩
  · have hl := (short_iff'.1 hsh).1
    have hsl : s.length ≤ 300 := hl s (by simp)
    have hml : m.length ≤ 300 := hl m (by simp)
    have hol : o.length ≤ 300 := hl o (by simp)
    have HSH : Hid (∀ _ : Unit, shortB [s, m, o] = true) := fun _ => hsh
    have HSL := Lib.hid hsl; have HOL := Lib.hid hol; have HML := Lib.hid hml; clear hsh hl hsl hol hml
    obtain ⟨ym, hym⟩ : ∃ y, sum m = y := ⟨_, rfl⟩
    obtain ⟨yo, hyo⟩ : ∃ y, sum o = y := ⟨_, rfl⟩
    have HYM := Lib.hid hym; have HYO := Lib.hid hyo
    by_cases hso : ym = yo
    · have heq : (ym == yo) = true := by simp [hso]
      clear hso hym hyo
      go_enter Tryd.func5, Tryd.ntmps5
      go_wp2_with fail
      refine (head_any _ HE.out).mono ?_; rintro e w1 ⟨rfl, hb1⟩
      have HS := Lib.hid (HS.out.call hb1); clear hb1
      go_wp2_with fail
      refine (short_three s m o _ (HSH.out ()) HA.out HB.out HC.out _ _).mono ?_; rintro e w2 ⟨rfl, rfl⟩
      go_wp2_with fail
      refine (rsum_c m ym HYM.out (by have := HML.out; omega) _).mono ?_; rintro e w2 ⟨rfl, rfl⟩
      go_wp2_with fail
      refine (rsum_c o yo HYO.out (by have := HOL.out; omega) _).mono ?_; rintro e w2 ⟨rfl, rfl⟩
      go_wp2
      go_ret
      exact ⟨rfl, HS.out.alloc _⟩
    · have heq : (ym == yo) = false := by simp [hso]
      obtain ⟨pk, hpk⟩ : ∃ pk, pub s = pk := ⟨_, rfl⟩
      obtain ⟨v, hv⟩ : ∃ v, verify pk o (sigOf s m) = v := ⟨_, rfl⟩
      have hcol : v = true → Collides (chainsTo s 30 18 ++ [joined (endsOf s), joined (leads o (sigOf s m))]) := fun h => binds (by rw [hym, hyo]; exact hso) (by rw [hpk, hv, h])
      have HPK := Lib.hid hpk; have HV := Lib.hid hv; have HCOL := Lib.hid hcol
      clear hpk hv hcol hso hym hyo
      go_enter Tryd.func5, Tryd.ntmps5
      go_wp2_with fail
      refine (head_any _ HE.out).mono ?_; rintro e w1 ⟨rfl, hb1⟩
      have HS := Lib.hid (HS.out.call hb1); clear hb1
      go_wp2_with fail
      refine (short_three s m o _ (HSH.out ()) HA.out HB.out HC.out _ _).mono ?_; rintro e w2 ⟨rfl, rfl⟩
      have HS := Lib.hid (HS.out.alloc (.cells #[.string ⟨s.toArray⟩, .string ⟨m.toArray⟩, .string ⟨o.toArray⟩] 9))
      generalize w1.alloc (.cells #[.string ⟨s.toArray⟩, .string ⟨m.toArray⟩, .string ⟨o.toArray⟩] 9) = w2 at *
      go_wp2_with fail
      refine (rsum_c m ym HYM.out (by have := HML.out; omega) _).mono ?_; rintro e wz ⟨rfl, rfl⟩
      go_wp2_with fail
      refine (rsum_c o yo HYO.out (by have := HOL.out; omega) _).mono ?_; rintro e wz ⟨rfl, rfl⟩
      go_wp2_with fail
      refine (sign_any s m (by have := HSL.out; omega) (by have := HML.out; omega) _ (HE.out.below HS.out)).mono ?_; rintro e w4 ⟨bs, rfl, _, hr4, hb4⟩
      have HR := Lib.hid hr4.rd
      have HS := Lib.hid (HS.out.call hb4); clear hb4 hr4 heq
      go_wp2_with fail
      refine (public_any s (by have := HSL.out; omega) pk HPK.out _ (HE.out.below HS.out)).mono ?_; rintro e w3 ⟨rfl, hb3⟩
      have HR := Lib.hid (HR.out.below (Nat.le_refl _) hb3)
      have HS := Lib.hid (HS.out.call hb3); clear hb3
      go_wp2_with fail
      refine (verify_any pk o (sigOf s m) _ 18 18 (by have := HOL.out; omega) (sigOf_length _ _) (sigOf_le s m) v HV.out _ HR.out (HE.out.below HS.out)).mono ?_; rintro e w5 ⟨rfl, hb5⟩
      have HR := Lib.hid (HR.out.below (Nat.le_refl _) hb5)
      have HS := Lib.hid (HS.out.call hb5); clear hb5 HV
      cases v
      · go_wp2
        go_ret
        exact ⟨rfl, HS.out⟩
      · have hcol := HCOL.out rfl
        obtain ⟨ja, hja⟩ : ∃ j, joined (endsOf s) = j := ⟨_, rfl⟩
        obtain ⟨jb, hjb⟩ : ∃ j, joined (leads o (sigOf s m)) = j := ⟨_, rfl⟩
        rw [hja, hjb] at hcol
        have hll := leads_le o (sigOf s m) (sigOf_length _ _) (sig_digests _ _)
        have hjl1 : ja.length ≤ 1000000000 := by rw [← hja]; exact joined_le _ 18 (endsOf_length s) (by decide) (endsOf_le s)
        have hjl2 : jb.length ≤ 1000000000 := by rw [← hjb]; exact joined_le _ 18 (leads_length _ _) (by decide) hll
        have hc1 := chainsTo_le s 30 (by have := HSL.out; omega) 18 (Nat.le_refl _)
        have hn1 : (chainsTo s 30 18).length ≤ 1000 := by rw [chainsTo_length]; omega
        have hall : ∀ t ∈ chainsTo s 30 18 ++ [ja, jb], t.length ≤ 1000000000 := two_le hc1 hjl1 hjl2
        have hch1 := fun W => chains_any s 30 (by decide) (by have := HSL.out; omega) W
        generalize chainsTo s 30 18 = L1 at *
        have HCOLB := Lib.hid hcol; have HJA := Lib.hid hja; have HJB := Lib.hid hjb; have HALL := Lib.hid hall; have HN1 := Lib.hid hn1; have HC1 := Lib.hid hch1; have HLL := Lib.hid hll
        clear hcol hja hjb hjl1 hjl2 hc1 hn1 hall hch1 HCOL hll
        go_wp2_with fail
        refine (own_c s (by have := HSL.out; omega) _).mono ?_; rintro e w9 ⟨p9, c9, rfl, hr9, hb9⟩
        have HR := Lib.hid (HR.out.below (Nat.le_refl _) hb9)
        have HS := Lib.hid (HS.out.call hb9)
        have HR9 := Lib.hid hr9
        clear hb9 hr9
        go_wp2_with fail
        refine (ends_c o (sigOf s m) _ 18 (by have := HOL.out; omega) (sigOf_length _ _) (sigOf_le s m) _ HR.out).mono ?_; rintro e wa ⟨pa, ca, rfl, hra, hba⟩
        have HR9 := Lib.hid (HR9.out.below (Nat.le_refl _) hba)
        have HS := Lib.hid (HS.out.call hba)
        have HRA := Lib.hid hra
        clear hba hra HR
        go_wp2_with fail
        refine (HC1.out _).mono ?_; rintro e w6 ⟨v6, rfl, ho6, hb6⟩
        have HO := Lib.hid (ho6.base HS.out.size)
        have HR9 := Lib.hid (HR9.out.below (Nat.le_refl _) hb6)
        have HRA := Lib.hid (HRA.out.below (Nat.le_refl _) hb6)
        have HS := Lib.hid (HS.out.call hb6); clear ho6 hb6
        go_wp2_with fail
        refine (qjoined_c (endsOf s) ja 18 (endsOf_length s) HJA.out _ _ _ HR9.out (by decide) (endsOf_le s)).mono ?_; rintro e w10 ⟨rfl, hb10⟩
        have HO := Lib.hid (HO.out.kept hb10)
        have HRA := Lib.hid (HRA.out.below (Nat.le_refl _) hb10)
        have HS := Lib.hid (HS.out.call hb10)
        clear hb10 HR9
        go_wp2_with fail
        refine (qjoined_c (leads o (sigOf s m)) jb 18 (leads_length _ _) HJB.out _ _ _ HRA.out (by decide) HLL.out).mono ?_; rintro e w12 ⟨rfl, hb12⟩
        have HO := Lib.hid (HO.out.kept hb12)
        have HS := Lib.hid (HS.out.call hb12)
        clear hb12 HRA
        go_wp2_with (at_builtin; refine wpList_append_g _ rfl _ _ rfl w.heap.size _ _ rfl (HO.out.alloc _) w12.heap.size 0 2 [ja, jb] 2 rfl rfl ?c1 ?d3 ?d5 ?_)
        case c1 =>
          intro j hj
          match j, hj with
          | 0, _ => simp
          | 1, _ => simp
        case d3 => have := HN1.out; omega
        case d5 => have := HS.out.size; simp; omega
        intro v13 w13 hown13 hsz13 hbel13
        have HO13 := Lib.hid hown13
        have HS : Hid (Since w w13) := hbel13 _ _ (Nat.le_refl _) (HS.out.alloc _)
        have HN13 : Hid ((L1 ++ [ja, jb]).length ≤ 100000) := by
          show _ ≤ _
          have := HN1.out
          rw [List.length_append]; simp; omega
        clear hown13 hsz13 hbel13
        go_wp2_with fail
        refine (shown_c (L1 ++ [ja, jb]) _ v13 _ HO13.out HN13.out HALL.out HCOLB.out).mono ?_; rintro e w14 ⟨rfl, hb14⟩
        have HS := Lib.hid (HS.out.call hb14); clear hb14
        go_wp2
        go_ret
        exact ⟨rfl, HS.out⟩
end Go.Proofs.YtimiminkeencgaaDoor
