/-
  The law LexerPlaces: its walk.
-/
import Derived.Test.YtbnnlpmflifofaaDoorLawHelp
import Derived.Test.YtbnnlpmflifofaaDoorRefSame
import Derived.Test.YtbnnlpmflifofaaDoorRefGap
import Derived.IntWalk
namespace Go.Proofs.YtbnnlpmflifofaaDoor
open Go.RowKit Go.Sort Foyer.Lexer

set_option maxRecDepth 100000 in
set_option maxHeartbeats 2000000 in
theorem places_ok (t : ByteArray) (w : World) (ht : t.size ≤ 3000) (ts : List Foyer.Lexer.Tok) (h : Lx 0 t.data.toList ts none) :
    Calls Tryd.prog 4 #[.string t] w fun e w' => e = .returned (.bool true) ∧ Below w.heap.size w w' := by
  have HS : Hid (Since w w) := Below.refl _ _
  have hd : decide ((3000 : Int) < (t.size : Int)) = false := by simp; omega
  have hsz : t.data.toList.length = t.size := by simp
  have hx := lexAll_none (by omega) h
  have hc := lx_count h
  obtain ⟨n, hn⟩ : ∃ n, ts.length = n := ⟨_, rfl⟩
  rw [hn, hsz] at hc
  have hl := fun w => lex_n t (by omega) ts n 0 0 hn hx w
  have HL := Lib.hid hl; have HN := Lib.hid hn; have HLX := Lib.hid h; have HSZ := Lib.hid hsz
  clear hx hl hn h hsz
  go_enter Tryd.func4, Tryd.ntmps4
  go_wp2_with fail
  refine (head_any _).mono ?_; rintro x w1 ⟨rfl, hb1⟩
  have HS1 := Lib.hid (HS.out.call hb1); clear hb1
  go_wp2_with fail
  refine (HL.out _).mono ?_; rintro x w2 ⟨q, cap, rfl, hr, hcap, hm, hb2⟩
  have HS2 := Lib.hid (HS1.out.call hb2); have HR := Lib.hid hr; clear hb2 hr
  go_wp2
  go_loopw [7, 8] (fun en i wr => ∃ (k j m : Nat), en = .int .i64 k ∧ i = .int .i64 j ∧ k ≤ t.size ∧ j ≤ n ∧ wr = w2.drewN m ∧ Hid (Lx k (t.data.toList.drop k) (ts.drop j) none)) (fun _ i _ => n - (intOf i).toNat)
  case atStart => exact ⟨0, 0, 0, rfl, rfl, Nat.zero_le _, Nat.zero_le _, rfl, Lib.hid (by rw [List.drop_zero, List.drop_zero]; exact HLX.out)⟩
  case round =>
    obtain ⟨k, j, m, rfl, rfl, hk, hj, rfl, HK⟩ := hrel
    by_cases hlt : j < n
    · have hdj : ts.drop j = ts[j]'(by rw [HN.out]; exact hlt) :: ts.drop (j + 1) := List.drop_eq_getElem_cons _
      have hget : ts[j]? = some (ts[j]'(by rw [HN.out]; exact hlt)) := List.getElem?_eq_getElem _
      generalize ts[j]'(by rw [HN.out]; exact hlt) = u at hdj hget
      have hkk := HK.out
      rw [hdj] at hkk
      obtain ⟨s1, s2, s3, s4, s5, s6⟩ := place_step hkk (by rw [HSZ.out]; exact hk)
      rw [HSZ.out] at s3
      obtain ⟨b, off, rfl, hta, hbl⟩ := rdT_cells HR.out j u hget
      obtain ⟨kd, T, v, po⟩ := u
      obtain ⟨a0, a1, a2, a3⟩ := hta
      dsimp only at a1 a3 s1 s2 s3 s4 s5 s6
      have hT1 : (⟨T.toArray⟩ : ByteArray).size = T.length := size_of_list T
      have hx1 : t.extract po (po + T.length) = ⟨T.toArray⟩ := by
        obtain ⟨l, h1, h2⟩ := part_list t po (po + T.length)
        rw [h1, h2, s4]
      have hgp := fun w => rgaps_any (t.extract k po) (by simp; omega) w
      have hge : (t.extract k po).data.toList = (t.data.toList.take po).drop k := by
        obtain ⟨l, h1, h2⟩ := part_list t k po
        rw [h1, h2]
      have hgt : gapsB (t.extract k po).data.toList = true := by
        unfold gapsB; rw [hge, s5]; simp
      rw [hgt] at hgp
      have hgp2 : ∀ m', Calls Tryd.prog 15 #[.string (t.extract k po)] (w2.drewN (m + m')) fun e w' => e = .returned (.bool true) ∧ ∃ m2, w' = w2.drewN (m + m2) := fun m' => (hgp _).mono fun e w' ⟨he, hw⟩ => ⟨he, m', hw.symm⟩
      have HGP := Lib.hid hgp2; have HX1 := Lib.hid hx1; have HNX := Lib.hid s6
      obtain ⟨L, hL⟩ : ∃ L, T.length = L := ⟨_, rfl⟩
      rw [hL] at s2 s3 hT1 hx1 HNX HX1
      clear hget hdj hkk s4 s5 s6 hgp hge hgt hgp2 a0 a2 hx1
      have d1 : decide ((po : Int) < (k : Int)) = false := by simp; omega
      have d2 : ((L : Int) == 0) = false := by simp; omega
      have d3 : decide ((t.size : Int) < (po : Int) + (L : Int)) = false := by simp; omega
      have hkd : decide ((j : Int) < (n : Int)) = true := by simp; omega
      go_wp2
      have hx1 := HX1.out
      have hwr : IntKind.i64.wrap ((po : Int) + (L : Int)) = (po : Int) + (L : Int) := IntWalk.i64_in _ ⟨by omega, by omega⟩
      have hwn : 0 ≤ (po : Int) + (L : Int) := by omega
      have hwt : ((po : Int) + (L : Int)).toNat = po + L := by omega
      have i1 : (po : Int) ≤ (po : Int) + (L : Int) := by omega
      have i2 : (po : Int) + (L : Int) ≤ (t.size : Int) := by omega
      have i3 : (k : Int) ≤ (po : Int) := by omega
      have i4 : (po : Int) ≤ (t.size : Int) := by omega
      have i5 : po ≤ po + L := by omega
      have i6 : po ≤ t.size := by omega
      go_quiet (first | with_reducible exact HGP.out _)
      clear hwr hwn hwt hx1 i1 i2 i3 i4
      go_wp2
      go_roundw
      case rel => exact ⟨po + L, j + 1, _, by go_num, by go_num, s3, hlt, rfl, HNX⟩
      case measure => simp [intOf]; omega
    · obtain rfl : j = n := by omega
      have hkd : decide ((j : Int) < (j : Int)) = false := by simp
      have hkk := HK.out
      rw [show ts.drop j = [] from List.drop_eq_nil_of_le (by rw [HN.out]; omega)] at hkk
      have hend := place_end hkk
      have hgp := fun w => rgaps_any (t.extract k t.size) (by simp; omega) w
      have hge : (t.extract k t.size).data.toList = t.data.toList.drop k := by
        obtain ⟨l, h1, h2⟩ := part_list t k t.size
        rw [h1, h2, List.take_of_length_le (by rw [HSZ.out]; omega)]
      have hgt : gapsB (t.extract k t.size).data.toList = true := by
        unfold gapsB; rw [hge, hend]; simp
      rw [hgt] at hgp
      have HGP := Lib.hid hgp
      clear hkk hend hgp hge hgt
      go_wp2_with fail
      refine (HGP.out _).mono ?_; rintro x w3 ⟨rfl, rfl⟩
      go_wp2
      go_ret
      exact ⟨rfl, HS2.out.drewN m⟩

set_option maxRecDepth 100000 in
set_option maxHeartbeats 2000000 in
theorem places_walk (t : ByteArray) (w : World) (ht : t.size ≤ maxLen) (_ : Env w) :
    Calls Tryd.prog 4 #[.string t] w fun e w' => e = .returned (.bool true) ∧ Below w.heap.size w w' := by
  have HS : Hid (Since w w) := Below.refl _ _
  unfold maxLen at ht
  by_cases h2 : 3000 < t.size
  · have hd : decide ((3000 : Int) < (t.size : Int)) = true := by simp; omega
    go_enter Tryd.func4, Tryd.ntmps4
    go_wp2_with fail
    refine (head_any _).mono ?_; rintro x w1 ⟨rfl, hb1⟩
    have HS1 := Lib.hid (HS.out.call hb1); clear hb1
    go_wp2
    go_ret
    exact ⟨rfl, HS1.out⟩
  · have hsz : t.data.toList.length = t.size := by simp
    rcases lex_ways t.data.toList (by omega) with ⟨ts, hlx, hx⟩ | ⟨ts, d, p, hlx, hx, hd3, hp⟩
    · exact places_ok t w (by omega) ts hlx
    · rw [hsz] at hp
      have hl := fun w => lex_n t (by omega) [] 0 d p rfl hx w
      have HL := Lib.hid hl
      have hd : decide ((3000 : Int) < (t.size : Int)) = false := by simp; omega
      have hd0 : ((d : Int) != 0) = true := by rcases hd3 with rfl | rfl | rfl <;> rfl
      have hpp : decide ((0 : Int) ≤ (p : Int)) = true := by simp
      have hpl : decide ((p : Int) < (t.size : Int)) = true := by simp; omega
      clear hx hl hsz hlx hd3
      go_enter Tryd.func4, Tryd.ntmps4
      go_wp2_with fail
      refine (head_any _).mono ?_; rintro x w1 ⟨rfl, hb1⟩
      have HS1 := Lib.hid (HS.out.call hb1); clear hb1
      go_wp2_with fail
      refine (HL.out _).mono ?_; rintro x w2 ⟨q, cap, rfl, hr, hc, hm, hb2⟩
      have HS2 := Lib.hid (HS1.out.call hb2); clear hb2 hr
      go_wp2
      go_ret
      exact ⟨rfl, HS2.out⟩
end Go.Proofs.YtbnnlpmflifofaaDoor
