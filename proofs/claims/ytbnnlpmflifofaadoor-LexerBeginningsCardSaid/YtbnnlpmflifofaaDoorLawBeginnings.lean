/-
  The law LexerBeginnings: its walk.
-/
import Derived.Test.YtbnnlpmflifofaaDoorLawHelp
namespace Go.Proofs.YtbnnlpmflifofaaDoor
open Go.RowKit Go.Sort Foyer.Lexer

set_option maxRecDepth 100000 in
set_option maxHeartbeats 2000000 in
theorem beginnings_walk (t : ByteArray) (w : World) (ht : t.size ≤ maxLen) (_ : Env w) :
    Calls Tryd.prog 7 #[.string t] w fun e w' => e = .returned (.bool true) ∧ Below w.heap.size w w' := by
  have HS : Hid (Since w w) := Below.refl _ _
  unfold maxLen at ht
  by_cases h2 : 3000 < t.size
  · have hd : decide ((3000 : Int) < (t.size : Int)) = true := by simp; omega
    go_enter Tryd.func7, Tryd.ntmps7
    go_wp2_with fail
    refine (head_any _).mono ?_; rintro x w1 ⟨rfl, hb1⟩
    have HS1 := Lib.hid (HS.out.call hb1); clear hb1
    go_wp2
    go_ret
    exact ⟨rfl, HS1.out⟩
  · have hd : decide ((3000 : Int) < (t.size : Int)) = false := by simp; omega
    have hsz : t.data.toList.length = t.size := by simp
    rcases lex_ways t.data.toList (by omega) with ⟨ts, hlx, hx⟩ | ⟨ts, d, p, hlx, hx, hd3, hp⟩
    · have hl := fun w => lex_c t (by omega) ts 0 0 hx w
      have HL := Lib.hid hl
      clear hx hl hsz hlx
      go_enter Tryd.func7, Tryd.ntmps7
      go_wp2_with fail
      refine (head_any _).mono ?_; rintro x w1 ⟨rfl, hb1⟩
      have HS1 := Lib.hid (HS.out.call hb1); clear hb1
      go_wp2_with fail
      refine (HL.out _).mono ?_; rintro x w2 ⟨p, cap, rfl, hr, hc, hm, hb2⟩
      have HS2 := Lib.hid (HS1.out.call hb2); clear hb2 hr
      go_wp2
      go_ret
      exact ⟨rfl, HS2.out⟩
    · rw [hsz] at hp
      have hl := fun w => lex_c t (by omega) [] d p hx w
      obtain ⟨h1, h2'⟩ := lx_begin hlx d p rfl
      rw [Nat.sub_zero] at h1 h2'
      have hx1 := lexAll_none (by rw [List.length_take]; omega) h1
      have hx2 := lexAll_some (by rw [List.length_drop]; omega) h2'
      have e1 : (t.extract 0 p).data.toList = t.data.toList.take p := by
        obtain ⟨l, h1, h2⟩ := cut_list t p
        rw [h1, h2]
      have e2 : (t.extract p t.size).data.toList = t.data.toList.drop p := by
        obtain ⟨l, h1, h2⟩ := part_list t p t.size
        rw [h1, h2]
        rw [show t.data.toList.take t.size = t.data.toList from List.take_of_length_le (by omega)]
      rw [← e1] at hx1
      rw [← e2] at hx2
      have s1 : (t.extract 0 p).size ≤ 1000000 := by simp; omega
      have s2 : (t.extract p t.size).size ≤ 1000000 := by simp; omega
      have hl1 := fun w => lex_c (t.extract 0 p) s1 ts 0 0 hx1 w
      have hl2 := fun w => lex_c (t.extract p t.size) s2 [] d 0 hx2 w
      have HL := Lib.hid hl; have HL1 := Lib.hid hl1; have HL2 := Lib.hid hl2
      have hd0 : ((d : Int) != 0) = true := by rcases hd3 with rfl | rfl | rfl <;> rfl
      have hd1 : ((d : Int) == 0) = false := by rcases hd3 with rfl | rfl | rfl <;> rfl
      have hpp : decide ((p : Int) < 0) = false := by simp
      have hpl : decide ((t.size : Int) ≤ (p : Int)) = false := by simp; omega
      clear hx hl hsz hlx h1 h2' hx1 hx2 e1 e2 s1 s2 hl1 hl2 hd3
      go_enter Tryd.func7, Tryd.ntmps7
      go_wp2_with fail
      refine (head_any _).mono ?_; rintro x w1 ⟨rfl, hb1⟩
      have HS1 := Lib.hid (HS.out.call hb1); clear hb1
      go_wp2_with fail
      refine (HL.out _).mono ?_; rintro x w2 ⟨q, cap, rfl, hr, hc, hm, hb2⟩
      have HS2 := Lib.hid (HS1.out.call hb2); clear hb2 hr
      go_wp2_with fail
      refine (HL1.out _).mono ?_; rintro x w3 ⟨q1, cap1, rfl, hr1, hc1, hm1, hb3⟩
      have HS3 := Lib.hid (HS2.out.call hb3); clear hb3 hr1
      go_wp2_with fail
      refine (HL2.out _).mono ?_; rintro x w4 ⟨q2, cap2, rfl, hr2, hc2, hm2, hb4⟩
      have HS4 := Lib.hid (HS3.out.call hb4); clear hb4 hr2
      go_wp2
      go_ret
      exact ⟨rfl, HS4.out⟩
end Go.Proofs.YtbnnlpmflifofaaDoor
