/-
  The law LexerAgain: its walk.
-/
import Derived.Test.YtbnnlpmflifofaaDoorLawHelp
import Derived.Test.YtbnnlpmflifofaaDoorRefAlike
namespace Go.Proofs.YtbnnlpmflifofaaDoor
open Go.RowKit Go.Sort Foyer.Lexer

set_option maxRecDepth 100000 in
set_option maxHeartbeats 2000000 in
theorem again_walk (t : ByteArray) (w : World) (ht : t.size ≤ maxLen) (_ : Env w) :
    Calls Tryd.prog 5 #[.string t] w fun e w' => e = .returned (.bool true) ∧ Below w.heap.size w w' := by
  have HS : Hid (Since w w) := Below.refl _ _
  unfold maxLen at ht
  by_cases h2 : 2000 < t.size
  · have hd : decide ((2000 : Int) < (t.size : Int)) = true := by simp; omega
    go_enter Tryd.func5, Tryd.ntmps5
    go_wp2_with fail
    refine (head_any _).mono ?_; rintro x w1 ⟨rfl, hb1⟩
    have HS1 := Lib.hid (HS.out.call hb1); clear hb1
    go_wp2
    go_ret
    exact ⟨rfl, HS1.out⟩
  · have hd : decide ((2000 : Int) < (t.size : Int)) = false := by simp; omega
    have hsz : t.data.toList.length = t.size := by simp
    rcases lex_ways t.data.toList (by omega) with ⟨ts, hlx, hx⟩ | ⟨ts, d, p, hlx, hx, hd3, hp⟩
    · obtain ⟨us, hu, hs⟩ := lx_again hlx 0 [] rfl
      rw [List.nil_append] at hu
      have hwl := written_length hlx
      have hcl := lx_count hlx
      have hul : us.length = ts.length := by
        have := congrArg List.length hs
        unfold sans at this
        rwa [List.length_map, List.length_map] at this
      have hx2 := lexAll_none (by omega) hu
      have e2 : (⟨(Foyer.Lexer.written ts).toArray⟩ : ByteArray).data.toList = Foyer.Lexer.written ts := by simp
      rw [← e2] at hx2
      have hl := fun w => lex_c t (by omega) ts 0 0 hx w
      have hl2 := fun w => lex_n ⟨(Foyer.Lexer.written ts).toArray⟩ (by rw [size_of_list]; omega) us ts.length 0 0 hul hx2 w
      have hal : alike ts us = true := by unfold alike; rw [hs]; simp
      have HW : Hid ((Foyer.Lexer.written ts).length ≤ 1000000) := by show _ ≤ _; omega
      rw [hsz] at hcl
      have hn5 : ts.length ≤ 2000 := by omega
      obtain ⟨n, hn⟩ : ∃ n, ts.length = n := ⟨_, rfl⟩
      rw [hn] at hl hl2 hn5 hul
      have HL := Lib.hid hl; have HL2 := Lib.hid hl2; have HAL := Lib.hid hal; have HN := Lib.hid hn; have HUL := Lib.hid hul
      clear hx hl hsz hlx hu hs hwl hcl hul hx2 e2 hl2 hal hn
      go_enter Tryd.func5, Tryd.ntmps5
      go_wp2_with fail
      refine (head_any _).mono ?_; rintro x w1 ⟨rfl, hb1⟩
      have HS1 := Lib.hid (HS.out.call hb1); clear hb1
      go_wp2_with fail
      refine (HL.out _).mono ?_; rintro x w2 ⟨p, cap, rfl, hr, hc, hm, hb2⟩
      have HS2 := Lib.hid (HS1.out.call hb2); have HR := Lib.hid hr; clear hb2 hr
      go_wp2_with fail
      refine (written_any ts _ _ _ _ HR.out HN.out (by omega) HW.out).mono ?_; rintro x w3 ⟨rfl, m, rfl⟩
      go_wp2_with fail
      refine (HL2.out _).mono ?_; rintro x w4 ⟨p2, cap2, rfl, hr2, hc2, hm2, hb4⟩
      have HS4 := Lib.hid ((HS2.out.drewN m).call hb4); have HR2 := Lib.hid hr2; have HR1 := Lib.hid ((HR.out.drewN m).since hb4); clear hb4 hr2
      go_wp2_with fail
      refine (alike_any ts us _ _ _ _ _ _ _ HR1.out HR2.out HN.out HUL.out (by omega) (by omega)).mono ?_; rintro x w5 ⟨rfl, m2, rfl⟩
      rw [HAL.out]
      go_wp2
      go_ret
      exact ⟨rfl, HS4.out.drewN m2⟩
    · have hl := fun w => lex_c t (by omega) [] d p hx w
      have HL := Lib.hid hl
      have hd0 : ((d : Int) != 0) = true := by rcases hd3 with rfl | rfl | rfl <;> rfl
      clear hx hl hsz hlx hd3
      go_enter Tryd.func5, Tryd.ntmps5
      go_wp2_with fail
      refine (head_any _).mono ?_; rintro x w1 ⟨rfl, hb1⟩
      have HS1 := Lib.hid (HS.out.call hb1); clear hb1
      go_wp2_with fail
      refine (HL.out _).mono ?_; rintro x w2 ⟨p, cap, rfl, hr, hc, hm, hb2⟩
      have HS2 := Lib.hid (HS1.out.call hb2); clear hb2 hr
      go_wp2
      go_ret
      exact ⟨rfl, HS2.out⟩
end Go.Proofs.YtbnnlpmflifofaaDoor
