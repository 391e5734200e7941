/-
  The law LexerMatchesReference: its walk.
-/
import Derived.Test.YtbnnlpmflifofaaDoorLawHelp
import Derived.Test.YtbnnlpmflifofaaDoorRefLex
import Derived.Test.YtbnnlpmflifofaaDoorRefSame
namespace Go.Proofs.YtbnnlpmflifofaaDoor
open Go.RowKit Go.Sort Foyer.Lexer

set_option maxRecDepth 100000 in
set_option maxHeartbeats 2000000 in
theorem ref_walk (t : ByteArray) (w : World) (ht : t.size ≤ maxLen) (_ : Env w) :
    Calls Tryd.prog 3 #[.string t] w fun e w' => e = .returned (.bool true) ∧ Below w.heap.size w w' := by
  have HS : Hid (Since w w) := Below.refl _ _
  unfold maxLen at ht
  by_cases h2 : 21000 < t.size
  · have hd : decide ((21000 : Int) < (t.size : Int)) = true := by simp; omega
    go_enter Tryd.func3, Tryd.ntmps3
    go_wp2_with fail
    refine (head_any _).mono ?_; rintro x w1 ⟨rfl, hb1⟩
    have HS1 := Lib.hid (HS.out.call hb1); clear hb1
    go_wp2
    go_ret
    exact ⟨rfl, HS1.out⟩
  · have hd : decide ((21000 : Int) < (t.size : Int)) = false := by simp; omega
    obtain ⟨⟨ts, E, O⟩, hx⟩ : ∃ x, lexAll t.data.toList = x := ⟨_, rfl⟩
    have hbd := lexAll_bounds t.data.toList
    have hps := lexAll_pos t.data.toList
    have hlx := fun w => lex_c t (by omega) ts E O hx w
    have hrlx := fun w => rlex_any t (by omega) w
    unfold LexPost at hrlx
    rw [hx] at hbd hps hrlx
    dsimp only at hbd hps hrlx
    obtain ⟨b1, b2, b3, b4⟩ := hbd
    have hsz : t.data.toList.length = t.size := by simp
    rw [hsz] at b4 hps
    obtain ⟨n, hn⟩ : ∃ n, ts.length = n := ⟨_, rfl⟩
    rw [hn] at b1 hlx hrlx
    have hmv : moved ts 0 ts = true := by unfold moved; rw [shift_zero]; simp
    have HLX := Lib.hid hlx; have HRLX := Lib.hid hrlx; have HPS : Hid (∀ u ∈ ts, u.pos ≤ 1000000) := fun u hu => by have := hps u hu; omega
    have HMV := Lib.hid hmv; have HN := Lib.hid hn
    have hE0 : (E : Int) = 0 ∨ (E : Int) = 3 ∨ (E : Int) = 5 ∨ (E : Int) = 6 := by omega
    clear hx hps hlx hrlx hsz hmv hn b2
    go_enter Tryd.func3, Tryd.ntmps3
    go_wp2_with fail
    refine (head_any _).mono ?_; rintro x w1 ⟨rfl, hb1⟩
    have HS1 := Lib.hid (HS.out.call hb1); clear hb1
    go_wp2_with fail
    refine (HLX.out _).mono ?_; rintro x w2 ⟨p, cap, rfl, hr, hc, hm, hb2⟩
    have HS2 := Lib.hid (HS1.out.call hb2); have HR := Lib.hid hr; clear hb2 hr
    go_wp2_with fail
    refine (HRLX.out _).mono ?_; rintro x w3 ⟨p2, cap2, rfl, hr2, hc2, ⟨hm2, _⟩, hb3⟩
    have HS3 := Lib.hid (HS2.out.call hb3); have HR2 := Lib.hid hr2; have HR1 := Lib.hid (HR.out.since hb3); clear hb3 hr2
    go_wp2_with fail
    refine (same_any ts ts _ _ _ _ _ _ 0 _ HR1.out HR2.out HN.out HN.out (by omega) (by omega) (by omega) HPS.out).mono ?_; rintro x w4 ⟨rfl, hb4⟩
    have HS4 := Lib.hid (HS3.out.call hb4); clear hb4
    rw [HMV.out]
    go_wp2
    go_ret
    exact ⟨rfl, HS4.out⟩
end Go.Proofs.YtbnnlpmflifofaaDoor
