/-
  The law MoneyTexts: its walk.
-/
import Derived.Test.YtdjilieadhnhcaaDoorHead
namespace Go.Proofs.YtdjilieadhnhcaaDoor
open Go.RowKit Go.Sort Go.Shelf Foyer.Money

set_option maxRecDepth 100000 in
set_option maxHeartbeats 1000000 in
theorem texts_walk (n m : Int) (t : ByteArray) (w : World) (_ : (Lit.int .i64 n).wf = true) (_ : (Lit.int .i64 m).wf = true) (hm : t.size ≤ maxLen) (hE : Env w) :
    Calls Tryd.prog 9 #[.int .i64 n, .int .i64 m, .string t] w fun e w' => e = .returned (.bool true) ∧ RowKit.Below w.heap.size w w' := by
  unfold maxLen at hm
  have HE := Lib.hid hE; clear hE
  have HS : Hid (Since w w) := RowKit.Below.refl _ _
  by_cases ht : 200 < (t.size : Int)
  · go_enter Tryd.func9, Tryd.ntmps9
    go_wp2_with fail
    refine (head_any _ HE.out).mono ?_; rintro e w1 ⟨rfl, hb1⟩
    have HS := Lib.hid (HS.out.call hb1)
    clear hb1
    go_wp2
    go_ret
    exact ⟨rfl, HS.out⟩
  · cases hv : valid n
    · have htn : text n = [] := text_nil hv
      have Htn := Lib.hid htn; have Hv := Lib.hid hv; clear htn hv
      go_enter Tryd.func9, Tryd.ntmps9
      go_wp2_with fail
      refine (head_any _ HE.out).mono ?_; rintro e w1 ⟨rfl, hb1⟩
      have HS := Lib.hid (HS.out.call hb1)
      clear hb1
      go_wp2_with fail
      refine (text_c n [] _ Htn.out (HE.out.below HS.out)).mono ?_; rintro e w2 ⟨rfl, hb2⟩
      have HS := Lib.hid (HS.out.call hb2)
      clear hb2
      go_wp2_with fail
      refine (parse_c [] _ _ _ rfl (HE.out.below HS.out)).mono ?_; rintro e w3 ⟨rfl, hb3⟩
      have HS := Lib.hid (HS.out.call hb3)
      clear hb3
      generalize (parse []).1 = x1
      generalize (parse []).2 = x2
      go_wp2_with fail
      refine (valid_no _ _ Hv.out).mono ?_; rintro e w4 ⟨rfl, rfl⟩
      go_wp2_with fail
      by_cases hp : (parse t.data.toList).2 = 0
      · obtain ⟨hb, hx⟩ := parse_ok hp
        have Hp := Lib.hid hp; have Hb := Lib.hid hb; have Hx := Lib.hid hx; clear hp hb hx
        refine (parse_any t _ (HE.out.below HS.out)).mono ?_; rintro e w5 ⟨rfl, hb5⟩
        have HS := Lib.hid (HS.out.call hb5)
        clear hb5
        rw [Hp.out]
        generalize hb : (parse t.data.toList).1 = b at *
        have Hbb := Lib.hid hb; clear hb
        go_wp2_with fail
        refine (valid_yes _ _ Hb.out).mono ?_; rintro e w6 ⟨rfl, rfl⟩
        go_wp2_with fail
        refine (text_c b t.data.toList _ Hx.out (HE.out.below HS.out)).mono ?_; rintro e w7 ⟨rfl, hb7⟩
        have HS := Lib.hid (HS.out.call hb7)
        clear hb7
        go_wp2
        go_ret
        exact ⟨rfl, HS.out⟩
      · have Hp := Lib.hid (parse_err hp); clear hp
        refine (parse_any t _ (HE.out.below HS.out)).mono ?_; rintro e w5 ⟨rfl, hb5⟩
        have HS := Lib.hid (HS.out.call hb5)
        clear hb5
        rw [Hp.out]
        go_wp2
        go_ret
        exact ⟨rfl, HS.out⟩
    · have hne := text_ne_nil hv
      have hpt := parse_text hv
      have hinj : n ≠ m → text n ≠ text m := by
        intro h1 h2
        cases hv2 : valid m
        · rw [text_nil hv2] at h2; exact hne h2
        · exact h1 (text_inj hv hv2 h2)
      have Hv := Lib.hid hv; clear hv
      have hem : (text n).isEmpty = false := by
        cases h : text n with
        | nil => exact absurd h hne
        | cons => rfl
      by_cases hnm : n = m
      · subst hnm
        clear hinj hne
        have Hpt := Lib.hid hpt; clear hpt
        generalize hL : text n = L at *
        have HL := Lib.hid hL; clear hL
        go_enter Tryd.func9, Tryd.ntmps9
        go_wp2_with fail
        refine (head_any _ HE.out).mono ?_; rintro e w1 ⟨rfl, hb1⟩
        have HS := Lib.hid (HS.out.call hb1)
        clear hb1
        go_wp2_with fail
        refine (text_c n L _ HL.out (HE.out.below HS.out)).mono ?_; rintro e w2 ⟨rfl, hb2⟩
        have HS := Lib.hid (HS.out.call hb2)
        clear hb2
        go_wp2_with fail
        refine (parse_c L _ _ _ Hpt.out (HE.out.below HS.out)).mono ?_; rintro e w3 ⟨rfl, hb3⟩
        have HS := Lib.hid (HS.out.call hb3)
        clear hb3
        go_wp2_with fail
        refine (valid_yes _ _ Hv.out).mono ?_; rintro e w4 ⟨rfl, rfl⟩
        go_wp2_with fail
        refine (text_c n L _ HL.out (HE.out.below HS.out)).mono ?_; rintro e w4 ⟨rfl, hb4⟩
        have HS := Lib.hid (HS.out.call hb4)
        clear hb4
        go_wp2_with fail
        by_cases hp : (parse t.data.toList).2 = 0
        · obtain ⟨hb, hx⟩ := parse_ok hp
          have Hp := Lib.hid hp; have Hb := Lib.hid hb; have Hx := Lib.hid hx; clear hp hb hx
          refine (parse_any t _ (HE.out.below HS.out)).mono ?_; rintro e w5 ⟨rfl, hb5⟩
          have HS := Lib.hid (HS.out.call hb5)
          clear hb5
          rw [Hp.out]
          generalize hb : (parse t.data.toList).1 = b at *
          have Hbb := Lib.hid hb; clear hb
          go_wp2_with fail
          refine (valid_yes _ _ Hb.out).mono ?_; rintro e w6 ⟨rfl, rfl⟩
          go_wp2_with fail
          refine (text_c b t.data.toList _ Hx.out (HE.out.below HS.out)).mono ?_; rintro e w7 ⟨rfl, hb7⟩
          have HS := Lib.hid (HS.out.call hb7)
          clear hb7
          go_wp2
          go_ret
          exact ⟨rfl, HS.out⟩
        · have Hp := Lib.hid (parse_err hp); clear hp
          refine (parse_any t _ (HE.out.below HS.out)).mono ?_; rintro e w5 ⟨rfl, hb5⟩
          have HS := Lib.hid (HS.out.call hb5)
          clear hb5
          rw [Hp.out]
          go_wp2
          go_ret
          exact ⟨rfl, HS.out⟩
      · have hbn : (n == m) = false := by simp [hnm]
        have hbt : (text n == text m) = false := by simp [hinj hnm]
        clear hinj hne hnm
        have Hpt := Lib.hid hpt; clear hpt
        generalize hL : text n = L at *
        have HL := Lib.hid hL; clear hL
        generalize hM : text m = M at *
        have HM := Lib.hid hM; clear hM
        go_enter Tryd.func9, Tryd.ntmps9
        go_wp2_with fail
        refine (head_any _ HE.out).mono ?_; rintro e w1 ⟨rfl, hb1⟩
        have HS := Lib.hid (HS.out.call hb1)
        clear hb1
        go_wp2_with fail
        refine (text_c n L _ HL.out (HE.out.below HS.out)).mono ?_; rintro e w2 ⟨rfl, hb2⟩
        have HS := Lib.hid (HS.out.call hb2)
        clear hb2
        go_wp2_with fail
        refine (parse_c L _ _ _ Hpt.out (HE.out.below HS.out)).mono ?_; rintro e w3 ⟨rfl, hb3⟩
        have HS := Lib.hid (HS.out.call hb3)
        clear hb3
        go_wp2_with fail
        refine (valid_yes _ _ Hv.out).mono ?_; rintro e w4 ⟨rfl, rfl⟩
        go_wp2_with fail
        refine (text_c m M _ HM.out (HE.out.below HS.out)).mono ?_; rintro e w4 ⟨rfl, hb4⟩
        have HS := Lib.hid (HS.out.call hb4)
        clear hb4
        go_wp2_with fail
        by_cases hp : (parse t.data.toList).2 = 0
        · obtain ⟨hb, hx⟩ := parse_ok hp
          have Hp := Lib.hid hp; have Hb := Lib.hid hb; have Hx := Lib.hid hx; clear hp hb hx
          refine (parse_any t _ (HE.out.below HS.out)).mono ?_; rintro e w5 ⟨rfl, hb5⟩
          have HS := Lib.hid (HS.out.call hb5)
          clear hb5
          rw [Hp.out]
          generalize hb : (parse t.data.toList).1 = b at *
          have Hbb := Lib.hid hb; clear hb
          go_wp2_with fail
          refine (valid_yes _ _ Hb.out).mono ?_; rintro e w6 ⟨rfl, rfl⟩
          go_wp2_with fail
          refine (text_c b t.data.toList _ Hx.out (HE.out.below HS.out)).mono ?_; rintro e w7 ⟨rfl, hb7⟩
          have HS := Lib.hid (HS.out.call hb7)
          clear hb7
          go_wp2
          go_ret
          exact ⟨rfl, HS.out⟩
        · have Hp := Lib.hid (parse_err hp); clear hp
          refine (parse_any t _ (HE.out.below HS.out)).mono ?_; rintro e w5 ⟨rfl, hb5⟩
          have HS := Lib.hid (HS.out.call hb5)
          clear hb5
          rw [Hp.out]
          go_wp2
          go_ret
          exact ⟨rfl, HS.out⟩
end Go.Proofs.YtdjilieadhnhcaaDoor
