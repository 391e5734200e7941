/-
  The document's own Parse: it returns what the program's does.
-/
import Derived.Test.YtdjilieadhnhcaaDoorRefText
namespace Go.Proofs.YtdjilieadhnhcaaDoor
open Go.RowKit Go.Sort Foyer.Money

theorem take_byte (s : ByteArray) (k : Nat) (h : k < s.size) : s.data.toList.take (k + 1) = s.data.toList.take k ++ [s[k]] := by
  rw [List.take_succ_eq_append_getElem (by simpa using h)]; rfl

set_option maxRecDepth 100000 in
set_option maxHeartbeats 1000000 in
theorem rparse_any (s : ByteArray) (w : World) (hl : s.size ≤ 1000) :
    Calls Tryd.prog 18 #[.string s] w fun e w' => e = .returned (.tuple #[.int .i64 (parse s.data.toList).1, .int .i64 (parse s.data.toList).2]) ∧ w = w' := by
  go_enter Tryd.func18, Tryd.ntmps18
  go_wp2
  go_loop [4, 5] (fun t i => ∃ k : Nat, k ≤ s.size ∧ i = .int .i64 k ∧ t = .int .i64 (acc (s.data.toList.take k)) ∧ 0 ≤ acc (s.data.toList.take k) ∧ acc (s.data.toList.take k) ≤ 10000000009) (fun _ i => s.size - (intOf i).toNat)
  case atStart => exact ⟨0, Nat.zero_le _, rfl, rfl, by simp [acc], by simp [acc]⟩
  case round =>
    obtain ⟨k, hk, rfl, rfl, b1, b2⟩ := hrel
    by_cases hlt : k < s.size
    · have ht := take_byte s k hlt
      have ha := acc_snoc (s.data.toList.take k) s[k]
      rw [← ht] at ha
      have hb := acc_bd (s.data.toList.take (k + 1))
      have Ha := Lib.hid ha; have Hb := Lib.hid hb
      clear ht ha hb
      generalize acc (s.data.toList.take k) = a at *
      by_cases c1 : 48 ≤ (s[k].toNat : Int)
      · by_cases c2 : (s[k].toNat : Int) ≤ 57
        · by_cases c3 : a ≤ 1000000000
          · have hst : digitStep a s[k] = 10 * a + ((s[k].toNat : Int) - 48) := by unfold digitStep; rw [if_pos (by omega)]
            rw [hst] at Ha
            clear hst
            go_wp2
            go_round
            case rel => exact ⟨k + 1, by omega, by go_num, by rw [Ha.out], Hb.out⟩
            case measure => simp [intOf]; omega
          · have hst : digitStep a s[k] = a := by unfold digitStep; rw [if_neg (by omega)]
            rw [hst] at Ha
            clear hst
            go_wp2
            go_round
            case rel => exact ⟨k + 1, by omega, by go_num, by rw [Ha.out], Hb.out⟩
            case measure => simp [intOf]; omega
        · have hst : digitStep a s[k] = a := by unfold digitStep; rw [if_neg (by omega)]
          rw [hst] at Ha
          clear hst
          go_wp2
          go_round
          case rel => exact ⟨k + 1, by omega, by go_num, by rw [Ha.out], Hb.out⟩
          case measure => simp [intOf]; omega
      · have hst : digitStep a s[k] = a := by unfold digitStep; rw [if_neg (by omega)]
        rw [hst] at Ha
        clear hst
        go_wp2
        go_round
        case rel => exact ⟨k + 1, by omega, by go_num, by rw [Ha.out], Hb.out⟩
        case measure => simp [intOf]; omega
    · have e : k = s.size := by omega
      subst e
      have htk : s.data.toList.take s.size = s.data.toList := by rw [List.take_of_length_le (by simp)]
      rw [htk] at b1 b2 ⊢
      by_cases hem : s.data.toList = []
      · have hp : parse s.data.toList = (0, 4) := by rw [hem]; exact parse_nil
        have HP := Lib.hid hp; clear hp
        have hemb : s.toList.isEmpty = true := by rw [ByteArray.toList_eq, hem]; rfl
        clear hem htk
        generalize acc s.data.toList = a at *
        go_wp2
        go_ret2
        exact ⟨by rw [HP.out]; rfl, rfl⟩
      · have hemb : s.toList.isEmpty = false := by
          rw [ByteArray.toList_eq]
          cases h : s.data.toList with
          | nil => exact absurd h hem
          | cons => rfl
        have hn := parse_none (t := s.data.toList)
        have hp1 : text (acc s.data.toList) = s.data.toList → parse s.data.toList = (acc s.data.toList, 0) := parse_of_text hem
        have hp2 : text (-acc s.data.toList) = s.data.toList → parse s.data.toList = (-acc s.data.toList, 0) := parse_of_text hem
        generalize acc s.data.toList = a at *
        by_cases h1 : text a = s.data.toList
        · have HP := Lib.hid (hp1 h1)
          have h1b : (text a == s.toList) = true := by rw [ByteArray.toList_eq, h1]; simp
          clear hn hp1 hp2 h1 hem htk
          generalize hA : text a = ta at *
          have HA := Lib.hid hA; clear hA
          go_wp2_with fail
          refine (rtext_any a _).mono ?_; rintro e w' ⟨rfl, rfl⟩
          rw [HA.out]
          go_wp2_with fail
          refine (rtext_any a _).mono ?_; rintro e w' ⟨rfl, rfl⟩
          rw [HA.out]
          go_wp2
          go_ret2
          exact ⟨by rw [HP.out]; rfl, rfl⟩
        · have h1b : (text a == s.toList) = false := by rw [ByteArray.toList_eq, beq_eq_false_iff_ne]; exact h1
          by_cases h2 : text (-a) = s.data.toList
          · have HP := Lib.hid (hp2 h2)
            have h2b : (text (-a) == s.toList) = true := by rw [ByteArray.toList_eq, h2]; simp
            clear hn hp1 hp2 h1 h2 hem htk
            generalize hA : text a = ta at *
            have HA := Lib.hid hA; clear hA
            generalize hB : text (-a) = tb at *
            have HB := Lib.hid hB; clear hB
            go_wp2_with fail
            refine (rtext_any a _).mono ?_; rintro e w' ⟨rfl, rfl⟩
            rw [HA.out]
            go_wp2_with fail
            refine (rtext_any (-a) _).mono ?_; rintro e w' ⟨rfl, rfl⟩
            rw [HB.out]
            go_wp2_with fail
            refine (rtext_any a _).mono ?_; rintro e w' ⟨rfl, rfl⟩
            rw [HA.out]
            go_wp2
            go_ret2
            exact ⟨by rw [HP.out]; rfl, rfl⟩
          · have h2b : (text (-a) == s.toList) = false := by rw [ByteArray.toList_eq, beq_eq_false_iff_ne]; exact h2
            have HP := Lib.hid (hn h1 h2)
            clear hn hp1 hp2 h1 h2 hem htk
            generalize hA : text a = ta at *
            have HA := Lib.hid hA; clear hA
            generalize hB : text (-a) = tb at *
            have HB := Lib.hid hB; clear hB
            go_wp2_with fail
            refine (rtext_any a _).mono ?_; rintro e w' ⟨rfl, rfl⟩
            rw [HA.out]
            go_wp2_with fail
            refine (rtext_any (-a) _).mono ?_; rintro e w' ⟨rfl, rfl⟩
            rw [HB.out]
            go_wp2
            go_ret2
            exact ⟨by rw [HP.out]; rfl, rfl⟩
end Go.Proofs.YtdjilieadhnhcaaDoor
