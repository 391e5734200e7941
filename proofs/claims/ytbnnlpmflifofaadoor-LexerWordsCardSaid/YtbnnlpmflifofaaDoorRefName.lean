/-
  The document's own names, whatever the text's length.
-/
import Derived.Test.YtbnnlpmflifofaaDoorRefGap
namespace Go.Proofs.YtbnnlpmflifofaaDoor
open Go.RowKit Foyer.Lexer

set_option maxRecDepth 100000 in
set_option maxHeartbeats 1000000 in
theorem rname_big (t : ByteArray) (ht : t.size ≤ 9223372036854775807) (w : World) :
    Calls Tryd.prog 18 #[.string t] w fun e w' => e = .returned (.bool (nameB t.data.toList)) ∧ w = w' := by
  obtain ⟨y, hy⟩ : ∃ y, nameB t.data.toList = y := ⟨_, rfl⟩
  rw [hy]
  have hlen : t.data.toList.length = t.size := by simp
  have hbad : ∀ k (h : k < t.size), isWord t[k] = false → y = false := fun k h e => by
    rw [← hy]; unfold nameB
    have hl : k < t.data.toList.length := by simpa using h
    have hf : t.data.toList.all isWord = false := by
      rw [← Bool.not_eq_true, List.all_eq_true]
      intro hh
      have e2 : t[k] = t.data.toList[k] := by simp [ByteArray.getElem_eq_getElem_data]
      have := hh _ (List.getElem_mem hl)
      rw [← e2, e] at this; cases this
    rw [hf]; rfl
  have hgood : (∀ k (h : k < t.size), isWord t[k] = true) → y = (decide (0 < t.size) && decide (t.size ≤ 24) && (match t.data.toList with | [] => false | c :: _ => isLetter c)) := fun h => by
    rw [← hy]; unfold nameB
    have hf : t.data.toList.all isWord = true := by
      rw [List.all_eq_true]
      intro b hb
      obtain ⟨k, hk, e⟩ := List.getElem_of_mem hb
      have hk2 : k < t.size := by simpa using hk
      have := h k hk2
      have e2 : t[k] = t.data.toList[k] := by simp [ByteArray.getElem_eq_getElem_data]
      rw [e2, e] at this; exact this
    rw [hf, Bool.true_and, hlen]; rfl
  have hword := fun (k : Nat) (h : k < t.size) w => rword_any t[k] w
  have hlet := fun (h : 0 < t.size) w => rletter_any t[0] w
  have hhead : ∀ h : 0 < t.size, (match t.data.toList with | [] => false | c :: _ => isLetter c) = isLetter t[0] := fun h => by
    have := drop_byte t 0 h
    rw [List.drop_zero] at this
    rw [this]
  have HB := Lib.hid hbad; have HGO := Lib.hid hgood; have HW := Lib.hid hword; have HLT := Lib.hid hlet; have HHD := Lib.hid hhead
  clear hy hbad hgood hword hlet hhead hlen
  go_enter Tryd.func18, Tryd.ntmps18
  go_wp2
  go_loopw [3] (fun i wr => ∃ k : Nat, i = .int .i64 k ∧ k ≤ t.size ∧ w = wr ∧ Hid (∀ j (h : j < t.size), j < k → isWord t[j] = true)) (fun i _ => t.size - (intOf i).toNat)
  case atStart => exact ⟨0, rfl, Nat.zero_le _, rfl, Lib.hid (fun j _ h => by omega)⟩
  case round =>
    obtain ⟨k, rfl, hk, rfl, HK⟩ := hrel
    by_cases hlt : k < t.size
    · have hw := HW.out k hlt
      obtain ⟨x, hx⟩ : ∃ x, isWord t[k] = x := ⟨_, rfl⟩
      rw [hx] at hw
      have H1 := Lib.hid hw; have HX := Lib.hid hx
      clear hw hx
      cases x
      · have : y = false := HB.out k hlt HX.out
        subst this
        go_wp2_with fail
        refine (H1.out _).mono ?_; rintro e w1 ⟨rfl, rfl⟩
        go_wp2
        go_ret
        exact ⟨rfl, rfl⟩
      · go_wp2_with fail
        refine (H1.out _).mono ?_; rintro e w1 ⟨rfl, rfl⟩
        go_wp2
        go_roundw
        case rel => exact ⟨k + 1, by go_num, by omega, trivial, Lib.hid (fun j h h2 => by
          rcases Nat.lt_or_ge j k with h3 | h3
          · exact HK.out j h h3
          · obtain rfl : j = k := by omega
            exact HX.out)⟩
        case measure => simp [intOf]; omega
    · have hyy := HGO.out fun j h => HK.out j h (by omega)
      by_cases h0 : 0 < t.size
      · rw [HHD.out h0, decide_eq_true h0] at hyy
        have hl := HLT.out h0
        obtain ⟨x, hx⟩ : ∃ x, isLetter t[0] = x := ⟨_, rfl⟩
        rw [hx] at hl hyy
        have H1 := Lib.hid hl; have HY := Lib.hid hyy
        clear hl hx hyy
        by_cases h24 : t.size ≤ 24
        · have d24 : decide ((t.size : Int) ≤ 24) = true := by simp; omega
          go_wp2_with fail
          refine (H1.out _).mono ?_; rintro e w1 ⟨rfl, rfl⟩
          go_wp2
          go_ret
          exact ⟨by rw [HY.out, decide_eq_true h24]; simp, rfl⟩
        · have d24 : decide ((t.size : Int) ≤ 24) = false := by simp; omega
          go_wp2
          go_ret
          exact ⟨by rw [HY.out, decide_eq_false h24]; simp, rfl⟩
      · have d0 : decide ((0 : Int) < (t.size : Int)) = false := decide_eq_false (by omega)
        have : y = false := by rw [hyy, decide_eq_false h0]; rfl
        subst this
        clear hyy
        go_wp2
        go_ret
        exact ⟨rfl, rfl⟩
end Go.Proofs.YtbnnlpmflifofaaDoor
