/-
  The document's own gaps and names.
-/
import Derived.Test.YtlfjdohjfmfcdaaGreatDoorRefBytes
import Derived.Test.YtlfjdohjfmfcdaaGreatDoorWalkGap
namespace Go.Proofs.YtlfjdohjfmfcdaaGreatDoor
open Go.RowKit Foyer.Lexer

theorem has_blank : ∀ b : UInt8, hasB ⟨#[32, 9, 10]⟩ b = isBlank b := all_bytes (by decide +kernel)

set_option maxRecDepth 100000 in
set_option maxHeartbeats 1000000 in
theorem rgap_any (t : ByteArray) (ht : t.size ≤ 1000000) (k : Nat) (hk : k ≤ t.size) (w : World) :
    Calls Tryz.prog 22 #[.string t, .int .i64 k] w fun e w' => e = .returned (.int .i64 (k + gapL false (t.data.toList.drop k) : Nat)) ∧ w = w' := by
  obtain ⟨g, hg⟩ : ∃ g, k + gapL false (t.data.toList.drop k) = g := ⟨_, rfl⟩
  rw [hg]
  have HG := Lib.hid hg
  clear hg
  go_enter Tryz.func22, Tryz.ntmps22
  go_wp2
  go_loopw [1] (fun i wr => ∃ k : Nat, i = .int .i64 k ∧ k ≤ t.size ∧ w = wr ∧ Hid (k + gapL false (t.data.toList.drop k) = g)) (fun i _ => t.size - (intOf i).toNat)
  case atStart => exact ⟨k, rfl, hk, rfl, HG⟩
  case round =>
    clear HG
    obtain ⟨k, rfl, hk, rfl, HG⟩ := hrel
    by_cases hlt : k < t.size
    · have hdr := drop_byte t k hlt
      have hg := HG.out
      rw [hdr] at hg
      have hhas := fun w => rhas_any ⟨#[32, 9, 10]⟩ (by decide) t[k] w
      rw [has_blank] at hhas
      have hd : decide ((k : Int) < (t.size : Int)) = true := by simp; omega
      cases hb : isBlank t[k] with
      | true =>
        rw [hb] at hhas
        rw [gap_blank hb] at hg
        have HG2 := Lib.hid hg; have HH := Lib.hid hhas
        clear hg hdr hb hhas HG
        go_wp2_with fail
        refine (HH.out _).mono ?_; rintro e w1 ⟨rfl, rfl⟩
        go_wp2
        go_roundw
        case rel => exact ⟨k + 1, by go_num, by omega, trivial, Lib.hid (by have := HG2.out; omega)⟩
        case measure => simp [intOf]; omega
      | false =>
        rw [hb] at hhas
        cases hh : isHash t[k] with
        | true =>
          rw [gap_hash hh, ← hdr] at hg
          have h35 : t[k].toNat = 35 := by simpa [isHash] using hh
          have e35 : (((t[k].toNat : Nat) : Int) == 35) = true := by simp [h35]
          have H35 := Lib.hid h35
          have HG2 := Lib.hid hg; have HH := Lib.hid hhas
          clear hg hdr hb hh hhas HG h35
          go_wp2_with fail
          refine (HH.out _).mono ?_; rintro e w1 ⟨rfl, rfl⟩
          go_wp2
          go_loopw [1] (fun i wr => ∃ j : Nat, i = .int .i64 j ∧ k ≤ j ∧ j ≤ t.size ∧ w = wr ∧ Hid (j + gapL true (t.data.toList.drop j) = g)) (fun i _ => t.size - (intOf i).toNat)
          case atStart => exact ⟨k, rfl, Nat.le_refl _, by omega, rfl, HG2⟩
          case round =>
            obtain ⟨j, rfl, hkj, hj, rfl, HJ⟩ := hrel
            by_cases hjl : j < t.size
            · have hdj := drop_byte t j hjl
              have hgj := HJ.out
              by_cases h10 : t[j].toNat = 10
              · have h10' : t[j] = 10 := by
                  rw [← UInt8.toNat_inj]; exact h10
                rw [hdj, gap_lf h10', ← hdj] at hgj
                have hne : (((t[j].toNat : Nat) : Int) != 10) = false := by simp [h10]
                have hkj2 : k < j := by
                  rcases Nat.lt_or_ge k j with h | h
                  · exact h
                  · obtain rfl : j = k := by omega
                    have := H35.out; omega
                have HG3 := Lib.hid hgj
                clear hgj hdj h10' h10 HJ
                go_wp2
                go_roundw
                case rel => exact ⟨j, rfl, hj, trivial, HG3⟩
                case measure => simp [intOf]; omega
              · have h10' : ¬ t[j] = 10 := fun e => by rw [e] at h10; exact h10 rfl
                rw [hdj, gap_in h10'] at hgj
                have hne : (((t[j].toNat : Nat) : Int) != 10) = true := by simp; omega
                have HG3 := Lib.hid hgj
                clear hgj hdj h10' h10 HJ
                go_wp2
                go_roundw
                case rel => exact ⟨j + 1, by go_num, by omega, by omega, trivial, Lib.hid (by have := HG3.out; omega)⟩
                case measure => simp [intOf]; omega
            · have hgj := HJ.out
              rw [drop_end t j (by omega)] at hgj
              have HG3 : Hid (j + gapL false (t.data.toList.drop j) = g) := by rw [drop_end t j (by omega)]; exact hgj
              clear hgj HJ
              have hkj2 : k < j := by omega
              go_wp2
              go_roundw
              case rel => exact ⟨j, rfl, hj, trivial, HG3⟩
              case measure => simp [intOf]; omega
        | false =>
          rw [gap_none hb hh] at hg
          have e35 : (((t[k].toNat : Nat) : Int) == 35) = false := by
            have : ¬ t[k].toNat = 35 := by simpa [isHash] using hh
            simp; omega
          have HG2 := Lib.hid hg; have HH := Lib.hid hhas
          clear hg hdr hb hh hhas HG
          go_wp2_with fail
          refine (HH.out _).mono ?_; rintro e w1 ⟨rfl, rfl⟩
          go_wp2
          go_ret
          exact ⟨by rw [← HG2.out]; rfl, rfl⟩
    · have hg := HG.out
      rw [drop_end t k (by omega)] at hg
      have HG2 := Lib.hid hg
      clear hg HG
      go_wp2
      go_ret
      exact ⟨by rw [← HG2.out]; rfl, rfl⟩
end Go.Proofs.YtlfjdohjfmfcdaaGreatDoor
