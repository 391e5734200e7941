/-
  The walk of the end of gaps.
-/
import Derived.Test.YtlfjdohjfmfcdaaGreatDoorSrc
namespace Go.Proofs.YtlfjdohjfmfcdaaGreatDoor
open Go.RowKit Foyer.Lexer

theorem gap_lf {c : UInt8} {r : List UInt8} (h : c = 10) : gapL true (c :: r) = gapL false (c :: r) := by
  subst h; simp [gapL, isBlank]
theorem gap_in {c : UInt8} {r : List UInt8} (h : ¬ c = 10) : gapL true (c :: r) = gapL true r + 1 := by
  have : (c == 10) = false := by simpa using h
  simp [gapL, this]
theorem gap_hash {c : UInt8} {r : List UInt8} (h : isHash c = true) : gapL false (c :: r) = gapL true (c :: r) := by
  have hb : isBlank c = false := by
    have := cls_facts c
    cases hbb : isBlank c
    · rfl
    · have h1 := this.1.2 hbb; have h2 := this.2.1.2 h; omega
  have h10 : (c == 10) = false := by
    rw [beq_eq_false_iff_ne]; intro e; subst e; revert h; decide
  simp [gapL, hb, h, h10]
theorem gap_blank {c : UInt8} {r : List UInt8} (h : isBlank c = true) : gapL false (c :: r) = gapL false r + 1 := by simp [gapL, h]
theorem gap_none {c : UInt8} {r : List UInt8} (h : isBlank c = false) (h2 : isHash c = false) : gapL false (c :: r) = 0 := by simp [gapL, h, h2]

set_option maxRecDepth 100000 in
set_option maxHeartbeats 1000000 in
theorem gapEnd_any (t : ByteArray) (ht : t.size ≤ 1000000) (b k : Nat) (hk : k ≤ t.size) (w : World) (hs : Src w b t) :
    Calls Tryz.prog 31 #[.pointer (some ⟨b, 0, none⟩), .int .i64 k] w fun e w' => e = .returned (.int .i64 (k + gapL false (t.data.toList.drop k) : Nat)) ∧ ∃ n, w' = w.drewN n := by
  obtain ⟨g, hg⟩ : ∃ g, k + gapL false (t.data.toList.drop k) = g := ⟨_, rfl⟩
  rw [hg]
  have HG := Lib.hid hg; have HT := Lib.hid hs.text; have HC := Lib.hid hs.at_
  clear hg hs
  go_enter Tryz.func31, Tryz.ntmps31
  go_wp2
  go_step3
  go_wp2
  go_step3
  go_wp2
  go_loopw [1] (fun i wr => ∃ k n : Nat, i = .int .i64 k ∧ k ≤ t.size ∧ wr = w.drewN n ∧ Hid (k + gapL false (t.data.toList.drop k) = g)) (fun i _ => t.size - (intOf i).toNat)
  case atStart => exact ⟨k, 0, rfl, hk, rfl, HG⟩
  case round =>
    obtain ⟨k, n, rfl, hk, rfl, HG⟩ := hrel
    have htx := HT.out
    by_cases hlt : k < t.size
    · have hcls := cls_facts t[k]
      have hdr := drop_byte t k hlt
      have hg := HG.out
      rw [hdr] at hg
      have hc := HC.out t[k]
      have h256 : t[k].toNat < 256 := t[k].toNat_lt
      obtain ⟨c, hcc⟩ : ∃ c, cls t[k] = c := ⟨_, rfl⟩
      rw [hcc] at hc hcls
      by_cases h1 : c = 1
      · subst h1
        rw [gap_blank (hcls.1.1 rfl)] at hg
        have HG2 := Lib.hid hg
        clear hg hdr hcc hcls HG
        go_wp2
        go_quiet (fail)
        go_wp2
        go_roundw
        case rel => exact ⟨k + 1, n + nq, by go_num, by omega, rfl, Lib.hid (by have := HG2.out; omega)⟩
        case measure => simp [intOf]; omega
      · by_cases h2 : c = 2
        · subst h2
          rw [gap_hash (hcls.2.1.1 rfl), ← hdr] at hg
          have h35 : t[k].toNat = 35 := by have := hcls.2.1.1 rfl; simpa [isHash] using this
          have H35 := Lib.hid h35
          have HG2 := Lib.hid hg
          clear hg hdr hcc hcls HG h35
          go_wp2
          go_quiet (fail)
          go_wp2
          go_loopw [1] (fun i wr => ∃ j : Nat, i = .int .i64 j ∧ k ≤ j ∧ j ≤ t.size ∧ wr = w.drewN (n + nq) ∧ Hid (j + gapL true (t.data.toList.drop j) = g)) (fun i _ => t.size - (intOf i).toNat)
          case atStart => exact ⟨k, rfl, Nat.le_refl _, by omega, rfl, HG2⟩
          case round =>
            obtain ⟨j, rfl, hkj, hj, rfl, HJ⟩ := hrel
            by_cases hjl : j < t.size
            · have hdj := drop_byte t j hjl
              have hgj := HJ.out
              by_cases h10 : t[j].toNat = 10
              · have h10' : t[j] = 10 := by
                  rw [← UInt8.toNat_inj]; exact h10
                rw [hdj, gap_lf h10', ← hdj] at hgj
                have hne : (((t[j].toNat : Nat) : Int) != 10) = false := by simp [h10]
                have hkj2 : k < j := by
                  rcases Nat.lt_or_ge k j with h | h
                  · exact h
                  · obtain rfl : j = k := by omega
                    have := H35.out; omega
                have HG3 := Lib.hid hgj
                clear hgj hdj h10' HJ
                go_wp2
                go_roundw
                case rel => exact ⟨j, n + nq, rfl, hj, rfl, HG3⟩
                case measure => simp [intOf]; omega
              · have h10' : ¬ t[j] = 10 := fun e => by rw [e] at h10; exact h10 rfl
                rw [hdj, gap_in h10'] at hgj
                have hne : (((t[j].toNat : Nat) : Int) != 10) = true := by simp; omega
                have HG3 := Lib.hid hgj
                clear hgj hdj h10' HJ
                go_wp2
                go_roundw
                case rel => exact ⟨j + 1, by go_num, by omega, by omega, trivial, Lib.hid (by have := HG3.out; omega)⟩
                case measure => simp [intOf]; omega
            · have hgj := HJ.out
              rw [drop_end t j (by omega)] at hgj
              have HG3 : Hid (j + gapL false (t.data.toList.drop j) = g) := by rw [drop_end t j (by omega)]; exact hgj
              clear hgj HJ
              have hkj2 : k < j := by omega
              go_wp2
              go_roundw
              case rel => exact ⟨j, n + nq, rfl, hj, rfl, HG3⟩
              case measure => simp [intOf]; omega
        · have hb : isBlank t[k] = false := by
            cases hbb : isBlank t[k]
            · rfl
            · exact absurd (hcls.1.2 hbb) h1
          have hh : isHash t[k] = false := by
            cases hbb : isHash t[k]
            · rfl
            · exact absurd (hcls.2.1.2 hbb) h2
          rw [gap_none hb hh] at hg
          have e1 : decide ((c : Int) = 1) = false := by simp; omega
          have e2 : decide ((c : Int) = 2) = false := by simp; omega
          have HG2 := Lib.hid hg
          clear hg hdr hcc hcls HG hb hh
          go_wp2
          go_quiet (fail)
          go_wp2
          rw [Exit.noGoto_ret]
          go_ret
          exact ⟨by rw [← HG2.out]; rfl, n + nq, rfl⟩
    · have hg := HG.out
      rw [drop_end t k (by omega)] at hg
      have HG2 := Lib.hid hg
      clear hg HG
      go_wp2
      rw [Exit.noGoto_ret]
      go_ret
      exact ⟨by rw [← HG2.out]; rfl, n, rfl⟩
end Go.Proofs.YtlfjdohjfmfcdaaGreatDoor
