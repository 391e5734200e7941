/-
  The document's own words on bytes: letters, digits, parts of names, and whether a text has a byte.
-/
import Derived.Test.YtlfjdohjfmfcdaaGreatDoorSrc
namespace Go.Proofs.YtlfjdohjfmfcdaaGreatDoor
open Go.RowKit Foyer.Lexer

set_option maxRecDepth 100000 in
theorem rletter_nat (c : Nat) (y : Bool) (hy : ((decide (97 ≤ c) && decide (c ≤ 122)) || (decide (65 ≤ c) && decide (c ≤ 90))) = y) (w : World) :
    Calls Tryz.prog 40 #[.int .u8 c] w fun e w' => e = .returned (.bool y) ∧ w = w' := by
  by_cases h1 : 97 ≤ c
  · by_cases h2 : c ≤ 122
    · have : y = true := by rw [← hy]; simp; omega
      subst this
      have HY := Lib.hid hy; clear hy
      go_enter Tryz.func40, Tryz.ntmps40
      go_wp2
      go_ret
      exact ⟨rfl, rfl⟩
    · have : y = false := by rw [← hy]; simp; omega
      subst this
      have HY := Lib.hid hy; clear hy
      have d2 : decide ((c : Int) ≤ 122) = false := by simp; omega
      have d3 : 65 ≤ c := by omega
      have d4 : decide ((c : Int) ≤ 90) = false := by simp; omega
      go_enter Tryz.func40, Tryz.ntmps40
      go_wp2
      go_ret
      exact ⟨rfl, rfl⟩
  · have d1 : decide (97 ≤ (c : Int)) = false := by simp; omega
    by_cases h3 : 65 ≤ c
    · by_cases h4 : c ≤ 90
      · have : y = true := by rw [← hy]; simp; omega
        subst this
        have HY := Lib.hid hy; clear hy
        have d4 : decide ((c : Int) ≤ 90) = true := by simp; omega
        go_enter Tryz.func40, Tryz.ntmps40
        go_wp2
        go_ret
        exact ⟨rfl, rfl⟩
      · have : y = false := by rw [← hy]; simp; omega
        subst this
        have HY := Lib.hid hy; clear hy
        have d4 : decide ((c : Int) ≤ 90) = false := by simp; omega
        go_enter Tryz.func40, Tryz.ntmps40
        go_wp2
        go_ret
        exact ⟨rfl, rfl⟩
    · have : y = false := by rw [← hy]; simp; omega
      subst this
      have HY := Lib.hid hy; clear hy
      have d3 : decide (65 ≤ (c : Int)) = false := by simp; omega
      go_enter Tryz.func40, Tryz.ntmps40
      go_wp2
      go_ret
      exact ⟨rfl, rfl⟩
theorem rletter_any (b : UInt8) (w : World) : Calls Tryz.prog 40 #[.int .u8 (b.toNat : Nat)] w fun e w' => e = .returned (.bool (isLetter b)) ∧ w = w' := rletter_nat b.toNat _ rfl w

set_option maxRecDepth 100000 in
theorem rdigitc_nat (c : Nat) (y : Bool) (hy : (decide (48 ≤ c) && decide (c ≤ 57)) = y) (w : World) :
    Calls Tryz.prog 42 #[.int .u8 c] w fun e w' => e = .returned (.bool y) ∧ w = w' := by
  by_cases h1 : 48 ≤ c
  · by_cases h2 : c ≤ 57
    · have : y = true := by rw [← hy]; simp; omega
      subst this
      have HY := Lib.hid hy; clear hy
      have d2 : decide ((c : Int) ≤ 57) = true := by simp; omega
      go_enter Tryz.func42, Tryz.ntmps42
      go_wp2
      go_ret
      exact ⟨rfl, rfl⟩
    · have : y = false := by rw [← hy]; simp; omega
      subst this
      have HY := Lib.hid hy; clear hy
      have d2 : decide ((c : Int) ≤ 57) = false := by simp; omega
      go_enter Tryz.func42, Tryz.ntmps42
      go_wp2
      go_ret
      exact ⟨rfl, rfl⟩
  · have : y = false := by rw [← hy]; simp; omega
    subst this
    have HY := Lib.hid hy; clear hy
    have d1 : decide (48 ≤ (c : Int)) = false := by simp; omega
    go_enter Tryz.func42, Tryz.ntmps42
    go_wp2
    go_ret
    exact ⟨rfl, rfl⟩
theorem rdigitc_any (b : UInt8) (w : World) : Calls Tryz.prog 42 #[.int .u8 (b.toNat : Nat)] w fun e w' => e = .returned (.bool (isDigit b)) ∧ w = w' := rdigitc_nat b.toNat _ rfl w

set_option maxRecDepth 100000 in
theorem rword_any (b : UInt8) (w : World) : Calls Tryz.prog 41 #[.int .u8 (b.toNat : Nat)] w fun e w' => e = .returned (.bool (isWord b)) ∧ w = w' := by
  have h1 := fun w => rletter_any b w
  have h2 := fun w => rdigitc_any b w
  obtain ⟨c, hc⟩ : ∃ c, b.toNat = c := ⟨_, rfl⟩
  obtain ⟨y, hy⟩ : ∃ y, isWord b = y := ⟨_, rfl⟩
  obtain ⟨y1, hy1⟩ : ∃ y, isLetter b = y := ⟨_, rfl⟩
  obtain ⟨y2, hy2⟩ : ∃ y, isDigit b = y := ⟨_, rfl⟩
  have he : (y1 || y2 || decide (c = 95)) = y := by rw [← hy, ← hy1, ← hy2, ← hc]; rfl
  rw [hc, hy1] at h1
  rw [hc, hy2] at h2
  rw [hc, hy]
  have H1 := Lib.hid h1; have H2 := Lib.hid h2
  clear h1 h2 hy hy1 hy2 hc
  cases y1
  · cases y2
    · by_cases h95 : c = 95
      · have : y = true := by rw [← he]; simp [h95]
        subst this
        clear he
        have e1 : ((c : Int) == 95) = true := by simp [h95]
        have HH := Lib.hid h95; clear h95
        go_enter Tryz.func41, Tryz.ntmps41
        go_wp2_with fail
        refine (H1.out _).mono ?_; rintro e w1 ⟨rfl, rfl⟩
        go_wp2_with fail
        refine (H2.out _).mono ?_; rintro e w1 ⟨rfl, rfl⟩
        go_wp2
        go_ret
        exact ⟨rfl, rfl⟩
      · have : y = false := by rw [← he]; simp [h95]
        subst this
        clear he
        have e1 : ((c : Int) == 95) = false := by simp; omega
        have HH := Lib.hid h95; clear h95
        go_enter Tryz.func41, Tryz.ntmps41
        go_wp2_with fail
        refine (H1.out _).mono ?_; rintro e w1 ⟨rfl, rfl⟩
        go_wp2_with fail
        refine (H2.out _).mono ?_; rintro e w1 ⟨rfl, rfl⟩
        go_wp2
        go_ret
        exact ⟨rfl, rfl⟩
    · have : y = true := by rw [← he]; simp
      subst this
      clear he
      go_enter Tryz.func41, Tryz.ntmps41
      go_wp2_with fail
      refine (H1.out _).mono ?_; rintro e w1 ⟨rfl, rfl⟩
      go_wp2_with fail
      refine (H2.out _).mono ?_; rintro e w1 ⟨rfl, rfl⟩
      go_wp2
      go_ret
      exact ⟨rfl, rfl⟩
  · have : y = true := by rw [← he]; simp
    subst this
    clear he
    go_enter Tryz.func41, Tryz.ntmps41
    go_wp2_with fail
    refine (H1.out _).mono ?_; rintro e w1 ⟨rfl, rfl⟩
    go_wp2
    go_ret
    exact ⟨rfl, rfl⟩

/-- Has a text a byte? -/
def hasB (s : ByteArray) (b : UInt8) : Bool := s.data.toList.contains b
set_option maxRecDepth 100000 in
set_option maxHeartbeats 1000000 in
theorem rhas_any (s : ByteArray) (hs : s.size ≤ 1000) (b : UInt8) (w : World) :
    Calls Tryz.prog 39 #[.string s, .int .u8 (b.toNat : Nat)] w fun e w' => e = .returned (.bool (hasB s b)) ∧ w = w' := by
  obtain ⟨y, hy⟩ : ∃ y, hasB s b = y := ⟨_, rfl⟩
  rw [hy]
  have hyes : ∀ k (h : k < s.size), s[k].toNat = b.toNat → y = true := fun k h e => by
    rw [← hy]
    unfold hasB
    have : s[k] = b := by rw [← UInt8.toNat_inj]; exact e
    rw [List.contains_iff_mem, ← this]
    have hl : k < s.data.toList.length := by simpa using h
    have e2 : s[k] = s.data.toList[k] := by simp [ByteArray.getElem_eq_getElem_data]
    rw [e2]; exact List.getElem_mem hl
  have hno : (∀ k (h : k < s.size), s[k].toNat ≠ b.toNat) → y = false := fun h => by
    rw [← hy]
    unfold hasB
    rw [← Bool.not_eq_true, List.contains_iff_mem]
    intro hm
    obtain ⟨k, hk, e⟩ := List.getElem_of_mem hm
    have hk2 : k < s.size := by simpa using hk
    refine h k hk2 ?_
    have e2 : s[k] = s.data.toList[k] := by simp [ByteArray.getElem_eq_getElem_data]
    rw [e2, e]
  obtain ⟨c, hc⟩ : ∃ c, b.toNat = c := ⟨_, rfl⟩
  rw [hc] at hyes hno ⊢
  have HY := Lib.hid hyes; have HN := Lib.hid hno
  clear hy hyes hno hc
  go_enter Tryz.func39, Tryz.ntmps39
  go_wp2
  go_loopw [5] (fun i wr => ∃ k : Nat, i = .int .i64 k ∧ k ≤ s.size ∧ w = wr ∧ Hid (∀ j (h : j < s.size), j < k → s[j].toNat ≠ c)) (fun i _ => s.size - (intOf i).toNat)
  case atStart => exact ⟨0, rfl, Nat.zero_le _, rfl, Lib.hid (fun j _ h => by omega)⟩
  case round =>
    obtain ⟨k, rfl, hk, rfl, HK⟩ := hrel
    by_cases hlt : k < s.size
    · by_cases he : s[k].toNat = c
      · have : y = true := HY.out k hlt he
        subst this
        have e1 : (((s[k].toNat : Nat) : Int) == (c : Int)) = true := by simp [he]
        have HE := Lib.hid he; clear he
        go_wp2
        go_ret
        exact ⟨rfl, rfl⟩
      · have e1 : (((s[k].toNat : Nat) : Int) == (c : Int)) = false := by simp; omega
        have HE := Lib.hid he; clear he
        go_wp2
        go_roundw
        case rel => exact ⟨k + 1, by go_num, by omega, trivial, Lib.hid (fun j h h2 => by
          rcases Nat.lt_or_ge j k with h3 | h3
          · exact HK.out j h h3
          · obtain rfl : j = k := by omega
            exact HE.out)⟩
        case measure => simp [intOf]; omega
    · have : y = false := HN.out fun j h => HK.out j h (by omega)
      subst this
      go_wp2
      go_ret
      exact ⟨rfl, rfl⟩
end Go.Proofs.YtlfjdohjfmfcdaaGreatDoor
