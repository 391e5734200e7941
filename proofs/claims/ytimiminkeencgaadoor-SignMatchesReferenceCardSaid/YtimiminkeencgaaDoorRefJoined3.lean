/-
  The document's own numerals and joined texts of layer 3, and the starts of chains.
-/
import Derived.Test.YtimiminkeencgaaDoorWalkLinks
import Derived.BigQuiet
namespace Go.Proofs.YtimiminkeencgaaDoor
open Go.RowKit Go.Sort Foyer.Digest Foyer.Sign

set_option maxRecDepth 100000 in
set_option maxHeartbeats 1000000 in
theorem number_any (i : Nat) (hi : i ≤ 99) (w : World) :
    Calls Tryd.prog 48 #[.int .i64 i] w fun e w' => e = .returned (.string ⟨(Lib.decDigits i).toArray⟩) ∧ ∃ n, w' = w.drewN n := by
  by_cases h10 : i < 10
  · have hsl := dig_slice ⟨i, h10⟩
    simp only at hsl
    have hsl' : (⟨#[48, 49, 50, 51, 52, 53, 54, 55, 56, 57]⟩ : ByteArray).extract i (i + 1) = ⟨#[UInt8.ofNat (48 + i)]⟩ := hsl
    have hd : Lib.decDigits i = [UInt8.ofNat (48 + i)] := dec_small h10
    rw [hd]
    clear hsl hd
    generalize UInt8.ofNat (48 + i) = y at *
    go_enter Tryd.func48, Tryd.ntmps48
    go_wp2
    go_ret
    exact ⟨rfl, 0, rfl⟩
  · obtain ⟨a, ha⟩ : ∃ a : Nat, i / 10 = a := ⟨_, rfl⟩
    obtain ⟨b, hb⟩ : ∃ b : Nat, i % 10 = b := ⟨_, rfl⟩
    have ha10 : a < 10 := by omega
    have hb10 : b < 10 := by omega
    have hs1 := dig_slice ⟨a, ha10⟩
    have hs2 := dig_slice ⟨b, hb10⟩
    simp only at hs1 hs2
    have hsl1 : (⟨#[48, 49, 50, 51, 52, 53, 54, 55, 56, 57]⟩ : ByteArray).extract a (a + 1) = ⟨#[UInt8.ofNat (48 + a)]⟩ := hs1
    have hsl2 : (⟨#[48, 49, 50, 51, 52, 53, 54, 55, 56, 57]⟩ : ByteArray).extract b (b + 1) = ⟨#[UInt8.ofNat (48 + b)]⟩ := hs2
    have hd : Lib.decDigits i = [UInt8.ofNat (48 + a), UInt8.ofNat (48 + b)] := by
      rw [dec_big h10, ha, hb, dec_small ha10]; rfl
    have happ := str_append [UInt8.ofNat (48 + a)] [UInt8.ofNat (48 + b)]
    have happ2 : (⟨#[UInt8.ofNat (48 + a)]⟩ : ByteArray) ++ ⟨#[UInt8.ofNat (48 + b)]⟩ = ⟨(Lib.decDigits i).toArray⟩ := by rw [hd]; exact happ
    have e1 : ((i : Int) / 10) = (a : Int) := by omega
    have e2 : ((i : Int) % 10) = (b : Int) := by omega
    have HAPP := Lib.hid happ2
    clear hs1 hs2 hd happ happ2
    generalize Lib.decDigits i = ds at *
    generalize UInt8.ofNat (48 + a) = x at *
    generalize UInt8.ofNat (48 + b) = y at *
    have h3 : decide ((i : Int) < 10) = false := by simp; omega
    go_enter Tryd.func48, Tryd.ntmps48
    go_wp2
    have happ := HAPP.out
    go_quiet (fail)
    go_wp2
    go_ret
    exact ⟨rfl, nq, rfl⟩

set_option maxRecDepth 100000 in
set_option maxHeartbeats 1000000 in
theorem decimal_any (n : Nat) : ∀ (_ : n ≤ 1000000) (w : World),
    Calls Tryd.prog 40 #[.int .i64 n] w fun e w' => e = .returned (.string ⟨(Lib.decDigits n).toArray⟩) ∧ ∃ q, w' = w.drewN q := by
  induction n using Nat.strongRecOn with
  | _ n ih =>
    intro hn w
    by_cases h10 : n < 10
    · have hc := number_any n (by omega) w
      generalize Lib.decDigits n = ds at *
      have HC := Lib.hid hc; clear hc ih
      go_enter Tryd.func40, Tryd.ntmps40
      go_wp2_with fail
      refine (HC.out).mono ?_; rintro e w1 ⟨rfl, q, rfl⟩
      go_wp2
      go_ret
      exact ⟨rfl, q, rfl⟩
    · obtain ⟨a, ha⟩ : ∃ a : Nat, n / 10 = a := ⟨_, rfl⟩
      obtain ⟨b, hb⟩ : ∃ b : Nat, n % 10 = b := ⟨_, rfl⟩
      have h1 := fun W => ih a (by omega) (by omega) W
      have h2 := fun W => number_any b (by omega) W
      have hd : Lib.decDigits n = Lib.decDigits a ++ Lib.decDigits b := by
        rw [dec_big h10, ha, hb, dec_small (u := b) (by omega)]
      have happ : (⟨(Lib.decDigits a).toArray⟩ : ByteArray) ++ ⟨(Lib.decDigits b).toArray⟩ = ⟨(Lib.decDigits n).toArray⟩ := by rw [str_append, hd]
      have e1 : ((n : Int) / 10) = (a : Int) := by omega
      have e2 : ((n : Int) % 10) = (b : Int) := by omega
      have hl1 := dec_length a
      have hl2 := nDigits_le 6 a (by have : (10 : Nat) ^ (6 + 1) = 10000000 := by decide
                                     omega)
      have hl3 := dec_length b
      have hl4 := nDigits_le 6 b (by have : (10 : Nat) ^ (6 + 1) = 10000000 := by decide
                                     omega)
      have HL : Hid ((Lib.decDigits a).length ≤ 7 ∧ (Lib.decDigits b).length ≤ 7) := by
        show _ ∧ _; omega
      have H1 := Lib.hid h1; have H2 := Lib.hid h2; have HA := Lib.hid happ
      clear h1 h2 hd happ hl1 hl2 hl3 hl4 ih
      generalize Lib.decDigits n = ds at *
      generalize Lib.decDigits a = d1 at *
      generalize Lib.decDigits b = d2 at *
      have h3 : decide ((n : Int) < 10) = false := by simp; omega
      have hs1 : (⟨d1.toArray⟩ : ByteArray).size = d1.length := size_of_list _
      have hs2 : (⟨d2.toArray⟩ : ByteArray).size = d2.length := size_of_list _
      obtain ⟨hl1, hl2⟩ := HL.out
      go_enter Tryd.func40, Tryd.ntmps40
      go_wp2_with fail
      refine (H1.out _).mono ?_; rintro e w1 ⟨rfl, q1, rfl⟩
      go_wp2_with fail
      refine (H2.out _).mono ?_; rintro e w2 ⟨rfl, q2, rfl⟩
      have happ := HA.out
      go_wp2
      go_ret
      exact ⟨rfl, q1 + q2, rfl⟩
end Go.Proofs.YtimiminkeencgaaDoor
