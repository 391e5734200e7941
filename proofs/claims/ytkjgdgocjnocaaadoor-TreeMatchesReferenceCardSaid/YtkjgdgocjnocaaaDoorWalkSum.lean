/-
  The walk of the digest of a text.
-/
import Derived.Test.YtkjgdgocjnocaaaDoorWalkWrite
namespace Go.Proofs.YtkjgdgocjnocaaaDoor
open Go.RowKit Foyer.Digest

theorem or_step (b p k : Nat) (hb : b < 256 ^ k) (hp : p < 256) (hk : k < 8) :
    bits .or .u64 (b : Int) (IntKind.u64.wrap ((p : Int) * 2 ^ (8 * k))) = ((b + p * 256 ^ k : Nat) : Int) := by
  have e : (2 : Nat) ^ (8 * k) = 256 ^ k := by rw [Nat.pow_mul]
  have hle : 256 ^ k * 256 ≤ 256 ^ 8 := by rw [← Nat.pow_succ]; exact Nat.pow_le_pow_right (by decide) (by omega)
  have h8 : (256 : Nat) ^ 8 = 18446744073709551616 := by decide
  have hpk : p * 256 ^ k ≤ 255 * 256 ^ k := Nat.mul_le_mul_right _ (by omega)
  have hl : p * 256 ^ k < 18446744073709551616 := by have := Nat.pow_pos (n := k) (show 0 < 256 by decide); omega
  have hw : IntKind.u64.wrap ((p : Int) * 2 ^ (8 * k)) = ((p * 256 ^ k : Nat) : Int) := by
    rw [IntKind.wrap_u64, Int.natCast_mul, ← e, Int.natCast_pow]
    have : (p : Int) * 2 ^ (8 * k) = ((p * 2 ^ (8 * k) : Nat) : Int) := by rw [Int.natCast_mul, Int.natCast_pow]; rfl
    have h2 : ((p : Int) * ((2 : Nat) : Int) ^ (8 * k)) = ((p * 2 ^ (8 * k) : Nat) : Int) := this
    rw [this, h2, e]; omega
  rw [hw, u64_or_nat b (p * 256 ^ k) (by omega) hl, Nat.or_comm, nat_join (8 * k) _ _ (by rw [e]; exact Nat.mul_mod_left _ _) (by rw [e]; exact hb), Nat.add_comm]

set_option maxRecDepth 100000 in
theorem sum_any (t : ByteArray) (hs : t.size ≤ 1000000000000) (w : World) (hT : HexTab w) :
    Calls Tryd.prog 37 #[.string t] w fun e w' => e = .returned (.string ⟨(sum t.data.toList).toArray⟩) ∧ Below w.heap.size w w' := by
  have HT := Lib.hid hT; clear hT
  go_enter Tryd.func37, Tryd.ntmps37
  go_wp2
  have hcb : (w.alloc (.cells #[.string t] 9)).cell? ⟨w.heap.size, 0, none⟩ = some (.string t) := by simp
  have hbel := (Below.refl w.heap.size w).alloc (Nat.le_refl _) (.cells #[.string t] 9)
  generalize hW : w.alloc (.cells #[.string t] 9) = W at *
  have HW := Lib.hid hW; clear hW
  have HB := Lib.hid hbel; clear hbel
  go_loop [4, 5] (fun v i => ∃ n f : Nat, 8 * n ≤ t.size + 8 ∧ i = .int .i64 f ∧ v = .int .u64 ((state t.data.toList n : Nat) : Int) ∧ Hid (f = 8 * n)) (fun _ i => t.size + 8 - (intOf i).toNat)
  case atStart => exact ⟨0, 0, by omega, rfl, rfl, Lib.hid rfl⟩
  case round =>
    obtain ⟨n, f, hn, rfl, rfl, HF⟩ := hrel
    have hsl := state_lt t.data.toList n
    have HSL := Lib.hid hsl; clear hsl
    generalize hst : state t.data.toList n = st at *
    have HST := Lib.hid hst; clear hst
    by_cases hlt : f ≤ t.size
    · go_wp2
      go_loop [6, 15] (fun v i => ∃ k b : Nat, k ≤ 8 ∧ i = .int .i64 k ∧ v = .int .u64 b ∧ Hid (b = bytesN (fun k => padded t.data.toList (f + k)) k)) (fun _ i => 8 - (intOf i).toNat)
      case atStart => exact ⟨0, 0, by omega, rfl, rfl, Lib.hid rfl⟩
      case round =>
        obtain ⟨k, b, hk, rfl, rfl, HB2⟩ := hrel
        by_cases hk8 : k < 8
        · go_wp2_with fail
          have hp := pad_any t (f + k) w.heap.size W hcb
          rw [Int.natCast_add] at hp
          have HP := Lib.hid hp; clear hp
          have hpl := padded_lt t.data.toList (f + k)
          have hnext : bytesN (fun k => padded t.data.toList (f + k)) (k + 1) = b + padded t.data.toList (f + k) * 256 ^ k := by rw [HB2.out]; rfl
          have HN := Lib.hid hnext; clear hnext
          generalize padded t.data.toList (f + k) = p at *
          refine (HP.out).mono ?_; rintro e w' ⟨rfl, rfl⟩
          clear HP
          have hor := or_step b p k (by rw [HB2.out]; exact bytesN_lt (fun _ => padded_lt _ _) k) hpl hk8
          have HO := Lib.hid hor; clear hor
          go_wp2
          go_roundw
          case rel => exact ⟨k + 1, b + p * 256 ^ k, by omega, by go_num, by rw [HO.out], Lib.hid HN.out.symm⟩
          case measure => simp [intOf]; omega
        · have hk : k = 8 := by omega
          have HK := Lib.hid hk
          have hbl : b < big := by rw [HB2.out, hk]; exact bytesN_lt (fun _ => padded_lt _ _) 8
          have hxl := xor_lt HSL.out hbl
          have hxor := bits_xor_u64_nat st b HSL.out hbl
          have hnext : mix (st ^^^ b) = state t.data.toList (n + 1) := by rw [state_step, HST.out, HB2.out, hk, ← HF.out]; rfl
          have HX := Lib.hid hxl; have HN := Lib.hid hnext; have HXO := Lib.hid hxor; clear hxl hnext hbl hxor hk
          go_wp2_with fail
          rw [HXO.out]
          refine (mix_any _ HX.out _).mono ?_; rintro e w' ⟨rfl, rfl⟩
          go_wp2
          go_roundw
          case rel => exact ⟨n + 1, f + 8, by have := HF.out; omega, by go_num, by rw [HN.out], Lib.hid (by have := HF.out; omega)⟩
          case measure => simp [intOf]; omega
    · have hc : sum t.data.toList = hexN 16 st := by
        have hf := HF.out
        have : count t.data.toList = n := by
          unfold count
          have : t.data.toList.length = t.size := by simp
          omega
        unfold sum; rw [this, HST.out]
      have HC := Lib.hid hc; clear hc
      have HT' : Hid (HexTab W) := fun d hd => by
        have h1 := HT.out d hd
        rw [HB.out.cell (lt_of_cell h1)]; exact h1
      go_wp2_with fail
      refine (write_any _ HSL.out _ HT'.out).mono ?_; rintro e w2 ⟨rfl, hb2⟩
      have HB2 := Lib.hid (HB.out.trans (hb2.mono HB.out.size)); clear hb2
      go_wp2
      go_ret
      exact ⟨by rw [HC.out]; rfl, HB2.out⟩
end Go.Proofs.YtkjgdgocjnocaaaDoor
