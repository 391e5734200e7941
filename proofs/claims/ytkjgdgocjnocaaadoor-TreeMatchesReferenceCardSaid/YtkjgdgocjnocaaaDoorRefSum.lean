/-
  The document's own mixing, digest of a text, chain, Is and Below: they return what the program's do.
-/
import Derived.Test.YtkjgdgocjnocaaaDoorRefDigit
namespace Go.Proofs.YtkjgdgocjnocaaaDoor
open Go.RowKit Go.Sort Foyer.Digest

theorem rmix_any (x : Nat) (h : x < big) (w : World) :
    Calls Tryd.prog 50 #[.int .u64 x] w fun e w' => e = .returned (.int .u64 (mix x)) ∧ w = w' := by
  have HM := Lib.hid (mix_bits x h)
  clear h
  go_enter Tryd.func50, Tryd.ntmps50
  go_wp2
  go_ret
  exact ⟨by rw [← HM.out]; rfl, rfl⟩

/-- The last bytes of a block, from byte i on. -/
def upper (f : Nat → Nat) (i : Nat) : Nat → Nat
  | 0 => 0
  | k + 1 => f i + 256 * upper f (i + 1) k
theorem upper_bytes (f : Nat → Nat) : ∀ (k i : Nat), bytesN f i + 256 ^ i * upper f i k = bytesN f (i + k)
  | 0, i => by simp [upper]
  | k + 1, i => by
    have ih := upper_bytes f k (i + 1)
    rw [show i + (k + 1) = i + 1 + k by omega, ← ih]
    simp only [upper, bytesN, Nat.pow_succ]
    rw [Nat.mul_add, Nat.mul_assoc, Nat.mul_comm (f i), ← Nat.add_assoc]
theorem upper_all (f : Nat → Nat) : upper f 0 8 = bytesN f 8 := by
  have := upper_bytes f 8 0
  simpa [bytesN] using this
theorem upper_lt {f : Nat → Nat} (hf : ∀ i, f i < 256) : ∀ (k i : Nat), upper f i k < 256 ^ k
  | 0, _ => Nat.one_pos
  | k + 1, i => by
    have h := upper_lt hf k (i + 1)
    have := hf i
    rw [Nat.pow_succ]; simp only [upper]; omega

def hex16 : ByteArray := ⟨#[48, 49, 50, 51, 52, 53, 54, 55, 56, 57, 97, 98, 99, 100, 101, 102]⟩
theorem hex_slice : ∀ n : Fin 16, hex16.extract n.val (n.val + 1) = ⟨([hexD n.val] : List UInt8).toArray⟩ := by decide +kernel
theorem hexN_front : ∀ (k s : Nat), hexN (k + 1) s = hexD (s / 16 ^ k % 16) :: hexN k s
  | 0, s => by simp [hexN]
  | k + 1, s => by
    have ih := hexN_front k (s / 16)
    rw [hexN, ih, hexN, Nat.div_div_eq_div_mul, Nat.pow_succ, Nat.mul_comm 16]; rfl

set_option maxRecDepth 100000 in
set_option maxHeartbeats 1000000 in
theorem rsum_any (t : ByteArray) (hs : t.size ≤ 1000000000000) (w : World) :
    Calls Tryd.prog 41 #[.string t] w fun e w' => e = .returned (.string ⟨(sum t.data.toList).toArray⟩) ∧ w = w' := by
  have hlen : t.data.toList.length = t.size := by simp
  have HLEN := Lib.hid hlen; clear hlen
  go_enter Tryd.func41, Tryd.ntmps41
  go_wp2
  go_loop [3, 4] (fun v i => ∃ n f : Nat, 8 * n ≤ t.size + 8 ∧ i = .int .i64 f ∧ v = .int .u64 ((state t.data.toList n : Nat) : Int) ∧ Hid (f = 8 * n)) (fun _ i => t.size + 8 - (intOf i).toNat)
  case atStart => exact ⟨0, 0, by omega, rfl, rfl, Lib.hid rfl⟩
  case round =>
    obtain ⟨n, f, hn, rfl, rfl, HF⟩ := hrel
    have hsl := state_lt t.data.toList n
    have HSL := Lib.hid hsl; clear hsl
    generalize hst : state t.data.toList n = st at *
    have HST := Lib.hid hst; clear hst
    by_cases hlt : f ≤ t.size
    · go_wp2
      go_loop [5, 6] (fun v i => ∃ (k b : Nat) (j : Int), k ≤ 8 ∧ i = .int .i64 j ∧ j + 1 = 8 - (k : Int) ∧ v = .int .u64 b ∧ Hid (b = upper (fun k => padded t.data.toList (f + k)) (8 - k) k)) (fun _ i => ((intOf i) + 1).toNat)
      case atStart => exact ⟨0, 0, 7, by omega, rfl, by omega, rfl, Lib.hid rfl⟩
      case round =>
        obtain ⟨k, b, j, hk, rfl, hj, rfl, HB2⟩ := hrel
        by_cases hk8 : k < 8
        · obtain ⟨i, hi⟩ : ∃ i : Nat, j = (i : Int) := ⟨j.toNat, by omega⟩
          subst hi
          have hb := upper_lt (f := fun k => padded t.data.toList (f + k)) (fun _ => padded_lt _ _) k (8 - k)
          rw [← HB2.out] at hb
          have hpw : 256 ^ k ≤ 256 ^ 7 := Nat.pow_le_pow_right (by decide) (by omega)
          have h7 : (256 : Nat) ^ 7 = 72057594037927936 := by decide
          have hbl : b ≤ 72057594037927935 := by omega
          have hnext : upper (fun k => padded t.data.toList (f + k)) (8 - (k + 1)) (k + 1) = padded t.data.toList (f + i) + 256 * b := by
            simp only [upper]
            rw [show 8 - (k + 1) + 1 = 8 - k by omega, ← HB2.out, show 8 - (k + 1) = i by omega]
          have HN := Lib.hid hnext; clear hnext hb hpw h7
          have hpb := padded_lt t.data.toList (f + i)
          by_cases c1 : f + i < t.size
          · have hp : padded t.data.toList (f + i) = t[f + i].toNat := by
              unfold padded
              rw [if_pos (by rw [HLEN.out]; exact c1), List.getD_eq_getElem?_getD, List.getElem?_eq_getElem (by rw [HLEN.out]; exact c1)]; rfl
            have hv : IntKind.u64.wrap ((b : Int) * 256 + IntKind.u64.wrap (t[f + i].toNat : Int)) = ((padded t.data.toList (f + i) + 256 * b : Nat) : Int) := by
              rw [hp, IntKind.wrap_u64, IntKind.wrap_u64]; have := t[f + i].toNat_lt; omega
            have HV := Lib.hid hv; clear hp hv hpb
            have hne : (((f : Int) + (i : Int)) == (t.size : Int)) = false := by simp; omega
            go_wp2
            refine ⟨⟨k + 1, _, (i : Int) - 1, by omega, rfl, by omega, congrArg (Value.int .u64) HV.out, Lib.hid HN.out.symm⟩, by simp [intOf]⟩
          · by_cases c2 : f + i = t.size
            · have hp : padded t.data.toList (f + i) = 1 := by
                unfold padded
                rw [if_neg (by rw [HLEN.out]; omega), if_pos (by rw [HLEN.out]; omega)]
              have hv : ((b : Int) * 256 + 1) = ((padded t.data.toList (f + i) + 256 * b : Nat) : Int) := by rw [hp]; omega
              have HV := Lib.hid hv; clear hp hv hpb
              have hne : (((f : Int) + (i : Int)) == (t.size : Int)) = true := by simp; omega
              have C2 := Lib.hid c2; clear c2
              go_wp2
              refine ⟨⟨k + 1, _, (i : Int) - 1, by omega, rfl, by omega, congrArg (Value.int .u64) HV.out, Lib.hid HN.out.symm⟩, by simp [intOf]⟩
            · have hp : padded t.data.toList (f + i) = 0 := by
                unfold padded
                rw [if_neg (by rw [HLEN.out]; omega), if_neg (by rw [HLEN.out]; omega)]
              have hv : ((b : Int) * 256) = ((padded t.data.toList (f + i) + 256 * b : Nat) : Int) := by rw [hp]; omega
              have HV := Lib.hid hv; clear hp hv hpb
              have hne : (((f : Int) + (i : Int)) == (t.size : Int)) = false := by simp; omega
              have C2 := Lib.hid c2; clear c2
              go_wp2
              refine ⟨⟨k + 1, _, (i : Int) - 1, by omega, rfl, by omega, congrArg (Value.int .u64) HV.out, Lib.hid HN.out.symm⟩, by simp [intOf]⟩
        · have hbb : b = bytesN (fun k => padded t.data.toList (f + k)) 8 := by
            rw [HB2.out, show k = 8 by omega]; exact upper_all _
          have hbl : b < big := by rw [hbb]; exact bytesN_lt (fun _ => padded_lt _ _) 8
          have hxl := xor_lt HSL.out hbl
          have hxor := bits_xor_u64_nat st b HSL.out hbl
          have hnext : mix (st ^^^ b) = state t.data.toList (n + 1) := by rw [state_step, HST.out, hbb, ← HF.out]; rfl
          have HX := Lib.hid hxl; have HN := Lib.hid hnext; have HXO := Lib.hid hxor; clear hxl hnext hbl hxor hbb
          go_wp2_with fail
          rw [HXO.out]
          refine (rmix_any _ HX.out _).mono ?_; rintro e w' ⟨rfl, rfl⟩
          go_wp2
          go_roundw
          case rel => exact ⟨n + 1, f + 8, by have := HF.out; omega, by go_num, by rw [HN.out], Lib.hid (by have := HF.out; omega)⟩
          case measure => simp [intOf]; omega
    · have hc : sum t.data.toList = hexN 16 st := by
        have hf := HF.out
        have : count t.data.toList = n := by
          unfold count
          have := HLEN.out
          omega
        unfold sum; rw [this, HST.out]
      have HC := Lib.hid hc; clear hc
      go_wp2
      go_loop [3, 7, 8] (fun v o i => ∃ k x : Nat, k ≤ 16 ∧ i = .int .i64 k ∧ v = .int .u64 x ∧ o = .string ⟨(hexN k st).toArray⟩ ∧ Hid (x = st / 16 ^ k)) (fun _ _ i => 16 - (intOf i).toNat)
      case atStart => exact ⟨0, st, by omega, rfl, rfl, rfl, Lib.hid (by simp)⟩
      case round =>
        obtain ⟨k, x, hk, rfl, rfl, rfl, HX⟩ := hrel
        by_cases hk16 : k < 16
        · have hfr := hexN_front k st
          rw [← HX.out] at hfr
          obtain ⟨d, hd⟩ : ∃ d : Nat, x % 16 = d := ⟨_, rfl⟩
          have hd16 : d < 16 := by rw [← hd]; exact Nat.mod_lt _ (by decide)
          have hsl := hex_slice ⟨d, hd16⟩
          simp only at hsl
          have hx2 : x / 16 = st / 16 ^ (k + 1) := by rw [HX.out, Nat.div_div_eq_div_mul, Nat.pow_succ]
          have hmod : ((x : Int) % 16) = (d : Int) := by omega
          have happ : (⟨([hexD d] : List UInt8).toArray⟩ : ByteArray) ++ ⟨(hexN k st).toArray⟩ = ⟨(hexN (k + 1) st).toArray⟩ := by
            rw [str_append, hfr, hd]; rfl
          have hd15 : (d : Int) + 1 ≤ 16 := by omega
          have hxl : (x : Int) ≤ 18446744073709551615 := by
            have h1 := Nat.div_le_self st (16 ^ k)
            have h2 := HSL.out
            have h3 := HX.out
            unfold big at h2
            omega
          clear hd
          have hln := hexN_length k st
          have hlz : (hexN k st).length ≤ 16 := by omega
          have hsl' : (⟨#[48, 49, 50, 51, 52, 53, 54, 55, 56, 57, 97, 98, 99, 100, 101, 102]⟩ : ByteArray).extract d (d + 1) = ⟨#[hexD d]⟩ := hsl
          have happ' : (⟨#[hexD d]⟩ : ByteArray) ++ ⟨(hexN k st).toArray⟩ = ⟨(hexN (k + 1) st).toArray⟩ := happ
          have HX2 := Lib.hid hx2; have HAPP := Lib.hid happ'
          clear hfr hx2 happ happ' hsl hln
          generalize hexD d = y at *
          generalize hexN k st = z at *
          go_wp2
          refine ⟨⟨k + 1, x / 16, by omega, by go_num, by go_num, congrArg Value.string HAPP.out, HX2⟩, by simp [intOf]; omega⟩
        · go_wp2
          go_ret
          exact ⟨by rw [HC.out, show 16 = k by omega]; rfl, rfl⟩
end Go.Proofs.YtkjgdgocjnocaaaDoor
