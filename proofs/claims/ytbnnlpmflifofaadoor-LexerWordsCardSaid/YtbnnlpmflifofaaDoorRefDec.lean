/-
  The document's own decimal numeral.
-/
import Derived.Test.YtbnnlpmflifofaaDoorBase
import Derived.Test.YtbnnlpmflifofaaDoorMathAll
namespace Go.Proofs.YtbnnlpmflifofaaDoor
open Go.RowKit Go.Sort Foyer.Lexer

def dig10 : ByteArray := ⟨#[48, 49, 50, 51, 52, 53, 54, 55, 56, 57]⟩
theorem dig_slice : ∀ n : Fin 10, dig10.extract n.val (n.val + 1) = ⟨([UInt8.ofNat (48 + n.val)] : List UInt8).toArray⟩ := by decide +kernel
/-- The digits in front; none of 0. -/
def front (x : Nat) : List UInt8 := if x = 0 then [] else Lib.decDigits x
theorem dec_front (x : Nat) : Lib.decDigits x = front (x / 10) ++ [UInt8.ofNat (48 + x % 10)] := by
  unfold front
  by_cases h : x < 10
  · rw [Lib.decDigits_one h, if_pos (by omega), Nat.mod_eq_of_lt h]; rfl
  · rw [if_neg (by omega)]; conv => lhs; rw [Lib.decDigits, dif_neg h]
theorem front_step (x : Nat) (h : 0 < x) : front x = front (x / 10) ++ [UInt8.ofNat (48 + x % 10)] := by
  rw [← dec_front]; unfold front; rw [if_neg (by omega)]

set_option maxRecDepth 100000 in
set_option maxHeartbeats 1000000 in
theorem rdigits_any (n : Nat) (hn : n < 10000000000) (w : World) :
    Calls Tryd.prog 25 #[.int .u64 n] w fun e w' => e = .returned (.string ⟨(Lib.decDigits n).toArray⟩) ∧ w = w' := by
  have hl := (decDigits_ten hn).2
  have hdf := dec_front n
  have HDL : Hid ((Lib.decDigits n).length ≤ 10) := hl
  obtain ⟨d, hd⟩ : ∃ d : Nat, n % 10 = d := ⟨_, rfl⟩
  have hd10 : d < 10 := by omega
  have hsl := dig_slice ⟨d, hd10⟩
  simp only at hsl
  have hsl' : (⟨#[48, 49, 50, 51, 52, 53, 54, 55, 56, 57]⟩ : ByteArray).extract d (d + 1) = ⟨#[UInt8.ofNat (48 + d)]⟩ := hsl
  have hmod : ((n : Int) % 10) = (d : Int) := by omega
  rw [hd] at hdf
  have HDF := Lib.hid hdf
  clear hl hdf hd hsl
  generalize hy : UInt8.ofNat (48 + d) = y at *
  have HY := Lib.hid hy; clear hy
  generalize hall : Lib.decDigits n = all at *
  have HALL := Lib.hid hall; clear hall
  go_enter Tryd.func25, Tryd.ntmps25
  go_wp2
  go_loop [0, 3] (fun v s => ∃ (x : Nat) (z : List UInt8), x ≤ 9999999999 ∧ v = .int .u64 x ∧ s = .string ⟨z.toArray⟩ ∧ Hid (all = front x ++ z)) (fun v _ => (intOf v).toNat)
  case atStart => exact ⟨n / 10, [y], by omega, by go_num, rfl, Lib.hid HDF.out⟩
  case round =>
    obtain ⟨x, z, hx, rfl, rfl, HZ⟩ := hrel
    have hzl : z.length ≤ 10 := by
      have h1 := HDL.out; have h2 := HZ.out
      rw [h2, List.length_append] at h1; omega
    by_cases h0 : 0 < x
    · obtain ⟨c, hc⟩ : ∃ c : Nat, x % 10 = c := ⟨_, rfl⟩
      have hc10 : c < 10 := by omega
      have hsl2 := dig_slice ⟨c, hc10⟩
      simp only at hsl2
      have hsl3 : (⟨#[48, 49, 50, 51, 52, 53, 54, 55, 56, 57]⟩ : ByteArray).extract c (c + 1) = ⟨#[UInt8.ofNat (48 + c)]⟩ := hsl2
      have hmod2 : ((x : Int) % 10) = (c : Int) := by omega
      have hnew : all = front (x / 10) ++ (UInt8.ofNat (48 + c) :: z) := by
        rw [HZ.out, front_step x h0, hc, List.append_assoc]; rfl
      have happ := str_append [UInt8.ofNat (48 + c)] z
      have HAPP : Hid ((⟨#[UInt8.ofNat (48 + c)]⟩ : ByteArray) ++ ⟨z.toArray⟩ = ⟨(UInt8.ofNat (48 + c) :: z).toArray⟩) := happ
      have HNEW := Lib.hid hnew
      clear hc hsl2 hnew happ hsl' hmod
      generalize UInt8.ofNat (48 + c) = q at *
      go_wp2
      go_round
      case rel => exact ⟨x / 10, q :: z, by omega, by go_num, congrArg Value.string HAPP.out, HNEW⟩
      case measure => simp [intOf]; omega
    · have hx0 : x = 0 := by omega
      have HE : Hid (all = z) := by show all = z; rw [HZ.out, hx0]; rfl
      subst hx0
      clear hsl' hmod
      go_wp2
      go_ret
      exact ⟨by rw [HE.out]; rfl, rfl⟩
theorem rdecimal_any (n : Nat) (hn : n < 10000000000) (w : World) :
    Calls Tryd.prog 19 #[.int .i64 n] w fun e w' => e = .returned (.string ⟨(Lib.decDigits n).toArray⟩) ∧ w = w' := by
  have hc := fun W => rdigits_any n hn W
  have HC := Lib.hid hc; clear hc
  generalize Lib.decDigits n = all at *
  go_enter Tryd.func19, Tryd.ntmps19
  go_wp2_with fail
  refine (HC.out _).mono ?_; rintro e w' ⟨rfl, rfl⟩
  go_wp2
  go_ret
  exact ⟨rfl, rfl⟩

end Go.Proofs.YtbnnlpmflifofaaDoor
