/-
  The walks of the functions of digest that compute with numbers: mixing, the padded byte.
-/
import Derived.Test.YtkjgdgocjnocaaaDoorBase
import Derived.Test.YtkjgdgocjnocaaaDoorMathForm
import Derived.Laws.BitsAll
namespace Go.Proofs.YtkjgdgocjnocaaaDoor
open Go.RowKit Foyer.Digest

theorem mix_bits (x : Nat) (h : x < big) :
    bits .xor .u64 (IntKind.u64.wrap (bits .xor .u64 (IntKind.u64.wrap (bits .xor .u64 (x : Int) ((x : Int) / 4294967296) * 11400714819323198485)) (IntKind.u64.wrap (bits .xor .u64 (x : Int) ((x : Int) / 4294967296) * 11400714819323198485) / 536870912) * 13787848793156543929))
      (IntKind.u64.wrap (bits .xor .u64 (IntKind.u64.wrap (bits .xor .u64 (x : Int) ((x : Int) / 4294967296) * 11400714819323198485)) (IntKind.u64.wrap (bits .xor .u64 (x : Int) ((x : Int) / 4294967296) * 11400714819323198485) / 536870912) * 13787848793156543929) / 4294967296) = ((mix x : Nat) : Int) := by
  have e1 : IntKind.u64.wrap (bits .xor .u64 (x : Int) ((x : Int) / 4294967296) * 11400714819323198485) = ((xs 32 x * c1 % big : Nat) : Int) := mixStep_u64 x 4294967296 11400714819323198485 h
  rw [e1]
  have e2 : IntKind.u64.wrap (bits .xor .u64 ((xs 32 x * c1 % big : Nat) : Int) (((xs 32 x * c1 % big : Nat) : Int) / 536870912) * 13787848793156543929) = ((xs 29 (xs 32 x * c1 % big) * c2 % big : Nat) : Int) := mixStep_u64 _ 536870912 13787848793156543929 (mul_lt _ _)
  rw [e2]
  exact xorShift_u64 _ 4294967296 (mul_lt _ _)

theorem mix_any (x : Nat) (h : x < big) (w : World) :
    Calls Tryd.prog 47 #[.int .u64 x] w fun e w' => e = .returned (.int .u64 (mix x)) ∧ w = w' := by
  have HM := Lib.hid (mix_bits x h)
  clear h
  go_enter Tryd.func47, Tryd.ntmps47
  go_wp2
  go_ret
  exact ⟨by rw [← HM.out]; rfl, rfl⟩

theorem pad_any (t : ByteArray) (i : Nat) (B : Nat) (w : World) (hc : w.cell? ⟨B, 0, none⟩ = some (.string t)) :
    Calls Tryd.prog 46 #[.int .i64 i, .pointer (some ⟨B, 0, none⟩)] w fun e w' => e = .returned (.int .u64 (padded t.data.toList i)) ∧ w = w' := by
  by_cases hlt : i < t.size
  · have hp : padded t.data.toList i = t[i].toNat := by
      unfold padded
      rw [if_pos (by simpa using hlt), List.getD_eq_getElem?_getD, List.getElem?_eq_getElem (by simpa using hlt)]; rfl
    have hw : IntKind.u64.wrap (t[i].toNat : Int) = (t[i].toNat : Int) := by
      rw [IntKind.wrap_u64]; have := t[i].toNat_lt; omega
    have HP := Lib.hid hp; have HW := Lib.hid hw; clear hp hw
    go_enter Tryd.func46, Tryd.ntmps46
    go_wp2
    go_ret
    exact ⟨by rw [HP.out]; exact congrArg (fun z => Ending.returned (Value.int .u64 z)) HW.out, rfl⟩
  · by_cases he : i = t.size
    · have hp : padded t.data.toList i = 1 := by
        unfold padded; rw [if_neg (by simpa using hlt), if_pos (by simpa using he)]
      have HP := Lib.hid hp; clear hp
      have heq : ((i : Int) == (t.size : Int)) = true := by simp [he]
      have He := Lib.hid he; clear he
      go_enter Tryd.func46, Tryd.ntmps46
      go_wp2
      go_ret
      exact ⟨by rw [HP.out]; rfl, rfl⟩
    · have hp : padded t.data.toList i = 0 := by
        unfold padded; rw [if_neg (by simpa using hlt), if_neg (by simpa using he)]
      have HP := Lib.hid hp; clear hp
      have heq : ((i : Int) == (t.size : Int)) = false := by simp; omega
      have He := Lib.hid he; clear he
      go_enter Tryd.func46, Tryd.ntmps46
      go_wp2
      go_ret
      exact ⟨by rw [HP.out]; rfl, rfl⟩
end Go.Proofs.YtkjgdgocjnocaaaDoor
