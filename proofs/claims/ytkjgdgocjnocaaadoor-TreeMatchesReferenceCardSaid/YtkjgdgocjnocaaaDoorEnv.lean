/-
  What the row lists gives the walks: the table of powers, the table of digits.
-/
import Derived.Test.YtkjgdgocjnocaaaDoorTie
import Derived.Test.YtkjgdgocjnocaaaDoorCards
import Derived.Test.YtkjgdgocjnocaaaDoorWalkList
import Derived.ProofKit
import Derived.OpenShut
import Derived.LaidMore
import Derived.Stop.LaidErr
import Derived.Deep.DeepHandedRow
import Derived.Deep.DeepWitnessRowRef
import Derived.MakeChecks
import Derived.Carry
namespace Go.Proofs.YtkjgdgocjnocaaaDoor
open Go.ChangeShapes Go.WideShapes Go.ChangeAt Go.RowKit Foyer.Digest

theorem own : ownKnob Tryd.prog.godebug = none := by kernel_rfl
theorem laidOut : laidOutB Tryd.prog = true := by kernel_rfl
/-- The list of all rows of this seat. -/
def laidAll : List (String × DataW Unit) := [("math/bits.deBruijn32tab", Rows.laid_math_bits_deBruijn32tab), ("math/bits.deBruijn64tab", Rows.laid_math_bits_deBruijn64tab), ("internal/strconv.uint64pow10", Rows.laid_internal_strconv_uint64pow10), ("foyer/digest.hexDigits", Rows.laid_foyer_digest_hexDigits)]
def hexList : List Int := [48, 49, 50, 51, 52, 53, 54, 55, 56, 57, 97, 98, 99, 100, 101, 102]

theorem gTabType : (Tryd.prog.globals[1]?).map (·.type) = some 74 := by kernel_rfl
theorem cellsTab : Tryd.prog.cellsOf 74 = 20 := by kernel_rfl
theorem cellsU : Tryd.prog.cellsOf 57 = 1 := by kernel_rfl
theorem gHex : Tryd.prog.globalNamed "foyer/digest.hexDigits" = some 0 := by kernel_rfl
theorem gHexType : (Tryd.prog.globals[0]?).map (·.type) = some 67 := by kernel_rfl
theorem cellsHex : Tryd.prog.cellsOf 67 = 16 := by kernel_rfl
theorem cellsB : Tryd.prog.cellsOf 5 = 1 := by kernel_rfl

theorem hex_of_tab {W : World} (h : Lib.TabIs Tryd.prog W "foyer/digest.hexDigits" .u8 hexList) : HexTab W := fun d hd => by
  have hc := h.cell gHex d (by exact hd)
  rw [hc]
  have e : ∀ d : Fin 16, hexList.getD d.val 0 = ((hexD d.val).toNat : Int) := by decide +kernel
  exact congrArg (fun z => some (Value.int .u8 z)) (e ⟨d, hd⟩)

theorem env_of {W : World} (h : laidMetH Tryd.prog laidAll W) (_ : W.ShapedOpen Tryd.prog) : Env W := by
  rw [MakeChecks.laidMetH_plain _ _ _ (by kernel_rfl)] at h
  have h3 := h.tail.tail
  have h6 := h3.tail
  exact ⟨Lib.tabIs_of_head gTab gTabType Tryd.underlying74 Tryd.underlying57 cellsU cellsTab h3, hex_of_tab (Lib.tabIs_of_head (zs := hexList) gHex gHexType Tryd.underlying67 Tryd.underlying5 cellsB cellsHex h6)⟩
end Go.Proofs.YtkjgdgocjnocaaaDoor
