/-
  The document's own bounds of halls and rules, as far as names go.
  The document's own bounds of rules, as far as names go.
  Halls and rules that are arguments, opened: what their cells hold.
  What the rows list gives the walks: the table of powers, and the longest length.
-/
import Derived.Test.YtilfpnkcgjonhaaGreatDoorZReads
import Derived.Deep.Slices
import Derived.Lib.SmallJoins
import Derived.Test.YtilfpnkcgjonhaaGreatDoorTie
import Derived.Test.YtilfpnkcgjonhaaGreatDoorCards
import Derived.Test.YtilfpnkcgjonhaaGreatDoorZWalkNames
import Derived.ProofKit
import Derived.OpenShut
import Derived.LaidMore
import Derived.Stop.LaidErr
import Derived.Deep.DeepHandedRow
import Derived.Deep.DeepWitnessRowRef
import Derived.MakeChecks
import Derived.Carry
namespace Go.Proofs.YtilfpnkcgjonhaaGreatDoor.Pr
open Go.RowKit Go.Sort Foyer.Printer Foyer.Lexer
def nmS (l : List UInt8) : Prop := l.length ≤ 60
def BlockZ.Short (b : BlockZ) : Prop := nmS b.name ∧ ∀ r ∈ b.rows, nmS r.name
structure LevelZ.Short (l : LevelZ) : Prop where
 name : nmS l.name
 areas : ∀ a ∈ l.areas, nmS a.name
 blocks : ∀ b ∈ l.blocks, BlockZ.Short b
def HallZ.Short (h : HallZ) : Prop := nmS h.name ∧ h.levels.length ≤ 60 ∧ ∀ l ∈ h.levels, LevelZ.Short l
def Says (e : Ending) (S : Prop) : Prop := ∃ y, e = .returned (.bool y) ∧ (y = true → S)
theorem Says.no {S : Prop} : Says (.returned (.bool false)) S := ⟨false, rfl, fun h => by cases h⟩
theorem Says.yes {S : Prop} (h : S) : Says (.returned (.bool true)) S := ⟨true, rfl, fun _ => h⟩
end Go.Proofs.YtilfpnkcgjonhaaGreatDoor.Pr
namespace Go.Proofs.YtilfpnkcgjonhaaGreatDoor.Pr
open Go.RowKit Go.Sort Foyer.Printer Foyer.Lexer
def TestZ.Short (t : TestZ) : Prop := nmS t.attr ∧ nmS t.name
structure ItemZ.Short (x : ItemZ) : Prop where
 name : nmS x.name
 conds : x.conds.length ≤ 20
 tests : ∀ l ∈ x.conds, ∀ t ∈ l, TestZ.Short t
def ShortR (l : List ItemZ) : Prop := l.length ≤ 60 ∧ ∀ x ∈ l, ItemZ.Short x
end Go.Proofs.YtilfpnkcgjonhaaGreatDoor.Pr
namespace Go.Proofs.YtilfpnkcgjonhaaGreatDoor.Pr
open Go.RowKit Go.Sort Foyer.Printer Foyer.Lexer Go.ChangeShapes Go.WideShapes
def AreaZ.Wide (a : AreaZ) : Prop := BoxZ.Fit a.box ∧ intOk a.holds
structure RowZ.Wide (r : RowZ) : Prop where
 x : intOk r.x
 y : intOk r.y
 first : intOk r.first
 last : intOk r.last
 step : intOk r.step
 marks : ∀ m ∈ r.marks, MarkZ.Fit m
def BlockZ.Wide (b : BlockZ) : Prop := ∀ r ∈ b.rows, RowZ.Wide r
structure LevelZ.Wide (l : LevelZ) : Prop where
 height : intOk l.height
 blocks : ∀ x ∈ l.blocks, BlockZ.Wide x
 areas : ∀ x ∈ l.areas, AreaZ.Wide x
 aisles : ∀ x ∈ l.aisles, BoxZ.Fit x
 pillars : ∀ x ∈ l.pillars, BoxZ.Fit x
 doors : ∀ x ∈ l.doors, PointZ.Fit x
def HallZ.Wide (h : HallZ) : Prop := PointZ.Fit h.stage ∧ ∀ l ∈ h.levels, LevelZ.Wide l
def TestZ.Wide (t : TestZ) : Prop := intOk t.op ∧ intOk t.n
structure ItemZ.Wide (x : ItemZ) : Prop where
 kind : intOk x.kind
 conds : ∀ l ∈ x.conds, ∀ t ∈ l, TestZ.Wide t
 n : intOk x.n
 r : RatioZ.Fit x.r
 s : RatioZ.Fit x.s
def WideR (l : List ItemZ) : Prop := ∀ x ∈ l, ItemZ.Wide x
theorem nmOk_of {l : List UInt8} (h : nmS l) : nmOk l := Nat.le_trans h (by decide)
theorem HallZ.fit {h : HallZ} (hw : HallZ.Wide h) (hs : HallZ.Short h) : HallZ.Fit h :=
 ⟨nmOk_of hs.1, hw.1, fun l hl => ⟨nmOk_of (hs.2.2 l hl).name, (hw.2 l hl).height,
  fun b hb => ⟨nmOk_of ((hs.2.2 l hl).blocks b hb).1, fun r hr => ⟨nmOk_of (((hs.2.2 l hl).blocks b hb).2 r hr), ((hw.2 l hl).blocks b hb r hr).x, ((hw.2 l hl).blocks b hb r hr).y, ((hw.2 l hl).blocks b hb r hr).first, ((hw.2 l hl).blocks b hb r hr).last, ((hw.2 l hl).blocks b hb r hr).step, ((hw.2 l hl).blocks b hb r hr).marks⟩⟩,
  fun a ha => ⟨nmOk_of ((hs.2.2 l hl).areas a ha), ((hw.2 l hl).areas a ha).1, ((hw.2 l hl).areas a ha).2⟩,
  (hw.2 l hl).aisles, (hw.2 l hl).pillars, (hw.2 l hl).doors⟩⟩
def Op {α : Type} (K : Look α) (F : α → Prop) (t : TypeId) : Prop :=
 ∀ {H : Type} (enc : TypeId × Value → H) (W : World) (spare : Nat → Bool) (held : Bool) (fuel : Nat) (cs : List Value) (x : DataW H × List MemPlace),
  DataW.trod enc Tryz.prog W 0 spare held fuel t cs = some x → ∃ a, K.is W W.heap.size cs a ∧ F a
def OpL {α : Type} (K : Look α) (F : α → Prop) (t : TypeId) : Prop :=
 ∀ {H : Type} (enc : TypeId × Value → H) (W : World) (spare : Nat → Bool) (held : Bool) (fuel : Nat) (cs : List Value) (x : DataW H × List MemPlace),
  DataW.trod enc Tryz.prog W 0 spare held fuel t cs = some x → ∃ v xs, cs = [v] ∧ Lk K W W.heap.size v xs ∧ ∀ y ∈ xs, F y
section
variable {H : Type} {enc : TypeId × Value → H} {W : World} {spare : Nat → Bool} {held : Bool} {n i o : Nat} {cs : List Value} {xs : List (DataW H × List MemPlace)}
end
def ratioZC (r : RatioZ) : List Value := [.int .i64 r.num, .int .i64 r.den]
def ratioL : Look RatioZ := plainL ratioZC 2 (fun _ => rfl) (fun a u hu => by simp only [ratioZC, List.mem_cons, List.not_mem_nil, or_false] at hu; rcases hu with rfl | rfl <;> rfl)
end Go.Proofs.YtilfpnkcgjonhaaGreatDoor.Pr
namespace Go.Proofs.YtilfpnkcgjonhaaGreatDoor.Pr
open Go.ChangeShapes Go.WideShapes Go.ChangeAt Go.RowKit
theorem own : ownKnob Tryz.prog.godebug = none := by kernel_rfl
theorem laidOut : laidOutB Tryz.prog = true := by kernel_rfl
def laidAll : List (String × DataW Unit) := [("math/bits.deBruijn32tab", Rows.laid_math_bits_deBruijn32tab), ("math/bits.deBruijn64tab", Rows.laid_math_bits_deBruijn64tab), ("internal/strconv.uint64pow10", Rows.laid_internal_strconv_uint64pow10), ("unicode/utf8.acceptRanges", Rows.laid_unicode_utf8_acceptRanges), ("strconv.ErrRange", Rows.laid_strconv_ErrRange), ("strconv.ErrSyntax", Rows.laid_strconv_ErrSyntax), ("unicode/utf8.first", Rows.laid_unicode_utf8_first)]
theorem gTabType : (Tryz.prog.globals[1]?).map (·.type) = some 248 := by kernel_rfl
theorem cellsTab : Tryz.prog.cellsOf 248 = 20 := by kernel_rfl
theorem cellsU : Tryz.prog.cellsOf 114 = 1 := by kernel_rfl
theorem env_of {W : World} (h : laidMetH Tryz.prog laidAll W) (hsh : W.ShapedOpen Tryz.prog) : Env W := by
 rw [MakeChecks.laidMetH_plain _ _ _ (by kernel_rfl)] at h
 have h3 := h.tail.tail
 exact ⟨Lib.tabIs_of_head gTab gTabType Tryz.underlying248 Tryz.underlying114 cellsU cellsTab h3, Tryz.laysM147.s1_3 W hsh⟩
end Go.Proofs.YtilfpnkcgjonhaaGreatDoor.Pr
