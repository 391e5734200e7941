/-
  What the laws' own first steps call.
-/
import Derived.Test.YtdmancneccfgeaaHead9
import Derived.Test.YtdmancneccfgeaaLoose
import Derived.Test.YtdmancneccfgeaaStores
import Derived.Test.YtdmancneccfgeaaMathLaws
namespace Go.Proofs.Ytdmancneccfgeaa.Sg
open Go.RowKit Go.Sort Foyer.Hall Foyer.Sight Go.Proofs.Ytdmancneccfgeaa.Hl Foyer.Loose

theorem coordinate_any (n x : Int) (h0 : 0 ≤ n) (h1 : n < 65536) (hx : n % 10001 = x) (w : World) :
    Calls Try.prog 16 #[.int .u16 n] w fun e w' => e = .returned (.int .i64 x) ∧ Below w.heap.size w w' := by
  have HX := Lib.hid hx
  clear hx
  go_enter Try.func16, Try.ntmps16
  go_wp2
  go_ret
  exact ⟨by rw [HX.out]; rfl, Below.refl _ _⟩
theorem eight {l : List Int} (hl : l.length = 8) : ∃ n0 n1 n2 n3 n4 n5 n6 n7, l = [n0, n1, n2, n3, n4, n5, n6, n7] := by
  match l, hl with
  | [a, b, c, d, e, f, g, h], _ => exact ⟨a, b, c, d, e, f, g, h, rfl⟩
theorem four {l : List Int} (hl : l.length = 4) : ∃ n0 n1 n2 n3, l = [n0, n1, n2, n3] := by
  match l, hl with
  | [a, b, c, d], _ => exact ⟨a, b, c, d, rfl⟩
end Go.Proofs.Ytdmancneccfgeaa.Sg
