/-
  The comparison that the remainders are sorted by: which of two places comes first.
-/
import Derived.Test.YtdjilieadhnhcaaDoorWalkNum
import Derived.Test.YtdjilieadhnhcaaDoorShelf
import Derived.StillTailTactics
import Derived.Sort.Grow
namespace Go.Proofs.YtdjilieadhnhcaaDoor
open Go.RowKit Go.Sort Foyer.Money

/-- The first of two numbers that is not 0. -/
def orS (x y : Int) : Int := if x = 0 then y else x
/-- The comparison of two places. -/
def cmpS (rs : List Int) (i j : Nat) : Int := orS (Lib.compareInt (rs.getD j 0) (rs.getD i 0)) (Lib.compareInt i j)

theorem or_two (x y : Int) (b off cap : Nat) (w : World) (h0 : w.cell? ⟨b, off, none⟩ = some (.int .i64 x)) (h1 : w.cell? ⟨b, off + 1, none⟩ = some (.int .i64 y)) :
    Calls Tryd.prog 45 #[.slice (some ⟨b, off, none⟩) 2 cap] w fun e w' => e = .returned (.int .i64 (orS x y)) ∧ w = w' := by
  go_enter Tryd.func45, Tryd.ntmps45
  go_wp2
  go_loop [8] (fun i => ∃ k : Nat, k ≤ 2 ∧ i = .int .i64 k ∧ Hid ((1 ≤ k → x = 0) ∧ (2 ≤ k → y = 0))) (fun i => 2 - (intOf i).toNat)
  case atStart => exact ⟨0, by omega, rfl, Lib.hid ⟨by omega, by omega⟩⟩
  case round =>
    obtain ⟨k, hk, rfl, HK⟩ := hrel
    have hk3 : k = 0 ∨ k = 1 ∨ k = 2 := by omega
    clear hk
    rcases hk3 with rfl | rfl | rfl
    · by_cases hx : x = 0
      · have hxb : (x != 0) = false := by simp [hx]
        have HX := Lib.hid hx; clear hx
        go_wp2
        go_round
        case rel => exact ⟨1, by omega, rfl, Lib.hid ⟨fun _ => HX.out, by omega⟩⟩
        case measure => simp [intOf]
      · have hxb : (x != 0) = true := by simp [hx]
        have HX : Hid (orS x y = x) := by show orS x y = x; unfold orS; rw [if_neg hx]
        clear hx
        go_wp2
        go_ret
        exact ⟨by rw [HX.out]; rfl, rfl⟩
    · have HX := Lib.hid (HK.out.1 (by omega)); clear HK
      by_cases hy : y = 0
      · have hyb : (y != 0) = false := by simp [hy]
        have HY := Lib.hid hy; clear hy
        go_wp2
        go_round
        case rel => exact ⟨2, by omega, rfl, Lib.hid ⟨fun _ => HX.out, fun _ => HY.out⟩⟩
        case measure => simp [intOf]
      · have hyb : (y != 0) = true := by simp [hy]
        have HO : Hid (orS x y = y) := by show orS x y = y; unfold orS; rw [if_pos HX.out]
        clear hy
        go_wp2
        go_ret
        exact ⟨by rw [HO.out]; rfl, rfl⟩
    · have HO : Hid (orS x y = 0) := by show orS x y = 0; unfold orS; rw [if_pos (HK.out.1 (by omega)), HK.out.2 (by omega)]
      go_wp2
      go_ret
      exact ⟨by rw [HO.out]; rfl, rfl⟩

set_option maxRecDepth 100000 in
/-- THE COMPARISON, in whatever world that holds the captured slice and its numbers. -/
theorem less_any (rs : List Int) (i j B rb ro cap : Nat) (W : World) (hi : i < rs.length) (hj : j < rs.length)
    (hB : W.cell? ⟨B, 0, none⟩ = some (.slice (some ⟨rb, ro, none⟩) rs.length cap))
    (hr : ∀ k, k < rs.length → W.cell? ⟨rb, ro + k, none⟩ = some (.int .i64 (rs.getD k 0))) :
    Calls Tryd.prog 44 #[.int .i64 i, .int .i64 j, .pointer (some ⟨B, 0, none⟩)] W fun e w' => e = .returned (.int .i64 (cmpS rs i j)) ∧ ∃ q os', w' = grow (W.drewN q) os' := by
  have ci := hr i hi
  have cj := hr j hj
  have hi' : (i : Int) < (rs.length : Int) := by omega
  have hj' : (j : Int) < (rs.length : Int) := by omega
  clear hr
  unfold cmpS
  generalize rs.getD i 0 = a at *
  generalize rs.getD j 0 = b at *
  go_enter Tryd.func44, Tryd.ntmps44
  go_wp2
  refine wp_region_still_tail 12 (by kernel_rfl) (by kernel_rfl) ?_
  simp only [List.take_succ_cons, List.take_zero, List.drop_succ_cons, List.drop_zero]
  iterate 8 still_step
  still_call (Tryd.cmp_Compare_int _ _ _)
  iterate 2 still_step
  still_call (Tryd.cmp_Compare_int _ _ _)
  refine wpStill_nil ?_
  change wpList _ _ _ _ _ W.drew
  generalize hx : Lib.compareInt b a = x
  generalize hy : Lib.compareInt i j = y
  have Hx := Lib.hid hx; have Hy := Lib.hid hy; clear hx hy
  go_wp2_with fail
  refine (or_two x y _ _ _ _ (by simp) (by simp)).mono ?_; rintro e w' ⟨rfl, rfl⟩
  go_wp2
  go_ret
  exact ⟨by rw [Hx.out, Hy.out]; rfl, 1, _, by rw [alloc_eq_grow]; rfl⟩
end Go.Proofs.YtdjilieadhnhcaaDoor
