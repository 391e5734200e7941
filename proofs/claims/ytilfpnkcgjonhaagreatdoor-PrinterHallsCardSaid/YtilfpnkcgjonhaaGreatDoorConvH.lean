/-
  What plan.Parse makes, in the terms in which halls are read.
-/
import Derived.Test.YtilfpnkcgjonhaaGreatDoorPlB
import Derived.Test.YtilfpnkcgjonhaaGreatDoorRdPlan
import Derived.Test.YtilfpnkcgjonhaaGreatDoorReads
namespace Go.Proofs.YtilfpnkcgjonhaaGreatDoor.Pr
open Go.RowKit Go.Sort Foyer.Printer Foyer.Lexer

/-! ### Halls -/
theorem plan_list {α β : Type} {K : Pl.Kind α} {L : Look β} {g : α → β} (hs : K.size = L.size) (hk : ∀ (W : World) (F : Nat → Prop) c a, K.is W F c a → L.is W W.heap.size c (g a))
    {W : World} {F : Nat → Prop} {T : TypeId} {v : Value} {xs : List α} (h : Pl.IsList K W F T v xs) : Lk L W W.heap.size v (xs.map g) := by
  obtain ⟨css, h1, _, h3⟩ := h
  have hl : css.length = xs.length := Pl.All2.length h3
  rcases h1.form with ⟨rfl, rfl⟩ | ⟨b, cap, cur, rfl, _, hg, _, hcap, hmax, hcell⟩
  · have : xs = [] := List.length_eq_zero_iff.1 hl.symm
    subst this
    exact ⟨none, 0, rfl, Nat.le_refl _, Nat.zero_le _, Or.inl rfl⟩
  · refine ⟨_, cap, by rw [List.length_map, hl], by rw [List.length_map]; omega, hmax, Or.inr ⟨b, 0, rfl, hg, fun i x hx => ?_⟩⟩
    rw [List.getElem?_map] at hx
    cases hy : xs[i]? with
    | none => rw [hy] at hx; cases hx
    | some y =>
      rw [hy] at hx
      obtain rfl : g y = x := Option.some.inj hx
      obtain ⟨c, hc, hi⟩ := Pl.All2.at h3 hy
      exact ⟨c, hk W F c y hi, fun j u hj => by rw [Nat.zero_add, ← hs]; exact hcell i c j u hc hj⟩
theorem row_conv (W : World) (F : Nat → Prop) (c : List Value) (r : Foyer.Plan.RowP) (h : Pl.rowK.is W F c r) : rowL.is W W.heap.size c (rowOf r) := by
  obtain ⟨v, rfl, h⟩ := h
  exact ⟨v, rfl, plan_list (K := Pl.markK) (L := markL) (g := markOf) rfl (fun _ _ _ _ h => h) h⟩
theorem block_conv (W : World) (F : Nat → Prop) (c : List Value) (r : Foyer.Plan.BlockP) (h : Pl.blockK.is W F c r) : blockL.is W W.heap.size c (blockOf r) := by
  obtain ⟨v, rfl, h⟩ := h
  exact ⟨v, rfl, plan_list (K := Pl.rowK) (L := rowL) (g := rowOf) rfl row_conv h⟩
theorem level_conv (W : World) (F : Nat → Prop) (c : List Value) (l : Foyer.Plan.LevelP) (h : Pl.levelK.is W F c l) : levelL.is W W.heap.size c (levelOf l) := by
  obtain ⟨v1, v2, v3, v4, v5, h⟩ := h
  obtain rfl := h.cells
  exact ⟨v1, v2, v3, v4, v5, rfl, ⟨plan_list (K := Pl.blockK) (L := blockL) (g := blockOf) rfl block_conv h.blocks, plan_list (K := Pl.areaK) (L := areaL) (g := areaOf) rfl (fun _ _ _ _ h => h) h.areas,
    plan_list (K := Pl.boxK) (L := boxL) (g := boxOf) rfl (fun _ _ _ _ h => h) h.aisles, plan_list (K := Pl.boxK) (L := boxL) (g := boxOf) rfl (fun _ _ _ _ h => h) h.pillars,
    plan_list (K := Pl.pointK) (L := pointL) (g := pointOf) rfl (fun _ _ _ _ h => h) h.doors⟩⟩
/-- What plan.Parse returns. -/
def HallV (x : Foyer.Plan.HallP × Nat × Int) (e : Ending) (w' : World) : Prop :=
  ∃ q n cap, e = .returned (.tuple #[.agg #[.string ⟨(hallOf x.1).name.toArray⟩, .int .i64 (hallOf x.1).stage.x, .int .i64 (hallOf x.1).stage.y, .slice q n cap], .int .i64 (x.2.1 : Nat), .int .i64 x.2.2]) ∧ Lk levelL w' w'.heap.size (.slice q n cap) (hallOf x.1).levels
theorem plan_h (t : ByteArray) (ht : t.size ≤ 1000000) (x : Foyer.Plan.HallP × Nat × Int) (hx : Foyer.Plan.parseAll t.data.toList = x) (w : World) :
    Calls Tryz.prog 18 #[.string t] w fun e w' => HallV x e w' ∧ Below w.heap.size w w' := by
  refine (Pl.plan_any t ht w).mono ?_
  rintro e w' ⟨⟨c, rfl, v, rfl, hv⟩, hb⟩
  rw [hx] at hv ⊢
  have hl := plan_list (K := Pl.levelK) (L := levelL) (g := levelOf) rfl level_conv hv
  obtain ⟨q, cap, rfl⟩ := hl.slice
  exact ⟨⟨q, _, cap, rfl, hl⟩, hb⟩

end Go.Proofs.YtilfpnkcgjonhaaGreatDoor.Pr
