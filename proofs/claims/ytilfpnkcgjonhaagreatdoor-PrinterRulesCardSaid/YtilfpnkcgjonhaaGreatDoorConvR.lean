/-
  What rule.Parse makes, in the terms in which rules are read.
-/
import Derived.Test.YtilfpnkcgjonhaaGreatDoorRuAll
import Derived.Test.YtilfpnkcgjonhaaGreatDoorRdRule
import Derived.Test.YtilfpnkcgjonhaaGreatDoorReads
namespace Go.Proofs.YtilfpnkcgjonhaaGreatDoor.Pr
open Go.RowKit Go.Sort Foyer.Printer Foyer.Lexer

/-! ### Rules -/
theorem rule_list {α β : Type} {K : Ru.Kind α} {L : Look β} {g : α → β} (hs : K.size = L.size) (hk : ∀ (W : World) (F : Nat → Prop) c a, K.is W F c a → L.is W W.heap.size c (g a))
    {W : World} {F : Nat → Prop} {T : TypeId} {v : Value} {xs : List α} (h : Ru.IsList K W F T v xs) : Lk L W W.heap.size v (xs.map g) := by
  obtain ⟨css, h1, _, h3⟩ := h
  have hl : css.length = xs.length := Ru.All2.length h3
  rcases h1.form with ⟨rfl, rfl⟩ | ⟨b, cap, cur, rfl, _, hg, _, hcap, hmax, hcell⟩
  · have : xs = [] := List.length_eq_zero_iff.1 hl.symm
    subst this
    exact ⟨none, 0, rfl, Nat.le_refl _, Nat.zero_le _, Or.inl rfl⟩
  · refine ⟨_, cap, by rw [List.length_map, hl], by rw [List.length_map]; omega, hmax, Or.inr ⟨b, 0, rfl, hg, fun i x hx => ?_⟩⟩
    rw [List.getElem?_map] at hx
    cases hy : xs[i]? with
    | none => rw [hy] at hx; cases hx
    | some y =>
      rw [hy] at hx
      obtain rfl : g y = x := Option.some.inj hx
      obtain ⟨c, hc, hi⟩ := Ru.All2.at h3 hy
      exact ⟨c, hk W F c y hi, fun j u hj => by rw [Nat.zero_add, ← hs]; exact hcell i c j u hc hj⟩
theorem tests_conv (W : World) (F : Nat → Prop) (c : List Value) (l : List Foyer.Rule.TestP) (h : Ru.testsK.is W F c l) : testsL.is W W.heap.size c (l.map testOf) := by
  obtain ⟨v, rfl, h⟩ := h
  exact ⟨v, rfl, rule_list (K := Ru.testK) (L := testL) (g := testOf) rfl (fun _ _ _ _ h => h) h⟩
theorem item_conv (W : World) (F : Nat → Prop) (c : List Value) (x : Foyer.Rule.ItemP) (h : Ru.itemK.is W F c x) : itemL.is W W.heap.size c (itemOf x) := by
  obtain ⟨v, rfl, h⟩ := h
  exact ⟨v, rfl, rule_list (K := Ru.testsK) (L := testsL) (g := List.map testOf) rfl tests_conv h⟩
/-- What rule.Parse returns. -/
def RulesV (x : List Foyer.Rule.ItemP × Nat × Int) (e : Ending) (w' : World) : Prop :=
  ∃ q n cap, e = .returned (.tuple #[.agg #[.slice q n cap], .int .i64 (x.2.1 : Nat), .int .i64 x.2.2]) ∧ Lk itemL w' w'.heap.size (.slice q n cap) (rulesOf x.1)
theorem rule_h (t : ByteArray) (ht : t.size ≤ 1000000) (x : List Foyer.Rule.ItemP × Nat × Int) (hx : Foyer.Rule.parseAll t.data.toList = x) (w : World) :
    Calls Tryz.prog 20 #[.string t] w fun e w' => RulesV x e w' ∧ Below w.heap.size w w' := by
  refine (Ru.rule_c t ht x.1 x.2.1 x.2.2 hx w).mono ?_
  rintro e w' ⟨v, rfl, hv, hb⟩
  have hl := rule_list (K := Ru.itemK) (L := itemL) (g := itemOf) rfl item_conv hv
  obtain ⟨q, cap, rfl⟩ := hl.slice
  exact ⟨⟨q, _, cap, rfl, hl⟩, hb⟩
end Go.Proofs.YtilfpnkcgjonhaaGreatDoor.Pr
