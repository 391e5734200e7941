/-
  What plan.Parse makes, in the terms in which halls are read.
-/
import Derived.Test.YtilfpnkcgjonhaaGreatDoorZPlB
import Derived.Test.YtilfpnkcgjonhaaGreatDoorZRdPlan
import Derived.Test.YtilfpnkcgjonhaaGreatDoorZReads
import Derived.Test.YtilfpnkcgjonhaaGreatDoorZRuAll
import Derived.Test.YtilfpnkcgjonhaaGreatDoorZRdRule
namespace Go.Proofs.YtilfpnkcgjonhaaGreatDoor.Pr
open Go.RowKit Go.Sort Foyer.Printer Foyer.Lexer
theorem plan_list {α β : Type} {K : Pl.Kind α} {L : Look β} {g : α → β} (hs : K.size = L.size) (hk : ∀ (W : World) (F : Nat → Prop) c a, K.is W F c a → L.is W W.heap.size c (g a))
  {W : World} {F : Nat → Prop} {T : TypeId} {v : Value} {xs : List α} (h : Pl.IsList K W F T v xs) : Lk L W W.heap.size v (xs.map g) := by
 obtain ⟨css, h1, _, h3⟩ := h
 have hl : css.length = xs.length := Pl.All2.length h3
 rcases h1.form with ⟨rfl, rfl⟩ | ⟨b, cap, cur, rfl, _, hg, _, hcap, hmax, hcell⟩
 ·have : xs = [] := List.length_eq_zero_iff.1 hl.symm
  subst this
  exact ⟨none, 0, rfl, Nat.le_refl _, Nat.zero_le _, Or.inl rfl⟩
 ·refine ⟨_, cap, by rw [List.length_map, hl], by rw [List.length_map]; omega, hmax, Or.inr ⟨b, 0, rfl, hg, fun i x hx => ?_⟩⟩
  rw [List.getElem?_map] at hx
  cases hy : xs[i]? with
  | none => rw [hy] at hx; cases hx
  | some y =>
   rw [hy] at hx
   obtain rfl : g y = x := Option.some.inj hx
   obtain ⟨c, hc, hi⟩ := Pl.All2.at h3 hy
   exact ⟨c, hk W F c y hi, fun j u hj => by rw [Nat.zero_add, ← hs]; exact hcell i c j u hc hj⟩
theorem row_conv (W : World) (F : Nat → Prop) (c : List Value) (r : Foyer.Plan.RowP) (h : Pl.rowK.is W F c r) : rowL.is W W.heap.size c (rowOf r) := by
 obtain ⟨v, rfl, h⟩ := h
 exact ⟨v, rfl, plan_list (K := Pl.markK) (L := markL) (g := markOf) rfl (fun _ _ _ _ h => h) h⟩
theorem block_conv (W : World) (F : Nat → Prop) (c : List Value) (r : Foyer.Plan.BlockP) (h : Pl.blockK.is W F c r) : blockL.is W W.heap.size c (blockOf r) := by
 obtain ⟨v, rfl, h⟩ := h
 exact ⟨v, rfl, plan_list (K := Pl.rowK) (L := rowL) (g := rowOf) rfl row_conv h⟩
theorem level_conv (W : World) (F : Nat → Prop) (c : List Value) (l : Foyer.Plan.LevelP) (h : Pl.levelK.is W F c l) : levelL.is W W.heap.size c (levelOf l) := by
 obtain ⟨v1, v2, v3, v4, v5, h⟩ := h
 obtain rfl := h.cells
 exact ⟨v1, v2, v3, v4, v5, rfl, ⟨plan_list (K := Pl.blockK) (L := blockL) (g := blockOf) rfl block_conv h.blocks, plan_list (K := Pl.areaK) (L := areaL) (g := areaOf) rfl (fun _ _ _ _ h => h) h.areas,
  plan_list (K := Pl.boxK) (L := boxL) (g := boxOf) rfl (fun _ _ _ _ h => h) h.aisles, plan_list (K := Pl.boxK) (L := boxL) (g := boxOf) rfl (fun _ _ _ _ h => h) h.pillars,
  plan_list (K := Pl.pointK) (L := pointL) (g := pointOf) rfl (fun _ _ _ _ h => h) h.doors⟩⟩
def HallV (x : Foyer.Plan.HallP × Nat × Int) (e : Ending) (w' : World) : Prop :=
 ∃ q n cap, e = .returned (.tuple #[.agg #[.string ⟨(hallOf x.1).name.toArray⟩, .int .i64 (hallOf x.1).stage.x, .int .i64 (hallOf x.1).stage.y, .slice q n cap], .int .i64 (x.2.1 : Nat), .int .i64 x.2.2]) ∧ Lk levelL w' w'.heap.size (.slice q n cap) (hallOf x.1).levels
theorem plan_h (t : ByteArray) (ht : t.size ≤ 1000000) (x : Foyer.Plan.HallP × Nat × Int) (hx : Foyer.Plan.parseAll t.data.toList = x) (w : World) :
  Calls Tryz.prog 18 #[.string t] w fun e w' => HallV x e w' ∧ Below w.heap.size w w' := by
 refine (Pl.plan_any t ht w).mono ?_
 rintro e w' ⟨⟨c, rfl, v, rfl, hv⟩, hb⟩
 rw [hx] at hv ⊢
 have hl := plan_list (K := Pl.levelK) (L := levelL) (g := levelOf) rfl level_conv hv
 obtain ⟨q, cap, rfl⟩ := hl.slice
 exact ⟨⟨q, _, cap, rfl, hl⟩, hb⟩
end Go.Proofs.YtilfpnkcgjonhaaGreatDoor.Pr
namespace Go.Proofs.YtilfpnkcgjonhaaGreatDoor.Pr
open Go.RowKit Go.Sort Foyer.Printer Foyer.Lexer
theorem rule_list {α β : Type} {K : Ru.Kind α} {L : Look β} {g : α → β} (hs : K.size = L.size) (hk : ∀ (W : World) (F : Nat → Prop) c a, K.is W F c a → L.is W W.heap.size c (g a))
  {W : World} {F : Nat → Prop} {T : TypeId} {v : Value} {xs : List α} (h : Ru.IsList K W F T v xs) : Lk L W W.heap.size v (xs.map g) := by
 obtain ⟨css, h1, _, h3⟩ := h
 have hl : css.length = xs.length := Ru.All2.length h3
 rcases h1.form with ⟨rfl, rfl⟩ | ⟨b, cap, cur, rfl, _, hg, _, hcap, hmax, hcell⟩
 ·have : xs = [] := List.length_eq_zero_iff.1 hl.symm
  subst this
  exact ⟨none, 0, rfl, Nat.le_refl _, Nat.zero_le _, Or.inl rfl⟩
 ·refine ⟨_, cap, by rw [List.length_map, hl], by rw [List.length_map]; omega, hmax, Or.inr ⟨b, 0, rfl, hg, fun i x hx => ?_⟩⟩
  rw [List.getElem?_map] at hx
  cases hy : xs[i]? with
  | none => rw [hy] at hx; cases hx
  | some y =>
   rw [hy] at hx
   obtain rfl : g y = x := Option.some.inj hx
   obtain ⟨c, hc, hi⟩ := Ru.All2.at h3 hy
   exact ⟨c, hk W F c y hi, fun j u hj => by rw [Nat.zero_add, ← hs]; exact hcell i c j u hc hj⟩
theorem tests_conv (W : World) (F : Nat → Prop) (c : List Value) (l : List Foyer.Rule.TestP) (h : Ru.testsK.is W F c l) : testsL.is W W.heap.size c (l.map testOf) := by
 obtain ⟨v, rfl, h⟩ := h
 exact ⟨v, rfl, rule_list (K := Ru.testK) (L := testL) (g := testOf) rfl (fun _ _ _ _ h => h) h⟩
theorem item_conv (W : World) (F : Nat → Prop) (c : List Value) (x : Foyer.Rule.ItemP) (h : Ru.itemK.is W F c x) : itemL.is W W.heap.size c (itemOf x) := by
 obtain ⟨v, rfl, h⟩ := h
 exact ⟨v, rfl, rule_list (K := Ru.testsK) (L := testsL) (g := List.map testOf) rfl tests_conv h⟩
def RulesV (x : List Foyer.Rule.ItemP × Nat × Int) (e : Ending) (w' : World) : Prop :=
 ∃ q n cap, e = .returned (.tuple #[.agg #[.slice q n cap], .int .i64 (x.2.1 : Nat), .int .i64 x.2.2]) ∧ Lk itemL w' w'.heap.size (.slice q n cap) (rulesOf x.1)
theorem rule_h (t : ByteArray) (ht : t.size ≤ 1000000) (x : List Foyer.Rule.ItemP × Nat × Int) (hx : Foyer.Rule.parseAll t.data.toList = x) (w : World) :
  Calls Tryz.prog 20 #[.string t] w fun e w' => RulesV x e w' ∧ Below w.heap.size w w' := by
 refine (Ru.rule_c t ht x.1 x.2.1 x.2.2 hx w).mono ?_
 rintro e w' ⟨v, rfl, hv, hb⟩
 have hl := rule_list (K := Ru.itemK) (L := itemL) (g := itemOf) rfl item_conv hv
 obtain ⟨q, cap, rfl⟩ := hl.slice
 exact ⟨⟨q, _, cap, rfl, hl⟩, hb⟩
end Go.Proofs.YtilfpnkcgjonhaaGreatDoor.Pr
namespace Go.Proofs.YtilfpnkcgjonhaaGreatDoor.Pr
open Go.RowKit Go.Sort Foyer.Printer Foyer.Lexer
def SmallT (t : Foyer.Lexer.Tok) : Prop := t.text.length ≤ 24 ∧ t.val < 10000000000
theorem lx_small {a : Nat} {l : List UInt8} {ts : List Foyer.Lexer.Tok} {e : Option (Nat × Nat)} (h : Lx a l ts e) : ∀ t ∈ ts, SmallT t := by
 induction h with
 | nil => simp
 | bad => simp
 | good a g T rest k v ts e h hT hr ih =>
  intro t ht
  rcases List.mem_cons.1 ht with rfl | ht
  ·rcases hT with ⟨_, hv, hl, _⟩ | ⟨_, hv, h1, hl, hd, _⟩ | ⟨_, hv, c, hc, _⟩ | ⟨_, hv, c, hc, _⟩ | ⟨_, hv, c, hc, _⟩
   ·exact ⟨hl, by show v < _; omega⟩
   ·exact ⟨by show T.length ≤ 24; omega, by show v < _; rw [hv]; exact numVal_lt hd hl⟩
   ·exact ⟨by show T.length ≤ 24; rw [hc]; simp, by show v < _; omega⟩
   ·exact ⟨by show T.length ≤ 24; rw [hc]; simp, by show v < _; omega⟩
   ·exact ⟨by show T.length ≤ 24; rw [hc]; simp, by show v < _; omega⟩
  ·exact ih t ht
theorem lexAll_small (l : List UInt8) : ∀ t ∈ (lexAll l).1, SmallT t := by
 obtain ⟨ts, e, h⟩ := lx_some 0 l
 have hs := lx_small h
 have hr := lx_raw h (l.length + 1) (by omega)
 unfold lexAll
 by_cases h2 : 20000 < l.length
 ·rw [if_pos h2]; simp
 ·rw [if_neg h2]
  simp only [hr]
  cases hd : ts.drop 5000 with
  | cons t us => simp
  | nil =>
   cases e with
   | none => exact hs
   | some x => simp
theorem nat_ok {n : Nat} (h : n < 10000000000) : intOk (n : Int) := ⟨by omega, by omega⟩
theorem nm_ok {l : List UInt8} (h : l.length ≤ 24) : nmOk l := Nat.le_trans h (by decide)
def Gd {α : Type} (p : Foyer.Plan.Par α) (P : α → Prop) : Prop := ∀ ts a r, (∀ t ∈ ts, SmallT t) → p ts = .ok a r → P a ∧ ∀ t ∈ r, SmallT t
theorem Gd.give {α : Type} {a : α} {P : α → Prop} (h : P a) : Gd (Foyer.Plan.give a) P := fun ts b r hs e => by cases e; exact ⟨h, hs⟩
theorem Gd.thn {α β : Type} {p : Foyer.Plan.Par α} {f : α → Foyer.Plan.Par β} {P : α → Prop} {Q : β → Prop} (h : Gd p P) (h' : ∀ a, P a → Gd (f a) Q) : Gd (Foyer.Plan.andThen p f) Q := fun ts b r hs e => by
 obtain ⟨a, s, h1, h2⟩ := Foyer.Plan.then_ok e
 obtain ⟨k1, k2⟩ := h ts a s hs h1
 exact h' a k1 s b r k2 h2
theorem Gd.take (q : Foyer.Lexer.Tok → Bool) : Gd (Foyer.Plan.takeP q) (fun t => SmallT t ∧ q t = true) := fun ts a r hs e => by
 obtain ⟨rfl, hq⟩ := Foyer.Plan.takeP_ok e
 exact ⟨⟨hs a List.mem_cons_self, hq⟩, fun t ht => hs t (List.mem_cons_of_mem _ ht)⟩
theorem Gd.many {α : Type} {c : List UInt8} {p : Foyer.Plan.Par α} {P : α → Prop} (h : Gd p P) : ∀ n, Gd (Foyer.Plan.many c p n) (fun xs => ∀ x ∈ xs, P x)
 | 0 => fun ts a r hs e => by cases e
 | n + 1 => fun ts a r hs e => by
  rcases Foyer.Plan.many_ways c ts with ⟨t, s, rfl, ht⟩ | hn
  ·rw [Foyer.Plan.many_close ht] at e
   cases e
   exact ⟨by simp, fun t ht => hs t (List.mem_cons_of_mem _ ht)⟩
  ·rw [Foyer.Plan.many_go hn] at e
   refine (Gd.thn h fun a ha => (Gd.many h n).thn fun xs hxs => Gd.give ?_ : Gd _ (fun xs => ∀ x ∈ xs, P x)) ts a r hs e
   intro x hx
   rcases List.mem_cons.1 hx with rfl | hx
   ·exact ha
   ·exact hxs x hx
theorem Gd.word (s : List UInt8) : Gd (Foyer.Plan.word s) (fun _ => True) := (Gd.take _).thn fun _ _ => Gd.give trivial
theorem Gd.name : Gd Foyer.Plan.nameP (fun l : List UInt8 => l.length ≤ 24) := (Gd.take _).thn fun _ ht => Gd.give (P := fun l : List UInt8 => l.length ≤ 24) ht.1.1
theorem Gd.num : Gd Foyer.Plan.num (fun n => intOk (n : Int)) := (Gd.take _).thn fun _ ht => Gd.give (P := fun n : Nat => intOk (n : Int)) (nat_ok ht.1.2)
theorem io_kind (w : List UInt8) : intOk ((Foyer.Plan.markKind w : Nat) : Int) := by
 unfold Foyer.Plan.markKind
 split
 ·exact ⟨by decide, by decide⟩
 ·split
  ·exact ⟨by decide, by decide⟩
  ·split
   ·exact ⟨by decide, by decide⟩
   ·split <;> exact ⟨by decide, by decide⟩
theorem io_nil : intOk (((0 : Nat) : Nat) : Int) := ⟨by decide, by decide⟩
theorem io_four : intOk (((4 : Nat) : Nat) : Int) := ⟨by decide, by decide⟩
theorem no_nilP : nmOk [] := by show _ ≤ _; decide
theorem gd_mark : Gd Foyer.Plan.markP (fun m => MarkZ.Fit (markOf m)) := by
 refine (Gd.take _).thn fun t _ => Gd.num.thn fun s hs => ?_
 split
 ·exact (Gd.word _).thn fun _ _ => Gd.num.thn fun o ho => Gd.give (P := fun m => MarkZ.Fit (markOf m)) ⟨io_four, hs, ho⟩
 ·exact Gd.give (P := fun m => MarkZ.Fit (markOf m)) ⟨io_kind _, hs, io_nil⟩
theorem fit_map {α β : Type} {P : β → Prop} {f : α → β} {xs : List α} (h : ∀ x ∈ xs, P (f x)) : ∀ y ∈ xs.map f, P y := fun y hy => by
 obtain ⟨x, hx, rfl⟩ := List.mem_map.1 hy
 exact h x hx
theorem gd_row : Gd Foyer.Plan.rowP (fun r => RowZ.Fit (rowOf r)) :=
 (Gd.word _).thn fun _ _ => Gd.name.thn fun _ hn => (Gd.word _).thn fun _ _ => Gd.num.thn fun _ hx => Gd.num.thn fun _ hy => (Gd.word _).thn fun _ _ => Gd.num.thn fun _ ha => (Gd.word _).thn fun _ _ => Gd.num.thn fun _ hb =>
  (Gd.word _).thn fun _ _ => Gd.num.thn fun _ hs => (Gd.many gd_mark _).thn fun _ hm => Gd.give (P := fun r => RowZ.Fit (rowOf r)) ⟨nm_ok hn, hx, hy, ha, hb, hs, fit_map hm⟩
theorem gd_block (at_ : Nat) : Gd (Foyer.Plan.blockP at_) (fun b => BlockZ.Fit (blockOf b)) :=
 Gd.name.thn fun _ hn => (Gd.word _).thn fun _ _ => (Gd.many gd_row _).thn fun _ hr => Gd.give (P := fun b => BlockZ.Fit (blockOf b)) ⟨nm_ok hn, fit_map hr⟩
theorem gd_box : Gd Foyer.Plan.boxP (fun b => BoxZ.Fit (boxOf b)) :=
 Gd.num.thn fun _ h1 => Gd.num.thn fun _ h2 => Gd.num.thn fun _ h3 => Gd.num.thn fun _ h4 => Gd.give (P := fun b => BoxZ.Fit (boxOf b)) ⟨h1, h2, h3, h4⟩
theorem gd_point : Gd Foyer.Plan.pointP (fun b => PointZ.Fit (pointOf b)) := Gd.num.thn fun _ h1 => Gd.num.thn fun _ h2 => Gd.give (P := fun b => PointZ.Fit (pointOf b)) ⟨h1, h2⟩
theorem gd_area (at_ : Nat) : Gd (Foyer.Plan.areaP at_) (fun a => AreaZ.Fit (areaOf a)) :=
 Gd.name.thn fun _ hn => gd_box.thn fun _ hb => (Gd.word _).thn fun _ _ => Gd.num.thn fun _ hh => (Gd.word _).thn fun _ _ => Gd.give (P := fun a => AreaZ.Fit (areaOf a)) ⟨nm_ok hn, hb, hh⟩
def ItemFit : Foyer.Plan.ItemP → Prop
 | .block b => BlockZ.Fit (blockOf b)
 | .area a => AreaZ.Fit (areaOf a)
 | .aisle b => BoxZ.Fit (boxOf b)
 | .pillar b => BoxZ.Fit (boxOf b)
 | .door p => PointZ.Fit (pointOf p)
theorem gd_item : Gd Foyer.Plan.itemP ItemFit := by
 refine (Gd.take _).thn fun t _ => ?_
 unfold Foyer.Plan.itemRest
 split
 ·exact (gd_block _).thn fun _ h => Gd.give (P := ItemFit) (by exact h)
 ·split
  ·exact (gd_area _).thn fun _ h => Gd.give (P := ItemFit) (by exact h)
  ·split
   ·exact gd_box.thn fun _ h => (Gd.word _).thn fun _ _ => Gd.give (P := ItemFit) (by exact h)
   ·split
    ·exact gd_box.thn fun _ h => (Gd.word _).thn fun _ _ => Gd.give (P := ItemFit) (by exact h)
    ·exact gd_point.thn fun _ h => (Gd.word _).thn fun _ _ => Gd.give (P := ItemFit) (by exact h)
theorem fit_parts : ∀ is : List Foyer.Plan.ItemP, (∀ x ∈ is, ItemFit x) → (∀ b ∈ Foyer.Plan.blocksOf is, BlockZ.Fit (blockOf b)) ∧ (∀ b ∈ Foyer.Plan.areasOf is, AreaZ.Fit (areaOf b)) ∧ (∀ b ∈ Foyer.Plan.aislesOf is, BoxZ.Fit (boxOf b)) ∧
  (∀ b ∈ Foyer.Plan.pillarsOf is, BoxZ.Fit (boxOf b)) ∧ (∀ b ∈ Foyer.Plan.doorsOf is, PointZ.Fit (pointOf b)) := by
 intro is h
 simp only [Foyer.Plan.blocksOf, Foyer.Plan.areasOf, Foyer.Plan.aislesOf, Foyer.Plan.pillarsOf, Foyer.Plan.doorsOf, List.mem_filterMap]
 refine ⟨?_, ?_, ?_, ?_, ?_⟩ <;>
  ·rintro b ⟨x, hx, e⟩
   have := h x hx
   cases x <;> first | (cases e; exact this) | cases e
theorem gd_level : Gd Foyer.Plan.levelP (fun l => LevelZ.Fit (levelOf l)) :=
 (Gd.word _).thn fun _ _ => Gd.name.thn fun _ hn => (Gd.word _).thn fun _ _ => Gd.num.thn fun _ hh => (Gd.word _).thn fun _ _ => (Gd.many gd_item _).thn fun is hi =>
  Gd.give (P := fun l => LevelZ.Fit (levelOf l)) (by
   obtain ⟨k1, k2, k3, k4, k5⟩ := fit_parts is hi
   exact ⟨nm_ok hn, hh, fit_map k1, fit_map k2, fit_map k3, fit_map k4, fit_map k5⟩)
theorem gd_hall : Gd Foyer.Plan.hallP (fun h => HallZ.Fit (hallOf h)) :=
 (Gd.word _).thn fun _ _ => Gd.name.thn fun _ hn => (Gd.word _).thn fun _ _ => Gd.num.thn fun _ hx => Gd.num.thn fun _ hy => (Gd.word _).thn fun _ _ => (Gd.many gd_level _).thn fun _ hl =>
  Gd.give (P := fun h => HallZ.Fit (hallOf h)) ⟨nm_ok hn, ⟨hx, hy⟩, fit_map hl⟩
theorem plan_fit (l : List UInt8) : HallZ.Fit (hallOf (Foyer.Plan.parseAll l).1) := by
 have h0 : HallZ.Fit (hallOf Foyer.Plan.noHall) := ⟨by show _ ≤ _; decide, ⟨⟨by decide, by decide⟩, ⟨by decide, by decide⟩⟩, fun x hx => by cases hx⟩
 unfold Foyer.Plan.parseAll
 split
 ·unfold Foyer.Plan.parseToks
  cases hp : Foyer.Plan.hallP (lexAll l).1 with
  | bad r => exact h0
  | ok a r =>
   have := (gd_hall _ _ _ (lexAll_small l) hp).1
   cases r with
   | nil => exact this
   | cons t r => exact h0
 ·exact h0
def Gr {α : Type} (p : Foyer.Rule.Par α) (P : α → Prop) : Prop := ∀ ts a r, (∀ t ∈ ts, SmallT t) → p ts = .ok a r → P a ∧ ∀ t ∈ r, SmallT t
theorem Gr.give {α : Type} {a : α} {P : α → Prop} (h : P a) : Gr (Foyer.Rule.give a) P := fun ts b r hs e => by cases e; exact ⟨h, hs⟩
theorem Gr.thn {α β : Type} {p : Foyer.Rule.Par α} {f : α → Foyer.Rule.Par β} {P : α → Prop} {Q : β → Prop} (h : Gr p P) (h' : ∀ a, P a → Gr (f a) Q) : Gr (Foyer.Rule.andThen p f) Q := fun ts b r hs e => by
 obtain ⟨a, s, h1, h2⟩ := Foyer.Rule.then_ok e
 obtain ⟨k1, k2⟩ := h ts a s hs h1
 exact h' a k1 s b r k2 h2
theorem Gr.take (q : Foyer.Lexer.Tok → Bool) : Gr (Foyer.Rule.takeP q) (fun t => SmallT t ∧ q t = true) := fun ts a r hs e => by
 obtain ⟨rfl, hq⟩ := Foyer.Rule.takeP_ok e
 exact ⟨⟨hs a List.mem_cons_self, hq⟩, fun t ht => hs t (List.mem_cons_of_mem _ ht)⟩
def SepIn (sep : Foyer.Rule.Sep) : Prop := ∀ ts r, sep ts = some r → ∀ t ∈ r, t ∈ ts
theorem sepW_in (s : List UInt8) : SepIn (Foyer.Rule.sepW s) := fun ts r e t ht => by
 cases ts with
 | nil => cases e
 | cons u v =>
  by_cases hu : u.text = s
  ·rw [Foyer.Rule.sepW_pos hu] at e; cases e; exact List.mem_cons_of_mem _ ht
  ·rw [Foyer.Rule.sepW_neg hu] at e; cases e
theorem sepL_in : SepIn Foyer.Rule.sepL := fun ts r e t ht => by
 cases ts with
 | nil => cases e
 | cons u v => cases e; exact ht
theorem Gr.ifSep {α : Type} {sep : Foyer.Rule.Sep} (hi : SepIn sep) {p q : Foyer.Rule.Par α} {P : α → Prop} (hp : Gr p P) (hq : Gr q P) : Gr (Foyer.Rule.ifSep sep p q) P := fun ts a r hs e => by
 unfold Foyer.Rule.ifSep at e
 cases h : sep ts with
 | none => rw [h] at e; exact hq ts a r hs e
 | some s => rw [h] at e; exact hp s a r (fun t ht => hs t (hi ts s h t ht)) e
theorem Gr.rest {α : Type} {sep : Foyer.Rule.Sep} (hi : SepIn sep) {p : Foyer.Rule.Par α} {P : α → Prop} (h : Gr p P) : ∀ n, Gr (Foyer.Rule.rest sep p n) (fun xs => ∀ x ∈ xs, P x)
 | 0 => Gr.ifSep hi (fun ts a r _ e => by cases e) (Gr.give (by simp))
 | n + 1 => Gr.ifSep hi (h.thn fun a ha => (Gr.rest hi h n).thn fun xs hxs => Gr.give (P := fun xs => ∀ x ∈ xs, P x) (fun x hx => (List.mem_cons.1 hx).elim (fun e => by rw [e]; exact ha) (hxs x))) (Gr.give (by simp))
theorem Gr.list {α : Type} {sep : Foyer.Rule.Sep} (hi : SepIn sep) {p : Foyer.Rule.Par α} {P : α → Prop} (h : Gr p P) (n : Nat) : Gr (Foyer.Rule.listP sep n p) (fun xs => ∀ x ∈ xs, P x) :=
 h.thn fun a ha => (Gr.rest hi h n).thn fun xs hxs => Gr.give (P := fun xs => ∀ x ∈ xs, P x) (fun x hx => (List.mem_cons.1 hx).elim (fun e => by rw [e]; exact ha) (hxs x))
theorem Gr.word (s : List UInt8) : Gr (Foyer.Rule.word s) (fun _ => True) := fun ts a r hs e => ⟨trivial, (Gr.take _ ts a r hs e).2⟩
theorem Gr.num : Gr Foyer.Rule.num (fun n => intOk (n : Int)) := (Gr.take _).thn fun _ ht => Gr.give (P := fun n : Nat => intOk (n : Int)) (nat_ok ht.1.2)
theorem io_op (w : List UInt8) : intOk ((Foyer.Rule.opOf w : Nat) : Int) := by
 have : Foyer.Rule.opOf w ≤ 6 := by
  unfold Foyer.Rule.opOf
  repeat' split
  all_goals decide
 exact ⟨by omega, by omega⟩
theorem io_head (w : List UInt8) : intOk ((Foyer.Rule.headKind w : Nat) : Int) := by
 have : Foyer.Rule.headKind w ≤ 7 := by
  unfold Foyer.Rule.headKind
  repeat' split
  all_goals decide
 exact ⟨by omega, by omega⟩
theorem gr_test : Gr Foyer.Rule.testP (fun t => TestZ.Fit (testOf t)) := by
 refine (Gr.take _).thn fun a ha => (Gr.take _).thn fun o ho => (Gr.take _).thn fun v hv => ?_
 unfold Foyer.Rule.valueTail
 split
 ·exact Gr.give (P := fun t => TestZ.Fit (testOf t)) ⟨nm_ok ha.1.1, io_op _, no_nilP, nat_ok hv.1.2⟩
 ·refine Gr.ifSep (sepW_in _) ((Gr.take _).thn fun c hc => Gr.give (P := fun t => TestZ.Fit (testOf t)) ⟨nm_ok ha.1.1, io_op _, ?_, io_nil⟩) (Gr.give (P := fun t => TestZ.Fit (testOf t)) ⟨nm_ok ha.1.1, io_op _, nm_ok hv.1.1, io_nil⟩)
  show (v.text ++ ([46] ++ c.text)).length ≤ 1000000
  have h1 := hv.1.1
  have h2 := hc.1.1
  simp only [List.length_append, List.length_singleton]
  omega
def HeadFit (h : Foyer.Rule.HeadP) : Prop := intOk (h.n : Int) ∧ intOk (h.rn : Int) ∧ intOk (h.rd : Int) ∧ intOk (h.sn : Int) ∧ intOk (h.sd : Int)
def PairFit (p : Nat × Nat) : Prop := intOk (p.1 : Int) ∧ intOk (p.2 : Int)
theorem io_one : intOk (((1 : Nat) : Nat) : Int) := ⟨by decide, by decide⟩
theorem gr_ratio : Gr Foyer.Rule.ratioP PairFit := Gr.num.thn fun _ h1 => (Gr.word _).thn fun _ _ => Gr.num.thn fun _ h2 => Gr.give (P := PairFit) ⟨h1, h2⟩
theorem gr_ratioIf (s : List UInt8) : Gr (Foyer.Rule.ratioIf s) PairFit := Gr.ifSep (sepW_in _) gr_ratio (Gr.give (P := PairFit) ⟨io_nil, io_one⟩)
theorem gr_head (k : Nat) : Gr (Foyer.Rule.headRest k) HeadFit := by
 unfold Foyer.Rule.headRest
 split
 ·exact Gr.ifSep (sepW_in _) (Gr.num.thn fun _ h => Gr.give (P := HeadFit) ⟨h, io_nil, io_nil, io_nil, io_nil⟩) (Gr.give (P := HeadFit) ⟨io_nil, io_nil, io_nil, io_nil, io_nil⟩)
 ·split
  ·exact Gr.num.thn fun _ h => (gr_ratioIf _).thn fun _ h1 => (gr_ratioIf _).thn fun _ h2 => Gr.give (P := HeadFit) ⟨h, h1.1, h1.2, h2.1, h2.2⟩
  ·split
   ·exact (Gr.word _).thn fun _ _ => gr_ratio.thn fun _ h1 => (Gr.word _).thn fun _ _ => gr_ratio.thn fun _ h2 => Gr.give (P := HeadFit) ⟨io_nil, h1.1, h1.2, h2.1, h2.2⟩
   ·split
    ·exact gr_ratio.thn fun _ h1 => Gr.give (P := HeadFit) ⟨io_nil, h1.1, h1.2, io_nil, io_nil⟩
    ·exact Gr.give (P := HeadFit) ⟨io_nil, io_nil, io_nil, io_nil, io_nil⟩
theorem gr_item : Gr Foyer.Rule.itemP (fun x => ItemZ.Fit (itemOf x)) := by
 have hf : Gr Foyer.Rule.frontP (fun f => f.2.1.text.length ≤ 24 ∧ HeadFit f.2.2) := (Gr.take _).thn fun t ht => (Gr.take _).thn fun n hn => (gr_head _).thn fun h hh => Gr.give (P := fun f : Foyer.Lexer.Tok × Foyer.Lexer.Tok × Foyer.Rule.HeadP => f.2.1.text.length ≤ 24 ∧ HeadFit f.2.2) ⟨hn.1.1, hh⟩
 have hc : Gr Foyer.Rule.condsP (fun cs => ∀ l ∈ cs, ∀ t ∈ l, TestZ.Fit (testOf t)) :=
  Gr.ifSep (sepW_in _) (Gr.list (sepW_in _) (Gr.list (sepW_in _) gr_test _) _) (Gr.give (by simp))
 refine hf.thn fun f hf => hc.thn fun cs hcs => (Gr.word _).thn fun _ _ => Gr.give (P := fun x => ItemZ.Fit (itemOf x)) ?_
 exact ⟨io_head _, nm_ok hf.1, fun l hl t ht => by
  obtain ⟨l', hl', rfl⟩ := List.mem_map.1 hl
  obtain ⟨t', ht', rfl⟩ := List.mem_map.1 ht
  exact hcs l' hl' t' ht', hf.2.1, ⟨hf.2.2.1, hf.2.2.2.1⟩, ⟨hf.2.2.2.2.1, hf.2.2.2.2.2⟩⟩
theorem rule_fit (l : List UInt8) : ∀ x ∈ rulesOf (Foyer.Rule.parseAll l).1, ItemZ.Fit x := by
 unfold Foyer.Rule.parseAll
 split
 ·unfold Foyer.Rule.parseToks
  cases hp : Foyer.Rule.rulesP (lexAll l).1 with
  | bad c r => exact fun x hx => by cases hx
  | ok a r => exact fit_map ((Gr.rest sepL_in gr_item 200) _ _ _ (lexAll_small l) hp).1
 ·exact fun x hx => by cases hx
end Go.Proofs.YtilfpnkcgjonhaaGreatDoor.Pr
