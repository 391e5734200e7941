/-
  The plain mathematics: the canonical text of a hall is read as that hall, but for offsets; and it is the text of no other one. No program is spoken of here.
-/
import Derived.Test.YtilfpnkcgjonhaaGreatDoorZMathToks
import Derived.Test.YtilfpnkcgjonhaaGreatDoorZPlMathPlan
namespace Foyer.Printer
open Foyer.Lexer
def RowZ.bare (r : RowZ) : RowZ := ⟨r.name, r.x, r.y, r.first, r.last, r.step, r.marks, 0⟩
def BlockZ.bare (b : BlockZ) : BlockZ := ⟨b.name, b.rows.map RowZ.bare, 0⟩
def AreaZ.bare (a : AreaZ) : AreaZ := ⟨a.name, a.box, a.holds, 0⟩
def LevelZ.bare (l : LevelZ) : LevelZ := ⟨l.name, l.height, l.blocks.map BlockZ.bare, l.areas.map AreaZ.bare, l.aisles, l.pillars, l.doors, 0⟩
def HallZ.bare (h : HallZ) : HallZ := ⟨h.name, h.stage, h.levels.map LevelZ.bare⟩
theorem all_map {α β : Type} {p : β → Bool} {q : α → Bool} {f : α → β} (h : ∀ x, p (f x) = q x) (l : List α) : (l.map f).all p = l.all q := by
 rw [List.all_map]; congr 1; funext x; exact h x
theorem flat_map {α β γ : Type} {p : β → List γ} {q : α → List γ} {f : α → β} (h : ∀ x, p (f x) = q x) (l : List α) : (l.map f).flatMap p = l.flatMap q := by
 rw [List.flatMap_map]; congr 1; funext x; exact h x
theorem ok_block (b : BlockZ) : blockOk b.bare = blockOk b := by
 unfold blockOk BlockZ.bare
 simp only
 rw [all_map (q := rowOk) (f := RowZ.bare) fun r => rfl]
theorem ok_level (l : LevelZ) : levelOk l.bare = levelOk l := by
 unfold levelOk LevelZ.bare
 simp only
 rw [all_map ok_block, all_map (q := areaOk) (f := AreaZ.bare) fun r => rfl]
theorem ok_hall (h : HallZ) : hallOk h.bare = hallOk h := by
 unfold hallOk HallZ.bare
 simp only
 rw [all_map ok_level]
theorem text_block (n : Nat) (b : BlockZ) : blockT n b.bare = blockT n b := by
 unfold blockT BlockZ.bare
 simp only
 rw [flat_map (q := rowT (n + 1)) (f := RowZ.bare) fun r => rfl]
theorem text_level (n : Nat) (l : LevelZ) : levelT n l.bare = levelT n l := by
 unfold levelT itemsT LevelZ.bare
 simp only
 rw [flat_map (text_block (n + 1)), flat_map (q := areaT (n + 1)) (f := AreaZ.bare) fun r => rfl]
theorem text_hall (h : HallZ) : hallT h.bare = hallT h := by
 unfold hallT HallZ.bare
 simp only
 rw [flat_map (text_level 1)]
theorem hall_same {a b : HallZ} (h : a.bare = b.bare) : hallAll a = hallAll b := by
 rw [hallAll_eq, hallAll_eq, ← ok_hall a, ← ok_hall b, ← text_hall a, ← text_hall b, h]
def markOf (m : Plan.MarkP) : MarkZ := ⟨m.kind, m.seat, m.other⟩
def rowOf (r : Plan.RowP) : RowZ := ⟨r.name, r.x, r.y, r.first, r.last, r.step, r.marks.map markOf, r.pos⟩
def blockOf (b : Plan.BlockP) : BlockZ := ⟨b.name, b.rows.map rowOf, b.pos⟩
def boxOf (b : Plan.BoxP) : BoxZ := ⟨b.x, b.y, b.x2, b.y2⟩
def areaOf (a : Plan.AreaP) : AreaZ := ⟨a.name, boxOf a.box, a.holds, a.pos⟩
def pointOf (p : Nat × Nat) : PointZ := ⟨p.1, p.2⟩
def levelOf (l : Plan.LevelP) : LevelZ := ⟨l.name, l.height, l.blocks.map blockOf, l.areas.map areaOf, l.aisles.map boxOf, l.pillars.map boxOf, l.doors.map pointOf, l.pos⟩
def hallOf (h : Plan.HallP) : HallZ := ⟨h.name, ⟨h.sx, h.sy⟩, h.levels.map levelOf⟩
theorem sans_cons {ts : List Tok} {x : Nat × List UInt8 × Nat} {e : Sk} (h : sans ts = x :: e) : ∃ t r, ts = t :: r ∧ (t.kind = x.1 ∧ t.text = x.2.1 ∧ t.val = x.2.2) ∧ sans r = e := by
 cases ts with
 | nil => simp [sans] at h
 | cons t r =>
  simp only [sans, List.map_cons, List.cons.injEq] at h
  obtain ⟨h1, h2⟩ := h
  exact ⟨t, r, rfl, by subst h1; exact ⟨rfl, rfl, rfl⟩, h2⟩
theorem sans_app {ts : List Tok} {e e' : Sk} (h : sans ts = e ++ e') : ∃ a b, ts = a ++ b ∧ sans a = e ∧ sans b = e' := by
 unfold sans at h
 rw [List.map_eq_append_iff] at h
 exact h
theorem sans_nil {ts : List Tok} (h : sans ts = []) : ts = [] := by
 unfold sans at h
 exact List.map_eq_nil_iff.1 h
def Rd {α : Type} (p : Plan.Par α) (e : Sk) (P : α → Prop) : Prop := ∀ ts us, sans ts = e → ts.length ≤ 5000 → ∃ a, p (ts ++ us) = .ok a us ∧ P a
section
variable {α β γ : Type} {e e' : Sk}
theorem Rd.give {a : α} {P : α → Prop} (h : P a) : Rd (Plan.give a) [] P := by
 intro ts us he _
 rw [sans_nil he]
 exact ⟨a, rfl, h⟩
theorem Rd.then {p : Plan.Par α} {f : α → Plan.Par β} {P : α → Prop} {Q : β → Prop} (h : Rd p e P) (h' : ∀ a, P a → Rd (f a) e' Q) : Rd (Plan.andThen p f) (e ++ e') Q := by
 intro ts us he hl
 obtain ⟨x, y, rfl, hx, hy⟩ := sans_app he
 rw [List.length_append] at hl
 obtain ⟨a, h1, h2⟩ := h x (y ++ us) hx (by omega)
 obtain ⟨b, h3, h4⟩ := h' a h2 y us hy (by omega)
 refine ⟨b, ?_, h4⟩
 rw [List.append_assoc, Plan.then_of h1]
 exact h3
theorem Rd.cast {p : Plan.Par α} {P : α → Prop} (h : Rd p e P) (he : e = e') : Rd p e' P := by subst he; exact h
theorem Rd.mono {p : Plan.Par α} {P Q : α → Prop} (h : Rd p e P) (hq : ∀ a, P a → Q a) : Rd p e Q := fun ts us he hl =>
 let ⟨a, h1, h2⟩ := h ts us he hl; ⟨a, h1, hq a h2⟩
theorem Rd.tok {q : Tok → Bool} (x : Nat × List UInt8 × Nat) (h : ∀ t : Tok, t.kind = x.1 → t.text = x.2.1 → q t = true) : Rd (Plan.takeP q) [x] (fun t => t.kind = x.1 ∧ t.text = x.2.1 ∧ t.val = x.2.2) := by
 intro ts us he _
 obtain ⟨t, r, rfl, ht, hr⟩ := sans_cons he
 rw [sans_nil hr]
 exact ⟨t, Plan.takeP_pos (h t ht.1 ht.2.1), ht⟩
theorem Rd.word (s : List UInt8) : Rd (Plan.word s) [nm s] (fun _ => True) :=
 ((Rd.tok (nm s) fun t _ h => by simpa [nm] using h).then fun t _ => Rd.give trivial).cast rfl
theorem Rd.sym (c : UInt8) : Rd (Plan.word [c]) [sy c] (fun _ => True) :=
 ((Rd.tok (sy c) fun t _ h => by simpa [sy] using h).then fun t _ => Rd.give trivial).cast rfl
theorem Rd.name (s : List UInt8) : Rd Plan.nameP [nm s] (fun a => a = s) :=
 ((Rd.tok (nm s) fun t h _ => by simpa [nm] using h).then fun t ht => Rd.give ht.2.1).cast rfl
theorem Rd.num {n : Int} (h : numOk n = true) : Rd Plan.num [nu n] (fun a => (a : Int) = n) :=
 ((Rd.tok (nu n) fun t h _ => by simpa [nu] using h).then fun t ht => Rd.give (by
  have h3 : t.val = n.toNat := ht.2.2
  rw [h3]; exact (itoa_ok h).2.2)).cast rfl
theorem rd_many {c : UInt8} {p : Plan.Par α} {f : β → Sk} {g : α → γ} {b : β → γ} : ∀ (l : List β), (∀ x ∈ l, Rd p (f x) (fun a => g a = b x) ∧ ∃ y z, f x = y :: z ∧ y.2.1 ≠ [c]) →
  ∀ n ts us, sans ts = l.flatMap f ++ [sy c] → ts.length ≤ n → ts.length ≤ 5000 → ∃ as, Plan.many [c] p n (ts ++ us) = .ok as us ∧ as.map g = l.map b
 | [], _, n, ts, us, he, hn, hl => by
  obtain ⟨t, r, rfl, ht, hr⟩ := sans_cons he
  rw [sans_nil hr] at hn ⊢
  obtain ⟨k, rfl⟩ : ∃ k, n = k + 1 := ⟨n - 1, by simp at hn; omega⟩
  exact ⟨[], Plan.many_close ht.2.1, rfl⟩
 | x :: r, h, n, ts, us, he, hn, hl => by
  obtain ⟨h1, y, z, h2, h3⟩ := h x List.mem_cons_self
  rw [List.flatMap_cons, List.append_assoc] at he
  obtain ⟨u, v, rfl, hu, hv⟩ := sans_app he
  rw [List.length_append] at hn hl
  obtain ⟨a, k1, k2⟩ := h1 u (v ++ us) hu (by omega)
  rw [h2] at hu
  obtain ⟨t, s, rfl, ht, _⟩ := sans_cons hu
  rw [List.length_cons] at hn hl
  obtain ⟨k, rfl⟩ : ∃ k, n = k + 1 := ⟨n - 1, by omega⟩
  obtain ⟨as, k3, k4⟩ := rd_many r (fun x hx => h x (List.mem_cons_of_mem _ hx)) k v us hv (by omega) (by omega)
  refine ⟨a :: as, ?_, by rw [List.map_cons, List.map_cons, k2, k4]⟩
  rw [List.append_assoc, Plan.many_go (fun t' s' e => by rw [List.cons_append] at e; cases e; rw [ht.2.1]; exact h3), Plan.then_of k1, Plan.then_of k3]
  rfl
theorem Rd.many {c : UInt8} {p : Plan.Par α} {f : β → Sk} {g : α → γ} {b : β → γ} (l : List β) (h : ∀ x ∈ l, Rd p (f x) (fun a => g a = b x) ∧ ∃ y z, f x = y :: z ∧ y.2.1 ≠ [c]) :
  Rd (Plan.many [c] p Plan.fuel) (l.flatMap f ++ [sy c]) (fun as => as.map g = l.map b) := fun ts us he hl => rd_many l h Plan.fuel ts us he (Nat.le_succ_of_le hl) hl
end
theorem mark_rd {m : MarkZ} (h : markOk m = true) : Rd Plan.markP (markE m) (fun a => markOf a = m) := by
 unfold markOk at h
 rw [Bool.and_eq_true, Bool.and_eq_true] at h
 obtain ⟨⟨hk, hs⟩, ho⟩ := h
 obtain ⟨kind, seat, other⟩ := m
 simp only at hk hs ho
 have hk2 : kind = 1 ∨ kind = 2 ∨ kind = 3 ∨ kind = 4 := by
  unfold kindOk at hk
  simp only [Bool.and_eq_true, decide_eq_true_eq] at hk
  omega
 have small : ∀ (w : List UInt8) (k : Nat), Plan.markKind w = k → k ≠ 0 → k ≠ 4 → ((k : Nat) : Int) = kind → other = 0 → Rd Plan.markP [nm w, nu seat] (fun a => markOf a = ⟨kind, seat, other⟩) := by
  intro w k hw h0 h4 hk ho
  refine ((Rd.tok (nm w) fun t _ ht => ?_).then fun t ht => (Rd.num hs).then fun s hs => ?_).cast (e := [nm w] ++ ([nu seat] ++ [])) rfl
  ·rw [show t.text = w from ht, hw]; simpa using h0
  ·have e : Plan.markKind t.text = k := by rw [show t.text = w from ht.2.1, hw]
   rw [e, if_neg h4]
   exact Rd.give (by show MarkZ.mk _ _ _ = _; rw [hk, hs, ho]; rfl)
 rcases hk2 with rfl | rfl | rfl | rfl
 ·exact (small Plan.wGap 1 rfl (by decide) (by decide) rfl (by simpa using ho)).cast rfl
 ·exact (small Plan.wWheel 2 rfl (by decide) (by decide) rfl (by simpa using ho)).cast rfl
 ·exact (small Plan.wHidden 3 rfl (by decide) (by decide) rfl (by simpa using ho)).cast rfl
 ·have ho2 : numOk other = true := by simpa using ho
  refine ((Rd.tok (nm Plan.wBeside) fun t _ ht => ?_).then fun t ht => (Rd.num hs).then fun s hs => (?_ : Rd _ [nm wOf, nu other] _)).cast (e := [nm Plan.wBeside] ++ ([nu seat] ++ [nm wOf, nu other])) rfl
  ·rw [show t.text = Plan.wBeside from ht]; rfl
  ·have e : Plan.markKind t.text = 4 := by rw [show t.text = Plan.wBeside from ht.2.1]; rfl
   rw [e, if_pos rfl]
   exact ((Rd.word wOf).then fun _ _ => (Rd.num ho2).then fun o ho => Rd.give (by show MarkZ.mk _ _ _ = _; rw [hs, ho]; rfl)).cast rfl
theorem row_rd {r : RowZ} (h : rowOk r = true) : Rd Plan.rowP (rowE r) (fun a => (rowOf a).bare = r.bare) := by
 unfold rowOk at h
 simp only [Bool.and_eq_true] at h
 obtain ⟨⟨⟨⟨⟨⟨h1, h2⟩, h3⟩, h4⟩, h5⟩, h6⟩, h7⟩ := h
 refine ((Rd.word wRow).then fun _ _ => (Rd.name r.name).then fun n hn => (Rd.word wAt).then fun _ _ => (Rd.num h2).then fun x hx => (Rd.num h3).then fun y hy => (Rd.word wSeats).then fun _ _ => (Rd.num h4).then fun a ha =>
  (Rd.word wTo).then fun _ _ => (Rd.num h5).then fun b hb => (Rd.word wStep).then fun _ _ => (Rd.num h6).then fun s hs => (Rd.many (f := markE) (g := markOf) (b := id) (c := 59) r.marks fun m hm => ⟨mark_rd (all_of h7 m hm), ?_⟩).then fun ms hms => Rd.give ?_).cast ?_
 ·refine ⟨_, _, rfl, ?_⟩
  have := all_of h7 m hm
  unfold markOk kindOk at this
  simp only [Bool.and_eq_true, decide_eq_true_eq] at this
  have hk : m.kind.toNat = 1 ∨ m.kind.toNat = 2 ∨ m.kind.toNat = 3 ∨ m.kind.toNat = 4 := by omega
  rcases hk with e | e | e | e <;> rw [e] <;> decide
 ·show (RowZ.mk n x y a b s (ms.map markOf) 0) = _
  rw [hn, hx, hy, ha, hb, hs, hms, List.map_id]; rfl
 ·simp only [rowE, List.cons_append, List.nil_append, List.append_nil]
theorem block_rd (at_ : Nat) {b : BlockZ} (h : blockOk b = true) : Rd (Plan.blockP at_) ([nm b.name, sy 123] ++ b.rows.flatMap rowE ++ [sy 125]) (fun a => (blockOf a).bare = b.bare) := by
 unfold blockOk at h
 rw [Bool.and_eq_true] at h
 refine ((Rd.name b.name).then fun n hn => (Rd.sym 123).then fun _ _ => (Rd.many (f := rowE) (g := fun a => (rowOf a).bare) (b := RowZ.bare) (c := 125) b.rows fun r hr => ⟨row_rd (all_of h.2 r hr), _, _, rfl, by decide⟩).then fun rs hrs => Rd.give ?_).cast ?_
 ·show BlockZ.mk n ((rs.map rowOf).map RowZ.bare) 0 = _
  rw [hn, List.map_map, show (RowZ.bare ∘ rowOf) = (fun a => (rowOf a).bare) from rfl, hrs]; rfl
 ·simp only [List.cons_append, List.nil_append, List.append_nil]
theorem box_rd {b : BoxZ} (h : boxOk b = true) : Rd Plan.boxP (boxE b) (fun a => boxOf a = b) := by
 unfold boxOk at h
 simp only [List.all_cons, List.all_nil, Bool.and_true, Bool.and_eq_true] at h
 exact ((Rd.num h.1).then fun x hx => (Rd.num h.2.1).then fun y hy => (Rd.num h.2.2.1).then fun x2 hx2 => (Rd.num h.2.2.2).then fun y2 hy2 => Rd.give (by show BoxZ.mk _ _ _ _ = _; rw [hx, hy, hx2, hy2])).cast rfl
theorem area_rd (at_ : Nat) {a : AreaZ} (h : areaOk a = true) : Rd (Plan.areaP at_) ([nm a.name] ++ boxE a.box ++ [nm wHolds, nu a.holds, sy 59]) (fun x => (areaOf x).bare = a.bare) := by
 unfold areaOk at h
 rw [Bool.and_eq_true, Bool.and_eq_true] at h
 exact ((Rd.name a.name).then fun n hn => (box_rd h.1.2).then fun b hb => (Rd.word wHolds).then fun _ _ => (Rd.num h.2).then fun x hx => (Rd.sym 59).then fun _ _ => Rd.give (by show AreaZ.mk n (boxOf b) x 0 = _; rw [hn, hb, hx]; rfl)).cast
  (by simp only [List.cons_append, List.nil_append, List.append_nil])
inductive Part where
 | block (b : BlockZ)
 | area (a : AreaZ)
 | aisle (b : BoxZ)
 | pillar (b : BoxZ)
 | door (p : PointZ)
def partOf : Plan.ItemP → Part
 | .block b => .block (blockOf b).bare
 | .area a => .area (areaOf a).bare
 | .aisle b => .aisle (boxOf b)
 | .pillar b => .pillar (boxOf b)
 | .door p => .door (pointOf p)
def Part.bare : Part → Part
 | .block b => .block b.bare
 | .area a => .area a.bare
 | x => x
def Part.ok : Part → Bool
 | .block b => blockOk b
 | .area a => areaOk a
 | .aisle b => boxOk b
 | .pillar b => boxOk b
 | .door p => doorOk p
def Part.toks : Part → Sk
 | .block b => blockE b
 | .area a => areaE a
 | .aisle b => thingE wAisle b
 | .pillar b => thingE wPillar b
 | .door p => doorE p
def parts (l : LevelZ) : List Part := l.blocks.map .block ++ l.areas.map .area ++ l.aisles.map .aisle ++ l.pillars.map .pillar ++ l.doors.map .door
theorem parts_toks (l : LevelZ) : (parts l).flatMap Part.toks = itemsE l := by
 unfold parts itemsE
 simp only [List.flatMap_append, List.flatMap_map]
 rfl
theorem parts_ok {l : LevelZ} (h : levelOk l = true) : ∀ x ∈ parts l, x.ok = true := by
 unfold levelOk at h
 simp only [Bool.and_eq_true] at h
 obtain ⟨⟨⟨⟨⟨⟨h1, h2⟩, h3⟩, h4⟩, h5⟩, h6⟩, h7⟩ := h
 intro x hx
 unfold parts at hx
 simp only [List.mem_append, List.mem_map] at hx
 rcases hx with (((⟨y, hy, rfl⟩ | ⟨y, hy, rfl⟩) | ⟨y, hy, rfl⟩) | ⟨y, hy, rfl⟩) | ⟨y, hy, rfl⟩
 ·exact all_of h3 y hy
 ·exact all_of h4 y hy
 ·exact all_of h5 y hy
 ·exact all_of h6 y hy
 ·exact all_of h7 y hy
theorem part_rd {x : Part} (h : x.ok = true) : Rd Plan.itemP x.toks (fun a => partOf a = x.bare) := by
 have go : ∀ (w : List UInt8) (k : Nat) (e : Sk), Plan.sort w = k → k ≠ 0 → (∀ at_, Rd (Plan.itemRest k at_) e (fun a => partOf a = x.bare)) → Rd Plan.itemP ([nm w] ++ e) (fun a => partOf a = x.bare) := by
  intro w k e hw hk hr
  refine (Rd.tok (nm w) fun t _ ht => ?_).then fun t ht => ?_
  ·rw [show t.text = w from ht, hw]; simpa using hk
  ·rw [show t.text = w from ht.2.1, hw]; exact hr _
 cases x with
 | block b => exact (go wBlock 1 _ rfl (by decide) fun at_ => ((block_rd at_ h).then fun a ha => Rd.give (P := fun z => partOf z = Part.bare (.block b)) (a := .block a) (by show Part.block _ = Part.block _; rw [ha])).cast (List.append_nil _)).cast rfl
 | area a => exact (go wArea 2 _ rfl (by decide) fun at_ => ((area_rd at_ h).then fun a' ha => Rd.give (P := fun z => partOf z = Part.bare (.area a)) (a := .area a') (by show Part.area _ = Part.area _; rw [ha])).cast (List.append_nil _)).cast rfl
 | aisle b => exact (go wAisle 3 _ rfl (by decide) fun at_ => ((box_rd h).then fun a ha => (Rd.sym 59).then fun _ _ => Rd.give (P := fun z => partOf z = Part.bare (.aisle b)) (a := .aisle a) (by show Part.aisle _ = Part.aisle _; rw [ha]))).cast rfl
 | pillar b => exact (go wPillar 4 _ rfl (by decide) fun at_ => ((box_rd h).then fun a ha => (Rd.sym 59).then fun _ _ => Rd.give (P := fun z => partOf z = Part.bare (.pillar b)) (a := .pillar a) (by show Part.pillar _ = Part.pillar _; rw [ha]))).cast rfl
 | door p =>
  have h' : doorOk p = true := h
  unfold doorOk at h'
  rw [Bool.and_eq_true] at h'
  exact (go wDoor 5 _ rfl (by decide) fun at_ => (((Rd.num h'.1).then fun x hx => (Rd.num h'.2).then fun y hy => Rd.give (P := fun z => pointOf z = p) (a := (x, y)) (by show PointZ.mk _ _ = _; rw [hx, hy]) : Rd Plan.pointP _ _).then fun a ha => (Rd.sym 59).then fun _ _ =>
   Rd.give (P := fun z => partOf z = Part.bare (.door p)) (a := .door a) (by show Part.door _ = Part.door _; rw [ha]))).cast rfl
theorem part_head (x : Part) : ∃ y z, x.toks = y :: z ∧ y.2.1 ≠ [125] := by
 cases x <;> exact ⟨_, _, rfl, by decide⟩
def blocksZ : List Part → List BlockZ := fun l => l.filterMap fun | .block b => some b | _ => none
def areasZ : List Part → List AreaZ := fun l => l.filterMap fun | .area b => some b | _ => none
def aislesZ : List Part → List BoxZ := fun l => l.filterMap fun | .aisle b => some b | _ => none
def pillarsZ : List Part → List BoxZ := fun l => l.filterMap fun | .pillar b => some b | _ => none
def doorsZ : List Part → List PointZ := fun l => l.filterMap fun | .door b => some b | _ => none
theorem of_parts : ∀ as : List Plan.ItemP, (Plan.blocksOf as).map (fun b => (blockOf b).bare) = blocksZ (as.map partOf) ∧ (Plan.areasOf as).map (fun b => (areaOf b).bare) = areasZ (as.map partOf) ∧
  (Plan.aislesOf as).map boxOf = aislesZ (as.map partOf) ∧ (Plan.pillarsOf as).map boxOf = pillarsZ (as.map partOf) ∧ (Plan.doorsOf as).map pointOf = doorsZ (as.map partOf)
 | [] => ⟨rfl, rfl, rfl, rfl, rfl⟩
 | x :: r => by
  obtain ⟨h1, h2, h3, h4, h5⟩ := of_parts r
  simp only [Plan.blocksOf, Plan.areasOf, Plan.aislesOf, Plan.pillarsOf, Plan.doorsOf, blocksZ, areasZ, aislesZ, pillarsZ, doorsZ] at h1 h2 h3 h4 h5 ⊢
  cases x <;> simp [partOf, h1, h2, h3, h4, h5]
theorem filter_some {α β : Type} {f : α → Option β} {g : β → α} (h : ∀ b, f (g b) = some b) : ∀ l : List β, (l.map g).filterMap f = l
 | [] => rfl
 | x :: r => by rw [List.map_cons, List.filterMap_cons, h]; simp only; rw [filter_some h r]
theorem filter_none {α β γ : Type} {f : α → Option β} {g : γ → α} (h : ∀ b, f (g b) = none) : ∀ l : List γ, (l.map g).filterMap f = []
 | [] => rfl
 | x :: r => by rw [List.map_cons, List.filterMap_cons, h]; exact filter_none h r
theorem parts_bare (l : LevelZ) : (parts l).map Part.bare = (l.blocks.map BlockZ.bare).map Part.block ++ (l.areas.map AreaZ.bare).map Part.area ++ l.aisles.map .aisle ++ l.pillars.map .pillar ++ l.doors.map .door := by
 unfold parts
 simp only [List.map_append, List.map_map]
 rfl
theorem block_parts (a : List BlockZ) (b : List AreaZ) (c d : List BoxZ) (e : List PointZ) : blocksZ (a.map .block ++ b.map .area ++ c.map .aisle ++ d.map .pillar ++ e.map .door) = a := by
 unfold blocksZ
 rw [List.filterMap_append, List.filterMap_append, List.filterMap_append, List.filterMap_append, filter_some (g := Part.block) (fun _ => rfl), filter_none (g := Part.area) (fun _ => rfl), filter_none (g := Part.aisle) (fun _ => rfl), filter_none (g := Part.pillar) (fun _ => rfl), filter_none (g := Part.door) (fun _ => rfl)]
 simp
theorem area_parts (a : List BlockZ) (b : List AreaZ) (c d : List BoxZ) (e : List PointZ) : areasZ (a.map .block ++ b.map .area ++ c.map .aisle ++ d.map .pillar ++ e.map .door) = b := by
 unfold areasZ
 rw [List.filterMap_append, List.filterMap_append, List.filterMap_append, List.filterMap_append, filter_none (g := Part.block) (fun _ => rfl), filter_some (g := Part.area) (fun _ => rfl), filter_none (g := Part.aisle) (fun _ => rfl), filter_none (g := Part.pillar) (fun _ => rfl), filter_none (g := Part.door) (fun _ => rfl)]
 simp
theorem aisle_parts (a : List BlockZ) (b : List AreaZ) (c d : List BoxZ) (e : List PointZ) : aislesZ (a.map .block ++ b.map .area ++ c.map .aisle ++ d.map .pillar ++ e.map .door) = c := by
 unfold aislesZ
 rw [List.filterMap_append, List.filterMap_append, List.filterMap_append, List.filterMap_append, filter_none (g := Part.block) (fun _ => rfl), filter_none (g := Part.area) (fun _ => rfl), filter_some (g := Part.aisle) (fun _ => rfl), filter_none (g := Part.pillar) (fun _ => rfl), filter_none (g := Part.door) (fun _ => rfl)]
 simp
theorem pillar_parts (a : List BlockZ) (b : List AreaZ) (c d : List BoxZ) (e : List PointZ) : pillarsZ (a.map .block ++ b.map .area ++ c.map .aisle ++ d.map .pillar ++ e.map .door) = d := by
 unfold pillarsZ
 rw [List.filterMap_append, List.filterMap_append, List.filterMap_append, List.filterMap_append, filter_none (g := Part.block) (fun _ => rfl), filter_none (g := Part.area) (fun _ => rfl), filter_none (g := Part.aisle) (fun _ => rfl), filter_some (g := Part.pillar) (fun _ => rfl), filter_none (g := Part.door) (fun _ => rfl)]
 simp
theorem door_parts (a : List BlockZ) (b : List AreaZ) (c d : List BoxZ) (e : List PointZ) : doorsZ (a.map .block ++ b.map .area ++ c.map .aisle ++ d.map .pillar ++ e.map .door) = e := by
 unfold doorsZ
 rw [List.filterMap_append, List.filterMap_append, List.filterMap_append, List.filterMap_append, filter_none (g := Part.block) (fun _ => rfl), filter_none (g := Part.area) (fun _ => rfl), filter_none (g := Part.aisle) (fun _ => rfl), filter_none (g := Part.pillar) (fun _ => rfl), filter_some (g := Part.door) (fun _ => rfl)]
 simp
theorem level_rd {l : LevelZ} (h : levelOk l = true) : Rd Plan.levelP (levelE l) (fun a => (levelOf a).bare = l.bare) := by
 have hp := parts_ok h
 have h0 := h
 unfold levelOk at h0
 simp only [Bool.and_eq_true] at h0
 have hh := h0.1.1.1.1.1.2
 refine ((Rd.word wLevel).then fun at_ _ => (Rd.name l.name).then fun n hn => (Rd.word wHeight).then fun _ _ => (Rd.num hh).then fun x hx => (Rd.sym 123).then fun _ _ =>
  (Rd.many (f := Part.toks) (g := partOf) (b := Part.bare) (c := 125) (parts l) fun x hx => ⟨part_rd (hp x hx), part_head x⟩).then fun is his => Rd.give ?_).cast ?_
 ·obtain ⟨k1, k2, k3, k4, k5⟩ := of_parts is
  rw [his, parts_bare] at k1 k2 k3 k4 k5
  show LevelZ.mk n x (((Plan.blocksOf is).map blockOf).map BlockZ.bare) (((Plan.areasOf is).map areaOf).map AreaZ.bare) ((Plan.aislesOf is).map boxOf) ((Plan.pillarsOf is).map boxOf) ((Plan.doorsOf is).map pointOf) 0 = _
  rw [List.map_map, List.map_map, show (BlockZ.bare ∘ blockOf) = (fun b => (blockOf b).bare) from rfl, show (AreaZ.bare ∘ areaOf) = (fun b => (areaOf b).bare) from rfl, k1, k2, k3, k4, k5, hn, hx]
  rw [block_parts, area_parts, aisle_parts, pillar_parts, door_parts]
  rfl
 ·rw [parts_toks]; simp only [levelE, List.cons_append, List.nil_append, List.append_nil]
theorem hall_rd {h : HallZ} (hh : hallOk h = true) : Rd Plan.hallP (hallE h) (fun a => (hallOf a).bare = h.bare) := by
 unfold hallOk at hh
 simp only [Bool.and_eq_true] at hh
 obtain ⟨⟨⟨h1, h2⟩, h3⟩, h4⟩ := hh
 refine ((Rd.word wHall).then fun _ _ => (Rd.name h.name).then fun n hn => (Rd.word wStage).then fun _ _ => (Rd.num h2).then fun x hx => (Rd.num h3).then fun y hy => (Rd.sym 123).then fun _ _ =>
  (Rd.many (f := levelE) (g := fun a => (levelOf a).bare) (b := LevelZ.bare) (c := 125) h.levels fun l hl => ⟨level_rd (all_of h4 l hl), _, _, rfl, by decide⟩).then fun ls hls => Rd.give ?_).cast ?_
 ·show HallZ.mk n ⟨x, y⟩ ((ls.map levelOf).map LevelZ.bare) = _
  rw [hn, hx, hy, List.map_map, show (LevelZ.bare ∘ levelOf) = (fun a => (levelOf a).bare) from rfl, hls]; rfl
 ·simp only [hallE, List.cons_append, List.nil_append, List.append_nil]
theorem hallAll_ways (h : HallZ) : (hallAll h).2 = 0 ∧ hallOk h = true ∧ (hallAll h).1 = hallT h ∧ (lexAll (hallT h)).2.1 = 0 ∨ (hallAll h).1 = [] ∧ ((hallAll h).2 = 1 ∨ (hallAll h).2 = 3) := by
 rw [hallAll_eq]
 by_cases h1 : hallOk h = true
 ·rw [if_pos h1]
  by_cases h2 : (lexAll (hallT h)).2.1 = 0
  ·rw [if_pos h2]; exact Or.inl ⟨rfl, h1, rfl, h2⟩
  ·rw [if_neg h2]; exact Or.inr ⟨rfl, Or.inr rfl⟩
 ·rw [if_neg h1]; exact Or.inr ⟨rfl, Or.inl rfl⟩
theorem hall_round {h : HallZ} (hh : (hallAll h).2 = 0) : ∃ a, Plan.parseAll (hallAll h).1 = (a, 0, 0) ∧ (hallOf a).bare = h.bare := by
 rcases hallAll_ways h with ⟨_, h1, h2, h3⟩ | ⟨_, h1 | h1⟩
 ·rcases text_toks (hall_lns h1) with ⟨_, ts, h4, h5, h6⟩ | h4
  ·obtain ⟨a, k1, k2⟩ := hall_rd h1 ts [] h5 h6
   rw [List.append_nil] at k1
   refine ⟨a, ?_, k2⟩
   unfold Plan.parseAll
   rw [h2, h4]
   simp only [if_true]
   unfold Plan.parseToks
   rw [k1]
   rfl
  ·rw [h3] at h4; cases h4
 ·rw [h1] at hh; cases hh
 ·rw [h1] at hh; cases hh
end Foyer.Printer
