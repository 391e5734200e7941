/-
  Maps of strings that a call makes, written out.
-/
import Derived.Test.YtlfjdohjfmfcdaaGreatDoorWalkTake
import Derived.Maps.Keyed

/-! ## Maps of strings that a call makes, written out. -/
namespace Go.Proofs.YtlfjdohjfmfcdaaGreatDoor
open Go.RowKit Go.Sort Foyer.Plan

theorem ba_beq (a b : List UInt8) : ((⟨a.toArray⟩ : ByteArray) == ⟨b.toArray⟩) = decide (a = b) := by
  show (a.toArray == b.toArray) = _
  by_cases h : a = b <;> simp [h]
/-- The first entry at a key. -/
def entryAt (s : List UInt8) : List (List UInt8 × Value) → Option Value
  | [] => none
  | (k, v) :: r => if s = k then some v else entryAt s r
def entriesOf : Nat → List (List UInt8 × Value) → List MapEntry
  | _, [] => []
  | i, (k, v) :: r => { key := .string ⟨k.toArray⟩, val := v, born := i } :: entriesOf (i + 1) r
theorem findNow_at (s : List UInt8) : ∀ (l : List (List UInt8 × Value)) (j i : Nat), ∃ n, Instr.findNow .string (.string ⟨s.toArray⟩) (entriesOf j l) i = some ((entryAt s l).map fun v => (n, v))
  | [], _, _ => ⟨0, rfl⟩
  | (k, v) :: r, j, i => by
    unfold entriesOf Instr.findNow entryAt
    simp only [Instr.sameNow, ba_beq]
    by_cases h : s = k
    · rw [if_pos h, decide_eq_true h]
      exact ⟨i, rfl⟩
    · rw [if_neg h, decide_eq_false h]
      exact findNow_at s r (j + 1) (i + 1)
/-- A block that is such a map. -/
def MapB (w : World) (b : Nat) (l : List (List UInt8 × Value)) (c : Nat) : Prop := w.heap[b]? = some (.map (entriesOf 0 l).toArray c)
theorem MapB.lt {w : World} {b c : Nat} {l : List (List UInt8 × Value)} (h : MapB w b l c) : b < w.heap.size := (Array.getElem?_eq_some_iff.1 h).1
theorem MapB.kept {E : Nat → Prop} {w w' : World} {b c : Nat} {l : List (List UInt8 × Value)} (h : MapB w b l c) (k : Kp E w w') (hE : ¬ E b) : MapB w' b l c := (k.block b h.lt hE).trans h
theorem map_lookup {t K : TypeId} {E : TypeId} (ht : Tryz.prog.underlying t = some (.map K E)) (hK : Tryz.prog.underlying K = some .string) {z : Value} (w : World) (hz : (zeroValue E).run Tryz.prog w = .ok z w) {b c : Nat} {l : List (List UInt8 × Value)} (h : MapB w b l c) (s : List UInt8) :
    (Instr.lookup t (.map (some b)) (.string ⟨s.toArray⟩) false).run Tryz.prog w = .ok ((entryAt s l).getD z) w := by
  obtain ⟨n, hn⟩ := findNow_at s l 0 0
  have hk := MapKept.run_findKey (w := w) (kt := K) hK hn
  have hck : ∀ em, (Instr.checkKey em 10000 K (.string ⟨s.toArray⟩)).run Tryz.prog w = .ok () w := fun em => by
    rw [show (10000 : Nat) = 9999 + 1 from rfl]
    rw [Instr.checkKey]
    simp only [Sem.run_bind, run_underlying hK, Result.andThen_ok, Sem.run_pure]
  cases he : entryAt s l with
  | none => rw [he] at hk; simp [Instr.lookup, run_underlying ht, MapKept.run_getObj_map h, hck, hk, hz, Result.andThen]
  | some v => rw [he] at hk; simp [Instr.lookup, run_underlying ht, MapKept.run_getObj_map h, hck, hk, Result.andThen]
theorem map_insert {t K : TypeId} {E : TypeId} (ht : Tryz.prog.underlying t = some (.map K E)) (hK : Tryz.prog.underlying K = some .string) (w : World) (l : List (List UInt8 × Value)) (s : List UInt8) (v : Value) (hs : entryAt s l = none) (n : Nat) (hn : l.length = n) (b : Nat) (hb : b = w.heap.size) :
    (Instr.mapUpdate t (.map (some b)) (.string ⟨s.toArray⟩) v).run Tryz.prog (w.alloc (.map (entriesOf 0 l).toArray n)) = .ok () (w.alloc (.map (entriesOf 0 (l ++ [(s, v)])).toArray (n + 1))) := by
  subst hb
  obtain ⟨m, hm⟩ := findNow_at s l 0 0
  rw [hs] at hm
  have hk := MapKept.run_findKey (w := w.alloc (.map (entriesOf 0 l).toArray n)) (kt := K) hK hm
  have hck : ∀ em, (Instr.checkKey em 10000 K (.string ⟨s.toArray⟩)).run Tryz.prog (w.alloc (.map (entriesOf 0 l).toArray n)) = .ok () (w.alloc (.map (entriesOf 0 l).toArray n)) := fun em => by
    rw [show (10000 : Nat) = 9999 + 1 from rfl]
    rw [Instr.checkKey]
    simp only [Sem.run_bind, run_underlying hK, Result.andThen_ok, Sem.run_pure]
  have hh : (w.alloc (.map (entriesOf 0 l).toArray n)).heap[w.heap.size]? = some (.map (entriesOf 0 l).toArray n) := (MapKept.heap_alloc w _).1
  have he : ∀ (l : List (List UInt8 × Value)) (j : Nat), entriesOf j (l ++ [(s, v)]) = entriesOf j l ++ [{ key := .string ⟨s.toArray⟩, val := v, born := j + l.length }] := by
    intro l
    induction l with
    | nil => intro j; rfl
    | cons x r ih => intro j; rw [List.cons_append, entriesOf, entriesOf, ih, List.cons_append, List.length_cons, show j + 1 + r.length = j + (r.length + 1) by omega]
  rw [he l 0, hn, Nat.zero_add]
  have hset : ∀ (o : Obj), (setObj w.heap.size o).run Tryz.prog (w.alloc (.map (entriesOf 0 l).toArray n)) = .ok () (w.alloc o) := fun o => by
    rw [MapKept.run_setObj_map o hh]
    have e : (w.alloc (.map (entriesOf 0 l).toArray n)).heap.setIfInBounds w.heap.size o = (w.alloc o).heap := by
      show (w.heap.push _).setIfInBounds w.heap.size o = w.heap.push o
      apply Array.ext_getElem?
      intro i
      rw [Array.getElem?_setIfInBounds, Array.getElem?_push, Array.getElem?_push]
      by_cases hi : w.heap.size = i
      · subst hi; simp
      · rw [if_neg hi, if_neg (fun h => hi h.symm), if_neg (fun h => hi h.symm)]
    rw [e]; rfl
  simp [Instr.mapUpdate, run_underlying ht, MapKept.run_getObj_map hh, hck, hk, hset, Result.andThen]
end Go.Proofs.YtlfjdohjfmfcdaaGreatDoor

/-! ## What halls, levels, blocks, rows and marks are in memory. -/
namespace Go.Proofs.YtlfjdohjfmfcdaaGreatDoor
open Go.RowKit Go.Sort Foyer.Plan

/-- How the cells of a struct are read, with the blocks that they lead to. -/
structure Kind (α : Type) where
  is : World → (Nat → Prop) → List Value → α → Prop
  size : Nat
  kept : ∀ {W W' F c a}, is W F c a → (∀ k, F k → k < W.heap.size → W'.heap[k]? = W.heap[k]?) → is W' F c a
  mono : ∀ {W F F' c a}, is W F c a → (∀ k, F k → k < W.heap.size → F' k) → is W F' c a
  len : ∀ {W F c a}, is W F c a → c.length = size
  one : ∀ {W F c a}, is W F c a → ∀ u ∈ c, u.oneCell' = true
section
variable {α : Type}
theorem All2.imp {β : Type} {R S : β → α → Prop} {bs : List β} {xs : List α} (h : All2 R bs xs) (hi : ∀ b x, R b x → S b x) : All2 S bs xs := by
  induction h with
  | nil => exact .nil
  | cons h _ ih => exact .cons (hi _ _ h) ih
theorem All2.snoc {β : Type} {R : β → α → Prop} {bs : List β} {xs : List α} (h : All2 R bs xs) {b : β} {x : α} (hb : R b x) : All2 R (bs ++ [b]) (xs ++ [x]) := by
  induction h with
  | nil => exact .cons hb .nil
  | cons h _ ih => exact .cons h ih
theorem All2.length {β : Type} {R : β → α → Prop} {bs : List β} {xs : List α} (h : All2 R bs xs) : bs.length = xs.length := by
  induction h with
  | nil => rfl
  | cons _ _ ih => simp [ih]
theorem All2.at {β : Type} {R : β → α → Prop} {bs : List β} {xs : List α} (h : All2 R bs xs) : ∀ {i : Nat} {x : α}, xs[i]? = some x → ∃ b, bs[i]? = some b ∧ R b x := by
  induction h with
  | nil => intro i x hx; simp at hx
  | cons h _ ih =>
    intro i x hx
    cases i with
    | zero => simp only [List.getElem?_cons_zero, Option.some.injEq] at hx; subst hx; exact ⟨_, rfl, h⟩
    | succ i => exact ih (by simpa using hx)
/-- A list that is read. -/
def IsList (K : Kind α) (W : World) (F : Nat → Prop) (T : TypeId) (v : Value) (xs : List α) : Prop :=
  ∃ css, Con W 0 T K.size v css ∧ (∀ k, v.ownBlock = some k → F k) ∧ All2 (K.is W F) css xs
theorem IsList.kept {K : Kind α} {W W' : World} {F : Nat → Prop} {T : TypeId} {v : Value} {xs : List α} (h : IsList K W F T v xs) (hk : ∀ k, F k → k < W.heap.size → W'.heap[k]? = W.heap[k]?) : IsList K W' F T v xs := by
  obtain ⟨css, h1, h2, h3⟩ := h
  exact ⟨css, h1.of_block fun k hv => hk k (h2 k hv) (own_lt h1.own hv).2, h2, All2.imp h3 fun _ _ h => K.kept h hk⟩
theorem IsList.mono {K : Kind α} {W : World} {F F' : Nat → Prop} {T : TypeId} {v : Value} {xs : List α} (h : IsList K W F T v xs) (hk : ∀ k, F k → k < W.heap.size → F' k) : IsList K W F' T v xs := by
  obtain ⟨css, h1, h2, h3⟩ := h
  exact ⟨css, h1, fun k hv => hk k (h2 k hv) (own_lt h1.own hv).2, All2.imp h3 fun _ _ h => K.mono h hk⟩
theorem IsList.one {K : Kind α} {W : World} {F : Nat → Prop} {T : TypeId} {v : Value} {xs : List α} (h : IsList K W F T v xs) : v.oneCell' = true := by
  obtain ⟨css, h1, _⟩ := h
  rcases h1.form with ⟨rfl, _⟩ | ⟨g, cap, cur, rfl, _⟩ <;> rfl
theorem IsList.slice {K : Kind α} {W : World} {F : Nat → Prop} {T : TypeId} {v : Value} {xs : List α} (h : IsList K W F T v xs) : ∃ a n c, v = .slice a n c := by
  obtain ⟨css, h1, _⟩ := h
  rcases h1.form with ⟨rfl, _⟩ | ⟨g, cap, cur, rfl, _⟩ <;> exact ⟨_, _, _, rfl⟩
/-- A list that is being built: its parts lie in F. -/
def Building (K : Kind α) (W : World) (F : Nat → Prop) (B : Nat) (T : TypeId) (v : Value) (xs : List α) : Prop := ∃ css, Con W B T K.size v css ∧ All2 (K.is W F) css xs
theorem building_nil (K : Kind α) (W : World) (F : Nat → Prop) (B : Nat) (T : TypeId) : Building K W F B T (.slice none 0 0) [] := ⟨[], con_nil W B T K.size, .nil⟩
/-- Both at once: the world changes elsewhere, and the blocks are told anew. -/
theorem Kind.moved (K : Kind α) {W W' : World} {F F' : Nat → Prop} {c : List Value} {a : α} (h : K.is W F c a) (hk : ∀ k, F k → k < W.heap.size → W'.heap[k]? = W.heap[k]?) (hF : ∀ k, F k → k < W.heap.size → F' k) : K.is W' F' c a := by
  have h1 := K.mono (F' := fun k => F k ∧ k < W.heap.size) h fun k h1 h2 => ⟨h1, h2⟩
  have h2 := K.kept (W' := W') h1 fun k h3 h4 => hk k h3.1 h4
  exact K.mono h2 fun k h3 _ => hF k h3.1 h3.2
theorem Building.kept {K : Kind α} {W W' : World} {F F' : Nat → Prop} {B : Nat} {T : TypeId} {v : Value} {xs : List α} (h : Building K W F B T v xs) (hv : ∀ k, v.ownBlock = some k → W'.heap[k]? = W.heap[k]?) (hk : ∀ k, F k → k < W.heap.size → W'.heap[k]? = W.heap[k]?) (hF : ∀ k, F k → k < W.heap.size → F' k) : Building K W' F' B T v xs := by
  obtain ⟨css, h1, h3⟩ := h
  exact ⟨css, h1.of_block hv, All2.imp h3 fun _ _ h => K.moved h hk hF⟩
theorem Building.lt {K : Kind α} {W : World} {F : Nat → Prop} {B : Nat} {T : TypeId} {v : Value} {xs : List α} (h : Building K W F B T v xs) {k : Nat} (hk : v.ownBlock = some k) : B ≤ k ∧ k < W.heap.size := let ⟨_, h1, _⟩ := h; own_lt h1.own hk
theorem Building.one {K : Kind α} {W : World} {F : Nat → Prop} {B : Nat} {T : TypeId} {v : Value} {xs : List α} (h : Building K W F B T v xs) : v.oneCell' = true := by
  obtain ⟨css, h1, _⟩ := h
  rcases h1.form with ⟨rfl, _⟩ | ⟨g, cap, cur, rfl, _⟩ <;> rfl
/-- A list that is built to its end is one that is read. -/
theorem Building.done {K : Kind α} {W : World} {F F' : Nat → Prop} {B : Nat} {T : TypeId} {v : Value} {xs : List α} (h : Building K W F B T v xs) (hF : ∀ k, F k → k < W.heap.size → F' k) (hv : ∀ k, B ≤ k → F' k) : IsList K W F' T v xs := by
  obtain ⟨css, h1, h3⟩ := h
  exact ⟨css, h1.base (Nat.zero_le _), fun k hk => hv k (own_lt h1.own hk).1, All2.imp h3 fun _ _ h => K.mono h hF⟩
end

/-! ### Marks, rows, blocks, areas, boxes, points, levels, halls -/
def markCl (m : MarkP) : List Value := [.int .i64 (m.kind : Nat), .int .i64 (m.seat : Nat), .int .i64 (m.other : Nat)]
def areaC (a : AreaP) : List Value := [.string ⟨a.name.toArray⟩, .int .i64 (a.box.x : Nat), .int .i64 (a.box.y : Nat), .int .i64 (a.box.x2 : Nat), .int .i64 (a.box.y2 : Nat), .int .i64 (a.holds : Nat), .int .i64 (a.pos : Nat)]
/-- What lies in its own cells alone. -/
def plainK {α : Type} (C : α → List Value) (n : Nat) (hn : ∀ a, (C a).length = n) (h1 : ∀ a, ∀ u ∈ C a, u.oneCell' = true) : Kind α where
  is _ _ c a := c = C a
  size := n
  kept h _ := h
  mono h _ := h
  len h := by subst h; exact hn _
  one h := by subst h; exact h1 _
def markK : Kind MarkP := plainK markCl 3 (fun _ => rfl) (fun a u hu => by simp only [markCl, List.mem_cons, List.not_mem_nil, or_false] at hu; rcases hu with rfl | rfl | rfl <;> rfl)
def areaK : Kind AreaP := plainK areaC 7 (fun _ => rfl) (fun a u hu => by simp only [areaC, List.mem_cons, List.not_mem_nil, or_false] at hu; rcases hu with rfl | rfl | rfl | rfl | rfl | rfl | rfl <;> rfl)
def boxK : Kind BoxP := plainK boxC 4 (fun _ => rfl) (fun a u hu => by simp only [boxC, List.mem_cons, List.not_mem_nil, or_false] at hu; rcases hu with rfl | rfl | rfl | rfl <;> rfl)
def pointK : Kind (Nat × Nat) := plainK pointC 2 (fun _ => rfl) (fun a u hu => by simp only [pointC, List.mem_cons, List.not_mem_nil, or_false] at hu; rcases hu with rfl | rfl <;> rfl)
def rowC (r : RowP) (v : Value) : List Value := [.string ⟨r.name.toArray⟩, .int .i64 (r.x : Nat), .int .i64 (r.y : Nat), .int .i64 (r.first : Nat), .int .i64 (r.last : Nat), .int .i64 (r.step : Nat), v, .int .i64 (r.pos : Nat)]
def rowK : Kind RowP where
  is W F c r := ∃ v, c = rowC r v ∧ IsList markK W F 46 v r.marks
  size := 8
  kept h hk := let ⟨v, h1, h2⟩ := h; ⟨v, h1, h2.kept hk⟩
  mono h hk := let ⟨v, h1, h2⟩ := h; ⟨v, h1, h2.mono hk⟩
  len h := by obtain ⟨v, rfl, _⟩ := h; rfl
  one h := by
    obtain ⟨v, rfl, h⟩ := h
    intro u hu
    simp only [rowC, List.mem_cons, List.not_mem_nil, or_false] at hu
    rcases hu with rfl | rfl | rfl | rfl | rfl | rfl | rfl | rfl <;> first | rfl | exact h.one
def blockCl (b : BlockP) (v : Value) : List Value := [.string ⟨b.name.toArray⟩, v, .int .i64 (b.pos : Nat)]
def blockK : Kind BlockP where
  is W F c b := ∃ v, c = blockCl b v ∧ IsList rowK W F 44 v b.rows
  size := 3
  kept h hk := let ⟨v, h1, h2⟩ := h; ⟨v, h1, h2.kept hk⟩
  mono h hk := let ⟨v, h1, h2⟩ := h; ⟨v, h1, h2.mono hk⟩
  len h := by obtain ⟨v, rfl, _⟩ := h; rfl
  one h := by
    obtain ⟨v, rfl, h⟩ := h
    intro u hu
    simp only [blockCl, List.mem_cons, List.not_mem_nil, or_false] at hu
    rcases hu with rfl | rfl | rfl <;> first | rfl | exact h.one
def levelCl (l : LevelP) (v1 v2 v3 v4 v5 : Value) : List Value := [.string ⟨l.name.toArray⟩, .int .i64 (l.height : Nat), v1, v2, v3, v4, v5, .int .i64 (l.pos : Nat)]
structure LevelIs (W : World) (F : Nat → Prop) (c : List Value) (l : LevelP) (v1 v2 v3 v4 v5 : Value) : Prop where
  cells : c = levelCl l v1 v2 v3 v4 v5
  blocks : IsList blockK W F 41 v1 l.blocks
  areas : IsList areaK W F 50 v2 l.areas
  aisles : IsList boxK W F 48 v3 l.aisles
  pillars : IsList boxK W F 48 v4 l.pillars
  doors : IsList pointK W F 24 v5 l.doors
def levelK : Kind LevelP where
  is W F c l := ∃ v1 v2 v3 v4 v5, LevelIs W F c l v1 v2 v3 v4 v5
  size := 8
  kept h hk := let ⟨v1, v2, v3, v4, v5, h⟩ := h; ⟨v1, v2, v3, v4, v5, h.cells, h.blocks.kept hk, h.areas.kept hk, h.aisles.kept hk, h.pillars.kept hk, h.doors.kept hk⟩
  mono h hk := let ⟨v1, v2, v3, v4, v5, h⟩ := h; ⟨v1, v2, v3, v4, v5, h.cells, h.blocks.mono hk, h.areas.mono hk, h.aisles.mono hk, h.pillars.mono hk, h.doors.mono hk⟩
  len h := by obtain ⟨v1, v2, v3, v4, v5, h⟩ := h; rw [h.cells]; rfl
  one h := by
    obtain ⟨v1, v2, v3, v4, v5, h⟩ := h
    rw [h.cells]
    intro u hu
    simp only [levelCl, List.mem_cons, List.not_mem_nil, or_false] at hu
    rcases hu with rfl | rfl | rfl | rfl | rfl | rfl | rfl | rfl
    · rfl
    · rfl
    · exact h.blocks.one
    · exact h.areas.one
    · exact h.aisles.one
    · exact h.pillars.one
    · exact h.doors.one
    · rfl
def hallCl (h : HallP) (v : Value) : List Value := [.string ⟨h.name.toArray⟩, .int .i64 (h.sx : Nat), .int .i64 (h.sy : Nat), v]
def hallK : Kind HallP where
  is W F c h := ∃ v, c = hallCl h v ∧ IsList levelK W F 38 v h.levels
  size := 4
  kept h hk := let ⟨v, h1, h2⟩ := h; ⟨v, h1, h2.kept hk⟩
  mono h hk := let ⟨v, h1, h2⟩ := h; ⟨v, h1, h2.mono hk⟩
  len h := by obtain ⟨v, rfl, _⟩ := h; rfl
  one h := by
    obtain ⟨v, rfl, h⟩ := h
    intro u hu
    simp only [hallCl, List.mem_cons, List.not_mem_nil, or_false] at hu
    rcases hu with rfl | rfl | rfl | rfl <;> first | rfl | exact h.one
theorem setCells_heap (W : World) (b : Nat) (vs : List Value) {k : Nat} (hk : k < W.heap.size) (hb : k ≠ b) : (W.setCells b 0 vs).heap[k]? = W.heap[k]? :=
  (Kp.setCells (E := onlyB b) (Or.inl rfl) vs 0 W (Kp.refl _ _)).block k hk (fun h => hb h)
theorem Building.slice {α : Type} {K : Kind α} {W : World} {F : Nat → Prop} {B : Nat} {T : TypeId} {v : Value} {xs : List α} (h : Building K W F B T v xs) : ∃ a n c, v = .slice a n c := by
  obtain ⟨css, h1, _⟩ := h
  rcases h1.form with ⟨rfl, _⟩ | ⟨g, cap, cur, rfl, _⟩ <;> exact ⟨_, _, _, rfl⟩
theorem shrink {α : Type} {p : Par α} (hp : Det p) {ts r : List TokP} {a : α} (h : p ts = .ok a r) : r.length ≤ ts.length := by
  obtain ⟨pre, rfl, _⟩ := hp.ok _ _ _ h
  simp
/-- A list in a variable, behind the writing of a result elsewhere. -/
theorem Building.result {α : Type} {K : Kind α} {W : World} {B : Nat} {T : TypeId} {v : Value} {xs : List α} (h : Building K W (fun k => B ≤ k ∧ v.ownBlock ≠ some k) B T v xs) {b n : Nat} (hb : b < B) (hn : n ≤ B) (vs : List Value) : IsList K (W.setCells b 0 vs) (fun k => n ≤ k) T v xs := by
  have h2 : Building K (W.setCells b 0 vs) (fun k => B ≤ k) B T v xs := h.kept (fun k hk => setCells_heap W b vs (h.lt hk).2 (by have := (h.lt hk).1; omega)) (fun k hk hlt => setCells_heap W b vs hlt (by have := hk.1; omega)) (fun k hk _ => hk.1)
  exact h2.done (fun k hk _ => Nat.le_trans hn hk) (fun k hk => Nat.le_trans hn hk)
/-- What a piece returns: a struct whose blocks are all new. -/
def KindV {α : Type} (K : Kind α) (n : Nat) (a : α) (e : Ending) (w' : World) : Prop := ∃ c, e = .returned (.agg c.toArray) ∧ K.is w' (fun k => n ≤ k) c a
end Go.Proofs.YtlfjdohjfmfcdaaGreatDoor
