/-
  Maps of strings that a call makes, written out.
-/
import Derived.Test.YtlfjdohjfmfcdabDoorWalkTake
import Derived.Maps.Keyed

/-! ## Maps of strings that a call makes, written out. -/
namespace Go.Proofs.YtlfjdohjfmfcdabDoor
open Go.RowKit Go.Sort Foyer.Rule

theorem ba_beq (a b : List UInt8) : ((⟨a.toArray⟩ : ByteArray) == ⟨b.toArray⟩) = decide (a = b) := by
  show (a.toArray == b.toArray) = _
  by_cases h : a = b <;> simp [h]
/-- The first entry at a key. -/
def entryAt (s : List UInt8) : List (List UInt8 × Value) → Option Value
  | [] => none
  | (k, v) :: r => if s = k then some v else entryAt s r
def entriesOf : Nat → List (List UInt8 × Value) → List MapEntry
  | _, [] => []
  | i, (k, v) :: r => { key := .string ⟨k.toArray⟩, val := v, born := i } :: entriesOf (i + 1) r
theorem findNow_at (s : List UInt8) : ∀ (l : List (List UInt8 × Value)) (j i : Nat), ∃ n, Instr.findNow .string (.string ⟨s.toArray⟩) (entriesOf j l) i = some ((entryAt s l).map fun v => (n, v))
  | [], _, _ => ⟨0, rfl⟩
  | (k, v) :: r, j, i => by
    unfold entriesOf Instr.findNow entryAt
    simp only [Instr.sameNow, ba_beq]
    by_cases h : s = k
    · rw [if_pos h, decide_eq_true h]
      exact ⟨i, rfl⟩
    · rw [if_neg h, decide_eq_false h]
      exact findNow_at s r (j + 1) (i + 1)
/-- A block that is such a map. -/
def MapB (w : World) (b : Nat) (l : List (List UInt8 × Value)) (c : Nat) : Prop := w.heap[b]? = some (.map (entriesOf 0 l).toArray c)
theorem MapB.lt {w : World} {b c : Nat} {l : List (List UInt8 × Value)} (h : MapB w b l c) : b < w.heap.size := (Array.getElem?_eq_some_iff.1 h).1
theorem MapB.kept {E : Nat → Prop} {w w' : World} {b c : Nat} {l : List (List UInt8 × Value)} (h : MapB w b l c) (k : Kp E w w') (hE : ¬ E b) : MapB w' b l c := (k.block b h.lt hE).trans h
theorem map_lookup {t K : TypeId} {E : TypeId} (ht : Tryd.prog.underlying t = some (.map K E)) (hK : Tryd.prog.underlying K = some .string) {z : Value} (w : World) (hz : (zeroValue E).run Tryd.prog w = .ok z w) {b c : Nat} {l : List (List UInt8 × Value)} (h : MapB w b l c) (s : List UInt8) :
    (Instr.lookup t (.map (some b)) (.string ⟨s.toArray⟩) false).run Tryd.prog w = .ok ((entryAt s l).getD z) w := by
  obtain ⟨n, hn⟩ := findNow_at s l 0 0
  have hk := MapKept.run_findKey (w := w) (kt := K) hK hn
  have hck : ∀ em, (Instr.checkKey em 10000 K (.string ⟨s.toArray⟩)).run Tryd.prog w = .ok () w := fun em => by
    rw [show (10000 : Nat) = 9999 + 1 from rfl]
    rw [Instr.checkKey]
    simp only [Sem.run_bind, run_underlying hK, Result.andThen_ok, Sem.run_pure]
  cases he : entryAt s l with
  | none => rw [he] at hk; simp [Instr.lookup, run_underlying ht, MapKept.run_getObj_map h, hck, hk, hz, Result.andThen]
  | some v => rw [he] at hk; simp [Instr.lookup, run_underlying ht, MapKept.run_getObj_map h, hck, hk, Result.andThen]
theorem map_insert {t K : TypeId} {E : TypeId} (ht : Tryd.prog.underlying t = some (.map K E)) (hK : Tryd.prog.underlying K = some .string) (w : World) (l : List (List UInt8 × Value)) (s : List UInt8) (v : Value) (hs : entryAt s l = none) (n : Nat) (hn : l.length = n) (b : Nat) (hb : b = w.heap.size) :
    (Instr.mapUpdate t (.map (some b)) (.string ⟨s.toArray⟩) v).run Tryd.prog (w.alloc (.map (entriesOf 0 l).toArray n)) = .ok () (w.alloc (.map (entriesOf 0 (l ++ [(s, v)])).toArray (n + 1))) := by
  subst hb
  obtain ⟨m, hm⟩ := findNow_at s l 0 0
  rw [hs] at hm
  have hk := MapKept.run_findKey (w := w.alloc (.map (entriesOf 0 l).toArray n)) (kt := K) hK hm
  have hck : ∀ em, (Instr.checkKey em 10000 K (.string ⟨s.toArray⟩)).run Tryd.prog (w.alloc (.map (entriesOf 0 l).toArray n)) = .ok () (w.alloc (.map (entriesOf 0 l).toArray n)) := fun em => by
    rw [show (10000 : Nat) = 9999 + 1 from rfl]
    rw [Instr.checkKey]
    simp only [Sem.run_bind, run_underlying hK, Result.andThen_ok, Sem.run_pure]
  have hh : (w.alloc (.map (entriesOf 0 l).toArray n)).heap[w.heap.size]? = some (.map (entriesOf 0 l).toArray n) := (MapKept.heap_alloc w _).1
  have he : ∀ (l : List (List UInt8 × Value)) (j : Nat), entriesOf j (l ++ [(s, v)]) = entriesOf j l ++ [{ key := .string ⟨s.toArray⟩, val := v, born := j + l.length }] := by
    intro l
    induction l with
    | nil => intro j; rfl
    | cons x r ih => intro j; rw [List.cons_append, entriesOf, entriesOf, ih, List.cons_append, List.length_cons, show j + 1 + r.length = j + (r.length + 1) by omega]
  rw [he l 0, hn, Nat.zero_add]
  have hset : ∀ (o : Obj), (setObj w.heap.size o).run Tryd.prog (w.alloc (.map (entriesOf 0 l).toArray n)) = .ok () (w.alloc o) := fun o => by
    rw [MapKept.run_setObj_map o hh]
    have e : (w.alloc (.map (entriesOf 0 l).toArray n)).heap.setIfInBounds w.heap.size o = (w.alloc o).heap := by
      show (w.heap.push _).setIfInBounds w.heap.size o = w.heap.push o
      apply Array.ext_getElem?
      intro i
      rw [Array.getElem?_setIfInBounds, Array.getElem?_push, Array.getElem?_push]
      by_cases hi : w.heap.size = i
      · subst hi; simp
      · rw [if_neg hi, if_neg (fun h => hi h.symm), if_neg (fun h => hi h.symm)]
    rw [e]; rfl
  simp [Instr.mapUpdate, run_underlying ht, MapKept.run_getObj_map hh, hck, hk, hset, Result.andThen]
end Go.Proofs.YtlfjdohjfmfcdabDoor

/-! ## What rules, lists of tests and tests are in memory. -/
namespace Go.Proofs.YtlfjdohjfmfcdabDoor
open Go.RowKit Go.Sort Foyer.Rule

/-- How the cells of a struct are read, with the blocks that they lead to. -/
structure Kind (α : Type) where
  is : World → (Nat → Prop) → List Value → α → Prop
  size : Nat
  kept : ∀ {W W' F c a}, is W F c a → (∀ k, F k → k < W.heap.size → W'.heap[k]? = W.heap[k]?) → is W' F c a
  mono : ∀ {W F F' c a}, is W F c a → (∀ k, F k → k < W.heap.size → F' k) → is W F' c a
  len : ∀ {W F c a}, is W F c a → c.length = size
  one : ∀ {W F c a}, is W F c a → ∀ u ∈ c, u.oneCell' = true
section
variable {α : Type}
theorem All2.imp {β : Type} {R S : β → α → Prop} {bs : List β} {xs : List α} (h : All2 R bs xs) (hi : ∀ b x, R b x → S b x) : All2 S bs xs := by
  induction h with
  | nil => exact .nil
  | cons h _ ih => exact .cons (hi _ _ h) ih
theorem All2.snoc {β : Type} {R : β → α → Prop} {bs : List β} {xs : List α} (h : All2 R bs xs) {b : β} {x : α} (hb : R b x) : All2 R (bs ++ [b]) (xs ++ [x]) := by
  induction h with
  | nil => exact .cons hb .nil
  | cons h _ ih => exact .cons h ih
theorem All2.length {β : Type} {R : β → α → Prop} {bs : List β} {xs : List α} (h : All2 R bs xs) : bs.length = xs.length := by
  induction h with
  | nil => rfl
  | cons _ _ ih => simp [ih]
theorem All2.at {β : Type} {R : β → α → Prop} {bs : List β} {xs : List α} (h : All2 R bs xs) : ∀ {i : Nat} {x : α}, xs[i]? = some x → ∃ b, bs[i]? = some b ∧ R b x := by
  induction h with
  | nil => intro i x hx; simp at hx
  | cons h _ ih =>
    intro i x hx
    cases i with
    | zero => simp only [List.getElem?_cons_zero, Option.some.injEq] at hx; subst hx; exact ⟨_, rfl, h⟩
    | succ i => exact ih (by simpa using hx)
/-- A list that is read. -/
def IsList (K : Kind α) (W : World) (F : Nat → Prop) (T : TypeId) (v : Value) (xs : List α) : Prop :=
  ∃ css, Con W 0 T K.size v css ∧ (∀ k, v.ownBlock = some k → F k) ∧ All2 (K.is W F) css xs
theorem IsList.kept {K : Kind α} {W W' : World} {F : Nat → Prop} {T : TypeId} {v : Value} {xs : List α} (h : IsList K W F T v xs) (hk : ∀ k, F k → k < W.heap.size → W'.heap[k]? = W.heap[k]?) : IsList K W' F T v xs := by
  obtain ⟨css, h1, h2, h3⟩ := h
  exact ⟨css, h1.of_block fun k hv => hk k (h2 k hv) (own_lt h1.own hv).2, h2, All2.imp h3 fun _ _ h => K.kept h hk⟩
theorem IsList.mono {K : Kind α} {W : World} {F F' : Nat → Prop} {T : TypeId} {v : Value} {xs : List α} (h : IsList K W F T v xs) (hk : ∀ k, F k → k < W.heap.size → F' k) : IsList K W F' T v xs := by
  obtain ⟨css, h1, h2, h3⟩ := h
  exact ⟨css, h1, fun k hv => hk k (h2 k hv) (own_lt h1.own hv).2, All2.imp h3 fun _ _ h => K.mono h hk⟩
theorem IsList.one {K : Kind α} {W : World} {F : Nat → Prop} {T : TypeId} {v : Value} {xs : List α} (h : IsList K W F T v xs) : v.oneCell' = true := by
  obtain ⟨css, h1, _⟩ := h
  rcases h1.form with ⟨rfl, _⟩ | ⟨g, cap, cur, rfl, _⟩ <;> rfl
theorem IsList.slice {K : Kind α} {W : World} {F : Nat → Prop} {T : TypeId} {v : Value} {xs : List α} (h : IsList K W F T v xs) : ∃ a n c, v = .slice a n c := by
  obtain ⟨css, h1, _⟩ := h
  rcases h1.form with ⟨rfl, _⟩ | ⟨g, cap, cur, rfl, _⟩ <;> exact ⟨_, _, _, rfl⟩
/-- A list that is being built: its parts lie in F. -/
def Building (K : Kind α) (W : World) (F : Nat → Prop) (B : Nat) (T : TypeId) (v : Value) (xs : List α) : Prop := ∃ css, Con W B T K.size v css ∧ All2 (K.is W F) css xs
theorem building_nil (K : Kind α) (W : World) (F : Nat → Prop) (B : Nat) (T : TypeId) : Building K W F B T (.slice none 0 0) [] := ⟨[], con_nil W B T K.size, .nil⟩
/-- Both at once: the world changes elsewhere, and the blocks are told anew. -/
theorem Kind.moved (K : Kind α) {W W' : World} {F F' : Nat → Prop} {c : List Value} {a : α} (h : K.is W F c a) (hk : ∀ k, F k → k < W.heap.size → W'.heap[k]? = W.heap[k]?) (hF : ∀ k, F k → k < W.heap.size → F' k) : K.is W' F' c a := by
  have h1 := K.mono (F' := fun k => F k ∧ k < W.heap.size) h fun k h1 h2 => ⟨h1, h2⟩
  have h2 := K.kept (W' := W') h1 fun k h3 h4 => hk k h3.1 h4
  exact K.mono h2 fun k h3 _ => hF k h3.1 h3.2
theorem Building.kept {K : Kind α} {W W' : World} {F F' : Nat → Prop} {B : Nat} {T : TypeId} {v : Value} {xs : List α} (h : Building K W F B T v xs) (hv : ∀ k, v.ownBlock = some k → W'.heap[k]? = W.heap[k]?) (hk : ∀ k, F k → k < W.heap.size → W'.heap[k]? = W.heap[k]?) (hF : ∀ k, F k → k < W.heap.size → F' k) : Building K W' F' B T v xs := by
  obtain ⟨css, h1, h3⟩ := h
  exact ⟨css, h1.of_block hv, All2.imp h3 fun _ _ h => K.moved h hk hF⟩
theorem Building.lt {K : Kind α} {W : World} {F : Nat → Prop} {B : Nat} {T : TypeId} {v : Value} {xs : List α} (h : Building K W F B T v xs) {k : Nat} (hk : v.ownBlock = some k) : B ≤ k ∧ k < W.heap.size := let ⟨_, h1, _⟩ := h; own_lt h1.own hk
theorem Building.one {K : Kind α} {W : World} {F : Nat → Prop} {B : Nat} {T : TypeId} {v : Value} {xs : List α} (h : Building K W F B T v xs) : v.oneCell' = true := by
  obtain ⟨css, h1, _⟩ := h
  rcases h1.form with ⟨rfl, _⟩ | ⟨g, cap, cur, rfl, _⟩ <;> rfl
/-- A list that is built to its end is one that is read. -/
theorem Building.done {K : Kind α} {W : World} {F F' : Nat → Prop} {B : Nat} {T : TypeId} {v : Value} {xs : List α} (h : Building K W F B T v xs) (hF : ∀ k, F k → k < W.heap.size → F' k) (hv : ∀ k, B ≤ k → F' k) : IsList K W F' T v xs := by
  obtain ⟨css, h1, h3⟩ := h
  exact ⟨css, h1.base (Nat.zero_le _), fun k hk => hv k (own_lt h1.own hk).1, All2.imp h3 fun _ _ h => K.mono h hF⟩
end

/-! ### Tests, lists of tests, rules -/
/-- What lies in its own cells alone. -/
def plainK {α : Type} (C : α → List Value) (n : Nat) (hn : ∀ a, (C a).length = n) (h1 : ∀ a, ∀ u ∈ C a, u.oneCell' = true) : Kind α where
  is _ _ c a := c = C a
  size := n
  kept h _ := h
  mono h _ := h
  len h := by subst h; exact hn _
  one h := by subst h; exact h1 _
def testCl (t : TestP) : List Value := [.string ⟨t.attr.toArray⟩, .int .i64 (t.op : Nat), .string ⟨t.name.toArray⟩, .int .i64 (t.n : Nat), .int .i64 (t.pos : Nat)]
def testK : Kind TestP := plainK testCl 5 (fun _ => rfl) (fun a u hu => by simp only [testCl, List.mem_cons, List.not_mem_nil, or_false] at hu; rcases hu with rfl | rfl | rfl | rfl | rfl <;> rfl)
def testsK : Kind (List TestP) where
  is W F c l := ∃ v, c = [v] ∧ IsList testK W F 32 v l
  size := 1
  kept h hk := let ⟨v, h1, h2⟩ := h; ⟨v, h1, h2.kept hk⟩
  mono h hk := let ⟨v, h1, h2⟩ := h; ⟨v, h1, h2.mono hk⟩
  len h := by obtain ⟨v, rfl, _⟩ := h; rfl
  one h := by
    obtain ⟨v, rfl, h⟩ := h
    intro u hu
    rw [List.mem_singleton] at hu
    subst hu
    exact h.one
def itemCl (kd : Nat) (nm : List UInt8) (v : Value) (h : HeadP) (pos : Nat) : List Value := [.int .i64 (kd : Nat), .string ⟨nm.toArray⟩, v, .int .i64 (h.n : Nat), .int .i64 (h.rn : Nat), .int .i64 (h.rd : Nat), .int .i64 (h.sn : Nat), .int .i64 (h.sd : Nat), .int .i64 (pos : Nat)]
def itemK : Kind ItemP where
  is W F c x := ∃ v, c = itemCl x.kind x.name v x.head x.pos ∧ IsList testsK W F 33 v x.conds
  size := 9
  kept h hk := let ⟨v, h1, h2⟩ := h; ⟨v, h1, h2.kept hk⟩
  mono h hk := let ⟨v, h1, h2⟩ := h; ⟨v, h1, h2.mono hk⟩
  len h := by obtain ⟨v, rfl, _⟩ := h; rfl
  one h := by
    obtain ⟨v, rfl, h⟩ := h
    intro u hu
    simp only [itemCl, List.mem_cons, List.not_mem_nil, or_false] at hu
    rcases hu with rfl | rfl | rfl | rfl | rfl | rfl | rfl | rfl | rfl <;> first | rfl | exact h.one
def KindV {α : Type} (K : Kind α) (n : Nat) (a : α) (e : Ending) (w' : World) : Prop := ∃ c, e = .returned (.agg c.toArray) ∧ K.is w' (fun k => n ≤ k) c a
def ListV {α : Type} (K : Kind α) (T : TypeId) (n : Nat) (xs : List α) (e : Ending) (w' : World) : Prop := ∃ v, e = .returned v ∧ IsList K w' (fun k => n ≤ k) T v xs
theorem info_parts' {P : Program} {T : TypeId} {z : Option Value} {m b : Nat} (h : (P.info? T).map (fun i => (i.zero, i.size, i.bytes)) = some (z, m, b)) : ∃ i, P.info? T = some i ∧ i.zero = z ∧ i.size = m ∧ i.bytes = b := by
  cases hi : P.info? T with
  | none => rw [hi] at h; cases h
  | some i => rw [hi] at h; simp only [Option.map_some, Option.some.injEq, Prod.mk.injEq] at h; exact ⟨i, rfl, h.1, h.2.1, h.2.2⟩
/-- A list of one struct that was just made. -/
theorem con_one {W : World} {B T m b : Nat} {c : List Value} (h : Blk W b T c) (hB : B ≤ b) (hc : c.length = m) : Con W B T m (.slice (some ⟨b, 0, none⟩) 1 1) [c] := by
  refine ⟨⟨by simp [hc], Or.inr ⟨b, 1, c.toArray, rfl, hB, h, Nat.le_refl _, by unfold maxLen; omega, by simp [hc], ?_⟩⟩, fun cs hcs => ?_⟩
  · rw [← hc]; simp
  · rw [List.mem_singleton] at hcs; subst hcs; exact hc
theorem Building.len {α : Type} {K : Kind α} {W : World} {F : Nat → Prop} {B : Nat} {T : TypeId} {v : Value} {xs : List α} (h : Building K W F B T v xs) : ∃ a cap, v = .slice a xs.length cap := by
  obtain ⟨css, h1, h3⟩ := h
  have hl := All2.length h3
  rcases h1.form with ⟨rfl, hn⟩ | ⟨g, cap, cur, rfl, _⟩
  · rw [hn] at hl; exact ⟨none, 0, by rw [← hl]; rfl⟩
  · exact ⟨_, cap, by rw [hl]⟩
/-- What is appended: one struct. -/
theorem wpList_append_con {w : World} {B T t m bytes : Nat} {i0 : TypeInfo} {z : Value} (ht : Tryd.prog.underlying t = some (.slice T)) (hi : Tryd.prog.info? T = some i0) (hz0 : i0.zero = some z) (hz1 : i0.size = m) (hz2 : i0.bytes = bytes) (hzs : z.cells.size = m) (hm : 0 < m) (hby : bytes ≤ 200)
    {ops : Array Oper} {rest : List Oper} {o : Oper} {a : Act} {Q : Exit → Act → World → Prop} (hgd : o.guard = none) (s x : Operand)
    (hop : o.op = Op.call { callee := Callee.builtin Builtin.append, args := #[s, x], argTypes := #[t, t] })
    (v : Value) (css : List (List Value)) (c : List Value) (hs : a.eval s = v) (hown : Con w B T m v css) (b : Nat) (hx : a.eval x = .slice (some ⟨b, 0, none⟩) 1 1)
    (hc : Blk w b T c) (hcl : c.length = m) (h1 : ∀ u ∈ c, u.oneCell' = true) (hlen : css.length + 1 ≤ 1000000) (hB : B ≤ w.heap.size)
    (hK : ∀ v' w', Con w' B T m v' (css ++ [c]) → w.grownBy w' v.ownBlock → (v'.ownBlock = v.ownBlock ∨ v'.ownBlock = some w.heap.size) → v'.oneCell' = true → wpList Tryd.prog ops Q rest (a.put o.dst v') w') : wpList Tryd.prog ops Q (o :: rest) a w := by
  refine wpList_plain hgd fun K hK' => ?_
  exact con_append ht hi hz0 hz1 hz2 hzs hm hby s x hop v css c hs hown b hx hc hcl h1 hlen hB fun v' w' h2 h3 h4 h5 => hK' _ _ (hK v' w' h2 h3 h4 h5)
/-- What lies behind a list's elements. -/
theorem IsList.at {α : Type} {K : Kind α} {W : World} {F : Nat → Prop} {T : TypeId} {v : Value} {xs : List α} (h : IsList K W F T v xs) {i : Nat} {x : α} (hx : xs[i]? = some x) :
    ∃ g cap c, v = .slice (some ⟨g, 0, none⟩) xs.length cap ∧ xs.length ≤ cap ∧ cap ≤ maxLen ∧ F g ∧ g < W.heap.size ∧ K.is W F c x ∧ ∀ j u, c[j]? = some u → W.cell? ⟨g, i * K.size + j, none⟩ = some u := by
  obtain ⟨css, h1, h2, h3⟩ := h
  obtain ⟨c, hc, hcx⟩ := All2.at h3 hx
  have hl := All2.length h3
  rcases h1.form with ⟨rfl, hn⟩ | ⟨g, cap, cur, rfl, hB, hg, hh, hcap, hm, hcell⟩
  · rw [hn] at hc; simp at hc
  · exact ⟨g, cap, c, by rw [hl], by omega, hm, h2 g rfl, hg, hcx, fun j u hj => hcell i c j u hc hj⟩
theorem IsList.len {α : Type} {K : Kind α} {W : World} {F : Nat → Prop} {T : TypeId} {v : Value} {xs : List α} (h : IsList K W F T v xs) : ∃ a cap, v = .slice a xs.length cap := by
  obtain ⟨css, h1, h2, h3⟩ := h
  have hl := All2.length h3
  rcases h1.form with ⟨rfl, hn⟩ | ⟨g, cap, cur, rfl, hB, hg, hh, hcap, hm, hcell⟩
  · rw [hn] at hl; exact ⟨none, 0, by rw [← hl]; rfl⟩
  · exact ⟨_, cap, by rw [hl]⟩
theorem IsList.late {α : Type} {K : Kind α} {F : Nat → Prop} {T : TypeId} {v : Value} {xs : List α} {w' w2 : World} (h : IsList K w' F T v xs) (hb : Below w'.heap.size w' w2) : IsList K w2 F T v xs := h.kept fun k _ hlt => hb.block k hlt
end Go.Proofs.YtlfjdohjfmfcdabDoor
