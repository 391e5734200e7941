/-
  Halls that are read, wherever they lie below a bound; halls that are arguments, opened; short lists in memory.
-/
import Derived.Test.YtdmancneccfgeaaMathHall
import Derived.Test.YtdmancneccfgeaaHeap
import Derived.Deep.Slices
import Derived.Lib.SmallJoins
import Derived.ProofKit
import Derived.OpenShut
import Derived.LaidMore
import Derived.Stop.LaidErr
import Derived.Deep.DeepHandedRow
import Derived.Deep.DeepWitnessRowRef
import Derived.MakeChecks
import Derived.Carry
namespace Go.Proofs.Ytdmancneccfgeaa.Hl
open Go.RowKit Go.Sort Foyer.Hall Go.ChangeShapes Go.WideShapes

/-! ### Numbers and names that a call can take -/
def intOk (n : Int) : Prop := -9223372036854775808 ≤ n ∧ n ≤ 9223372036854775807
def nmOk (l : List UInt8) : Prop := l.length ≤ 1000000
def BoxZ.Fit (b : BoxZ) : Prop := intOk b.x ∧ intOk b.y ∧ intOk b.x2 ∧ intOk b.y2
def PointZ.Fit (p : PointZ) : Prop := intOk p.x ∧ intOk p.y
def MarkZ.Fit (m : MarkZ) : Prop := intOk m.kind ∧ intOk m.seat ∧ intOk m.other
def AreaZ.Fit (a : AreaZ) : Prop := nmOk a.name ∧ BoxZ.Fit a.box ∧ intOk a.holds
structure RowZ.Fit (r : RowZ) : Prop where
  name : nmOk r.name
  x : intOk r.x
  y : intOk r.y
  first : intOk r.first
  last : intOk r.last
  step : intOk r.step
  marks : ∀ m ∈ r.marks, MarkZ.Fit m
def BlockZ.Fit (b : BlockZ) : Prop := nmOk b.name ∧ ∀ r ∈ b.rows, RowZ.Fit r
structure LevelZ.Fit (l : LevelZ) : Prop where
  name : nmOk l.name
  height : intOk l.height
  blocks : ∀ x ∈ l.blocks, BlockZ.Fit x
  areas : ∀ x ∈ l.areas, AreaZ.Fit x
  aisles : ∀ x ∈ l.aisles, BoxZ.Fit x
  pillars : ∀ x ∈ l.pillars, BoxZ.Fit x
  doors : ∀ x ∈ l.doors, PointZ.Fit x
def HallZ.Fit (h : HallZ) : Prop := nmOk h.name ∧ PointZ.Fit h.stage ∧ ∀ l ∈ h.levels, LevelZ.Fit l

/-! ### What is read -/
/-- How the cells of a struct are read; all blocks that they lead to lie below a bound. -/
structure Look (α : Type) where
  is : World → Nat → List Value → α → Prop
  size : Nat
  kept : ∀ {W W' B c a}, is W B c a → (∀ k, k < B → W'.heap[k]? = W.heap[k]?) → is W' B c a
  mono : ∀ {W B B' c a}, is W B c a → B ≤ B' → is W B' c a
  len : ∀ {W B c a}, is W B c a → c.length = size
  one : ∀ {W B c a}, is W B c a → ∀ u ∈ c, u.oneCell' = true
/-- A list that is read. -/
def Lk {α : Type} (K : Look α) (W : World) (B : Nat) (v : Value) (xs : List α) : Prop :=
  ∃ p cap, v = .slice p xs.length cap ∧ xs.length ≤ cap ∧ cap ≤ maxLen ∧
    (xs = [] ∨ ∃ b off, p = some ⟨b, off, none⟩ ∧ b < B ∧ ∀ i x, xs[i]? = some x → ∃ c, K.is W B c x ∧ ∀ j u, c[j]? = some u → W.cell? ⟨b, off + i * K.size + j, none⟩ = some u)
section
variable {α : Type} {K : Look α} {W W' : World} {B B' : Nat} {v : Value} {xs : List α}
theorem cell_same {W W' : World} {b o : Nat} (h : W'.heap[b]? = W.heap[b]?) : W'.cell? ⟨b, o, none⟩ = W.cell? ⟨b, o, none⟩ := by
  unfold World.cell?
  rw [show W'.heap[(⟨b, o, none⟩ : Addr).block]? = W.heap[(⟨b, o, none⟩ : Addr).block]? from h]
theorem Lk.kept (h : Lk K W B v xs) (hk : ∀ k, k < B → W'.heap[k]? = W.heap[k]?) : Lk K W' B v xs := by
  obtain ⟨p, cap, hv, h1, h2, h3⟩ := h
  refine ⟨p, cap, hv, h1, h2, h3.imp id ?_⟩
  rintro ⟨b, off, hp, hb, h⟩
  refine ⟨b, off, hp, hb, fun i x hx => ?_⟩
  obtain ⟨c, hc, hcell⟩ := h i x hx
  exact ⟨c, K.kept hc hk, fun j u hj => (cell_same (hk b hb)).trans (hcell j u hj)⟩
theorem Lk.mono (h : Lk K W B v xs) (hB : B ≤ B') : Lk K W B' v xs := by
  obtain ⟨p, cap, hv, h1, h2, h3⟩ := h
  refine ⟨p, cap, hv, h1, h2, h3.imp id ?_⟩
  rintro ⟨b, off, hp, hb, h⟩
  refine ⟨b, off, hp, Nat.lt_of_lt_of_le hb hB, fun i x hx => ?_⟩
  obtain ⟨c, hc, hcell⟩ := h i x hx
  exact ⟨c, K.mono hc hB, hcell⟩
theorem Lk.below (h : Lk K W B v xs) (hb : Below B W W') : Lk K W' B v xs := h.kept hb.block
theorem Lk.one (h : Lk K W B v xs) : v.oneCell' = true := by obtain ⟨p, cap, rfl, _⟩ := h; rfl
theorem Lk.slice (h : Lk K W B v xs) : ∃ p cap, v = .slice p xs.length cap := by obtain ⟨p, cap, rfl, _⟩ := h; exact ⟨p, cap, rfl⟩
/-- What lies behind a list's elements. -/
theorem Lk.at {p : Option Addr} {n cap : Nat} (h : Lk K W B (.slice p n cap) xs) {i : Nat} {x : α} (hx : xs[i]? = some x) :
    ∃ b off c, p = some ⟨b, off, none⟩ ∧ b < B ∧ K.is W B c x ∧ ∀ j u, c[j]? = some u → W.cell? ⟨b, off + i * K.size + j, none⟩ = some u := by
  obtain ⟨p', cap', hv, h1, h2, h3⟩ := h
  injection hv with e1 e2 e3
  subst e1
  rcases h3 with rfl | ⟨b, off, hp, hb, h⟩
  · simp at hx
  · obtain ⟨c, hc, hcell⟩ := h i x hx
    exact ⟨b, off, c, hp, hb, hc, hcell⟩
theorem Lk.len {p : Option Addr} {n cap : Nat} (h : Lk K W B (.slice p n cap) xs) : xs.length = n ∧ n ≤ maxLen := by
  obtain ⟨p', cap', hv, h1, h2, h3⟩ := h
  injection hv with e1 e2 e3
  exact ⟨e2.symm, by omega⟩
end
/-- What lies in its own cells alone. -/
def plainL {α : Type} (C : α → List Value) (n : Nat) (hn : ∀ a, (C a).length = n) (h1 : ∀ a, ∀ u ∈ C a, u.oneCell' = true) : Look α where
  is _ _ c a := c = C a
  size := n
  kept h _ := h
  mono h _ := h
  len h := by subst h; exact hn _
  one h := by subst h; exact h1 _
def markZC (m : MarkZ) : List Value := [.int .i64 m.kind, .int .i64 m.seat, .int .i64 m.other]
def boxZC (b : BoxZ) : List Value := [.int .i64 b.x, .int .i64 b.y, .int .i64 b.x2, .int .i64 b.y2]
def pointZC (p : PointZ) : List Value := [.int .i64 p.x, .int .i64 p.y]
def areaZC (a : AreaZ) : List Value := [.string ⟨a.name.toArray⟩, .int .i64 a.box.x, .int .i64 a.box.y, .int .i64 a.box.x2, .int .i64 a.box.y2, .int .i64 a.holds, .int .i64 a.pos]
def markL : Look MarkZ := plainL markZC 3 (fun _ => rfl) (fun a u hu => by simp only [markZC, List.mem_cons, List.not_mem_nil, or_false] at hu; rcases hu with rfl | rfl | rfl <;> rfl)
def boxL : Look BoxZ := plainL boxZC 4 (fun _ => rfl) (fun a u hu => by simp only [boxZC, List.mem_cons, List.not_mem_nil, or_false] at hu; rcases hu with rfl | rfl | rfl | rfl <;> rfl)
def pointL : Look PointZ := plainL pointZC 2 (fun _ => rfl) (fun a u hu => by simp only [pointZC, List.mem_cons, List.not_mem_nil, or_false] at hu; rcases hu with rfl | rfl <;> rfl)
def areaL : Look AreaZ := plainL areaZC 7 (fun _ => rfl) (fun a u hu => by simp only [areaZC, List.mem_cons, List.not_mem_nil, or_false] at hu; rcases hu with rfl | rfl | rfl | rfl | rfl | rfl | rfl <;> rfl)
def rowZC (r : RowZ) (v : Value) : List Value := [.string ⟨r.name.toArray⟩, .int .i64 r.x, .int .i64 r.y, .int .i64 r.first, .int .i64 r.last, .int .i64 r.step, v, .int .i64 r.pos]
def rowL : Look RowZ where
  is W B c r := ∃ v, c = rowZC r v ∧ Lk markL W B v r.marks
  size := 8
  kept h hk := let ⟨v, h1, h2⟩ := h; ⟨v, h1, h2.kept hk⟩
  mono h hk := let ⟨v, h1, h2⟩ := h; ⟨v, h1, h2.mono hk⟩
  len h := by obtain ⟨v, rfl, _⟩ := h; rfl
  one h := by
    obtain ⟨v, rfl, h⟩ := h
    intro u hu
    simp only [rowZC, List.mem_cons, List.not_mem_nil, or_false] at hu
    rcases hu with rfl | rfl | rfl | rfl | rfl | rfl | rfl | rfl <;> first | rfl | exact h.one
def blockZC (b : BlockZ) (v : Value) : List Value := [.string ⟨b.name.toArray⟩, v, .int .i64 b.pos]
def blockL : Look BlockZ where
  is W B c b := ∃ v, c = blockZC b v ∧ Lk rowL W B v b.rows
  size := 3
  kept h hk := let ⟨v, h1, h2⟩ := h; ⟨v, h1, h2.kept hk⟩
  mono h hk := let ⟨v, h1, h2⟩ := h; ⟨v, h1, h2.mono hk⟩
  len h := by obtain ⟨v, rfl, _⟩ := h; rfl
  one h := by
    obtain ⟨v, rfl, h⟩ := h
    intro u hu
    simp only [blockZC, List.mem_cons, List.not_mem_nil, or_false] at hu
    rcases hu with rfl | rfl | rfl <;> first | rfl | exact h.one
def levelZC (l : LevelZ) (v1 v2 v3 v4 v5 : Value) : List Value := [.string ⟨l.name.toArray⟩, .int .i64 l.height, v1, v2, v3, v4, v5, .int .i64 l.pos]
structure LevelIn (W : World) (B : Nat) (l : LevelZ) (v1 v2 v3 v4 v5 : Value) : Prop where
  blocks : Lk blockL W B v1 l.blocks
  areas : Lk areaL W B v2 l.areas
  aisles : Lk boxL W B v3 l.aisles
  pillars : Lk boxL W B v4 l.pillars
  doors : Lk pointL W B v5 l.doors
theorem LevelIn.kept {W W' : World} {B : Nat} {l : LevelZ} {v1 v2 v3 v4 v5 : Value} (h : LevelIn W B l v1 v2 v3 v4 v5) (hk : ∀ k, k < B → W'.heap[k]? = W.heap[k]?) : LevelIn W' B l v1 v2 v3 v4 v5 :=
  ⟨h.blocks.kept hk, h.areas.kept hk, h.aisles.kept hk, h.pillars.kept hk, h.doors.kept hk⟩
def levelL : Look LevelZ where
  is W B c l := ∃ v1 v2 v3 v4 v5, c = levelZC l v1 v2 v3 v4 v5 ∧ LevelIn W B l v1 v2 v3 v4 v5
  size := 8
  kept h hk := let ⟨v1, v2, v3, v4, v5, h1, h⟩ := h; ⟨v1, v2, v3, v4, v5, h1, h.kept hk⟩
  mono h hk := let ⟨v1, v2, v3, v4, v5, h1, h⟩ := h; ⟨v1, v2, v3, v4, v5, h1, h.blocks.mono hk, h.areas.mono hk, h.aisles.mono hk, h.pillars.mono hk, h.doors.mono hk⟩
  len h := by obtain ⟨v1, v2, v3, v4, v5, rfl, _⟩ := h; rfl
  one h := by
    obtain ⟨v1, v2, v3, v4, v5, rfl, h⟩ := h
    intro u hu
    simp only [levelZC, List.mem_cons, List.not_mem_nil, or_false] at hu
    rcases hu with rfl | rfl | rfl | rfl | rfl | rfl | rfl | rfl
    · rfl
    · rfl
    · exact h.blocks.one
    · exact h.areas.one
    · exact h.aisles.one
    · exact h.pillars.one
    · exact h.doors.one
    · rfl
def hallZC (h : HallZ) (v : Value) : List Value := [.string ⟨h.name.toArray⟩, .int .i64 h.stage.x, .int .i64 h.stage.y, v]
/-! ### Numbers in their range, whatever the names are -/
def AreaZ.Wide (a : AreaZ) : Prop := BoxZ.Fit a.box ∧ intOk a.holds
structure RowZ.Wide (r : RowZ) : Prop where
  x : intOk r.x
  y : intOk r.y
  first : intOk r.first
  last : intOk r.last
  step : intOk r.step
  marks : ∀ m ∈ r.marks, MarkZ.Fit m
def BlockZ.Wide (b : BlockZ) : Prop := ∀ r ∈ b.rows, RowZ.Wide r
structure LevelZ.Wide (l : LevelZ) : Prop where
  height : intOk l.height
  blocks : ∀ x ∈ l.blocks, BlockZ.Wide x
  areas : ∀ x ∈ l.areas, AreaZ.Wide x
  aisles : ∀ x ∈ l.aisles, BoxZ.Fit x
  pillars : ∀ x ∈ l.pillars, BoxZ.Fit x
  doors : ∀ x ∈ l.doors, PointZ.Fit x
def HallZ.Wide (h : HallZ) : Prop := PointZ.Fit h.stage ∧ ∀ l ∈ h.levels, LevelZ.Wide l
/-! ### Opening -/
def Op {α : Type} (K : Look α) (F : α → Prop) (t : TypeId) : Prop :=
  ∀ {H : Type} (enc : TypeId × Value → H) (W : World) (spare : Nat → Bool) (held : Bool) (fuel : Nat) (cs : List Value) (x : DataW H × List MemPlace),
    DataW.trod enc Try.prog W 0 spare held fuel t cs = some x → ∃ a, K.is W W.heap.size cs a ∧ F a
def OpL {α : Type} (K : Look α) (F : α → Prop) (t : TypeId) : Prop :=
  ∀ {H : Type} (enc : TypeId × Value → H) (W : World) (spare : Nat → Bool) (held : Bool) (fuel : Nat) (cs : List Value) (x : DataW H × List MemPlace),
    DataW.trod enc Try.prog W 0 spare held fuel t cs = some x → ∃ v xs, cs = [v] ∧ Lk K W W.heap.size v xs ∧ ∀ y ∈ xs, F y
theorem list_of {α : Type} {P : Nat → α → Prop} : ∀ (n : Nat), (∀ i, i < n → ∃ y, P i y) → ∃ l : List α, l.length = n ∧ ∀ i y, l[i]? = some y → P i y
  | 0, _ => ⟨[], rfl, fun i y h => by simp at h⟩
  | n + 1, h => by
    obtain ⟨l, hl, hp⟩ := list_of n fun i hi => h i (Nat.lt_succ_of_lt hi)
    obtain ⟨y, hy⟩ := h n (Nat.lt_succ_self n)
    refine ⟨l ++ [y], by simp [hl], fun i z hz => ?_⟩
    by_cases hi : i < l.length
    · rw [List.getElem?_append_left hi] at hz; exact hp i z hz
    · rw [List.getElem?_append_right (by omega)] at hz
      have : i - l.length = 0 := by
        have := (List.getElem?_eq_some_iff.1 hz).1
        simp at this; omega
      rw [this] at hz
      obtain rfl : y = z := by simpa using hz
      rw [show i = n by omega]
      exact hy
theorem spot_none {W : World} {b o : Nat} {s : Option _} {v : Value} (h : W.cell? ⟨b, o, s⟩ = some v) : s = none := by
  unfold World.cell? at h
  cases s with
  | none => rfl
  | some _ => split at h <;> simp at h
theorem slice_op {α : Type} {K : Look α} {F : α → Prop} {t e : TypeId} (ht : Try.prog.underlying t = some (.slice e)) (hc : Try.prog.cellsOf e = K.size) (hpos : 0 < K.size) (hk : Op K F e) : OpL K F t := by
  intro H enc W spare held fuel cs x h
  rcases Go.Deep.open_slice ht h with ⟨rfl, _⟩ | ⟨a, len, cap, m, n, D, Pl, rfl, _, hl, hm, hmm, _, hx⟩
  · exact ⟨_, [], rfl, ⟨none, 0, rfl, Nat.le_refl _, Nat.zero_le _, Or.inl rfl⟩, by simp⟩
  · have hlm : len ≤ m := by rw [hmm]; split <;> omega
    have each : ∀ i, i < len → ∃ y : α, (∃ c, K.is W W.heap.size c y ∧ ∀ j u, c[j]? = some u → W.cell? (a.add (i * K.size + j)) = some u) ∧ F y := by
      intro i hi
      obtain ⟨cs', h1, h2⟩ := hx i (by omega)
      obtain ⟨_, hlen, hcell⟩ := World.cells?_some h1
      obtain ⟨y, hy, hF⟩ := hk enc W spare held n cs' _ h2
      refine ⟨y, ⟨cs', hy, fun j u hj => ?_⟩, hF⟩
      have := hcell j (by have := (List.getElem?_eq_some_iff.1 hj).1; omega)
      rw [hc, Go.Deep.add_add] at this
      rw [this]; exact hj
    obtain ⟨l, hll, hl2⟩ := list_of len each
    refine ⟨_, l, rfl, ⟨some a, cap, by rw [hll], by omega, hm, ?_⟩, fun y hy => ?_⟩
    · cases l with
      | nil => exact Or.inl rfl
      | cons y r =>
        right
        obtain ⟨⟨c, hc1, hc2⟩, _⟩ := hl2 0 y rfl
        have hcl := K.len hc1
        obtain ⟨u, hu⟩ : ∃ u, c[0]? = some u := ⟨_, List.getElem?_eq_getElem (by omega)⟩
        have h0 := hc2 0 u hu
        rw [Nat.zero_mul, Nat.add_zero] at h0
        obtain ⟨ab, ao, asp⟩ := a
        have h0' : W.cell? ⟨ab, ao, asp⟩ = some u := h0
        obtain rfl := spot_none h0'
        refine ⟨ab, ao, rfl, lt_of_cell h0', fun i z hz => ?_⟩
        obtain ⟨⟨c', k1, k2⟩, _⟩ := hl2 i z hz
        refine ⟨c', k1, fun j u hj => ?_⟩
        have := k2 j u hj
        rw [add_plain] at this
        rw [Nat.add_assoc]; exact this
    · obtain ⟨i, hi⟩ := List.getElem?_of_mem hy
      exact (hl2 i y hi).2
section
variable {H : Type} {enc : TypeId × Value → H} {W : World} {spare : Nat → Bool} {held : Bool} {n i o : Nat} {cs : List Value} {xs : List (DataW H × List MemPlace)}
theorem one_of {cs : List Value} {o : Nat} {v : Value} (h : (cs.drop o).take 1 = [v]) : cs[o]? = some v := by
  have := congrArg (fun l => l[0]?) h
  simpa using this
theorem fld_some {t : TypeId} {c : List Value} (g : DataW.trod enc Try.prog W 0 spare held n t c = xs[i]?) (hi : i < xs.length) : ∃ y, DataW.trod enc Try.prog W 0 spare held n t c = some y :=
  ⟨_, g.trans (List.getElem?_eq_getElem hi)⟩
theorem int_ok {z : Int} (h : (Lit.int .i64 z).wf = true) : intOk z := by
  have : (decide (IntKind.i64.min ≤ z) && decide (z ≤ IntKind.i64.max)) = true := h
  rw [Bool.and_eq_true, decide_eq_true_eq, decide_eq_true_eq] at this
  exact ⟨this.1, this.2⟩
theorem fld_int (g : DataW.trod enc Try.prog W 0 spare held n 3 ((cs.drop o).take (Try.prog.cellsOf 3)) = xs[i]?) (hi : i < xs.length) : ∃ z, cs[o]? = some (.int .i64 z) ∧ intOk z := by
  obtain ⟨y, hy⟩ := fld_some g hi
  rw [show Try.prog.cellsOf 3 = 1 by kernel_rfl] at hy
  obtain ⟨z, e, _, hw⟩ := DataW.trod_int Try.underlying3 hy
  exact ⟨z, one_of e, int_ok hw⟩
theorem fld_str (g : DataW.trod enc Try.prog W 0 spare held n 9 ((cs.drop o).take (Try.prog.cellsOf 9)) = xs[i]?) (hi : i < xs.length) : ∃ l : List UInt8, cs[o]? = some (.string ⟨l.toArray⟩) := by
  obtain ⟨y, hy⟩ := fld_some g hi
  rw [show Try.prog.cellsOf 9 = 1 by kernel_rfl] at hy
  obtain ⟨s, e, _, _⟩ := DataW.trod_string Try.underlying9 hy
  exact ⟨s.data.toList, one_of e⟩
theorem fld_lst {α : Type} {K : Look α} {F : α → Prop} {t : TypeId} (hk : OpL K F t) (hc : Try.prog.cellsOf t = 1) (g : DataW.trod enc Try.prog W 0 spare held n t ((cs.drop o).take (Try.prog.cellsOf t)) = xs[i]?) (hi : i < xs.length) :
    ∃ v l, cs[o]? = some v ∧ Lk K W W.heap.size v l ∧ ∀ y ∈ l, F y := by
  obtain ⟨y, hy⟩ := fld_some g hi
  rw [hc] at hy
  obtain ⟨v, l, e, h1, h2⟩ := hk enc W spare held n _ _ hy
  exact ⟨v, l, one_of e, h1, h2⟩
theorem fld_sub {α : Type} {K : α → List Value} {N : Nat} {h1 : ∀ a, (K a).length = N} {h2 : ∀ a, ∀ u ∈ K a, u.oneCell' = true} {F : α → Prop} {t : TypeId} {k : Nat} (hk : Op (plainL K N h1 h2) F t) (hc : Try.prog.cellsOf t = k) (g : DataW.trod enc Try.prog W 0 spare held n t ((cs.drop o).take (Try.prog.cellsOf t)) = xs[i]?) (hi : i < xs.length) :
    ∃ a, (cs.drop o).take k = K a ∧ F a := by
  obtain ⟨y, hy⟩ := fld_some g hi
  rw [hc] at hy
  exact hk enc W spare held n _ _ hy
end
theorem mark_op : Op markL MarkZ.Fit 87 := by
  intro H enc W spare held fuel cs x h
  obtain ⟨xs, n, _, _, hl, hxs, hf⟩ := DataW.trod_struct Try.underlying87 h
  rw [show Try.prog.cellsOf 87 = 3 by kernel_rfl] at hl
  replace hxs : xs.length = 3 := hxs
  obtain ⟨z0, e0, w0⟩ := fld_int (hf 0 _ rfl) (by omega)
  obtain ⟨z1, e1, w1⟩ := fld_int (hf 1 _ rfl) (by omega)
  obtain ⟨z2, e2, w2⟩ := fld_int (hf 2 _ rfl) (by omega)
  clear hf h
  match cs, hl with
  | [c0, c1, c2], _ =>
    obtain rfl := Option.some.inj e0
    obtain rfl := Option.some.inj e1
    obtain rfl := Option.some.inj e2
    exact ⟨⟨z0, z1, z2⟩, rfl, ⟨w0, w1, w2⟩⟩

theorem box_op : Op boxL BoxZ.Fit 25 := by
  intro H enc W spare held fuel cs x h
  obtain ⟨xs, n, _, _, hl, hxs, hf⟩ := DataW.trod_struct Try.underlying25 h
  rw [show Try.prog.cellsOf 25 = 4 by kernel_rfl] at hl
  replace hxs : xs.length = 4 := hxs
  obtain ⟨z0, e0, w0⟩ := fld_int (hf 0 _ rfl) (by omega)
  obtain ⟨z1, e1, w1⟩ := fld_int (hf 1 _ rfl) (by omega)
  obtain ⟨z2, e2, w2⟩ := fld_int (hf 2 _ rfl) (by omega)
  obtain ⟨z3, e3, w3⟩ := fld_int (hf 3 _ rfl) (by omega)
  clear hf h
  match cs, hl with
  | [c0, c1, c2, c3], _ =>
    obtain rfl := Option.some.inj e0
    obtain rfl := Option.some.inj e1
    obtain rfl := Option.some.inj e2
    obtain rfl := Option.some.inj e3
    exact ⟨⟨z0, z1, z2, z3⟩, rfl, ⟨w0, w1, w2, w3⟩⟩

theorem point_op : Op pointL PointZ.Fit 23 := by
  intro H enc W spare held fuel cs x h
  obtain ⟨xs, n, _, _, hl, hxs, hf⟩ := DataW.trod_struct Try.underlying23 h
  rw [show Try.prog.cellsOf 23 = 2 by kernel_rfl] at hl
  replace hxs : xs.length = 2 := hxs
  obtain ⟨z0, e0, w0⟩ := fld_int (hf 0 _ rfl) (by omega)
  obtain ⟨z1, e1, w1⟩ := fld_int (hf 1 _ rfl) (by omega)
  clear hf h
  match cs, hl with
  | [c0, c1], _ =>
    obtain rfl := Option.some.inj e0
    obtain rfl := Option.some.inj e1
    exact ⟨⟨z0, z1⟩, rfl, ⟨w0, w1⟩⟩

theorem area_op : Op areaL AreaZ.Wide 81 := by
  intro H enc W spare held fuel cs x h
  obtain ⟨xs, n, _, _, hl, hxs, hf⟩ := DataW.trod_struct Try.underlying81 h
  rw [show Try.prog.cellsOf 81 = 7 by kernel_rfl] at hl
  replace hxs : xs.length = 4 := hxs
  obtain ⟨z0, e0⟩ := fld_str (hf 0 _ rfl) (by omega)
  obtain ⟨z1, e1, w1⟩ := fld_sub (k := 4) box_op (by kernel_rfl) (hf 1 _ rfl) (by omega)
  obtain ⟨z2, e2, w2⟩ := fld_int (hf 2 _ rfl) (by omega)
  obtain ⟨z3, e3, w3⟩ := fld_int (hf 3 _ rfl) (by omega)
  clear hf h
  match cs, hl with
  | [c0, c1, c2, c3, c4, c5, c6], _ =>
    obtain rfl := Option.some.inj e0
    replace e1 : [c1, c2, c3, c4] = boxZC z1 := e1
    simp only [boxZC, List.cons.injEq, and_true] at e1
    obtain ⟨rfl, rfl, rfl, rfl⟩ := e1
    obtain rfl := Option.some.inj e2
    obtain rfl := Option.some.inj e3
    exact ⟨⟨z0, z1, z2, z3⟩, rfl, ⟨w1, w2⟩⟩

theorem row_op : Op rowL RowZ.Wide 85 := by
  intro H enc W spare held fuel cs x h
  obtain ⟨xs, n, _, _, hl, hxs, hf⟩ := DataW.trod_struct Try.underlying85 h
  rw [show Try.prog.cellsOf 85 = 8 by kernel_rfl] at hl
  replace hxs : xs.length = 8 := hxs
  obtain ⟨z0, e0⟩ := fld_str (hf 0 _ rfl) (by omega)
  obtain ⟨z1, e1, w1⟩ := fld_int (hf 1 _ rfl) (by omega)
  obtain ⟨z2, e2, w2⟩ := fld_int (hf 2 _ rfl) (by omega)
  obtain ⟨z3, e3, w3⟩ := fld_int (hf 3 _ rfl) (by omega)
  obtain ⟨z4, e4, w4⟩ := fld_int (hf 4 _ rfl) (by omega)
  obtain ⟨z5, e5, w5⟩ := fld_int (hf 5 _ rfl) (by omega)
  obtain ⟨v6, z6, e6, l6, w6⟩ := fld_lst (K := markL) (slice_op Try.underlying83 (by kernel_rfl) (by decide) mark_op) (by kernel_rfl) (hf 6 _ rfl) (by omega)
  obtain ⟨z7, e7, w7⟩ := fld_int (hf 7 _ rfl) (by omega)
  clear hf h
  match cs, hl with
  | [c0, c1, c2, c3, c4, c5, c6, c7], _ =>
    obtain rfl := Option.some.inj e0
    obtain rfl := Option.some.inj e1
    obtain rfl := Option.some.inj e2
    obtain rfl := Option.some.inj e3
    obtain rfl := Option.some.inj e4
    obtain rfl := Option.some.inj e5
    obtain rfl := Option.some.inj e6
    obtain rfl := Option.some.inj e7
    exact ⟨⟨z0, z1, z2, z3, z4, z5, z6, z7⟩, ⟨c6, rfl, l6⟩, ⟨w1, w2, w3, w4, w5, w6⟩⟩

theorem block_op : Op blockL BlockZ.Wide 79 := by
  intro H enc W spare held fuel cs x h
  obtain ⟨xs, n, _, _, hl, hxs, hf⟩ := DataW.trod_struct Try.underlying79 h
  rw [show Try.prog.cellsOf 79 = 3 by kernel_rfl] at hl
  replace hxs : xs.length = 3 := hxs
  obtain ⟨z0, e0⟩ := fld_str (hf 0 _ rfl) (by omega)
  obtain ⟨v1, z1, e1, l1, w1⟩ := fld_lst (K := rowL) (slice_op Try.underlying77 (by kernel_rfl) (by decide) row_op) (by kernel_rfl) (hf 1 _ rfl) (by omega)
  obtain ⟨z2, e2, w2⟩ := fld_int (hf 2 _ rfl) (by omega)
  clear hf h
  match cs, hl with
  | [c0, c1, c2], _ =>
    obtain rfl := Option.some.inj e0
    obtain rfl := Option.some.inj e1
    obtain rfl := Option.some.inj e2
    exact ⟨⟨z0, z1, z2⟩, ⟨c1, rfl, l1⟩, w1⟩

theorem level_op : Op levelL LevelZ.Wide 51 := by
  intro H enc W spare held fuel cs x h
  obtain ⟨xs, n, _, _, hl, hxs, hf⟩ := DataW.trod_struct Try.underlying51 h
  rw [show Try.prog.cellsOf 51 = 8 by kernel_rfl] at hl
  replace hxs : xs.length = 8 := hxs
  obtain ⟨z0, e0⟩ := fld_str (hf 0 _ rfl) (by omega)
  obtain ⟨z1, e1, w1⟩ := fld_int (hf 1 _ rfl) (by omega)
  obtain ⟨v2, z2, e2, l2, w2⟩ := fld_lst (K := blockL) (slice_op Try.underlying47 (by kernel_rfl) (by decide) block_op) (by kernel_rfl) (hf 2 _ rfl) (by omega)
  obtain ⟨v3, z3, e3, l3, w3⟩ := fld_lst (K := areaL) (slice_op Try.underlying48 (by kernel_rfl) (by decide) area_op) (by kernel_rfl) (hf 3 _ rfl) (by omega)
  obtain ⟨v4, z4, e4, l4, w4⟩ := fld_lst (K := boxL) (slice_op Try.underlying46 (by kernel_rfl) (by decide) box_op) (by kernel_rfl) (hf 4 _ rfl) (by omega)
  obtain ⟨v5, z5, e5, l5, w5⟩ := fld_lst (K := boxL) (slice_op Try.underlying46 (by kernel_rfl) (by decide) box_op) (by kernel_rfl) (hf 5 _ rfl) (by omega)
  obtain ⟨v6, z6, e6, l6, w6⟩ := fld_lst (K := pointL) (slice_op Try.underlying49 (by kernel_rfl) (by decide) point_op) (by kernel_rfl) (hf 6 _ rfl) (by omega)
  obtain ⟨z7, e7, w7⟩ := fld_int (hf 7 _ rfl) (by omega)
  clear hf h
  match cs, hl with
  | [c0, c1, c2, c3, c4, c5, c6, c7], _ =>
    obtain rfl := Option.some.inj e0
    obtain rfl := Option.some.inj e1
    obtain rfl := Option.some.inj e2
    obtain rfl := Option.some.inj e3
    obtain rfl := Option.some.inj e4
    obtain rfl := Option.some.inj e5
    obtain rfl := Option.some.inj e6
    obtain rfl := Option.some.inj e7
    exact ⟨⟨z0, z1, z2, z3, z4, z5, z6, z7⟩, ⟨c2, c3, c4, c5, c6, rfl, ⟨l2, l3, l4, l5, l6⟩⟩, ⟨w1, w2, w3, w4, w5, w6⟩⟩

/-! ### The arguments -/
set_option maxRecDepth 100000 in
theorem hall_open {H : Type} {enc : TypeId × Value → H} {W : World} {r : Reach} {b0 : Nat} {spare : Nat → Bool} {held : Bool} {v : Value} {d : DataW H} {p : List MemPlace} (hv : Value.okWide Try.prog W r b0 28 v) (h : DataW.Trod enc Try.prog W 0 spare held 28 v d p) :
    ∃ (h0 : HallZ) (q : Option Addr) (n cap : Nat), v = .agg #[.string ⟨h0.name.toArray⟩, .int .i64 h0.stage.x, .int .i64 h0.stage.y, .slice q n cap] ∧ Lk levelL W W.heap.size (.slice q n cap) h0.levels ∧ HallZ.Wide h0 := by
  obtain ⟨cs, rfl, hsz⟩ := okWide_struct Try.underlying28 hv
  obtain ⟨fuel, hf⟩ := h
  obtain ⟨xs, n, _, _, hl, hxs, hf⟩ := DataW.trod_struct Try.underlying28 hf
  rw [show Try.prog.cellsOf 28 = 4 by kernel_rfl] at hl
  replace hxs : xs.length = 3 := hxs
  obtain ⟨z0, e0⟩ := fld_str (hf 0 _ rfl) (by omega)
  obtain ⟨z1, e1, w1⟩ := fld_sub (k := 2) point_op (by kernel_rfl) (hf 1 _ rfl) (by omega)
  obtain ⟨v2, z2, e2, l2, w2⟩ := fld_lst (K := levelL) (slice_op Try.underlying26 (by kernel_rfl) (by decide) level_op) (by kernel_rfl) (hf 2 _ rfl) (by omega)
  clear hf
  have hcs : (Value.agg cs).cells.toList = cs.toList := rfl
  rw [hcs] at hl e0 e1 e2
  obtain ⟨cl⟩ := cs
  simp only at hl e0 e1 e2
  match cl, hl with
  | [c0, c1, c2, c3], _ =>
    obtain rfl := Option.some.inj e0
    replace e1 : [c1, c2] = pointZC z1 := e1
    simp only [pointZC, List.cons.injEq, and_true] at e1
    obtain ⟨rfl, rfl⟩ := e1
    obtain rfl := Option.some.inj e2
    obtain ⟨q, cap, rfl⟩ := l2.slice
    exact ⟨⟨z0, z1, z2⟩, q, _, cap, rfl, l2, w1, w2⟩
/-! ### Short lists in memory -/
section
variable {α : Type} {K : Look α} {W : World} {B b : Nat} {T : TypeId}
theorem lk_nil (K : Look α) (W : World) (B : Nat) : Lk K W B (.slice none 0 0) [] := ⟨none, 0, rfl, Nat.le_refl _, by unfold maxLen; omega, Or.inl rfl⟩
theorem lk1 {c : List Value} {x : α} (h : Blk W b T c) (hc : K.is W B c x) (hb : b < B) : Lk K W B (.slice (some ⟨b, 0, none⟩) 1 1) [x] := by
  refine ⟨_, 1, rfl, Nat.le_refl _, by unfold maxLen; omega, Or.inr ⟨b, 0, rfl, hb, fun i y hy => ?_⟩⟩
  match i, hy with
  | 0, hy =>
    cases hy
    exact ⟨c, hc, fun j u hj => by rw [Nat.zero_mul, Nat.zero_add]; exact h.cell hj⟩
theorem lk2 {c d : List Value} {x y : α} (h : Blk W b T (c ++ d)) (hc : K.is W B c x) (hd : K.is W B d y) (hb : b < B) : Lk K W B (.slice (some ⟨b, 0, none⟩) 2 2) [x, y] := by
  have hl := K.len hc
  refine ⟨_, 2, rfl, Nat.le_refl _, by unfold maxLen; omega, Or.inr ⟨b, 0, rfl, hb, fun i z hz => ?_⟩⟩
  match i, hz with
  | 0, hz =>
    cases hz
    exact ⟨c, hc, fun j u hj => by
      rw [Nat.zero_mul, Nat.zero_add]
      exact h.cell (by rw [List.getElem?_append_left (List.getElem?_eq_some_iff.1 hj).1]; exact hj)⟩
  | 1, hz =>
    cases hz
    exact ⟨d, hd, fun j u hj => by
      rw [Nat.one_mul, Nat.zero_add]
      exact h.cell (by rw [List.getElem?_append_right (by omega), hl, Nat.add_sub_cancel_left]; exact hj)⟩
end
/-! ### Points, rectangles, arrays of numbers that are arguments -/
set_option maxRecDepth 100000 in
theorem point_open {H : Type} {enc : TypeId × Value → H} {W : World} {r : Reach} {b0 : Nat} {spare : Nat → Bool} {held : Bool} {v : Value} {d : DataW H} {p : List MemPlace} (hv : Value.okWide Try.prog W r b0 23 v) (h : DataW.Trod enc Try.prog W 0 spare held 23 v d p) :
    ∃ a : PointZ, v = .agg #[.int .i64 a.x, .int .i64 a.y] ∧ PointZ.Fit a := by
  obtain ⟨cs, rfl, hsz⟩ := okWide_struct Try.underlying23 hv
  obtain ⟨fuel, hf⟩ := h
  obtain ⟨a, e, hF⟩ := point_op enc W spare held fuel _ _ hf
  replace e : cs.toList = pointZC a := e
  obtain ⟨cl⟩ := cs
  simp only at e
  subst e
  exact ⟨a, rfl, hF⟩
set_option maxRecDepth 100000 in
theorem box_open {H : Type} {enc : TypeId × Value → H} {W : World} {r : Reach} {b0 : Nat} {spare : Nat → Bool} {held : Bool} {v : Value} {d : DataW H} {p : List MemPlace} (hv : Value.okWide Try.prog W r b0 25 v) (h : DataW.Trod enc Try.prog W 0 spare held 25 v d p) :
    ∃ a : BoxZ, v = .agg #[.int .i64 a.x, .int .i64 a.y, .int .i64 a.x2, .int .i64 a.y2] ∧ BoxZ.Fit a := by
  obtain ⟨cs, rfl, hsz⟩ := okWide_struct Try.underlying25 hv
  obtain ⟨fuel, hf⟩ := h
  obtain ⟨a, e, hF⟩ := box_op enc W spare held fuel _ _ hf
  replace e : cs.toList = boxZC a := e
  obtain ⟨cl⟩ := cs
  simp only at e
  subst e
  exact ⟨a, rfl, hF⟩
theorem u16s_open {H : Type} {enc : TypeId × Value → H} {W : World} {r : Reach} {b0 : Nat} {spare : Nat → Bool} {held : Bool} {v : Value} {d : DataW H} {p : List MemPlace} {t : TypeId} {N : Nat} (ht : Try.prog.underlying t = some (.array N 34)) (hc : Try.prog.cellsOf t = N)
    (hv : Value.okWide Try.prog W r b0 t v) (h : DataW.Trod enc Try.prog W 0 spare held t v d p) :
    ∃ l : List Int, v = .agg (l.map (Value.int .u16)).toArray ∧ l.length = N ∧ ∀ x ∈ l, 0 ≤ x ∧ x < 65536 := by
  obtain ⟨cs, rfl, hsz, _⟩ : ∃ cs, v = .agg cs ∧ cs.size = Try.prog.cellsOf t ∧ Row.okWide Try.prog W r b0 t cs := by
    simpa [Value.okWide, ht] using hv
  obtain ⟨fuel, hf⟩ := h
  obtain ⟨xs, m, _, _, hl, hxs, hel⟩ := DataW.trod_array ht hf
  rw [show Try.prog.cellsOf 34 = 1 by kernel_rfl] at hel
  obtain ⟨cl⟩ := cs
  have hcl : cl.length = N := by rw [← hc, ← hsz]; rfl
  obtain ⟨l, hll, hl2⟩ := list_of (P := fun i z => cl[i]? = some (Value.int .u16 z) ∧ 0 ≤ z ∧ z < 65536) N (fun i hi => by
    obtain ⟨y, hy⟩ := fld_some (hel i hi) (by omega)
    obtain ⟨z, e, _, wf⟩ := DataW.trod_int Try.underlying34 hy
    rw [Nat.mul_one] at e
    exact ⟨z, one_of e, u16_bounds wf⟩)
  refine ⟨l, ?_, hll, fun x hx => ?_⟩
  · congr 1
    congr 1
    apply List.ext_getElem?
    intro i
    rw [List.getElem?_map]
    by_cases hi : i < N
    · obtain ⟨z, hz⟩ : ∃ z, l[i]? = some z := ⟨_, List.getElem?_eq_getElem (by omega)⟩
      rw [(hl2 i z hz).1, hz]
      rfl
    · rw [List.getElem?_eq_none (by omega), List.getElem?_eq_none (by omega)]
      rfl
  · obtain ⟨i, hi⟩ := List.getElem?_of_mem hx
    exact (hl2 i x hi).2
end Go.Proofs.Ytdmancneccfgeaa.Hl
