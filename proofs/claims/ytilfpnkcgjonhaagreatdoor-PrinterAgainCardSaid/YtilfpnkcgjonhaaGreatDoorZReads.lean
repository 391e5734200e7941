/-
  Halls and rules that are read, wherever they lie below a bound; and lists that are made for one call.
-/
import Derived.Test.YtilfpnkcgjonhaaGreatDoorZWalkFinish
namespace Go.Proofs.YtilfpnkcgjonhaaGreatDoor.Pr
open Go.RowKit Go.Sort Foyer.Printer Foyer.Lexer
def intOk (n : Int) : Prop := -9223372036854775808 ≤ n ∧ n ≤ 9223372036854775807
def nmOk (l : List UInt8) : Prop := l.length ≤ 1000000
def BoxZ.Fit (b : BoxZ) : Prop := intOk b.x ∧ intOk b.y ∧ intOk b.x2 ∧ intOk b.y2
def PointZ.Fit (p : PointZ) : Prop := intOk p.x ∧ intOk p.y
def MarkZ.Fit (m : MarkZ) : Prop := intOk m.kind ∧ intOk m.seat ∧ intOk m.other
def AreaZ.Fit (a : AreaZ) : Prop := nmOk a.name ∧ BoxZ.Fit a.box ∧ intOk a.holds
structure RowZ.Fit (r : RowZ) : Prop where
 name : nmOk r.name
 x : intOk r.x
 y : intOk r.y
 first : intOk r.first
 last : intOk r.last
 step : intOk r.step
 marks : ∀ m ∈ r.marks, MarkZ.Fit m
def BlockZ.Fit (b : BlockZ) : Prop := nmOk b.name ∧ ∀ r ∈ b.rows, RowZ.Fit r
structure LevelZ.Fit (l : LevelZ) : Prop where
 name : nmOk l.name
 height : intOk l.height
 blocks : ∀ x ∈ l.blocks, BlockZ.Fit x
 areas : ∀ x ∈ l.areas, AreaZ.Fit x
 aisles : ∀ x ∈ l.aisles, BoxZ.Fit x
 pillars : ∀ x ∈ l.pillars, BoxZ.Fit x
 doors : ∀ x ∈ l.doors, PointZ.Fit x
def HallZ.Fit (h : HallZ) : Prop := nmOk h.name ∧ PointZ.Fit h.stage ∧ ∀ l ∈ h.levels, LevelZ.Fit l
def RatioZ.Fit (r : RatioZ) : Prop := intOk r.num ∧ intOk r.den
def TestZ.Fit (t : TestZ) : Prop := nmOk t.attr ∧ intOk t.op ∧ nmOk t.name ∧ intOk t.n
structure ItemZ.Fit (x : ItemZ) : Prop where
 kind : intOk x.kind
 name : nmOk x.name
 conds : ∀ l ∈ x.conds, ∀ t ∈ l, TestZ.Fit t
 n : intOk x.n
 r : RatioZ.Fit x.r
 s : RatioZ.Fit x.s
structure Look (α : Type) where
 is : World → Nat → List Value → α → Prop
 size : Nat
 kept : ∀ {W W' B c a}, is W B c a → (∀ k, k < B → W'.heap[k]? = W.heap[k]?) → is W' B c a
 mono : ∀ {W B B' c a}, is W B c a → B ≤ B' → is W B' c a
 len : ∀ {W B c a}, is W B c a → c.length = size
 one : ∀ {W B c a}, is W B c a → ∀ u ∈ c, u.oneCell' = true
def Lk {α : Type} (K : Look α) (W : World) (B : Nat) (v : Value) (xs : List α) : Prop :=
 ∃ p cap, v = .slice p xs.length cap ∧ xs.length ≤ cap ∧ cap ≤ maxLen ∧
  (xs = [] ∨ ∃ b off, p = some ⟨b, off, none⟩ ∧ b < B ∧ ∀ i x, xs[i]? = some x → ∃ c, K.is W B c x ∧ ∀ j u, c[j]? = some u → W.cell? ⟨b, off + i * K.size + j, none⟩ = some u)
section
variable {α : Type} {K : Look α} {W W' : World} {B B' : Nat} {v : Value} {xs : List α}
theorem cell_same {W W' : World} {b o : Nat} (h : W'.heap[b]? = W.heap[b]?) : W'.cell? ⟨b, o, none⟩ = W.cell? ⟨b, o, none⟩ := by
 unfold World.cell?
 rw [show W'.heap[(⟨b, o, none⟩ : Addr).block]? = W.heap[(⟨b, o, none⟩ : Addr).block]? from h]
theorem Lk.kept (h : Lk K W B v xs) (hk : ∀ k, k < B → W'.heap[k]? = W.heap[k]?) : Lk K W' B v xs := by
 obtain ⟨p, cap, hv, h1, h2, h3⟩ := h
 refine ⟨p, cap, hv, h1, h2, h3.imp id ?_⟩
 rintro ⟨b, off, hp, hb, h⟩
 refine ⟨b, off, hp, hb, fun i x hx => ?_⟩
 obtain ⟨c, hc, hcell⟩ := h i x hx
 exact ⟨c, K.kept hc hk, fun j u hj => (cell_same (hk b hb)).trans (hcell j u hj)⟩
theorem Lk.mono (h : Lk K W B v xs) (hB : B ≤ B') : Lk K W B' v xs := by
 obtain ⟨p, cap, hv, h1, h2, h3⟩ := h
 refine ⟨p, cap, hv, h1, h2, h3.imp id ?_⟩
 rintro ⟨b, off, hp, hb, h⟩
 refine ⟨b, off, hp, Nat.lt_of_lt_of_le hb hB, fun i x hx => ?_⟩
 obtain ⟨c, hc, hcell⟩ := h i x hx
 exact ⟨c, K.mono hc hB, hcell⟩
theorem Lk.below (h : Lk K W B v xs) (hb : Below B W W') : Lk K W' B v xs := h.kept hb.block
theorem Lk.one (h : Lk K W B v xs) : v.oneCell' = true := by obtain ⟨p, cap, rfl, _⟩ := h; rfl
theorem Lk.slice (h : Lk K W B v xs) : ∃ p cap, v = .slice p xs.length cap := by obtain ⟨p, cap, rfl, _⟩ := h; exact ⟨p, cap, rfl⟩
theorem Lk.at {p : Option Addr} {n cap : Nat} (h : Lk K W B (.slice p n cap) xs) {i : Nat} {x : α} (hx : xs[i]? = some x) :
  ∃ b off c, p = some ⟨b, off, none⟩ ∧ b < B ∧ K.is W B c x ∧ ∀ j u, c[j]? = some u → W.cell? ⟨b, off + i * K.size + j, none⟩ = some u := by
 obtain ⟨p', cap', hv, h1, h2, h3⟩ := h
 injection hv with e1 e2 e3
 subst e1
 rcases h3 with rfl | ⟨b, off, hp, hb, h⟩
 ·simp at hx
 ·obtain ⟨c, hc, hcell⟩ := h i x hx
  exact ⟨b, off, c, hp, hb, hc, hcell⟩
theorem Lk.len {p : Option Addr} {n cap : Nat} (h : Lk K W B (.slice p n cap) xs) : xs.length = n ∧ n ≤ maxLen := by
 obtain ⟨p', cap', hv, h1, h2, h3⟩ := h
 injection hv with e1 e2 e3
 exact ⟨e2.symm, by omega⟩
end
def plainL {α : Type} (C : α → List Value) (n : Nat) (hn : ∀ a, (C a).length = n) (h1 : ∀ a, ∀ u ∈ C a, u.oneCell' = true) : Look α where
 is _ _ c a := c = C a
 size := n
 kept h _ := h
 mono h _ := h
 len h := by subst h; exact hn _
 one h := by subst h; exact h1 _
def markZC (m : MarkZ) : List Value := [.int .i64 m.kind, .int .i64 m.seat, .int .i64 m.other]
def boxZC (b : BoxZ) : List Value := [.int .i64 b.x, .int .i64 b.y, .int .i64 b.x2, .int .i64 b.y2]
def pointZC (p : PointZ) : List Value := [.int .i64 p.x, .int .i64 p.y]
def areaZC (a : AreaZ) : List Value := [.string ⟨a.name.toArray⟩, .int .i64 a.box.x, .int .i64 a.box.y, .int .i64 a.box.x2, .int .i64 a.box.y2, .int .i64 a.holds, .int .i64 a.pos]
def testZC (t : TestZ) : List Value := [.string ⟨t.attr.toArray⟩, .int .i64 t.op, .string ⟨t.name.toArray⟩, .int .i64 t.n, .int .i64 t.pos]
def markL : Look MarkZ := plainL markZC 3 (fun _ => rfl) (fun a u hu => by simp only [markZC, List.mem_cons, List.not_mem_nil, or_false] at hu; rcases hu with rfl | rfl | rfl <;> rfl)
def boxL : Look BoxZ := plainL boxZC 4 (fun _ => rfl) (fun a u hu => by simp only [boxZC, List.mem_cons, List.not_mem_nil, or_false] at hu; rcases hu with rfl | rfl | rfl | rfl <;> rfl)
def pointL : Look PointZ := plainL pointZC 2 (fun _ => rfl) (fun a u hu => by simp only [pointZC, List.mem_cons, List.not_mem_nil, or_false] at hu; rcases hu with rfl | rfl <;> rfl)
def areaL : Look AreaZ := plainL areaZC 7 (fun _ => rfl) (fun a u hu => by simp only [areaZC, List.mem_cons, List.not_mem_nil, or_false] at hu; rcases hu with rfl | rfl | rfl | rfl | rfl | rfl | rfl <;> rfl)
def testL : Look TestZ := plainL testZC 5 (fun _ => rfl) (fun a u hu => by simp only [testZC, List.mem_cons, List.not_mem_nil, or_false] at hu; rcases hu with rfl | rfl | rfl | rfl | rfl <;> rfl)
def rowZC (r : RowZ) (v : Value) : List Value := [.string ⟨r.name.toArray⟩, .int .i64 r.x, .int .i64 r.y, .int .i64 r.first, .int .i64 r.last, .int .i64 r.step, v, .int .i64 r.pos]
def rowL : Look RowZ where
 is W B c r := ∃ v, c = rowZC r v ∧ Lk markL W B v r.marks
 size := 8
 kept h hk := let ⟨v, h1, h2⟩ := h; ⟨v, h1, h2.kept hk⟩
 mono h hk := let ⟨v, h1, h2⟩ := h; ⟨v, h1, h2.mono hk⟩
 len h := by obtain ⟨v, rfl, _⟩ := h; rfl
 one h := by
  obtain ⟨v, rfl, h⟩ := h
  intro u hu
  simp only [rowZC, List.mem_cons, List.not_mem_nil, or_false] at hu
  rcases hu with rfl | rfl | rfl | rfl | rfl | rfl | rfl | rfl <;> first | rfl | exact h.one
def blockZC (b : BlockZ) (v : Value) : List Value := [.string ⟨b.name.toArray⟩, v, .int .i64 b.pos]
def blockL : Look BlockZ where
 is W B c b := ∃ v, c = blockZC b v ∧ Lk rowL W B v b.rows
 size := 3
 kept h hk := let ⟨v, h1, h2⟩ := h; ⟨v, h1, h2.kept hk⟩
 mono h hk := let ⟨v, h1, h2⟩ := h; ⟨v, h1, h2.mono hk⟩
 len h := by obtain ⟨v, rfl, _⟩ := h; rfl
 one h := by
  obtain ⟨v, rfl, h⟩ := h
  intro u hu
  simp only [blockZC, List.mem_cons, List.not_mem_nil, or_false] at hu
  rcases hu with rfl | rfl | rfl <;> first | rfl | exact h.one
def levelZC (l : LevelZ) (v1 v2 v3 v4 v5 : Value) : List Value := [.string ⟨l.name.toArray⟩, .int .i64 l.height, v1, v2, v3, v4, v5, .int .i64 l.pos]
structure LevelIn (W : World) (B : Nat) (l : LevelZ) (v1 v2 v3 v4 v5 : Value) : Prop where
 blocks : Lk blockL W B v1 l.blocks
 areas : Lk areaL W B v2 l.areas
 aisles : Lk boxL W B v3 l.aisles
 pillars : Lk boxL W B v4 l.pillars
 doors : Lk pointL W B v5 l.doors
theorem LevelIn.kept {W W' : World} {B : Nat} {l : LevelZ} {v1 v2 v3 v4 v5 : Value} (h : LevelIn W B l v1 v2 v3 v4 v5) (hk : ∀ k, k < B → W'.heap[k]? = W.heap[k]?) : LevelIn W' B l v1 v2 v3 v4 v5 :=
 ⟨h.blocks.kept hk, h.areas.kept hk, h.aisles.kept hk, h.pillars.kept hk, h.doors.kept hk⟩
def levelL : Look LevelZ where
 is W B c l := ∃ v1 v2 v3 v4 v5, c = levelZC l v1 v2 v3 v4 v5 ∧ LevelIn W B l v1 v2 v3 v4 v5
 size := 8
 kept h hk := let ⟨v1, v2, v3, v4, v5, h1, h⟩ := h; ⟨v1, v2, v3, v4, v5, h1, h.kept hk⟩
 mono h hk := let ⟨v1, v2, v3, v4, v5, h1, h⟩ := h; ⟨v1, v2, v3, v4, v5, h1, h.blocks.mono hk, h.areas.mono hk, h.aisles.mono hk, h.pillars.mono hk, h.doors.mono hk⟩
 len h := by obtain ⟨v1, v2, v3, v4, v5, rfl, _⟩ := h; rfl
 one h := by
  obtain ⟨v1, v2, v3, v4, v5, rfl, h⟩ := h
  intro u hu
  simp only [levelZC, List.mem_cons, List.not_mem_nil, or_false] at hu
  rcases hu with rfl | rfl | rfl | rfl | rfl | rfl | rfl | rfl
  ·rfl
  ·rfl
  ·exact h.blocks.one
  ·exact h.areas.one
  ·exact h.aisles.one
  ·exact h.pillars.one
  ·exact h.doors.one
  ·rfl
def hallZC (h : HallZ) (v : Value) : List Value := [.string ⟨h.name.toArray⟩, .int .i64 h.stage.x, .int .i64 h.stage.y, v]
def testsL : Look (List TestZ) where
 is W B c l := ∃ v, c = [v] ∧ Lk testL W B v l
 size := 1
 kept h hk := let ⟨v, h1, h2⟩ := h; ⟨v, h1, h2.kept hk⟩
 mono h hk := let ⟨v, h1, h2⟩ := h; ⟨v, h1, h2.mono hk⟩
 len h := by obtain ⟨v, rfl, _⟩ := h; rfl
 one h := by
  obtain ⟨v, rfl, h⟩ := h
  intro u hu
  rw [List.mem_singleton] at hu
  subst hu
  exact h.one
def itemZC (x : ItemZ) (v : Value) : List Value := [.int .i64 x.kind, .string ⟨x.name.toArray⟩, v, .int .i64 x.n, .int .i64 x.r.num, .int .i64 x.r.den, .int .i64 x.s.num, .int .i64 x.s.den, .int .i64 x.pos]
def itemL : Look ItemZ where
 is W B c x := ∃ v, c = itemZC x v ∧ Lk testsL W B v x.conds
 size := 9
 kept h hk := let ⟨v, h1, h2⟩ := h; ⟨v, h1, h2.kept hk⟩
 mono h hk := let ⟨v, h1, h2⟩ := h; ⟨v, h1, h2.mono hk⟩
 len h := by obtain ⟨v, rfl, _⟩ := h; rfl
 one h := by
  obtain ⟨v, rfl, h⟩ := h
  intro u hu
  simp only [itemZC, List.mem_cons, List.not_mem_nil, or_false] at hu
  rcases hu with rfl | rfl | rfl | rfl | rfl | rfl | rfl | rfl | rfl <;> first | rfl | exact h.one
theorem opn_put (p : List UInt8) (s : St) : (putS p s).opn = s.opn := by unfold putS; split <;> rfl
theorem opn_require (b : Bool) (s : St) : (requireS b s).opn = s.opn := rfl
theorem opn_word (x : List UInt8) (s : St) : (wordS x s).opn = s.opn := by unfold wordS; rw [opn_put, opn_put]
theorem opn_line (x : List UInt8) (s : St) : (lineS x s).opn = s.opn := by unfold lineS; rw [opn_put, opn_put]
theorem opn_begin (s : St) : (beginS s).opn = s.opn + 1 := by unfold beginS; show (lineS [] (wordS [123] s)).opn + 1 = _; rw [opn_line, opn_word]
theorem opn_end (s : St) : (endS s).opn = s.opn - 1 := by unfold endS; rw [opn_line, opn_word]
theorem opn_names (l : List (List UInt8)) (s : St) : (namesS l s).opn = s.opn := by unfold namesS; split <;> first | rw [opn_word] | rfl
theorem opn_fold {α : Type} {f : St → α → St} (hf : ∀ s x, (f s x).opn = s.opn) : ∀ (l : List α) (s : St), (l.foldl f s).opn = s.opn
 | [], _ => rfl
 | x :: r, s => by rw [List.foldl_cons, opn_fold hf r, hf]
theorem opn_numbers (l : List Int) (s : St) : (numbersS l s).opn = s.opn := opn_fold (fun s n => by unfold numberS; rw [opn_word]; rfl) l s
theorem opn_oneOf (ws : List (List UInt8)) (k : Int) (s : St) : (oneOfS ws k s).opn = s.opn := by unfold oneOfS; split <;> first | rw [opn_word] | rfl
theorem opn_mark (m : MarkZ) (s : St) : (markS m s).opn = s.opn := by
 unfold markS; dsimp only
 split <;> simp only [opn_require, opn_numbers, opn_word, opn_oneOf]
theorem opn_row (r : RowZ) (s : St) : (rowS r s).opn = s.opn := by unfold rowS; rw [opn_line, opn_fold (fun s m => opn_mark m s)]; simp only [opn_numbers, opn_word, opn_names]
theorem opn_block (x : BlockZ) (s : St) : (blockS x s).opn = s.opn := by unfold blockS; rw [opn_end, opn_fold (fun s r => opn_row r s), opn_begin, opn_names, opn_word]; rfl
theorem opn_area (a : AreaZ) (s : St) : (areaS a s).opn = s.opn := by unfold areaS boxS; simp only [opn_line, opn_numbers, opn_word, opn_names]
theorem opn_aisle (x : BoxZ) (s : St) : (aisleS x s).opn = s.opn := by unfold aisleS boxS; simp only [opn_line, opn_numbers, opn_word]
theorem opn_pillar (x : BoxZ) (s : St) : (pillarS x s).opn = s.opn := by unfold pillarS boxS; simp only [opn_line, opn_numbers, opn_word]
theorem opn_door (x : PointZ) (s : St) : (doorS x s).opn = s.opn := by unfold doorS; simp only [opn_line, opn_numbers, opn_word]
theorem opn_level (l : LevelZ) (s : St) : (levelS l s).opn = s.opn := by
 unfold levelS
 rw [opn_end, opn_fold (fun s r => opn_door r s), opn_fold (fun s r => opn_pillar r s), opn_fold (fun s r => opn_aisle r s), opn_fold (fun s r => opn_area r s), opn_fold (fun s r => opn_block r s), opn_begin]
 simp only [opn_numbers, opn_word, opn_names]; rfl
theorem Wrote.drew {b : Nat} {w w' : World} {v v' : Value} (h : Wrote b w v w' v') : Wrote b w v w'.drew v' := ⟨h.kp.drew, h.own⟩
theorem WR.drew {B b : Nat} {T : TypeId} {w : World} {v : Value} {s : St} (h : WR B b T w v s) : WR B b T w.drew v s := ⟨h.base, h.cells, h.own, h.apart, h.short, h.low⟩
theorem numbers_new {B b : Nat} {T : TypeId} (zs : List Int) (hz : Small64 zs) (hn : zs.length ≤ 100) (w : World) (v : Value) (s : St) (h : WR B b T w v s) (hB : B ≤ w.heap.size) (hE : EnvAt B w) :
  Calls Tryz.prog 40 #[.pointer (some ⟨b, 0, none⟩), .slice (some ⟨w.heap.size, 0, none⟩) zs.length zs.length] (w.alloc (.cells (intCells zs).toArray 3)) fun e w' => e = .returned (.tuple #[]) ∧ Step B b T w v (numbersS zs s) w' := by
 have hb : Below w.heap.size w (w.alloc (.cells (intCells zs).toArray 3)) := (Below.refl _ _).alloc (Nat.le_refl _) _
 have hlt := h.lt
 refine (numbers_any zs hz hn w.heap.size _ v s (h.later hb) (by simp; omega) (hE.below (hb.mono hB)) (by omega) (fun e => ?_) (Blk.new _ _ _)).mono ?_
 ·have := (h.vlow e).2; omega
 ·rintro e w' ⟨rfl, v', h1, h2⟩
  exact ⟨rfl, v', h1, h2.later hb⟩
theorem require_s {B b : Nat} {T : TypeId} (ok : Bool) (w : World) (v : Value) (s : St) (h : WR B b T w v s) :
  Calls Tryz.prog 50 #[.pointer (some ⟨b, 0, none⟩), .bool ok] w fun e w' => e = .returned (.bool ok) ∧ Step B b T w v (requireS ok s) w' := by
 refine (require_any ok w v s h).mono ?_
 rintro e w' ⟨rfl, rfl⟩
 obtain ⟨k1, k2⟩ := requireS_step h ok
 exact ⟨rfl, v, k1, k2⟩
theorem name_new {B b : Nat} {T : TypeId} (x : List UInt8) (hx : nmOk x) (w : World) (v : Value) (s : St) (h : WR B b T w v s) (hB : B ≤ w.heap.size) :
  Calls Tryz.prog 39 #[.pointer (some ⟨b, 0, none⟩), .slice (some ⟨w.heap.size, 0, none⟩) 1 1] (w.alloc (.cells #[.string ⟨x.toArray⟩] 9)) fun e w' => e = .returned (.tuple #[]) ∧ Step B b T w v (namesS [x] s) w' := by
 have hb : Below w.heap.size w (w.alloc (.cells #[.string ⟨x.toArray⟩] 9)) := (Below.refl _ _).alloc (Nat.le_refl _) _
 have hlt := h.lt
 refine (names_any [x] (Or.inl rfl) (fun l hl => by rw [List.mem_singleton] at hl; subst hl; exact hx) w.heap.size 0 1 (Nat.le_refl _) _ v s (h.later hb) (by simp; omega) (by omega) (fun e => ?_) (by simp) (fun j y hj => ?_)).mono ?_
 ·have := (h.vlow e).2; omega
 ·rw [Nat.zero_add]
  exact Blk.cell (b := w.heap.size) (Blk.new w 9 [.string ⟨x.toArray⟩]) (by
   match j, hj with
   | 0, hj => cases hj; rfl)
 ·rintro e w' ⟨rfl, v', h1, h2⟩
  exact ⟨rfl, v', h1, h2.later hb⟩
end Go.Proofs.YtilfpnkcgjonhaaGreatDoor.Pr
