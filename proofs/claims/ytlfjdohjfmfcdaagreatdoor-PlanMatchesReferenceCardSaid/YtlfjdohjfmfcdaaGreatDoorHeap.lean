/-
  Blocks of several cells; what a call leaves as it was; lists of structs of any size that a call builds.
-/
import Derived.Test.YtlfjdohjfmfcdaaGreatDoorOwnToks
import Derived.Test.YtlfjdohjfmfcdaaGreatDoorMid
import Derived.Test.YtlfjdohjfmfcdaaGreatDoorTail
import Derived.Deep.Cut
import Derived.Maps.AppendAt
import Derived.Deep.AppendLies
namespace Go.Proofs.YtlfjdohjfmfcdaaGreatDoor
open Go.RowKit Go.Sort

/-! ### What a call leaves as it was: all blocks but those of E -/
structure Kp (E : Nat → Prop) (w w' : World) : Prop where
  os : w'.os = w.os
  tape : w'.tape = w.tape
  output : w'.output = w.output
  size : w.heap.size ≤ w'.heap.size
  block : ∀ k, k < w.heap.size → ¬ E k → w'.heap[k]? = w.heap[k]?
theorem Kp.refl (E : Nat → Prop) (w : World) : Kp E w w := ⟨rfl, rfl, rfl, Nat.le_refl _, fun _ _ _ => rfl⟩
theorem Kp.call {E E' : Nat → Prop} {a b c : World} (h : Kp E a b) (k : Kp E' b c) (hE : ∀ k, E' k → E k ∨ a.heap.size ≤ k) : Kp E a c :=
  ⟨k.os.trans h.os, k.tape.trans h.tape, k.output.trans h.output, Nat.le_trans h.size k.size, fun i hi hn =>
    (k.block i (Nat.lt_of_lt_of_le hi h.size) (fun he => (hE i he).elim hn (fun h => by omega))).trans (h.block i hi hn)⟩
theorem Kp.trans {E : Nat → Prop} {a b c : World} (h : Kp E a b) (k : Kp E b c) : Kp E a c := h.call k fun _ h => Or.inl h
theorem Kp.mono {E E' : Nat → Prop} {a b : World} (h : Kp E a b) (hE : ∀ k, E k → E' k) : Kp E' a b := ⟨h.os, h.tape, h.output, h.size, fun i hi hn => h.block i hi fun he => hn (hE i he)⟩
theorem Kp.alloc {E : Nat → Prop} {a b : World} (h : Kp E a b) (o : Obj) : Kp E a (b.alloc o) :=
  h.trans ⟨rfl, rfl, rfl, by simp, fun k hk _ => Below.heap_alloc _ _ _ hk⟩
theorem Kp.setCell {E : Nat → Prop} {a b : World} (h : Kp E a b) {p : Addr} (hp : E p.block ∨ a.heap.size ≤ p.block) (u : Value) : Kp E a (b.setCell p u) :=
  h.call (E' := fun k => k = p.block) ⟨rfl, rfl, rfl, by simp [World.setCell], fun k _ hk => Below.heap_setCell _ _ _ _ hk⟩ fun k hk => hk ▸ hp
theorem Kp.setOld {E : Nat → Prop} {a b : World} (h : Kp E a b) (q i : Nat) (hp : E q) (u : Value) : Kp E a (b.setCell ⟨q, i, none⟩ u) := h.setCell (p := ⟨q, i, none⟩) (Or.inl hp) u
theorem Kp.setNew {E : Nat → Prop} {a b : World} (h : Kp E a b) (q i : Nat) (hp : a.heap.size ≤ q) (u : Value) : Kp E a (b.setCell ⟨q, i, none⟩ u) := h.setCell (p := ⟨q, i, none⟩) (Or.inr hp) u
theorem Kp.setCells {E : Nat → Prop} {a : World} {p : Nat} (hp : E p ∨ a.heap.size ≤ p) : ∀ (vs : List Value) (o : Nat) (b : World), Kp E a b → Kp E a (b.setCells p o vs)
  | [], _, _, h => h
  | v :: r, o, _, h => Kp.setCells hp r (o + 1) _ (h.setCell (p := ⟨p, o, none⟩) hp v)
theorem Kp.grown {E : Nat → Prop} {a b c : World} {row : Option Nat} (h : Kp E a b) (hg : b.grownBy c row) (hr : ∀ k, row = some k → E k ∨ a.heap.size ≤ k) : Kp E a c :=
  h.call (E' := fun k => row = some k) ⟨hg.os, hg.tape, hg.output, hg.size, fun k hk hn => hg.block k hk fun e => hn e.symm⟩ hr
theorem Kp.drew {E : Nat → Prop} {a b : World} (h : Kp E a b) : Kp E a b.drew := ⟨h.os, h.tape, h.output, h.size, h.block⟩
theorem Kp.of_below {E : Nat → Prop} {a b : World} (h : Below a.heap.size a b) : Kp E a b := ⟨h.os, h.tape, h.output, h.size, fun k hk _ => h.block k hk⟩
theorem Kp.below {E : Nat → Prop} {a b : World} (h : Kp E a b) {B : Nat} (hB : B ≤ a.heap.size) (hE : ∀ k, E k → B ≤ k) : Below B a b :=
  ⟨h.os, h.tape, h.output, h.size, fun k hk => h.block k (by omega) fun he => by have := hE k he; omega⟩

/-! ### A block of cells -/
def Blk (w : World) (b : Nat) (T : TypeId) (cs : List Value) : Prop := w.heap[b]? = some (.cells cs.toArray T (0, 0))
section
variable {w w' : World} {b : Nat} {T : TypeId} {cs : List Value}
theorem Blk.lt (h : Blk w b T cs) : b < w.heap.size := (Array.getElem?_eq_some_iff.1 h).1
theorem Blk.cell (h : Blk w b T cs) {i : Nat} {v : Value} (hi : cs[i]? = some v) : w.cell? ⟨b, i, none⟩ = some v := by
  unfold World.cell?
  rw [show w.heap[(⟨b, i, none⟩ : Addr).block]? = _ from h]
  simpa using hi
theorem Blk.free (h : Blk w b T cs) (i : Nat) : w.frozen? ⟨b, i, none⟩ = false := by
  unfold World.frozen?
  rw [show w.heap[(⟨b, i, none⟩ : Addr).block]? = _ from h]
  simp
theorem Blk.range (h : Blk w b T cs) : w.rangeAt b 0 cs := fun j v hj => by rw [Nat.zero_add]; exact h.cell hj
theorem Blk.there (h : Blk w b T cs) : w.there b 0 cs.length := fun j hj => by
  rw [Nat.zero_add]
  exact ⟨by rw [h.cell (List.getElem?_eq_getElem hj)]; rfl, h.free j⟩
theorem Blk.kept {E : Nat → Prop} (h : Blk w b T cs) (k : Kp E w w') (hE : ¬ E b) : Blk w' b T cs := (k.block b h.lt hE).trans h
theorem Blk.new (w : World) (T : TypeId) (cs : List Value) : Blk (w.alloc (.cells cs.toArray T)) w.heap.size T cs := by
  show (w.heap.push _)[w.heap.size]? = _
  simp
theorem Blk.alloc (h : Blk w b T cs) (o : Obj) : Blk (w.alloc o) b T cs := (Below.heap_alloc _ _ _ h.lt).trans h
theorem Blk.set (h : Blk w b T cs) (i : Nat) (u : Value) : Blk (w.setCell ⟨b, i, none⟩ u) b T (cs.set i u) := by
  unfold Blk World.setCell at *
  simp only [Array.getElem?_modify, if_pos, h, Option.map_some]
  simp
theorem Blk.other (h : Blk w b T cs) {p : Addr} (hp : p.block ≠ b) (u : Value) : Blk (w.setCell p u) b T cs := (Below.heap_setCell _ _ _ _ (fun e => hp e.symm)).trans h
theorem Blk.cast (h : Blk w b T cs) {ds : List Value} (e : cs = ds) : Blk w b T ds := e ▸ h
end
theorem set_next (a : List Value) (x v : Value) (r : List Value) (n : Nat) (hn : a.length = n) : (a ++ x :: r).set n v = (a ++ [v]) ++ r := by
  subst hn
  rw [List.set_append_right _ _ (Nat.le_refl _)]
  simp
theorem setCells_blk {b : Nat} {T : TypeId} : ∀ (vs old pre : List Value) (w : World), old.length = vs.length → Blk w b T (pre ++ old) → Blk (w.setCells b pre.length vs) b T (pre ++ vs)
  | [], old, pre, w, hl, h => by
    obtain rfl : old = [] := List.length_eq_zero_iff.1 hl
    exact h
  | v :: vs, [], pre, w, hl, h => by simp at hl
  | v :: vs, x :: old, pre, w, hl, h => by
    have h1 := h.set pre.length v
    rw [set_next pre x v old _ rfl] at h1
    have := setCells_blk vs old (pre ++ [v]) _ (by simpa using hl) h1
    rw [List.length_append, List.append_assoc] at this
    exact this
/-- A whole block written anew. -/
theorem Blk.whole {w : World} {b : Nat} {T : TypeId} {old vs : List Value} (h : Blk w b T old) (hl : old.length = vs.length) : Blk (w.setCells b 0 vs) b T vs := setCells_blk vs old [] w hl h

/-! ### Lists of structs that the call builds -/
/-- A list of structs of m cells each, of the call's own. -/
structure Con (w : World) (B : Nat) (T : TypeId) (m : Nat) (v : Value) (css : List (List Value)) : Prop where
  own : w.ownsRow B T m v css.length css.flatten
  each : ∀ cs ∈ css, cs.length = m
section
variable {w w' : World} {B : Nat} {T : TypeId} {m : Nat} {v : Value} {css : List (List Value)}
theorem con_nil (w : World) (B : Nat) (T : TypeId) (m : Nat) : Con w B T m (.slice none 0 0) [] := ⟨World.ownsRow_nil w B T m, fun _ h => by cases h⟩
theorem own_of_block {w w' : World} {B e s n : Nat} {v : Value} {xs : List Value} (h : w.ownsRow B e s v n xs) (hb : ∀ k, v.ownBlock = some k → w'.heap[k]? = w.heap[k]?) : w'.ownsRow B e s v n xs := by
  refine ⟨h.1, h.2.imp id ?_⟩
  rintro ⟨g, cap, cur, rfl, h1, h2, h3⟩
  exact ⟨g, cap, cur, rfl, h1, (hb g rfl).trans h2, h3⟩
theorem own_lt {w : World} {B e s n : Nat} {v : Value} {xs : List Value} (h : w.ownsRow B e s v n xs) {k : Nat} (hk : v.ownBlock = some k) : B ≤ k ∧ k < w.heap.size := by
  rcases h.2 with ⟨rfl, _⟩ | ⟨g, cap, cur, rfl, h1, h2, _⟩
  · cases hk
  · cases hk; exact ⟨h1, (Array.getElem?_eq_some_iff.1 h2).1⟩
theorem Con.of_block (h : Con w B T m v css) (hb : ∀ k, v.ownBlock = some k → w'.heap[k]? = w.heap[k]?) : Con w' B T m v css := ⟨own_of_block h.own hb, h.each⟩
theorem Con.kept {E : Nat → Prop} (h : Con w B T m v css) (k : Kp E w w') (hE : ∀ j, v.ownBlock = some j → ¬ E j) : Con w' B T m v css :=
  h.of_block fun j hj => k.block j (own_lt h.own hj).2 (hE j hj)
theorem Con.base {B' : Nat} (h : Con w B T m v css) (hb : B' ≤ B) : Con w B' T m v css :=
  ⟨⟨h.own.1, h.own.2.imp id fun ⟨g, cap, cur, h1, h2, h3⟩ => ⟨g, cap, cur, h1, Nat.le_trans hb h2, h3⟩⟩, h.each⟩
theorem flatten_length (h : ∀ cs ∈ css, cs.length = m) : css.flatten.length = css.length * m := by
  induction css with
  | nil => simp
  | cons c css ih =>
    rw [List.flatten_cons, List.length_append, ih (fun cs hc => h cs (List.mem_cons_of_mem _ hc)), h c List.mem_cons_self, List.length_cons, Nat.add_mul]; omega
/-- A list of the call's own is a slice that is read. -/
theorem Con.form (h : Con w B T m v css) : (v = .slice none 0 0 ∧ css = []) ∨ ∃ g cap cur, v = .slice (some ⟨g, 0, none⟩) css.length cap ∧ B ≤ g ∧ g < w.heap.size ∧ w.heap[g]? = some (.cells cur T (0, 0)) ∧ css.length ≤ cap ∧ cap ≤ maxLen ∧ ∀ i c j u, css[i]? = some c → c[j]? = some u → w.cell? ⟨g, i * m + j, none⟩ = some u := by
  rcases h.own.2 with ⟨rfl, hn⟩ | ⟨g, cap, cur, rfl, h1, h2, h3, h4, h5, h6⟩
  · exact Or.inl ⟨rfl, List.length_eq_zero_iff.1 hn⟩
  · refine Or.inr ⟨g, cap, cur, rfl, h1, (Array.getElem?_eq_some_iff.1 h2).1, h2, h3, h4, fun i c j u hi hj => ?_⟩
    have hlen : ∀ (css : List (List Value)), (∀ cs ∈ css, cs.length = m) → ∀ i c, css[i]? = some c → c[j]? = some u → css.flatten[i * m + j]? = some u := by
      intro css
      induction css with
      | nil => intro _ i c hi _; simp at hi
      | cons d css ih =>
        intro he i c hi hj
        cases i with
        | zero =>
          simp only [List.getElem?_cons_zero, Option.some.injEq] at hi
          subst hi
          rw [List.flatten_cons, Nat.zero_mul, Nat.zero_add, List.getElem?_append_left ((List.getElem?_eq_some_iff.1 hj).1)]
          exact hj
        | succ i =>
          rw [List.flatten_cons, show (i + 1) * m + j = d.length + (i * m + j) by rw [he d List.mem_cons_self, Nat.add_mul]; omega, List.getElem?_append_right (by omega), Nat.add_sub_cancel_left]
          exact ih (fun cs hc => he cs (List.mem_cons_of_mem _ hc)) i c (by simpa using hi) hj
    have hf := hlen css h.each i c hi hj
    rw [← h6, List.getElem?_take] at hf
    split at hf
    · unfold World.cell?
      rw [show w.heap[(⟨g, i * m + j, none⟩ : Addr).block]? = _ from h2]
      simpa using hf
    · cases hf
end
/-- What is appended: one struct. -/
theorem con_append {w : World} {B T t m bytes : Nat} {i0 : TypeInfo} {z : Value} (ht : Tryz.prog.underlying t = some (.slice T)) (hi : Tryz.prog.info? T = some i0) (hz0 : i0.zero = some z) (hz1 : i0.size = m) (hz2 : i0.bytes = bytes) (hzs : z.cells.size = m) (hm : 0 < m) (hby : bytes ≤ 200)
    {o : Oper} {a : Act} {K : Act → World → Prop} {Q : Exit → Act → World → Prop} (s x : Operand)
    (hop : o.op = Op.call { callee := Callee.builtin Builtin.append, args := #[s, x], argTypes := #[t, t] })
    (v : Value) (css : List (List Value)) (c : List Value) (hs : a.eval s = v) (hown : Con w B T m v css) (b : Nat) (hx : a.eval x = .slice (some ⟨b, 0, none⟩) 1 1)
    (hc : Blk w b T c) (hcl : c.length = m) (h1 : ∀ u ∈ c, u.oneCell' = true) (hlen : css.length + 1 ≤ 1000000) (hB : B ≤ w.heap.size)
    (hK : ∀ v' w', Con w' B T m v' (css ++ [c]) → w.grownBy w' v.ownBlock → (v'.ownBlock = v.ownBlock ∨ v'.ownBlock = some w.heap.size) → v'.oneCell' = true → K (a.put o.dst v') w') : Oper.wp Tryz.prog o a w K Q := by
  have hr := run_append_own_at (P := Tryz.prog) w B t o.type T i0 z m bytes ht hi hz0 hz1 hz2 hzs hm v css.length _ hown.own ⟨b, 0, none⟩ 1 1 c (by omega) (fun j u hu => by rw [add_plain, Nat.zero_add]; exact hc.cell hu) h1 (by unfold maxLen; omega) (by
    have : (css.length + 1) * bytes ≤ 1000000 * 200 := Nat.mul_le_mul hlen hby
    omega) hB
  obtain ⟨v', w', hr, h2, h3, h4, h5⟩ := hr
  unfold Oper.wp execOp
  simp only [hop, resolve, invoke, builtin, Sem.run_bind, Sem.run_pure, Result.andThen_ok, List.map_toArray, List.map_cons, List.map_nil, hs, hx, hr]
  refine hK v' w' ⟨own_cast h2 (by simp) (by simp), fun cs hcs => ?_⟩ h3 h5 ?_
  · rcases List.mem_append.1 hcs with h | h
    · exact hown.each cs h
    · rw [List.mem_singleton] at h; subst h; exact hcl
  · rcases h2.2 with ⟨rfl, _⟩ | ⟨g, cap, cur, rfl, _⟩ <;> rfl
end Go.Proofs.YtlfjdohjfmfcdaaGreatDoor
