/-
  Lists of strings that a call has made: what they hold, how they are read, how one grows.
-/
import Derived.Test.YtkggmehbkefgjaaDoorBase
import Derived.OwnWalk
namespace Go.Proofs.YtkggmehbkefgjaaDoor
open Go.RowKit Go.Sort

theorem strInfo : (Tryd.prog.info? 9).map (fun i => (i.zero, i.size, i.bytes)) = some (some (.string ⟨#[]⟩), 1, 16) := by kernel_rfl
/-- A list of strings of the call's own. -/
def OwnS (w : World) (B : Nat) (v : Value) (ls : List (List UInt8)) : Prop := w.ownsRow B 9 1 v ls.length (ls.map fun l => Value.string ⟨l.toArray⟩)
theorem ownS_nil (w : World) (B : Nat) : OwnS w B (.slice none 0 0) [] := World.ownsRow_nil w B _ 1
theorem OwnS.kept {w w' : World} {B : Nat} {v : Value} {ls : List (List UInt8)} (h : OwnS w B v ls) (hb : Below w.heap.size w w') : OwnS w' B v ls := own_kept h hb
theorem OwnS.alloc {w : World} {B : Nat} {v : Value} {ls : List (List UInt8)} (h : OwnS w B v ls) (o : Obj) : OwnS (w.alloc o) B v ls := World.ownsRow.alloc h o
theorem OwnS.base {w : World} {B B' : Nat} {v : Value} {ls : List (List UInt8)} (h : OwnS w B v ls) (hb : B' ≤ B) : OwnS w B' v ls :=
  ⟨h.1, h.2.imp id fun ⟨g, cap, cur, h1, h2, h3⟩ => ⟨g, cap, cur, h1, Nat.le_trans hb h2, h3⟩⟩
/-- How it is read. -/
theorem OwnS.slice {w : World} {B : Nat} {v : Value} {ls : List (List UInt8)} (h : OwnS w B v ls) : ∃ p cap, v = .slice p ls.length cap ∧ RdS w p ls ∧ ls.length ≤ maxLen := by
  have h0 := h
  rcases h.2 with ⟨rfl, hn⟩ | ⟨g, cap, cur, rfl, hB, hg, hc, hm, hs, ht⟩
  · refine ⟨none, 0, by rw [hn], Or.inl (List.length_eq_zero_iff.1 hn), by rw [hn]; exact Nat.zero_le _⟩
  · refine ⟨some ⟨g, 0, none⟩, cap, rfl, Or.inr ⟨g, 0, rfl, (h0.lt _ rfl).2, fun j hj => ?_⟩, Nat.le_trans hc hm⟩
    rw [Nat.zero_add, World.ownsRow.cellAt h0 j (by omega), List.getElem?_map, List.getElem?_eq_getElem hj]
    simp [List.getD_eq_getElem?_getD, hj]
theorem ownS_lit (w : World) (B : Nat) (ls : List (List UInt8)) (hb : B ≤ w.heap.size) (hm : ls.length ≤ maxLen) :
    OwnS (w.alloc (.cells (ls.map fun l => Value.string ⟨l.toArray⟩).toArray 9)) B (.slice (some ⟨w.heap.size, 0, none⟩) ls.length ls.length) ls := by
  have := World.ownsRow_lit (e := 9) (size := 1) w (ls.map fun l => Value.string ⟨l.toArray⟩).toArray ls.length hb hm (by simp)
  simpa [OwnS] using this

/-- What is appended. -/
theorem wpList_append_s {ops : Array Oper} {rest : List Oper} {o : Oper} {a : Act} {Q : Exit → Act → World → Prop} (w : World) (hgd : o.guard = none) (s x : Operand)
    (hop : o.op = Op.call { callee := Callee.builtin Builtin.append, args := #[s, x], argTypes := #[60, 60] })
    (B : Nat) (v : Value) (ls : List (List UInt8)) (hs : a.eval s = v) (hown : OwnS w B v ls) (b off c : Nat) (ts : List (List UInt8)) (m : Nat) (hm : ts.length = m) (hx : a.eval x = .slice (some ⟨b, off, none⟩) m c)
    (hc : ∀ j, j < ts.length → w.cell? ⟨b, off + j, none⟩ = some (.string ⟨(ts.getD j []).toArray⟩)) (hlen : ls.length + m ≤ 1000000) (hB : B ≤ w.heap.size)
    (hK : ∀ v' w', OwnS w' B v' (ls ++ ts) → w.heap.size ≤ w'.heap.size → (∀ C wb, C ≤ B → Below C wb w → Below C wb w') → wpList Tryd.prog ops Q rest (a.put o.dst v') w') :
    wpList Tryd.prog ops Q (o :: rest) a w := by
  obtain ⟨i0, hi, hz0, hz1, hz2⟩ := info_parts strInfo
  refine wpList_append_own _ hgd _ _ 60 hop B 9 i0 (.string ⟨#[]⟩) 1 16 Tryd.underlying60 hi hz0 hz1 hz2 rfl (by decide) v ls.length _ hs hown ⟨b, off, none⟩ m c (ts.map fun l => Value.string ⟨l.toArray⟩) hx (by simp [hm]) ?c1 ?c2 ?d3 ?d4 hB ?_
  case c1 =>
    intro j u hu
    rw [List.getElem?_map] at hu
    have hj : j < ts.length := by
      rcases Nat.lt_or_ge j ts.length with h | h
      · exact h
      · rw [List.getElem?_eq_none h] at hu; cases hu
    rw [List.getElem?_eq_getElem hj] at hu
    simp only [Option.map_some] at hu
    rw [add_plain, hc j hj, ← hu]
    simp [List.getD_eq_getElem?_getD, hj]
  case c2 =>
    intro u hu
    obtain ⟨l, _, rfl⟩ := List.mem_map.1 hu
    rfl
  case d3 => unfold maxLen; omega
  case d4 => omega
  intro v' w' hown' hg _
  refine hK v' w' ?_ hg.size fun C wb hC hb => hb.grown hg (Nat.le_trans hC hB) (fun q hq => Nat.le_trans hC (hown.lt q hq).1)
  refine own_cast hown' (by simp [hm]) (by simp)
/-- A guarded operation that is wanted goes as one without a guard. -/
theorem wpList_wanted {P : Program} {ops : Array Oper} {rest : List Oper} {o : Oper} {a : Act} {w : World} {Q : Exit → Act → World → Prop} (hw : Region.wanted o (yielded ops a.tmps) = true)
    (h : wpList P ops Q ({ o with guard := none } :: rest) a w) : wpList P ops Q (o :: rest) a w := by
  unfold wpList at h ⊢
  rw [if_pos hw]
  rw [if_pos (show Region.wanted { o with guard := none } (yielded ops a.tmps) = true from rfl)] at h
  exact h
theorem wpList_append_g {ops : Array Oper} {rest : List Oper} {o : Oper} {a : Act} {Q : Exit → Act → World → Prop} (w : World) (hgd : Region.wanted o (yielded ops a.tmps) = true) (s x : Operand)
    (hop : o.op = Op.call { callee := Callee.builtin Builtin.append, args := #[s, x], argTypes := #[60, 60] })
    (B : Nat) (v : Value) (ls : List (List UInt8)) (hs : a.eval s = v) (hown : OwnS w B v ls) (b off c : Nat) (ts : List (List UInt8)) (m : Nat) (hm : ts.length = m) (hx : a.eval x = .slice (some ⟨b, off, none⟩) m c)
    (hc : ∀ j, j < ts.length → w.cell? ⟨b, off + j, none⟩ = some (.string ⟨(ts.getD j []).toArray⟩)) (hlen : ls.length + m ≤ 1000000) (hB : B ≤ w.heap.size)
    (hK : ∀ v' w', OwnS w' B v' (ls ++ ts) → w.heap.size ≤ w'.heap.size → (∀ C wb, C ≤ B → Below C wb w → Below C wb w') → wpList Tryd.prog ops Q rest (a.put o.dst v') w') :
    wpList Tryd.prog ops Q (o :: rest) a w :=
  wpList_wanted hgd (wpList_append_s (o := { o with guard := none }) w rfl s x hop B v ls hs hown b off c ts m hm hx hc hlen hB hK)
end Go.Proofs.YtkggmehbkefgjaaDoor
