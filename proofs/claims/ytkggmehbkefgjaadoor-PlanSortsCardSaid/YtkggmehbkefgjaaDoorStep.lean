/-
  A step of a region that appends texts to a list of the call's own.
-/
import Derived.Test.YtkggmehbkefgjaaDoorOwnStrs
import Derived.Test.YtkggmehbkefgjaaDoorRound
import Derived.Deep.AppendLies
namespace Go.Proofs.YtkggmehbkefgjaaDoor
open Go.RowKit Go.Sort

theorem rdS_at' {w : World} {b : Nat} {ls : List (List UInt8)} (h : RdS w (some ⟨b, 0, none⟩) ls) (j : Nat) (hj : j < ls.length) : w.cell? ⟨b, 0 + j, none⟩ = some (.string ⟨(ls.getD j []).toArray⟩) := by
  rcases h with e | ⟨b', off, e, _, hc⟩
  · rw [e] at hj; simp at hj
  · simp only [Option.some.injEq, Addr.mk.injEq, and_true] at e
    obtain ⟨rfl, rfl⟩ := e
    exact hc j hj

/-- What is appended, as a step of a region. -/
theorem step_append_w {ops : Array Oper} {o : Oper} {a : Act} {K : Act → World → Prop} {Q : Exit → Act → World → Prop} {E : Prop} (w : World) (hw : Region.wanted o (yielded ops a.tmps) = true) (s x : Operand)
    (hop : o.op = Op.call { callee := Callee.builtin Builtin.append, args := #[s, x], argTypes := #[60, 60] })
    (B : Nat) (v : Value) (ls : List (List UInt8)) (k : Nat) (hk : ls.length = k) (hs : a.eval s = v) (hown : OwnS w B v ls) (b off c : Nat) (ts : List (List UInt8)) (m : Nat) (hm : ts.length = m) (hm0 : 0 < m) (hx : a.eval x = .slice (some ⟨b, off, none⟩) m c)
    (hc : ∀ j, j < ts.length → w.cell? ⟨b, off + j, none⟩ = some (.string ⟨(ts.getD j []).toArray⟩)) (hlen : ls.length + m ≤ 1000000) (hB : B ≤ w.heap.size)
    (hK : ∀ g cap w', OwnS w' B (.slice (some ⟨g, 0, none⟩) (k + m) cap) (ls ++ ts) → w.grownBy w' v.ownBlock → (∀ C wb, C ≤ B → Below C wb w → Below C wb w') → K (a.put o.dst (.slice (some ⟨g, 0, none⟩) (k + m) cap)) w') :
    if Region.wanted o (yielded ops a.tmps) = true then Oper.wp Tryd.prog o a w K Q else E := by
  subst hk
  rw [if_pos hw]
  obtain ⟨i0, hi, hz0, hz1, hz2⟩ := info_parts strInfo
  refine wp_append_lies w s x 60 hop B 9 i0 (.string ⟨#[]⟩) 1 16 Tryd.underlying60 hi hz0 hz1 hz2 rfl (by decide) v ls.length _ hs hown ⟨b, off, none⟩ m c (ts.map fun l => Value.string ⟨l.toArray⟩) hx (by simp [hm]) ?c1 ?c2 hm0 ?d3 ?d4 hB _ rfl ?_
  case c1 =>
    intro j u hu
    rw [List.getElem?_map] at hu
    have hj : j < ts.length := by
      rcases Nat.lt_or_ge j ts.length with h | h
      · exact h
      · rw [List.getElem?_eq_none h] at hu; cases hu
    rw [List.getElem?_eq_getElem hj] at hu
    simp only [Option.map_some] at hu
    rw [add_plain, hc j hj, ← hu]
    simp [List.getD_eq_getElem?_getD, hj]
  case c2 =>
    intro u hu
    obtain ⟨l, _, rfl⟩ := List.mem_map.1 hu
    rfl
  case d3 => unfold maxLen; omega
  case d4 => omega
  intro g cap w' hown' hg _ _
  refine hK g cap w' ?_ hg fun C wb hC hb => hb.grown hg (Nat.le_trans hC hB) (fun q hq => Nat.le_trans hC (hown.lt q hq).1)
  refine own_cast hown' (by simp [hm]) (by simp)
end Go.Proofs.YtkggmehbkefgjaaDoor
