/-
  Stores of whole blocks.
-/
import Derived.Test.YtdmancneccfgeaaHeap
namespace Go.Proofs.Ytdmancneccfgeaa
open Go.RowKit Go.Sort

/-- A whole block written by a store, in a region that is walked in one order. -/
theorem wpList_store_blk {P : Program} {ops : Array Oper} {rest : List Oper} {op : Oper} {a : Act} {w : World} {Q : Exit → Act → World → Prop} (hgd : op.guard = none) (ty : TypeId) (x y : Operand) (ho : op.op = .store ty x y)
    (b : Nat) (T : TypeId) (old vs : List Value) (hx : a.eval x = .pointer (some ⟨b, 0, none⟩)) (hy : a.eval y = .agg vs.toArray) (hB : Blk w b T old) (hl : old.length = vs.length) (hi : (P.info? ty).map (·.size) = some vs.length) (h1 : vs.toArray.all (·.oneCell') = true)
    (h : ∀ w', Blk w' b T vs → Kp (fun k => k = b) w w' → wpList P ops Q rest (a.put op.dst undef) w') : wpList P ops Q (op :: rest) a w := by
  refine wpList_plain hgd fun K hK => ?_
  have hr := run_storeVar_mid (P := P) w b 0 ty vs.toArray (by simpa [hl] using hB.there) (by simpa using hi) h1
  have h2 := h (w.setCells b 0 vs) (hB.whole hl) (Kp.setCells (E := fun k => k = b) (p := b) (Or.inl rfl) vs 0 w (Kp.refl _ w))
  unfold Oper.wp
  simp only [execOp, ho, hx, hy, Instr.storeAt, Instr.sureAddr, Sem.run_bind, Sem.run_pure, Result.andThen_ok, hr]
  exact hK _ _ h2
end Go.Proofs.Ytdmancneccfgeaa
