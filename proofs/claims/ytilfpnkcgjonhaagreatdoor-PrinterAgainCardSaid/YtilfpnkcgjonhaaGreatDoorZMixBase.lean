/-
  What the walks of plans and of rules share.
-/
import Derived.Test.YtilfpnkcgjonhaaGreatDoorZWalkLex
import Derived.Test.YtilfpnkcgjonhaaGreatDoorZHeap
namespace Go.Proofs.YtilfpnkcgjonhaaGreatDoor
open Go.RowKit Go.Sort Foyer.Lexer
abbrev TokM := Foyer.Lexer.Tok
theorem TokAt.kept {E : Nat → Prop} {w w' : World} {b o : Nat} {t : TokM} (h : TokAt w b o t) (k : Kp E w w') (hE : ¬ E b) : TokAt w' b o t := by
 have hb := lt_of_cell h.kind
 have e : ∀ i, w'.cell? ⟨b, i, none⟩ = w.cell? ⟨b, i, none⟩ := fun i => World.cell?_of_block (w := w) (k.block b hb hE)
 exact ⟨by rw [e]; exact h.kind, by rw [e]; exact h.text, by rw [e]; exact h.val, by rw [e]; exact h.pos⟩
theorem Kp.setRes (W : World) (b : Nat) (v0 v1 v2 v3 : Value) : Kp (fun k => k = b) W ((((W.setCell ⟨b, 0, none⟩ v0).setCell ⟨b, 1, none⟩ v1).setCell ⟨b, 2, none⟩ v2).setCell ⟨b, 3, none⟩ v3) :=
 ((((Kp.refl (fun k => k = b) W).setOld b 0 rfl v0).setOld b 1 rfl v1).setOld b 2 rfl v2).setOld b 3 rfl v3
theorem Kp.result {E : Nat → Prop} {a W : World} {b : Nat} (h : Kp E a W) (hb : a.heap.size ≤ b) (vs : List Value) : Kp E a (W.setCells b 0 vs) := Kp.setCells (Or.inr hb) vs 0 W h
end Go.Proofs.YtilfpnkcgjonhaaGreatDoor
