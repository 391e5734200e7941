/-
  A range over a function whose iterator keeps memory of its own over all rounds, and more of it over each round: its contract, and the law for the caller. The iterator's memory is a block b between the loop's beginning and a bound L, and a block c of the round, at H and beyond; what the caller owns lies below the loop's beginning, or between L and H, where the last round ended; the round's own variable lies in a block t of its own. A round may be left early. No program is spoken of.
-/
import Derived.RangeFuncOwn
import Derived.RangeFuncNested
import Derived.RangeFuncFrom
import Derived.RangeFuncLeaves
import Derived.Test.YtlfjdohjfmfcdaaGreatDoorBase
namespace Foyer.Kept
open Go Go.RowKit
variable {α : Type} {P : Program} {n : Nat}

/-- The iterator's contract: 'G b c x W': what the iterator's own blocks b and c hold, with the element x; each round gives it back. 'items': what comes, in order. -/
def SeqKept (n : Nat) (P : Program) (g : Nat) (lb : Array Value) (encs : α → Array Value) (G : Nat → Nat → α → World → Prop) (items : List α) (w : World) : Prop :=
  ∀ (l : Nat) (J : Nat → Nat → List α → World → Prop) (Jx : World → Prop) (W : World), Below w.heap.size w W → (∀ L H, AbidesFrom W.heap.size (J L H)) → AbidesFrom W.heap.size (fun (_ : Unit) => Jx) →
    (∀ b L c H pre x post W1, items = pre ++ x :: post → J L H pre W1 → W.heap.size ≤ b → b < L → L ≤ H → H ≤ c → c < W1.heap.size → G b c x W1 →
      YieldAt Fence.wide (n - 1) P l (encs x) W1 fun e W' => (e = .returned (.bool true) ∧ (∃ H', L ≤ H' ∧ H' ≤ W'.heap.size ∧ J L H' (pre ++ [x]) W') ∧ G b c x W') ∨ (e = .returned (.bool false) ∧ Jx W')) →
    (∀ L H, W.heap.size ≤ L → L ≤ H → J L H [] W) →
    CallsIn Fence.wide n P g (#[.func (.yield l) #[] #[]] ++ lb) W fun e W' => (∃ v, e = .returned v) ∧ ((∃ L H, J L H items W') ∨ Jx W')

/-- What the body of a round leaves. -/
def keptPost (I : Nat → Nat → List α → World → Prop) (Ix : Code → World → Prop) (G : Nat → Nat → α → World → Prop) (b L c : Nat) (pre : List α) (x : α) (W : World) : Exit → Act → World → Prop
  | .normal, _, W' => KeepsOthers W W' ∧ (∃ H', L ≤ H' ∧ H' ≤ W'.heap.size ∧ I L H' (pre ++ [x]) W') ∧ G b c x W'
  | .ret, _, W' => KeepsOthers W W' ∧ Ix .ret W'
  | _, _, _ => False

theorem wpIn_rangeFunc_kept {g : Operand} {ps : Array Tmp} {assign body : Code} {Q : Exit → Act → World → Prop} {a : Act} {w w0 : World} {gf : Nat} {lb : Array Value} {encs : α → Array Value} {G : Nat → Nat → α → World → Prop} {items : List α}
    (h1 : 1 ≤ n) (hg : a.eval g = .func (.func gf) #[] lb) (eg : ∀ args w, (callFunc gf args).run P w = .ok (.enter gf args) w)
    (hseq : SeqKept (n - 1) P gf lb encs G items w0) (hb0 : Below w0.heap.size w0 w) (hps : ∀ x, (encs x).size = ps.size)
    (hG : ∀ b c x, OwnFrom w.heap.size (fun (_ : Unit) W => G b c x W))
    (I : Nat → Nat → List α → World → Prop) (hI : ∀ L H, OwnFrom w.heap.size (I L H)) (Ix : Code → World → Prop) (hIx : ∀ c, OwnFrom w.heap.size (fun (_ : Unit) => Ix c)) (h0 : ∀ L H, w.heap.size ≤ L → L ≤ H → I L H [] w) (a₁ : α → Nat → Act) (bx : α → Obj)
    (hassign : ∀ (l : Nat) (x : α) (W : World) (K : Act → World → Prop), K (a₁ x W.heap.size) (W.alloc (bx x)) →
      assign.wpIn (Fence.wide.inRound l) (n - 1 - 1) P (Exit.then K (fun _ _ _ => False)) { tmps := (ps.zip (encs x)).foldl (fun t (p, v) => t.setIfInBounds p v) a.tmps, defers := [] } W)
    (hbody : ∀ (l : Nat) (b L c H t : Nat) (pre : List α) (x : α) (post : List α) (W : World), items = pre ++ x :: post → I L H pre W → w.heap.size ≤ b → b < L → L ≤ H → H ≤ c → c < t → t < W.heap.size → W.heap[t]? = some (bx x) → G b c x W → body.wpIn (Fence.wide.inRound l) (n - 1 - 1) P (keptPost I Ix G b L c pre x W) (a₁ x t) W)
    (hdone : ∀ (D L H : Nat) (W : World), w.heap.size ≤ D → I L H items W → W.heap[D]? = some (.deferred (some [])) → Q .normal { a with defers := { target := .collected D, args := #[] } :: a.defers } W)
    (hstop : ∀ (D : Nat) (W : World), w.heap.size ≤ D → Ix .ret W → W.heap[D]? = some (.deferred (some [])) → Code.ret.wpIn Fence.wide n P Q { a with defers := { target := .collected D, args := #[] } :: a.defers } W) :
    (Code.rangeFunc g ps assign body).wpIn Fence.wide n P Q a w := by
  refine wpIn_rangeFunc fun fn hfn => ?_
  let rec' : LoopState → Option Code → Loop := fun st pe => { state := st, pending := pe, fn, tmps := a.tmps, params := ps, assign, body, defers := w.heap.size }
  obtain ⟨W1, hW1⟩ : ∃ W1, (w.alloc (.deferred (some []))).alloc (.loop (rec' .ready none)) = W1 := ⟨_, rfl⟩
  have hL1 : W1.heap[w.heap.size + 1]? = some (.loop (rec' .ready none)) := by
    rw [← hW1]
    have := World.alloc_heap_new (w.alloc (.deferred (some []))) (.loop (rec' .ready none))
    rwa [World.size_alloc] at this
  have hK1 : W1.heap[w.heap.size]? = some (.deferred (some [])) := by
    rw [← hW1]; exact (Below.heap_alloc _ _ _ (by simp)).trans (World.alloc_heap_new w _)
  have hs1 : W1.heap.size = w.heap.size + 2 := by rw [← hW1]; simp
  have hI1 : ∀ L H, W1.heap.size ≤ L → L ≤ H → I L H [] W1 := by
    intro L H hL hH
    have h00 := h0 L H (by omega) hH
    rw [← hW1]
    exact (hI _ _).alloc _ ((hI _ _).alloc _ h00)
  have hb1 : Below w0.heap.size w0 W1 := by
    rw [← hW1]
    exact hb0.trans ((((Below.refl _ w).alloc (Nat.le_refl _) _).alloc (by simp) _).mono hb0.size)
  refine ⟨w.heap.size + 1, [{ target := .collected w.heap.size, args := #[] }], W1, { target := .fn (.func gf) lb, args := #[.func (.yield (w.heap.size + 1)) #[] #[]] }, W1, gf, #[.func (.yield (w.heap.size + 1)) #[] #[]] ++ lb, W1, ?_, ?_, ?_, ?_, fun _ => h1, ?_⟩
  · rw [← hW1]; exact run_enterLoop_outer _ _ _ _ _
  · simp only [resolve, hg]
    simp [go_sem]
  · exact fun _ _ => trivial
  · simp [invoke, go_sem, eg]
  · have hnw : ∀ {A : World} {row : Option Nat}, (∀ r, row = some r → W1.heap.size ≤ r ∧ ∃ o : Obj, A.heap[r]? = some o ∧ o.isWalk = true) → (∀ r, row = some r → w.heap.size ≤ r ∧ ∃ o : Obj, A.heap[r]? = some o ∧ o.isCells = false) :=
      fun hr r e => by
        obtain ⟨hB, o, ho, hw⟩ := hr r e
        exact ⟨by omega, o, ho, Obj.not_cells_of_walk hw⟩
    refine (hseq (w.heap.size + 1) (fun L H pre W => I L H pre W ∧ W.heap[w.heap.size + 1]? = some (.loop (rec' .ready none)) ∧ W.heap[w.heap.size]? = some (.deferred (some [])))
      (fun W => Ix .ret W ∧ W.heap[w.heap.size + 1]? = some (.loop (rec' .done (some .ret))) ∧ W.heap[w.heap.size]? = some (.deferred (some []))) W1 hb1
      (fun L H s A B row hs hg' hr => ⟨hI L H s A B row hs.1 hg' (hnw hr), (grownBy_keeps hg' (fun r e => (hr r e).2) hs.2.1 rfl).trans hs.2.1, (grownBy_keeps hg' (fun r e => (hr r e).2) hs.2.2 rfl).trans hs.2.2⟩)
      (fun s A B row hs hg' hr => ⟨hIx .ret s A B row hs.1 hg' (hnw hr), (grownBy_keeps hg' (fun r e => (hr r e).2) hs.2.1 rfl).trans hs.2.1, (grownBy_keeps hg' (fun r e => (hr r e).2) hs.2.2 rfl).trans hs.2.2⟩)
      ?_ (fun L H hL hH => ⟨hI1 L H hL hH, hL1, hK1⟩)).mono ?_
    · rintro b L c H pre x post W hit ⟨hi, hl, hk⟩ hb hbL hLH hHc hc hg0
      have hltW : w.heap.size + 1 < W.heap.size := (Array.getElem?_eq_some_iff.1 hl).1
      have hy := run_yield (P := P) (args := encs x) hl (hps x)
      have hlA : (W.alloc (bx x)).heap[w.heap.size + 1]? = some (.loop (rec' .ready none)) := (Below.heap_alloc _ _ _ hltW).trans hl
      have hkA : (W.alloc (bx x)).heap[w.heap.size]? = some (.deferred (some [])) := (Below.heap_alloc _ _ _ (by omega)).trans hk
      have hxA : (W.alloc (bx x)).heap[W.heap.size]? = some (bx x) := World.alloc_heap_new W _
      have hiA : I L H pre (W.alloc (bx x)) := (hI L H).alloc _ hi
      have hgA : G b c x (W.alloc (bx x)) := (hG b c x).alloc (s := ()) _ hg0
      have hsA : (W.alloc (bx x)).heap.size = W.heap.size + 1 := by simp
      refine ⟨fn, _, assign, body, hy, roundIn_of_wpIn hfn (hassign _ x W _ ⟨_, run_beginRound hlA rfl, ?_⟩)⟩
      obtain ⟨t, ht⟩ : ∃ t, W.heap.size = t := ⟨_, rfl⟩
      rw [ht] at hxA hltW hsA hc ⊢
      generalize W.alloc (bx x) = W at *
      have hlt : w.heap.size + 1 < W.heap.size := by omega
      obtain ⟨W2, hW2⟩ : ∃ W2, W.putObj (w.heap.size + 1) (.loop { rec' .ready none with state := .busy }) = W2 := ⟨_, rfl⟩
      have hl2 : W2.heap[w.heap.size + 1]? = some (.loop { rec' .ready none with state := .busy }) := by rw [← hW2]; exact World.putObj_heap_same hlt
      have hk2 : W2.heap[w.heap.size]? = some (.deferred (some [])) := by rw [← hW2]; exact (World.putObj_heap_other (by omega)).trans hkA
      have hx2 : W2.heap[t]? = some (bx x) := by rw [← hW2]; exact (World.putObj_heap_other (by omega)).trans hxA
      have hi2 : I L H pre W2 := by rw [← hW2]; exact (hI L H).putObj _ hiA (by omega) hlA rfl
      have hg2 : G b c x W2 := by rw [← hW2]; exact (hG b c x).putObj (s := ()) _ hgA (by omega) hlA rfl
      have ht2 : t < W2.heap.size := by
        have := (grownBy_putObj' W (w.heap.size + 1) (.loop { rec' .ready none with state := .busy })).size
        rw [hW2] at this; omega
      show body.wpIn _ _ _ _ _ (W.putObj (w.heap.size + 1) (.loop { rec' .ready none with state := .busy }))
      rw [hW2]
      refine wpIn_mono (hbody _ b L c H t pre x post W2 hit hi2 (by omega) hbL hLH hHc hc ht2 hx2 hg2) ?_
      rintro e a3 W3 hp
      cases e with
      | normal =>
        obtain ⟨hk3, ⟨H', hH1, hH2, hi3⟩, hg3⟩ := hp
        have hl3 := hk3.same _ _ hl2 rfl
        have hrun := run_endRound (P := P) none hl3
        have hlt3 := (Array.getElem?_eq_some_iff.1 hl3).1
        refine ⟨_, _, hrun, Or.inl ⟨rfl, ⟨H', hH1, ?_, (hI L H').putObj _ hi3 (by omega) hl3 rfl, World.putObj_heap_same hlt3, (World.putObj_heap_other (by omega)).trans (hk3.same _ _ hk2 rfl)⟩, (hG b c x).putObj (s := ()) _ hg3 (by omega) hl3 rfl⟩⟩
        exact Nat.le_trans hH2 (grownBy_putObj' W3 (w.heap.size + 1) _).size
      | ret =>
        obtain ⟨hk3, hi3⟩ := hp
        have hl3 := hk3.same _ _ hl2 rfl
        have hrun := run_endRound (P := P) (some .ret) hl3
        have hlt3 := (Array.getElem?_eq_some_iff.1 hl3).1
        exact ⟨_, _, hrun, Or.inr ⟨rfl, (hIx .ret).putObj (s := ()) _ hi3 (by omega) hl3 rfl, World.putObj_heap_same hlt3, (World.putObj_heap_other (by omega)).trans (hk3.same _ _ hk2 rfl)⟩⟩
      | _ => exact hp.elim
    · rintro e W2 ⟨⟨v, rfl⟩, (⟨L, H, hi, hl, hk⟩ | ⟨hi, hl, hk⟩)⟩
      · exact ⟨none, _, run_endLoop (P := P) hl (by simp [rec']), hdone _ L H _ (Nat.le_refl _) ((hI L H).putObj _ hi (by omega) hl rfl) ((World.putObj_heap_other (by omega)).trans hk)⟩
      · exact ⟨some .ret, _, run_endLoop (P := P) hl (by simp [rec']), hstop _ _ (Nat.le_refl _) ((hIx .ret).putObj (s := ()) _ hi (by omega) hl rfl) ((World.putObj_heap_other (by omega)).trans hk)⟩
end Foyer.Kept
