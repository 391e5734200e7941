/-
  A range over a function whose iterator hands over memory that it has made itself: its contract, and the law for the caller. What is handed over lies beyond a bound H; what the caller owns lies below it. No round of such a loop is left early. No program is spoken of.
-/
import Derived.RangeFuncNested
import Derived.RangeFuncFrom
import Derived.RangeFuncLeaves
import Derived.Test.YtkjgdgocjnocaaaDoorBase
namespace Foyer.Hands
open Go Go.RowKit
variable {α : Type} {P : Program} {n : Nat}

/-- The iterator's contract: 'G pre x W': what is true of the element x that comes behind 'pre', in the world in which it is handed over; 'fr x H': its memory lies beyond H. The round gives G back. -/
def SeqHands (n : Nat) (P : Program) (g : Nat) (lb : Array Value) (encs : α → Array Value) (G : List α → α → World → Prop) (fr : α → Nat → Prop) (S : List α → Prop) (N : Nat) (w : World) : Prop :=
  ∀ (l : Nat) (J : Nat → List α → World → Prop) (W : World), Below w.heap.size w W → (∀ H, AbidesFrom W.heap.size (J H)) →
    (∀ pre x H W1, J H pre W1 → H ≤ W1.heap.size → fr x H → G pre x W1 → pre.length < N →
      YieldAt Fence.wide (n - 1) P l (encs x) W1 fun e W' => e = .returned (.bool true) ∧ (∃ H', H' ≤ W'.heap.size ∧ J H' (pre ++ [x]) W') ∧ G pre x W') →
    J W.heap.size [] W →
    CallsIn Fence.wide n P g (#[.func (.yield l) #[] #[]] ++ lb) W fun e W' => (∃ v, e = .returned v) ∧ ∃ xs H, S xs ∧ H ≤ W'.heap.size ∧ J H xs W'

/-- What the body of a round leaves. -/
def handPost (I : Nat → List α → World → Prop) (G : List α → α → World → Prop) (pre : List α) (x : α) (W : World) : Exit → Act → World → Prop
  | .normal, _, W' => KeepsOthers W W' ∧ (∃ H', H' ≤ W'.heap.size ∧ I H' (pre ++ [x]) W') ∧ G pre x W'
  | _, _, _ => False
theorem no_way_out (I : Nat → List α → World → Prop) (G : List α → α → World → Prop) (pre : List α) (x : α) (W : World) : ¬ LetsOut (handPost I G pre x W) := fun ⟨_, _, h⟩ => h

theorem wpIn_rangeFunc_hands {g : Operand} {ps : Array Tmp} {assign body : Code} {Q : Exit → Act → World → Prop} {a : Act} {w w0 : World} {gf : Nat} {lb : Array Value} {encs : α → Array Value} {G : List α → α → World → Prop} {fr : α → Nat → Prop} {S : List α → Prop} {N : Nat}
    (h1 : 1 ≤ n) (hg : a.eval g = .func (.func gf) #[] lb) (eg : ∀ args w, (callFunc gf args).run P w = .ok (.enter gf args) w)
    (hseq : SeqHands (n - 1) P gf lb encs G fr S N w0) (hb0 : Below w0.heap.size w0 w) (hps : ∀ x, (encs x).size = ps.size)
    (hG : ∀ pre x, OwnFrom w.heap.size (fun (_ : Unit) W => G pre x W))
    (I : Nat → List α → World → Prop) (hI : ∀ H, OwnFrom w.heap.size (I H)) (h0 : ∀ H, w.heap.size ≤ H → I H [] w) (a₁ : α → Act)
    (hassign : ∀ (l : Nat) (x : α) (W : World) (K : Act → World → Prop), K (a₁ x) W →
      assign.wpIn (Fence.wide.inRound l) (n - 1 - 1) P (Exit.then K (fun _ _ _ => False)) { tmps := (ps.zip (encs x)).foldl (fun t (p, v) => t.setIfInBounds p v) a.tmps, defers := [] } W)
    (hbody : ∀ (l : Nat) (pre : List α) (x : α) (H : Nat) (W : World), I H pre W → H ≤ W.heap.size → fr x H → G pre x W → pre.length < N → body.wpIn (Fence.wide.inRound l) (n - 1 - 1) P (handPost I G pre x W) (a₁ x) W)
    (hdone : ∀ (D : Nat) (xs : List α) (H : Nat) (W : World), w.heap.size ≤ D → S xs → H ≤ W.heap.size → I H xs W → W.heap[D]? = some (.deferred (some [])) → Q .normal { a with defers := { target := .collected D, args := #[] } :: a.defers } W) :
    (Code.rangeFunc g ps assign body).wpIn Fence.wide n P Q a w := by
  refine wpIn_rangeFunc fun fn hfn => ?_
  let rec' : LoopState → Option Code → Loop := fun st pe => { state := st, pending := pe, fn, tmps := a.tmps, params := ps, assign, body, defers := w.heap.size }
  obtain ⟨W1, hW1⟩ : ∃ W1, (w.alloc (.deferred (some []))).alloc (.loop (rec' .ready none)) = W1 := ⟨_, rfl⟩
  have hL1 : W1.heap[w.heap.size + 1]? = some (.loop (rec' .ready none)) := by
    rw [← hW1]
    have := World.alloc_heap_new (w.alloc (.deferred (some []))) (.loop (rec' .ready none))
    rwa [World.size_alloc] at this
  have hK1 : W1.heap[w.heap.size]? = some (.deferred (some [])) := by
    rw [← hW1]; exact (Below.heap_alloc _ _ _ (by simp)).trans (World.alloc_heap_new w _)
  have hs1 : W1.heap.size = w.heap.size + 2 := by rw [← hW1]; simp
  have hI1 : I W1.heap.size [] W1 := by
    have h00 := h0 W1.heap.size (by omega)
    rw [← hW1] at h00 ⊢
    exact (hI _).alloc _ ((hI _).alloc _ h00)
  have hb1 : Below w0.heap.size w0 W1 := by
    rw [← hW1]
    exact hb0.trans ((((Below.refl _ w).alloc (Nat.le_refl _) _).alloc (by simp) _).mono hb0.size)
  refine ⟨w.heap.size + 1, [{ target := .collected w.heap.size, args := #[] }], W1, { target := .fn (.func gf) lb, args := #[.func (.yield (w.heap.size + 1)) #[] #[]] }, W1, gf, #[.func (.yield (w.heap.size + 1)) #[] #[]] ++ lb, W1, ?_, ?_, ?_, ?_, fun _ => h1, ?_⟩
  · rw [← hW1]; exact run_enterLoop_outer _ _ _ _ _
  · simp only [resolve, hg]
    simp [go_sem]
  · exact fun _ _ => trivial
  · simp [invoke, go_sem, eg]
  · have hnw : ∀ {A : World} {row : Option Nat}, (∀ r, row = some r → W1.heap.size ≤ r ∧ ∃ o : Obj, A.heap[r]? = some o ∧ o.isWalk = true) → (∀ r, row = some r → w.heap.size ≤ r ∧ ∃ o : Obj, A.heap[r]? = some o ∧ o.isCells = false) :=
      fun hr r e => by
        obtain ⟨hB, o, ho, hw⟩ := hr r e
        exact ⟨by omega, o, ho, Obj.not_cells_of_walk hw⟩
    refine (hseq (w.heap.size + 1) (fun H pre W => I H pre W ∧ W.heap[w.heap.size + 1]? = some (.loop (rec' .ready none)) ∧ W.heap[w.heap.size]? = some (.deferred (some []))) W1 hb1
      (fun H s A B row hs hg' hr => ⟨hI H s A B row hs.1 hg' (hnw hr), (grownBy_keeps hg' (fun r e => (hr r e).2) hs.2.1 rfl).trans hs.2.1, (grownBy_keeps hg' (fun r e => (hr r e).2) hs.2.2 rfl).trans hs.2.2⟩)
      ?_ ⟨hI1, hL1, hK1⟩).mono ?_
    · rintro pre x H W ⟨hi, hl, hk⟩ hH hfr hg0 hlen
      have hlt : w.heap.size + 1 < W.heap.size := (Array.getElem?_eq_some_iff.1 hl).1
      have hy := run_yield (P := P) (args := encs x) hl (hps x)
      refine ⟨fn, _, assign, body, hy, roundIn_of_wpIn hfn (hassign _ x W _ ⟨_, run_beginRound hl rfl, ?_⟩)⟩
      obtain ⟨W2, hW2⟩ : ∃ W2, W.putObj (w.heap.size + 1) (.loop { rec' .ready none with state := .busy }) = W2 := ⟨_, rfl⟩
      have hl2 : W2.heap[w.heap.size + 1]? = some (.loop { rec' .ready none with state := .busy }) := by rw [← hW2]; exact World.putObj_heap_same hlt
      have hk2 : W2.heap[w.heap.size]? = some (.deferred (some [])) := by rw [← hW2]; exact (World.putObj_heap_other (by omega)).trans hk
      have hi2 : I H pre W2 := by rw [← hW2]; exact (hI H).putObj _ hi (by omega) hl rfl
      have hg2 : G pre x W2 := by rw [← hW2]; exact (hG pre x).putObj (s := ()) _ hg0 (by omega) hl rfl
      have hH2 : H ≤ W2.heap.size := by
        have := (grownBy_putObj' W (w.heap.size + 1) (.loop { rec' .ready none with state := .busy })).size
        rw [hW2] at this; omega
      show body.wpIn _ _ _ _ _ (W.putObj (w.heap.size + 1) (.loop { rec' .ready none with state := .busy }))
      rw [hW2]
      refine wpIn_mono (hbody _ pre x H W2 hi2 hH2 hfr hg2 hlen) ?_
      rintro e a3 W3 hp
      cases e with
      | normal =>
        obtain ⟨hk3, ⟨H', hH', hi3⟩, hg3⟩ := hp
        have hl3 := hk3.same _ _ hl2 rfl
        have hrun := run_endRound (P := P) none hl3
        have hlt3 := (Array.getElem?_eq_some_iff.1 hl3).1
        refine ⟨_, _, hrun, rfl, ⟨H', ?_, (hI H').putObj _ hi3 (by omega) hl3 rfl, World.putObj_heap_same hlt3, (World.putObj_heap_other (by omega)).trans (hk3.same _ _ hk2 rfl)⟩, (hG pre x).putObj (s := ()) _ hg3 (by omega) hl3 rfl⟩
        exact Nat.le_trans hH' (grownBy_putObj' W3 (w.heap.size + 1) _).size
      | _ => exact hp.elim
    · rintro e W2 ⟨⟨v, rfl⟩, xs, H, hS, hH, hi, hl, hk⟩
      refine ⟨none, _, run_endLoop (P := P) hl (by simp [rec']), hdone _ xs H _ (Nat.le_refl _) hS ?_ ((hI H).putObj _ hi (by omega) hl rfl) ((World.putObj_heap_other (by omega)).trans hk)⟩
      exact Nat.le_trans hH (grownBy_putObj' W2 (w.heap.size + 1) _).size
end Foyer.Hands
