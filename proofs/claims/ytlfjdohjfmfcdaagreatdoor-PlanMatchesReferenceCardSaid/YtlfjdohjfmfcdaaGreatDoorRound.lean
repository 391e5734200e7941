/-
  A region that draws its order, within a round of a range over a function: it may be walked by the plain laws; a load of a variable that the region itself writes at its end may be taken first. No program is spoken of.
-/
import Derived.Test.YtlfjdohjfmfcdaaGreatDoorTail
import Derived.RangeFuncNested
import Derived.RangeFuncLeaves
import Derived.TacticsIn
import Derived.OrdersIn
import Derived.Lib.Hide
namespace Foyer.Round
open Go

section
variable {P : Program} {ops : Array Oper} {md : Region.Mode} {Q : Exit → Act → World → Prop} {l n : Nat}

/-- No operation of a region defers a call. -/
def plainB (ops : Array Oper) : Bool := ops.all fun o => match o.op with | .defer _ => false | _ => true
theorem plain_at (h : plainB ops = true) {i : Nat} {o : Oper} (ho : ops[i]? = some o) : ∀ c, o.op ≠ .defer c := fun c e => by
  have hm := Array.all_eq_true_iff_forall_mem.1 h o (Array.mem_of_getElem? ho)
  rw [e] at hm; cases hm
theorem oper_round {o : Oper} {a : Act} {w : World} {K : Act → World → Prop} (hd : ∀ c, o.op ≠ .defer c) (h : o.wp P a w K Q) : o.wpIn (Fence.wide.inRound l) n P a w K Q := by
  refine ⟨fun _ _ => trivial, ?_⟩
  rw [show (Fence.wide.inRound l).round = some l from rfl, Oper.semAt_some l _ _ hd]
  unfold Oper.wp at h
  generalize (execOp a.eval o).run P w = r at *
  cases r with
  | ok nx w' =>
    cases nx with
    | value v => exact h
    | skip => exact h
    | defer d => exact h
    | enter f args => exact ⟨fun hh => (by cases hh), (CallsIn.inRound l (callsIn_wide.2 h)).mono fun e w2 he => by cases e <;> exact he⟩
    | row r args => exact ⟨fun hh => (by cases hh), fun c cs _ => let ⟨v, w2, hr, hs⟩ := h c cs; ⟨v, w2, hr, stepsIn_wide.2 hs⟩⟩
    | _ => exact h.elim
  | halt x w' => cases x <;> exact h
theorem op_round (hd : plainB ops = true) (hno : ¬ LetsOut Q) {i : Nat} {a : Act} {w : World} {K : Act → World → Prop} (h : wpOp P ops Q i K a w) : wpOpIn (Fence.wide.inRound l) n P ops Q i K a w := by
  unfold wpOp at h
  unfold wpOpIn
  cases ho : ops[i]? with
  | none => rw [ho] at h; exact h
  | some o =>
    rw [ho] at h
    simp only at h ⊢
    split at h
    · rename_i hw
      rw [if_pos hw]
      exact oper_round (plain_at hd ho) (h.resolve_right fun hh => hno hh.2)
    · rename_i hw
      rw [if_neg hw]
      exact ⟨fun _ _ => trivial, h⟩
theorem any_round (hd : plainB ops = true) (hno : ¬ LetsOut Q) : ∀ (f : Nat) (listed : Array Bool) (a : Act) (w : World), wpAny P md ops Q f listed a w → wpAnyIn (Fence.wide.inRound l) n P md ops Q f listed a w
  | 0, _, _, _, h => h
  | f + 1, _, _, _, h => ⟨h.1, fun i hi => wpOpIn_mono (fun a' w' h' => any_round hd hno f _ a' w' h') (op_round hd hno (h.2 i hi))⟩
/-- A REGION THAT DRAWS ITS ORDER, WITHIN A ROUND, by the plain laws. -/
theorem region_round {id : Nat} {a : Act} {w : World} (hm : P.follows .mixedOrders = true) (hd : plainB ops = true) (hno : ¬ LetsOut Q)
    (h : wpAny P .any ops Q ops.size (Array.replicate ops.size false) a w.drew) : (Code.region id ops true).wpIn (Fence.wide.inRound l) n P Q a w :=
  wpIn_region_any hm (any_round hd hno _ _ _ _ h)
end

/-! ### What is read may be read first, where only some operations (N) touch it, which wait for the reading -/
section
variable {P : Program} {ops : Array Oper} {md : Region.Mode} {Q : Exit → Act → World → Prop} {S : World → Prop} {N : List Nat}

def held (P : Program) (md : Region.Mode) (ops : Array Oper) (Q : Exit → Act → World → Prop) (S : World → Prop) (N : List Nat) : Nat → Array Bool → Act → World → Prop
  | 0, listed, a, w => Region.ready md ops listed = [] ∧ Q .normal a w
  | f + 1, listed, a, w => (Region.ready md ops listed = [] → Q .normal a w) ∧ ∀ i ∈ Region.ready md ops listed, wpOp P ops Q i (fun a' w' => (i ∉ N → S w') ∧ held P md ops Q S N f (listed.setIfInBounds i true) a' w') a w
theorem any_of_held : ∀ (f : Nat) (listed : Array Bool) (a : Act) (w : World), held P md ops Q S N f listed a w → wpAny P md ops Q f listed a w
  | 0, _, _, _, h => h
  | f + 1, _, _, _, h => ⟨h.1, fun i hi => wpOp_mono (fun a' w' h' => any_of_held f _ a' w' h'.2) (h.2 i hi)⟩
/-- Those of D wait for i or for one of D. -/
def waitB (md : Region.Mode) (ops : Array Oper) (i : Nat) (D : List Nat) : Bool := D.all fun j => match ops[j]? with | none => false | some o => o.after.any fun e => Region.binds md e && (e.on == i || D.contains e.on)
theorem wait_at {i : Nat} {D : List Nat} (h : waitB md ops i D = true) {j : Nat} (hj : j ∈ D) {listed : Array Bool} (hi : listed.getD i false = false) (hD : ∀ k ∈ D, listed.getD k false = false) : j ∉ Region.ready md ops listed := fun hr => by
  obtain ⟨_, o, ho, hall⟩ := mem_ready.1 hr
  have h1 := List.all_eq_true.1 h j hj
  rw [ho] at h1
  obtain ⟨e, he, h2⟩ := Array.any_eq_true'.1 h1
  simp only [Bool.and_eq_true, Bool.or_eq_true, beq_iff_eq] at h2
  have h3 := hall e he h2.1
  rcases h2.2 with h4 | h4
  · rw [h4, hi] at h3; cases h3
  · rw [hD _ (by simpa using h4)] at h3; cases h3
theorem held_first {i : Nat} {oi : Oper} {v : Value} {D : List Nat} (hi : ops[i]? = some oi) (hsel : Region.noSelect ops = true) (hQ : ∀ c a w, Q (.panic c) (a.put oi.dst v) w → Q (.panic c) a w) (hD : waitB md ops i D = true) (hND : ∀ j ∈ N, j ∈ D) (hiD : i ∉ D) :
    ∀ (f : Nat) (listed : Array Bool) (a : Act) (w : World),
      (∀ j oj, ops[j]? = some oj → j ≠ i → listed.getD j true = false → (∀ e ∈ oj.after, Region.binds md e = true → e.on ≠ i) → oi.apart ops oj = true) →
      i ∈ Region.ready md ops listed → listed.getD i false = false → (∀ j ∈ D, listed.getD j false = false) → YieldsIf P ops S oi v a → S w →
      held P md ops Q S N f (listed.setIfInBounds i true) (a.put oi.dst v) w → held P md ops Q S N (f + 1) listed a w := by
  intro f
  induction f with
  | zero =>
    intro listed a w _ hr _ _ hy hS H
    refine ⟨fun h => (by rw [h] at hr; cases hr), fun j hj => ?_⟩
    by_cases hji : j = i
    · subst hji; exact hy.wpOp hi hS ⟨fun _ => hS, H⟩
    · have := ready_mono hj hji
      rw [H.1] at this; cases this
  | succ f ih =>
    intro listed a w hfree hr hi0 hun hy hS H
    refine ⟨fun h => (by rw [h] at hr; cases hr), fun j hj => ?_⟩
    by_cases hji : j = i
    · subst hji; exact hy.wpOp hi hS ⟨fun _ => hS, H⟩
    · have hjD : j ∉ D := fun hd => wait_at hD hd hi0 hun hj
      have hjN : j ∉ N := fun hn => hjD (hND j hn)
      have h1 := H.2 j (ready_mono hj hji)
      obtain ⟨hjun, oj, hoj, hall⟩ := mem_ready.1 hj
      have hnot : ∀ e ∈ oj.after, Region.binds md e = true → e.on ≠ i := fun e he hb heq => by
        have h2 := hall e he hb
        rw [heq, hi0] at h2; cases h2
      have h2 := wpOp_putIf hoj (hfree j oj hoj hji hjun hnot) (fun cs b => Region.noSelect_spec hsel i oi cs b hi) (fun cs b => Region.noSelect_spec hsel j oj cs b hoj) hQ hy h1
      refine wpOp_mono (fun a' w' h3 => ⟨fun _ => h3.2.1 hjN, ih (listed.setIfInBounds j true) a' w' (fun k ok hk hki hku hno => ?_) (ready_mono hr (Ne.symm hji)) (by rw [getD_set_ne false hji]; exact hi0) (fun k hk => ?_) h3.1 (h3.2.1 hjN) ?_⟩) h2
      · refine hfree k ok hk hki ?_ hno
        by_cases hjk : j = k
        · subst hjk; exact hjun
        · rw [getD_set_ne true hjk] at hku; exact hku
      · rw [getD_set_ne false (fun e => hjD (by rw [e]; exact hk))]; exact hun k hk
      · rw [Array.setIfInBounds_comm _ _ hji]
        exact h3.2.2
/-- What the kernel checks where an operation is taken first. -/
def takeB (md : Region.Mode) (ops : Array Oper) (i : Nat) (D N : List Nat) (listed : Array Bool) : Bool :=
  Region.noSelect ops && waitB md ops i D && N.all (fun j => D.contains j) && !D.contains i && Region.free md ops listed i && (Region.ready md ops listed).contains i && !listed.getD i false && D.all fun j => !listed.getD j false
theorem held_take {i : Nat} {oi : Oper} {v : Value} (D : List Nat) {f : Nat} {listed : Array Bool} {a : Act} {w : World} (hi : ops[i]? = some oi) (hB : takeB md ops i D N listed = true)
    (hQ : ∀ c a w, Q (.panic c) (a.put oi.dst v) w → Q (.panic c) a w) (hy : YieldsIf P ops S oi v a) (hS : S w)
    (h : held P md ops Q S N f (listed.setIfInBounds i true) (a.put oi.dst v) w) : held P md ops Q S N (f + 1) listed a w := by
  unfold takeB at hB
  simp only [Bool.and_eq_true, Bool.not_eq_true', List.all_eq_true] at hB
  obtain ⟨⟨⟨⟨⟨⟨⟨h1, h2⟩, h3⟩, h4⟩, h5⟩, h6⟩, h7⟩, h8⟩ := hB
  refine held_first hi h1 hQ h2 (fun j hj => by simpa using h3 j hj) (fun hd => ?_) f listed a w (Region.free_spec hi h5) (by simpa using h6) h7 h8 hy hS h
  have : D.contains i = true := by simpa using hd
  rw [h4] at this; cases this
/-- One operation alone may come up. -/
theorem held_one {i : Nat} {o : Oper} {f : Nat} {listed : Array Bool} {a : Act} {w : World} (hi : ops[i]? = some o) (hr : Region.ready md ops listed = [i])
    (h : ∀ K' : Act → World → Prop, RowKit.Hid (∀ a' w', (i ∉ N → S w') → held P md ops Q S N f (listed.setIfInBounds i true) a' w' → K' a' w') → if Region.wanted o (yielded ops a.tmps) = true then Oper.wp P o a w K' Q else K' (a.put o.dst undef) w) : held P md ops Q S N (f + 1) listed a w := by
  refine ⟨fun h0 => (by rw [hr] at h0; cases h0), fun j hj => ?_⟩
  rw [hr] at hj
  obtain rfl : j = i := by simpa using hj
  exact wpOp_step hi fun K' hK => h K' (Lib.hid fun a' w' h1 h2 => hK a' w' ⟨h1, h2⟩)
theorem held_done {listed : Array Bool} {a : Act} {w : World} (hr : Region.ready md ops listed = []) (h : Q .normal a w) : ∀ f, held P md ops Q S N f listed a w
  | 0 => ⟨hr, h⟩
  | _ + 1 => ⟨fun _ => h, fun i hi => by rw [hr] at hi; cases hi⟩
/-- The rest comes up in one order, and touches what it will. -/
theorem held_path : ∀ (is : List Nat) (listed : Array Bool) (a : Act) (w : World), (is.all fun i => decide (i < ops.size) && N.contains i) = true → Foyer.Tail.pathB md ops is listed = true →
    wpList P ops Q (is.filterMap (ops[·]?)) a w → held P md ops Q S N is.length listed a w
  | [], listed, a, w, _, hB, h => ⟨by simpa [Foyer.Tail.pathB] using hB, h⟩
  | i :: is, listed, a, w, hs, hB, h => by
    simp only [List.all_cons, Bool.and_eq_true, decide_eq_true_eq] at hs
    simp only [Foyer.Tail.pathB, Bool.and_eq_true, decide_eq_true_eq] at hB
    have h0 : ops[i]? = some ops[i] := Array.getElem?_eq_getElem hs.1.1
    rw [List.filterMap_cons, h0] at h
    refine ⟨fun he => (by rw [hB.1] at he; cases he), fun j hj => ?_⟩
    rw [hB.1] at hj
    obtain rfl : j = i := by simpa using hj
    have hw : wpOp P ops Q j (wpList P ops Q (is.filterMap (ops[·]?))) a w := by unfold wpOp; simp only [h0]; exact h
    have hjN : j ∈ N := by simpa using hs.1.2
    exact wpOp_mono (fun a' w' h' => ⟨fun hn => absurd hjN hn, held_path is _ a' w' (by simpa using hs.2) hB.2 h'⟩) hw
end
end Foyer.Round
