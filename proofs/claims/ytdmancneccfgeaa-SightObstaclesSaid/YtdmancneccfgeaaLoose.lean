/-
  A region that draws its order: most of its operations read or call and yield one value in whatever world is grown from the first one; some make blocks for variables and may come up at any time; the last ones come in one order. One walk in the text's order serves. No program is spoken of.
-/
import Derived.Test.YtdmancneccfgeaaRound
import Derived.Deep.Quiet
import Derived.Below
namespace Foyer.Loose
open Go Go.RowKit

/-- A slot, and what the block that its address leads to is made of. -/
abbrev Spot := Nat × TypeId × List Value
def ptr (b : Nat) : Value := .pointer (some ⟨b, 0, none⟩)
theorem put_other {a : Act} {d : Option Tmp} {v : Value} {s : Nat} (h : d ≠ some s) : (a.put d v).tmps.getD s undef = a.tmps.getD s undef := by
  cases d with
  | none => rfl
  | some d =>
    have : d ≠ s := fun e => h (by rw [e])
    show (a.tmps.setIfInBounds d v).getD s undef = _
    simp [Array.getElem?_setIfInBounds_ne this]
theorem put_same {a : Act} {v : Value} {s : Nat} : (a.put (some s) v).tmps.getD s undef = v ∨ (a.put (some s) v).tmps.getD s undef = undef := by
  show (a.tmps.setIfInBounds s v).getD s undef = v ∨ (a.tmps.setIfInBounds s v).getD s undef = undef
  rcases Nat.lt_or_ge s a.tmps.size with h | h
  · left; simp [h]
  · right; simp [h]

section
variable {P : Program} {ops : Array Oper} {md : Region.Mode} {Q : Exit → Act → World → Prop} {w0 : World} {A : List Spot}

/-- The blocks that the frame's addresses lead to lie there. -/
structure In (w0 : World) (A : List Spot) (a : Act) (w : World) : Prop where
  below : Below w0.heap.size w0 w
  lies : ∀ p ∈ A, ∀ b, a.tmps.getD p.1 undef = ptr b → w0.heap.size ≤ b ∧ w.heap[b]? = some (.cells p.2.2.toArray p.2.1 (0, 0))
  apart : ∀ p ∈ A, ∀ q ∈ A, p.1 ≠ q.1 → ∀ b, a.tmps.getD p.1 undef = ptr b → a.tmps.getD q.1 undef ≠ ptr b
theorem In.quiet {a : Act} {w w' : World} (h : In w0 A a w) (hb : Below w.heap.size w w') {d : Option Tmp} (hd : ∀ p ∈ A, d ≠ some p.1) (v : Value) : In w0 A (a.put d v) w' := by
  refine ⟨h.below.trans (hb.mono h.below.size), fun p hp b e => ?_, fun p hp q hq hpq b e => ?_⟩
  · rw [put_other (hd p hp)] at e
    obtain ⟨h1, h2⟩ := h.lies p hp b e
    exact ⟨h1, (hb.block b (Array.getElem?_eq_some_iff.1 h2).1).trans h2⟩
  · rw [put_other (hd p hp)] at e
    rw [put_other (hd q hq)]
    exact h.apart p hp q hq hpq b e
theorem In.none {a : Act} {w : World} (h : In w0 A a w) (d : Option Tmp) : In w0 A (a.put d undef) w := by
  have key : ∀ s b, (a.put d undef).tmps.getD s undef = ptr b → a.tmps.getD s undef = ptr b := fun s b e => by
    by_cases hd : d = some s
    · subst hd
      rcases (put_same : (a.put (some s) undef).tmps.getD s undef = undef ∨ _) with k | k <;> (rw [k] at e; cases e)
    · rwa [put_other hd] at e
  exact ⟨h.below, fun p hp b e => h.lies p hp b (key _ _ e), fun p hp q hq hpq b e k => h.apart p hp q hq hpq b (key _ _ e) (key _ _ k)⟩
theorem In.made {a : Act} {w : World} (h : In w0 A a w) (hA : ∀ p ∈ A, ∀ q ∈ A, p.1 = q.1 → p = q) {p : Spot} (hp : p ∈ A) : In w0 A (a.put (some p.1) (ptr w.heap.size)) (w.alloc (.cells p.2.2.toArray p.2.1)) := by
  have hw : (w.alloc (.cells p.2.2.toArray p.2.1)).heap[w.heap.size]? = some (.cells p.2.2.toArray p.2.1 (0, 0)) := by
    show (w.heap.push _)[w.heap.size]? = _
    simp
  have old : ∀ b o, w.heap[b]? = some o → (w.alloc (.cells p.2.2.toArray p.2.1)).heap[b]? = some o ∧ b ≠ w.heap.size := fun b o k => by
    have hlt := (Array.getElem?_eq_some_iff.1 k).1
    exact ⟨(Below.heap_alloc _ _ _ hlt).trans k, by omega⟩
  have self : ∀ b, (a.put (some p.1) (ptr w.heap.size)).tmps.getD p.1 undef = ptr b → b = w.heap.size := fun b e => by
    rcases (put_same : (a.put (some p.1) (ptr w.heap.size)).tmps.getD p.1 undef = ptr w.heap.size ∨ _) with k | k
    · rw [k] at e; unfold ptr at e; injection e with e; injection e with e; injection e with e; exact e.symm
    · rw [k] at e; cases e
  refine ⟨h.below.alloc h.below.size _, fun q hq b e => ?_, fun q hq r hr hqr b e k => ?_⟩
  · by_cases hqp : q.1 = p.1
    · have hqp2 := hA q hq p hp hqp
      subst hqp2
      obtain rfl := self b e
      exact ⟨h.below.size, hw⟩
    · rw [put_other (fun e => hqp (Option.some.inj e).symm)] at e
      obtain ⟨h1, h2⟩ := h.lies q hq b e
      exact ⟨h1, (old b _ h2).1⟩
  · by_cases hqp : q.1 = p.1
    · rw [hqp] at e
      obtain rfl := self b e
      rw [put_other (fun e => hqr (by rw [hqp]; exact Option.some.inj e))] at k
      exact (old _ _ (h.lies r hr _ k).2).2 rfl
    · rw [put_other (fun e => hqp (Option.some.inj e).symm)] at e
      by_cases hrp : r.1 = p.1
      · rw [hrp] at k
        obtain rfl := self b k
        exact (old _ _ (h.lies q hq _ e).2).2 rfl
      · rw [put_other (fun e => hrp (Option.some.inj e).symm)] at k
        exact h.apart q hq r hr hqr b e k

/-- One value in every world that is grown from the first one, and a world that is grown further. -/
def OpB (P : Program) (w0 : World) (o : Oper) (a : Act) (v : Value) : Prop := ∀ w, Below w0.heap.size w0 w → o.quietAt P a (fun w' => Below w.heap.size w w') w v
/-- It makes a block, in whatever frame and world. -/
def Makes (P : Program) (o : Oper) (p : Spot) : Prop := ∀ (a : Act) (w : World), (execOp a.eval o).run P w = .ok (.value (ptr w.heap.size)) (w.alloc (.cells p.2.2.toArray p.2.1))
def Offers (P : Program) (ops : Array Oper) (w0 : World) (A : List Spot) (o : Oper) (a : Act) (V : Value → Prop) : Prop :=
  (Region.wanted o (yielded ops a.tmps) = true ∧ ((∃ v, OpB P w0 o a v ∧ (∀ p ∈ A, o.dst ≠ some p.1) ∧ V v) ∨ (∃ p ∈ A, o.dst = some p.1 ∧ Makes P o p ∧ ∀ b, w0.heap.size ≤ b → V (ptr b)))) ∨
  (Region.wanted o (yielded ops a.tmps) = false ∧ V undef)
theorem Offers.mono {o : Oper} {a : Act} {V V' : Value → Prop} (h : ∀ v, V v → V' v) (k : Offers P ops w0 A o a V) : Offers P ops w0 A o a V' :=
  k.imp (fun ⟨h1, h2⟩ => ⟨h1, h2.imp (fun ⟨v, k1, k2, k3⟩ => ⟨v, k1, k2, h _ k3⟩) (fun ⟨p, k1, k2, k3, k4⟩ => ⟨p, k1, k2, k3, fun b hb => h _ (k4 b hb)⟩)⟩) (fun ⟨h1, h2⟩ => ⟨h1, h _ h2⟩)
/-- The whole prefix is listed behind LM; then R. -/
def anyL (P : Program) (md : Region.Mode) (ops : Array Oper) (w0 : World) (A : List Spot) (LM : Array Bool) (R : Act → Prop) : Nat → Array Bool → Act → Prop
  | 0, listed, a => listed = LM ∧ R a
  | f + 1, listed, a => Region.ready md ops listed ≠ [] ∧ ∀ i ∈ Region.ready md ops listed, ∃ o, ops[i]? = some o ∧ Offers P ops w0 A o a fun x => anyL P md ops w0 A LM R f (listed.setIfInBounds i true) (a.put o.dst x)
theorem any_of_anyL (hA : ∀ p ∈ A, ∀ q ∈ A, p.1 = q.1 → p = q) {LM : Array Bool} {R : Act → Prop} {r : Nat} (hR : ∀ a w, In w0 A a w → R a → wpAny P md ops Q r LM a w) :
    ∀ (f : Nat) (listed : Array Bool) (a : Act) (w : World), In w0 A a w → anyL P md ops w0 A LM R f listed a → wpAny P md ops Q (f + r) listed a w
  | 0, listed, a, w, hI, h => by
    obtain ⟨rfl, h⟩ := h
    rw [Nat.zero_add]
    exact hR a w hI h
  | f + 1, listed, a, w, hI, h => by
    rw [show f + 1 + r = (f + r) + 1 by omega]
    refine ⟨fun h0 => absurd h0 h.1, fun i hi => ?_⟩
    obtain ⟨o, ho, hoff⟩ := h.2 i hi
    unfold wpOp
    simp only [ho]
    rcases hoff with ⟨hw, hq | hm⟩ | ⟨hw, hv⟩
    · obtain ⟨v, h1, h2, h3⟩ := hq
      rw [if_pos hw]
      left
      have h4 := h1 w hI.below
      unfold Oper.quietAt at h4
      unfold Oper.wp
      generalize (execOp a.eval o).run P w = e at *
      cases e with
      | ok n w' =>
        cases n <;> simp only [Oper.quietUpon] at h4 <;> simp only [Oper.upon]
        case value u =>
          obtain ⟨e1, e2⟩ := h4
          rw [e1, e2]
          exact any_of_anyL hA hR f _ _ _ (hI.quiet (Below.refl _ _) h2 _) h3
        case skip =>
          obtain ⟨e1, e2⟩ := h4
          rw [e1, ← e2]
          exact any_of_anyL hA hR f _ _ _ (hI.quiet (Below.refl _ _) h2 _) h3
        case enter g args =>
          obtain ⟨e1, hc⟩ := h4
          rw [e1]
          exact hc.mono fun e w'' ⟨he, hw''⟩ => by subst he; exact any_of_anyL hA hR f _ _ _ (hI.quiet hw'' h2 _) h3
      | halt x w' => simp only [Oper.quietUpon] at h4
    · obtain ⟨p, hp, h1, h2, h3⟩ := hm
      rw [if_pos hw]
      left
      unfold Oper.wp
      rw [h2 a w]
      simp only [Oper.upon]
      have := h3 w.heap.size hI.below.size
      rw [h1] at this ⊢
      exact any_of_anyL hA hR f _ _ _ (hI.made hA hp) this
    · rw [if_neg (by rw [hw]; exact Bool.false_ne_true)]
      exact any_of_anyL hA hR f _ _ _ (hI.none _) hv

/-! ### What yields one value may be taken first -/
def QuietAt (P : Program) (ops : Array Oper) (w0 : World) (A : List Spot) (o : Oper) (v : Value) (a : Act) : Prop :=
  (Region.wanted o (yielded ops a.tmps) = true ∧ OpB P w0 o a v ∧ ∀ p ∈ A, o.dst ≠ some p.1) ∨ (Region.wanted o (yielded ops a.tmps) = false ∧ v = undef)
theorem QuietAt.offers {o : Oper} {v : Value} {a : Act} (h : QuietAt P ops w0 A o v a) {V : Value → Prop} (hV : V v) : Offers P ops w0 A o a V :=
  h.imp (fun ⟨h1, h2, h3⟩ => ⟨h1, Or.inl ⟨v, h2, h3, hV⟩⟩) (fun ⟨h1, h2⟩ => ⟨h1, h2 ▸ hV⟩)
theorem quiet_read {o : Oper} {v : Value} {a : Act} (hw : Region.wanted o (yielded ops a.tmps) = true) (hd : ∀ p ∈ A, o.dst ≠ some p.1) (h : ∀ w', Below w0.heap.size w0 w' → (execOp a.eval o).run P w' = .ok (.value v) w') : QuietAt P ops w0 A o v a :=
  Or.inl ⟨hw, fun w' hS => by unfold Oper.quietAt; rw [h w' hS]; exact ⟨rfl, rfl⟩, hd⟩
theorem quiet_call {o : Oper} {v : Value} {a : Act} (f : FuncId) (args : Array Value) (hw : Region.wanted o (yielded ops a.tmps) = true) (hd : ∀ p ∈ A, o.dst ≠ some p.1) (h : ∀ w', (execOp a.eval o).run P w' = .ok (.enter f args) w')
    (hc : ∀ w', Below w0.heap.size w0 w' → Calls P f args w' fun e w'' => e = .returned v ∧ Below w'.heap.size w' w'') : QuietAt P ops w0 A o v a :=
  Or.inl ⟨hw, fun w' hS => by unfold Oper.quietAt; rw [h w']; exact ⟨rfl, hc w' hS⟩, hd⟩
theorem opB_same {o : Oper} {v : Value} {a a' : Act} (h : OpB P w0 o a v) (he : execOp a'.eval o = execOp a.eval o) : OpB P w0 o a' v := fun w hw => by
  have := h w hw
  unfold Oper.quietAt at *
  rwa [he]
theorem offers_put {oi oj : Oper} {v : Value} (hap : oi.apart ops oj = true) (hsi : ∀ cs b, oi.op ≠ .select cs b) (hsj : ∀ cs b, oj.op ≠ .select cs b) {a : Act} {K : Act → Prop}
    (hy : QuietAt P ops w0 A oi v a) (h : Offers P ops w0 A oj (a.put oi.dst v) fun x => K ((a.put oi.dst v).put oj.dst x)) :
    Offers P ops w0 A oj a fun x => QuietAt P ops w0 A oi v (a.put oj.dst x) ∧ K ((a.put oj.dst x).put oi.dst v) := by
  obtain ⟨h1, h2, h3⟩ := Oper.apart_spec hap
  have keep : ∀ u, QuietAt P ops w0 A oi v (a.put oj.dst u) := fun u => by
    unfold QuietAt at *
    rw [wanted_put oi a oj.dst u h3]
    exact hy.imp (fun ⟨k1, k2, k3⟩ => ⟨k1, opB_same k2 (execOp_put oi hsi a oj.dst u h3), k3⟩) id
  have back : Offers P ops w0 A oj a fun x => K ((a.put oi.dst v).put oj.dst x) := by
    unfold Offers at *
    rw [wanted_put oj a oi.dst v h1] at h
    refine h.imp (fun ⟨k1, k2⟩ => ⟨k1, k2.imp (fun ⟨u, e1, e2, e3⟩ => ⟨u, opB_same e1 (execOp_put oj hsj a oi.dst v h1).symm, e2, e3⟩) id⟩) id
  exact back.mono fun x hx => ⟨keep x, by rw [← Act.put_comm a v x h2]; exact hx⟩
theorem anyL_first {LM : Array Bool} {R : Act → Prop} {i : Nat} {oi : Oper} {v : Value} {D : List Nat} (hi : ops[i]? = some oi) (hsel : Region.noSelect ops = true) (hD : Foyer.Round.waitB md ops i D = true) (hLM : ∀ j ∈ Region.ready md ops LM, j ∈ D) :
    ∀ (f : Nat) (listed : Array Bool) (a : Act),
      (∀ j oj, ops[j]? = some oj → j ≠ i → listed.getD j true = false → (∀ e ∈ oj.after, Region.binds md e = true → e.on ≠ i) → oi.apart ops oj = true) →
      i ∈ Region.ready md ops listed → listed.getD i false = false → (∀ j ∈ D, listed.getD j false = false) → QuietAt P ops w0 A oi v a →
      anyL P md ops w0 A LM R f (listed.setIfInBounds i true) (a.put oi.dst v) → anyL P md ops w0 A LM R (f + 1) listed a := by
  intro f
  induction f with
  | zero =>
    intro listed a _ hr hi0 hun hy H
    refine ⟨fun h => (by rw [h] at hr; cases hr), fun j hj => ?_⟩
    by_cases hji : j = i
    · subst hji; exact ⟨oi, hi, hy.offers H⟩
    · have := ready_mono hj hji
      rw [H.1] at this
      exact absurd hj (Foyer.Round.wait_at hD (hLM j this) hi0 hun)
  | succ f ih =>
    intro listed a hfree hr hi0 hun hy H
    refine ⟨fun h => (by rw [h] at hr; cases hr), fun j hj => ?_⟩
    by_cases hji : j = i
    · subst hji; exact ⟨oi, hi, hy.offers H⟩
    · have hjD : j ∉ D := fun hd => Foyer.Round.wait_at hD hd hi0 hun hj
      obtain ⟨o, ho, h1⟩ := H.2 j (ready_mono hj hji)
      obtain ⟨hjun, oj, hoj, hall⟩ := mem_ready.1 hj
      rw [hoj] at ho
      obtain rfl := Option.some.inj ho
      have hnot : ∀ e ∈ oj.after, Region.binds md e = true → e.on ≠ i := fun e he hb heq => by
        have h2 := hall e he hb
        rw [heq, hi0] at h2; cases h2
      refine ⟨oj, hoj, (offers_put (K := fun a' => anyL P md ops w0 A LM R f ((listed.setIfInBounds i true).setIfInBounds j true) a') (hfree j oj hoj hji hjun hnot) (fun cs b => Region.noSelect_spec hsel i oi cs b hi) (fun cs b => Region.noSelect_spec hsel j oj cs b hoj) hy h1).mono fun x ⟨k1, k2⟩ => ?_⟩
      refine ih (listed.setIfInBounds j true) (a.put oj.dst x) (fun k ok hk hki hku hno => ?_) (ready_mono hr (Ne.symm hji)) (by rw [getD_set_ne false hji]; exact hi0) (fun k hk => ?_) k1 ?_
      · refine hfree k ok hk hki ?_ hno
        by_cases hjk : j = k
        · subst hjk; exact hjun
        · rw [getD_set_ne true hjk] at hku; exact hku
      · rw [getD_set_ne false (fun e => hjD (by rw [e]; exact hk))]; exact hun k hk
      · rw [Array.setIfInBounds_comm _ _ hji]
        exact k2
/-- Those that wait for an operation, and those that wait for them. -/
def waiters (md : Region.Mode) (ops : Array Oper) (i : Nat) : List Nat :=
  (List.range ops.size).foldl (fun D j => match ops[j]? with | none => D | some o => if o.after.any fun e => Region.binds md e && (e.on == i || D.contains e.on) then D ++ [j] else D) []
/-- What the kernel checks where an operation is taken first. -/
def lexB (md : Region.Mode) (ops : Array Oper) (i : Nat) (LM listed : Array Bool) : Bool :=
  Region.noSelect ops && Foyer.Round.waitB md ops i (waiters md ops i) && (Region.ready md ops LM).all (fun j => (waiters md ops i).contains j) && Region.free md ops listed i && (Region.ready md ops listed).contains i && !listed.getD i false && (waiters md ops i).all fun j => !listed.getD j false
theorem anyL_take {LM : Array Bool} {R : Act → Prop} (i : Nat) (v : Value) {oi : Oper} {d : Option Tmp} {f : Nat} {listed : Array Bool} {a : Act} (hi : ops[i]? = some oi) (hd : oi.dst = d) (hB : lexB md ops i LM listed = true)
    (hy : QuietAt P ops w0 A oi v a) (h : anyL P md ops w0 A LM R f (listed.setIfInBounds i true) (a.put d v)) : anyL P md ops w0 A LM R (f + 1) listed a := by
  subst hd
  unfold lexB at hB
  simp only [Bool.and_eq_true, Bool.not_eq_true', List.all_eq_true] at hB
  obtain ⟨⟨⟨⟨⟨⟨h1, h2⟩, h3⟩, h4⟩, h5⟩, h6⟩, h7⟩ := hB
  exact anyL_first hi h1 h2 (fun j hj => by simpa using h3 j hj) f listed a (Region.free_spec hi h4) (by simpa using h5) h6 h7 hy h
/-- A block is made; nothing else may come up. -/
theorem anyL_make {LM : Array Bool} {R : Act → Prop} (i : Nat) (p : Spot) {oi : Oper} {f : Nat} {listed : Array Bool} {a : Act} (hi : ops[i]? = some oi) (hd : oi.dst = some p.1) (hr : Region.ready md ops listed = [i]) (hw : Region.wanted oi (yielded ops a.tmps) = true) (hp : p ∈ A) (hm : Makes P oi p)
    (h : ∀ b, w0.heap.size ≤ b → anyL P md ops w0 A LM R f (listed.setIfInBounds i true) (a.put (some p.1) (ptr b))) : anyL P md ops w0 A LM R (f + 1) listed a := by
  refine ⟨by rw [hr]; simp, fun j hj => ?_⟩
  rw [hr] at hj
  obtain rfl : j = i := by simpa using hj
  exact ⟨oi, hi, Or.inl ⟨hw, Or.inr ⟨p, hp, hd, hm, fun b hb => by rw [hd]; exact h b hb⟩⟩⟩
/-- Two blocks are made, in either order. -/
theorem anyL_make2 {LM : Array Bool} {R : Act → Prop} (i j : Nat) (p q : Spot) {oi oj : Oper} {f : Nat} {listed : Array Bool} {a : Act} (hi : ops[i]? = some oi) (hj : ops[j]? = some oj) (hd : oi.dst = some p.1) (hd' : oj.dst = some q.1) (hij : i ≠ j) (hpq : p.1 ≠ q.1)
    (hr : Region.ready md ops listed = [i, j]) (hri : Region.ready md ops (listed.setIfInBounds i true) = [j]) (hrj : Region.ready md ops (listed.setIfInBounds j true) = [i])
    (hw : ∀ a : Act, Region.wanted oi (yielded ops a.tmps) = true) (hw' : ∀ a : Act, Region.wanted oj (yielded ops a.tmps) = true) (hp : p ∈ A) (hq : q ∈ A) (hm : Makes P oi p) (hm' : Makes P oj q)
    (h : ∀ b c, w0.heap.size ≤ b → w0.heap.size ≤ c → anyL P md ops w0 A LM R f ((listed.setIfInBounds i true).setIfInBounds j true) ((a.put (some p.1) (ptr b)).put (some q.1) (ptr c))) : anyL P md ops w0 A LM R (f + 1 + 1) listed a := by
  refine ⟨by rw [hr]; simp, fun k hk => ?_⟩
  rw [hr] at hk
  simp only [List.mem_cons, List.not_mem_nil, or_false] at hk
  rcases hk with rfl | rfl
  · exact ⟨oi, hi, Or.inl ⟨hw _, Or.inr ⟨p, hp, hd, hm, fun b hb => by rw [hd]; exact anyL_make j q hj hd' hri (hw' _) hq hm' fun c hc => h b c hb hc⟩⟩⟩
  · refine ⟨oj, hj, Or.inl ⟨hw' _, Or.inr ⟨q, hq, hd', hm', fun c hc => ?_⟩⟩⟩
    rw [hd']
    refine anyL_make i p hi hd hrj (hw _) hp hm fun b hb => ?_
    rw [Array.setIfInBounds_comm _ _ (Ne.symm hij), Act.put_comm a (ptr c) (ptr b) (fun d e => by
      have := Option.some.inj e
      subst this
      exact fun e => hpq (Option.some.inj e))]
    exact h b c hb hc
theorem anyL_done {LM : Array Bool} {R : Act → Prop} {listed : Array Bool} {a : Act} (hl : listed = LM) (h : R a) : anyL P md ops w0 A LM R 0 listed a := ⟨hl, h⟩
/-- THE REGION. n: how many come in whatever order; is: the rest. -/
theorem region_loose {id : Nat} {a : Act} {w : World} (A : List Spot) (n : Nat) (is : List Nat) (hm : P.follows .mixedOrders = true) (hn : ops.size = n + is.length) (hA : ∀ p ∈ A, ∀ q ∈ A, p.1 = q.1 → p = q) (h0 : ∀ p ∈ A, a.tmps.getD p.1 undef = undef) (LM : Array Bool)
    (hs : (is.all fun i => decide (i < ops.size)) = true) (hB : Foyer.Tail.pathB .any ops is LM = true)
    (h : anyL P .any ops w A LM (fun a' => ∀ w', In w A a' w' → wpList P ops Q (is.filterMap (ops[·]?)) a' w') n (Array.replicate ops.size false) a) : (Code.region id ops true).wp P Q a w := by
  refine wp_region_any hm ?_
  rw [hn]
  have hI : In w A a { w with drawn := w.drawn + 1 } := ⟨⟨rfl, rfl, rfl, Nat.le_refl _, fun _ _ => rfl⟩, fun p hp b e => absurd ((h0 p hp).symm.trans e) (fun e => by cases e), fun p hp q _ _ b e => absurd ((h0 p hp).symm.trans e) (fun e => by cases e)⟩
  rw [hn] at h
  exact any_of_anyL hA (fun a' w' hI' hR => Foyer.Tail.any_of_path is LM a' w' hs hB (hR w' hI')) n _ a _ hI h
end
end Foyer.Loose
