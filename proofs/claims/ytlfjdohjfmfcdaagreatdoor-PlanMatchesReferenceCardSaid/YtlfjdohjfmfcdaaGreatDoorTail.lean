/-
  A region that draws its order, whose first operation may be carried out at any time (the slice to which is appended), whose next ones only read, and whose last ones come in the order of the text: walked once. No program is spoken of.
-/
import Derived.StillTailTactics
import Derived.OrdersHeld
import Derived.RegionTactic
namespace Foyer.Tail
open Go

/-- An operation that waits for the first one, too. -/
def behind (o : Oper) : Oper := { o with after := o.after.push ⟨0, .data⟩ }
def edged (ops : Array Oper) (n : Nat) : Array Oper := ops.mapIdx fun k o => if k = n then behind o else o
theorem edged_at (ops : Array Oper) (n k : Nat) : (edged ops n)[k]? = (ops[k]?).map fun o => if k = n then behind o else o := by
  unfold edged; rw [Array.getElem?_mapIdx]
theorem edged_size (ops : Array Oper) (n : Nat) : (edged ops n).size = ops.size := by unfold edged; simp

section
variable {P : Program} {ops : Array Oper} {n : Nat} {md : Region.Mode} {Q : Exit → Act → World → Prop}

theorem edged_yielded : yielded (edged ops n) = yielded ops := by
  funext t j
  unfold yielded
  rw [edged_at]
  cases ops[j]? with
  | none => rfl
  | some o =>
    have e : (if j = n then behind o else o).dst = o.dst := by split <;> rfl
    simp only [Option.map_some, Option.bind_some, e]
theorem edged_wpOp (i : Nat) (K : Act → World → Prop) (a : Act) (w : World) : wpOp P (edged ops n) Q i K a w = wpOp P ops Q i K a w := by
  unfold wpOp
  rw [edged_at, edged_yielded]
  cases ops[i]? with
  | none => rfl
  | some o => simp only [Option.map_some]; split <;> rfl
theorem edged_ready {listed : Array Bool} (h0 : listed.getD 0 false = true) (j : Nat) : j ∈ Region.ready md (edged ops n) listed ↔ j ∈ Region.ready md ops listed := by
  rw [mem_ready, mem_ready, edged_at]
  refine and_congr Iff.rfl ⟨?_, ?_⟩
  · rintro ⟨o', ho, h⟩
    cases ho2 : ops[j]? with
    | none => rw [ho2] at ho; cases ho
    | some o =>
      rw [ho2] at ho
      simp only [Option.map_some, Option.some.injEq] at ho
      refine ⟨o, rfl, fun e he hb => h e ?_ hb⟩
      rw [← ho]; split
      · exact Array.mem_push_of_mem _ he
      · exact he
  · rintro ⟨o, ho, h⟩
    rw [ho]
    refine ⟨_, rfl, fun e he hb => ?_⟩
    by_cases hj : j = n
    · simp only [hj, if_true] at he
      rcases Array.mem_push.1 he with h1 | h1
      · exact h e h1 hb
      · rw [h1]; exact h0
    · simp only [hj, if_false] at he; exact h e he hb
theorem edged_any : ∀ (f : Nat) (listed : Array Bool) (a : Act) (w : World), listed.getD 0 false = true → wpAny P md (edged ops n) Q f listed a w → wpAny P md ops Q f listed a w
  | 0, listed, a, w, h0, h => by
    refine ⟨List.eq_nil_iff_forall_not_mem.2 fun j hj => ?_, h.2⟩
    have := (edged_ready (n := n) h0 j).2 hj
    rw [h.1] at this; cases this
  | f + 1, listed, a, w, h0, h => by
    refine ⟨fun he => h.1 (List.eq_nil_iff_forall_not_mem.2 fun j hj => ?_), fun i hi => ?_⟩
    · have := (edged_ready (n := n) h0 j).1 hj
      rw [he] at this; cases this
    · have h1 := h.2 i ((edged_ready h0 i).2 hi)
      rw [edged_wpOp] at h1
      exact wpOp_mono (fun a' w' h' => edged_any f _ a' w' (getD_set_true h0) h') h1
theorem edged_still {w : World} {L : Act → Prop} : ∀ (l : List Oper) (a : Act), wpStill P (edged ops n) w L l a = wpStill P ops w L l a
  | [], _ => rfl
  | o :: l, a => by
    unfold wpStill
    rw [edged_yielded]
    have : wpStill P (edged ops n) w L l = wpStill P ops w L l := funext fun a => edged_still l a
    rw [this]
theorem edged_list : ∀ (l : List Oper) (a : Act) (w : World), wpList P (edged ops n) Q l a w = wpList P ops Q l a w
  | [], _, _ => rfl
  | o :: l, a, w => by
    unfold wpList
    rw [edged_yielded]
    have : wpList P (edged ops n) Q l = wpList P ops Q l := funext fun a => funext fun w => edged_list l a w
    rw [this]
theorem list_behind (o : Oper) (l : List Oper) (a : Act) (w : World) : wpList P ops Q (behind o :: l) a w = wpList P ops Q (o :: l) a w := rfl
end

/-- What the kernel checks of such a region: the first operation may be taken first; the n operations from there on only read, in whatever order; the others come one after another. -/
def leadB (md : Region.Mode) (ops : Array Oper) (n : Nat) : Bool :=
  Region.noSelect ops && decide (0 < n) && decide (n < ops.size) && Region.free md ops (Array.replicate ops.size false) 0 && (Region.ready md ops (Array.replicate ops.size false)).contains 0
    && Region.sinkB md (edged ops n) n && Region.chainB md (edged ops n) n && Region.lexHead md (edged ops n) (ops.size - n) (n - 1) 1 ((Array.replicate ops.size false).setIfInBounds 0 true)

theorem wp_region_lead_tail {P : Program} {id : Nat} {Q : Exit → Act → World → Prop} {a : Act} {w : World} {o : Oper} {l : List Oper} (n : Nat) (hm : P.follows .mixedOrders = true) (hB : leadB .any (o :: l).toArray (n + 1) = true)
    (v : Value) (hQ : ∀ c a w, Q (.panic c) (a.put o.dst v) w → Q (.panic c) a w) (hy : Yields P (o :: l).toArray o v a)
    (h : wpStill P (o :: l).toArray w.drew (fun a' => wpList P (o :: l).toArray Q (l.drop n) a' w.drew) (l.take n) (a.put o.dst v)) : (Code.region id (o :: l).toArray true).wp P Q a w := by
  generalize hops : (o :: l).toArray = ops at *
  have h0 : ops[0]? = some o := by rw [← hops]; rfl
  have hat : ∀ j, l[j]? = ops[j + 1]? := fun j => by rw [← hops]; simp
  have hsz : ops.size = l.length + 1 := by rw [← hops]; simp
  unfold leadB at hB
  simp only [Bool.and_eq_true, decide_eq_true_eq] at hB
  obtain ⟨⟨⟨⟨⟨⟨⟨hsel, _⟩, hn⟩, hfree⟩, hready⟩, hsink⟩, hchain⟩, hlex⟩ := hB
  have hn' : n < l.length := by omega
  have hesel : Region.noSelect (edged ops (n + 1)) = true := by
    unfold Region.noSelect
    rw [Array.all_eq_true_iff_forall_mem]
    intro x hx
    obtain ⟨j, hj, rfl⟩ := Array.getElem_of_mem hx
    have e := edged_at ops (n + 1) j
    rw [Array.getElem?_eq_getElem hj] at e
    have hj2 : j < ops.size := by rw [edged_size] at hj; exact hj
    rw [Array.getElem?_eq_getElem hj2] at e
    simp only [Option.map_some, Option.some.injEq] at e
    have hs := Array.all_eq_true_iff_forall_mem.1 hsel ops[j] (Array.getElem_mem hj2)
    have e3 : (if j = n + 1 then behind ops[j] else ops[j]).op = ops[j].op := by split <;> rfl
    rw [e, e3]
    exact hs
  refine wp_region_any hm ?_
  show wpAny P .any ops Q ops.size (Array.replicate ops.size false) a w.drew
  rw [show ops.size = (n + (ops.size - (n + 1))) + 1 by omega]
  refine wpAny_take (i := 0) (v := v) h0 hsel (by rw [show n + (ops.size - (n + 1)) + 1 = ops.size by omega]; exact hfree) (by rw [show n + (ops.size - (n + 1)) + 1 = ops.size by omega]; exact hready) hQ hy ?_
  rw [show n + (ops.size - (n + 1)) + 1 = ops.size by omega]
  have hl0 : ((Array.replicate ops.size false).setIfInBounds 0 true).getD 0 false = true := by
    simp [Array.getD_eq_getD_getElem?, show 0 < ops.size by omega]
  refine edged_any (n := n + 1) _ _ _ _ hl0 ?_
  have htl : (l.take n).length = n := by simp; omega
  have inv0 : HeadInv .any (edged ops (n + 1)) (n + 1) ((Array.replicate ops.size false).setIfInBounds 0 true) := by
    refine ⟨by simp [edged_size], fun j oj hoj hl e he hb => ?_, fun t ht htl => ?_⟩
    · by_cases hj : j = 0
      · subst hj
        have hr : 0 ∈ Region.ready .any ops (Array.replicate ops.size false) := by simpa using hready
        obtain ⟨_, o', ho', hall⟩ := mem_ready.1 hr
        have : o' = o := Option.some.inj (ho'.symm.trans h0)
        subst this
        rw [edged_at, h0] at hoj
        simp only [Option.map_some, Option.some.injEq, show (0 : Nat) ≠ n + 1 by omega, if_false] at hoj
        subst hoj
        have := hall e he hb
        rw [getD_replicate_false] at this; cases this
      · rw [getD_set_ne false (Ne.symm hj), getD_replicate_false] at hl; cases hl
    · rw [getD_set_ne true (by omega)]
      rw [edged_size] at htl
      exact getD_in (by simpa using htl) (getD_replicate_false _ _)
  have hst : wpStill P (edged ops (n + 1)) w.drew (fun a' => wpList P (edged ops (n + 1)) Q ((edged ops (n + 1)).toList.drop (n + 1)) a' w.drew) (l.take n) (a.put o.dst v) := by
    rw [edged_still]
    have e1 : (fun a' => wpList P (edged ops (n + 1)) Q ((edged ops (n + 1)).toList.drop (n + 1)) a' w.drew) = fun a' => wpList P ops Q (l.drop n) a' w.drew := by
      funext a'
      rw [edged_list]
      have e2 : (edged ops (n + 1)).toList.drop (n + 1) = behind l[n] :: l.drop (n + 1) := by
        apply List.ext_getElem?
        intro j
        rw [List.getElem?_drop, Array.getElem?_toList, edged_at]
        have hh := hat (n + j)
        rw [show n + 1 + j = n + j + 1 by omega, ← hh]
        cases j with
        | zero => simp [hn']
        | succ j =>
          rw [List.getElem?_cons_succ, List.getElem?_drop, show n + (j + 1) = n + 1 + j by omega]
          cases l[n + 1 + j]? with
          | none => rfl
          | some x => simp; omega
      rw [e2, list_behind, ← List.drop_eq_getElem_cons hn']
    rw [e1]; exact h
  have H := wpAnyL_lex (md := .any) (g := ops.size - (n + 1)) hesel hsink hchain (by rw [edged_size]; exact hn) (l.take n) 1 _ (a.put o.dst v) (fun j hj => by
    have hj' : j < n := by rw [htl] at hj; exact hj
    rw [edged_at, List.getElem?_take, if_pos hj', hat j, show 1 + j = j + 1 by omega]
    cases ops[j + 1]? with
    | none => rfl
    | some x => simp; omega) (by rw [htl]; omega) inv0 (by rw [htl]; exact hlex) hst
  rw [htl] at H
  refine wpAny_of_head (fun listed a' hL => ?_) n _ _ H
  have hlen : ((edged ops (n + 1)).toList.drop (n + 1)).length = ops.size - (n + 1) := by simp [edged_size]
  have := wpAny_of_seq (P := P) (Q' := Q) (ops := edged ops (n + 1)) (md := .any) ((edged ops (n + 1)).toList.drop (n + 1)) (n + 1) listed a' w.drew (fun j => by rw [List.getElem?_drop, Array.getElem?_toList]) (by rw [hlen]; exact hL.1) hL.2
  rw [hlen] at this
  exact this

/-! ### Operations that come up one after another, whatever their numbers -/
def pathB (md : Region.Mode) (ops : Array Oper) : List Nat → Array Bool → Bool
  | [], listed => (Region.ready md ops listed).isEmpty
  | i :: is, listed => decide (Region.ready md ops listed = [i]) && pathB md ops is (listed.setIfInBounds i true)
theorem any_of_path {P : Program} {md : Region.Mode} {ops : Array Oper} {Q : Exit → Act → World → Prop} : ∀ (is : List Nat) (listed : Array Bool) (a : Act) (w : World), (is.all fun i => decide (i < ops.size)) = true → pathB md ops is listed = true →
    wpList P ops Q (is.filterMap (ops[·]?)) a w → wpAny P md ops Q is.length listed a w
  | [], listed, a, w, _, hB, h => ⟨by simpa [pathB] using hB, h⟩
  | i :: is, listed, a, w, hs, hB, h => by
    simp only [List.all_cons, Bool.and_eq_true, decide_eq_true_eq] at hs
    simp only [pathB, Bool.and_eq_true, decide_eq_true_eq] at hB
    have h0 : ops[i]? = some ops[i] := Array.getElem?_eq_getElem hs.1
    rw [List.filterMap_cons, h0] at h
    refine wpAny_all hB.1 (by simp) fun j hj => ?_
    obtain rfl : j = i := by simpa using hj
    have hw : wpOp P ops Q j (wpList P ops Q (is.filterMap (ops[·]?))) a w := by unfold wpOp; simp only [h0]; exact h
    exact wpOp_mono (fun a' w' h' => any_of_path is _ a' w' hs.2 hB.2 h') hw
/-- Two operations may come up, one of which only reads: it may be taken first, if what it reads is left as it is by the other one. -/
theorem two_orders {P : Program} {md : Region.Mode} {ops : Array Oper} {Q : Exit → Act → World → Prop} (S : World → Prop) {i j : Nat} {oi oj : Oper} {v : Value} {f : Nat} {listed : Array Bool} {a : Act} {w : World} (hi : ops[i]? = some oi) (hj : ops[j]? = some oj) (hsel : Region.noSelect ops = true)
    (hr : Region.ready md ops listed = [i, j]) (hij : i ≠ j) (hri : Region.ready md ops (listed.setIfInBounds i true) = [j]) (hrj : Region.ready md ops (listed.setIfInBounds j true) = [i]) (hf : Region.free md ops listed j = true)
    (hQ : ∀ c a w, Q (.panic c) (a.put oj.dst v) w → Q (.panic c) a w) (hy : YieldsIf P ops S oj v a) (hS : S w)
    (h' : ∀ K' : Act → World → Prop, (∀ a' w', S w' → wpAny P md ops Q f ((listed.setIfInBounds j true).setIfInBounds i true) a' w' → K' a' w') → if Region.wanted oi (yielded ops (a.put oj.dst v).tmps) = true then Oper.wp P oi (a.put oj.dst v) w K' Q else K' ((a.put oj.dst v).put oi.dst undef) w) :
    wpAny P md ops Q (f + 1 + 1) listed a w := by
  have h : wpOp P ops Q i (fun a' w' => S w' ∧ wpAny P md ops Q f ((listed.setIfInBounds j true).setIfInBounds i true) a' w') (a.put oj.dst v) w := wpOp_step hi fun K' hK => h' K' fun a' w' hS' hA => hK a' w' ⟨hS', hA⟩
  have hir : i ∈ Region.ready md ops listed := by rw [hr]; simp
  have hjr : j ∈ Region.ready md ops listed := by rw [hr]; simp
  refine wpAny_all hr (by simp) fun k hk => ?_
  simp only [List.mem_cons, List.not_mem_nil, or_false] at hk
  rcases hk with rfl | rfl
  · obtain ⟨hun, oi, hoi, hall⟩ := mem_ready.1 hir
    clear h'
    have hjun := (mem_ready.1 hjr).1
    have hap : oj.apart ops oi = true := Region.free_spec hj hf k oi hoi hij hun fun e he hb heq => by
      have h1 := hall e he hb
      rw [heq, getD_both hjun] at h1; cases h1
    have h2 := wpOp_putIf hoi hap (fun cs b => Region.noSelect_spec hsel j oj cs b hj) (fun cs b => Region.noSelect_spec hsel k oi cs b hoi) hQ hy h
    refine wpOp_mono (fun a' w' h3 => ?_) h2
    refine wpAny_all hri (by simp) fun l hl => ?_
    obtain rfl : l = j := by simpa using hl
    refine h3.1.wpOp hj h3.2.1 ?_
    rw [Array.setIfInBounds_comm _ _ hij]
    exact h3.2.2
  · refine hy.wpOp hj hS ?_
    refine wpAny_all hrj (by simp) fun l hl => ?_
    obtain rfl : l = i := by simpa using hl
    exact wpOp_mono (fun a' w' h3 => h3.2) h
end Foyer.Tail
