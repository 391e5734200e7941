/-
  Lists of tokens that a call has made, and lists of tokens that are read.
-/
import Derived.Test.YtlfjdohjfmfcdaaGreatDoorBase
import Derived.Test.YtlfjdohjfmfcdaaGreatDoorMathAll
import Derived.OwnWalk
import Derived.OwnWalkIn
import Derived.Maps.OwnIn
import Derived.RangeFuncBox
namespace Go.Proofs.YtlfjdohjfmfcdaaGreatDoor
open Go.RowKit Go.Sort Foyer.Lexer

theorem tokInfo : (Tryz.prog.info? 67).map (fun i => (i.zero, i.size, i.bytes)) = some (some (.agg #[.int .i64 0, .string ⟨#[]⟩, .int .i64 0, .int .i64 0]), 4, 40) := by kernel_rfl
/-- A token's cells. -/
def tokC (t : Tok) : List Value := [.int .i64 (t.kind : Nat), .string ⟨t.text.toArray⟩, .int .i64 (t.val : Nat), .int .i64 (t.pos : Nat)]
def toksC (ts : List Tok) : List Value := ts.flatMap tokC
theorem toksC_length : ∀ ts : List Tok, (toksC ts).length = ts.length * 4
  | [] => rfl
  | t :: ts => by
    have := toksC_length ts
    unfold toksC at *
    rw [List.flatMap_cons, List.length_append, this, List.length_cons]
    show 4 + _ = _
    omega
theorem toksC_append (a b : List Tok) : toksC (a ++ b) = toksC a ++ toksC b := List.flatMap_append
theorem toksC_at : ∀ (ts : List Tok) (j : Nat) (t : Tok) (k : Nat), ts[j]? = some t → k < 4 → (toksC ts)[j * 4 + k]? = (tokC t)[k]?
  | [], j, t, k, h, _ => by simp at h
  | u :: ts, 0, t, k, h, hk => by
    simp only [List.getElem?_cons_zero, Option.some.injEq] at h
    subst h
    unfold toksC
    rw [List.flatMap_cons, Nat.zero_mul, Nat.zero_add]
    exact List.getElem?_append_left (by simpa [tokC] using hk)
  | u :: ts, j + 1, t, k, h, hk => by
    have := toksC_at ts j t k (by simpa using h) hk
    unfold toksC at *
    rw [List.flatMap_cons, show (j + 1) * 4 + k = (tokC u).length + (j * 4 + k) by simp [tokC]; omega, List.getElem?_append_right (by omega), Nat.add_sub_cancel_left]
    exact this
theorem toksC_one (ts : List Tok) : ∀ u ∈ toksC ts, u.oneCell' = true := by
  intro u hu
  obtain ⟨t, _, ht⟩ := List.mem_flatMap.1 hu
  simp only [tokC, List.mem_cons, List.not_mem_nil, or_false] at ht
  rcases ht with rfl | rfl | rfl | rfl <;> rfl

/-- A list of tokens of the call's own. -/
def OwnT (w : World) (B : Nat) (v : Value) (ts : List Tok) : Prop := w.ownsRow B 67 4 v ts.length (toksC ts)
theorem ownT_nil (w : World) (B : Nat) : OwnT w B (.slice none 0 0) [] := World.ownsRow_nil w B _ 4
theorem OwnT.kept {w w' : World} {B : Nat} {v : Value} {ts : List Tok} (h : OwnT w B v ts) (hb : Below w.heap.size w w') : OwnT w' B v ts := own_kept h hb
theorem OwnT.base {w : World} {B B' : Nat} {v : Value} {ts : List Tok} (h : OwnT w B v ts) (hb : B' ≤ B) : OwnT w B' v ts :=
  ⟨h.1, h.2.imp id fun ⟨g, cap, cur, h1, h2, h3⟩ => ⟨g, cap, cur, h1, Nat.le_trans hb h2, h3⟩⟩

/-- A list of tokens that is read. -/
structure TokAt (w : World) (b o : Nat) (t : Tok) : Prop where
  kind : w.cell? ⟨b, o, none⟩ = some (.int .i64 (t.kind : Nat))
  text : w.cell? ⟨b, o + 1, none⟩ = some (.string ⟨t.text.toArray⟩)
  val : w.cell? ⟨b, o + 2, none⟩ = some (.int .i64 (t.val : Nat))
  pos : w.cell? ⟨b, o + 3, none⟩ = some (.int .i64 (t.pos : Nat))
def RdT (w : World) (p : Option Addr) (ts : List Tok) : Prop :=
  ts = [] ∨ ∃ b off, p = some ⟨b, off, none⟩ ∧ b < w.heap.size ∧ ∀ j t, ts[j]? = some t → TokAt w b (off + j * 4) t
theorem RdT.below {w w' : World} {p : Option Addr} {ts : List Tok} (h : RdT w p ts) {B : Nat} (hB : w.heap.size ≤ B) (hb : Below B w w') : RdT w' p ts := by
  rcases h with h | ⟨b, off, rfl, hlt, hc⟩
  · exact Or.inl h
  · have hlB := Nat.lt_of_lt_of_le hlt hB
    exact Or.inr ⟨b, off, rfl, Nat.lt_of_lt_of_le hlt hb.size, fun j t hj => ⟨by rw [hb.cell hlB]; exact (hc j t hj).kind, by rw [hb.cell hlB]; exact (hc j t hj).text, by rw [hb.cell hlB]; exact (hc j t hj).val, by rw [hb.cell hlB]; exact (hc j t hj).pos⟩⟩
theorem RdT.since {w w' : World} {p : Option Addr} {ts : List Tok} (h : RdT w p ts) (hb : Below w.heap.size w w') : RdT w' p ts := h.below (Nat.le_refl _) hb
theorem RdT.drewN {w : World} {p : Option Addr} {ts : List Tok} (h : RdT w p ts) (n : Nat) : RdT (w.drewN n) p ts := h.since (below_drewN (Below.refl _ _) n)
theorem OwnT.slice {w : World} {B : Nat} {v : Value} {ts : List Tok} (h : OwnT w B v ts) : ∃ p cap, v = .slice p ts.length cap ∧ RdT w p ts ∧ ts.length ≤ cap ∧ cap ≤ maxLen ∧ (p = none → cap = 0) := by
  have h0 := h
  rcases h.2 with ⟨rfl, hn⟩ | ⟨g, cap, cur, rfl, hB, hg, hc, hm, hs, ht⟩
  · exact ⟨none, 0, by rw [hn], Or.inl (List.length_eq_zero_iff.1 hn), by omega, Nat.zero_le _, fun _ => rfl⟩
  · refine ⟨some ⟨g, 0, none⟩, cap, rfl, Or.inr ⟨g, 0, rfl, (h0.lt _ rfl).2, fun j t hj => ?_⟩, hc, hm, fun h => by cases h⟩
    have hjl : j < ts.length := (List.getElem?_eq_some_iff.1 hj).1
    have hat : ∀ k, k < 4 → w.cell? ⟨g, 0 + j * 4 + k, none⟩ = (tokC t)[k]? := fun k hk => by
      rw [Nat.zero_add, World.ownsRow.cellAt h0 (j * 4 + k) (by omega), toksC_at ts j t k hj hk]
    exact ⟨hat 0 (by omega), hat 1 (by omega), hat 2 (by omega), hat 3 (by omega)⟩
/-- What a Lex returns. -/
def LexPost (l : List UInt8) (w : World) (e : Ending) (w' : World) : Prop :=
  ∃ p cap, e = .returned (.tuple #[.slice p (lexAll l).1.length cap, .int .i64 ((lexAll l).2.1 : Nat), .int .i64 (lexAll l).2.2]) ∧ RdT w' p (lexAll l).1 ∧ (lexAll l).1.length ≤ cap ∧ (cap ≤ maxLen ∧ (p = none → cap = 0)) ∧ Below w.heap.size w w'
theorem lexPost_of {l : List UInt8} {w w' : World} {v : Value} {ts : List Tok} {E : Nat} {O : Int} (hl : lexAll l = (ts, E, O)) {B : Nat} (h : OwnT w' B v ts) (hb : Below w.heap.size w w') :
    LexPost l w (.returned (.tuple #[v, .int .i64 (E : Nat), .int .i64 O])) w' := by
  obtain ⟨p, cap, rfl, hr, hc, hm⟩ := h.slice
  unfold LexPost
  rw [hl]
  exact ⟨p, cap, rfl, hr, hc, hm, hb⟩

/-- What is appended: one token, outside of a round and within it. -/
theorem tok_news (t : Tok) {w : World} {b : Nat} (h : w.heap[b]? = some (.cells (tokC t).toArray 67 (0, 0))) : ∀ j u, (toksC [t])[j]? = some u → w.cell? ((⟨b, 0, none⟩ : Addr).add j) = some u := fun j u hu => by
  rw [add_plain, Nat.zero_add]
  unfold World.cell?
  simp only [h]
  have e : toksC [t] = tokC t := by simp [toksC]
  rw [e] at hu
  simpa using hu
theorem wpList_append_t {ops : Array Oper} {rest : List Oper} {o : Oper} {a : Act} {Q : Exit → Act → World → Prop} (w : World) (hgd : o.guard = none) (s x : Operand)
    (hop : o.op = Op.call { callee := Callee.builtin Builtin.append, args := #[s, x], argTypes := #[51, 51] })
    (B : Nat) (v : Value) (ts : List Tok) (k : Nat) (hk : ts.length = k) (hs : a.eval s = v) (hown : w.ownsRow B 67 4 v k (toksC ts)) (b : Nat) (t : Tok) (hx : a.eval x = .slice (some ⟨b, 0, none⟩) 1 1)
    (hc : w.heap[b]? = some (.cells (tokC t).toArray 67 (0, 0))) (hlen : ts.length + 1 ≤ 1000000) (hB : B ≤ w.heap.size)
    (hK : ∀ g cap w', w'.ownsRow B 67 4 (.slice (some ⟨g, 0, none⟩) (k + 1) cap) (k + 1) (toksC (ts ++ [t])) → w.grownBy w' v.ownBlock → (∀ C wb, C ≤ B → Below C wb w → Below C wb w') → wpList Tryz.prog ops Q rest (a.put o.dst (.slice (some ⟨g, 0, none⟩) (k + 1) cap)) w') :
    wpList Tryz.prog ops Q (o :: rest) a w := by
  subst hk
  obtain ⟨i0, hi, hz0, hz1, hz2⟩ := info_parts tokInfo
  refine wpList_append_own _ hgd _ _ 51 hop B 67 i0 _ 4 40 Tryz.underlying51 hi hz0 hz1 hz2 rfl (by decide) v ts.length _ hs hown ⟨b, 0, none⟩ 1 1 (toksC [t]) hx (toksC_length [t]) (tok_news t hc) (toksC_one [t]) (by unfold maxLen; omega) (by omega) hB ?_
  intro v' w' hown' hg _
  rw [← toksC_append] at hown'
  obtain ⟨g, cap, rfl⟩ := ownsRow_succ hown'
  exact hK g cap w' hown' hg fun C wb hC hb => hb.grown hg (Nat.le_trans hC hB) (fun q hq => Nat.le_trans hC (hown.lt q hq).1)
theorem wpListIn_append_t {F : Fence} {n : Nat} {ops : Array Oper} {rest : List Oper} {o : Oper} {a : Act} {Q : Exit → Act → World → Prop} (w : World) (hgd : o.guard = none) (s x : Operand)
    (hop : o.op = Op.call { callee := Callee.builtin Builtin.append, args := #[s, x], argTypes := #[51, 51] })
    (B : Nat) (v : Value) (ts : List Tok) (k : Nat) (hk : ts.length = k) (hs : a.eval s = v) (hown : w.ownsRow B 67 4 v k (toksC ts)) (b : Nat) (t : Tok) (hx : a.eval x = .slice (some ⟨b, 0, none⟩) 1 1)
    (hc : w.heap[b]? = some (.cells (tokC t).toArray 67 (0, 0))) (hlen : ts.length + 1 ≤ 1000000) (hB : B ≤ w.heap.size)
    (hK : ∀ g cap w', w'.ownsRow B 67 4 (.slice (some ⟨g, 0, none⟩) (k + 1) cap) (k + 1) (toksC (ts ++ [t])) → w.grownBy w' v.ownBlock → (v.ownBlock = some g ∨ g = w.heap.size) → wpListIn F n Tryz.prog ops Q rest (a.put o.dst (.slice (some ⟨g, 0, none⟩) (k + 1) cap)) w') :
    wpListIn F n Tryz.prog ops Q (o :: rest) a w := by
  subst hk
  obtain ⟨i0, hi, hz0, hz1, hz2⟩ := info_parts tokInfo
  refine wpListIn_append_own_at _ hgd _ _ 51 hop B 67 i0 _ 4 40 Tryz.underlying51 hi hz0 hz1 hz2 rfl (by decide) v ts.length _ hs hown ⟨b, 0, none⟩ 1 1 (toksC [t]) hx (toksC_length [t]) (tok_news t hc) (toksC_one [t]) (by unfold maxLen; omega) (by omega) hB ?_
  intro v' w' hown' hg _ hat
  rw [← toksC_append] at hown'
  obtain ⟨g, cap, rfl⟩ := ownsRow_succ hown'
  refine hK g cap w' hown' hg ?_
  rcases hat with h | h
  · exact Or.inl (by rw [← h]; rfl)
  · exact Or.inr (by simpa [Value.ownBlock] using h)
end Go.Proofs.YtlfjdohjfmfcdaaGreatDoor
