/-
  The plain mathematics of rules' offsets: each rule and each test stands at a token of its own, one behind the other.
-/
import Derived.Test.YtllhonjhjhajjaaDoorMathTexts
namespace Foyer.Rule
open Foyer.Lexer

/-! ### Offsets -/
section
variable {S : Tok → Prop} {α β : Type}
/-- Tokens that stand one behind the other, from a place on. -/
def Inc (S : Tok → Prop) : Nat → List Tok → Prop
  | _, [] => True
  | lo, t :: r => lo ≤ t.pos ∧ S t ∧ Inc S (t.pos + 1) r
theorem Inc.mono {lo lo' : Nat} (h : lo' ≤ lo) : ∀ {ts : List Tok}, Inc S lo ts → Inc S lo' ts
  | [], _ => trivial
  | _ :: _, k => ⟨Nat.le_trans h k.1, k.2⟩
def Off (S : Tok → Prop) (p : Par α) (Q : Nat → α → Nat → Prop) : Prop := ∀ lo ts a r, Inc S lo ts → p ts = .ok a r → ∃ hi, lo ≤ hi ∧ Inc S hi r ∧ Q lo a hi
def Any (lo : Nat) (_ : α) (hi : Nat) : Prop := lo ≤ hi
theorem off_give (a : α) : Off S (give a) (fun lo b hi => hi = lo ∧ b = a) := fun lo ts b r h e => by
  cases e; exact ⟨lo, Nat.le_refl _, h, rfl, rfl⟩
theorem off_take (q : Tok → Bool) : Off S (takeP q) (fun lo t hi => lo ≤ t.pos ∧ hi = t.pos + 1 ∧ S t ∧ q t = true) := fun lo ts t r h e => by
  obtain ⟨rfl, hq⟩ := takeP_ok e
  exact ⟨t.pos + 1, by have := h.1; omega, h.2.2, h.1, rfl, h.2.1, hq⟩
theorem off_then {p : Par α} {f : α → Par β} {Q : Nat → α → Nat → Prop} {R : α → Nat → β → Nat → Prop} (hp : Off S p Q) (hf : ∀ a, Off S (f a) (R a)) : Off S (andThen p f) (fun lo b hi => ∃ a m, lo ≤ m ∧ m ≤ hi ∧ Q lo a m ∧ R a m b hi) := fun lo ts b r h e => by
  obtain ⟨a, s, h1, h2⟩ := then_ok e
  obtain ⟨m, k1, k2, k3⟩ := hp _ _ _ _ h h1
  obtain ⟨hi, j1, j2, j3⟩ := hf a _ _ _ _ k2 h2
  exact ⟨hi, by omega, j2, a, m, k1, j1, k3, j3⟩
theorem Off.weak {p : Par α} {Q Q' : Nat → α → Nat → Prop} (h : Off S p Q) (hq : ∀ lo a hi, lo ≤ hi → Q lo a hi → Q' lo a hi) : Off S p Q' := fun lo ts a r hi e =>
  let ⟨hi, h1, h2, h3⟩ := h lo ts a r hi e; ⟨hi, h1, h2, hq _ _ _ h1 h3⟩
/-- What is told of a piece holds from an earlier place on, too. -/
def Early (Q : Nat → α → Nat → Prop) : Prop := ∀ lo lo' a hi, lo' ≤ lo → Q lo a hi → Q lo' a hi
theorem off_ifS {sep : Sep} {p q : Par α} {Q : Nat → α → Nat → Prop} (hs : ∀ lo ts r, Inc S lo ts → sep ts = some r → ∃ lo', lo ≤ lo' ∧ Inc S lo' r) (hp : Off S p Q) (hq : Off S q Q) (hQ : Early Q) : Off S (ifSep sep p q) Q := fun lo ts a r h e => by
  cases h0 : sep ts with
  | none => rw [ifSep_none h0] at e; exact hq _ _ _ _ h e
  | some r0 =>
    rw [ifSep_some h0] at e
    obtain ⟨lo', h1, h2⟩ := hs _ _ _ h h0
    obtain ⟨hi, k1, k2, k3⟩ := hp _ _ _ _ h2 e
    exact ⟨hi, by omega, k2, hQ _ _ _ _ h1 k3⟩
theorem sepW_off (s : List UInt8) (lo : Nat) (ts r : List Tok) (h : Inc S lo ts) (e : sepW s ts = some r) : ∃ lo', lo ≤ lo' ∧ Inc S lo' r := by
  cases ts with
  | nil => cases e
  | cons t ts =>
    by_cases ht : t.text = s
    · rw [sepW_pos ht] at e; cases e; exact ⟨t.pos + 1, by have := h.1; omega, h.2.2⟩
    · rw [sepW_neg ht] at e; cases e
theorem sepL_off (lo : Nat) (ts r : List Tok) (h : Inc S lo ts) (e : sepL ts = some r) : ∃ lo', lo ≤ lo' ∧ Inc S lo' r := by
  cases ts with
  | nil => cases e
  | cons t ts => cases e; exact ⟨lo, Nat.le_refl _, h⟩
def Chain (Q : Nat → α → Nat → Prop) : Nat → List α → Nat → Prop
  | lo, [], hi => lo ≤ hi
  | lo, a :: as, hi => ∃ m, lo ≤ m ∧ Q lo a m ∧ Chain Q m as hi
theorem chain_early {Q : Nat → α → Nat → Prop} (hQ : Early Q) : Early (Chain Q) := by
  intro lo lo' as hi h k
  cases as with
  | nil => exact Nat.le_trans h k
  | cons a as =>
    obtain ⟨m, h1, h2, h3⟩ := k
    exact ⟨m, Nat.le_trans h h1, hQ _ _ _ _ h h2, h3⟩
theorem off_rest {sep : Sep} {p : Par α} {Q : Nat → α → Nat → Prop} (hs : ∀ lo ts r, Inc S lo ts → sep ts = some r → ∃ lo', lo ≤ lo' ∧ Inc S lo' r) (hp : Off S p Q) (hQ : Early Q) : ∀ n, Off S (rest sep p n) (Chain Q)
  | 0 => off_ifS hs (fun _ _ _ _ _ e => by cases e) ((off_give _).weak fun lo a hi h k => by obtain ⟨rfl, rfl⟩ := k; exact Nat.le_refl _) (chain_early hQ)
  | n + 1 => by
    refine off_ifS hs ((off_then hp fun a => (off_then (off_rest hs hp hQ n) fun as => off_give (a :: as))).weak fun lo l hi h k => ?_) ((off_give _).weak fun lo a hi h k => by obtain ⟨rfl, rfl⟩ := k; exact Nat.le_refl _) (chain_early hQ)
    obtain ⟨a, m, h1, h2, h3, as, m2, h4, h5, h6, rfl, rfl⟩ := k
    exact ⟨m, h1, h3, h6⟩
theorem off_list {sep : Sep} {p : Par α} {Q : Nat → α → Nat → Prop} (hs : ∀ lo ts r, Inc S lo ts → sep ts = some r → ∃ lo', lo ≤ lo' ∧ Inc S lo' r) (hp : Off S p Q) (hQ : Early Q) (n : Nat) : Off S (listP sep n p) (fun lo l hi => l ≠ [] ∧ Chain Q lo l hi) := by
  refine (off_then hp fun a => (off_then (off_rest hs hp hQ n) fun as => off_give (a :: as))).weak fun lo l hi h k => ?_
  obtain ⟨a, m, h1, h2, h3, as, m2, h4, h5, h6, rfl, rfl⟩ := k
  exact ⟨List.cons_ne_nil _ _, m, h1, h3, h6⟩
theorem off_any {p : Par α} {Q : Nat → α → Nat → Prop} (h : Off S p Q) : Off S p Any := h.weak fun _ _ _ h _ => h
theorem any_then {p : Par α} {f : α → Par β} (hp : Off S p Any) (hf : ∀ a, Off S (f a) Any) : Off S (andThen p f) Any := off_any (off_then hp hf)
theorem any_give (a : α) : Off S (give a) Any := off_any (off_give a)
theorem any_take (q : Tok → Bool) : Off S (takeP q) Any := off_any (off_take q)
theorem early_any : Early (Any : Nat → α → Nat → Prop) := fun _ _ _ _ h k => Nat.le_trans h k
theorem any_ifS {s : List UInt8} {p q : Par α} (hp : Off S p Any) (hq : Off S q Any) : Off S (ifSep (sepW s) p q) Any := off_ifS (sepW_off s) hp hq early_any
theorem any_num : Off S num Any := any_then (any_take _) fun _ => any_give _
theorem any_ratio : Off S ratioP Any := any_then any_num fun _ => any_then (any_take _) fun _ => any_then any_num fun _ => any_give _
theorem any_ratioIf (s : List UInt8) : Off S (ratioIf s) Any := any_ifS any_ratio (any_give _)
theorem any_headRest (k : Nat) : Off S (headRest k) Any := by
  unfold headRest
  split
  · exact any_ifS (any_then any_num fun _ => any_give _) (any_give _)
  split
  · exact any_then any_num fun _ => any_then (any_ratioIf _) fun _ => any_then (any_ratioIf _) fun _ => any_give _
  split
  · exact any_then (any_take _) fun _ => any_then any_ratio fun _ => any_then (any_take _) fun _ => any_then any_ratio fun _ => any_give _
  split
  · exact any_then any_ratio fun _ => any_give _
  · exact any_give _
/-- A test stands at a name of its own. -/
def TestAt (S : Tok → Prop) (lo : Nat) (t : TestP) (hi : Nat) : Prop := lo ≤ t.pos ∧ t.pos + 1 ≤ hi ∧ ∃ u, S u ∧ u.pos = t.pos ∧ u.kind = 1 ∧ u.text = t.attr
def ListAt (S : Tok → Prop) (lo : Nat) (l : List TestP) (hi : Nat) : Prop := l ≠ [] ∧ Chain (TestAt S) lo l hi
def ItemAt (S : Tok → Prop) (lo : Nat) (x : ItemP) (hi : Nat) : Prop := lo ≤ x.pos ∧ (∃ u, S u ∧ u.pos = x.pos ∧ headKind u.text = x.kind) ∧ x.kind ≠ 0 ∧ x.pos + 1 ≤ hi ∧ Chain (ListAt S) (x.pos + 1) x.conds hi
theorem test_early : Early (TestAt S) := fun _ _ _ _ h k => ⟨Nat.le_trans h k.1, k.2⟩
theorem list_early : Early (ListAt S) := fun _ _ _ _ h k => ⟨k.1, chain_early test_early _ _ _ _ h k.2⟩
theorem item_early : Early (ItemAt S) := fun _ _ _ _ h k => ⟨Nat.le_trans h k.1, k.2⟩
theorem off_value (a : Tok) (o : Nat) (v : Tok) : Off S (valueTail a o v) (fun lo x hi => lo ≤ hi ∧ x.attr = a.text ∧ x.pos = a.pos) := by
  have he : Early (fun (lo : Nat) (x : TestP) (hi : Nat) => lo ≤ hi ∧ x.attr = a.text ∧ x.pos = a.pos) := fun _ _ _ _ h k => ⟨Nat.le_trans h k.1, k.2⟩
  unfold valueTail
  split
  · exact (off_give _).weak fun lo x hi h k => by obtain ⟨rfl, rfl⟩ := k; exact ⟨Nat.le_refl _, rfl, rfl⟩
  · refine off_ifS (sepW_off _) ((off_then (any_take _) fun c => off_give _).weak fun lo x hi h k => ?_) ((off_give _).weak fun lo x hi h k => by obtain ⟨rfl, rfl⟩ := k; exact ⟨Nat.le_refl _, rfl, rfl⟩) he
    obtain ⟨c, m, h1, h2, h3, rfl, rfl⟩ := k
    exact ⟨h, rfl, rfl⟩
theorem off_test : Off S testP (TestAt S) := by
  refine (off_then (off_take _) fun a => off_then (any_take _) fun o => off_then (any_take _) fun v => off_value a (opOf o.text) v).weak fun lo x hi h k => ?_
  obtain ⟨a, m, h1, h2, ⟨h3, rfl, h4, h5⟩, o, m2, h6, h7, h8, v, m3, h9, h10, h11, h12, h13, h14⟩ := k
  refine ⟨by rw [h14]; exact h3, by rw [h14]; omega, a, h4, h14.symm, of_decide_eq_true h5, h13.symm⟩
theorem off_conds : Off S condsP (Chain (ListAt S)) :=
  off_ifS (sepW_off _) ((off_list (sepW_off _) (off_list (sepW_off _) off_test test_early 11) list_early 11).weak fun _ _ _ _ k => k.2) ((off_give _).weak fun lo a hi h k => by obtain ⟨rfl, rfl⟩ := k; exact Nat.le_refl _) (chain_early list_early)
theorem chain_late {Q : Nat → α → Nat → Prop} (hQ : ∀ lo a hi hi', hi ≤ hi' → Q lo a hi → Q lo a hi') : ∀ {as : List α} {lo hi hi' : Nat}, hi ≤ hi' → Chain Q lo as hi → Chain Q lo as hi'
  | [], _, _, _, h, k => Nat.le_trans k h
  | _ :: _, _, _, _, h, ⟨m, h1, h2, h3⟩ => ⟨m, h1, h2, chain_late hQ h h3⟩
theorem list_late : ∀ lo a hi hi', hi ≤ hi' → ListAt S lo a hi → ListAt S lo a hi' := fun _ _ _ _ h k => ⟨k.1, chain_late (fun _ _ _ _ h k => ⟨k.1, Nat.le_trans k.2.1 h, k.2.2⟩) h k.2⟩
theorem off_item : Off S itemP (ItemAt S) := by
  refine (off_then (off_then (off_take _) fun t => off_then (any_take _) fun n => off_then (any_headRest _) fun h => off_give (t, n, h)) fun f => off_then off_conds fun cs => off_then (any_take _) fun _ => off_give _).weak fun lo x hi h k => ?_
  obtain ⟨f, m, h1, h2, ⟨t, m1, h3, h4, ⟨h5, rfl, h6, h7⟩, n, m2, h8, h9, h10, hh, m3, h11, h12, h13, rfl, rfl⟩, cs, m4, h14, h15, h16, u, m5, h17, h18, h19, rfl, rfl⟩ := k
  refine ⟨h5, ⟨t, h6, rfl, rfl⟩, of_decide_eq_true h7, ?_, ?_⟩
  · show t.pos + 1 ≤ _
    omega
  · exact chain_late list_late (by omega) (chain_early list_early _ _ _ _ (by show t.pos + 1 ≤ m; omega) h16)
end
theorem lx_inc : ∀ {ts : List Tok} {a : Nat} {l : List UInt8} {e : Option (Nat × Nat)} {S : Tok → Prop}, Lx a l ts e → (∀ t ∈ ts, S t) → Inc S a ts
  | [], _, _, _, _, _, _ => trivial
  | t :: ts, a, l, e, S, h, hS => by
    cases h with
    | good _ g T rest k v _ _ hg hT hr =>
      have h2 := isTok_pos hT
      exact ⟨Nat.le_add_right _ _, hS _ List.mem_cons_self, (lx_inc hr fun t ht => hS t (List.mem_cons_of_mem _ ht)).mono (by show a + g.length + 1 ≤ _; omega)⟩
/-- P7.4 -/
theorem offsets {l : List UInt8} {as : List ItemP} {O : Int} (h : parseAll l = (as, 0, O)) : ∃ ts, lexAll l = (ts, 0, 0) ∧ Lx 0 l ts none ∧ ts.length ≤ 5000 ∧ ∃ hi, Chain (ItemAt (fun t => t ∈ ts)) 0 as hi := by
  obtain ⟨ts, h1, h2, h3, h4⟩ := parse_inv h
  obtain ⟨hi, _, _, k⟩ := off_rest sepL_off off_item item_early 200 0 ts as [] (lx_inc h2 fun t ht => ht) h4
  exact ⟨ts, h1, h2, h3, hi, k⟩
end Foyer.Rule
