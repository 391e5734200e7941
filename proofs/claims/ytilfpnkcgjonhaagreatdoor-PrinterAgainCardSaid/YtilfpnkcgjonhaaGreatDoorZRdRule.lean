/-
  The plain mathematics: the canonical text of rules is read as those rules, but for offsets; and it is the text of no other ones. No program is spoken of here.
-/
import Derived.Test.YtilfpnkcgjonhaaGreatDoorZRdPlan
import Derived.Test.YtilfpnkcgjonhaaGreatDoorZRuMath
namespace Foyer.Printer
open Foyer.Lexer
def TestZ.bare (t : TestZ) : TestZ := ⟨t.attr, t.op, t.name, t.n, 0⟩
def ItemZ.bare (x : ItemZ) : ItemZ := ⟨x.kind, x.name, x.conds.map (List.map TestZ.bare), x.n, x.r, x.s, 0⟩
theorem ok_tests (l : List TestZ) : testsOk (l.map TestZ.bare) = testsOk l := by
 unfold testsOk
 rw [List.length_map, all_map (q := testOk) (f := TestZ.bare) fun r => rfl]
theorem ok_item (x : ItemZ) : itemOk x.bare = itemOk x := by
 unfold itemOk whenOk ItemZ.bare
 simp only
 rw [all_map ok_tests, List.length_map]
 rfl
theorem ok_rules (l : List ItemZ) : rulesOk (l.map ItemZ.bare) = rulesOk l := by
 unfold rulesOk
 rw [all_map ok_item, List.length_map]
theorem text_tests (l : List TestZ) : testsT (l.map TestZ.bare) = testsT l := by
 cases l with
 | nil => rfl
 | cons t r =>
  show testT t.bare ++ restT (r.map TestZ.bare) = _
  unfold restT
  rw [flat_map (q := fun t => wordT wAnd ++ testT t) (f := TestZ.bare) fun r => rfl]; rfl
theorem text_alts : ∀ (c : List (List TestZ)) (w : List UInt8), altsT w (c.map (List.map TestZ.bare)) = altsT w c
 | [], _ => rfl
 | l :: r, w => by
  rw [List.map_cons]
  unfold altsT
  rw [text_tests, text_alts r]
theorem text_item (x : ItemZ) : itemT x.bare = itemT x := by
 unfold itemT ItemZ.bare
 simp only
 rw [text_alts]
 rfl
theorem text_rules (l : List ItemZ) : rulesT (l.map ItemZ.bare) = rulesT l := flat_map text_item l
theorem rules_same {a b : List ItemZ} (h : a.map ItemZ.bare = b.map ItemZ.bare) : rulesAll a = rulesAll b := by
 rw [rulesAll_eq, rulesAll_eq, ← ok_rules a, ← ok_rules b, ← text_rules a, ← text_rules b, h]
def testOf (t : Rule.TestP) : TestZ := ⟨t.attr, t.op, t.name, t.n, t.pos⟩
def itemOf (x : Rule.ItemP) : ItemZ := ⟨x.kind, x.name, x.conds.map (List.map testOf), x.head.n, ⟨x.head.rn, x.head.rd⟩, ⟨x.head.sn, x.head.sd⟩, x.pos⟩
def rulesOf (l : List Rule.ItemP) : List ItemZ := l.map itemOf
def Re {α : Type} (O : List (List UInt8)) (p : Rule.Par α) (e : Sk) (P : α → Prop) : Prop := ∀ ts us, sans ts = e → (∀ s ∈ O, Rule.hd us ≠ some s) → ∃ a, p (ts ++ us) = .ok a us ∧ P a
def Foll (O1 : List (List UInt8)) (e : Sk) (O : List (List UInt8)) : Prop := match e with | [] => ∀ s ∈ O1, s ∈ O | x :: _ => ∀ s ∈ O1, x.2.1 ≠ s
theorem foll {O1 O : List (List UInt8)} {e : Sk} (h : Foll O1 e O) {ts us : List Tok} (he : sans ts = e) (hu : ∀ s ∈ O, Rule.hd us ≠ some s) : ∀ s ∈ O1, Rule.hd (ts ++ us) ≠ some s := by
 intro s hs
 cases e with
 | nil => rw [sans_nil he]; exact hu s (h s hs)
 | cons x e =>
  obtain ⟨t, r, rfl, ht, _⟩ := sans_cons he
  intro k
  have k2 : t.text = s := Option.some.inj k
  exact h s hs (ht.2.1.symm.trans k2)
section
variable {α β γ : Type} {e e' : Sk} {O O1 : List (List UInt8)}
theorem Re.give {a : α} {P : α → Prop} (h : P a) : Re [] (Rule.give a) [] P := by
 intro ts us he _
 rw [sans_nil he]
 exact ⟨a, rfl, h⟩
theorem Re.thn {p : Rule.Par α} {f : α → Rule.Par β} {P : α → Prop} {Q : β → Prop} (h : Re O1 p e P) (h' : ∀ a, P a → Re O (f a) e' Q) (hf : Foll O1 e' O) : Re O (Rule.andThen p f) (e ++ e') Q := by
 intro ts us he hu
 obtain ⟨x, y, rfl, hx, hy⟩ := sans_app he
 obtain ⟨a, h1, h2⟩ := h x (y ++ us) hx (foll hf hy hu)
 obtain ⟨b, h3, h4⟩ := h' a h2 y us hy hu
 refine ⟨b, ?_, h4⟩
 rw [List.append_assoc, Rule.then_of h1]
 exact h3
theorem foll_none : Foll [] e O := by cases e <;> exact fun s hs => by cases hs
theorem Re.then {p : Rule.Par α} {f : α → Rule.Par β} {P : α → Prop} {Q : β → Prop} (h : Re [] p e P) (h' : ∀ a, P a → Re O (f a) e' Q) : Re O (Rule.andThen p f) (e ++ e') Q := h.thn h' foll_none
theorem Re.cast {p : Rule.Par α} {P : α → Prop} (h : Re O p e P) (he : e = e') : Re O p e' P := by subst he; exact h
theorem Re.more {p : Rule.Par α} {P : α → Prop} (h : Re O p e P) (ho : ∀ s ∈ O, s ∈ O1) : Re O1 p e P := fun ts us he hu => h ts us he fun s hs => hu s (ho s hs)
theorem Re.any {p : Rule.Par α} {P : α → Prop} (h : Re [] p e P) : Re O p e P := h.more fun s hs => by cases hs
theorem Re.mono {p : Rule.Par α} {P Q : α → Prop} (h : Re O p e P) (hq : ∀ a, P a → Q a) : Re O p e Q := fun ts us he hu =>
 let ⟨a, h1, h2⟩ := h ts us he hu; ⟨a, h1, hq a h2⟩
theorem Re.tok {q : Tok → Bool} (x : Nat × List UInt8 × Nat) (h : ∀ t : Tok, t.kind = x.1 → t.text = x.2.1 → q t = true) : Re [] (Rule.takeP q) [x] (fun t => t.kind = x.1 ∧ t.text = x.2.1 ∧ t.val = x.2.2) := by
 intro ts us he _
 obtain ⟨t, r, rfl, ht, hr⟩ := sans_cons he
 rw [sans_nil hr]
 exact ⟨t, Rule.takeP_pos (h t ht.1 ht.2.1), ht⟩
theorem Re.word (s : List UInt8) : Re [] (Rule.word s) [nm s] (fun _ => True) := (Re.tok (nm s) fun t _ h => by simpa [nm] using h).mono fun _ _ => trivial
theorem Re.sym (c : UInt8) : Re [] (Rule.word [c]) [sy c] (fun _ => True) := (Re.tok (sy c) fun t _ h => by simpa [sy] using h).mono fun _ _ => trivial
theorem Re.name (s : List UInt8) : Re [] Rule.nameT [nm s] (fun a => a.text = s) := (Re.tok (nm s) fun t h _ => by simpa [nm] using h).mono fun _ h => h.2.1
theorem Re.num {n : Int} (h : numOk n = true) : Re [] Rule.num [nu n] (fun a => (a : Int) = n) :=
 ((Re.tok (nu n) fun t h _ => by simpa [nu] using h : Re [] Rule.numT _ _).then fun t ht => Re.give (by
  have h3 : t.val = n.toNat := ht.2.2
  rw [h3]; exact (itoa_ok h).2.2)).cast rfl
theorem Re.yes {p q : Rule.Par α} {P : α → Prop} {s : List UInt8} {x : Nat × List UInt8 × Nat} (hx : x.2.1 = s) (h : Re O p e P) : Re O (Rule.ifSep (Rule.sepW s) p q) (x :: e) P := by
 intro ts us he hu
 obtain ⟨t, r, rfl, ht, hr⟩ := sans_cons he
 obtain ⟨a, h1, h2⟩ := h r us hr hu
 refine ⟨a, ?_, h2⟩
 unfold Rule.ifSep
 rw [List.cons_append, Rule.sepW_pos (ht.2.1.trans hx)]
 exact h1
theorem Re.no {p q : Rule.Par α} {P : α → Prop} {s : List UInt8} (h : Re O q e P) (hf : Foll [s] e O) : Re O (Rule.ifSep (Rule.sepW s) p q) e P := by
 intro ts us he hu
 obtain ⟨a, h1, h2⟩ := h ts us he hu
 refine ⟨a, ?_, h2⟩
 have hn := foll hf he hu s (by simp)
 unfold Rule.ifSep
 have : Rule.sepW s (ts ++ us) = none := by
  cases hts : ts ++ us with
  | nil => rfl
  | cons t r => rw [hts] at hn; exact Rule.sepW_neg fun e => hn (by rw [← e]; rfl)
 rw [this]
 exact h1
theorem Re.noGive {p : Rule.Par α} {P : α → Prop} {s : List UInt8} {a : α} (h : P a) : Re [s] (Rule.ifSep (Rule.sepW s) p (Rule.give a)) [] P := Re.no (Re.any (Re.give h)) (fun _ h => h)
theorem Re.noMore {p : Rule.Par α} {P : α → Prop} {s : List UInt8} {a : α} (h : P a) : Re (s :: O) (Rule.ifSep (Rule.sepW s) p (Rule.give a)) [] P :=
 (Re.noGive h).more (fun x hx => by rw [List.mem_singleton] at hx; subst hx; exact List.mem_cons_self)
theorem Re.rest {w : List UInt8} {p : Rule.Par α} {f : β → Sk} {g : α → γ} {b : β → γ} (hw : ∀ s ∈ O, w ≠ s) : ∀ (l : List β), (∀ x ∈ l, Re O p (f x) (fun a => g a = b x)) → ∀ n, l.length ≤ n →
  Re (w :: O) (Rule.rest (Rule.sepW w) p n) (l.flatMap fun x => nm w :: f x) (fun as => as.map g = l.map b)
 | [], _, n, _ => by
  cases n with
  | zero => exact (Re.noMore (O := O) (s := w) (p := fun ts => .bad 3 ts) (a := ([] : List α)) (P := fun as => as.map g = List.map b []) rfl)
  | succ n => exact (Re.noMore (O := O) (s := w) (p := Rule.andThen p fun a => Rule.andThen (Rule.rest (Rule.sepW w) p n) fun as => Rule.give (a :: as)) (a := ([] : List α)) (P := fun as => as.map g = List.map b []) rfl)
 | x :: r, h, n, hn => by
  obtain ⟨k, rfl⟩ : ∃ k, n = k + 1 := ⟨n - 1, by rw [List.length_cons] at hn; omega⟩
  rw [List.length_cons] at hn
  have ih := Re.rest hw r (fun y hy => h y (List.mem_cons_of_mem _ hy)) k (by omega)
  refine (Re.yes (x := nm w) (e := f x ++ ((r.flatMap fun x => nm w :: f x) ++ [])) rfl ((h x List.mem_cons_self).thn (fun a ha => ih.thn (fun as has => Re.any (Re.give (?_ : List.map g (a :: as) = _))) ?_) ?_)).cast ?_
  ·rw [List.map_cons, List.map_cons, ha, has]
  ·exact fun s hs => hs
  ·cases r with
   | nil => exact fun s hs => List.mem_cons_of_mem _ hs
   | cons y r => exact fun s hs => hw s hs
  ·rw [List.flatMap_cons, List.append_nil]; rfl
theorem Re.list {w : List UInt8} {p : Rule.Par α} {f : β → Sk} {g : α → γ} {b : β → γ} (hw : ∀ s ∈ O, w ≠ s) (x : β) (r : List β) (h : ∀ y ∈ x :: r, Re O p (f y) (fun a => g a = b y)) (n : Nat) (hn : r.length ≤ n) :
  Re (w :: O) (Rule.listP (Rule.sepW w) n p) (f x ++ r.flatMap fun x => nm w :: f x) (fun as => as.map g = (x :: r).map b) := by
 refine ((h x List.mem_cons_self).thn (fun a ha => (Re.rest hw r (fun y hy => h y (List.mem_cons_of_mem _ hy)) n hn).thn (e' := []) (fun as has => Re.any (Re.give (?_ : List.map g (a :: as) = _))) (fun s hs => hs)) ?_).cast ?_
 ·rw [List.map_cons, List.map_cons, ha, has]
 ·rw [List.append_nil]
  cases r with
  | nil => exact fun s hs => List.mem_cons_of_mem _ hs
  | cons y r => exact fun s hs => hw s hs
 ·rw [List.append_nil]
end
theorem ratio_re {r : RatioZ} (h : ratioOk r = true) : Re [] Rule.ratioP (ratioE r) (fun a => RatioZ.mk a.1 a.2 = r) := by
 unfold ratioOk at h
 rw [Bool.and_eq_true] at h
 exact ((Re.num h.1).then fun a ha => (Re.sym 47).then fun _ _ => (Re.num h.2).then fun b hb => Re.give (a := (a, b)) (P := fun a => RatioZ.mk a.1 a.2 = r) (by show RatioZ.mk a b = r; rw [ha, hb])).cast rfl
theorem ratioIf_re {r : RatioZ} {w : List UInt8} (h : ratioOk r = true) : Re [w] (Rule.ratioIf w) (ratioIfE w r) (fun a => RatioZ.mk a.1 a.2 = r) := by
 unfold ratioIfE
 by_cases h1 : r = ⟨0, 1⟩
 ·rw [if_pos h1]
  subst h1
  exact Re.noGive rfl
 ·rw [if_neg h1]
  exact Re.yes rfl (Re.any (ratio_re h))
theorem op_word {k : Int} (h : kindOk 7 k = true) : ((Rule.opOf (opWords.getD k.toNat []) : Nat) : Int) = k ∧ Rule.opOf (opWords.getD k.toNat []) ≠ 0 := by
 unfold kindOk at h
 simp only [Bool.and_eq_true, decide_eq_true_eq] at h
 have hk : k = 1 ∨ k = 2 ∨ k = 3 ∨ k = 4 ∨ k = 5 ∨ k = 6 := by omega
 rcases hk with rfl | rfl | rfl | rfl | rfl | rfl <;> decide
theorem test_re {t : TestZ} (h : testOk t = true) : Re [Rule.wDot] Rule.testP (testE t) (fun a => (testOf a).bare = t.bare) := by
 unfold testOk at h
 rw [Bool.and_eq_true, Bool.and_eq_true] at h
 obtain ⟨⟨h1, h2⟩, h3⟩ := h
 obtain ⟨ho1, ho2⟩ := op_word h2
 have go : ∀ e, (∀ a : Tok, a.text = t.attr → ∀ k : Nat, (k : Int) = t.op → Re [Rule.wDot] (Rule.andThen (Rule.takeP fun t => decide (t.kind ≠ 3)) fun v => Rule.valueTail a k v) e (fun a => (testOf a).bare = t.bare)) → Re [Rule.wDot] Rule.testP ([nm t.attr, opE t.op] ++ e) (fun a => (testOf a).bare = t.bare) := by
  intro e he
  refine ((Re.name t.attr).then fun a ha => (Re.tok (opE t.op) fun o _ ho => ?_).then fun o ho => he a ha _ ?_).cast (e := [nm t.attr] ++ ([opE t.op] ++ e)) rfl
  ·rw [show o.text = opWords.getD t.op.toNat [] from ho]; simpa using ho2
  ·rw [show o.text = opWords.getD t.op.toNat [] from ho.2.1]; exact ho1
 unfold testE
 refine go _ fun a ha k hk => ?_
 by_cases hn : t.name = []
 ·rw [if_pos hn]
  rw [if_pos hn] at h3
  refine ((Re.tok (nu t.n) fun v hv _ => by rw [show v.kind = 2 from hv]; rfl).then fun v hv => ?_).cast (e := [nu t.n] ++ []) rfl
  unfold Rule.valueTail
  rw [if_pos (show v.kind = 2 from hv.1)]
  refine Re.any (Re.give ?_)
  have h3' : v.val = t.n.toNat := hv.2.2
  show TestZ.mk a.text k [] v.val 0 = _
  rw [ha, hk, h3', (itoa_ok h3).2.2]
  unfold TestZ.bare; rw [hn]
 ·rw [if_neg hn]
  rw [if_neg hn, Bool.and_eq_true, decide_eq_true_eq] at h3
  unfold namesE
  cases hp : atPoint t.name with
  | none =>
   refine ((Re.tok (nm t.name) fun v hv _ => by rw [show v.kind = 1 from hv]; rfl).then fun v hv => ?_).cast (e := [nm t.name] ++ []) rfl
   unfold Rule.valueTail
   rw [if_neg (by rw [show v.kind = 1 from hv.1]; decide)]
   refine Re.noGive ?_
   show TestZ.mk a.text k v.text 0 0 = _
   rw [ha, hk, show v.text = t.name from hv.2.1]
   unfold TestZ.bare; rw [h3.1]
  | some p =>
   refine ((Re.tok (nm p.1) fun v hv _ => by rw [show v.kind = 1 from hv]; rfl).then fun v hv => ?_).cast (e := [nm p.1] ++ [sy 46, nm p.2]) rfl
   unfold Rule.valueTail
   rw [if_neg (by rw [show v.kind = 1 from hv.1]; decide)]
   refine Re.yes rfl (((Re.any (Re.name p.2)).thn (O := [Rule.wDot]) (O1 := []) (e' := []) (fun c hc => Re.any (Re.give ?_)) foll_none).cast rfl)
   show TestZ.mk a.text k (v.text ++ ([46] ++ c.text)) 0 0 = _
   rw [ha, hk, show v.text = p.1 from hv.2.1, hc]
   unfold TestZ.bare; rw [h3.1, atPoint_some hp]; rfl
theorem tests_re {l : List TestZ} (h : testsOk l = true) : Re [wAnd, Rule.wDot] Rule.testsP (testsE l) (fun as => as.map (fun a => (testOf a).bare) = l.map TestZ.bare) := by
 unfold testsOk at h
 rw [Bool.and_eq_true, Bool.and_eq_true, decide_eq_true_eq, decide_eq_true_eq] at h
 obtain ⟨⟨h1, h2⟩, h3⟩ := h
 cases l with
 | nil => simp at h1
 | cons t r =>
  rw [List.length_cons] at h2
  exact Re.list (w := wAnd) (O := [Rule.wDot]) (f := testE) (by decide) t r (fun y hy => test_re (all_of h3 y hy)) 11 (by omega)
theorem alts_flat : ∀ c : List (List TestZ), altsE wOr c = c.flatMap fun l => nm wOr :: testsE l
 | [] => rfl
 | l :: r => by rw [List.flatMap_cons, altsE, alts_flat r]
theorem conds_re {c : List (List TestZ)} (h : whenOk c = true) : Re [wWhen, wOr, wAnd, Rule.wDot] Rule.condsP (altsE wWhen c) (fun as => as.map (List.map fun a => (testOf a).bare) = c.map (List.map TestZ.bare)) := by
 unfold whenOk at h
 rw [Bool.and_eq_true, decide_eq_true_eq] at h
 cases c with
 | nil => exact Re.noMore (s := Rule.wWhen) (p := Rule.listsP) (a := ([] : List (List Rule.TestP))) rfl
 | cons l r =>
  have hl := h.1
  rw [List.length_cons] at hl
  have := Re.list (w := wOr) (O := [wAnd, Rule.wDot]) (f := testsE) (g := List.map fun a => (testOf a).bare) (b := List.map TestZ.bare) (p := Rule.testsP) (by decide) l r (fun y hy => tests_re (all_of h.2 y hy)) 11 (by omega)
  refine ((Re.yes (s := Rule.wWhen) (x := nm wWhen) (q := Rule.give []) rfl this).more (fun s hs => List.mem_cons_of_mem _ hs)).cast ?_
  rw [altsE, alts_flat]; rfl
def headIs (x : ItemZ) (h : Rule.HeadP) : Prop := (h.n : Int) = x.n ∧ RatioZ.mk h.rn h.rd = x.r ∧ RatioZ.mk h.sn h.sd = x.s
theorem head_re {x : ItemZ} (h : termsOk x = true) (k : Nat) (hk : (k : Int) = x.kind) : Re [wLimit, wFee, wTax] (Rule.headRest k) (termsE x) (headIs x) := by
 unfold termsOk at h
 unfold termsE Rule.headRest
 by_cases h1 : x.kind = 1
 ·have k1 : k = 1 := by omega
  rw [if_pos h1] at h ⊢
  rw [if_pos k1]
  rw [Bool.and_eq_true, Bool.and_eq_true, decide_eq_true_eq, decide_eq_true_eq] at h
  by_cases hn : x.n ≠ 0
  ·rw [if_pos hn]
   exact Re.yes rfl (((Re.num h.1).then fun n hn => Re.any (Re.give ⟨hn, h.2.1.symm, h.2.2.symm⟩)).cast (e := [nu x.n] ++ []) rfl)
  ·rw [if_neg hn]
   exact Re.noMore (s := Rule.wLimit) (P := headIs x) ⟨by show (0 : Int) = _; omega, h.2.1.symm, h.2.2.symm⟩
 ·have k1 : ¬ k = 1 := by omega
  rw [if_neg h1] at h ⊢
  rw [if_neg k1]
  by_cases h3 : x.kind = 3
  ·have k3 : k = 3 := by omega
   rw [if_pos h3] at h ⊢
   rw [if_pos k3]
   rw [Bool.and_eq_true, Bool.and_eq_true] at h
   refine ((Re.num h.1.1).then fun n hn => (ratioIf_re (w := wFee) h.1.2).thn (fun r hr => (ratioIf_re (w := wTax) h.2).thn (e' := []) (fun s hs => Re.any (Re.give ⟨hn, hr, hs⟩)) (fun s hs => ?_)) ?_).cast (e := [nu x.n] ++ (ratioIfE wFee x.r ++ (ratioIfE wTax x.s ++ []))) ?_
   ·rw [List.mem_singleton] at hs; subst hs; simp
   ·rw [List.append_nil]
    unfold ratioIfE
    by_cases hs : x.s = ⟨0, 1⟩
    ·rw [if_pos hs]
     intro s hs
     rw [List.mem_singleton] at hs; subst hs; simp
    ·rw [if_neg hs]
     intro s hs
     rw [List.mem_singleton] at hs; subst hs; decide
   ·simp
  ·have k3 : ¬ k = 3 := by omega
   rw [if_neg h3] at h ⊢
   rw [if_neg k3]
   by_cases h4 : x.kind = 4
   ·have k4 : k = 4 := by omega
    rw [if_pos h4] at h ⊢
    rw [if_pos k4]
    rw [Bool.and_eq_true, Bool.and_eq_true, decide_eq_true_eq] at h
    exact Re.any (Re.cast ((Re.word wCap).then fun _ _ => (ratio_re h.1.1).then fun r hr => (Re.word wShare).then fun _ _ => (ratio_re h.1.2).then fun s hs => Re.give (P := headIs x) (a := ⟨0, r.1, r.2, s.1, s.2⟩) ⟨by show (0 : Int) = _; omega, hr, hs⟩) (by simp))
   ·have k4 : ¬ k = 4 := by omega
    rw [if_neg h4] at h ⊢
    rw [if_neg k4]
    by_cases h5 : x.kind = 5
    ·have k5 : k = 5 := by omega
     rw [if_pos h5] at h ⊢
     rw [if_pos k5]
     rw [Bool.and_eq_true, Bool.and_eq_true, decide_eq_true_eq, decide_eq_true_eq] at h
     exact Re.any (Re.cast ((ratio_re h.1).then fun r hr => Re.give (P := headIs x) (a := Rule.HeadP.mk 0 r.1 r.2 0 0) (by exact ⟨by show (0 : Int) = _; omega, hr, h.2.2.symm⟩)) (by simp))
    ·have k5 : ¬ k = 5 := by omega
     rw [if_neg h5] at h ⊢
     rw [if_neg k5]
     rw [Bool.and_eq_true, Bool.and_eq_true, decide_eq_true_eq, decide_eq_true_eq, decide_eq_true_eq] at h
     exact Re.any (Re.give (P := headIs x) (a := Rule.HeadP.mk 0 0 0 0 0) (by exact ⟨by show (0 : Int) = _; omega, h.1.2.symm, h.2.symm⟩))
theorem kind_word {k : Int} (h : kindOk 8 k = true) : ((Rule.headKind (itemWords.getD k.toNat []) : Nat) : Int) = k ∧ Rule.headKind (itemWords.getD k.toNat []) ≠ 0 := by
 unfold kindOk at h
 simp only [Bool.and_eq_true, decide_eq_true_eq] at h
 have hk : k = 1 ∨ k = 2 ∨ k = 3 ∨ k = 4 ∨ k = 5 ∨ k = 6 ∨ k = 7 := by omega
 rcases hk with rfl | rfl | rfl | rfl | rfl | rfl | rfl <;> decide
theorem item_re {x : ItemZ} (h : itemOk x = true) : Re [] Rule.itemP (itemE x) (fun a => (itemOf a).bare = x.bare) := by
 unfold itemOk at h
 rw [Bool.and_eq_true, Bool.and_eq_true, Bool.and_eq_true] at h
 obtain ⟨⟨⟨h1, h2⟩, h3⟩, h4⟩ := h
 obtain ⟨hk1, hk2⟩ := kind_word h1
 have hfront : Re [wLimit, wFee, wTax] Rule.frontP (nm (itemWords.getD x.kind.toNat []) :: nm x.name :: termsE x) (fun f => ((Rule.headKind f.1.text : Nat) : Int) = x.kind ∧ f.2.1.text = x.name ∧ headIs x f.2.2) := by
  refine ((Re.tok (nm (itemWords.getD x.kind.toNat [])) fun t _ ht => ?_).then fun t ht => (Re.name x.name).then fun n hn => (head_re h3 (Rule.headKind t.text) ?_).thn (e' := []) (fun hd hhd => Re.any (Re.give ⟨?_, hn, hhd⟩)) (fun s hs => hs)).cast (by simp)
  ·rw [show t.text = itemWords.getD x.kind.toNat [] from ht]; simpa using hk2
  ·rw [show t.text = itemWords.getD x.kind.toNat [] from ht.2.1]; exact hk1
  ·show ((Rule.headKind t.text : Nat) : Int) = _
   rw [show t.text = itemWords.getD x.kind.toNat [] from ht.2.1]; exact hk1
 refine (hfront.thn (fun f hf => (conds_re h4).thn (fun cs hcs => (Re.sym 59).then fun _ _ => Re.give ?_) (by intro s hs; revert s; decide)) ?_).cast ?_
 ·obtain ⟨f1, f2, f3, f4, f5⟩ := hf
  show ItemZ.mk ((Rule.headKind f.1.text : Nat) : Int) f.2.1.text ((cs.map (List.map testOf)).map (List.map TestZ.bare)) f.2.2.n ⟨f.2.2.rn, f.2.2.rd⟩ ⟨f.2.2.sn, f.2.2.sd⟩ 0 = _
  rw [f1, f2, f3, f4, f5, List.map_map, show (List.map TestZ.bare ∘ List.map testOf) = List.map (fun a => (testOf a).bare) from by funext l; simp [Function.comp_def], hcs]
  rfl
 ·cases hc : x.conds with
  | nil => intro s hs; revert s; decide
  | cons l r => intro s hs; revert s; show ∀ s ∈ [wLimit, wFee, wTax], wWhen ≠ s; decide
 ·simp [itemE]
theorem rules_rest : ∀ (l : List ItemZ), (∀ x ∈ l, itemOk x = true) → ∀ (n : Nat) (ts : List Tok), l.length ≤ n → sans ts = l.flatMap itemE → ∃ as, Rule.rest Rule.sepL Rule.itemP n ts = .ok as [] ∧ as.map (fun a => (itemOf a).bare) = l.map ItemZ.bare
 | [], _, n, ts, _, he => by
  rw [sans_nil he]
  cases n <;> exact ⟨[], rfl, rfl⟩
 | x :: r, h, n, ts, hn, he => by
  rw [List.length_cons] at hn
  obtain ⟨k, rfl⟩ : ∃ k, n = k + 1 := ⟨n - 1, by omega⟩
  rw [List.flatMap_cons] at he
  obtain ⟨u, v, rfl, hu, hv⟩ := sans_app he
  obtain ⟨a, h1, h2⟩ := item_re (h x List.mem_cons_self) u v hu (fun s hs => by cases hs)
  obtain ⟨as, h3, h4⟩ := rules_rest r (fun y hy => h y (List.mem_cons_of_mem _ hy)) k v (by omega) hv
  refine ⟨a :: as, ?_, by rw [List.map_cons, List.map_cons, h2, h4]⟩
  obtain ⟨t, s, rfl, _, _⟩ := sans_cons (x := nm (itemWords.getD x.kind.toNat [])) hu
  show Rule.andThen Rule.itemP _ (t :: s ++ v) = _
  rw [Rule.then_of h1, Rule.then_of h3]
  rfl
theorem rulesAll_ways (l : List ItemZ) : (rulesAll l).2 = 0 ∧ rulesOk l = true ∧ (rulesAll l).1 = rulesT l ∧ (lexAll (rulesT l)).2.1 = 0 ∨ (rulesAll l).1 = [] ∧ ((rulesAll l).2 = 1 ∨ (rulesAll l).2 = 3) := by
 rw [rulesAll_eq]
 by_cases h1 : rulesOk l = true
 ·rw [if_pos h1]
  by_cases h2 : (lexAll (rulesT l)).2.1 = 0
  ·rw [if_pos h2]; exact Or.inl ⟨rfl, h1, rfl, h2⟩
  ·rw [if_neg h2]; exact Or.inr ⟨rfl, Or.inr rfl⟩
 ·rw [if_neg h1]; exact Or.inr ⟨rfl, Or.inl rfl⟩
theorem rules_round {l : List ItemZ} (hh : (rulesAll l).2 = 0) : ∃ as, Rule.parseAll (rulesAll l).1 = (as, 0, 0) ∧ (rulesOf as).map ItemZ.bare = l.map ItemZ.bare := by
 rcases rulesAll_ways l with ⟨_, h1, h2, h3⟩ | ⟨_, h1 | h1⟩
 ·rcases text_toks (rules_lns h1) with ⟨_, ts, h4, h5, h6⟩ | h4
  ·unfold rulesOk at h1
   rw [Bool.and_eq_true, decide_eq_true_eq] at h1
   obtain ⟨as, k1, k2⟩ := rules_rest l (all_of h1.2) 200 ts h1.1 h5
   refine ⟨as, ?_, ?_⟩
   ·unfold Rule.parseAll
    rw [h2, h4]
    simp only [if_true]
    unfold Rule.parseToks
    rw [show Rule.rulesP ts = _ from k1]
    rfl
   ·unfold rulesOf
    rw [List.map_map]
    exact k2
  ·rw [h3] at h4; cases h4
 ·rw [h1] at hh; cases hh
 ·rw [h1] at hh; cases hh
end Foyer.Printer
