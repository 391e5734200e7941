/-
  The plain mathematics of canonical texts: the tokens of a text that is written. No program is spoken of here.
-/
import Derived.Test.YtilfpnkcgjonhaaGreatDoorMathCanon
namespace Foyer.Printer
open Foyer.Lexer Go.Lib

/-- What follows does not belong to a word in front of it. -/
def Nx (l : List UInt8) : Prop := ∀ c, l.head? = some c → isWord c = false ∧ c ≠ 61
abbrev Sk := List (Nat × List UInt8 × Nat)
/-- A part of a line, which begins with no part of a word. -/
def Mid (t : List UInt8) (e : Sk) : Prop := ∀ a rest us er, Lx (a + t.length) rest us er → Nx rest → (∃ ts, Lx a (t ++ rest) (ts ++ us) er ∧ sans ts = e) ∧ Nx (t ++ rest)
/-- Whole lines. -/
def Lns (t : List UInt8) (e : Sk) : Prop := ∀ a rest us er, Lx (a + t.length) rest us er → ∃ ts, Lx a (t ++ rest) (ts ++ us) er ∧ sans ts = e
theorem sans_append (a b : List Tok) : sans (a ++ b) = sans a ++ sans b := List.map_append
theorem Mid.nil : Mid [] [] := fun a rest us er h hn => ⟨⟨[], by simpa using h, rfl⟩, by simpa using hn⟩
theorem Mid.app {t t' : List UInt8} {e e' : Sk} (h : Mid t e) (h' : Mid t' e') : Mid (t ++ t') (e ++ e') := by
  intro a rest us er hl hn
  obtain ⟨⟨ts', h1, h2⟩, h3⟩ := h' (a + t.length) rest us er (by rw [List.length_append] at hl; rw [Nat.add_assoc]; exact hl) hn
  obtain ⟨⟨ts, h4, h5⟩, h6⟩ := h a _ _ er h1 h3
  refine ⟨⟨ts ++ ts', ?_, by rw [sans_append, h5, h2]⟩, ?_⟩
  · rw [List.append_assoc, List.append_assoc]; exact h4
  · rw [List.append_assoc]; exact h6
theorem Mid.flat {α : Type} {t : α → List UInt8} {e : α → Sk} : ∀ (l : List α), (∀ x ∈ l, Mid (t x) (e x)) → Mid (l.flatMap t) (l.flatMap e)
  | [], _ => Mid.nil
  | x :: r, h => by
    rw [List.flatMap_cons, List.flatMap_cons]
    exact (h x List.mem_cons_self).app (Mid.flat r fun y hy => h y (List.mem_cons_of_mem _ hy))
theorem Lns.nil : Lns [] [] := fun a rest us er h => ⟨[], by simpa using h, rfl⟩
theorem Lns.app {t t' : List UInt8} {e e' : Sk} (h : Lns t e) (h' : Lns t' e') : Lns (t ++ t') (e ++ e') := by
  intro a rest us er hl
  obtain ⟨ts', h1, h2⟩ := h' (a + t.length) rest us er (by rw [List.length_append] at hl; rw [Nat.add_assoc]; exact hl)
  obtain ⟨ts, h4, h5⟩ := h a _ _ er h1
  refine ⟨ts ++ ts', ?_, by rw [sans_append, h5, h2]⟩
  rw [List.append_assoc, List.append_assoc]; exact h4
theorem Lns.flat {α : Type} {t : α → List UInt8} {e : α → Sk} : ∀ (l : List α), (∀ x ∈ l, Lns (t x) (e x)) → Lns (l.flatMap t) (l.flatMap e)
  | [], _ => Lns.nil
  | x :: r, h => by
    rw [List.flatMap_cons, List.flatMap_cons]
    exact (h x List.mem_cons_self).app (Lns.flat r fun y hy => h y (List.mem_cons_of_mem _ hy))
theorem Mid.cast {t t' : List UInt8} {e e' : Sk} (h : Mid t e) (ht : t = t') (he : e = e') : Mid t' e' := by subst ht he; exact h
theorem Lns.cast {t t' : List UInt8} {e e' : Sk} (h : Lns t e) (ht : t = t') (he : e = e') : Lns t' e' := by subst ht he; exact h
/-- A token behind gaps. -/
theorem lx_tok {a k v : Nat} {g T rest : List UInt8} {us : List Tok} {er : Option (Nat × Nat)} (hg : gm false g = some false) (hT : IsTok k T v rest.head?) (hl : Lx (a + (g ++ T).length) rest us er) :
    ∃ ts, Lx a ((g ++ T) ++ rest) (ts ++ us) er ∧ sans ts = [(k, T, v)] := by
  refine ⟨[⟨k, T, v, a + g.length⟩], ?_, rfl⟩
  rw [List.append_assoc]
  exact Lx.good a g T rest k v us er hg hT (by rw [List.length_append, ← Nat.add_assoc] at hl; exact hl)
/-- What a word, a number or a symbol is. -/
def Word (k : Nat) (T : List UInt8) (v : Nat) : Prop := ∀ rest : List UInt8, Nx rest → IsTok k T v rest.head?
theorem word_name {T : List UInt8} (h : nameOk T = true) : Word 1 T 0 := by
  intro rest hn
  have hw := (nameOk_last h).2
  unfold nameOk at h
  simp only [Bool.and_eq_true, decide_eq_true_eq] at h
  refine Or.inl ⟨rfl, rfl, h.1.1, ?_, hw, fun b hb => (hn b hb).1⟩
  cases T with
  | nil => simp at h
  | cons c r => exact ⟨c, r, rfl, h.1.2⟩
theorem word_num {n : Int} (h : numOk n = true) : Word 2 (itoa n) n.toNat := by
  obtain ⟨h1, h2, h3⟩ := itoa_ok h
  intro rest hn
  obtain ⟨hd, hv⟩ := decDigits_digits (n.toNat + 1) n.toNat (by omega)
  obtain ⟨l1, l10⟩ := decDigits_ten h2
  rw [h1]
  exact Or.inr (Or.inl ⟨rfl, hv.symm, l1, l10, hd, fun b hb => (hn b hb).1⟩)
theorem word_sym {c : UInt8} (h : isSym c = true) : Word 3 [c] 0 := fun _ _ => Or.inr (Or.inr (Or.inl ⟨rfl, rfl, c, rfl, h⟩))
theorem word_cmp {c : UInt8} (h : isCmp c = true) (h33 : c.toNat ≠ 33) : Word 3 [c] 0 := fun _ hn => Or.inr (Or.inr (Or.inr (Or.inl ⟨rfl, rfl, c, rfl, h, h33, fun e => (hn 61 e).2 rfl⟩)))
theorem word_two {c : UInt8} (h : isCmp c = true) : Word 3 [c, 61] 0 := fun _ _ => Or.inr (Or.inr (Or.inr (Or.inr ⟨rfl, rfl, c, rfl, h⟩)))
theorem nx_blank (l : List UInt8) : Nx (32 :: l) := by
  intro c hc
  simp only [List.head?_cons, Option.some.injEq] at hc
  subst hc; decide
theorem Mid.word {k v : Nat} {T : List UInt8} (h : Word k T v) : Mid (wordT T) [(k, T, v)] := by
  intro a rest us er hl hn
  refine ⟨?_, nx_blank _⟩
  exact lx_tok (g := [32]) rfl (h rest hn) hl
/-- A symbol that follows directly. -/
theorem Mid.sym {c : UInt8} (h : isSym c = true) (h61 : c ≠ 61) : Mid [c] [(3, [c], 0)] := by
  intro a rest us er hl hn
  refine ⟨lx_tok (g := []) rfl (word_sym h rest hn) hl, ?_⟩
  intro d hd
  simp only [List.cons_append, List.nil_append, List.head?_cons, Option.some.injEq] at hd
  subst hd
  exact ⟨(sym_not c h).2.2.2.2.2, h61⟩
/-- A word that follows a symbol directly. -/
theorem Mid.behind {c : UInt8} {k v : Nat} {T : List UInt8} (h : isSym c = true) (h61 : c ≠ 61) (hw : Word k T v) : Mid (c :: T) [(3, [c], 0), (k, T, v)] := by
  intro a rest us er hl hn
  obtain ⟨ts, h1, h2⟩ := lx_tok (a := a + 1) (g := []) rfl (hw rest hn) (by simp only [List.nil_append]; rw [show a + 1 + T.length = a + (c :: T).length by rw [List.length_cons]; omega]; exact hl)
  obtain ⟨ts', h3, h4⟩ := lx_tok (a := a) (g := []) (T := [c]) (k := 3) (v := 0) (rest := T ++ rest) rfl (Or.inr (Or.inr (Or.inl ⟨rfl, rfl, c, rfl, h⟩))) (by simpa using h1)
  refine ⟨⟨ts' ++ ts, by simpa using h3, by rw [sans_append, h4, h2]; rfl⟩, ?_⟩
  intro d hd
  simp only [List.cons_append, List.head?_cons, Option.some.injEq] at hd
  subst hd
  exact ⟨(sym_not c h).2.2.2.2.2, h61⟩
theorem gm_tabs : ∀ n, gm false (tabs n) = some false
  | 0 => rfl
  | n + 1 => by
    show gm false (9 :: tabs n) = _
    rw [gm, if_pos (by decide)]
    exact gm_tabs n
theorem nx_lf (l : List UInt8) : Nx (10 :: l) := by
  intro c hc
  simp only [List.head?_cons, Option.some.injEq] at hc
  subst hc; decide
/-- A line. -/
theorem Lns.line {n k v : Nat} {T m : List UInt8} {e : Sk} (hT : Word k T v) (hm : Mid m e) : Lns (tabs n ++ T ++ m ++ [10]) ((k, T, v) :: e) := by
  intro a rest us er hl
  have h0 : Lx (a + (tabs n ++ T).length + m.length) ([10] ++ rest) us er := lx_gap [10] rfl (by
    rw [show a + (tabs n ++ T).length + m.length + ([10] : List UInt8).length = a + (tabs n ++ T ++ m ++ [10]).length by simp only [List.length_append]; omega]; exact hl)
  obtain ⟨⟨ts, h1, h2⟩, h3⟩ := hm (a + (tabs n ++ T).length) ([10] ++ rest) us er h0 (nx_lf _)
  obtain ⟨ts', h4, h5⟩ := lx_tok (gm_tabs n) (hT _ h3) h1
  refine ⟨ts' ++ ts, ?_, by rw [sans_append, h5, h2]; rfl⟩
  simpa only [List.append_assoc] using h4
/-- What lines there are, there are as tokens of a text. -/
theorem Lns.text {t : List UInt8} {e : Sk} (h : Lns t e) : ∃ ts, Lx 0 t ts none ∧ sans ts = e := by
  obtain ⟨ts, h1, h2⟩ := h 0 [] [] none (Lx.nil _ _ rfl)
  exact ⟨ts, by simpa using h1, h2⟩

/-! ### The tokens of halls -/
def nm (w : List UInt8) : Nat × List UInt8 × Nat := (1, w, 0)
def nu (n : Int) : Nat × List UInt8 × Nat := (2, itoa n, n.toNat)
def sy (c : UInt8) : Nat × List UInt8 × Nat := (3, [c], 0)
theorem Mid.name {T : List UInt8} (h : nameOk T = true) : Mid (wordT T) [nm T] := Mid.word (word_name h)
theorem Mid.nums : ∀ {l : List Int}, l.all numOk = true → Mid (numsT l) (l.map nu) := fun {l} h => by
  have := Mid.flat (t := fun k => 32 :: itoa k) (e := fun k => [nu k]) l fun k hk => Mid.word (word_num (List.all_eq_true.1 h k hk))
  exact this.cast rfl (by simp [List.map_eq_flatMap])
theorem Mid.semi : Mid [59] [sy 59] := Mid.sym (by decide) (by decide)
theorem Mid.open : Mid [32, 123] [sy 123] := Mid.word (word_sym (by decide))
theorem Lns.close (n : Nat) : Lns (tabs n ++ [125, 10]) [sy 125] := (Lns.line (n := n) (T := [125]) (m := []) (word_sym (by decide)) Mid.nil).cast (by simp) rfl
def boxE (b : BoxZ) : Sk := [nu b.x, nu b.y, nu b.x2, nu b.y2]
def markE (m : MarkZ) : Sk := nm (markWords.getD m.kind.toNat []) :: nu m.seat :: (if m.kind ≠ 4 then [] else [nm wOf, nu m.other])
theorem mark_mid {m : MarkZ} (h : markOk m = true) : Mid (markT m) (markE m) := by
  unfold markOk at h
  rw [Bool.and_eq_true, Bool.and_eq_true] at h
  obtain ⟨⟨hk, hs⟩, ho⟩ := h
  have hw : nameOk (markWords.getD m.kind.toNat []) = true := by
    unfold kindOk at hk
    simp only [Bool.and_eq_true, decide_eq_true_eq] at hk
    have : m.kind.toNat < 5 ∧ 0 < m.kind.toNat := by omega
    revert this
    generalize m.kind.toNat = i
    revert i
    intro i hi
    have := (by decide : ∀ i, i < 5 → 0 < i → nameOk (markWords.getD i []) = true)
    exact this i hi.1 hi.2
  have h1 := (Mid.name hw).app (Mid.nums (l := [m.seat]) (by simp [hs]))
  unfold markT markE
  by_cases h4 : m.kind ≠ 4
  · rw [if_pos h4, if_pos h4]
    exact (h1.app Mid.nil).cast rfl (by simp)
  · rw [if_neg h4, if_neg h4]
    rw [if_neg h4] at ho
    exact (h1.app ((Mid.name (T := wOf) (by decide)).app (Mid.nums (l := [m.other]) (by simp [ho])))).cast rfl (by simp)
def rowE (r : RowZ) : Sk :=
  [nm wRow, nm r.name, nm wAt, nu r.x, nu r.y, nm wSeats, nu r.first, nm wTo, nu r.last, nm wStep, nu r.step] ++ r.marks.flatMap markE ++ [sy 59]
theorem all_of {α : Type} {p : α → Bool} {l : List α} (h : l.all p = true) : ∀ x ∈ l, p x = true := List.all_eq_true.1 h
theorem row_lns {r : RowZ} (n : Nat) (h : rowOk r = true) : Lns (rowT n r) (rowE r) := by
  unfold rowOk at h
  simp only [Bool.and_eq_true] at h
  obtain ⟨⟨⟨⟨⟨⟨h1, h2⟩, h3⟩, h4⟩, h5⟩, h6⟩, h7⟩ := h
  have hm := ((((((((((Mid.name h1).app (Mid.name (T := wAt) (by decide))).app (Mid.nums (l := [r.x, r.y]) (by simp [h2, h3]))).app (Mid.name (T := wSeats) (by decide))).app (Mid.nums (l := [r.first]) (by simp [h4]))).app
    (Mid.name (T := wTo) (by decide))).app (Mid.nums (l := [r.last]) (by simp [h5]))).app (Mid.name (T := wStep) (by decide))).app (Mid.nums (l := [r.step]) (by simp [h6]))).app (Mid.flat r.marks fun m hm => mark_mid (all_of h7 m hm))).app Mid.semi
  exact (Lns.line (n := n) (word_name (T := wRow) (by decide)) hm).cast (by simp only [rowT, List.append_assoc, List.cons_append, List.nil_append]) (by simp [rowE, nm])
def blockE (b : BlockZ) : Sk := [nm wBlock, nm b.name, sy 123] ++ b.rows.flatMap rowE ++ [sy 125]
theorem block_lns {b : BlockZ} (n : Nat) (h : blockOk b = true) : Lns (blockT n b) (blockE b) := by
  unfold blockOk at h
  simp only [Bool.and_eq_true] at h
  have h0 := Lns.line (n := n) (word_name (T := wBlock) (by decide)) ((Mid.name h.1).app Mid.open)
  exact ((h0.app (Lns.flat b.rows fun r hr => row_lns (n + 1) (all_of h.2 r hr))).app (Lns.close n)).cast (by simp only [blockT, List.append_assoc, List.cons_append, List.nil_append]) (by simp [blockE, nm])
def areaE (a : AreaZ) : Sk := [nm wArea, nm a.name] ++ boxE a.box ++ [nm wHolds, nu a.holds, sy 59]
theorem box_mid {b : BoxZ} (h : boxOk b = true) : Mid (boxT b) (boxE b) := (Mid.nums h).cast rfl rfl
theorem area_lns {a : AreaZ} (n : Nat) (h : areaOk a = true) : Lns (areaT n a) (areaE a) := by
  unfold areaOk at h
  simp only [Bool.and_eq_true] at h
  have hm := ((((Mid.name h.1.1).app (box_mid h.1.2)).app (Mid.name (T := wHolds) (by decide))).app (Mid.nums (l := [a.holds]) (by simp [h.2]))).app Mid.semi
  exact (Lns.line (n := n) (word_name (T := wArea) (by decide)) hm).cast (by simp only [areaT, List.append_assoc, List.cons_append, List.nil_append]) (by simp [areaE, nm])
def thingE (w : List UInt8) (b : BoxZ) : Sk := [nm w] ++ boxE b ++ [sy 59]
theorem thing_lns {b : BoxZ} {w : List UInt8} (hw : nameOk w = true) (n : Nat) (h : boxOk b = true) : Lns (thingT w n b) (thingE w b) :=
  (Lns.line (n := n) (word_name hw) ((box_mid h).app Mid.semi)).cast (by simp only [thingT, List.append_assoc, List.cons_append, List.nil_append]) (by simp [thingE, nm])
def doorE (p : PointZ) : Sk := [nm wDoor, nu p.x, nu p.y, sy 59]
theorem door_lns {p : PointZ} (n : Nat) (h : doorOk p = true) : Lns (doorT n p) (doorE p) := by
  unfold doorOk at h
  simp only [Bool.and_eq_true] at h
  exact (Lns.line (n := n) (word_name (T := wDoor) (by decide)) ((Mid.nums (l := [p.x, p.y]) (by simp [h.1, h.2])).app Mid.semi)).cast (by simp only [doorT, List.append_assoc, List.cons_append, List.nil_append]) (by simp [doorE, nm])
def itemsE (l : LevelZ) : Sk := l.blocks.flatMap blockE ++ l.areas.flatMap areaE ++ l.aisles.flatMap (thingE wAisle) ++ l.pillars.flatMap (thingE wPillar) ++ l.doors.flatMap doorE
def levelE (l : LevelZ) : Sk := [nm wLevel, nm l.name, nm wHeight, nu l.height, sy 123] ++ itemsE l ++ [sy 125]
theorem level_lns {l : LevelZ} (n : Nat) (h : levelOk l = true) : Lns (levelT n l) (levelE l) := by
  unfold levelOk at h
  simp only [Bool.and_eq_true] at h
  obtain ⟨⟨⟨⟨⟨⟨h1, h2⟩, h3⟩, h4⟩, h5⟩, h6⟩, h7⟩ := h
  have h0 := Lns.line (n := n) (word_name (T := wLevel) (by decide)) ((((Mid.name h1).app (Mid.name (T := wHeight) (by decide))).app (Mid.nums (l := [l.height]) (by simp [h2]))).app Mid.open)
  have hi : Lns (itemsT (n + 1) l) (itemsE l) := ((((Lns.flat l.blocks fun b hb => block_lns (n + 1) (all_of h3 b hb)).app (Lns.flat l.areas fun b hb => area_lns (n + 1) (all_of h4 b hb))).app
    (Lns.flat l.aisles fun b hb => thing_lns (w := wAisle) (by decide) (n + 1) (all_of h5 b hb))).app (Lns.flat l.pillars fun b hb => thing_lns (w := wPillar) (by decide) (n + 1) (all_of h6 b hb))).app
    (Lns.flat l.doors fun b hb => door_lns (n + 1) (all_of h7 b hb))
  exact ((h0.app hi).app (Lns.close n)).cast (by simp only [levelT, List.append_assoc, List.cons_append, List.nil_append]) (by simp [levelE, nm])
def hallE (h : HallZ) : Sk := [nm wHall, nm h.name, nm wStage, nu h.stage.x, nu h.stage.y, sy 123] ++ h.levels.flatMap levelE ++ [sy 125]
theorem hall_lns {h : HallZ} (hh : hallOk h = true) : Lns (hallT h) (hallE h) := by
  unfold hallOk at hh
  simp only [Bool.and_eq_true] at hh
  obtain ⟨⟨⟨h1, h2⟩, h3⟩, h4⟩ := hh
  have h0 := Lns.line (n := 0) (word_name (T := wHall) (by decide)) ((((Mid.name h1).app (Mid.name (T := wStage) (by decide))).app (Mid.nums (l := [h.stage.x, h.stage.y]) (by simp [h2, h3]))).app Mid.open)
  exact ((h0.app (Lns.flat h.levels fun b hb => level_lns 1 (all_of h4 b hb))).app (Lns.close 0)).cast (by simp only [hallT, tabs, List.replicate_zero, List.append_assoc, List.cons_append, List.nil_append]) (by simp [hallE, nm])

/-! ### The tokens of rules -/
def ratioE (r : RatioZ) : Sk := [nu r.num, sy 47, nu r.den]
theorem ratio_mid {r : RatioZ} (h : ratioOk r = true) : Mid (ratioT r) (ratioE r) := by
  unfold ratioOk at h
  rw [Bool.and_eq_true] at h
  exact ((Mid.word (word_num h.1)).app (Mid.behind (c := 47) (by decide) (by decide) (word_num h.2))).cast (by simp [ratioT, wordT]) rfl
def ratioIfE (w : List UInt8) (r : RatioZ) : Sk := if r = ⟨0, 1⟩ then [] else nm w :: ratioE r
theorem ratioIf_mid {r : RatioZ} {w : List UInt8} (hw : nameOk w = true) (h : ratioOk r = true) : Mid (ratioIfT w r) (ratioIfE w r) := by
  unfold ratioIfT ratioIfE
  by_cases h1 : r = ⟨0, 1⟩
  · rw [if_pos h1, if_pos h1]; exact Mid.nil
  · rw [if_neg h1, if_neg h1]; exact (Mid.name hw).app (ratio_mid h)
/-- A name, or two with a point between. -/
def namesE (l : List UInt8) : Sk := match atPoint l with | none => [nm l] | some p => [nm p.1, sy 46, nm p.2]
theorem atPoint_some : ∀ {l : List UInt8} {p : List UInt8 × List UInt8}, atPoint l = some p → l = p.1 ++ 46 :: p.2
  | [], p, h => by cases h
  | c :: r, p, h => by
    unfold atPoint at h
    split at h
    · rename_i hc; cases h; subst hc; rfl
    · cases hr : atPoint r with
      | none => rw [hr] at h; cases h
      | some q => rw [hr] at h; cases h; rw [List.cons_append, ← atPoint_some hr]
theorem joined_parts (l : List UInt8) : joined (partsOf l) = l := by
  unfold partsOf
  cases h : atPoint l with
  | none => rfl
  | some p => exact (atPoint_some h).symm
theorem names_mid {l : List UInt8} (h : (partsOf l).all nameOk = true) : Mid (wordT (joined (partsOf l))) (namesE l) := by
  rw [joined_parts]
  unfold partsOf at h
  unfold namesE
  cases hp : atPoint l with
  | none => rw [hp] at h; exact Mid.name (by simpa using h)
  | some p =>
    rw [hp] at h
    simp only [List.all_cons, List.all_nil, Bool.and_true, Bool.and_eq_true] at h
    have := (Mid.name h.1).app (Mid.behind (c := 46) (by decide) (by decide) (word_name h.2))
    refine this.cast ?_ rfl
    rw [atPoint_some hp]; rfl
def opE (k : Int) : Nat × List UInt8 × Nat := (3, opWords.getD k.toNat [], 0)
def testE (t : TestZ) : Sk := [nm t.attr, opE t.op] ++ (if t.name = [] then [nu t.n] else namesE t.name)
theorem test_mid {t : TestZ} (h : testOk t = true) : Mid (testT t) (testE t) := by
  unfold testOk at h
  rw [Bool.and_eq_true, Bool.and_eq_true] at h
  obtain ⟨⟨h1, h2⟩, h3⟩ := h
  have ho : Word 3 (opWords.getD t.op.toNat []) 0 := by
    unfold kindOk at h2
    simp only [Bool.and_eq_true, decide_eq_true_eq] at h2
    have h7 : t.op.toNat < 7 ∧ 0 < t.op.toNat := by omega
    obtain ⟨i, hi⟩ : ∃ i, t.op.toNat = i := ⟨_, rfl⟩
    rw [hi] at h7 ⊢
    have : i = 1 ∨ i = 2 ∨ i = 3 ∨ i = 4 ∨ i = 5 ∨ i = 6 := by omega
    rcases this with rfl | rfl | rfl | rfl | rfl | rfl
    · exact word_sym (by decide)
    · exact word_two (by decide)
    · exact word_cmp (by decide) (by decide)
    · exact word_two (by decide)
    · exact word_cmp (by decide) (by decide)
    · exact word_two (by decide)
  have h12 := (Mid.name h1).app (Mid.word ho)
  unfold testT testE
  by_cases hn : t.name = []
  · rw [if_pos hn] at h3
    rw [if_pos hn, if_pos hn]
    exact (h12.app (Mid.nums (l := [t.n]) (by simp [h3]))).cast rfl (by simp [opE])
  · rw [if_neg hn] at h3
    rw [if_neg hn, if_neg hn]
    rw [Bool.and_eq_true] at h3
    exact (h12.app (names_mid h3.2)).cast rfl (by simp [opE])
def restE (l : List TestZ) : Sk := l.flatMap fun t => nm wAnd :: testE t
def testsE : List TestZ → Sk
  | [] => []
  | t :: r => testE t ++ restE r
theorem tests_mid {l : List TestZ} (h : testsOk l = true) : Mid (testsT l) (testsE l) := by
  unfold testsOk at h
  rw [Bool.and_eq_true] at h
  have ha := all_of h.2
  cases l with
  | nil => exact Mid.nil
  | cons t r =>
    refine (test_mid (ha t List.mem_cons_self)).app ?_
    exact Mid.flat r fun u hu => ((Mid.name (T := wAnd) (by decide)).app (test_mid (ha u (List.mem_cons_of_mem _ hu)))).cast rfl rfl
def altsE : List UInt8 → List (List TestZ) → Sk
  | _, [] => []
  | w, l :: r => nm w :: testsE l ++ altsE wOr r
theorem alts_mid : ∀ {c : List (List TestZ)} {w : List UInt8}, nameOk w = true → c.all testsOk = true → Mid (altsT w c) (altsE w c)
  | [], _, _, _ => Mid.nil
  | l :: r, w, hw, h => by
    rw [List.all_cons, Bool.and_eq_true] at h
    exact (((Mid.name hw).app (tests_mid h.1)).app (alts_mid (w := wOr) (by decide) h.2)).cast rfl (by simp [altsE])
def termsE (x : ItemZ) : Sk :=
  if x.kind = 1 then (if x.n ≠ 0 then [nm wLimit, nu x.n] else [])
  else if x.kind = 3 then nu x.n :: ratioIfE wFee x.r ++ ratioIfE wTax x.s
  else if x.kind = 4 then nm wCap :: ratioE x.r ++ nm wShare :: ratioE x.s
  else if x.kind = 5 then ratioE x.r
  else []
theorem terms_mid {x : ItemZ} (h : termsOk x = true) : Mid (termsT x) (termsE x) := by
  unfold termsOk at h
  unfold termsT termsE
  by_cases h1 : x.kind = 1
  · rw [if_pos h1] at h
    rw [if_pos h1, if_pos h1]
    rw [Bool.and_eq_true] at h
    by_cases hn : x.n ≠ 0
    · rw [if_pos hn, if_pos hn]
      exact (Mid.name (T := wLimit) (by decide)).app (Mid.nums (l := [x.n]) (by simp [h.1]))
    · rw [if_neg hn, if_neg hn]; exact Mid.nil
  · rw [if_neg h1] at h
    rw [if_neg h1, if_neg h1]
    by_cases h3 : x.kind = 3
    · rw [if_pos h3] at h
      rw [if_pos h3, if_pos h3]
      rw [Bool.and_eq_true, Bool.and_eq_true] at h
      exact (((Mid.nums (l := [x.n]) (by simp [h.1.1])).app (ratioIf_mid (w := wFee) (by decide) h.1.2)).app (ratioIf_mid (w := wTax) (by decide) h.2)).cast rfl (by simp)
    · rw [if_neg h3] at h
      rw [if_neg h3, if_neg h3]
      by_cases h4 : x.kind = 4
      · rw [if_pos h4] at h
        rw [if_pos h4, if_pos h4]
        rw [Bool.and_eq_true, Bool.and_eq_true] at h
        exact ((((Mid.name (T := wCap) (by decide)).app (ratio_mid h.1.1)).app (Mid.name (T := wShare) (by decide))).app (ratio_mid h.1.2)).cast rfl (by simp)
      · rw [if_neg h4] at h
        rw [if_neg h4, if_neg h4]
        by_cases h5 : x.kind = 5
        · rw [if_pos h5] at h
          rw [if_pos h5, if_pos h5]
          rw [Bool.and_eq_true] at h
          exact ratio_mid h.1
        · rw [if_neg h5, if_neg h5]; exact Mid.nil
def itemE (x : ItemZ) : Sk := nm (itemWords.getD x.kind.toNat []) :: nm x.name :: (termsE x ++ altsE wWhen x.conds ++ [sy 59])
theorem item_lns {x : ItemZ} (h : itemOk x = true) : Lns (itemT x) (itemE x) := by
  unfold itemOk at h
  rw [Bool.and_eq_true, Bool.and_eq_true, Bool.and_eq_true] at h
  obtain ⟨⟨⟨h1, h2⟩, h3⟩, h4⟩ := h
  have hw : nameOk (itemWords.getD x.kind.toNat []) = true := by
    unfold kindOk at h1
    simp only [Bool.and_eq_true, decide_eq_true_eq] at h1
    exact (by decide : ∀ i, i < 8 → 0 < i → nameOk (itemWords.getD i []) = true) x.kind.toNat (by omega) (by omega)
  unfold whenOk at h4
  rw [Bool.and_eq_true] at h4
  exact (Lns.line (n := 0) (word_name hw) ((((Mid.name h2).app (terms_mid h3)).app (alts_mid (w := wWhen) (by decide) h4.2)).app Mid.semi)).cast (by simp [itemT, tabs]) (by simp [itemE, nm])
def rulesE (l : List ItemZ) : Sk := l.flatMap itemE
theorem rules_lns {l : List ItemZ} (h : rulesOk l = true) : Lns (rulesT l) (rulesE l) := by
  unfold rulesOk at h
  rw [Bool.and_eq_true] at h
  exact Lns.flat l fun x hx => item_lns (all_of h.2 x hx)

/-! ### Texts within the limits -/
theorem text_toks {t : List UInt8} {e : Sk} (h : Lns t e) : ((lexAll t).2.1 = 0 ∧ ∃ ts, lexAll t = (ts, 0, 0) ∧ sans ts = e ∧ ts.length ≤ 5000) ∨ (lexAll t).2.1 = 3 := by
  obtain ⟨ts, h1, h2⟩ := h.text
  by_cases hl : t.length ≤ 20000
  · by_cases h5 : ts.length ≤ 5000
    · rw [lexAll_done hl h1 h5]
      exact Or.inl ⟨rfl, ts, rfl, h2, h5⟩
    · right
      obtain ⟨pre, u, us, rfl, hp⟩ : ∃ pre u us, ts = pre ++ u :: us ∧ pre.length = 5000 := by
        have hd : ts.drop 5000 ≠ [] := by rw [ne_eq, List.drop_eq_nil_iff]; omega
        obtain ⟨u, us, hu⟩ := List.exists_cons_of_ne_nil hd
        exact ⟨ts.take 5000, u, us, by rw [← hu, List.take_append_drop], by rw [List.length_take]; omega⟩
      rw [lexAll_many hl h1 hp]
  · rw [lexAll_long (by omega)]; exact Or.inr rfl
end Foyer.Printer
