/-
  The canonical texts as lines: tabs as braces are open, no two blanks together, none at an end.
  The walk of lines, for texts that are lines.
  The law PrinterLines: its walk.
-/
import Derived.Test.YtilfpnkcgjonhaaGreatDoorMathToks
import Derived.Test.YtilfpnkcgjonhaaGreatDoorReads
import Derived.Test.YtilfpnkcgjonhaaGreatDoorArgs
import Derived.Test.YtilfpnkcgjonhaaGreatDoorHead8
import Derived.Test.YtilfpnkcgjonhaaGreatDoorWalkPrintH
import Derived.Test.YtilfpnkcgjonhaaGreatDoorWalkPrintR
namespace Foyer.Printer.Tx
open Foyer.Lexer Go.Lib
set_option linter.unusedSimpArgs false

/-- Whether no two blanks follow each other, no tab and no line feed is there; whether a blank was last. -/
def sc : Bool → List UInt8 → Option Bool
  | s, [] => some s
  | s, c :: r => if c = 9 ∨ c = 10 then none else if c = 32 then (if s then none else sc true r) else sc false r
theorem sc_app : ∀ (t : List UInt8) (s : Bool) (t' : List UInt8), sc s (t ++ t') = (sc s t).bind fun x => sc x t'
  | [], _, _ => rfl
  | c :: r, s, t' => by
    rw [List.cons_append]
    simp only [sc]
    split
    · rfl
    · split
      · split
        · rfl
        · exact sc_app r true t'
      · exact sc_app r false t'
def Mid (t : List UInt8) (_ : Sk) : Prop := sc false t = some false
theorem Mid.nil : Mid [] [] := rfl
theorem Mid.app {t t' : List UInt8} {e e' : Sk} (h : Mid t e) (h' : Mid t' e') : Mid (t ++ t') (e ++ e') := by
  unfold Mid at *
  rw [sc_app, h]; exact h'
theorem Mid.flat {α : Type} {t : α → List UInt8} {e : α → Sk} : ∀ (l : List α), (∀ x ∈ l, Mid (t x) (e x)) → Mid (l.flatMap t) (l.flatMap e)
  | [], _ => Mid.nil
  | x :: r, h => by
    rw [List.flatMap_cons, List.flatMap_cons]
    exact (h x List.mem_cons_self).app (Mid.flat r fun y hy => h y (List.mem_cons_of_mem _ hy))
theorem Mid.cast {t t' : List UInt8} {e e' : Sk} (h : Mid t e) (ht : t = t') (he : e = e') : Mid t' e' := by subst ht he; exact h
def Word (_ : Nat) (T : List UInt8) (_ : Nat) : Prop := ∀ s, sc s T = some false
def plainB (c : UInt8) : Bool := c != 9 && c != 10 && c != 32
theorem sc_plain : ∀ {T : List UInt8}, (∀ c ∈ T, plainB c = true) → T ≠ [] → ∀ s, sc s T = some false
  | [], _, h, _ => absurd rfl h
  | c :: r, h, _, s => by
    have hc := h c List.mem_cons_self
    unfold plainB at hc
    simp only [Bool.and_eq_true, bne_iff_ne] at hc
    unfold sc
    rw [if_neg (by rintro (e | e); exact hc.1.1 e; exact hc.1.2 e), if_neg hc.2]
    cases r with
    | nil => rfl
    | cons d q => exact sc_plain (fun x hx => h x (List.mem_cons_of_mem _ hx)) (by simp) false
theorem plain_word : ∀ b : UInt8, isWord b = true → plainB b = true := all_bytes (by decide +kernel)
theorem plain_digit : ∀ b : UInt8, isDigit b = true → plainB b = true := all_bytes (by decide +kernel)
theorem plain_sym : ∀ b : UInt8, isSym b = true → plainB b = true := all_bytes (by decide +kernel)
theorem plain_cmp : ∀ b : UInt8, isCmp b = true → plainB b = true := all_bytes (by decide +kernel)
theorem word_name {T : List UInt8} (h : nameOk T = true) : Word 1 T 0 := by
  obtain ⟨h1, h2⟩ := nameOk_last h
  exact sc_plain (fun c hc => plain_word c (h2 c hc)) h1
theorem word_num {n : Int} (h : numOk n = true) : Word 2 (itoa n) n.toNat := by
  obtain ⟨h1, h2, h3⟩ := itoa_ok h
  obtain ⟨hd, _⟩ := decDigits_digits (n.toNat + 1) n.toNat (by omega)
  rw [h1]
  refine sc_plain (fun c hc => plain_digit c (hd c hc)) ?_
  have hl : 1 ≤ (decDigits n.toNat).length := by rw [decDigits_length]; exact nDigits_pos _
  intro e; rw [e] at hl; simp at hl
theorem word_sym {c : UInt8} (h : isSym c = true) : Word 3 [c] 0 := sc_plain (fun d hd => by rw [List.mem_singleton] at hd; subst hd; exact plain_sym _ h) (by simp)
theorem word_cmp {c : UInt8} (h : isCmp c = true) (_ : c.toNat ≠ 33) : Word 3 [c] 0 := sc_plain (fun d hd => by rw [List.mem_singleton] at hd; subst hd; exact plain_cmp _ h) (by simp)
theorem word_two {c : UInt8} (h : isCmp c = true) : Word 3 [c, 61] 0 := sc_plain (fun d hd => by
  simp only [List.mem_cons, List.not_mem_nil, or_false] at hd
  rcases hd with rfl | rfl
  · exact plain_cmp _ h
  · decide) (by simp)
theorem Mid.word {k v : Nat} {T : List UInt8} (h : Word k T v) : Mid (wordT T) [(k, T, v)] := by
  show sc false (32 :: T) = some false
  unfold sc
  rw [if_neg (by decide), if_pos rfl]
  exact h true
theorem Mid.sym {c : UInt8} (h : isSym c = true) (_ : c ≠ 61) : Mid [c] [(3, [c], 0)] := word_sym h false
theorem Mid.behind {c : UInt8} {k v : Nat} {T : List UInt8} (h : isSym c = true) (_ : c ≠ 61) (hw : Word k T v) : Mid (c :: T) [(3, [c], 0), (k, T, v)] := by
  show sc false ([c] ++ T) = some false
  rw [sc_app, word_sym h false]
  exact hw false
theorem Mid.name {T : List UInt8} (h : nameOk T = true) : Mid (wordT T) [nm T] := Mid.word (word_name h)
theorem Mid.nums : ∀ {l : List Int}, l.all numOk = true → Mid (numsT l) (l.map nu) := fun {l} h => by
  have := Mid.flat (t := fun k => 32 :: itoa k) (e := fun k => [nu k]) l fun k hk => Mid.word (word_num (List.all_eq_true.1 h k hk))
  exact this.cast rfl (by simp [List.map_eq_flatMap])
theorem mark_mid {m : MarkZ} (h : markOk m = true) : Mid (markT m) (markE m) := by
  unfold markOk at h
  rw [Bool.and_eq_true, Bool.and_eq_true] at h
  obtain ⟨⟨hk, hs⟩, ho⟩ := h
  have hw : nameOk (markWords.getD m.kind.toNat []) = true := by
    unfold kindOk at hk
    simp only [Bool.and_eq_true, decide_eq_true_eq] at hk
    have : m.kind.toNat < 5 ∧ 0 < m.kind.toNat := by omega
    revert this
    generalize m.kind.toNat = i
    revert i
    intro i hi
    have := (by decide : ∀ i, i < 5 → 0 < i → nameOk (markWords.getD i []) = true)
    exact this i hi.1 hi.2
  have h1 := (Mid.name hw).app (Mid.nums (l := [m.seat]) (by simp [hs]))
  unfold markT markE
  by_cases h4 : m.kind ≠ 4
  · rw [if_pos h4, if_pos h4]
    exact (h1.app Mid.nil).cast rfl (by simp)
  · rw [if_neg h4, if_neg h4]
    rw [if_neg h4] at ho
    exact (h1.app ((Mid.name (T := wOf) (by decide)).app (Mid.nums (l := [m.other]) (by simp [ho])))).cast rfl (by simp)
theorem box_mid {b : BoxZ} (h : boxOk b = true) : Mid (boxT b) (boxE b) := (Mid.nums h).cast rfl rfl
theorem ratio_mid {r : RatioZ} (h : ratioOk r = true) : Mid (ratioT r) (ratioE r) := by
  unfold ratioOk at h
  rw [Bool.and_eq_true] at h
  exact ((Mid.word (word_num h.1)).app (Mid.behind (c := 47) (by decide) (by decide) (word_num h.2))).cast (by simp [ratioT, wordT]) rfl
theorem ratioIf_mid {r : RatioZ} {w : List UInt8} (hw : nameOk w = true) (h : ratioOk r = true) : Mid (ratioIfT w r) (ratioIfE w r) := by
  unfold ratioIfT ratioIfE
  by_cases h1 : r = ⟨0, 1⟩
  · rw [if_pos h1, if_pos h1]; exact Mid.nil
  · rw [if_neg h1, if_neg h1]; exact (Mid.name hw).app (ratio_mid h)
theorem names_mid {l : List UInt8} (h : (partsOf l).all nameOk = true) : Mid (wordT (joined (partsOf l))) (namesE l) := by
  rw [joined_parts]
  unfold partsOf at h
  unfold namesE
  cases hp : atPoint l with
  | none => rw [hp] at h; exact Mid.name (by simpa using h)
  | some p =>
    rw [hp] at h
    simp only [List.all_cons, List.all_nil, Bool.and_true, Bool.and_eq_true] at h
    have := (Mid.name h.1).app (Mid.behind (c := 46) (by decide) (by decide) (word_name h.2))
    refine this.cast ?_ rfl
    rw [atPoint_some hp]; rfl
theorem test_mid {t : TestZ} (h : testOk t = true) : Mid (testT t) (testE t) := by
  unfold testOk at h
  rw [Bool.and_eq_true, Bool.and_eq_true] at h
  obtain ⟨⟨h1, h2⟩, h3⟩ := h
  have ho : Word 3 (opWords.getD t.op.toNat []) 0 := by
    unfold kindOk at h2
    simp only [Bool.and_eq_true, decide_eq_true_eq] at h2
    have h7 : t.op.toNat < 7 ∧ 0 < t.op.toNat := by omega
    obtain ⟨i, hi⟩ : ∃ i, t.op.toNat = i := ⟨_, rfl⟩
    rw [hi] at h7 ⊢
    have : i = 1 ∨ i = 2 ∨ i = 3 ∨ i = 4 ∨ i = 5 ∨ i = 6 := by omega
    rcases this with rfl | rfl | rfl | rfl | rfl | rfl
    · exact word_sym (by decide)
    · exact word_two (by decide)
    · exact word_cmp (by decide) (by decide)
    · exact word_two (by decide)
    · exact word_cmp (by decide) (by decide)
    · exact word_two (by decide)
  have h12 := (Mid.name h1).app (Mid.word ho)
  unfold testT testE
  by_cases hn : t.name = []
  · rw [if_pos hn] at h3
    rw [if_pos hn, if_pos hn]
    exact (h12.app (Mid.nums (l := [t.n]) (by simp [h3]))).cast rfl (by simp [opE])
  · rw [if_neg hn] at h3
    rw [if_neg hn, if_neg hn]
    rw [Bool.and_eq_true] at h3
    exact (h12.app (names_mid h3.2)).cast rfl (by simp [opE])
theorem tests_mid {l : List TestZ} (h : testsOk l = true) : Mid (testsT l) (testsE l) := by
  unfold testsOk at h
  rw [Bool.and_eq_true] at h
  have ha := all_of h.2
  cases l with
  | nil => exact Mid.nil
  | cons t r =>
    refine (test_mid (ha t List.mem_cons_self)).app ?_
    exact Mid.flat r fun u hu => ((Mid.name (T := wAnd) (by decide)).app (test_mid (ha u (List.mem_cons_of_mem _ hu)))).cast rfl rfl
theorem alts_mid : ∀ {c : List (List TestZ)} {w : List UInt8}, nameOk w = true → c.all testsOk = true → Mid (altsT w c) (altsE w c)
  | [], _, _, _ => Mid.nil
  | l :: r, w, hw, h => by
    rw [List.all_cons, Bool.and_eq_true] at h
    exact (((Mid.name hw).app (tests_mid h.1)).app (alts_mid (w := wOr) (by decide) h.2)).cast rfl (by simp [altsE])
theorem terms_mid {x : ItemZ} (h : termsOk x = true) : Mid (termsT x) (termsE x) := by
  unfold termsOk at h
  unfold termsT termsE
  by_cases h1 : x.kind = 1
  · rw [if_pos h1] at h
    rw [if_pos h1, if_pos h1]
    rw [Bool.and_eq_true] at h
    by_cases hn : x.n ≠ 0
    · rw [if_pos hn, if_pos hn]
      exact (Mid.name (T := wLimit) (by decide)).app (Mid.nums (l := [x.n]) (by simp [h.1]))
    · rw [if_neg hn, if_neg hn]; exact Mid.nil
  · rw [if_neg h1] at h
    rw [if_neg h1, if_neg h1]
    by_cases h3 : x.kind = 3
    · rw [if_pos h3] at h
      rw [if_pos h3, if_pos h3]
      rw [Bool.and_eq_true, Bool.and_eq_true] at h
      exact (((Mid.nums (l := [x.n]) (by simp [h.1.1])).app (ratioIf_mid (w := wFee) (by decide) h.1.2)).app (ratioIf_mid (w := wTax) (by decide) h.2)).cast rfl (by simp)
    · rw [if_neg h3] at h
      rw [if_neg h3, if_neg h3]
      by_cases h4 : x.kind = 4
      · rw [if_pos h4] at h
        rw [if_pos h4, if_pos h4]
        rw [Bool.and_eq_true, Bool.and_eq_true] at h
        exact ((((Mid.name (T := wCap) (by decide)).app (ratio_mid h.1.1)).app (Mid.name (T := wShare) (by decide))).app (ratio_mid h.1.2)).cast rfl (by simp)
      · rw [if_neg h4] at h
        rw [if_neg h4, if_neg h4]
        by_cases h5 : x.kind = 5
        · rw [if_pos h5] at h
          rw [if_pos h5, if_pos h5]
          rw [Bool.and_eq_true] at h
          exact ratio_mid h.1
        · rw [if_neg h5, if_neg h5]; exact Mid.nil

/-! ### Lines -/
structure Body (b : List UInt8) : Prop where
  ne : b ≠ []
  no : ∀ c ∈ b, c ≠ 9 ∧ c ≠ 10
  head : b.head? ≠ some 32
  last : b.getLast? ≠ some 32
  dbl : ∀ m : Nat, b[m]? = some 32 → b[m + 1]? ≠ some 32
theorem sc_facts : ∀ {b : List UInt8} {s e : Bool}, sc s b = some e → (∀ c ∈ b, c ≠ 9 ∧ c ≠ 10) ∧ (s = true → b.head? ≠ some 32) ∧ (∀ m : Nat, b[m]? = some 32 → b[m + 1]? ≠ some 32) ∧ (e = false → b.getLast? ≠ some 32)
  | [], s, e, h => ⟨by simp, by simp, by simp, by simp⟩
  | c :: r, s, e, h => by
    unfold sc at h
    split at h
    · cases h
    · rename_i hc
      split at h
      · rename_i h32
        split at h
        · cases h
        · rename_i hs
          obtain ⟨h1, h2, h3, h4⟩ := sc_facts h
          refine ⟨?_, ?_, ?_, ?_⟩
          · intro d hd
            rcases List.mem_cons.1 hd with rfl | hd
            · exact ⟨fun e => hc (Or.inl e), fun e => hc (Or.inr e)⟩
            · exact h1 d hd
          · intro e; exact absurd e hs
          · intro m hm
            cases m with
            | zero => rw [List.getElem?_cons_succ]; rw [← List.head?_eq_getElem?]; exact h2 rfl
            | succ m => rw [List.getElem?_cons_succ] at hm ⊢; exact h3 m hm
          · intro he
            subst he
            cases r with
            | nil => simp [sc] at h
            | cons d q => rw [List.getLast?_cons_cons]; exact h4 rfl
      · rename_i h32
        obtain ⟨h1, h2, h3, h4⟩ := sc_facts h
        refine ⟨?_, ?_, ?_, ?_⟩
        · intro d hd
          rcases List.mem_cons.1 hd with rfl | hd
          · exact ⟨fun e => hc (Or.inl e), fun e => hc (Or.inr e)⟩
          · exact h1 d hd
        · intro _ e; rw [List.head?_cons] at e; exact h32 (Option.some.inj e)
        · intro m hm
          cases m with
          | zero => rw [List.getElem?_cons_zero] at hm; exact absurd (Option.some.inj hm) h32
          | succ m => rw [List.getElem?_cons_succ] at hm ⊢; exact h3 m hm
        · intro he
          subst he
          cases r with
          | nil => rw [List.getLast?_singleton]; intro e; exact h32 (Option.some.inj e)
          | cons d q => rw [List.getLast?_cons_cons]; exact h4 rfl
theorem body_of {b : List UInt8} (h : sc true b = some false) : Body b :=
  let ⟨h1, h2, h3, h4⟩ := sc_facts h
  ⟨fun e => by subst e; simp [sc] at h, h1, h2 rfl, h4 rfl, h3⟩
/-- Lines, from so many open braces to so many. -/
inductive Ls : Nat → List UInt8 → Nat → Prop
  | nil (o : Nat) : Ls o [] o
  | cons (n : Nat) (b t : List UInt8) (o' : Nat) : Body b → Ls (n + if b.getLast? = some 123 then 1 else 0) t o' → Ls (n + if b.getLast? = some 125 then 1 else 0) (tabs n ++ b ++ 10 :: t) o'
theorem Ls.app {o o1 o2 : Nat} {t t' : List UInt8} (h : Ls o t o1) (h' : Ls o1 t' o2) : Ls o (t ++ t') o2 := by
  induction h with
  | nil => exact h'
  | cons n b t o' hb _ ih => rw [List.append_assoc, List.cons_append]; exact Ls.cons n b (t ++ t') o2 hb (ih h')
theorem Ls.flat {α : Type} {t : α → List UInt8} {o : Nat} : ∀ (l : List α), (∀ x ∈ l, Ls o (t x) o) → Ls o (l.flatMap t) o
  | [], _ => Ls.nil o
  | x :: r, h => by
    rw [List.flatMap_cons]
    exact (h x List.mem_cons_self).app (Ls.flat r fun y hy => h y (List.mem_cons_of_mem _ hy))
theorem Ls.cast {o o' : Nat} {t t' : List UInt8} (h : Ls o t o') (ht : t = t') : Ls o t' o' := by subst ht; exact h
theorem body_join {k v : Nat} {T m : List UInt8} {e : Sk} (hT : Word k T v) (hm : Mid m e) : Body (T ++ m) :=
  body_of (by rw [sc_app, hT true]; exact hm)
theorem Ls.semi {n k v : Nat} {T m : List UInt8} {e : Sk} (hT : Word k T v) (hm : Mid m e) : Ls n (tabs n ++ T ++ m ++ [59, 10]) n := by
  have hb : Body (T ++ (m ++ [59])) := body_join hT (hm.app (Mid.sym (c := 59) (by decide) (by decide)))
  have hl : (T ++ (m ++ [59])).getLast? = some 59 := by rw [← List.append_assoc, List.getLast?_append]; rfl
  have := Ls.cons n _ [] n hb (by rw [hl, if_neg (by decide)]; exact Ls.nil n)
  rw [hl, if_neg (by decide)] at this
  exact this.cast (by simp only [List.append_assoc, List.cons_append, List.nil_append])
theorem Ls.open {n k v : Nat} {T m : List UInt8} {e : Sk} (hT : Word k T v) (hm : Mid m e) : Ls n (tabs n ++ T ++ m ++ [32, 123, 10]) (n + 1) := by
  have hb : Body (T ++ (m ++ [32, 123])) := body_join hT (hm.app (e' := []) (rfl : sc false [32, 123] = some false))
  have hl : (T ++ (m ++ [32, 123])).getLast? = some 123 := by rw [← List.append_assoc, List.getLast?_append]; rfl
  have := Ls.cons n _ [] (n + 1) hb (by rw [hl, if_pos rfl]; exact Ls.nil _)
  rw [hl, if_neg (by decide)] at this
  exact this.cast (by simp only [List.append_assoc, List.cons_append, List.nil_append])
theorem Ls.close (n : Nat) : Ls (n + 1) (tabs n ++ [125, 10]) n := by
  have hb : Body [125] := body_of rfl
  have := Ls.cons n _ [] n hb (by exact Ls.nil n)
  exact this.cast (by simp only [List.append_assoc, List.cons_append, List.nil_append])
theorem row_ls {r : RowZ} (n : Nat) (h : rowOk r = true) : Ls n (rowT n r) n := by
  unfold rowOk at h
  simp only [Bool.and_eq_true] at h
  obtain ⟨⟨⟨⟨⟨⟨h1, h2⟩, h3⟩, h4⟩, h5⟩, h6⟩, h7⟩ := h
  have hm := (((((((((Mid.name h1).app (Mid.name (T := wAt) (by decide))).app (Mid.nums (l := [r.x, r.y]) (by simp [h2, h3]))).app (Mid.name (T := wSeats) (by decide))).app (Mid.nums (l := [r.first]) (by simp [h4]))).app
    (Mid.name (T := wTo) (by decide))).app (Mid.nums (l := [r.last]) (by simp [h5]))).app (Mid.name (T := wStep) (by decide))).app (Mid.nums (l := [r.step]) (by simp [h6]))).app (Mid.flat r.marks fun m hm => mark_mid (all_of h7 m hm))
  exact (Ls.semi (n := n) (word_name (T := wRow) (by decide)) hm).cast (by simp only [rowT, List.append_assoc, List.cons_append, List.nil_append])
theorem block_ls {b : BlockZ} (n : Nat) (h : blockOk b = true) : Ls n (blockT n b) n := by
  unfold blockOk at h
  simp only [Bool.and_eq_true] at h
  have h0 := Ls.open (n := n) (word_name (T := wBlock) (by decide)) (Mid.name h.1)
  exact ((h0.app (Ls.flat b.rows fun r hr => row_ls (n + 1) (all_of h.2 r hr))).app (Ls.close n)).cast (by simp only [blockT, List.append_assoc, List.cons_append, List.nil_append])
theorem area_ls {a : AreaZ} (n : Nat) (h : areaOk a = true) : Ls n (areaT n a) n := by
  unfold areaOk at h
  simp only [Bool.and_eq_true] at h
  have hm := (((Mid.name h.1.1).app (box_mid h.1.2)).app (Mid.name (T := wHolds) (by decide))).app (Mid.nums (l := [a.holds]) (by simp [h.2]))
  exact (Ls.semi (n := n) (word_name (T := wArea) (by decide)) hm).cast (by simp only [areaT, List.append_assoc, List.cons_append, List.nil_append])
theorem thing_ls {b : BoxZ} {w : List UInt8} (hw : nameOk w = true) (n : Nat) (h : boxOk b = true) : Ls n (thingT w n b) n :=
  (Ls.semi (n := n) (word_name hw) (box_mid h)).cast (by simp only [thingT, List.append_assoc, List.cons_append, List.nil_append])
theorem door_ls {p : PointZ} (n : Nat) (h : doorOk p = true) : Ls n (doorT n p) n := by
  unfold doorOk at h
  simp only [Bool.and_eq_true] at h
  exact (Ls.semi (n := n) (word_name (T := wDoor) (by decide)) (Mid.nums (l := [p.x, p.y]) (by simp [h.1, h.2]))).cast (by simp only [doorT, List.append_assoc, List.cons_append, List.nil_append])
theorem level_ls {l : LevelZ} (n : Nat) (h : levelOk l = true) : Ls n (levelT n l) n := by
  unfold levelOk at h
  simp only [Bool.and_eq_true] at h
  obtain ⟨⟨⟨⟨⟨⟨h1, h2⟩, h3⟩, h4⟩, h5⟩, h6⟩, h7⟩ := h
  have h0 := Ls.open (n := n) (word_name (T := wLevel) (by decide)) (((Mid.name h1).app (Mid.name (T := wHeight) (by decide))).app (Mid.nums (l := [l.height]) (by simp [h2])))
  have hi : Ls (n + 1) (itemsT (n + 1) l) (n + 1) := ((((Ls.flat l.blocks fun b hb => block_ls (n + 1) (all_of h3 b hb)).app (Ls.flat l.areas fun b hb => area_ls (n + 1) (all_of h4 b hb))).app
    (Ls.flat l.aisles fun b hb => thing_ls (w := wAisle) (by decide) (n + 1) (all_of h5 b hb))).app (Ls.flat l.pillars fun b hb => thing_ls (w := wPillar) (by decide) (n + 1) (all_of h6 b hb))).app
    (Ls.flat l.doors fun b hb => door_ls (n + 1) (all_of h7 b hb))
  exact ((h0.app hi).app (Ls.close n)).cast (by simp only [levelT, List.append_assoc, List.cons_append, List.nil_append])
theorem hall_ls {h : HallZ} (hh : hallOk h = true) : Ls 0 (hallT h) 0 := by
  unfold hallOk at hh
  simp only [Bool.and_eq_true] at hh
  obtain ⟨⟨⟨h1, h2⟩, h3⟩, h4⟩ := hh
  have h0 := Ls.open (n := 0) (word_name (T := wHall) (by decide)) (((Mid.name h1).app (Mid.name (T := wStage) (by decide))).app (Mid.nums (l := [h.stage.x, h.stage.y]) (by simp [h2, h3])))
  exact ((h0.app (Ls.flat h.levels fun b hb => level_ls 1 (all_of h4 b hb))).app (Ls.close 0)).cast (by simp only [hallT, tabs, List.replicate_zero, List.append_assoc, List.cons_append, List.nil_append])
theorem item_ls {x : ItemZ} (h : itemOk x = true) : Ls 0 (itemT x) 0 := by
  unfold itemOk at h
  rw [Bool.and_eq_true, Bool.and_eq_true, Bool.and_eq_true] at h
  obtain ⟨⟨⟨h1, h2⟩, h3⟩, h4⟩ := h
  have hw : nameOk (itemWords.getD x.kind.toNat []) = true := by
    unfold kindOk at h1
    simp only [Bool.and_eq_true, decide_eq_true_eq] at h1
    exact (by decide : ∀ i, i < 8 → 0 < i → nameOk (itemWords.getD i []) = true) x.kind.toNat (by omega) (by omega)
  unfold whenOk at h4
  rw [Bool.and_eq_true] at h4
  exact (Ls.semi (n := 0) (word_name hw) (((Mid.name h2).app (terms_mid h3)).app (alts_mid (w := wWhen) (by decide) h4.2))).cast (by simp [itemT, tabs])
theorem rules_ls {l : List ItemZ} (h : rulesOk l = true) : Ls 0 (rulesT l) 0 := by
  unfold rulesOk at h
  rw [Bool.and_eq_true] at h
  exact Ls.flat l fun x hx => item_ls (all_of h.2 x hx)
/-- What the printer gives is lines, and short. -/
theorem hall_lines (h : HallZ) : Ls 0 (hallAll h).1 0 ∧ (hallAll h).1.length ≤ 20000 := by
  rw [hallAll_eq]
  split
  · rename_i hh
    split
    · rename_i h0
      refine ⟨hall_ls hh, ?_⟩
      by_cases hl : (hallT h).length ≤ 20000
      · exact hl
      · rw [lexAll_long (by omega)] at h0; cases h0
    · exact ⟨Ls.nil 0, by simp⟩
  · exact ⟨Ls.nil 0, by simp⟩
theorem rules_lines (l : List ItemZ) : Ls 0 (rulesAll l).1 0 ∧ (rulesAll l).1.length ≤ 20000 := by
  rw [rulesAll_eq]
  split
  · rename_i hh
    split
    · rename_i h0
      refine ⟨rules_ls hh, ?_⟩
      by_cases hl : (rulesT l).length ≤ 20000
      · exact hl
      · rw [lexAll_long (by omega)] at h0; cases h0
    · exact ⟨Ls.nil 0, by simp⟩
  · exact ⟨Ls.nil 0, by simp⟩
end Foyer.Printer.Tx
namespace Go.Proofs.YtilfpnkcgjonhaaGreatDoor.Pr
open Go.RowKit Go.Sort Foyer.Printer Foyer.Lexer

theorem at_byte {t : ByteArray} {f k : Nat} (h : f + k < t.size) : (t.data.toList.drop f)[k]? = some (t[f + k]'h) := by
  rw [List.getElem?_drop, List.getElem?_eq_getElem (by simpa using h)]
  simp [ByteArray.getElem_eq_getElem_data]
theorem byte_at {L : ByteArray} {k : Nat} (h : k < L.size) : L.data.toList[k]? = some (L[k]'h) := by
  rw [List.getElem?_eq_getElem (by simpa using h)]
  simp [ByteArray.getElem_eq_getElem_data]
/-- A line as the walk has it: tabs, then a body. -/
structure LineAt (L : ByteArray) (n e : Nat) (b : List UInt8) : Prop where
  size : L.size = e + 1
  list : L.data.toList = tabs n ++ b
  body : Tx.Body b
theorem LineAt.len {L : ByteArray} {n e : Nat} {b : List UInt8} (h : LineAt L n e b) : n + b.length = e + 1 ∧ 0 < b.length := by
  have h1 : L.data.toList.length = e + 1 := by rw [← h.size]; simp
  rw [h.list, List.length_append] at h1
  have h2 : (tabs n).length = n := by simp [tabs]
  exact ⟨by omega, List.length_pos_iff.2 h.body.ne⟩
theorem LineAt.tab {L : ByteArray} {n e : Nat} {b : List UInt8} (h : LineAt L n e b) {m : Nat} (hm : m < n) (hs : m < L.size) : (L[m]'hs).toNat = 9 := by
  have h1 := byte_at hs
  rw [h.list, List.getElem?_append_left (by simp [tabs]; exact hm)] at h1
  have : (tabs n)[m]? = some 9 := by simp [tabs, hm]
  rw [this] at h1
  rw [← Option.some.inj h1]; rfl
theorem LineAt.at {L : ByteArray} {n e : Nat} {b : List UInt8} (h : LineAt L n e b) {m : Nat} (hm : n ≤ m) (hs : m < L.size) : b[m - n]? = some (L[m]'hs) := by
  have h1 := byte_at hs
  rw [h.list, List.getElem?_append_right (by simp [tabs]; exact hm)] at h1
  have h2 : (tabs n).length = n := by simp [tabs]
  rw [h2] at h1; exact h1
theorem byte_ne {c : UInt8} {k : Nat} (h : c ≠ UInt8.ofNat k) : ¬ c.toNat = k := fun e => h (by rw [← e]; simp)
theorem LineAt.no {L : ByteArray} {n e : Nat} {b : List UInt8} (h : LineAt L n e b) {m : Nat} (hm : n ≤ m) (hs : m < L.size) : ¬ (L[m]'hs).toNat = 9 := by
  have := h.body.no _ (List.mem_of_getElem? (h.at hm hs))
  exact byte_ne this.1
theorem LineAt.head {L : ByteArray} {n e : Nat} {b : List UInt8} (h : LineAt L n e b) (hs : n < L.size) : ¬ (L[n]'hs).toNat = 32 := by
  have := h.at (Nat.le_refl _) hs
  rw [Nat.sub_self, ← List.head?_eq_getElem?] at this
  exact byte_ne (fun e => h.body.head (by rw [this, e]; rfl))
theorem LineAt.end {L : ByteArray} {n e : Nat} {b : List UInt8} (h : LineAt L n e b) (hs : e < L.size) : b.getLast? = some (L[e]'hs) := by
  have := h.at (m := e) (by have := h.len; omega) hs
  rw [List.getLast?_eq_getElem?, ← this]
  congr 1
  have := h.len; omega
theorem LineAt.last {L : ByteArray} {n e : Nat} {b : List UInt8} (h : LineAt L n e b) (hs : e < L.size) : ¬ (L[e]'hs).toNat = 32 :=
  byte_ne (fun e' => h.body.last (by rw [h.end hs, e']; rfl))
theorem LineAt.dbl {L : ByteArray} {n e : Nat} {b : List UInt8} (h : LineAt L n e b) {m : Nat} (hm : n ≤ m) (hs : m < L.size) (hs2 : m + 1 < L.size) (h32 : (L[m]'hs).toNat = 32) : ¬ (L[m + 1]'hs2).toNat = 32 := by
  have h1 := h.at hm hs
  have h2 := h.at (m := m + 1) (by omega) hs2
  rw [show m + 1 - n = (m - n) + 1 by omega] at h2
  have e1 : L[m] = 32 := by rw [← UInt8.toNat_inj]; exact h32
  rw [e1] at h1
  exact byte_ne (fun e' => h.body.dbl _ h1 (by rw [h2, e']; rfl))
/-- The next line of a text that is lines. -/
theorem next_line {t : ByteArray} {o f i : Nat} (h : Tx.Ls o (t.data.toList.drop f) 0) (hfi : f ≤ i) (hi : i < t.size) (hn : ∀ m, f + m < i → (t.data.toList.drop f)[m]? ≠ some 10) (h10 : (t[i]'hi).toNat = 10) :
    ∃ n e b, LineAt (t.extract f i) n e b ∧ i = f + (e + 1) ∧ o = (n + if b.getLast? = some 125 then 1 else 0) ∧ Tx.Ls (n + if b.getLast? = some 123 then 1 else 0) (t.data.toList.drop (i + 1)) 0 := by
  have hb10 : (t.data.toList.drop f)[i - f]? = some 10 := by
    have := at_byte (t := t) (f := f) (k := i - f) (by omega)
    rw [this]
    congr 1
    rw [← UInt8.toNat_inj]
    have e : f + (i - f) = i := by omega
    simp only [e]; exact h10
  generalize hr : t.data.toList.drop f = r at h hb10 hn
  cases h with
  | nil => simp at hb10
  | cons n b r' _ hb hl =>
    have hk : (tabs n ++ b).length = n + b.length := by simp [tabs]
    have hlen : 0 < b.length := List.length_pos_iff.2 hb.ne
    have hno : ∀ c ∈ tabs n ++ b, c ≠ 10 := by
      intro c hc
      rcases List.mem_append.1 hc with hc | hc
      · have : c = 9 := by simp [tabs] at hc; exact hc.2
        subst this; decide
      · exact (hb.no c hc).2
    have hle : ¬ i - f < n + b.length := fun hlt => by
      rw [List.getElem?_append_left (by rw [hk]; exact hlt)] at hb10
      exact hno _ (List.mem_of_getElem? hb10) rfl
    have hge : ¬ n + b.length < i - f := fun hlt => by
      refine hn (n + b.length) (by omega) ?_
      rw [List.getElem?_append_right (by rw [hk]; exact Nat.le_refl _), hk, Nat.sub_self]; rfl
    have hj : i - f = n + b.length := by omega
    have hex : (t.extract f i).data.toList = tabs n ++ b := by
      obtain ⟨l, h1, h2⟩ := part_list t f i
      rw [h1]
      show l = _
      rw [h2, List.drop_take, hr, hj, ← hk, List.take_left']
      rfl
    refine ⟨n, n + b.length - 1, b, ⟨?_, hex, hb⟩, by omega, rfl, ?_⟩
    · have : (t.extract f i).data.toList.length = (t.extract f i).size := Array.length_toList
      rw [← this, hex, hk]; omega
    · have : t.data.toList.drop (i + 1) = r' := by
        rw [show i + 1 = f + (n + b.length + 1) by omega, ← List.drop_drop, hr]
        rw [show n + b.length + 1 = (tabs n ++ b ++ [10]).length by simp [tabs]; omega, show tabs n ++ b ++ 10 :: r' = (tabs n ++ b ++ [10]) ++ r' by simp, List.drop_left']
        rfl
      rw [this]; exact hl

set_option linter.unusedSimpArgs false in
set_option maxRecDepth 100000 in
set_option maxHeartbeats 4000000 in
theorem lines_any (t : ByteArray) (ht : t.size ≤ 20000) (hl : Tx.Ls 0 t.data.toList 0) (w : World) :
    Calls Tryz.prog 22 #[.string t] w fun e w' => e = .returned (.bool true) ∧ w' = w := by
  have HL := Lib.hid hl
  clear hl
  go_enter Tryz.func22, Tryz.ntmps22
  go_wp2
  go_loop [3, 4, 5] (fun vo vf vi => ∃ o f i : Nat, vo = .int .i64 o ∧ vf = .int .i64 f ∧ vi = .int .i64 i ∧ f ≤ i ∧ i ≤ t.size ∧ o ≤ 20000 ∧ Hid (Tx.Ls o (t.data.toList.drop f) 0) ∧ Hid (∀ m, f + m < i → (t.data.toList.drop f)[m]? ≠ some 10)) (fun _ _ i => t.size - (intOf i).toNat)
  case atStart => exact ⟨0, 0, 0, rfl, rfl, rfl, Nat.le_refl _, Nat.zero_le _, by omega, HL, Lib.hid (fun m hm => by omega)⟩
  case round =>
    obtain ⟨o, f, i, rfl, rfl, rfl, hfi, hit, ho, HR, HN⟩ := hrel
    by_cases hlt : i < t.size
    · by_cases h10 : t[i].toNat = 10
      · obtain ⟨n, e, b, hline, he, hon, hrest⟩ := next_line HR.out hfi hlt HN.out h10
        have HE := Lib.hid he; have HON := Lib.hid hon; have HREST := Lib.hid hrest; have HLN := Lib.hid hline
        clear he hon hrest hline
        go_upto_region 9 with fail
        obtain ⟨L, hLL⟩ : ∃ L, t.extract f i = L := ⟨_, rfl⟩
        rw [hLL] at HLN
        try rw [hLL]
        clear hLL
        have hls := HLN.out.size
        have hne : L.toList.isEmpty = false := by rw [ByteArray.toList_eq, HLN.out.list]; cases tabs n <;> cases hb : b <;> first | rfl | exact absurd hb HLN.out.body.ne
        have hnl := HLN.out.len
        have hes : e < L.size := by omega
        have hll := HLN.out.last hes
        have hed := HLN.out.end hes
        obtain ⟨z, hz⟩ : ∃ z, L[e].toNat = z := ⟨_, rfl⟩
        rw [hz] at hll
        obtain ⟨d, hd⟩ : ∃ d, t.size - i = d := ⟨_, rfl⟩
        have HZ : Hid (b.getLast? = some L[e]) := hed
        clear hed
        have he20 : e ≤ 20000 := by have := HE.out; omega
        have hn20 : n ≤ 19999 := by have := HE.out; omega
        by_cases h125 : z = 125
        · have hon : o = n + 1 := by have := HON.out; rw [HZ.out, if_pos (congrArg some (by rw [← UInt8.toNat_inj, hz, h125]; rfl))] at this; omega
          subst hon
          go_wp2
          go_loop [7] (fun vm => ∃ m : Nat, vm = .int .i64 m ∧ m ≤ n) (fun vm => n - (intOf vm).toNat)
          case atStart => exact ⟨0, rfl, Nat.zero_le _⟩
          case round =>
            obtain ⟨m, rfl, hm⟩ := hrel
            have hms : m < L.size := by omega
            have hm20 : m ≤ 20000 := by omega
            by_cases hmn : m < n
            · have h9 := HLN.out.tab hmn hms
              go_wp2
              go_round
              case rel => exact ⟨m + 1, by go_num, by omega⟩
              case measure => simp [intOf]; omega
            · have hmn2 : m = n := by omega
              subst hmn2
              have h9 := HLN.out.no (Nat.le_refl _) hms
              have h32 := HLN.out.head hms
              clear hmn hm
              have b1 : ((z : Int) == 32) = false := beq_false_of_ne (by omega)
              have b2 : (((L[m]'hms).toNat : Int) == 32) = false := beq_false_of_ne (by omega)
              go_wp2
              go_loop [8] (fun vk => ∃ k : Nat, vk = .int .i64 k ∧ m ≤ k ∧ k ≤ e) (fun vk => e - (intOf vk).toNat)
              case atStart => exact ⟨m, rfl, Nat.le_refl _, by omega⟩
              case round =>
                obtain ⟨k, rfl, hk1, hk2⟩ := hrel
                have hks : k < L.size := by omega
                have hk20 : k ≤ 20000 := by omega
                by_cases hke : k < e
                · have hks2 : k + 1 < L.size := by omega
                  have g9 := HLN.out.no hk1 hks
                  by_cases g32 : (L[k]'hks).toNat = 32
                  · have g33 := HLN.out.dbl hk1 hks hks2 g32
                    go_wp2
                    go_round
                    case rel => exact ⟨k + 1, by go_num, by omega, by omega⟩
                    case measure => simp [intOf]; omega
                  · go_wp2
                    go_round
                    case rel => exact ⟨k + 1, by go_num, by omega, by omega⟩
                    case measure => simp [intOf]; omega
                · have hke2 : k = e := by omega
                  subst hke2
                  clear hke
                  by_cases h123 : z = 123
                  · have HR3 : Hid (Tx.Ls (m + 1) (t.data.toList.drop (i + 1)) 0) := by have := HREST.out; rw [HZ.out, if_pos (congrArg some (by rw [← UInt8.toNat_inj, hz, h123]; rfl))] at this; exact this
                    go_wp2
                    go_round
                    case rel => exact ⟨m + 1, i + 1, i + 1, by go_num, by go_num, by go_num, Nat.le_refl _, by omega, by omega, HR3, Lib.hid (fun x hx => by omega)⟩
                    case measure => simp [intOf]; omega
                  · have HR3 : Hid (Tx.Ls m (t.data.toList.drop (i + 1)) 0) := by have := HREST.out; rw [HZ.out, if_neg (fun h => h123 (by rw [← hz, Option.some.inj h]; rfl))] at this; exact this
                    go_wp2
                    go_round
                    case rel => exact ⟨m, i + 1, i + 1, by go_num, by go_num, by go_num, Nat.le_refl _, by omega, by omega, HR3, Lib.hid (fun x hx => by omega)⟩
                    case measure => simp [intOf]; omega
        · have hon : o = n := by have := HON.out; rw [HZ.out, if_neg (fun h => h125 (by rw [← hz, Option.some.inj h]; rfl))] at this; omega
          subst hon
          go_wp2
          go_loop [7] (fun vm => ∃ m : Nat, vm = .int .i64 m ∧ m ≤ o) (fun vm => o - (intOf vm).toNat)
          case atStart => exact ⟨0, rfl, Nat.zero_le _⟩
          case round =>
            obtain ⟨m, rfl, hm⟩ := hrel
            have hms : m < L.size := by omega
            have hm20 : m ≤ 20000 := by omega
            by_cases hmn : m < o
            · have h9 := HLN.out.tab hmn hms
              go_wp2
              go_round
              case rel => exact ⟨m + 1, by go_num, by omega⟩
              case measure => simp [intOf]; omega
            · have hmn2 : m = o := by omega
              subst hmn2
              have h9 := HLN.out.no (Nat.le_refl _) hms
              have h32 := HLN.out.head hms
              clear hmn hm
              have b1 : ((z : Int) == 32) = false := beq_false_of_ne (by omega)
              have b2 : (((L[m]'hms).toNat : Int) == 32) = false := beq_false_of_ne (by omega)
              go_wp2
              go_loop [8] (fun vk => ∃ k : Nat, vk = .int .i64 k ∧ m ≤ k ∧ k ≤ e) (fun vk => e - (intOf vk).toNat)
              case atStart => exact ⟨m, rfl, Nat.le_refl _, by omega⟩
              case round =>
                obtain ⟨k, rfl, hk1, hk2⟩ := hrel
                have hks : k < L.size := by omega
                have hk20 : k ≤ 20000 := by omega
                by_cases hke : k < e
                · have hks2 : k + 1 < L.size := by omega
                  have g9 := HLN.out.no hk1 hks
                  by_cases g32 : (L[k]'hks).toNat = 32
                  · have g33 := HLN.out.dbl hk1 hks hks2 g32
                    go_wp2
                    go_round
                    case rel => exact ⟨k + 1, by go_num, by omega, by omega⟩
                    case measure => simp [intOf]; omega
                  · go_wp2
                    go_round
                    case rel => exact ⟨k + 1, by go_num, by omega, by omega⟩
                    case measure => simp [intOf]; omega
                · have hke2 : k = e := by omega
                  subst hke2
                  clear hke
                  by_cases h123 : z = 123
                  · have HR3 : Hid (Tx.Ls (m + 1) (t.data.toList.drop (i + 1)) 0) := by have := HREST.out; rw [HZ.out, if_pos (congrArg some (by rw [← UInt8.toNat_inj, hz, h123]; rfl))] at this; exact this
                    go_wp2
                    go_round
                    case rel => exact ⟨m + 1, i + 1, i + 1, by go_num, by go_num, by go_num, Nat.le_refl _, by omega, by omega, HR3, Lib.hid (fun x hx => by omega)⟩
                    case measure => simp [intOf]; omega
                  · have HR3 : Hid (Tx.Ls m (t.data.toList.drop (i + 1)) 0) := by have := HREST.out; rw [HZ.out, if_neg (fun h => h123 (by rw [← hz, Option.some.inj h]; rfl))] at this; exact this
                    go_wp2
                    go_round
                    case rel => exact ⟨m, i + 1, i + 1, by go_num, by go_num, by go_num, Nat.le_refl _, by omega, by omega, HR3, Lib.hid (fun x hx => by omega)⟩
                    case measure => simp [intOf]; omega
      · go_wp2
        go_round
        case rel => exact ⟨o, f, i + 1, rfl, rfl, by go_num, by omega, by omega, ho, HR, Lib.hid (fun m hm => by
          by_cases hm2 : f + m < i
          · exact HN.out m hm2
          · have e : f + m = i := by omega
            rw [at_byte (by omega)]
            intro h
            have h2 := Option.some.inj h
            simp only [e] at h2
            exact h10 (by rw [h2]; rfl))⟩
        case measure => simp [intOf]; omega
    · have hi : i = t.size := by omega
      subst hi
      have hR : t.data.toList.drop f = [] := by
        cases hr : t.data.toList.drop f with
        | nil => rfl
        | cons c r =>
          exfalso
          have h1 := HR.out
          have h2 := HN.out
          rw [hr] at h1
          generalize hr2 : c :: r = r2 at h1
          cases h1 with
          | nil => cases hr2
          | cons n b r' _ hb hl =>
            have hlen := congrArg List.length hr
            rw [hr2] at hlen
            simp only [List.length_drop, List.length_append, List.length_cons] at hlen
            have hts : t.data.toList.length = t.size := by simp
            refine h2 ((tabs n ++ b).length) (by simp only [List.length_append]; omega) ?_
            rw [hr, hr2, List.getElem?_append_right (Nat.le_refl _), Nat.sub_self]; rfl
      have hf : f = t.size := by
        have h1 := List.drop_eq_nil_iff.1 hR
        have hts : t.data.toList.length = t.size := by simp
        omega
      have ho0 : o = 0 := by
        have h1 := HR.out
        rw [hR] at h1
        generalize hr2 : ([] : List UInt8) = r2 at h1
        cases h1 with
        | nil => rfl
        | cons n b r' _ hb hl => simp at hr2
      subst ho0
      subst hf
      clear hR
      go_wp2
      go_ret
      exact ⟨rfl, rfl⟩
end Go.Proofs.YtilfpnkcgjonhaaGreatDoor.Pr
namespace Go.Proofs.YtilfpnkcgjonhaaGreatDoor.Pr
open Go.RowKit Go.Sort Foyer.Printer Foyer.Lexer

theorem Lk.since {α : Type} {K : Look α} {w w' : World} {v : Value} {xs : List α} (h : Lk K w w.heap.size v xs) (hb : Below w.heap.size w w') : Lk K w' w'.heap.size v xs := (h.below hb).mono hb.size
theorem lines_h (h0 : HallZ) (w : World) : Calls Tryz.prog 22 #[.string ⟨(hallAll h0).1.toArray⟩] w fun e w' => e = .returned (.bool true) ∧ w' = w :=
  lines_any _ (by have := (Tx.hall_lines h0).2; simpa [ByteArray.size] using this) (Tx.hall_lines h0).1 w
theorem lines_r (l : List ItemZ) (w : World) : Calls Tryz.prog 22 #[.string ⟨(rulesAll l).1.toArray⟩] w fun e w' => e = .returned (.bool true) ∧ w' = w :=
  lines_any _ (by have := (Tx.rules_lines l).2; simpa [ByteArray.size] using this) (Tx.rules_lines l).1 w

set_option linter.unusedSimpArgs false in
set_option maxRecDepth 100000 in
set_option maxHeartbeats 4000000 in
theorem lines_walk (h0 : HallZ) (p : Option Addr) (n cap : Nat) (l : List ItemZ) (q : Option Addr) (m cp : Nat) (w : World) (hm : Lk levelL w w.heap.size (.slice p n cap) h0.levels) (hw : HallZ.Wide h0) (hr : Lk itemL w w.heap.size (.slice q m cp) l) (hv : WideR l) (hE : Env w) :
    Calls Tryz.prog 8 #[.agg #[.string ⟨h0.name.toArray⟩, .int .i64 h0.stage.x, .int .i64 h0.stage.y, .slice p n cap], .agg #[.slice q m cp]] w fun e w' => e = .returned (.bool true) ∧ Below w.heap.size w w' := by
  obtain ⟨wa, hwa⟩ : ∃ wa, w.alloc (.cells #[.string ⟨h0.name.toArray⟩, .int .i64 h0.stage.x, .int .i64 h0.stage.y, .slice p n cap] 26) = wa := ⟨_, rfl⟩
  have hba : Below w.heap.size w wa := by rw [← hwa]; exact (Below.refl _ _).alloc (Nat.le_refl _) _
  have hka : Blk wa w.heap.size 26 [.string ⟨h0.name.toArray⟩, .int .i64 h0.stage.x, .int .i64 h0.stage.y, .slice p n cap] := by rw [← hwa]; exact Blk.new _ _ _
  have hsa : wa.heap.size = w.heap.size + 1 := by rw [← hwa]; simp
  obtain ⟨w0, hw0⟩ : ∃ w0, wa.alloc (.cells #[.slice q m cp] 29) = w0 := ⟨_, rfl⟩
  have hbb : Below wa.heap.size wa w0 := by rw [← hw0]; exact (Below.refl _ _).alloc (Nat.le_refl _) _
  have hkb : Blk w0 (w.heap.size + 1) 29 [.slice q m cp] := by rw [← hw0, ← hsa]; exact Blk.new _ _ _
  have hsb : w0.heap.size = w.heap.size + 2 := by rw [← hw0]; simp; omega
  have hb0 : Below w.heap.size w w0 := hba.trans (hbb.mono hba.size)
  have hka0 : Blk w0 w.heap.size 26 [.string ⟨h0.name.toArray⟩, .int .i64 h0.stage.x, .int .i64 h0.stage.y, .slice p n cap] := (hbb.block _ (by omega)).trans hka
  have HKA : Hid (∀ wr, Below w0.heap.size w0 wr → Blk wr w.heap.size 26 [.string ⟨h0.name.toArray⟩, .int .i64 h0.stage.x, .int .i64 h0.stage.y, .slice p n cap]) := Lib.hid fun wr hb => (hb.block _ (by omega)).trans hka0
  have HKB : Hid (∀ wr, Below w0.heap.size w0 wr → Blk wr (w.heap.size + 1) 29 [.slice q m cp]) := Lib.hid fun wr hb => (hb.block _ (by omega)).trans hkb
  have HIN : Hid (∀ wr, Below w0.heap.size w0 wr → Below w.heap.size w wr) := Lib.hid fun wr hb => hb0.trans (hb.mono hb0.size)
  have HM := Lib.hid hm; have HR := Lib.hid hr; have HW := Lib.hid hw; have HV := Lib.hid hv; have HE := Lib.hid hE
  have HE0 := Lib.hid (hE.since hb0)
  clear hba hka hbb hkb hb0 hka0 hm hr hw hv hE
  go_enter Tryz.func8, Tryz.ntmps8
  go_wp2_with fail
  refine (head_any w0 HE0.out).mono ?_; rintro e w1 ⟨rfl, hb1⟩
  clear hwa hw0 hsa hsb
  have H1 := Lib.hid hb1
  clear hb1
  have ca0 := (HKA.out _ H1.out).cell (i := 0) rfl
  have ca1 := (HKA.out _ H1.out).cell (i := 1) rfl
  have ca2 := (HKA.out _ H1.out).cell (i := 2) rfl
  have ca3 := (HKA.out _ H1.out).cell (i := 3) rfl
  have cb0 := (HKB.out _ H1.out).cell (i := 0) rfl
  go_wp2_with fail
  refine (few_any h0 p n cap w1 (HM.out.since (HIN.out _ H1.out))).mono ?_; rintro e w2 ⟨⟨y, rfl, hy⟩, hb2⟩
  have H2 := Lib.hid (H1.out.trans (hb2.mono H1.out.size))
  clear hb2
  clear ca0 ca1 ca2 ca3 cb0
  have ca0 := (HKA.out _ H2.out).cell (i := 0) rfl
  have ca1 := (HKA.out _ H2.out).cell (i := 1) rfl
  have ca2 := (HKA.out _ H2.out).cell (i := 2) rfl
  have ca3 := (HKA.out _ H2.out).cell (i := 3) rfl
  have cb0 := (HKB.out _ H2.out).cell (i := 0) rfl
  cases y with
  | false =>
    clear hy
    go_wp2
    go_ret
    exact ⟨rfl, HIN.out _ H2.out⟩
  | true =>
    have HF := Lib.hid (HallZ.fit HW.out (hy rfl))
    clear hy
    go_wp2_with fail
    refine (fewR_any l q m cp w2 (HR.out.since (HIN.out _ H2.out))).mono ?_; rintro e w3 ⟨⟨y, rfl, hy⟩, hb3⟩
    have H3 := Lib.hid (H2.out.trans (hb3.mono H2.out.size))
    clear hb3
    clear ca0 ca1 ca2 ca3 cb0
    have ca0 := (HKA.out _ H3.out).cell (i := 0) rfl
    have ca1 := (HKA.out _ H3.out).cell (i := 1) rfl
    have ca2 := (HKA.out _ H3.out).cell (i := 2) rfl
    have ca3 := (HKA.out _ H3.out).cell (i := 3) rfl
    have cb0 := (HKB.out _ H3.out).cell (i := 0) rfl
    cases y with
    | false =>
      clear hy
      go_wp2
      go_ret
      exact ⟨rfl, HIN.out _ H3.out⟩
    | true =>
      have HG := Lib.hid (fitR HV.out (hy rfl))
      clear hy
      go_wp2_with fail
      refine (printHall_any h0 HF.out p n cap w3 (HE.out.since (HIN.out _ H3.out)) (HM.out.since (HIN.out _ H3.out))).mono ?_; rintro e w4 ⟨rfl, hb4⟩
      have H4 := Lib.hid (H3.out.trans (hb4.mono H3.out.size))
      clear hb4
      clear ca0 ca1 ca2 ca3 cb0
      have ca0 := (HKA.out _ H4.out).cell (i := 0) rfl
      have ca1 := (HKA.out _ H4.out).cell (i := 1) rfl
      have ca2 := (HKA.out _ H4.out).cell (i := 2) rfl
      have ca3 := (HKA.out _ H4.out).cell (i := 3) rfl
      have cb0 := (HKB.out _ H4.out).cell (i := 0) rfl
      go_wp2_with fail
      refine (printRules_any l HG.out q m cp w4 (HE.out.since (HIN.out _ H4.out)) (HR.out.since (HIN.out _ H4.out))).mono ?_; rintro e w5 ⟨rfl, hb5⟩
      have H5 := Lib.hid (H4.out.trans (hb5.mono H4.out.size))
      clear hb5 ca0 ca1 ca2 ca3 cb0
      go_wp2_with fail
      refine (lines_h h0 w5).mono ?_; rintro e w6 ⟨rfl, rfl⟩
      go_wp2_with fail
      refine (lines_r l w6).mono ?_; rintro e w7 ⟨rfl, rfl⟩
      go_wp2
      go_ret
      exact ⟨rfl, HIN.out _ H5.out⟩
end Go.Proofs.YtilfpnkcgjonhaaGreatDoor.Pr
