/-
  The plain mathematics of canonical texts: which halls and rules can be written, their texts, and that the writer writes them. No program is spoken of here.
-/
import Derived.Test.YtilfpnkcgjonhaaGreatDoorMathPrint
namespace Foyer.Printer
open Foyer.Lexer Go.Lib

/-! ### Words, names and numbers -/
theorem itoa_last (n : Int) : itoa n ≠ [] ∧ (itoa n).getLast? ≠ some 10 := by
  have hd : ∀ m : Nat, decDigits m ≠ [] ∧ (decDigits m).getLast? ≠ some 10 := fun m => by
    obtain ⟨h1, _⟩ := decDigits_digits (m + 1) m (by omega)
    have hl : 1 ≤ (decDigits m).length := by rw [decDigits_length]; exact nDigits_pos m
    refine ⟨fun e => by rw [e] at hl; simp at hl, fun e => ?_⟩
    have := h1 10 (List.mem_of_getLast? e)
    revert this; decide
  unfold itoa
  split
  · refine ⟨by simp, ?_⟩
    rw [List.getLast?_cons]
    cases h : (decDigits n.natAbs).getLast? with
    | none => rw [List.getLast?_eq_none_iff] at h; exact absurd h (hd _).1
    | some x => intro e; simp only [Option.getD_some, Option.some.injEq] at e; exact (hd _).2 (by rw [h, e])
  · exact hd _
theorem itoa_ok {n : Int} (h : numOk n = true) : itoa n = decDigits n.toNat ∧ n.toNat < 10000000000 ∧ ((n.toNat : Nat) : Int) = n := by
  unfold numOk at h
  simp only [Bool.and_eq_true, decide_eq_true_eq] at h
  refine ⟨?_, by omega, by omega⟩
  unfold itoa
  rw [if_neg (by omega)]
theorem nameOk_last {l : List UInt8} (h : nameOk l = true) : l ≠ [] ∧ ∀ b ∈ l, isWord b = true := by
  unfold nameOk at h
  simp only [Bool.and_eq_true, decide_eq_true_eq] at h
  refine ⟨fun e => by subst e; simp at h, fun b hb => List.all_eq_true.1 h.2 b hb⟩
theorem word_noLf {l : List UInt8} (h : ∀ b ∈ l, isWord b = true) : l.getLast? ≠ some 10 := fun e => by
  have := h 10 (List.mem_of_getLast? e)
  revert this; decide
theorem joined_ok : ∀ (l : List (List UInt8)), l ≠ [] → l.all nameOk = true → joined l ≠ [] ∧ (joined l).getLast? ≠ some 10
  | [], h, _ => absurd rfl h
  | [a], _, h => by
    have ha : nameOk a = true := by simpa using h
    exact ⟨(nameOk_last ha).1, word_noLf (nameOk_last ha).2⟩
  | a :: b :: r, _, h => by
    have h' : (b :: r).all nameOk = true := by rw [List.all_cons, Bool.and_eq_true] at h; exact h.2
    obtain ⟨h1, h2⟩ := joined_ok (b :: r) (by simp) h'
    refine ⟨by simp [joined], ?_⟩
    rw [joined, List.getLast?_append, List.getLast?_cons]
    cases e : (joined (b :: r)).getLast? with
    | none => rw [List.getLast?_eq_none_iff] at e; exact absurd e h1
    | some x => rw [e] at h2; simpa using h2
theorem Runs.names {n : Nat} {l : List (List UInt8)} (h0 : l ≠ []) : Runs n n false false (namesS l) (l.all nameOk) (32 :: joined l) := by
  cases h : l.all nameOk with
  | false =>
    refine Runs.cast (Runs.refuse (a := false) (b := false) (32 :: joined l)) (fun s => ?_) rfl rfl
    unfold namesS; rw [if_neg (by simp [h])]
  | true =>
    refine Runs.cast (Runs.word (joined l) (joined_ok l h0 h).1 (joined_ok l h0 h).2 : Runs n n false false _ _ _) (fun s => ?_) rfl rfl
    unfold namesS; rw [if_pos h]
theorem Runs.name {n : Nat} (x : List UInt8) : Runs n n false false (namesS [x]) (nameOk x) (32 :: x) :=
  (Runs.names (by simp)).cast (fun _ => rfl) (by simp) (by simp [joined])
theorem Runs.number {n : Nat} (k : Int) : Runs n n false false (numberS k) (numOk k) (32 :: itoa k) :=
  ((Runs.require (numOk k)).then (Runs.word (itoa k) (itoa_last k).1 (itoa_last k).2)).cast (fun _ => rfl) (by simp) (by simp)
def numsT (l : List Int) : List UInt8 := l.flatMap fun k => 32 :: itoa k
theorem Runs.numbers {n : Nat} (l : List Int) : Runs n n false false (numbersS l) (l.all numOk) (numsT l) :=
  (Runs.fold (f := numberS) l fun k _ => Runs.number k).cast (fun _ => rfl) rfl rfl
def wordT (w : List UInt8) : List UInt8 := 32 :: w
theorem Runs.mid {n : Nat} (x : List UInt8) (hx : x ≠ [] := by decide) (hl : x.getLast? ≠ some 10 := by decide) : Runs n n false false (wordS x) true (wordT x) :=
  (Runs.word x hx hl).cast (fun _ => rfl) rfl (by simp [wordT])
theorem Runs.first {n : Nat} (x : List UInt8) (hx : x ≠ [] := by decide) (hl : x.getLast? ≠ some 10 := by decide) : Runs n n true false (wordS x) true (tabs n ++ x) :=
  (Runs.word x hx hl).cast (fun _ => rfl) rfl (by simp)
def kindOk (n : Nat) (k : Int) : Bool := decide (0 < k) && decide (k < n)
theorem Runs.oneOf {n : Nat} {a : Bool} (ws : List (List UInt8)) (k : Int) (hw : ∀ i, i < ws.length → 0 < i → ws.getD i [] ≠ [] ∧ (ws.getD i []).getLast? ≠ some 10) :
    Runs n n a false (oneOfS ws k) (kindOk ws.length k) ((if a then tabs n else [32]) ++ ws.getD k.toNat []) := by
  cases h : kindOk ws.length k with
  | false =>
    refine Runs.cast (Runs.refuse (a := a) (b := false) ((if a then tabs n else [32]) ++ ws.getD k.toNat [])) (fun s => ?_) rfl rfl
    unfold oneOfS; rw [if_neg (fun hh => by unfold kindOk at h; simp [hh.1, hh.2] at h)]
  | true =>
    have hk : 0 < k ∧ k < ws.length := by unfold kindOk at h; simpa using h
    obtain ⟨h1, h2⟩ := hw k.toNat (by omega) (by omega)
    refine Runs.cast (Runs.word (ws.getD k.toNat []) h1 h2) (fun s => ?_) rfl rfl
    unfold oneOfS; rw [if_pos hk]

/-! ### Halls -/
def boxOk (b : BoxZ) : Bool := [b.x, b.y, b.x2, b.y2].all numOk
def boxT (b : BoxZ) : List UInt8 := numsT [b.x, b.y, b.x2, b.y2]
def markOk (m : MarkZ) : Bool := kindOk 5 m.kind && numOk m.seat && (if m.kind ≠ 4 then decide (m.other = 0) else numOk m.other)
def markT (m : MarkZ) : List UInt8 := wordT (markWords.getD m.kind.toNat []) ++ numsT [m.seat] ++ (if m.kind ≠ 4 then [] else wordT wOf ++ numsT [m.other])
theorem Runs.mark {n : Nat} (m : MarkZ) : Runs n n false false (markS m) (markOk m) (markT m) := by
  have h1 : Runs n n false false (fun s => numbersS [m.seat] (oneOfS markWords m.kind s)) (kindOk 5 m.kind && numOk m.seat) (wordT (markWords.getD m.kind.toNat []) ++ numsT [m.seat]) :=
    ((Runs.oneOf markWords m.kind (by decide)).then (Runs.numbers [m.seat])).cast (fun _ => rfl) (by simp [markWords]) (by simp [wordT])
  by_cases h : m.kind ≠ 4
  · refine (h1.then (Runs.require (decide (m.other = 0)))).cast (fun s => ?_) ?_ ?_
    · unfold markS; rw [if_pos h]
    · unfold markOk; rw [if_pos h]
    · unfold markT; rw [if_pos h]
  · refine ((h1.then (Runs.mid wOf)).then (Runs.numbers [m.other])).cast (fun s => ?_) ?_ ?_
    · unfold markS; rw [if_neg h]
    · unfold markOk; rw [if_neg h]; simp
    · unfold markT; rw [if_neg h]; simp
def rowOk (r : RowZ) : Bool := nameOk r.name && numOk r.x && numOk r.y && numOk r.first && numOk r.last && numOk r.step && r.marks.all markOk
def rowT (n : Nat) (r : RowZ) : List UInt8 :=
  tabs n ++ wRow ++ wordT r.name ++ wordT wAt ++ numsT [r.x, r.y] ++ wordT wSeats ++ numsT [r.first] ++ wordT wTo ++ numsT [r.last] ++ wordT wStep ++ numsT [r.step] ++ r.marks.flatMap markT ++ [59, 10]
theorem Runs.row {n : Nat} (r : RowZ) : Runs n n true true (rowS r) (rowOk r) (rowT n r) :=
  ((((((((((((Runs.first wRow).then (Runs.name r.name)).then (Runs.mid wAt)).then (Runs.numbers [r.x, r.y])).then (Runs.mid wSeats)).then (Runs.numbers [r.first])).then (Runs.mid wTo)).then (Runs.numbers [r.last])).then
    (Runs.mid wStep)).then (Runs.numbers [r.step])).then (Runs.fold (f := markS) r.marks fun m _ => Runs.mark m)).then (Runs.line [59])).cast (fun _ => rfl)
    (by simp only [rowOk, List.all_cons, List.all_nil, Bool.and_true, Bool.true_and, Bool.and_assoc]) (by simp only [rowT, wordT, List.append_assoc, List.cons_append, List.nil_append])
def blockOk (b : BlockZ) : Bool := nameOk b.name && b.rows.all rowOk
def blockT (n : Nat) (b : BlockZ) : List UInt8 := tabs n ++ wBlock ++ wordT b.name ++ [32, 123, 10] ++ b.rows.flatMap (rowT (n + 1)) ++ tabs n ++ [125, 10]
theorem Runs.block {n : Nat} (b : BlockZ) : Runs n n true true (blockS b) (blockOk b) (blockT n b) :=
  (((((Runs.first wBlock).then (Runs.name b.name)).then Runs.begin).then (Runs.fold (f := rowS) b.rows fun r _ => Runs.row r)).then Runs.end).cast (fun _ => rfl)
    (by simp only [blockOk, Bool.and_true, Bool.true_and]) (by simp only [blockT, wordT, List.append_assoc, List.cons_append, List.nil_append])
def areaOk (a : AreaZ) : Bool := nameOk a.name && boxOk a.box && numOk a.holds
def areaT (n : Nat) (a : AreaZ) : List UInt8 := tabs n ++ wArea ++ wordT a.name ++ boxT a.box ++ wordT wHolds ++ numsT [a.holds] ++ [59, 10]
theorem Runs.area {n : Nat} (a : AreaZ) : Runs n n true true (areaS a) (areaOk a) (areaT n a) :=
  ((((((Runs.first wArea).then (Runs.name a.name)).then (Runs.numbers [a.box.x, a.box.y, a.box.x2, a.box.y2])).then (Runs.mid wHolds)).then (Runs.numbers [a.holds])).then (Runs.line [59])).cast (fun _ => rfl)
    (by simp only [areaOk, boxOk, List.all_cons, List.all_nil, Bool.and_true, Bool.true_and]) (by simp only [areaT, boxT, wordT, List.append_assoc, List.cons_append, List.nil_append])
def thingT (w : List UInt8) (n : Nat) (b : BoxZ) : List UInt8 := tabs n ++ w ++ boxT b ++ [59, 10]
theorem Runs.aisle {n : Nat} (b : BoxZ) : Runs n n true true (aisleS b) (boxOk b) (thingT wAisle n b) :=
  (((Runs.first wAisle).then (Runs.numbers [b.x, b.y, b.x2, b.y2])).then (Runs.line [59])).cast (fun _ => rfl)
    (by simp only [boxOk, List.all_cons, List.all_nil, Bool.and_true, Bool.true_and]) (by simp only [thingT, boxT, List.append_assoc, List.cons_append, List.nil_append])
theorem Runs.pillar {n : Nat} (b : BoxZ) : Runs n n true true (pillarS b) (boxOk b) (thingT wPillar n b) :=
  (((Runs.first wPillar).then (Runs.numbers [b.x, b.y, b.x2, b.y2])).then (Runs.line [59])).cast (fun _ => rfl)
    (by simp only [boxOk, List.all_cons, List.all_nil, Bool.and_true, Bool.true_and]) (by simp only [thingT, boxT, List.append_assoc, List.cons_append, List.nil_append])
def doorOk (p : PointZ) : Bool := numOk p.x && numOk p.y
def doorT (n : Nat) (p : PointZ) : List UInt8 := tabs n ++ wDoor ++ numsT [p.x, p.y] ++ [59, 10]
theorem Runs.door {n : Nat} (p : PointZ) : Runs n n true true (doorS p) (doorOk p) (doorT n p) :=
  (((Runs.first wDoor).then (Runs.numbers [p.x, p.y])).then (Runs.line [59])).cast (fun _ => rfl)
    (by simp only [doorOk, List.all_cons, List.all_nil, Bool.and_true, Bool.true_and]) (by simp only [doorT, List.append_assoc, List.cons_append, List.nil_append])
def levelOk (l : LevelZ) : Bool := nameOk l.name && numOk l.height && l.blocks.all blockOk && l.areas.all areaOk && l.aisles.all boxOk && l.pillars.all boxOk && l.doors.all doorOk
def itemsT (n : Nat) (l : LevelZ) : List UInt8 :=
  l.blocks.flatMap (blockT n) ++ l.areas.flatMap (areaT n) ++ l.aisles.flatMap (thingT wAisle n) ++ l.pillars.flatMap (thingT wPillar n) ++ l.doors.flatMap (doorT n)
def levelT (n : Nat) (l : LevelZ) : List UInt8 := tabs n ++ wLevel ++ wordT l.name ++ wordT wHeight ++ numsT [l.height] ++ [32, 123, 10] ++ itemsT (n + 1) l ++ tabs n ++ [125, 10]
theorem Runs.level {n : Nat} (l : LevelZ) : Runs n n true true (levelS l) (levelOk l) (levelT n l) :=
  (((((((((((Runs.first wLevel).then (Runs.name l.name)).then (Runs.mid wHeight)).then (Runs.numbers [l.height])).then Runs.begin).then (Runs.fold (f := blockS) l.blocks fun b _ => Runs.block b)).then
    (Runs.fold (f := areaS) l.areas fun b _ => Runs.area b)).then (Runs.fold (f := aisleS) l.aisles fun b _ => Runs.aisle b)).then (Runs.fold (f := pillarS) l.pillars fun b _ => Runs.pillar b)).then
    (Runs.fold (f := doorS) l.doors fun b _ => Runs.door b)).then Runs.end).cast (fun _ => rfl)
    (by simp only [levelOk, List.all_cons, List.all_nil, Bool.and_true, Bool.true_and, Bool.and_assoc]) (by simp only [levelT, itemsT, wordT, List.append_assoc, List.cons_append, List.nil_append])
def hallOk (h : HallZ) : Bool := nameOk h.name && numOk h.stage.x && numOk h.stage.y && h.levels.all levelOk
def hallT (h : HallZ) : List UInt8 := wHall ++ wordT h.name ++ wordT wStage ++ numsT [h.stage.x, h.stage.y] ++ [32, 123, 10] ++ h.levels.flatMap (levelT 1) ++ [125, 10]
theorem Runs.hall (h : HallZ) : Runs 0 0 true true (hallS h) (hallOk h) (hallT h) :=
  (((((((Runs.first wHall).then (Runs.name h.name)).then (Runs.mid wStage)).then (Runs.numbers [h.stage.x, h.stage.y])).then Runs.begin).then (Runs.fold (f := levelS) h.levels fun b _ => Runs.level b)).then Runs.end).cast (fun _ => rfl)
    (by simp only [hallOk, List.all_cons, List.all_nil, Bool.and_true, Bool.true_and, Bool.and_assoc]) (by simp only [hallT, tabs, List.replicate_zero, wordT, List.append_assoc, List.cons_append, List.nil_append])

/-! ### Rules -/
def ratioOk (r : RatioZ) : Bool := numOk r.num && numOk r.den
def ratioT (r : RatioZ) : List UInt8 := 32 :: (itoa r.num ++ [47] ++ itoa r.den)
theorem Runs.ratio {n : Nat} (r : RatioZ) : Runs n n false false (ratioS r) (ratioOk r) (ratioT r) := by
  have hl : (itoa r.num ++ [47] ++ itoa r.den) ≠ [] ∧ (itoa r.num ++ [47] ++ itoa r.den).getLast? ≠ some 10 := by
    refine ⟨by simp, ?_⟩
    rw [last_append _ _ (itoa_last r.den).1]
    exact (itoa_last r.den).2
  exact (((Runs.require (numOk r.num)).then (Runs.require (numOk r.den))).then (Runs.word _ hl.1 hl.2)).cast (fun _ => rfl) (by simp [ratioOk]) (by simp [ratioT])
def ratioIfT (w : List UInt8) (r : RatioZ) : List UInt8 := if r = ⟨0, 1⟩ then [] else wordT w ++ ratioT r
theorem Runs.ratioIf {n : Nat} (w : List UInt8) (r : RatioZ) (hx : w ≠ [] := by decide) (hl : w.getLast? ≠ some 10 := by decide) : Runs n n false false (ratioIfS w r) (ratioOk r) (ratioIfT w r) := by
  by_cases h : r = ⟨0, 1⟩
  · subst h
    exact (Runs.none n false).cast (fun s => by unfold ratioIfS; rw [if_pos rfl]) (by decide) (by unfold ratioIfT; rw [if_pos rfl])
  · exact ((Runs.mid w hx hl).then (Runs.ratio r)).cast (fun s => by unfold ratioIfS; rw [if_neg h]) (by simp) (by unfold ratioIfT; rw [if_neg h])
def testOk (t : TestZ) : Bool := nameOk t.attr && kindOk 7 t.op && (if t.name = [] then numOk t.n else decide (t.n = 0) && (partsOf t.name).all nameOk)
def testT (t : TestZ) : List UInt8 := wordT t.attr ++ wordT (opWords.getD t.op.toNat []) ++ (if t.name = [] then numsT [t.n] else wordT (joined (partsOf t.name)))
theorem parts_ne (l : List UInt8) : partsOf l ≠ [] := by unfold partsOf; split <;> simp
theorem Runs.test {n : Nat} (t : TestZ) : Runs n n false false (testS t) (testOk t) (testT t) := by
  have h1 : Runs n n false false (fun s => oneOfS opWords t.op (namesS [t.attr] s)) (nameOk t.attr && kindOk 7 t.op) (wordT t.attr ++ wordT (opWords.getD t.op.toNat [])) :=
    ((Runs.name t.attr).then (Runs.oneOf opWords t.op (by decide))).cast (fun _ => rfl) (by simp [opWords]) (by simp [wordT])
  by_cases h : t.name = []
  · exact (h1.then (Runs.numbers [t.n])).cast (fun s => by unfold testS; rw [if_pos h]) (by unfold testOk; rw [if_pos h]; simp) (by unfold testT; rw [if_pos h])
  · exact ((h1.then (Runs.require (decide (t.n = 0)))).then (Runs.names (parts_ne t.name))).cast (fun s => by unfold testS; rw [if_neg h]) (by unfold testOk; rw [if_neg h]; simp [Bool.and_assoc]) (by unfold testT; rw [if_neg h]; simp [wordT])
def restT (l : List TestZ) : List UInt8 := l.flatMap fun t => wordT wAnd ++ testT t
theorem Runs.rest {n : Nat} : ∀ l : List TestZ, Runs n n false false (restS l) (l.all testOk) (restT l)
  | [] => Runs.none n false
  | t :: r => (((Runs.mid wAnd).then (Runs.test t)).then (Runs.rest r)).cast (fun _ => rfl) (by simp) (by simp [restT])
def testsOk (l : List TestZ) : Bool := decide (0 < l.length) && decide (l.length ≤ 12) && l.all testOk
def testsT : List TestZ → List UInt8
  | [] => []
  | t :: r => testT t ++ restT r
theorem Runs.tests {n : Nat} (l : List TestZ) : Runs n n false false (testsS l) (testsOk l) (testsT l) := by
  by_cases h : 0 < l.length ∧ l.length ≤ 12
  · cases l with
    | nil => simp at h
    | cons t r =>
      refine ((Runs.test t).then (Runs.rest r)).cast (fun s => ?_) ?_ rfl
      · unfold testsS; rw [if_pos h]
      · unfold testsOk; rw [decide_eq_true h.1, decide_eq_true h.2]; simp
  · refine (Runs.refuse (testsT l)).cast (fun s => ?_) ?_ rfl
    · unfold testsS; rw [if_neg h]
    · unfold testsOk
      by_cases h1 : 0 < l.length
      · rw [decide_eq_false (fun h2 => h ⟨h1, h2⟩)]; simp
      · rw [decide_eq_false h1]; simp
def altsT : List UInt8 → List (List TestZ) → List UInt8
  | _, [] => []
  | w, l :: r => wordT w ++ testsT l ++ altsT wOr r
theorem Runs.alts {n : Nat} : ∀ (c : List (List TestZ)) (w : List UInt8), w ≠ [] → w.getLast? ≠ some 10 → Runs n n false false (altsS w c) (c.all testsOk) (altsT w c)
  | [], _, _, _ => Runs.none n false
  | l :: r, w, hx, hl => (((Runs.mid w hx hl).then (Runs.tests l)).then (Runs.alts r wOr (by decide) (by decide))).cast (fun _ => rfl) (by simp) (by simp [altsT])
def whenOk (c : List (List TestZ)) : Bool := decide (c.length ≤ 12) && c.all testsOk
theorem Runs.when {n : Nat} (c : List (List TestZ)) : Runs n n false false (whenS c) (whenOk c) (altsT wWhen c) := by
  by_cases h : c.length ≤ 12
  · exact (Runs.alts c wWhen (by decide) (by decide)).cast (fun s => by unfold whenS; rw [if_pos h]) (by unfold whenOk; rw [decide_eq_true h]; simp) rfl
  · exact (Runs.refuse (altsT wWhen c)).cast (fun s => by unfold whenS; rw [if_neg h]) (by unfold whenOk; rw [decide_eq_false h]; simp) rfl
def termsOk (x : ItemZ) : Bool :=
  if x.kind = 1 then numOk x.n && (decide (x.r = none0) && decide (x.s = none0))
  else if x.kind = 3 then numOk x.n && ratioOk x.r && ratioOk x.s
  else if x.kind = 4 then ratioOk x.r && ratioOk x.s && decide (x.n = 0)
  else if x.kind = 5 then ratioOk x.r && (decide (x.n = 0) && decide (x.s = none0))
  else decide (x.n = 0) && decide (x.r = none0) && decide (x.s = none0)
def termsT (x : ItemZ) : List UInt8 :=
  if x.kind = 1 then (if x.n ≠ 0 then wordT wLimit ++ numsT [x.n] else [])
  else if x.kind = 3 then numsT [x.n] ++ ratioIfT wFee x.r ++ ratioIfT wTax x.s
  else if x.kind = 4 then wordT wCap ++ ratioT x.r ++ wordT wShare ++ ratioT x.s
  else if x.kind = 5 then ratioT x.r
  else []
theorem Runs.terms {n : Nat} (x : ItemZ) : Runs n n false false (termsS x) (termsOk x) (termsT x) := by
  unfold termsOk termsT
  by_cases h1 : x.kind = 1
  · rw [if_pos h1, if_pos h1]
    by_cases hn : x.n ≠ 0
    · rw [if_pos hn]
      exact (((Runs.mid wLimit).then (Runs.numbers [x.n])).then (Runs.require _)).cast (fun s => by unfold termsS; rw [if_pos h1, if_pos hn]) (by simp) (by simp)
    · rw [if_neg hn]
      have h0 : x.n = 0 := by omega
      exact (Runs.require _).cast (fun s => by unfold termsS; rw [if_pos h1, if_neg hn]) (by rw [h0, show numOk 0 = true from by decide]; simp) rfl
  · rw [if_neg h1, if_neg h1]
    by_cases h3 : x.kind = 3
    · rw [if_pos h3, if_pos h3]
      exact ((((Runs.numbers [x.n]).then (Runs.ratioIf wFee x.r)).then (Runs.ratioIf wTax x.s)).then (Runs.require true)).cast (fun s => by unfold termsS; rw [if_neg h1, if_pos h3]) (by simp) (by simp)
    · rw [if_neg h3, if_neg h3]
      by_cases h4 : x.kind = 4
      · rw [if_pos h4, if_pos h4]
        exact (((((Runs.mid wCap).then (Runs.ratio x.r)).then (Runs.mid wShare)).then (Runs.ratio x.s)).then (Runs.require _)).cast (fun s => by unfold termsS; rw [if_neg h1, if_neg h3, if_pos h4]) (by simp) (by simp)
      · rw [if_neg h4, if_neg h4]
        by_cases h5 : x.kind = 5
        · rw [if_pos h5, if_pos h5]
          exact ((Runs.ratio x.r).then (Runs.require _)).cast (fun s => by unfold termsS; rw [if_neg h1, if_neg h3, if_neg h4, if_pos h5]) (by simp) (by simp)
        · rw [if_neg h5, if_neg h5]
          exact (Runs.require _).cast (fun s => by unfold termsS; rw [if_neg h1, if_neg h3, if_neg h4, if_neg h5]) rfl rfl
def itemOk (x : ItemZ) : Bool := kindOk 8 x.kind && nameOk x.name && termsOk x && whenOk x.conds
def itemT (x : ItemZ) : List UInt8 := itemWords.getD x.kind.toNat [] ++ wordT x.name ++ termsT x ++ altsT wWhen x.conds ++ [59, 10]
theorem Runs.item (x : ItemZ) : Runs 0 0 true true (itemS x) (itemOk x) (itemT x) :=
  (((((Runs.oneOf itemWords x.kind (by decide)).then (Runs.name x.name)).then (Runs.terms x)).then (Runs.when x.conds)).then (Runs.line [59])).cast (fun _ => rfl)
    (by simp [itemOk, itemWords]) (by simp [itemT, wordT, tabs])
def rulesOk (l : List ItemZ) : Bool := decide (l.length ≤ 200) && l.all itemOk
def rulesT (l : List ItemZ) : List UInt8 := l.flatMap itemT
theorem Runs.rules (l : List ItemZ) : Runs 0 0 true true (rulesS l) (rulesOk l) (rulesT l) := by
  by_cases h : l.length ≤ 200
  · exact (Runs.fold (f := itemS) l fun x _ => Runs.item x).cast (fun s => by unfold rulesS; rw [if_pos h]) (by unfold rulesOk; rw [decide_eq_true h]; simp) rfl
  · exact (Runs.refuse (rulesT l)).cast (fun s => by unfold rulesS; rw [if_neg h]) (by unfold rulesOk; rw [decide_eq_false h]; simp) rfl

/-! ### What is returned -/
theorem finish_runs {f : St → St} {ok : Bool} {t : List UInt8} (h : Runs 0 0 true true f ok t) :
    finishS (f startS) = if ok then (if (lexAll t).2.1 = 0 then (t, 0) else ([], 3)) else ([], 1) := by
  obtain ⟨⟨h1, h2, h3⟩, _⟩ := h startS [] false ⟨rfl, rfl, fun _ => ⟨fun _ => rfl, fun h => by simp at h⟩⟩ (fun _ => by unfold AtS; rfl)
  simp only [Bool.false_or, List.nil_append] at h1 h3
  unfold finishS
  rw [h1]
  cases ok with
  | false => rfl
  | true =>
    obtain ⟨k1, k2⟩ := h3 rfl
    simp only [Bool.not_true, Bool.false_eq_true, if_false, if_true]
    by_cases hl : t.length ≤ 20000
    · rw [k1 hl]
      by_cases he : (lexAll t).2.1 = 0
      · rw [if_neg (fun h => h he), if_pos he]
      · rw [if_pos he, if_neg he]
    · rw [lexAll_long (k2 (by omega)), lexAll_long (by omega : 20000 < t.length)]; rfl
theorem hallAll_eq (h : HallZ) : hallAll h = if hallOk h then (if (lexAll (hallT h)).2.1 = 0 then (hallT h, 0) else ([], 3)) else ([], 1) := finish_runs (Runs.hall h)
theorem rulesAll_eq (l : List ItemZ) : rulesAll l = if rulesOk l then (if (lexAll (rulesT l)).2.1 = 0 then (rulesT l, 0) else ([], 3)) else ([], 1) := finish_runs (Runs.rules l)
end Foyer.Printer
