/-
  The plain mathematics of canonical texts: the writer, step by step, and the text that it has written in the end. No program is spoken of here.
-/
import Derived.Test.YtilfpnkcgjonhaaGreatDoorMathAll
namespace Foyer.Printer
open Foyer.Lexer Go.Lib

/-! ### Halls and rules with any numbers -/
structure MarkZ where
  kind : Int
  seat : Int
  other : Int
deriving DecidableEq
structure RowZ where
  name : List UInt8
  x : Int
  y : Int
  first : Int
  last : Int
  step : Int
  marks : List MarkZ
  pos : Int
deriving DecidableEq
structure BlockZ where
  name : List UInt8
  rows : List RowZ
  pos : Int
deriving DecidableEq
structure BoxZ where
  x : Int
  y : Int
  x2 : Int
  y2 : Int
deriving DecidableEq
structure AreaZ where
  name : List UInt8
  box : BoxZ
  holds : Int
  pos : Int
deriving DecidableEq
structure PointZ where
  x : Int
  y : Int
deriving DecidableEq
structure LevelZ where
  name : List UInt8
  height : Int
  blocks : List BlockZ
  areas : List AreaZ
  aisles : List BoxZ
  pillars : List BoxZ
  doors : List PointZ
  pos : Int
deriving DecidableEq
structure HallZ where
  name : List UInt8
  stage : PointZ
  levels : List LevelZ
deriving DecidableEq
structure TestZ where
  attr : List UInt8
  op : Int
  name : List UInt8
  n : Int
  pos : Int
deriving DecidableEq
structure RatioZ where
  num : Int
  den : Int
deriving DecidableEq
structure ItemZ where
  kind : Int
  name : List UInt8
  conds : List (List TestZ)
  n : Int
  r : RatioZ
  s : RatioZ
  pos : Int
deriving DecidableEq

/-! ### The writer -/
structure St where
  text : List UInt8
  opn : Nat
  refused : Bool
def tabs (n : Nat) : List UInt8 := List.replicate n 9
def putS (p : List UInt8) (s : St) : St := if s.text.length ≤ 20000 then { s with text := s.text ++ p } else s
def requireS (b : Bool) (s : St) : St := { s with refused := s.refused || !b }
def lineS (x : List UInt8) (s : St) : St := putS [10] (putS x s)
def beforeOf (t : List UInt8) (n : Nat) : List UInt8 := if t.getLast?.getD 10 = 10 then tabs n else [32]
def wordS (x : List UInt8) (s : St) : St := putS x (putS (beforeOf s.text s.opn) s)
def beginS (s : St) : St := let s1 := lineS [] (wordS [123] s); { s1 with opn := s1.opn + 1 }
def endS (s : St) : St := lineS [] (wordS [125] { s with opn := s.opn - 1 })
def nameOk (l : List UInt8) : Bool := decide (l.length ≤ 24) && (match l with | [] => false | c :: _ => isLetter c) && l.all isWord
def joined : List (List UInt8) → List UInt8
  | [] => []
  | [a] => a
  | a :: b :: r => a ++ 46 :: joined (b :: r)
def namesS (l : List (List UInt8)) (s : St) : St := if l.all nameOk then wordS (joined l) s else requireS false s
def numOk (n : Int) : Bool := decide (0 ≤ n) && decide (n ≤ 9999999999)
def numberS (n : Int) (s : St) : St := wordS (itoa n) (requireS (numOk n) s)
def numbersS (l : List Int) (s : St) : St := l.foldl (fun s n => numberS n s) s
def oneOfS (ws : List (List UInt8)) (k : Int) (s : St) : St :=
  if 0 < k ∧ k < ws.length then wordS (ws.getD k.toNat []) s else requireS false s

def wHall : List UInt8 := [104, 97, 108, 108]
def wStage : List UInt8 := [115, 116, 97, 103, 101]
def wLevel : List UInt8 := [108, 101, 118, 101, 108]
def wHeight : List UInt8 := [104, 101, 105, 103, 104, 116]
def wBlock : List UInt8 := [98, 108, 111, 99, 107]
def wArea : List UInt8 := [97, 114, 101, 97]
def wAisle : List UInt8 := [97, 105, 115, 108, 101]
def wPillar : List UInt8 := [112, 105, 108, 108, 97, 114]
def wDoor : List UInt8 := [100, 111, 111, 114]
def wHolds : List UInt8 := [104, 111, 108, 100, 115]
def wRow : List UInt8 := [114, 111, 119]
def wAt : List UInt8 := [97, 116]
def wSeats : List UInt8 := [115, 101, 97, 116, 115]
def wTo : List UInt8 := [116, 111]
def wStep : List UInt8 := [115, 116, 101, 112]
def wGap : List UInt8 := [103, 97, 112]
def wWheel : List UInt8 := [119, 104, 101, 101, 108]
def wHidden : List UInt8 := [104, 105, 100, 100, 101, 110]
def wBeside : List UInt8 := [98, 101, 115, 105, 100, 101]
def wOf : List UInt8 := [111, 102]
def wAllow : List UInt8 := [97, 108, 108, 111, 119]
def wDeny : List UInt8 := [100, 101, 110, 121]
def wPrice : List UInt8 := [112, 114, 105, 99, 101]
def wResale : List UInt8 := [114, 101, 115, 97, 108, 101]
def wRefund : List UInt8 := [114, 101, 102, 117, 110, 100]
def wTogether : List UInt8 := [116, 111, 103, 101, 116, 104, 101, 114]
def wSingle : List UInt8 := [115, 105, 110, 103, 108, 101]
def wLimit : List UInt8 := [108, 105, 109, 105, 116]
def wFee : List UInt8 := [102, 101, 101]
def wTax : List UInt8 := [116, 97, 120]
def wCap : List UInt8 := [99, 97, 112]
def wShare : List UInt8 := [115, 104, 97, 114, 101]
def wWhen : List UInt8 := [119, 104, 101, 110]
def wOr : List UInt8 := [111, 114]
def wAnd : List UInt8 := [97, 110, 100]
def wEq : List UInt8 := [61]
def wNe : List UInt8 := [33, 61]
def wLt : List UInt8 := [60]
def wLe : List UInt8 := [60, 61]
def wGt : List UInt8 := [62]
def wGe : List UInt8 := [62, 61]

/-! ### Halls -/
def boxS (b : BoxZ) : St → St := numbersS [b.x, b.y, b.x2, b.y2]
def markWords : List (List UInt8) := [[], wGap, wWheel, wHidden, wBeside]
def markS (m : MarkZ) (s : St) : St :=
  let s1 := numbersS [m.seat] (oneOfS markWords m.kind s)
  if m.kind ≠ 4 then requireS (decide (m.other = 0)) s1 else numbersS [m.other] (wordS wOf s1)
def rowS (r : RowZ) (s : St) : St :=
  lineS [59] (r.marks.foldl (fun s m => markS m s) (numbersS [r.step] (wordS wStep (numbersS [r.last] (wordS wTo (numbersS [r.first] (wordS wSeats
    (numbersS [r.x, r.y] (wordS wAt (namesS [r.name] (wordS wRow s)))))))))))
def blockS (b : BlockZ) (s : St) : St := endS (b.rows.foldl (fun s r => rowS r s) (beginS (namesS [b.name] (wordS wBlock s))))
def areaS (a : AreaZ) (s : St) : St := lineS [59] (numbersS [a.holds] (wordS wHolds (boxS a.box (namesS [a.name] (wordS wArea s)))))
def aisleS (b : BoxZ) (s : St) : St := lineS [59] (boxS b (wordS wAisle s))
def pillarS (b : BoxZ) (s : St) : St := lineS [59] (boxS b (wordS wPillar s))
def doorS (p : PointZ) (s : St) : St := lineS [59] (numbersS [p.x, p.y] (wordS wDoor s))
def levelS (l : LevelZ) (s : St) : St :=
  endS (l.doors.foldl (fun s p => doorS p s) (l.pillars.foldl (fun s b => pillarS b s) (l.aisles.foldl (fun s b => aisleS b s) (l.areas.foldl (fun s a => areaS a s)
    (l.blocks.foldl (fun s b => blockS b s) (beginS (numbersS [l.height] (wordS wHeight (namesS [l.name] (wordS wLevel s))))))))))
def hallS (h : HallZ) (s : St) : St :=
  endS (h.levels.foldl (fun s l => levelS l s) (beginS (numbersS [h.stage.x, h.stage.y] (wordS wStage (namesS [h.name] (wordS wHall s))))))

/-! ### Rules -/
def itemWords : List (List UInt8) := [[], wAllow, wDeny, wPrice, wResale, wRefund, wTogether, wSingle]
def opWords : List (List UInt8) := [[], wEq, wNe, wLt, wLe, wGt, wGe]
def ratioS (r : RatioZ) (s : St) : St := wordS (itoa r.num ++ [47] ++ itoa r.den) (requireS (numOk r.den) (requireS (numOk r.num) s))
def ratioIfS (w : List UInt8) (r : RatioZ) (s : St) : St := if r = ⟨0, 1⟩ then s else ratioS r (wordS w s)
/-- A name, or two with a point between: the parts at the first point. -/
def atPoint : List UInt8 → Option (List UInt8 × List UInt8)
  | [] => none
  | c :: r => if c = 46 then some ([], r) else (atPoint r).map fun p => (c :: p.1, p.2)
def partsOf (l : List UInt8) : List (List UInt8) := match atPoint l with | none => [l] | some p => [p.1, p.2]
def testS (t : TestZ) (s : St) : St :=
  let s1 := oneOfS opWords t.op (namesS [t.attr] s)
  if t.name = [] then numbersS [t.n] s1 else namesS (partsOf t.name) (requireS (decide (t.n = 0)) s1)
def restS : List TestZ → St → St
  | [], s => s
  | t :: r, s => restS r (testS t (wordS wAnd s))
def testsS (l : List TestZ) (s : St) : St :=
  if 0 < l.length ∧ l.length ≤ 12 then (match l with | [] => s | t :: r => restS r (testS t s)) else requireS false s
def altsS : List UInt8 → List (List TestZ) → St → St
  | _, [], s => s
  | w, l :: r, s => altsS wOr r (testsS l (wordS w s))
def whenS (c : List (List TestZ)) (s : St) : St := if c.length ≤ 12 then altsS wWhen c s else requireS false s
def none0 : RatioZ := ⟨0, 0⟩
def termsS (x : ItemZ) (s : St) : St :=
  if x.kind = 1 then requireS (decide (x.r = none0) && decide (x.s = none0)) (if x.n ≠ 0 then numbersS [x.n] (wordS wLimit s) else s)
  else if x.kind = 3 then requireS true (ratioIfS wTax x.s (ratioIfS wFee x.r (numbersS [x.n] s)))
  else if x.kind = 4 then requireS (decide (x.n = 0)) (ratioS x.s (wordS wShare (ratioS x.r (wordS wCap s))))
  else if x.kind = 5 then requireS (decide (x.n = 0) && decide (x.s = none0)) (ratioS x.r s)
  else requireS (decide (x.n = 0) && decide (x.r = none0) && decide (x.s = none0)) s
def itemS (x : ItemZ) (s : St) : St := lineS [59] (whenS x.conds (termsS x (namesS [x.name] (oneOfS itemWords x.kind s))))
def rulesS (l : List ItemZ) (s : St) : St := if l.length ≤ 200 then l.foldl (fun s x => itemS x s) s else requireS false s
def startS : St := ⟨[], 0, false⟩
/-- What is returned in the end: a text and an error. -/
def finishS (s : St) : List UInt8 × Nat := if s.refused then ([], 1) else if (lexAll s.text).2.1 ≠ 0 then ([], 3) else (s.text, 0)
def hallAll (h : HallZ) : List UInt8 × Nat := finishS (hallS h startS)
def rulesAll (l : List ItemZ) : List UInt8 × Nat := finishS (rulesS l startS)

/-! ### What is written -/
/-- The writer's state and the text that it should be: nothing is said of a refused one. -/
def Inv (s : St) (T : List UInt8) (r : Bool) (n : Nat) : Prop :=
  s.refused = r ∧ s.opn = n ∧ (r = false → (T.length ≤ 20000 → s.text = T) ∧ (20000 < T.length → 20000 < s.text.length))
/-- Is the text at the beginning of a line? -/
def AtS (b : Bool) (T : List UInt8) : Prop := decide (T.getLast?.getD 10 = 10) = b
/-- A step that writes t, if ok. -/
def Runs (n m : Nat) (a b : Bool) (f : St → St) (ok : Bool) (t : List UInt8) : Prop :=
  ∀ s T r, Inv s T r n → (r = false → AtS a T) → Inv (f s) (T ++ t) (r || !ok) m ∧ ((r || !ok) = false → AtS b (T ++ t))
theorem Runs.then {n m k : Nat} {a b c : Bool} {f g : St → St} {ok ok' : Bool} {t t' : List UInt8} (h : Runs n m a b f ok t) (h' : Runs m k b c g ok' t') : Runs n k a c (fun s => g (f s)) (ok && ok') (t ++ t') := by
  intro s T r hi ha
  obtain ⟨h1, h2⟩ := h s T r hi ha
  obtain ⟨h3, h4⟩ := h' _ _ _ h1 h2
  have e : (r || !(ok && ok')) = ((r || !ok) || !ok') := by cases r <;> cases ok <;> cases ok' <;> rfl
  rw [e, ← List.append_assoc]
  exact ⟨h3, h4⟩
theorem Runs.none (n : Nat) (a : Bool) : Runs n n a a (fun s => s) true [] := by
  intro s T r hi ha
  simp only [List.append_nil, Bool.not_true, Bool.or_false]
  exact ⟨hi, ha⟩
theorem Runs.fold {α : Type} {n : Nat} {a : Bool} {f : α → St → St} {ok : α → Bool} {t : α → List UInt8} : ∀ (l : List α), (∀ x ∈ l, Runs n n a a (f x) (ok x) (t x)) → Runs n n a a (fun s => l.foldl (fun s x => f x s) s) (l.all ok) (l.flatMap t)
  | [], _ => Runs.none n a
  | x :: r, h => by
    have := (h x List.mem_cons_self).then (Runs.fold r fun y hy => h y (List.mem_cons_of_mem _ hy))
    simpa using this
/-- Where the step is not ok, the text that is named makes no difference. -/
theorem Runs.cast {n m : Nat} {a b : Bool} {f g : St → St} {ok ok' : Bool} {t t' : List UInt8} (h : Runs n m a b f ok t) (hf : ∀ s, g s = f s) (ho : ok = ok') (ht : t = t') : Runs n m a b g ok' t' := by
  subst ho ht
  obtain rfl : g = f := funext hf
  exact h
theorem Runs.refuse {n : Nat} {a b : Bool} (t : List UInt8) : Runs n n a b (requireS false) false t := by
  intro s T r ⟨h1, h2, _⟩ _
  refine ⟨⟨?_, h2, fun h => ?_⟩, fun h => ?_⟩
  · simp [requireS]
  · simp at h
  · simp at h
/-- A step that was refused may be told as any other one. -/
theorem Runs.fail {n m : Nat} {a b b' : Bool} {f : St → St} {t : List UInt8} (h : Runs n m a b f false t) (t' : List UInt8) : Runs n m a b' f false t' := by
  intro s T r hi ha
  obtain ⟨⟨h1, h2, _⟩, _⟩ := h s T r hi ha
  refine ⟨⟨h1, h2, fun h => ?_⟩, fun h => ?_⟩ <;> simp at h
theorem Runs.require {n : Nat} {a : Bool} (ok : Bool) : Runs n n a a (requireS ok) ok [] := by
  cases ok
  · exact Runs.refuse _
  · refine Runs.cast (Runs.none n a) (fun s => ?_) rfl rfl
    simp [requireS]
theorem inv_put {s : St} {T : List UInt8} {r : Bool} {n : Nat} (h : Inv s T r n) (p : List UInt8) : Inv (putS p s) (T ++ p) r n := by
  obtain ⟨h1, h2, h3⟩ := h
  unfold putS
  split
  · rename_i hl
    refine ⟨h1, h2, fun hr => ?_⟩
    obtain ⟨k1, k2⟩ := h3 hr
    have hT : T.length ≤ 20000 := by
      rcases Nat.lt_or_ge 20000 T.length with h | h
      · have := k2 h; omega
      · exact h
    have := k1 hT
    exact ⟨fun _ => by show s.text ++ p = T ++ p; rw [this], fun h => by show 20000 < (s.text ++ p).length; rw [this]; exact h⟩
  · rename_i hl
    refine ⟨h1, h2, fun hr => ?_⟩
    obtain ⟨k1, k2⟩ := h3 hr
    refine ⟨fun h => ?_, fun _ => by omega⟩
    rw [List.length_append] at h
    have := k1 (by omega)
    rw [this] at hl; omega
/-- Beyond the limit, it makes no difference what is put. -/
theorem inv_any {s : St} {T : List UInt8} {r : Bool} {n : Nat} (h : Inv s T r n) (p q : List UInt8) (hp : T.length ≤ 20000 → r = false → p = q) : Inv (putS p s) (T ++ q) r n := by
  by_cases hT : T.length ≤ 20000
  · by_cases hr : r = false
    · rw [hp hT hr]; exact inv_put h q
    · have hp := inv_put h p
      exact ⟨hp.1, hp.2.1, fun h => absurd h hr⟩
  · have h0 := h
    obtain ⟨h1, h2, h3⟩ := h
    have hput := inv_put h0 p
    refine ⟨hput.1, hput.2.1, fun hr => ⟨fun h => ?_, fun _ => ?_⟩⟩
    · rw [List.length_append] at h; omega
    · have := (h3 hr).2 (by omega)
      unfold putS
      rw [if_neg (by omega)]; omega
theorem last_append (T t : List UInt8) (ht : t ≠ []) : (T ++ t).getLast? = t.getLast? := by
  rw [List.getLast?_append]
  cases h : t.getLast? with
  | none => rw [List.getLast?_eq_none_iff] at h; exact absurd h ht
  | some x => rfl
theorem atS_append {b : Bool} {T t : List UInt8} (ht : t ≠ []) (h : decide (t.getLast?.getD 10 = 10) = b) : AtS b (T ++ t) := by
  unfold AtS; rw [last_append T t ht]; exact h
theorem Runs.word {n : Nat} {a : Bool} (x : List UInt8) (hx : x ≠ []) (hl : x.getLast? ≠ some 10) : Runs n n a false (wordS x) true ((if a then tabs n else [32]) ++ x) := by
  intro s T r hi ha
  simp only [Bool.not_true, Bool.or_false]
  have e : ∀ b : List UInt8, T ++ (b ++ x) = (T ++ b) ++ x := fun b => (List.append_assoc _ _ _).symm
  refine ⟨?_, fun _ => ?_⟩
  · rw [e]
    unfold wordS
    refine inv_put (inv_any hi _ _ fun hT hr => ?_) x
    obtain ⟨_, h2, h3⟩ := hi
    rw [(h3 hr).1 hT, h2]
    have := ha hr
    unfold AtS at this
    unfold beforeOf
    cases a
    · rw [if_neg (by simpa using this)]; rfl
    · rw [if_pos (by simpa using this)]; rfl
  · rw [e]
    refine atS_append hx ?_
    rw [decide_eq_false_iff_not]
    cases h : x.getLast? with
    | none => rw [List.getLast?_eq_none_iff] at h; exact absurd h hx
    | some y => intro e; simp only [Option.getD_some] at e; rw [h, e] at hl; exact hl rfl
theorem Runs.line {n : Nat} (x : List UInt8) : Runs n n false true (lineS x) true (x ++ [10]) := by
  intro s T r hi ha
  simp only [Bool.not_true, Bool.or_false]
  refine ⟨?_, fun _ => ?_⟩
  · rw [← List.append_assoc]; exact inv_put (inv_put hi x) [10]
  · rw [← List.append_assoc]; exact atS_append (by simp) (by simp)
theorem Runs.begin {n : Nat} : Runs n (n + 1) false true beginS true [32, 123, 10] := by
  intro s T r hi ha
  have h := ((Runs.word [123] (by simp) (by decide) : Runs n n false false _ _ _).then (Runs.line [])) s T r hi ha
  simp only [Bool.and_true, Bool.not_true, Bool.or_false] at h ⊢
  obtain ⟨⟨h1, h2, h3⟩, h4⟩ := h
  exact ⟨⟨h1, by show _ + 1 = _; rw [h2], h3⟩, h4⟩
theorem Runs.end {n : Nat} : Runs (n + 1) n true true endS true (tabs n ++ [125, 10]) := by
  intro s T r hi ha
  have hi' : Inv { s with opn := s.opn - 1 } T r n := ⟨hi.1, by show s.opn - 1 = n; rw [hi.2.1]; omega, hi.2.2⟩
  have h := ((Runs.word [125] (by simp) (by decide) : Runs n n true false _ _ _).then (Runs.line [])) _ T r hi' ha
  simp only [Bool.and_true, Bool.not_true, Bool.or_false, if_true, List.append_assoc, List.nil_append, List.cons_append] at h ⊢
  exact h
end Foyer.Printer
