/-
  The plain mathematics of canonical texts: the writer, step by step, and the text that it has written in the end. No program is spoken of here.
-/
import Derived.Test.YtilfpnkcgjonhaaGreatDoorZMathAll
namespace Foyer.Printer
open Foyer.Lexer Go.Lib
structure MarkZ where
 kind : Int
 seat : Int
 other : Int
deriving DecidableEq
structure RowZ where
 name : List UInt8
 x : Int
 y : Int
 first : Int
 last : Int
 step : Int
 marks : List MarkZ
 pos : Int
deriving DecidableEq
structure BlockZ where
 name : List UInt8
 rows : List RowZ
 pos : Int
deriving DecidableEq
structure BoxZ where
 x : Int
 y : Int
 x2 : Int
 y2 : Int
deriving DecidableEq
structure AreaZ where
 name : List UInt8
 box : BoxZ
 holds : Int
 pos : Int
deriving DecidableEq
structure PointZ where
 x : Int
 y : Int
deriving DecidableEq
structure LevelZ where
 name : List UInt8
 height : Int
 blocks : List BlockZ
 areas : List AreaZ
 aisles : List BoxZ
 pillars : List BoxZ
 doors : List PointZ
 pos : Int
deriving DecidableEq
structure HallZ where
 name : List UInt8
 stage : PointZ
 levels : List LevelZ
deriving DecidableEq
structure TestZ where
 attr : List UInt8
 op : Int
 name : List UInt8
 n : Int
 pos : Int
deriving DecidableEq
structure RatioZ where
 num : Int
 den : Int
deriving DecidableEq
structure ItemZ where
 kind : Int
 name : List UInt8
 conds : List (List TestZ)
 n : Int
 r : RatioZ
 s : RatioZ
 pos : Int
deriving DecidableEq
structure St where
 text : List UInt8
 opn : Nat
 refused : Bool
def tabs (n : Nat) : List UInt8 := List.replicate n 9
def putS (p : List UInt8) (s : St) : St := if s.text.length ≤ 20000 then { s with text := s.text ++ p } else s
def requireS (b : Bool) (s : St) : St := { s with refused := s.refused || !b }
def lineS (x : List UInt8) (s : St) : St := putS [10] (putS x s)
def beforeOf (t : List UInt8) (n : Nat) : List UInt8 := if t.getLast?.getD 10 = 10 then tabs n else [32]
def wordS (x : List UInt8) (s : St) : St := putS x (putS (beforeOf s.text s.opn) s)
def beginS (s : St) : St := let s1 := lineS [] (wordS [123] s); { s1 with opn := s1.opn + 1 }
def endS (s : St) : St := lineS [] (wordS [125] { s with opn := s.opn - 1 })
def nameOk (l : List UInt8) : Bool := decide (l.length ≤ 24) && (match l with | [] => false | c :: _ => isLetter c) && l.all isWord
def joined : List (List UInt8) → List UInt8
 | [] => []
 | [a] => a
 | a :: b :: r => a ++ 46 :: joined (b :: r)
def namesS (l : List (List UInt8)) (s : St) : St := if l.all nameOk then wordS (joined l) s else requireS false s
def numOk (n : Int) : Bool := decide (0 ≤ n) && decide (n ≤ 9999999999)
def numberS (n : Int) (s : St) : St := wordS (itoa n) (requireS (numOk n) s)
def numbersS (l : List Int) (s : St) : St := l.foldl (fun s n => numberS n s) s
def oneOfS (ws : List (List UInt8)) (k : Int) (s : St) : St :=
 if 0 < k ∧ k < ws.length then wordS (ws.getD k.toNat []) s else requireS false s
def wHall : List UInt8 := [104, 97, 108, 108]
def wStage : List UInt8 := [115, 116, 97, 103, 101]
def wLevel : List UInt8 := [108, 101, 118, 101, 108]
def wHeight : List UInt8 := [104, 101, 105, 103, 104, 116]
def wBlock : List UInt8 := [98, 108, 111, 99, 107]
def wArea : List UInt8 := [97, 114, 101, 97]
def wAisle : List UInt8 := [97, 105, 115, 108, 101]
def wPillar : List UInt8 := [112, 105, 108, 108, 97, 114]
def wDoor : List UInt8 := [100, 111, 111, 114]
def wHolds : List UInt8 := [104, 111, 108, 100, 115]
def wRow : List UInt8 := [114, 111, 119]
def wAt : List UInt8 := [97, 116]
def wSeats : List UInt8 := [115, 101, 97, 116, 115]
def wTo : List UInt8 := [116, 111]
def wStep : List UInt8 := [115, 116, 101, 112]
def wGap : List UInt8 := [103, 97, 112]
def wWheel : List UInt8 := [119, 104, 101, 101, 108]
def wHidden : List UInt8 := [104, 105, 100, 100, 101, 110]
def wBeside : List UInt8 := [98, 101, 115, 105, 100, 101]
def wOf : List UInt8 := [111, 102]
def wAllow : List UInt8 := [97, 108, 108, 111, 119]
def wDeny : List UInt8 := [100, 101, 110, 121]
def wPrice : List UInt8 := [112, 114, 105, 99, 101]
def wResale : List UInt8 := [114, 101, 115, 97, 108, 101]
def wRefund : List UInt8 := [114, 101, 102, 117, 110, 100]
def wTogether : List UInt8 := [116, 111, 103, 101, 116, 104, 101, 114]
def wSingle : List UInt8 := [115, 105, 110, 103, 108, 101]
def wLimit : List UInt8 := [108, 105, 109, 105, 116]
def wFee : List UInt8 := [102, 101, 101]
def wTax : List UInt8 := [116, 97, 120]
def wCap : List UInt8 := [99, 97, 112]
def wShare : List UInt8 := [115, 104, 97, 114, 101]
def wWhen : List UInt8 := [119, 104, 101, 110]
def wOr : List UInt8 := [111, 114]
def wAnd : List UInt8 := [97, 110, 100]
def wEq : List UInt8 := [61]
def wNe : List UInt8 := [33, 61]
def wLt : List UInt8 := [60]
def wLe : List UInt8 := [60, 61]
def wGt : List UInt8 := [62]
def wGe : List UInt8 := [62, 61]
def boxS (b : BoxZ) : St → St := numbersS [b.x, b.y, b.x2, b.y2]
def markWords : List (List UInt8) := [[], wGap, wWheel, wHidden, wBeside]
def markS (m : MarkZ) (s : St) : St :=
 let s1 := numbersS [m.seat] (oneOfS markWords m.kind s)
 if m.kind ≠ 4 then requireS (decide (m.other = 0)) s1 else numbersS [m.other] (wordS wOf s1)
def rowS (r : RowZ) (s : St) : St :=
 lineS [59] (r.marks.foldl (fun s m => markS m s) (numbersS [r.step] (wordS wStep (numbersS [r.last] (wordS wTo (numbersS [r.first] (wordS wSeats
  (numbersS [r.x, r.y] (wordS wAt (namesS [r.name] (wordS wRow s)))))))))))
def blockS (b : BlockZ) (s : St) : St := endS (b.rows.foldl (fun s r => rowS r s) (beginS (namesS [b.name] (wordS wBlock s))))
def areaS (a : AreaZ) (s : St) : St := lineS [59] (numbersS [a.holds] (wordS wHolds (boxS a.box (namesS [a.name] (wordS wArea s)))))
def aisleS (b : BoxZ) (s : St) : St := lineS [59] (boxS b (wordS wAisle s))
def pillarS (b : BoxZ) (s : St) : St := lineS [59] (boxS b (wordS wPillar s))
def doorS (p : PointZ) (s : St) : St := lineS [59] (numbersS [p.x, p.y] (wordS wDoor s))
def levelS (l : LevelZ) (s : St) : St :=
 endS (l.doors.foldl (fun s p => doorS p s) (l.pillars.foldl (fun s b => pillarS b s) (l.aisles.foldl (fun s b => aisleS b s) (l.areas.foldl (fun s a => areaS a s)
  (l.blocks.foldl (fun s b => blockS b s) (beginS (numbersS [l.height] (wordS wHeight (namesS [l.name] (wordS wLevel s))))))))))
def hallS (h : HallZ) (s : St) : St :=
 endS (h.levels.foldl (fun s l => levelS l s) (beginS (numbersS [h.stage.x, h.stage.y] (wordS wStage (namesS [h.name] (wordS wHall s))))))
def itemWords : List (List UInt8) := [[], wAllow, wDeny, wPrice, wResale, wRefund, wTogether, wSingle]
def opWords : List (List UInt8) := [[], wEq, wNe, wLt, wLe, wGt, wGe]
def ratioS (r : RatioZ) (s : St) : St := wordS (itoa r.num ++ [47] ++ itoa r.den) (requireS (numOk r.den) (requireS (numOk r.num) s))
def ratioIfS (w : List UInt8) (r : RatioZ) (s : St) : St := if r = ⟨0, 1⟩ then s else ratioS r (wordS w s)
def atPoint : List UInt8 → Option (List UInt8 × List UInt8)
 | [] => none
 | c :: r => if c = 46 then some ([], r) else (atPoint r).map fun p => (c :: p.1, p.2)
def partsOf (l : List UInt8) : List (List UInt8) := match atPoint l with | none => [l] | some p => [p.1, p.2]
def testS (t : TestZ) (s : St) : St :=
 let s1 := oneOfS opWords t.op (namesS [t.attr] s)
 if t.name = [] then numbersS [t.n] s1 else namesS (partsOf t.name) (requireS (decide (t.n = 0)) s1)
def restS : List TestZ → St → St
 | [], s => s
 | t :: r, s => restS r (testS t (wordS wAnd s))
def testsS (l : List TestZ) (s : St) : St :=
 if 0 < l.length ∧ l.length ≤ 12 then (match l with | [] => s | t :: r => restS r (testS t s)) else requireS false s
def altsS : List UInt8 → List (List TestZ) → St → St
 | _, [], s => s
 | w, l :: r, s => altsS wOr r (testsS l (wordS w s))
def whenS (c : List (List TestZ)) (s : St) : St := if c.length ≤ 12 then altsS wWhen c s else requireS false s
def none0 : RatioZ := ⟨0, 0⟩
def termsS (x : ItemZ) (s : St) : St :=
 if x.kind = 1 then requireS (decide (x.r = none0) && decide (x.s = none0)) (if x.n ≠ 0 then numbersS [x.n] (wordS wLimit s) else s)
 else if x.kind = 3 then requireS true (ratioIfS wTax x.s (ratioIfS wFee x.r (numbersS [x.n] s)))
 else if x.kind = 4 then requireS (decide (x.n = 0)) (ratioS x.s (wordS wShare (ratioS x.r (wordS wCap s))))
 else if x.kind = 5 then requireS (decide (x.n = 0) && decide (x.s = none0)) (ratioS x.r s)
 else requireS (decide (x.n = 0) && decide (x.r = none0) && decide (x.s = none0)) s
def itemS (x : ItemZ) (s : St) : St := lineS [59] (whenS x.conds (termsS x (namesS [x.name] (oneOfS itemWords x.kind s))))
def rulesS (l : List ItemZ) (s : St) : St := if l.length ≤ 200 then l.foldl (fun s x => itemS x s) s else requireS false s
def startS : St := ⟨[], 0, false⟩
def finishS (s : St) : List UInt8 × Nat := if s.refused then ([], 1) else if (lexAll s.text).2.1 ≠ 0 then ([], 3) else (s.text, 0)
def hallAll (h : HallZ) : List UInt8 × Nat := finishS (hallS h startS)
def rulesAll (l : List ItemZ) : List UInt8 × Nat := finishS (rulesS l startS)
def Inv (s : St) (T : List UInt8) (r : Bool) (n : Nat) : Prop :=
 s.refused = r ∧ s.opn = n ∧ (r = false → (T.length ≤ 20000 → s.text = T) ∧ (20000 < T.length → 20000 < s.text.length))
def AtS (b : Bool) (T : List UInt8) : Prop := decide (T.getLast?.getD 10 = 10) = b
def Runs (n m : Nat) (a b : Bool) (f : St → St) (ok : Bool) (t : List UInt8) : Prop :=
 ∀ s T r, Inv s T r n → (r = false → AtS a T) → Inv (f s) (T ++ t) (r || !ok) m ∧ ((r || !ok) = false → AtS b (T ++ t))
theorem Runs.then {n m k : Nat} {a b c : Bool} {f g : St → St} {ok ok' : Bool} {t t' : List UInt8} (h : Runs n m a b f ok t) (h' : Runs m k b c g ok' t') : Runs n k a c (fun s => g (f s)) (ok && ok') (t ++ t') := by
 intro s T r hi ha
 obtain ⟨h1, h2⟩ := h s T r hi ha
 obtain ⟨h3, h4⟩ := h' _ _ _ h1 h2
 have e : (r || !(ok && ok')) = ((r || !ok) || !ok') := by cases r <;> cases ok <;> cases ok' <;> rfl
 rw [e, ← List.append_assoc]
 exact ⟨h3, h4⟩
theorem Runs.none (n : Nat) (a : Bool) : Runs n n a a (fun s => s) true [] := by
 intro s T r hi ha
 simp only [List.append_nil, Bool.not_true, Bool.or_false]
 exact ⟨hi, ha⟩
theorem Runs.fold {α : Type} {n : Nat} {a : Bool} {f : α → St → St} {ok : α → Bool} {t : α → List UInt8} : ∀ (l : List α), (∀ x ∈ l, Runs n n a a (f x) (ok x) (t x)) → Runs n n a a (fun s => l.foldl (fun s x => f x s) s) (l.all ok) (l.flatMap t)
 | [], _ => Runs.none n a
 | x :: r, h => by
  have := (h x List.mem_cons_self).then (Runs.fold r fun y hy => h y (List.mem_cons_of_mem _ hy))
  simpa using this
theorem Runs.cast {n m : Nat} {a b : Bool} {f g : St → St} {ok ok' : Bool} {t t' : List UInt8} (h : Runs n m a b f ok t) (hf : ∀ s, g s = f s) (ho : ok = ok') (ht : t = t') : Runs n m a b g ok' t' := by
 subst ho ht
 obtain rfl : g = f := funext hf
 exact h
theorem Runs.refuse {n : Nat} {a b : Bool} (t : List UInt8) : Runs n n a b (requireS false) false t := by
 intro s T r ⟨h1, h2, _⟩ _
 refine ⟨⟨?_, h2, fun h => ?_⟩, fun h => ?_⟩
 ·simp [requireS]
 ·simp at h
 ·simp at h
theorem Runs.fail {n m : Nat} {a b b' : Bool} {f : St → St} {t : List UInt8} (h : Runs n m a b f false t) (t' : List UInt8) : Runs n m a b' f false t' := by
 intro s T r hi ha
 obtain ⟨⟨h1, h2, _⟩, _⟩ := h s T r hi ha
 refine ⟨⟨h1, h2, fun h => ?_⟩, fun h => ?_⟩ <;> simp at h
theorem Runs.require {n : Nat} {a : Bool} (ok : Bool) : Runs n n a a (requireS ok) ok [] := by
 cases ok
 ·exact Runs.refuse _
 ·refine Runs.cast (Runs.none n a) (fun s => ?_) rfl rfl
  simp [requireS]
theorem inv_put {s : St} {T : List UInt8} {r : Bool} {n : Nat} (h : Inv s T r n) (p : List UInt8) : Inv (putS p s) (T ++ p) r n := by
 obtain ⟨h1, h2, h3⟩ := h
 unfold putS
 split
 ·rename_i hl
  refine ⟨h1, h2, fun hr => ?_⟩
  obtain ⟨k1, k2⟩ := h3 hr
  have hT : T.length ≤ 20000 := by
   rcases Nat.lt_or_ge 20000 T.length with h | h
   ·have := k2 h; omega
   ·exact h
  have := k1 hT
  exact ⟨fun _ => by show s.text ++ p = T ++ p; rw [this], fun h => by show 20000 < (s.text ++ p).length; rw [this]; exact h⟩
 ·rename_i hl
  refine ⟨h1, h2, fun hr => ?_⟩
  obtain ⟨k1, k2⟩ := h3 hr
  refine ⟨fun h => ?_, fun _ => by omega⟩
  rw [List.length_append] at h
  have := k1 (by omega)
  rw [this] at hl; omega
theorem inv_any {s : St} {T : List UInt8} {r : Bool} {n : Nat} (h : Inv s T r n) (p q : List UInt8) (hp : T.length ≤ 20000 → r = false → p = q) : Inv (putS p s) (T ++ q) r n := by
 by_cases hT : T.length ≤ 20000
 ·by_cases hr : r = false
  ·rw [hp hT hr]; exact inv_put h q
  ·have hp := inv_put h p
   exact ⟨hp.1, hp.2.1, fun h => absurd h hr⟩
 ·have h0 := h
  obtain ⟨h1, h2, h3⟩ := h
  have hput := inv_put h0 p
  refine ⟨hput.1, hput.2.1, fun hr => ⟨fun h => ?_, fun _ => ?_⟩⟩
  ·rw [List.length_append] at h; omega
  ·have := (h3 hr).2 (by omega)
   unfold putS
   rw [if_neg (by omega)]; omega
theorem last_append (T t : List UInt8) (ht : t ≠ []) : (T ++ t).getLast? = t.getLast? := by
 rw [List.getLast?_append]
 cases h : t.getLast? with
 | none => rw [List.getLast?_eq_none_iff] at h; exact absurd h ht
 | some x => rfl
theorem atS_append {b : Bool} {T t : List UInt8} (ht : t ≠ []) (h : decide (t.getLast?.getD 10 = 10) = b) : AtS b (T ++ t) := by
 unfold AtS; rw [last_append T t ht]; exact h
theorem Runs.word {n : Nat} {a : Bool} (x : List UInt8) (hx : x ≠ []) (hl : x.getLast? ≠ some 10) : Runs n n a false (wordS x) true ((if a then tabs n else [32]) ++ x) := by
 intro s T r hi ha
 simp only [Bool.not_true, Bool.or_false]
 have e : ∀ b : List UInt8, T ++ (b ++ x) = (T ++ b) ++ x := fun b => (List.append_assoc _ _ _).symm
 refine ⟨?_, fun _ => ?_⟩
 ·rw [e]
  unfold wordS
  refine inv_put (inv_any hi _ _ fun hT hr => ?_) x
  obtain ⟨_, h2, h3⟩ := hi
  rw [(h3 hr).1 hT, h2]
  have := ha hr
  unfold AtS at this
  unfold beforeOf
  cases a
  ·rw [if_neg (by simpa using this)]; rfl
  ·rw [if_pos (by simpa using this)]; rfl
 ·rw [e]
  refine atS_append hx ?_
  rw [decide_eq_false_iff_not]
  cases h : x.getLast? with
  | none => rw [List.getLast?_eq_none_iff] at h; exact absurd h hx
  | some y => intro e; simp only [Option.getD_some] at e; rw [h, e] at hl; exact hl rfl
theorem Runs.line {n : Nat} (x : List UInt8) : Runs n n false true (lineS x) true (x ++ [10]) := by
 intro s T r hi ha
 simp only [Bool.not_true, Bool.or_false]
 refine ⟨?_, fun _ => ?_⟩
 ·rw [← List.append_assoc]; exact inv_put (inv_put hi x) [10]
 ·rw [← List.append_assoc]; exact atS_append (by simp) (by simp)
theorem Runs.begin {n : Nat} : Runs n (n + 1) false true beginS true [32, 123, 10] := by
 intro s T r hi ha
 have h := ((Runs.word [123] (by simp) (by decide) : Runs n n false false _ _ _).then (Runs.line [])) s T r hi ha
 simp only [Bool.and_true, Bool.not_true, Bool.or_false] at h ⊢
 obtain ⟨⟨h1, h2, h3⟩, h4⟩ := h
 exact ⟨⟨h1, by show _ + 1 = _; rw [h2], h3⟩, h4⟩
theorem Runs.end {n : Nat} : Runs (n + 1) n true true endS true (tabs n ++ [125, 10]) := by
 intro s T r hi ha
 have hi' : Inv { s with opn := s.opn - 1 } T r n := ⟨hi.1, by show s.opn - 1 = n; rw [hi.2.1]; omega, hi.2.2⟩
 have h := ((Runs.word [125] (by simp) (by decide) : Runs n n true false _ _ _).then (Runs.line [])) _ T r hi' ha
 simp only [Bool.and_true, Bool.not_true, Bool.or_false, if_true, List.append_assoc, List.nil_append, List.cons_append] at h ⊢
 exact h
end Foyer.Printer
namespace Foyer.Printer
open Foyer.Lexer Go.Lib
theorem itoa_last (n : Int) : itoa n ≠ [] ∧ (itoa n).getLast? ≠ some 10 := by
 have hd : ∀ m : Nat, decDigits m ≠ [] ∧ (decDigits m).getLast? ≠ some 10 := fun m => by
  obtain ⟨h1, _⟩ := decDigits_digits (m + 1) m (by omega)
  have hl : 1 ≤ (decDigits m).length := by rw [decDigits_length]; exact nDigits_pos m
  refine ⟨fun e => by rw [e] at hl; simp at hl, fun e => ?_⟩
  have := h1 10 (List.mem_of_getLast? e)
  revert this; decide
 unfold itoa
 split
 ·refine ⟨by simp, ?_⟩
  rw [List.getLast?_cons]
  cases h : (decDigits n.natAbs).getLast? with
  | none => rw [List.getLast?_eq_none_iff] at h; exact absurd h (hd _).1
  | some x => intro e; simp only [Option.getD_some, Option.some.injEq] at e; exact (hd _).2 (by rw [h, e])
 ·exact hd _
theorem itoa_ok {n : Int} (h : numOk n = true) : itoa n = decDigits n.toNat ∧ n.toNat < 10000000000 ∧ ((n.toNat : Nat) : Int) = n := by
 unfold numOk at h
 simp only [Bool.and_eq_true, decide_eq_true_eq] at h
 refine ⟨?_, by omega, by omega⟩
 unfold itoa
 rw [if_neg (by omega)]
theorem nameOk_last {l : List UInt8} (h : nameOk l = true) : l ≠ [] ∧ ∀ b ∈ l, isWord b = true := by
 unfold nameOk at h
 simp only [Bool.and_eq_true, decide_eq_true_eq] at h
 refine ⟨fun e => by subst e; simp at h, fun b hb => List.all_eq_true.1 h.2 b hb⟩
theorem word_noLf {l : List UInt8} (h : ∀ b ∈ l, isWord b = true) : l.getLast? ≠ some 10 := fun e => by
 have := h 10 (List.mem_of_getLast? e)
 revert this; decide
theorem joined_ok : ∀ (l : List (List UInt8)), l ≠ [] → l.all nameOk = true → joined l ≠ [] ∧ (joined l).getLast? ≠ some 10
 | [], h, _ => absurd rfl h
 | [a], _, h => by
  have ha : nameOk a = true := by simpa using h
  exact ⟨(nameOk_last ha).1, word_noLf (nameOk_last ha).2⟩
 | a :: b :: r, _, h => by
  have h' : (b :: r).all nameOk = true := by rw [List.all_cons, Bool.and_eq_true] at h; exact h.2
  obtain ⟨h1, h2⟩ := joined_ok (b :: r) (by simp) h'
  refine ⟨by simp [joined], ?_⟩
  rw [joined, List.getLast?_append, List.getLast?_cons]
  cases e : (joined (b :: r)).getLast? with
  | none => rw [List.getLast?_eq_none_iff] at e; exact absurd e h1
  | some x => rw [e] at h2; simpa using h2
theorem Runs.names {n : Nat} {l : List (List UInt8)} (h0 : l ≠ []) : Runs n n false false (namesS l) (l.all nameOk) (32 :: joined l) := by
 cases h : l.all nameOk with
 | false =>
  refine Runs.cast (Runs.refuse (a := false) (b := false) (32 :: joined l)) (fun s => ?_) rfl rfl
  unfold namesS; rw [if_neg (by simp [h])]
 | true =>
  refine Runs.cast (Runs.word (joined l) (joined_ok l h0 h).1 (joined_ok l h0 h).2 : Runs n n false false _ _ _) (fun s => ?_) rfl rfl
  unfold namesS; rw [if_pos h]
theorem Runs.name {n : Nat} (x : List UInt8) : Runs n n false false (namesS [x]) (nameOk x) (32 :: x) :=
 (Runs.names (by simp)).cast (fun _ => rfl) (by simp) (by simp [joined])
theorem Runs.number {n : Nat} (k : Int) : Runs n n false false (numberS k) (numOk k) (32 :: itoa k) :=
 ((Runs.require (numOk k)).then (Runs.word (itoa k) (itoa_last k).1 (itoa_last k).2)).cast (fun _ => rfl) (by simp) (by simp)
def numsT (l : List Int) : List UInt8 := l.flatMap fun k => 32 :: itoa k
theorem Runs.numbers {n : Nat} (l : List Int) : Runs n n false false (numbersS l) (l.all numOk) (numsT l) :=
 (Runs.fold (f := numberS) l fun k _ => Runs.number k).cast (fun _ => rfl) rfl rfl
def wordT (w : List UInt8) : List UInt8 := 32 :: w
theorem Runs.mid {n : Nat} (x : List UInt8) (hx : x ≠ [] := by decide) (hl : x.getLast? ≠ some 10 := by decide) : Runs n n false false (wordS x) true (wordT x) :=
 (Runs.word x hx hl).cast (fun _ => rfl) rfl (by simp [wordT])
theorem Runs.first {n : Nat} (x : List UInt8) (hx : x ≠ [] := by decide) (hl : x.getLast? ≠ some 10 := by decide) : Runs n n true false (wordS x) true (tabs n ++ x) :=
 (Runs.word x hx hl).cast (fun _ => rfl) rfl (by simp)
def kindOk (n : Nat) (k : Int) : Bool := decide (0 < k) && decide (k < n)
theorem Runs.oneOf {n : Nat} {a : Bool} (ws : List (List UInt8)) (k : Int) (hw : ∀ i, i < ws.length → 0 < i → ws.getD i [] ≠ [] ∧ (ws.getD i []).getLast? ≠ some 10) :
  Runs n n a false (oneOfS ws k) (kindOk ws.length k) ((if a then tabs n else [32]) ++ ws.getD k.toNat []) := by
 cases h : kindOk ws.length k with
 | false =>
  refine Runs.cast (Runs.refuse (a := a) (b := false) ((if a then tabs n else [32]) ++ ws.getD k.toNat [])) (fun s => ?_) rfl rfl
  unfold oneOfS; rw [if_neg (fun hh => by unfold kindOk at h; simp [hh.1, hh.2] at h)]
 | true =>
  have hk : 0 < k ∧ k < ws.length := by unfold kindOk at h; simpa using h
  obtain ⟨h1, h2⟩ := hw k.toNat (by omega) (by omega)
  refine Runs.cast (Runs.word (ws.getD k.toNat []) h1 h2) (fun s => ?_) rfl rfl
  unfold oneOfS; rw [if_pos hk]
def boxOk (b : BoxZ) : Bool := [b.x, b.y, b.x2, b.y2].all numOk
def boxT (b : BoxZ) : List UInt8 := numsT [b.x, b.y, b.x2, b.y2]
def markOk (m : MarkZ) : Bool := kindOk 5 m.kind && numOk m.seat && (if m.kind ≠ 4 then decide (m.other = 0) else numOk m.other)
def markT (m : MarkZ) : List UInt8 := wordT (markWords.getD m.kind.toNat []) ++ numsT [m.seat] ++ (if m.kind ≠ 4 then [] else wordT wOf ++ numsT [m.other])
theorem Runs.mark {n : Nat} (m : MarkZ) : Runs n n false false (markS m) (markOk m) (markT m) := by
 have h1 : Runs n n false false (fun s => numbersS [m.seat] (oneOfS markWords m.kind s)) (kindOk 5 m.kind && numOk m.seat) (wordT (markWords.getD m.kind.toNat []) ++ numsT [m.seat]) :=
  ((Runs.oneOf markWords m.kind (by decide)).then (Runs.numbers [m.seat])).cast (fun _ => rfl) (by simp [markWords]) (by simp [wordT])
 by_cases h : m.kind ≠ 4
 ·refine (h1.then (Runs.require (decide (m.other = 0)))).cast (fun s => ?_) ?_ ?_
  ·unfold markS; rw [if_pos h]
  ·unfold markOk; rw [if_pos h]
  ·unfold markT; rw [if_pos h]
 ·refine ((h1.then (Runs.mid wOf)).then (Runs.numbers [m.other])).cast (fun s => ?_) ?_ ?_
  ·unfold markS; rw [if_neg h]
  ·unfold markOk; rw [if_neg h]; simp
  ·unfold markT; rw [if_neg h]; simp
def rowOk (r : RowZ) : Bool := nameOk r.name && numOk r.x && numOk r.y && numOk r.first && numOk r.last && numOk r.step && r.marks.all markOk
def rowT (n : Nat) (r : RowZ) : List UInt8 :=
 tabs n ++ wRow ++ wordT r.name ++ wordT wAt ++ numsT [r.x, r.y] ++ wordT wSeats ++ numsT [r.first] ++ wordT wTo ++ numsT [r.last] ++ wordT wStep ++ numsT [r.step] ++ r.marks.flatMap markT ++ [59, 10]
theorem Runs.row {n : Nat} (r : RowZ) : Runs n n true true (rowS r) (rowOk r) (rowT n r) :=
 ((((((((((((Runs.first wRow).then (Runs.name r.name)).then (Runs.mid wAt)).then (Runs.numbers [r.x, r.y])).then (Runs.mid wSeats)).then (Runs.numbers [r.first])).then (Runs.mid wTo)).then (Runs.numbers [r.last])).then
  (Runs.mid wStep)).then (Runs.numbers [r.step])).then (Runs.fold (f := markS) r.marks fun m _ => Runs.mark m)).then (Runs.line [59])).cast (fun _ => rfl)
  (by simp only [rowOk, List.all_cons, List.all_nil, Bool.and_true, Bool.true_and, Bool.and_assoc]) (by simp only [rowT, wordT, List.append_assoc, List.cons_append, List.nil_append])
def blockOk (b : BlockZ) : Bool := nameOk b.name && b.rows.all rowOk
def blockT (n : Nat) (b : BlockZ) : List UInt8 := tabs n ++ wBlock ++ wordT b.name ++ [32, 123, 10] ++ b.rows.flatMap (rowT (n + 1)) ++ tabs n ++ [125, 10]
theorem Runs.block {n : Nat} (b : BlockZ) : Runs n n true true (blockS b) (blockOk b) (blockT n b) :=
 (((((Runs.first wBlock).then (Runs.name b.name)).then Runs.begin).then (Runs.fold (f := rowS) b.rows fun r _ => Runs.row r)).then Runs.end).cast (fun _ => rfl)
  (by simp only [blockOk, Bool.and_true, Bool.true_and]) (by simp only [blockT, wordT, List.append_assoc, List.cons_append, List.nil_append])
def areaOk (a : AreaZ) : Bool := nameOk a.name && boxOk a.box && numOk a.holds
def areaT (n : Nat) (a : AreaZ) : List UInt8 := tabs n ++ wArea ++ wordT a.name ++ boxT a.box ++ wordT wHolds ++ numsT [a.holds] ++ [59, 10]
theorem Runs.area {n : Nat} (a : AreaZ) : Runs n n true true (areaS a) (areaOk a) (areaT n a) :=
 ((((((Runs.first wArea).then (Runs.name a.name)).then (Runs.numbers [a.box.x, a.box.y, a.box.x2, a.box.y2])).then (Runs.mid wHolds)).then (Runs.numbers [a.holds])).then (Runs.line [59])).cast (fun _ => rfl)
  (by simp only [areaOk, boxOk, List.all_cons, List.all_nil, Bool.and_true, Bool.true_and]) (by simp only [areaT, boxT, wordT, List.append_assoc, List.cons_append, List.nil_append])
def thingT (w : List UInt8) (n : Nat) (b : BoxZ) : List UInt8 := tabs n ++ w ++ boxT b ++ [59, 10]
theorem Runs.aisle {n : Nat} (b : BoxZ) : Runs n n true true (aisleS b) (boxOk b) (thingT wAisle n b) :=
 (((Runs.first wAisle).then (Runs.numbers [b.x, b.y, b.x2, b.y2])).then (Runs.line [59])).cast (fun _ => rfl)
  (by simp only [boxOk, List.all_cons, List.all_nil, Bool.and_true, Bool.true_and]) (by simp only [thingT, boxT, List.append_assoc, List.cons_append, List.nil_append])
theorem Runs.pillar {n : Nat} (b : BoxZ) : Runs n n true true (pillarS b) (boxOk b) (thingT wPillar n b) :=
 (((Runs.first wPillar).then (Runs.numbers [b.x, b.y, b.x2, b.y2])).then (Runs.line [59])).cast (fun _ => rfl)
  (by simp only [boxOk, List.all_cons, List.all_nil, Bool.and_true, Bool.true_and]) (by simp only [thingT, boxT, List.append_assoc, List.cons_append, List.nil_append])
def doorOk (p : PointZ) : Bool := numOk p.x && numOk p.y
def doorT (n : Nat) (p : PointZ) : List UInt8 := tabs n ++ wDoor ++ numsT [p.x, p.y] ++ [59, 10]
theorem Runs.door {n : Nat} (p : PointZ) : Runs n n true true (doorS p) (doorOk p) (doorT n p) :=
 (((Runs.first wDoor).then (Runs.numbers [p.x, p.y])).then (Runs.line [59])).cast (fun _ => rfl)
  (by simp only [doorOk, List.all_cons, List.all_nil, Bool.and_true, Bool.true_and]) (by simp only [doorT, List.append_assoc, List.cons_append, List.nil_append])
def levelOk (l : LevelZ) : Bool := nameOk l.name && numOk l.height && l.blocks.all blockOk && l.areas.all areaOk && l.aisles.all boxOk && l.pillars.all boxOk && l.doors.all doorOk
def itemsT (n : Nat) (l : LevelZ) : List UInt8 :=
 l.blocks.flatMap (blockT n) ++ l.areas.flatMap (areaT n) ++ l.aisles.flatMap (thingT wAisle n) ++ l.pillars.flatMap (thingT wPillar n) ++ l.doors.flatMap (doorT n)
def levelT (n : Nat) (l : LevelZ) : List UInt8 := tabs n ++ wLevel ++ wordT l.name ++ wordT wHeight ++ numsT [l.height] ++ [32, 123, 10] ++ itemsT (n + 1) l ++ tabs n ++ [125, 10]
theorem Runs.level {n : Nat} (l : LevelZ) : Runs n n true true (levelS l) (levelOk l) (levelT n l) :=
 (((((((((((Runs.first wLevel).then (Runs.name l.name)).then (Runs.mid wHeight)).then (Runs.numbers [l.height])).then Runs.begin).then (Runs.fold (f := blockS) l.blocks fun b _ => Runs.block b)).then
  (Runs.fold (f := areaS) l.areas fun b _ => Runs.area b)).then (Runs.fold (f := aisleS) l.aisles fun b _ => Runs.aisle b)).then (Runs.fold (f := pillarS) l.pillars fun b _ => Runs.pillar b)).then
  (Runs.fold (f := doorS) l.doors fun b _ => Runs.door b)).then Runs.end).cast (fun _ => rfl)
  (by simp only [levelOk, List.all_cons, List.all_nil, Bool.and_true, Bool.true_and, Bool.and_assoc]) (by simp only [levelT, itemsT, wordT, List.append_assoc, List.cons_append, List.nil_append])
def hallOk (h : HallZ) : Bool := nameOk h.name && numOk h.stage.x && numOk h.stage.y && h.levels.all levelOk
def hallT (h : HallZ) : List UInt8 := wHall ++ wordT h.name ++ wordT wStage ++ numsT [h.stage.x, h.stage.y] ++ [32, 123, 10] ++ h.levels.flatMap (levelT 1) ++ [125, 10]
theorem Runs.hall (h : HallZ) : Runs 0 0 true true (hallS h) (hallOk h) (hallT h) :=
 (((((((Runs.first wHall).then (Runs.name h.name)).then (Runs.mid wStage)).then (Runs.numbers [h.stage.x, h.stage.y])).then Runs.begin).then (Runs.fold (f := levelS) h.levels fun b _ => Runs.level b)).then Runs.end).cast (fun _ => rfl)
  (by simp only [hallOk, List.all_cons, List.all_nil, Bool.and_true, Bool.true_and, Bool.and_assoc]) (by simp only [hallT, tabs, List.replicate_zero, wordT, List.append_assoc, List.cons_append, List.nil_append])
def ratioOk (r : RatioZ) : Bool := numOk r.num && numOk r.den
def ratioT (r : RatioZ) : List UInt8 := 32 :: (itoa r.num ++ [47] ++ itoa r.den)
theorem Runs.ratio {n : Nat} (r : RatioZ) : Runs n n false false (ratioS r) (ratioOk r) (ratioT r) := by
 have hl : (itoa r.num ++ [47] ++ itoa r.den) ≠ [] ∧ (itoa r.num ++ [47] ++ itoa r.den).getLast? ≠ some 10 := by
  refine ⟨by simp, ?_⟩
  rw [last_append _ _ (itoa_last r.den).1]
  exact (itoa_last r.den).2
 exact (((Runs.require (numOk r.num)).then (Runs.require (numOk r.den))).then (Runs.word _ hl.1 hl.2)).cast (fun _ => rfl) (by simp [ratioOk]) (by simp [ratioT])
def ratioIfT (w : List UInt8) (r : RatioZ) : List UInt8 := if r = ⟨0, 1⟩ then [] else wordT w ++ ratioT r
theorem Runs.ratioIf {n : Nat} (w : List UInt8) (r : RatioZ) (hx : w ≠ [] := by decide) (hl : w.getLast? ≠ some 10 := by decide) : Runs n n false false (ratioIfS w r) (ratioOk r) (ratioIfT w r) := by
 by_cases h : r = ⟨0, 1⟩
 ·subst h
  exact (Runs.none n false).cast (fun s => by unfold ratioIfS; rw [if_pos rfl]) (by decide) (by unfold ratioIfT; rw [if_pos rfl])
 ·exact ((Runs.mid w hx hl).then (Runs.ratio r)).cast (fun s => by unfold ratioIfS; rw [if_neg h]) (by simp) (by unfold ratioIfT; rw [if_neg h])
def testOk (t : TestZ) : Bool := nameOk t.attr && kindOk 7 t.op && (if t.name = [] then numOk t.n else decide (t.n = 0) && (partsOf t.name).all nameOk)
def testT (t : TestZ) : List UInt8 := wordT t.attr ++ wordT (opWords.getD t.op.toNat []) ++ (if t.name = [] then numsT [t.n] else wordT (joined (partsOf t.name)))
theorem parts_ne (l : List UInt8) : partsOf l ≠ [] := by unfold partsOf; split <;> simp
theorem Runs.test {n : Nat} (t : TestZ) : Runs n n false false (testS t) (testOk t) (testT t) := by
 have h1 : Runs n n false false (fun s => oneOfS opWords t.op (namesS [t.attr] s)) (nameOk t.attr && kindOk 7 t.op) (wordT t.attr ++ wordT (opWords.getD t.op.toNat [])) :=
  ((Runs.name t.attr).then (Runs.oneOf opWords t.op (by decide))).cast (fun _ => rfl) (by simp [opWords]) (by simp [wordT])
 by_cases h : t.name = []
 ·exact (h1.then (Runs.numbers [t.n])).cast (fun s => by unfold testS; rw [if_pos h]) (by unfold testOk; rw [if_pos h]; simp) (by unfold testT; rw [if_pos h])
 ·exact ((h1.then (Runs.require (decide (t.n = 0)))).then (Runs.names (parts_ne t.name))).cast (fun s => by unfold testS; rw [if_neg h]) (by unfold testOk; rw [if_neg h]; simp [Bool.and_assoc]) (by unfold testT; rw [if_neg h]; simp [wordT])
def restT (l : List TestZ) : List UInt8 := l.flatMap fun t => wordT wAnd ++ testT t
theorem Runs.rest {n : Nat} : ∀ l : List TestZ, Runs n n false false (restS l) (l.all testOk) (restT l)
 | [] => Runs.none n false
 | t :: r => (((Runs.mid wAnd).then (Runs.test t)).then (Runs.rest r)).cast (fun _ => rfl) (by simp) (by simp [restT])
def testsOk (l : List TestZ) : Bool := decide (0 < l.length) && decide (l.length ≤ 12) && l.all testOk
def testsT : List TestZ → List UInt8
 | [] => []
 | t :: r => testT t ++ restT r
theorem Runs.tests {n : Nat} (l : List TestZ) : Runs n n false false (testsS l) (testsOk l) (testsT l) := by
 by_cases h : 0 < l.length ∧ l.length ≤ 12
 ·cases l with
  | nil => simp at h
  | cons t r =>
   refine ((Runs.test t).then (Runs.rest r)).cast (fun s => ?_) ?_ rfl
   ·unfold testsS; rw [if_pos h]
   ·unfold testsOk; rw [decide_eq_true h.1, decide_eq_true h.2]; simp
 ·refine (Runs.refuse (testsT l)).cast (fun s => ?_) ?_ rfl
  ·unfold testsS; rw [if_neg h]
  ·unfold testsOk
   by_cases h1 : 0 < l.length
   ·rw [decide_eq_false (fun h2 => h ⟨h1, h2⟩)]; simp
   ·rw [decide_eq_false h1]; simp
def altsT : List UInt8 → List (List TestZ) → List UInt8
 | _, [] => []
 | w, l :: r => wordT w ++ testsT l ++ altsT wOr r
theorem Runs.alts {n : Nat} : ∀ (c : List (List TestZ)) (w : List UInt8), w ≠ [] → w.getLast? ≠ some 10 → Runs n n false false (altsS w c) (c.all testsOk) (altsT w c)
 | [], _, _, _ => Runs.none n false
 | l :: r, w, hx, hl => (((Runs.mid w hx hl).then (Runs.tests l)).then (Runs.alts r wOr (by decide) (by decide))).cast (fun _ => rfl) (by simp) (by simp [altsT])
def whenOk (c : List (List TestZ)) : Bool := decide (c.length ≤ 12) && c.all testsOk
theorem Runs.when {n : Nat} (c : List (List TestZ)) : Runs n n false false (whenS c) (whenOk c) (altsT wWhen c) := by
 by_cases h : c.length ≤ 12
 ·exact (Runs.alts c wWhen (by decide) (by decide)).cast (fun s => by unfold whenS; rw [if_pos h]) (by unfold whenOk; rw [decide_eq_true h]; simp) rfl
 ·exact (Runs.refuse (altsT wWhen c)).cast (fun s => by unfold whenS; rw [if_neg h]) (by unfold whenOk; rw [decide_eq_false h]; simp) rfl
def termsOk (x : ItemZ) : Bool :=
 if x.kind = 1 then numOk x.n && (decide (x.r = none0) && decide (x.s = none0))
 else if x.kind = 3 then numOk x.n && ratioOk x.r && ratioOk x.s
 else if x.kind = 4 then ratioOk x.r && ratioOk x.s && decide (x.n = 0)
 else if x.kind = 5 then ratioOk x.r && (decide (x.n = 0) && decide (x.s = none0))
 else decide (x.n = 0) && decide (x.r = none0) && decide (x.s = none0)
def termsT (x : ItemZ) : List UInt8 :=
 if x.kind = 1 then (if x.n ≠ 0 then wordT wLimit ++ numsT [x.n] else [])
 else if x.kind = 3 then numsT [x.n] ++ ratioIfT wFee x.r ++ ratioIfT wTax x.s
 else if x.kind = 4 then wordT wCap ++ ratioT x.r ++ wordT wShare ++ ratioT x.s
 else if x.kind = 5 then ratioT x.r
 else []
theorem Runs.terms {n : Nat} (x : ItemZ) : Runs n n false false (termsS x) (termsOk x) (termsT x) := by
 unfold termsOk termsT
 by_cases h1 : x.kind = 1
 ·rw [if_pos h1, if_pos h1]
  by_cases hn : x.n ≠ 0
  ·rw [if_pos hn]
   exact (((Runs.mid wLimit).then (Runs.numbers [x.n])).then (Runs.require _)).cast (fun s => by unfold termsS; rw [if_pos h1, if_pos hn]) (by simp) (by simp)
  ·rw [if_neg hn]
   have h0 : x.n = 0 := by omega
   exact (Runs.require _).cast (fun s => by unfold termsS; rw [if_pos h1, if_neg hn]) (by rw [h0, show numOk 0 = true from by decide]; simp) rfl
 ·rw [if_neg h1, if_neg h1]
  by_cases h3 : x.kind = 3
  ·rw [if_pos h3, if_pos h3]
   exact ((((Runs.numbers [x.n]).then (Runs.ratioIf wFee x.r)).then (Runs.ratioIf wTax x.s)).then (Runs.require true)).cast (fun s => by unfold termsS; rw [if_neg h1, if_pos h3]) (by simp) (by simp)
  ·rw [if_neg h3, if_neg h3]
   by_cases h4 : x.kind = 4
   ·rw [if_pos h4, if_pos h4]
    exact (((((Runs.mid wCap).then (Runs.ratio x.r)).then (Runs.mid wShare)).then (Runs.ratio x.s)).then (Runs.require _)).cast (fun s => by unfold termsS; rw [if_neg h1, if_neg h3, if_pos h4]) (by simp) (by simp)
   ·rw [if_neg h4, if_neg h4]
    by_cases h5 : x.kind = 5
    ·rw [if_pos h5, if_pos h5]
     exact ((Runs.ratio x.r).then (Runs.require _)).cast (fun s => by unfold termsS; rw [if_neg h1, if_neg h3, if_neg h4, if_pos h5]) (by simp) (by simp)
    ·rw [if_neg h5, if_neg h5]
     exact (Runs.require _).cast (fun s => by unfold termsS; rw [if_neg h1, if_neg h3, if_neg h4, if_neg h5]) rfl rfl
def itemOk (x : ItemZ) : Bool := kindOk 8 x.kind && nameOk x.name && termsOk x && whenOk x.conds
def itemT (x : ItemZ) : List UInt8 := itemWords.getD x.kind.toNat [] ++ wordT x.name ++ termsT x ++ altsT wWhen x.conds ++ [59, 10]
theorem Runs.item (x : ItemZ) : Runs 0 0 true true (itemS x) (itemOk x) (itemT x) :=
 (((((Runs.oneOf itemWords x.kind (by decide)).then (Runs.name x.name)).then (Runs.terms x)).then (Runs.when x.conds)).then (Runs.line [59])).cast (fun _ => rfl)
  (by simp [itemOk, itemWords]) (by simp [itemT, wordT, tabs])
def rulesOk (l : List ItemZ) : Bool := decide (l.length ≤ 200) && l.all itemOk
def rulesT (l : List ItemZ) : List UInt8 := l.flatMap itemT
theorem Runs.rules (l : List ItemZ) : Runs 0 0 true true (rulesS l) (rulesOk l) (rulesT l) := by
 by_cases h : l.length ≤ 200
 ·exact (Runs.fold (f := itemS) l fun x _ => Runs.item x).cast (fun s => by unfold rulesS; rw [if_pos h]) (by unfold rulesOk; rw [decide_eq_true h]; simp) rfl
 ·exact (Runs.refuse (rulesT l)).cast (fun s => by unfold rulesS; rw [if_neg h]) (by unfold rulesOk; rw [decide_eq_false h]; simp) rfl
theorem finish_runs {f : St → St} {ok : Bool} {t : List UInt8} (h : Runs 0 0 true true f ok t) :
  finishS (f startS) = if ok then (if (lexAll t).2.1 = 0 then (t, 0) else ([], 3)) else ([], 1) := by
 obtain ⟨⟨h1, h2, h3⟩, _⟩ := h startS [] false ⟨rfl, rfl, fun _ => ⟨fun _ => rfl, fun h => by simp at h⟩⟩ (fun _ => by unfold AtS; rfl)
 simp only [Bool.false_or, List.nil_append] at h1 h3
 unfold finishS
 rw [h1]
 cases ok with
 | false => rfl
 | true =>
  obtain ⟨k1, k2⟩ := h3 rfl
  simp only [Bool.not_true, Bool.false_eq_true, if_false, if_true]
  by_cases hl : t.length ≤ 20000
  ·rw [k1 hl]
   by_cases he : (lexAll t).2.1 = 0
   ·rw [if_neg (fun h => h he), if_pos he]
   ·rw [if_pos he, if_neg he]
  ·rw [lexAll_long (k2 (by omega)), lexAll_long (by omega : 20000 < t.length)]; rfl
theorem hallAll_eq (h : HallZ) : hallAll h = if hallOk h then (if (lexAll (hallT h)).2.1 = 0 then (hallT h, 0) else ([], 3)) else ([], 1) := finish_runs (Runs.hall h)
theorem rulesAll_eq (l : List ItemZ) : rulesAll l = if rulesOk l then (if (lexAll (rulesT l)).2.1 = 0 then (rulesT l, 0) else ([], 3)) else ([], 1) := finish_runs (Runs.rules l)
end Foyer.Printer
namespace Foyer.Printer
open Foyer.Lexer Go.Lib
def Nx (l : List UInt8) : Prop := ∀ c, l.head? = some c → isWord c = false ∧ c ≠ 61
abbrev Sk := List (Nat × List UInt8 × Nat)
def Mid (t : List UInt8) (e : Sk) : Prop := ∀ a rest us er, Lx (a + t.length) rest us er → Nx rest → (∃ ts, Lx a (t ++ rest) (ts ++ us) er ∧ sans ts = e) ∧ Nx (t ++ rest)
def Lns (t : List UInt8) (e : Sk) : Prop := ∀ a rest us er, Lx (a + t.length) rest us er → ∃ ts, Lx a (t ++ rest) (ts ++ us) er ∧ sans ts = e
theorem sans_append (a b : List Tok) : sans (a ++ b) = sans a ++ sans b := List.map_append
theorem Mid.nil : Mid [] [] := fun a rest us er h hn => ⟨⟨[], by simpa using h, rfl⟩, by simpa using hn⟩
theorem Mid.app {t t' : List UInt8} {e e' : Sk} (h : Mid t e) (h' : Mid t' e') : Mid (t ++ t') (e ++ e') := by
 intro a rest us er hl hn
 obtain ⟨⟨ts', h1, h2⟩, h3⟩ := h' (a + t.length) rest us er (by rw [List.length_append] at hl; rw [Nat.add_assoc]; exact hl) hn
 obtain ⟨⟨ts, h4, h5⟩, h6⟩ := h a _ _ er h1 h3
 refine ⟨⟨ts ++ ts', ?_, by rw [sans_append, h5, h2]⟩, ?_⟩
 ·rw [List.append_assoc, List.append_assoc]; exact h4
 ·rw [List.append_assoc]; exact h6
theorem Mid.flat {α : Type} {t : α → List UInt8} {e : α → Sk} : ∀ (l : List α), (∀ x ∈ l, Mid (t x) (e x)) → Mid (l.flatMap t) (l.flatMap e)
 | [], _ => Mid.nil
 | x :: r, h => by
  rw [List.flatMap_cons, List.flatMap_cons]
  exact (h x List.mem_cons_self).app (Mid.flat r fun y hy => h y (List.mem_cons_of_mem _ hy))
theorem Lns.nil : Lns [] [] := fun a rest us er h => ⟨[], by simpa using h, rfl⟩
theorem Lns.app {t t' : List UInt8} {e e' : Sk} (h : Lns t e) (h' : Lns t' e') : Lns (t ++ t') (e ++ e') := by
 intro a rest us er hl
 obtain ⟨ts', h1, h2⟩ := h' (a + t.length) rest us er (by rw [List.length_append] at hl; rw [Nat.add_assoc]; exact hl)
 obtain ⟨ts, h4, h5⟩ := h a _ _ er h1
 refine ⟨ts ++ ts', ?_, by rw [sans_append, h5, h2]⟩
 rw [List.append_assoc, List.append_assoc]; exact h4
theorem Lns.flat {α : Type} {t : α → List UInt8} {e : α → Sk} : ∀ (l : List α), (∀ x ∈ l, Lns (t x) (e x)) → Lns (l.flatMap t) (l.flatMap e)
 | [], _ => Lns.nil
 | x :: r, h => by
  rw [List.flatMap_cons, List.flatMap_cons]
  exact (h x List.mem_cons_self).app (Lns.flat r fun y hy => h y (List.mem_cons_of_mem _ hy))
theorem Mid.cast {t t' : List UInt8} {e e' : Sk} (h : Mid t e) (ht : t = t') (he : e = e') : Mid t' e' := by subst ht he; exact h
theorem Lns.cast {t t' : List UInt8} {e e' : Sk} (h : Lns t e) (ht : t = t') (he : e = e') : Lns t' e' := by subst ht he; exact h
theorem lx_tok {a k v : Nat} {g T rest : List UInt8} {us : List Tok} {er : Option (Nat × Nat)} (hg : gm false g = some false) (hT : IsTok k T v rest.head?) (hl : Lx (a + (g ++ T).length) rest us er) :
  ∃ ts, Lx a ((g ++ T) ++ rest) (ts ++ us) er ∧ sans ts = [(k, T, v)] := by
 refine ⟨[⟨k, T, v, a + g.length⟩], ?_, rfl⟩
 rw [List.append_assoc]
 exact Lx.good a g T rest k v us er hg hT (by rw [List.length_append, ← Nat.add_assoc] at hl; exact hl)
def Word (k : Nat) (T : List UInt8) (v : Nat) : Prop := ∀ rest : List UInt8, Nx rest → IsTok k T v rest.head?
theorem word_name {T : List UInt8} (h : nameOk T = true) : Word 1 T 0 := by
 intro rest hn
 have hw := (nameOk_last h).2
 unfold nameOk at h
 simp only [Bool.and_eq_true, decide_eq_true_eq] at h
 refine Or.inl ⟨rfl, rfl, h.1.1, ?_, hw, fun b hb => (hn b hb).1⟩
 cases T with
 | nil => simp at h
 | cons c r => exact ⟨c, r, rfl, h.1.2⟩
theorem word_num {n : Int} (h : numOk n = true) : Word 2 (itoa n) n.toNat := by
 obtain ⟨h1, h2, h3⟩ := itoa_ok h
 intro rest hn
 obtain ⟨hd, hv⟩ := decDigits_digits (n.toNat + 1) n.toNat (by omega)
 obtain ⟨l1, l10⟩ := decDigits_ten h2
 rw [h1]
 exact Or.inr (Or.inl ⟨rfl, hv.symm, l1, l10, hd, fun b hb => (hn b hb).1⟩)
theorem word_sym {c : UInt8} (h : isSym c = true) : Word 3 [c] 0 := fun _ _ => Or.inr (Or.inr (Or.inl ⟨rfl, rfl, c, rfl, h⟩))
theorem word_cmp {c : UInt8} (h : isCmp c = true) (h33 : c.toNat ≠ 33) : Word 3 [c] 0 := fun _ hn => Or.inr (Or.inr (Or.inr (Or.inl ⟨rfl, rfl, c, rfl, h, h33, fun e => (hn 61 e).2 rfl⟩)))
theorem word_two {c : UInt8} (h : isCmp c = true) : Word 3 [c, 61] 0 := fun _ _ => Or.inr (Or.inr (Or.inr (Or.inr ⟨rfl, rfl, c, rfl, h⟩)))
theorem nx_blank (l : List UInt8) : Nx (32 :: l) := by
 intro c hc
 simp only [List.head?_cons, Option.some.injEq] at hc
 subst hc; decide
theorem Mid.word {k v : Nat} {T : List UInt8} (h : Word k T v) : Mid (wordT T) [(k, T, v)] := by
 intro a rest us er hl hn
 refine ⟨?_, nx_blank _⟩
 exact lx_tok (g := [32]) rfl (h rest hn) hl
theorem Mid.sym {c : UInt8} (h : isSym c = true) (h61 : c ≠ 61) : Mid [c] [(3, [c], 0)] := by
 intro a rest us er hl hn
 refine ⟨lx_tok (g := []) rfl (word_sym h rest hn) hl, ?_⟩
 intro d hd
 simp only [List.cons_append, List.nil_append, List.head?_cons, Option.some.injEq] at hd
 subst hd
 exact ⟨(sym_not c h).2.2.2.2.2, h61⟩
theorem Mid.behind {c : UInt8} {k v : Nat} {T : List UInt8} (h : isSym c = true) (h61 : c ≠ 61) (hw : Word k T v) : Mid (c :: T) [(3, [c], 0), (k, T, v)] := by
 intro a rest us er hl hn
 obtain ⟨ts, h1, h2⟩ := lx_tok (a := a + 1) (g := []) rfl (hw rest hn) (by simp only [List.nil_append]; rw [show a + 1 + T.length = a + (c :: T).length by rw [List.length_cons]; omega]; exact hl)
 obtain ⟨ts', h3, h4⟩ := lx_tok (a := a) (g := []) (T := [c]) (k := 3) (v := 0) (rest := T ++ rest) rfl (Or.inr (Or.inr (Or.inl ⟨rfl, rfl, c, rfl, h⟩))) (by simpa using h1)
 refine ⟨⟨ts' ++ ts, by simpa using h3, by rw [sans_append, h4, h2]; rfl⟩, ?_⟩
 intro d hd
 simp only [List.cons_append, List.head?_cons, Option.some.injEq] at hd
 subst hd
 exact ⟨(sym_not c h).2.2.2.2.2, h61⟩
theorem gm_tabs : ∀ n, gm false (tabs n) = some false
 | 0 => rfl
 | n + 1 => by
  show gm false (9 :: tabs n) = _
  rw [gm, if_pos (by decide)]
  exact gm_tabs n
theorem nx_lf (l : List UInt8) : Nx (10 :: l) := by
 intro c hc
 simp only [List.head?_cons, Option.some.injEq] at hc
 subst hc; decide
theorem Lns.line {n k v : Nat} {T m : List UInt8} {e : Sk} (hT : Word k T v) (hm : Mid m e) : Lns (tabs n ++ T ++ m ++ [10]) ((k, T, v) :: e) := by
 intro a rest us er hl
 have h0 : Lx (a + (tabs n ++ T).length + m.length) ([10] ++ rest) us er := lx_gap [10] rfl (by
  rw [show a + (tabs n ++ T).length + m.length + ([10] : List UInt8).length = a + (tabs n ++ T ++ m ++ [10]).length by simp only [List.length_append]; omega]; exact hl)
 obtain ⟨⟨ts, h1, h2⟩, h3⟩ := hm (a + (tabs n ++ T).length) ([10] ++ rest) us er h0 (nx_lf _)
 obtain ⟨ts', h4, h5⟩ := lx_tok (gm_tabs n) (hT _ h3) h1
 refine ⟨ts' ++ ts, ?_, by rw [sans_append, h5, h2]; rfl⟩
 simpa only [List.append_assoc] using h4
theorem Lns.text {t : List UInt8} {e : Sk} (h : Lns t e) : ∃ ts, Lx 0 t ts none ∧ sans ts = e := by
 obtain ⟨ts, h1, h2⟩ := h 0 [] [] none (Lx.nil _ _ rfl)
 exact ⟨ts, by simpa using h1, h2⟩
def nm (w : List UInt8) : Nat × List UInt8 × Nat := (1, w, 0)
def nu (n : Int) : Nat × List UInt8 × Nat := (2, itoa n, n.toNat)
def sy (c : UInt8) : Nat × List UInt8 × Nat := (3, [c], 0)
theorem Mid.name {T : List UInt8} (h : nameOk T = true) : Mid (wordT T) [nm T] := Mid.word (word_name h)
theorem Mid.nums : ∀ {l : List Int}, l.all numOk = true → Mid (numsT l) (l.map nu) := fun {l} h => by
 have := Mid.flat (t := fun k => 32 :: itoa k) (e := fun k => [nu k]) l fun k hk => Mid.word (word_num (List.all_eq_true.1 h k hk))
 exact this.cast rfl (by simp [List.map_eq_flatMap])
theorem Mid.semi : Mid [59] [sy 59] := Mid.sym (by decide) (by decide)
theorem Mid.open : Mid [32, 123] [sy 123] := Mid.word (word_sym (by decide))
theorem Lns.close (n : Nat) : Lns (tabs n ++ [125, 10]) [sy 125] := (Lns.line (n := n) (T := [125]) (m := []) (word_sym (by decide)) Mid.nil).cast (by simp) rfl
def boxE (b : BoxZ) : Sk := [nu b.x, nu b.y, nu b.x2, nu b.y2]
def markE (m : MarkZ) : Sk := nm (markWords.getD m.kind.toNat []) :: nu m.seat :: (if m.kind ≠ 4 then [] else [nm wOf, nu m.other])
theorem mark_mid {m : MarkZ} (h : markOk m = true) : Mid (markT m) (markE m) := by
 unfold markOk at h
 rw [Bool.and_eq_true, Bool.and_eq_true] at h
 obtain ⟨⟨hk, hs⟩, ho⟩ := h
 have hw : nameOk (markWords.getD m.kind.toNat []) = true := by
  unfold kindOk at hk
  simp only [Bool.and_eq_true, decide_eq_true_eq] at hk
  have : m.kind.toNat < 5 ∧ 0 < m.kind.toNat := by omega
  revert this
  generalize m.kind.toNat = i
  revert i
  intro i hi
  have := (by decide : ∀ i, i < 5 → 0 < i → nameOk (markWords.getD i []) = true)
  exact this i hi.1 hi.2
 have h1 := (Mid.name hw).app (Mid.nums (l := [m.seat]) (by simp [hs]))
 unfold markT markE
 by_cases h4 : m.kind ≠ 4
 ·rw [if_pos h4, if_pos h4]
  exact (h1.app Mid.nil).cast rfl (by simp)
 ·rw [if_neg h4, if_neg h4]
  rw [if_neg h4] at ho
  exact (h1.app ((Mid.name (T := wOf) (by decide)).app (Mid.nums (l := [m.other]) (by simp [ho])))).cast rfl (by simp)
def rowE (r : RowZ) : Sk :=
 [nm wRow, nm r.name, nm wAt, nu r.x, nu r.y, nm wSeats, nu r.first, nm wTo, nu r.last, nm wStep, nu r.step] ++ r.marks.flatMap markE ++ [sy 59]
theorem all_of {α : Type} {p : α → Bool} {l : List α} (h : l.all p = true) : ∀ x ∈ l, p x = true := List.all_eq_true.1 h
theorem row_lns {r : RowZ} (n : Nat) (h : rowOk r = true) : Lns (rowT n r) (rowE r) := by
 unfold rowOk at h
 simp only [Bool.and_eq_true] at h
 obtain ⟨⟨⟨⟨⟨⟨h1, h2⟩, h3⟩, h4⟩, h5⟩, h6⟩, h7⟩ := h
 have hm := ((((((((((Mid.name h1).app (Mid.name (T := wAt) (by decide))).app (Mid.nums (l := [r.x, r.y]) (by simp [h2, h3]))).app (Mid.name (T := wSeats) (by decide))).app (Mid.nums (l := [r.first]) (by simp [h4]))).app
  (Mid.name (T := wTo) (by decide))).app (Mid.nums (l := [r.last]) (by simp [h5]))).app (Mid.name (T := wStep) (by decide))).app (Mid.nums (l := [r.step]) (by simp [h6]))).app (Mid.flat r.marks fun m hm => mark_mid (all_of h7 m hm))).app Mid.semi
 exact (Lns.line (n := n) (word_name (T := wRow) (by decide)) hm).cast (by simp only [rowT, List.append_assoc, List.cons_append, List.nil_append]) (by simp [rowE, nm])
def blockE (b : BlockZ) : Sk := [nm wBlock, nm b.name, sy 123] ++ b.rows.flatMap rowE ++ [sy 125]
theorem block_lns {b : BlockZ} (n : Nat) (h : blockOk b = true) : Lns (blockT n b) (blockE b) := by
 unfold blockOk at h
 simp only [Bool.and_eq_true] at h
 have h0 := Lns.line (n := n) (word_name (T := wBlock) (by decide)) ((Mid.name h.1).app Mid.open)
 exact ((h0.app (Lns.flat b.rows fun r hr => row_lns (n + 1) (all_of h.2 r hr))).app (Lns.close n)).cast (by simp only [blockT, List.append_assoc, List.cons_append, List.nil_append]) (by simp [blockE, nm])
def areaE (a : AreaZ) : Sk := [nm wArea, nm a.name] ++ boxE a.box ++ [nm wHolds, nu a.holds, sy 59]
theorem box_mid {b : BoxZ} (h : boxOk b = true) : Mid (boxT b) (boxE b) := (Mid.nums h).cast rfl rfl
theorem area_lns {a : AreaZ} (n : Nat) (h : areaOk a = true) : Lns (areaT n a) (areaE a) := by
 unfold areaOk at h
 simp only [Bool.and_eq_true] at h
 have hm := ((((Mid.name h.1.1).app (box_mid h.1.2)).app (Mid.name (T := wHolds) (by decide))).app (Mid.nums (l := [a.holds]) (by simp [h.2]))).app Mid.semi
 exact (Lns.line (n := n) (word_name (T := wArea) (by decide)) hm).cast (by simp only [areaT, List.append_assoc, List.cons_append, List.nil_append]) (by simp [areaE, nm])
def thingE (w : List UInt8) (b : BoxZ) : Sk := [nm w] ++ boxE b ++ [sy 59]
theorem thing_lns {b : BoxZ} {w : List UInt8} (hw : nameOk w = true) (n : Nat) (h : boxOk b = true) : Lns (thingT w n b) (thingE w b) :=
 (Lns.line (n := n) (word_name hw) ((box_mid h).app Mid.semi)).cast (by simp only [thingT, List.append_assoc, List.cons_append, List.nil_append]) (by simp [thingE, nm])
def doorE (p : PointZ) : Sk := [nm wDoor, nu p.x, nu p.y, sy 59]
theorem door_lns {p : PointZ} (n : Nat) (h : doorOk p = true) : Lns (doorT n p) (doorE p) := by
 unfold doorOk at h
 simp only [Bool.and_eq_true] at h
 exact (Lns.line (n := n) (word_name (T := wDoor) (by decide)) ((Mid.nums (l := [p.x, p.y]) (by simp [h.1, h.2])).app Mid.semi)).cast (by simp only [doorT, List.append_assoc, List.cons_append, List.nil_append]) (by simp [doorE, nm])
def itemsE (l : LevelZ) : Sk := l.blocks.flatMap blockE ++ l.areas.flatMap areaE ++ l.aisles.flatMap (thingE wAisle) ++ l.pillars.flatMap (thingE wPillar) ++ l.doors.flatMap doorE
def levelE (l : LevelZ) : Sk := [nm wLevel, nm l.name, nm wHeight, nu l.height, sy 123] ++ itemsE l ++ [sy 125]
theorem level_lns {l : LevelZ} (n : Nat) (h : levelOk l = true) : Lns (levelT n l) (levelE l) := by
 unfold levelOk at h
 simp only [Bool.and_eq_true] at h
 obtain ⟨⟨⟨⟨⟨⟨h1, h2⟩, h3⟩, h4⟩, h5⟩, h6⟩, h7⟩ := h
 have h0 := Lns.line (n := n) (word_name (T := wLevel) (by decide)) ((((Mid.name h1).app (Mid.name (T := wHeight) (by decide))).app (Mid.nums (l := [l.height]) (by simp [h2]))).app Mid.open)
 have hi : Lns (itemsT (n + 1) l) (itemsE l) := ((((Lns.flat l.blocks fun b hb => block_lns (n + 1) (all_of h3 b hb)).app (Lns.flat l.areas fun b hb => area_lns (n + 1) (all_of h4 b hb))).app
  (Lns.flat l.aisles fun b hb => thing_lns (w := wAisle) (by decide) (n + 1) (all_of h5 b hb))).app (Lns.flat l.pillars fun b hb => thing_lns (w := wPillar) (by decide) (n + 1) (all_of h6 b hb))).app
  (Lns.flat l.doors fun b hb => door_lns (n + 1) (all_of h7 b hb))
 exact ((h0.app hi).app (Lns.close n)).cast (by simp only [levelT, List.append_assoc, List.cons_append, List.nil_append]) (by simp [levelE, nm])
def hallE (h : HallZ) : Sk := [nm wHall, nm h.name, nm wStage, nu h.stage.x, nu h.stage.y, sy 123] ++ h.levels.flatMap levelE ++ [sy 125]
theorem hall_lns {h : HallZ} (hh : hallOk h = true) : Lns (hallT h) (hallE h) := by
 unfold hallOk at hh
 simp only [Bool.and_eq_true] at hh
 obtain ⟨⟨⟨h1, h2⟩, h3⟩, h4⟩ := hh
 have h0 := Lns.line (n := 0) (word_name (T := wHall) (by decide)) ((((Mid.name h1).app (Mid.name (T := wStage) (by decide))).app (Mid.nums (l := [h.stage.x, h.stage.y]) (by simp [h2, h3]))).app Mid.open)
 exact ((h0.app (Lns.flat h.levels fun b hb => level_lns 1 (all_of h4 b hb))).app (Lns.close 0)).cast (by simp only [hallT, tabs, List.replicate_zero, List.append_assoc, List.cons_append, List.nil_append]) (by simp [hallE, nm])
def ratioE (r : RatioZ) : Sk := [nu r.num, sy 47, nu r.den]
theorem ratio_mid {r : RatioZ} (h : ratioOk r = true) : Mid (ratioT r) (ratioE r) := by
 unfold ratioOk at h
 rw [Bool.and_eq_true] at h
 exact ((Mid.word (word_num h.1)).app (Mid.behind (c := 47) (by decide) (by decide) (word_num h.2))).cast (by simp [ratioT, wordT]) rfl
def ratioIfE (w : List UInt8) (r : RatioZ) : Sk := if r = ⟨0, 1⟩ then [] else nm w :: ratioE r
theorem ratioIf_mid {r : RatioZ} {w : List UInt8} (hw : nameOk w = true) (h : ratioOk r = true) : Mid (ratioIfT w r) (ratioIfE w r) := by
 unfold ratioIfT ratioIfE
 by_cases h1 : r = ⟨0, 1⟩
 ·rw [if_pos h1, if_pos h1]; exact Mid.nil
 ·rw [if_neg h1, if_neg h1]; exact (Mid.name hw).app (ratio_mid h)
def namesE (l : List UInt8) : Sk := match atPoint l with | none => [nm l] | some p => [nm p.1, sy 46, nm p.2]
theorem atPoint_some : ∀ {l : List UInt8} {p : List UInt8 × List UInt8}, atPoint l = some p → l = p.1 ++ 46 :: p.2
 | [], p, h => by cases h
 | c :: r, p, h => by
  unfold atPoint at h
  split at h
  ·rename_i hc; cases h; subst hc; rfl
  ·cases hr : atPoint r with
   | none => rw [hr] at h; cases h
   | some q => rw [hr] at h; cases h; rw [List.cons_append, ← atPoint_some hr]
theorem joined_parts (l : List UInt8) : joined (partsOf l) = l := by
 unfold partsOf
 cases h : atPoint l with
 | none => rfl
 | some p => exact (atPoint_some h).symm
theorem names_mid {l : List UInt8} (h : (partsOf l).all nameOk = true) : Mid (wordT (joined (partsOf l))) (namesE l) := by
 rw [joined_parts]
 unfold partsOf at h
 unfold namesE
 cases hp : atPoint l with
 | none => rw [hp] at h; exact Mid.name (by simpa using h)
 | some p =>
  rw [hp] at h
  simp only [List.all_cons, List.all_nil, Bool.and_true, Bool.and_eq_true] at h
  have := (Mid.name h.1).app (Mid.behind (c := 46) (by decide) (by decide) (word_name h.2))
  refine this.cast ?_ rfl
  rw [atPoint_some hp]; rfl
def opE (k : Int) : Nat × List UInt8 × Nat := (3, opWords.getD k.toNat [], 0)
def testE (t : TestZ) : Sk := [nm t.attr, opE t.op] ++ (if t.name = [] then [nu t.n] else namesE t.name)
theorem test_mid {t : TestZ} (h : testOk t = true) : Mid (testT t) (testE t) := by
 unfold testOk at h
 rw [Bool.and_eq_true, Bool.and_eq_true] at h
 obtain ⟨⟨h1, h2⟩, h3⟩ := h
 have ho : Word 3 (opWords.getD t.op.toNat []) 0 := by
  unfold kindOk at h2
  simp only [Bool.and_eq_true, decide_eq_true_eq] at h2
  have h7 : t.op.toNat < 7 ∧ 0 < t.op.toNat := by omega
  obtain ⟨i, hi⟩ : ∃ i, t.op.toNat = i := ⟨_, rfl⟩
  rw [hi] at h7 ⊢
  have : i = 1 ∨ i = 2 ∨ i = 3 ∨ i = 4 ∨ i = 5 ∨ i = 6 := by omega
  rcases this with rfl | rfl | rfl | rfl | rfl | rfl
  ·exact word_sym (by decide)
  ·exact word_two (by decide)
  ·exact word_cmp (by decide) (by decide)
  ·exact word_two (by decide)
  ·exact word_cmp (by decide) (by decide)
  ·exact word_two (by decide)
 have h12 := (Mid.name h1).app (Mid.word ho)
 unfold testT testE
 by_cases hn : t.name = []
 ·rw [if_pos hn] at h3
  rw [if_pos hn, if_pos hn]
  exact (h12.app (Mid.nums (l := [t.n]) (by simp [h3]))).cast rfl (by simp [opE])
 ·rw [if_neg hn] at h3
  rw [if_neg hn, if_neg hn]
  rw [Bool.and_eq_true] at h3
  exact (h12.app (names_mid h3.2)).cast rfl (by simp [opE])
def restE (l : List TestZ) : Sk := l.flatMap fun t => nm wAnd :: testE t
def testsE : List TestZ → Sk
 | [] => []
 | t :: r => testE t ++ restE r
theorem tests_mid {l : List TestZ} (h : testsOk l = true) : Mid (testsT l) (testsE l) := by
 unfold testsOk at h
 rw [Bool.and_eq_true] at h
 have ha := all_of h.2
 cases l with
 | nil => exact Mid.nil
 | cons t r =>
  refine (test_mid (ha t List.mem_cons_self)).app ?_
  exact Mid.flat r fun u hu => ((Mid.name (T := wAnd) (by decide)).app (test_mid (ha u (List.mem_cons_of_mem _ hu)))).cast rfl rfl
def altsE : List UInt8 → List (List TestZ) → Sk
 | _, [] => []
 | w, l :: r => nm w :: testsE l ++ altsE wOr r
theorem alts_mid : ∀ {c : List (List TestZ)} {w : List UInt8}, nameOk w = true → c.all testsOk = true → Mid (altsT w c) (altsE w c)
 | [], _, _, _ => Mid.nil
 | l :: r, w, hw, h => by
  rw [List.all_cons, Bool.and_eq_true] at h
  exact (((Mid.name hw).app (tests_mid h.1)).app (alts_mid (w := wOr) (by decide) h.2)).cast rfl (by simp [altsE])
def termsE (x : ItemZ) : Sk :=
 if x.kind = 1 then (if x.n ≠ 0 then [nm wLimit, nu x.n] else [])
 else if x.kind = 3 then nu x.n :: ratioIfE wFee x.r ++ ratioIfE wTax x.s
 else if x.kind = 4 then nm wCap :: ratioE x.r ++ nm wShare :: ratioE x.s
 else if x.kind = 5 then ratioE x.r
 else []
theorem terms_mid {x : ItemZ} (h : termsOk x = true) : Mid (termsT x) (termsE x) := by
 unfold termsOk at h
 unfold termsT termsE
 by_cases h1 : x.kind = 1
 ·rw [if_pos h1] at h
  rw [if_pos h1, if_pos h1]
  rw [Bool.and_eq_true] at h
  by_cases hn : x.n ≠ 0
  ·rw [if_pos hn, if_pos hn]
   exact (Mid.name (T := wLimit) (by decide)).app (Mid.nums (l := [x.n]) (by simp [h.1]))
  ·rw [if_neg hn, if_neg hn]; exact Mid.nil
 ·rw [if_neg h1] at h
  rw [if_neg h1, if_neg h1]
  by_cases h3 : x.kind = 3
  ·rw [if_pos h3] at h
   rw [if_pos h3, if_pos h3]
   rw [Bool.and_eq_true, Bool.and_eq_true] at h
   exact (((Mid.nums (l := [x.n]) (by simp [h.1.1])).app (ratioIf_mid (w := wFee) (by decide) h.1.2)).app (ratioIf_mid (w := wTax) (by decide) h.2)).cast rfl (by simp)
  ·rw [if_neg h3] at h
   rw [if_neg h3, if_neg h3]
   by_cases h4 : x.kind = 4
   ·rw [if_pos h4] at h
    rw [if_pos h4, if_pos h4]
    rw [Bool.and_eq_true, Bool.and_eq_true] at h
    exact ((((Mid.name (T := wCap) (by decide)).app (ratio_mid h.1.1)).app (Mid.name (T := wShare) (by decide))).app (ratio_mid h.1.2)).cast rfl (by simp)
   ·rw [if_neg h4] at h
    rw [if_neg h4, if_neg h4]
    by_cases h5 : x.kind = 5
    ·rw [if_pos h5] at h
     rw [if_pos h5, if_pos h5]
     rw [Bool.and_eq_true] at h
     exact ratio_mid h.1
    ·rw [if_neg h5, if_neg h5]; exact Mid.nil
def itemE (x : ItemZ) : Sk := nm (itemWords.getD x.kind.toNat []) :: nm x.name :: (termsE x ++ altsE wWhen x.conds ++ [sy 59])
theorem item_lns {x : ItemZ} (h : itemOk x = true) : Lns (itemT x) (itemE x) := by
 unfold itemOk at h
 rw [Bool.and_eq_true, Bool.and_eq_true, Bool.and_eq_true] at h
 obtain ⟨⟨⟨h1, h2⟩, h3⟩, h4⟩ := h
 have hw : nameOk (itemWords.getD x.kind.toNat []) = true := by
  unfold kindOk at h1
  simp only [Bool.and_eq_true, decide_eq_true_eq] at h1
  exact (by decide : ∀ i, i < 8 → 0 < i → nameOk (itemWords.getD i []) = true) x.kind.toNat (by omega) (by omega)
 unfold whenOk at h4
 rw [Bool.and_eq_true] at h4
 exact (Lns.line (n := 0) (word_name hw) ((((Mid.name h2).app (terms_mid h3)).app (alts_mid (w := wWhen) (by decide) h4.2)).app Mid.semi)).cast (by simp [itemT, tabs]) (by simp [itemE, nm])
def rulesE (l : List ItemZ) : Sk := l.flatMap itemE
theorem rules_lns {l : List ItemZ} (h : rulesOk l = true) : Lns (rulesT l) (rulesE l) := by
 unfold rulesOk at h
 rw [Bool.and_eq_true] at h
 exact Lns.flat l fun x hx => item_lns (all_of h.2 x hx)
theorem text_toks {t : List UInt8} {e : Sk} (h : Lns t e) : ((lexAll t).2.1 = 0 ∧ ∃ ts, lexAll t = (ts, 0, 0) ∧ sans ts = e ∧ ts.length ≤ 5000) ∨ (lexAll t).2.1 = 3 := by
 obtain ⟨ts, h1, h2⟩ := h.text
 by_cases hl : t.length ≤ 20000
 ·by_cases h5 : ts.length ≤ 5000
  ·rw [lexAll_done hl h1 h5]
   exact Or.inl ⟨rfl, ts, rfl, h2, h5⟩
  ·right
   obtain ⟨pre, u, us, rfl, hp⟩ : ∃ pre u us, ts = pre ++ u :: us ∧ pre.length = 5000 := by
    have hd : ts.drop 5000 ≠ [] := by rw [ne_eq, List.drop_eq_nil_iff]; omega
    obtain ⟨u, us, hu⟩ := List.exists_cons_of_ne_nil hd
    exact ⟨ts.take 5000, u, us, by rw [← hu, List.take_append_drop], by rw [List.length_take]; omega⟩
   rw [lexAll_many hl h1 hp]
 ·rw [lexAll_long (by omega)]; exact Or.inr rfl
end Foyer.Printer
