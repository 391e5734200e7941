/-
  What all walks share: cells and blocks of a world, strings as lists of bytes, slices of strings that came in, bounds of numbers.
-/
import Derived.Test.YtilfpnkcgjonhaaGreatDoorProg
import Derived.WalkKit
import Derived.WalkLawsBesides
import Derived.WalkSpells
import Derived.RegionTactic
import Derived.BigQuiet
import Derived.Deep.QuietTactic
import Derived.Outline
import Derived.Lib.Hide
import Derived.Below
import Derived.Sort.Grow
import Derived.SliceStrings
import Derived.Deep.MidRow
import Derived.OwnWalkIn
import Derived.Laws.IdiomStrings
import Derived.RangeFuncOwn
namespace Go.Proofs.YtilfpnkcgjonhaaGreatDoor
open Go.RowKit Go.Sort
theorem aA {α : Type} {l : List α} {i : Nat} {a : α} : l.toArray.setIfInBounds i a = (l.set i a).toArray := by simp only [List.setIfInBounds_toArray]
theorem aB {α : Type} {a : α} {l : List α} {b : α} : (a :: l).set 0 b = b :: l := rfl
theorem aC {α : Type} {a : α} {l : List α} {n : Nat} {b : α} : (a :: l).set (n + 1) b = a :: l.set n b := rfl
theorem hid {p : Prop} (h : p) : Go.RowKit.Hid p := h
theorem lt_of_cell {w : World} {a : Addr} {v : Value} (h : w.cell? a = some v) : a.block < w.heap.size := by
 rcases Nat.lt_or_ge a.block w.heap.size with h' | h'
 ·exact h'
 ·simp [World.cell?, Array.getElem?_eq_none h'] at h
theorem below_drewN {w w1 : World} {B : Nat} (h : Below B w w1) : ∀ n, Below B w (w1.drewN n) := fun _ => ⟨h.os, h.tape, h.output, h.size, h.block⟩
theorem below_grow' (w : World) (k : Nat) (os : Array Obj) : Below w.heap.size w (grow (w.drewN k) os) :=
 ⟨rfl, rfl, rfl, by show w.heap.size ≤ (w.heap ++ os).size; rw [Array.size_append]; omega, fun j hj => by
  show (w.heap ++ os)[j]? = w.heap[j]?
  exact Array.getElem?_append_left hj⟩
theorem grown_of_below {w w' : World} (h : Below w.heap.size w w') : w.grownBy w' none := ⟨h.os, h.tape, h.output, h.size, fun k hk _ => h.block k hk⟩
theorem own_kept {w w' : World} {B e s n : Nat} {v : Value} {xs : List Value} (h : w.ownsRow B e s v n xs) (hb : Below w.heap.size w w') : w'.ownsRow B e s v n xs := by
 cases v with
 | slice a m c =>
  refine h.kept (grown_of_below hb) ?_
  cases a with
  | none => exact Or.inl rfl
  | some a => exact Or.inr (by simp [Value.ownBlock])
 | _ => exact h.kept (grown_of_below hb) (Or.inl rfl)
theorem own_cast {w : World} {B e s n m : Nat} {v : Value} {xs ys : List Value} (h : w.ownsRow B e s v n xs) (hn : n = m) (hx : xs = ys) : w.ownsRow B e s v m ys := by
 subst hn hx; exact h
theorem add_plain (b o j : Nat) : (⟨b, o, none⟩ : Addr).add j = ⟨b, o + j, none⟩ := by unfold Addr.add; split <;> simp_all
def Since (w w' : World) : Prop := Below w.heap.size w w'
theorem Since.refl (w : World) : Since w w := Below.refl _ _
theorem Since.call {w w1 w2 : World} (h : Since w w1) (hb : Below w1.heap.size w1 w2) : Since w w2 := Below.trans h (hb.mono h.size)
theorem Since.alloc {w w1 : World} (h : Since w w1) (o : Obj) : Since w (w1.alloc o) := Below.alloc h h.size o
theorem Since.drewN {w w1 : World} (h : Since w w1) (n : Nat) : Since w (w1.drewN n) := below_drewN h n
theorem size_of_list (l : List UInt8) : (⟨l.toArray⟩ : ByteArray).size = l.length := by simp [ByteArray.size]
theorem ba_eq (x : ByteArray) : x = ⟨x.data.toList.toArray⟩ := by simp
theorem part_list (a : ByteArray) (i n : Nat) : ∃ l : List UInt8, a.extract i n = ⟨l.toArray⟩ ∧ l = (a.data.toList.take n).drop i := by
 refine ⟨(a.extract i n).data.toList, ba_eq _, ?_⟩
 rw [ByteArray.data_extract]
 simp [Array.toList_extract, List.take_drop]
 by_cases h : i ≤ n
 ·rw [show i + (n - i) = n by omega]
 ·rw [List.drop_eq_nil_of_le (by rw [List.length_take]; omega), List.drop_eq_nil_of_le (by rw [List.length_take]; omega)]
theorem str_append (a b : List UInt8) : (⟨a.toArray⟩ : ByteArray) ++ ⟨b.toArray⟩ = ⟨(a ++ b).toArray⟩ := by
 apply ByteArray.ext
 rw [ByteArray.data_append]
 simp
def RdS (w : World) (p : Option Addr) (ls : List (List UInt8)) : Prop :=
 ls = [] ∨ ∃ b off, p = some ⟨b, off, none⟩ ∧ b < w.heap.size ∧ ∀ j, j < ls.length → w.cell? ⟨b, off + j, none⟩ = some (.string ⟨(ls.getD j []).toArray⟩)
theorem RdS.below {w w' : World} {p : Option Addr} {ls : List (List UInt8)} (h : RdS w p ls) {B : Nat} (hB : w.heap.size ≤ B) (hb : Below B w w') : RdS w' p ls := by
 rcases h with h | ⟨b, off, rfl, hlt, hc⟩
 ·exact Or.inl h
 ·exact Or.inr ⟨b, off, rfl, Nat.lt_of_lt_of_le hlt hb.size, fun j hj => by rw [hb.cell (Nat.lt_of_lt_of_le hlt hB)]; exact hc j hj⟩
structure IsStrs (w : World) (a : Option Addr) (len : Nat) (ls : List (List UInt8)) : Prop where
 small : len ≤ maxLen
 length : ls.length = len
 rd : RdS w a ls
 each : ∀ t ∈ ls, t.length ≤ maxLen
theorem IsStrs.since {w w1 : World} {a : Option Addr} {len : Nat} {ls : List (List UInt8)} (h : IsStrs w a len ls) (hs : Since w w1) : IsStrs w1 a len ls :=
 ⟨h.small, h.length, h.rd.below (Nat.le_refl _) hs, h.each⟩
end Go.Proofs.YtilfpnkcgjonhaaGreatDoor
namespace Go.Proofs.YtilfpnkcgjonhaaGreatDoor
open Go.RowKit
theorem results_cell_mid {P : Program} {fn : Func} {p : Tmp} {ty : TypeId} (h : fn.results = #[.cell p ty]) (tmps : Array Value) (w : World) (b : Nat) (cs : List Value) (d : TypeDesc)
  (hp : tmps.getD p undef = .pointer (some ⟨b, 0, none⟩)) (hc : w.rangeAt b 0 cs)
  (hu : P.underlying ty = some d) (hd : d.isRow = true) (hi : (P.info? ty).map (·.size) = some cs.length) :
  (results fn tmps).run P w = .ok (.agg cs.toArray) w := by
 have hp' : tmps[p]?.getD undef = .pointer (some ⟨b, 0, none⟩) := by simpa using hp
 simp [results, h, hp', asAddr, run_loadVar_mid w b 0 ty cs d hc hu hd hi]
theorem below_setCells {B b : Nat} {a : World} (hb : B ≤ b) : ∀ (vs : List Value) (o : Nat) (w : World), Below B a w → Below B a (w.setCells b o vs)
 | [], _, _, h => h
 | v :: r, o, _, h => below_setCells hb r (o + 1) _ (h.setCell (p := ⟨b, o, none⟩) hb v)
theorem cell_past {W : World} {a : Addr} {v : Value} (o : Obj) (h : W.cell? a = some v) : (W.alloc o).cell? a = some v := cell_kept h (World.grownBy_alloc W o none) (fun r e => by cases e)
theorem frozen_past {W : World} {a : Addr} {v : Value} (o : Obj) (h : W.cell? a = some v) (hf : W.frozen? a = false) : (W.alloc o).frozen? a = false := (frozen_kept h (World.grownBy_alloc W o none) (fun r e => by cases e)).trans hf
theorem cell_fresh (W : World) (n : Nat) (v : Value) (t : TypeId) (j : Nat) (hj : j < n) : (W.alloc (.cells (Array.replicate n v) t)).cell? ⟨W.heap.size, j, none⟩ = some v ∧ (W.alloc (.cells (Array.replicate n v) t)).frozen? ⟨W.heap.size, j, none⟩ = false := by
 refine ⟨?_, by simp⟩
 rw [World.cell?_alloc_mark]; simp [hj]
end Go.Proofs.YtilfpnkcgjonhaaGreatDoor
