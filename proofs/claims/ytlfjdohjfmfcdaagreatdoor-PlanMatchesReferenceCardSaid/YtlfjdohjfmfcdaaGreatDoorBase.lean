/-
  What all walks share: cells and blocks of a world, strings as lists of bytes, slices of strings that came in, bounds of numbers.
-/
import Derived.Test.YtlfjdohjfmfcdaaGreatDoorProg
import Derived.WalkKit
import Derived.WalkLawsBesides
import Derived.WalkSpells
import Derived.RegionTactic
import Derived.BigQuiet
import Derived.Deep.QuietTactic
import Derived.Outline
import Derived.Lib.Hide
import Derived.Below
import Derived.Sort.Grow
import Derived.SliceStrings
namespace Go.Proofs.YtlfjdohjfmfcdaaGreatDoor
open Go.RowKit Go.Sort

/-! ### Worlds -/
theorem lt_of_cell {w : World} {a : Addr} {v : Value} (h : w.cell? a = some v) : a.block < w.heap.size := by
  rcases Nat.lt_or_ge a.block w.heap.size with h' | h'
  · exact h'
  · simp [World.cell?, Array.getElem?_eq_none h'] at h
theorem below_trans {B : Nat} {w w1 w2 : World} (h1 : Below B w w1) (hB : B ≤ w.heap.size) (h2 : Below w1.heap.size w1 w2) : Below B w w2 :=
  h1.trans (h2.mono (Nat.le_trans hB h1.size))
theorem below_drewN {w w1 : World} {B : Nat} (h : Below B w w1) : ∀ n, Below B w (w1.drewN n) := fun _ => ⟨h.os, h.tape, h.output, h.size, h.block⟩
theorem below_grow' (w : World) (k : Nat) (os : Array Obj) : Below w.heap.size w (grow (w.drewN k) os) :=
  ⟨rfl, rfl, rfl, by show w.heap.size ≤ (w.heap ++ os).size; rw [Array.size_append]; omega, fun j hj => by
    show (w.heap ++ os)[j]? = w.heap[j]?
    exact Array.getElem?_append_left hj⟩
theorem grown_of_below {w w' : World} (h : Below w.heap.size w w') : w.grownBy w' none := ⟨h.os, h.tape, h.output, h.size, fun k hk _ => h.block k hk⟩
theorem own_kept {w w' : World} {B e s n : Nat} {v : Value} {xs : List Value} (h : w.ownsRow B e s v n xs) (hb : Below w.heap.size w w') : w'.ownsRow B e s v n xs := by
  cases v with
  | slice a m c =>
    refine h.kept (grown_of_below hb) ?_
    cases a with
    | none => exact Or.inl rfl
    | some a => exact Or.inr (by simp [Value.ownBlock])
  | _ => exact h.kept (grown_of_below hb) (Or.inl rfl)
theorem own_cast {w : World} {B e s n m : Nat} {v : Value} {xs ys : List Value} (h : w.ownsRow B e s v n xs) (hn : n = m) (hx : xs = ys) : w.ownsRow B e s v m ys := by
  subst hn hx; exact h
theorem add_plain (b o j : Nat) : (⟨b, o, none⟩ : Addr).add j = ⟨b, o + j, none⟩ := by unfold Addr.add; split <;> simp_all
/-- The call's beginning and a world behind it. -/
def Since (w w' : World) : Prop := Below w.heap.size w w'
theorem Since.refl (w : World) : Since w w := Below.refl _ _
theorem Since.call {w w1 w2 : World} (h : Since w w1) (hb : Below w1.heap.size w1 w2) : Since w w2 := Below.trans h (hb.mono h.size)
theorem Since.alloc {w w1 : World} (h : Since w w1) (o : Obj) : Since w (w1.alloc o) := Below.alloc h h.size o
theorem Since.drewN {w w1 : World} (h : Since w w1) (n : Nat) : Since w (w1.drewN n) := below_drewN h n

/-! ### Strings -/
theorem size_of_list (l : List UInt8) : (⟨l.toArray⟩ : ByteArray).size = l.length := by simp [ByteArray.size]
theorem ba_eq (x : ByteArray) : x = ⟨x.data.toList.toArray⟩ := by simp
/-- A beginning of a string, as a list. -/
theorem cut_list (a : ByteArray) (n : Nat) : ∃ l : List UInt8, a.extract 0 n = ⟨l.toArray⟩ ∧ l = a.data.toList.take n := by
  refine ⟨(a.extract 0 n).data.toList, ba_eq _, ?_⟩
  rw [ByteArray.data_extract]; simp
/-- A part of a string, as a list. -/
theorem part_list (a : ByteArray) (i n : Nat) : ∃ l : List UInt8, a.extract i n = ⟨l.toArray⟩ ∧ l = (a.data.toList.take n).drop i := by
  refine ⟨(a.extract i n).data.toList, ba_eq _, ?_⟩
  rw [ByteArray.data_extract]
  simp [Array.toList_extract, List.take_drop]
  by_cases h : i ≤ n
  · rw [show i + (n - i) = n by omega]
  · rw [List.drop_eq_nil_of_le (by rw [List.length_take]; omega), List.drop_eq_nil_of_le (by rw [List.length_take]; omega)]
theorem str_append (a b : List UInt8) : (⟨a.toArray⟩ : ByteArray) ++ ⟨b.toArray⟩ = ⟨(a ++ b).toArray⟩ := by
  apply ByteArray.ext
  rw [ByteArray.data_append]
  simp

/-! ### Numbers -/
theorem u8_bounds {n : Int} (h : (Lit.int .u8 n).wf = true) : 0 ≤ n ∧ n < 256 := by
  simp [Lit.wf, IntKind.min, IntKind.max, IntKind.bits, IntKind.signed] at h; omega
theorem u16_bounds {n : Int} (h : (Lit.int .u16 n).wf = true) : 0 ≤ n ∧ n < 65536 := by
  simp [Lit.wf, IntKind.min, IntKind.max, IntKind.bits, IntKind.signed] at h; omega
theorem i64_bounds {n : Int} (h : (Lit.int .i64 n).wf = true) : -9223372036854775808 ≤ n ∧ n ≤ 9223372036854775807 := by
  simp [Lit.wf, IntKind.min, IntKind.max, IntKind.bits, IntKind.signed] at h; omega

/-! ### Slices of strings -/
/-- A slice of strings that is read. -/
def RdS (w : World) (p : Option Addr) (ls : List (List UInt8)) : Prop :=
  ls = [] ∨ ∃ b off, p = some ⟨b, off, none⟩ ∧ b < w.heap.size ∧ ∀ j, j < ls.length → w.cell? ⟨b, off + j, none⟩ = some (.string ⟨(ls.getD j []).toArray⟩)
theorem RdS.below {w w' : World} {p : Option Addr} {ls : List (List UInt8)} (h : RdS w p ls) {B : Nat} (hB : w.heap.size ≤ B) (hb : Below B w w') : RdS w' p ls := by
  rcases h with h | ⟨b, off, rfl, hlt, hc⟩
  · exact Or.inl h
  · exact Or.inr ⟨b, off, rfl, Nat.lt_of_lt_of_le hlt hb.size, fun j hj => by rw [hb.cell (Nat.lt_of_lt_of_le hlt hB)]; exact hc j hj⟩
theorem rd_one (w : World) (a : List UInt8) (T : TypeId) : RdS (w.alloc (.cells #[.string ⟨a.toArray⟩] T)) (some ⟨w.heap.size, 0, none⟩) [a] := by
  refine Or.inr ⟨w.heap.size, 0, rfl, by simp, fun j hj => ?_⟩
  match j, hj with
  | 0, _ => simp
theorem rd_two (w : World) (a b : List UInt8) (T : TypeId) : RdS (w.alloc (.cells #[.string ⟨a.toArray⟩, .string ⟨b.toArray⟩] T)) (some ⟨w.heap.size, 0, none⟩) [a, b] := by
  refine Or.inr ⟨w.heap.size, 0, rfl, by simp, fun j hj => ?_⟩
  match j, hj with
  | 0, _ => simp
  | 1, _ => simp
/-- A slice of strings that came in. -/
structure IsStrs (w : World) (a : Option Addr) (len : Nat) (ls : List (List UInt8)) : Prop where
  small : len ≤ maxLen
  length : ls.length = len
  rd : RdS w a ls
  each : ∀ t ∈ ls, t.length ≤ maxLen
theorem isStrs_nil (w : World) : IsStrs w none 0 [] := ⟨by unfold maxLen; omega, rfl, Or.inl rfl, by simp⟩
theorem isStrs_of {w : World} {a : Addr} {len cap : Nat} {ss : List ByteArray} (hl : len ≤ cap) (hm : cap ≤ maxLen) (hs : ss.length = cap)
    (hc : ∀ i, i < ss.length → w.cell? (a.add i) = some (.string (ss.getD i ByteArray.empty))) (hz : ∀ s ∈ ss, s.size ≤ maxLen) : ∃ ls, IsStrs w (some a) len ls := by
  refine ⟨(ss.take len).map fun s => s.data.toList, by omega, by simp; omega, ?_, ?_⟩
  · by_cases h0 : len = 0
    · subst h0; exact Or.inl (by simp)
    · obtain ⟨b, off, sp⟩ := a
      have h1 := hc 0 (by omega)
      have hsp : sp = none := by
        cases sp with
        | none => rfl
        | some q =>
          exfalso
          simp [World.cell?, Addr.add] at h1
          split at h1 <;> simp_all
      subst hsp
      refine Or.inr ⟨b, off, rfl, lt_of_cell (by rw [add_plain] at h1; exact h1), fun j hj => ?_⟩
      have hj' : j < len := by simp at hj; omega
      have h2 := hc j (by omega)
      rw [add_plain] at h2
      rw [h2]
      have e : ((ss.take len).map fun s => s.data.toList).getD j [] = (ss.getD j ByteArray.empty).data.toList := by
        have hjs : j < ss.length := by omega
        simp [List.getD_eq_getElem?_getD, hj', List.getElem?_eq_getElem hjs]
      rw [e, ← ba_eq]
  · intro t ht
    obtain ⟨s, hs', rfl⟩ := List.mem_map.1 ht
    have := hz s (List.mem_of_mem_take hs')
    simpa using this
theorem IsStrs.since {w w1 : World} {a : Option Addr} {len : Nat} {ls : List (List UInt8)} (h : IsStrs w a len ls) (hs : Since w w1) : IsStrs w1 a len ls :=
  ⟨h.small, h.length, h.rd.below (Nat.le_refl _) hs, h.each⟩
end Go.Proofs.YtlfjdohjfmfcdaaGreatDoor
