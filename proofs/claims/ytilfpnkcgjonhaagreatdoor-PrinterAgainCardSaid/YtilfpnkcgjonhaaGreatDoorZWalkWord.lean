/-
  The walks of lines and words.
-/
import Derived.Test.YtilfpnkcgjonhaaGreatDoorZWalkPut
import Derived.Test.YtilfpnkcgjonhaaGreatDoorZShelf
namespace Go.Proofs.YtilfpnkcgjonhaaGreatDoor.Pr
open Go.RowKit Go.Sort Foyer.Printer
theorem tabs_length (n : Nat) : (tabs n).length = n := by simp [tabs]
set_option maxRecDepth 100000 in
set_option maxHeartbeats 4000000 in
theorem repeat_tabs (n : Nat) (hn : n ≤ 9) (w : World) : Calls Tryz.prog 63 #[.string ⟨#[9]⟩, .int .i64 (n : Nat)] w fun e w' => e = .returned (.string ⟨(tabs n).toArray⟩) ∧ w' = w := by
 have HP : Hid (∀ (p : ByteArray) (y : Bool), Lib.hasPrefix p.data.toList [9] = y → ∀ W, Calls Tryz.prog 95 #[.string p, .string ⟨#[9]⟩] W fun e w' => e = .returned (.bool y) ∧ w' = W) := hid fun p y h W => by
  subst h; exact Tryz.strings_HasPrefix p ⟨#[9]⟩ W
 have HM : Hid (∀ m : Nat, m ≤ 9 → ∀ W, Calls Tryz.prog 94 #[.int .u64 1, .int .u64 (m : Nat)] W fun e w' => e = .returned (.tuple #[.int .u64 0, .int .u64 (m : Nat)]) ∧ w' = W) := hid fun m hm W => by
  refine (Tryz.bits_Mul 1 m (by decide) (by omega) W).mono ?_
  rintro e w' ⟨rfl, rfl⟩
  rw [Nat.one_mul, Nat.div_eq_of_lt (by omega), Nat.mod_eq_of_lt (by omega)]
  exact ⟨rfl, rfl⟩
 by_cases h1 : n ≤ 1
 ·have h2 : n = 0 ∨ n = 1 := by omega
  rcases h2 with rfl | rfl <;>
  ·go_enter Tryz.func63, Tryz.ntmps63
   go_wp2
   go_ret
   exact ⟨rfl, rfl⟩
 ·have h9 : n = 2 ∨ n = 3 ∨ n = 4 ∨ n = 5 ∨ n = 6 ∨ n = 7 ∨ n = 8 ∨ n = 9 := by omega
  rcases h9 with rfl | rfl | rfl | rfl | rfl | rfl | rfl | rfl <;>
  ·go_enter Tryz.func63, Tryz.ntmps63
   go_wp2_with fail
   refine (HM.out _ (by omega) _).mono ?_; rintro e w1 ⟨rfl, rfl⟩
   go_wp2_with fail
   refine (HP.out _ false (by kernel_rfl) _).mono ?_; rintro e w1 ⟨rfl, rfl⟩
   go_wp2_with fail
   refine (HP.out _ false (by kernel_rfl) _).mono ?_; rintro e w1 ⟨rfl, rfl⟩
   go_wp2_with fail
   refine (HP.out _ false (by kernel_rfl) _).mono ?_; rintro e w1 ⟨rfl, rfl⟩
   go_wp2_with fail
   refine (HP.out _ false (by kernel_rfl) _).mono ?_; rintro e w1 ⟨rfl, rfl⟩
   go_wp2_with fail
   refine (HP.out _ true (by kernel_rfl) _).mono ?_; rintro e w1 ⟨rfl, rfl⟩
   go_wp2
   go_ret
   exact ⟨rfl, rfl⟩
theorem put_two {B b : Nat} {T : TypeId} (x y : List UInt8) (hx : x.length ≤ 90) (hy : y.length ≤ 90) (w : World) (v : Value) (s : St) (h : WR B b T w v s) (hB : B ≤ w.heap.size) :
  Calls Tryz.prog 64 #[.pointer (some ⟨b, 0, none⟩), .slice (some ⟨w.heap.size, 0, none⟩) 2 2] (w.alloc (.cells #[.string ⟨x.toArray⟩, .string ⟨y.toArray⟩] 9)) fun e w' => e = .returned (.tuple #[]) ∧ Step B b T w v (putS y (putS x s)) w' := by
 have hb : Below w.heap.size w (w.alloc (.cells #[.string ⟨x.toArray⟩, .string ⟨y.toArray⟩] 9)) := (Below.refl _ _).alloc (Nat.le_refl _) _
 have hlt := h.lt
 refine (put_any x y hx hy w.heap.size _ v s (h.later hb) (by omega) (fun e => ?_) (Blk.new _ _ _) (by simp; omega)).mono ?_
 ·have := (h.vlow e).2; omega
 ·rintro e w' ⟨rfl, v', h1, h2⟩
  exact ⟨rfl, v', h1, h2.later hb⟩
set_option maxRecDepth 100000 in
set_option maxHeartbeats 1000000 in
theorem line_any {B b : Nat} {T : TypeId} (x : List UInt8) (hx : x.length ≤ 90) (w : World) (v : Value) (s : St) (h : WR B b T w v s) (hB : B ≤ w.heap.size) :
  Calls Tryz.prog 68 #[.pointer (some ⟨b, 0, none⟩), .string ⟨x.toArray⟩] w fun e w' => e = .returned (.tuple #[]) ∧ Step B b T w v (lineS x s) w' := by
 have HP := hid (put_two x [10] hx (by decide) w v s h hB)
 clear h
 go_enter Tryz.func68, Tryz.ntmps68
 go_wp2_with fail
 refine HP.out.mono ?_; rintro e w1 ⟨rfl, h1⟩
 have H1 := hid h1; clear h1
 go_wp2
 go_end0
 exact ⟨rfl, H1.out⟩
theorem put_drew {B b : Nat} {T : TypeId} (x y : List UInt8) (hx : x.length ≤ 90) (hy : y.length ≤ 90) (w : World) (v : Value) (s : St) (h : WR B b T w v s) (hB : B ≤ w.heap.size) (k : Nat) :
  Calls Tryz.prog 64 #[.pointer (some ⟨b, 0, none⟩), .slice (some ⟨w.heap.size, 0, none⟩) 2 2] ((w.drewN k).alloc (.cells #[.string ⟨x.toArray⟩, .string ⟨y.toArray⟩] 9)) fun e w' => e = .returned (.tuple #[]) ∧ Step B b T w v (putS y (putS x s)) w' := by
 have hb : Below w.heap.size w (w.drewN k) := below_drewN (Below.refl _ _) k
 refine (put_two x y hx hy (w.drewN k) v s (h.later hb) hB).mono ?_
 rintro e w' ⟨rfl, v', h1, h2⟩
 exact ⟨rfl, v', h1, h2.later hb⟩
theorem byteCells_at {l : List UInt8} {i : Nat} {c : UInt8} (h : l[i]? = some c) : (Lib.byteCells l)[i]? = some (.int .u8 c.toNat) := by
 simp [Lib.byteCells, h]
set_option maxRecDepth 100000 in
set_option maxHeartbeats 4000000 in
theorem word_any {B b : Nat} {T : TypeId} (x : List UInt8) (hx : x.length ≤ 90) (w : World) (v : Value) (s : St) (h : WR B b T w v s) (hB : B ≤ w.heap.size) :
  Calls Tryz.prog 38 #[.pointer (some ⟨b, 0, none⟩), .string ⟨x.toArray⟩] w fun e w' => e = .returned (.tuple #[]) ∧ Step B b T w v (wordS x s) w' := by
 have hbl : (beforeOf s.text s.opn).length ≤ 90 := by
  unfold beforeOf; split
  ·rw [tabs_length]; have := h.low; omega
  ·decide
 have HP := hid (put_drew (beforeOf s.text s.opn) x hbl hx w v s h hB)
 have HR := hid (repeat_tabs s.opn h.low)
 have c0 := h.cells.cell (i := 0) rfl
 have c1 := h.cells.cell (i := 1) rfl
 have hw : wordS x s = putS x (putS (beforeOf s.text s.opn) s) := rfl
 rw [hw]
 clear hw hbl
 obtain ⟨n, hn⟩ : ∃ n, s.text.length = n := ⟨_, rfl⟩
 by_cases h0 : n = 0
 ·have ht : s.text = [] := List.eq_nil_of_length_eq_zero (by omega)
  have hbe : beforeOf s.text s.opn = tabs s.opn := by rw [ht]; rfl
  rw [hbe] at HP ⊢
  obtain ⟨a, c, rfl⟩ := h.slice
  rw [hn, h0] at c0 HP ⊢
  generalize tabs s.opn = tb at *
  clear h hbe ht hn h0 hB
  go_enter Tryz.func38, Tryz.ntmps38
  go_upto_region 1 with fail
  go_quiet (fail)
  go_wp2_with fail
  refine (HR.out _).mono ?_; rintro e w1 ⟨rfl, rfl⟩
  go_wp2_with fail
  refine (HP.out _).mono ?_; rintro e w2 ⟨rfl, h1⟩
  have H1 := hid h1; clear h1
  go_wp2
  go_end0
  exact ⟨rfl, H1.out⟩
 ·obtain ⟨l, hl⟩ : ∃ l, s.text.getLast? = some l := ⟨_, List.getLast?_eq_some_getLast (fun e => by rw [e] at hn; exact h0 hn.symm)⟩
  obtain ⟨g, cap, rfl, hg⟩ : ∃ g cap, v = .slice (some ⟨g, 0, none⟩) n cap ∧ w.cell? ⟨g, n - 1, none⟩ = some (.int .u8 l.toNat) := by
   obtain ⟨g, cap, hv, _⟩ := h.own.form (by omega)
   refine ⟨g, cap, by rw [hv, hn], ?_⟩
   have := h.own.cells (g := g) (by rw [hv]; rfl) (n - 1) _ (byteCells_at (c := l) (by rw [← hn, ← List.getLast?_eq_getElem?]; exact hl))
   rw [add_plain, Nat.zero_add] at this
   exact this
  have hn0 : ((n : Int) == 0) = false := by rw [beq_eq_false_iff_ne]; omega
  obtain ⟨m, hm⟩ : ∃ m, n = m + 1 := ⟨n - 1, by omega⟩
  rw [show n - 1 = m by omega] at hg
  have hsub : (n : Int) - 1 = (m : Int) := by omega
  have hwr : IntKind.i64.wrap (m : Int) = (m : Int) := by have := h.short; rw [IntKind.wrap_i64]; omega
  have hm0 : (0 : Int) ≤ m := by omega
  have hm1 : (m : Int) < n := by omega
  clear hm
  by_cases h10 : l = 10
  ·have hbe : beforeOf s.text s.opn = tabs s.opn := by unfold beforeOf; rw [hl, h10]; rfl
   rw [hbe] at HP ⊢
   subst h10
   generalize tabs s.opn = tb at *
   clear h hbe hn h0 hB hl
   go_enter Tryz.func38, Tryz.ntmps38
   go_upto_region 1 with fail
   go_quiet (fail)
   go_wp2_with fail
   refine (HR.out _).mono ?_; rintro e w1 ⟨rfl, rfl⟩
   go_wp2_with fail
   refine (HP.out _).mono ?_; rintro e w2 ⟨rfl, h1⟩
   have H1 := hid h1; clear h1
   go_wp2
   go_end0
   exact ⟨rfl, H1.out⟩
  ·have hbe : beforeOf s.text s.opn = [32] := by unfold beforeOf; rw [hl, if_neg (by simpa using h10)]
   have hl10 : ((l.toNat : Int) == 10) = false := by
    rw [beq_eq_false_iff_ne]
    intro e
    apply h10
    apply UInt8.toNat_inj.1
    show l.toNat = 10
    omega
   rw [hbe] at HP ⊢
   generalize l.toNat = ln at *
   clear h hbe hn h0 hB hl h10
   go_enter Tryz.func38, Tryz.ntmps38
   go_upto_region 1 with fail
   go_quiet (fail)
   go_wp2_with fail
   refine (HP.out _).mono ?_; rintro e w2 ⟨rfl, h1⟩
   have H1 := hid h1; clear h1
   go_wp2
   go_end0
   exact ⟨rfl, H1.out⟩
end Go.Proofs.YtilfpnkcgjonhaaGreatDoor.Pr
