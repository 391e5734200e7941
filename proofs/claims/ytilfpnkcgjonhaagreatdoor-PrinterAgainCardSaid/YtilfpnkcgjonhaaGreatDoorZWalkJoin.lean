/-
  The walk of strings.Join at one and at two elements.
-/
import Derived.Test.YtilfpnkcgjonhaaGreatDoorZWalkWord
import Derived.Test.YtilfpnkcgjonhaaGreatDoorZBuild
namespace Go.Proofs.YtilfpnkcgjonhaaGreatDoor.Pr
open Go.RowKit Go.Sort Foyer.Printer
set_option maxHeartbeats 2000000 in
set_option maxRecDepth 100000 in
theorem grow_any (B b n : Nat) (w : World) (hB : B ≤ b) (hbk : w.heap[b]? = some (.cells #[.pointer none, .slice none 0 0] 173 (0, 0))) (hBw : B ≤ w.heap.size) (hn : n ≤ 1000) (h0 : 0 < n) :
  Calls Tryz.prog 96 #[.pointer (some ⟨b, 0, none⟩), .int .i64 (n : Nat)] w fun e w' => e = .returned (.tuple #[]) ∧ Holds B b [] w' ∧ Below B w w' := by
 have HC := hid (check_fresh b w hbk)
 have hbk1 : (w.setCell ⟨b, 0, none⟩ (.pointer (some ⟨b, 0, none⟩))).heap[b]? = some (.cells #[.pointer (some ⟨b, 0, none⟩), .slice none 0 0] 173 (0, 0)) := by
  simp [World.setCell, Array.getElem?_modify, hbk]
 have hb1 : Below B w (w.setCell ⟨b, 0, none⟩ (.pointer (some ⟨b, 0, none⟩))) := (Below.refl B w).setCell (p := ⟨b, 0, none⟩) hB _
 have hs1 : B ≤ (w.setCell ⟨b, 0, none⟩ (.pointer (some ⟨b, 0, none⟩))).heap.size := Nat.le_trans hBw hb1.size
 clear hbk
 have HB1 := hid hb1
 clear hb1
 go_enter Tryz.func96, Tryz.ntmps96
 go_wp2_with fail
 refine HC.out.mono ?_; rintro e w1 ⟨rfl, rfl⟩
 generalize w.setCell ⟨b, 0, none⟩ (.pointer (some ⟨b, 0, none⟩)) = W at *
 have c1 : W.cell? ⟨b, 1, none⟩ = some (.slice none 0 0) := by rw [Lib.cell_of_heap hbk1]; rfl
 have hlt : decide ((0 : Int) < n) = true := by rw [decide_eq_true_eq]; omega
 have HG : Hid (∀ k, Calls Tryz.prog 133 #[.pointer (some ⟨b, 0, none⟩), .int .i64 (n : Nat)] (W.drewN k) fun e w' => e = .returned (.tuple #[]) ∧ Holds B b [] w' ∧ Below B (W.drewN k) w') :=
  hid fun k => Tryz.Builder_grow_fresh B b n (W.drewN k) hB hbk1 hs1 (by omega)
 clear hbk1
 go_upto_region 3 with fail
 go_quiet (fail)
 go_wp2_with fail
 refine (HG.out _).mono ?_; rintro e w1 ⟨rfl, h1, h2⟩
 have H1 := hid h1; have H2 := hid ((below_drewN HB1.out _).trans h2)
 clear h1 h2
 go_wp2
 go_end0
 exact ⟨rfl, H1.out, H2.out⟩
theorem join_one (q off cap : Nat) (x : List UInt8) (w : World) (h : w.cell? ⟨q, off, none⟩ = some (.string ⟨x.toArray⟩)) :
  Calls Tryz.prog 66 #[.slice (some ⟨q, off, none⟩) 1 cap, .string ⟨#[46]⟩] w fun e w' => e = .returned (.string ⟨x.toArray⟩) ∧ Below w.heap.size w w' := by
 go_enter Tryz.func66, Tryz.ntmps66
 go_wp2
 go_ret
 exact ⟨rfl, Below.refl _ _⟩
set_option maxHeartbeats 4000000 in
set_option maxRecDepth 100000 in
theorem join_two (q off cap : Nat) (x y : List UInt8) (hx : x.length ≤ 400) (hy : y.length ≤ 400) (w : World) (hq : q < w.heap.size) (hc : 2 ≤ cap) (h0 : w.cell? ⟨q, off, none⟩ = some (.string ⟨x.toArray⟩)) (h1 : w.cell? ⟨q, off + 1, none⟩ = some (.string ⟨y.toArray⟩)) :
  Calls Tryz.prog 66 #[.slice (some ⟨q, off, none⟩) 2 cap, .string ⟨#[46]⟩] w fun e w' => e = .returned (.string ⟨(x ++ 46 :: y).toArray⟩) ∧ Below w.heap.size w w' := by
 have hx2 : (x.toArray.size : Nat) = x.length := by simp
 have hy2 : (y.toArray.size : Nat) = y.length := by simp
 obtain ⟨nx, hnx⟩ : ∃ n, x.length = n := ⟨_, rfl⟩
 obtain ⟨ny, hny⟩ : ∃ n, y.length = n := ⟨_, rfl⟩
 rw [hnx] at hx2 hx
 rw [hny] at hy2 hy
 have hq1 : Int.tdiv 9223372036854775807 1 = 9223372036854775807 := by decide
 go_enter Tryz.func66, Tryz.ntmps66
 go_wp2
 go_loop [5, 41] (fun z i => ∃ k : Nat, i = .int .i64 k ∧ k ≤ 2 ∧ z = .int .i64 ((if k = 0 then 1 else if k = 1 then 1 + nx else 1 + nx + ny : Nat) : Int)) (fun _ i => 2 - (intOf i).toNat)
 case atStart => exact ⟨0, rfl, by omega, rfl⟩
 case round =>
  obtain ⟨k, rfl, hk, rfl⟩ := hrel
  have hk3 : k = 0 ∨ k = 1 ∨ k = 2 := by omega
  rcases hk3 with rfl | rfl | rfl
  ·have hd : decide ((9223372036854775807 : Int) - 1 < nx) = false := by rw [decide_eq_false_iff_not]; omega
   have hd2 : decide ((9223372036854775806 : Int) < nx) = false := by rw [decide_eq_false_iff_not]; omega
   have hwr : IntKind.i64.wrap (1 + (nx : Int)) = 1 + (nx : Int) := by rw [IntKind.wrap_i64]; omega
   go_wp2
   go_round
   case rel => exact ⟨1, by go_num, by omega, by go_num⟩
   case measure => simp [intOf]
  ·have hc1 : ((1 + nx : Nat) : Int) = 1 + (nx : Int) := by omega
   have hw0 : IntKind.i64.wrap (9223372036854775807 - (1 + (nx : Int))) = 9223372036854775807 - (1 + (nx : Int)) := by rw [IntKind.wrap_i64]; omega
   have hd : decide ((9223372036854775807 : Int) - (1 + nx) < ny) = false := by rw [decide_eq_false_iff_not]; omega
   have hwr : IntKind.i64.wrap (1 + (nx : Int) + ny) = 1 + (nx : Int) + ny := by rw [IntKind.wrap_i64]; omega
   go_wp2
   go_round
   case rel => exact ⟨2, by go_num, by omega, by go_num⟩
   case measure => simp [intOf]
  ·obtain ⟨n, hn⟩ : ∃ n : Nat, 1 + nx + ny = n := ⟨_, rfl⟩
   have hcn : ((if 2 = 0 then 1 else if 2 = 1 then 1 + nx else 1 + nx + ny : Nat) : Int) = (n : Nat) := by simp; omega
   rw [hcn]
   have hB0 : Below w.heap.size w (w.alloc (.cells #[.pointer none, .slice none 0 0] 173)) := (Below.refl _ _).alloc (Nat.le_refl _) _
   have HG := hid (grow_any w.heap.size w.heap.size n (w.alloc (.cells #[.pointer none, .slice none 0 0] 173)) (Nat.le_refl _) (Blk.new w _ [.pointer none, .slice none 0 0]) (by simp) (by omega) (by omega))
   have HB0 := hid hB0
   have hn1000 : n ≤ 1000 := by omega
   clear hcn hB0 hn
   go_wp2_with fail
   refine HG.out.mono ?_; rintro e w1 ⟨rfl, g1, g2⟩
   have HW1 := hid (writeString_any w.heap.size w.heap.size [] ⟨x.toArray⟩ w1 (Or.inr g1) (by simp [size_of_list]; omega) (by have := g2.size; simp at this; omega))
   have hb1 := HB0.out.trans g2
   have k0 : w1.cell? ⟨q, off, none⟩ = some (.string ⟨x.toArray⟩) := (hb1.cell (p := ⟨q, off, none⟩) hq).trans h0
   have HB1 := hid hb1
   clear g1 g2 hb1
   go_wp2_with fail
   refine HW1.out.mono ?_; rintro e w2 ⟨rfl, g1, g2⟩
   have HB2 := hid (HB1.out.trans g2); have HX := hid g1
   clear k0 g1 g2
   have hqi : (0 : Int) ≤ (off : Int) := by omega
   go_wp2
   go_loopw [65] (fun i wr => ∃ k : Nat, i = .int .i64 k ∧ k ≤ 1 ∧ Hid (Holds w.heap.size w.heap.size (if k = 0 then [] ++ Lib.strCells ⟨x.toArray⟩ else Lib.byteCells (x ++ 46 :: y)) wr) ∧ Hid (Below w.heap.size w wr)) (fun i _ => 1 - (intOf i).toNat)
   case atStart => exact ⟨0, rfl, by omega, HX, HB2⟩
   case round =>
    obtain ⟨k, rfl, hk1, HH, HBW⟩ := hrel
    have hk4 : k = 0 ∨ k = 1 := by omega
    rcases hk4 with rfl | rfl
    ·have k1 : wr.cell? ⟨q, off + 1, none⟩ = some (.string ⟨y.toArray⟩) := (HBW.out.cell (p := ⟨q, off + 1, none⟩) hq).trans h1
     have HW2 := hid (writeString_any w.heap.size w.heap.size _ ⟨#[46]⟩ wr (Or.inr HH.out) (by
      simp only [if_true, List.nil_append, Lib.strCells_length, size_of_list]; show x.length + 1 ≤ _; omega) HBW.out.size)
     go_wp2_with fail
     refine HW2.out.mono ?_; rintro e w3 ⟨rfl, g1, g2⟩
     have HW3 := hid (writeString_any w.heap.size w.heap.size _ ⟨y.toArray⟩ w3 (Or.inr g1) (by
      simp only [if_true, List.nil_append, List.length_append, Lib.strCells_length, size_of_list]; show x.length + 1 + y.length ≤ _; omega) (Nat.le_trans HBW.out.size g2.size))
     have HB3 := hid (HBW.out.trans g2)
     clear g1 g2
     go_wp2_with fail
     refine HW3.out.mono ?_; rintro e w4 ⟨rfl, g1, g2⟩
     have HB4 := hid (HB3.out.trans g2)
     have HH4 : Hid (Holds w.heap.size w.heap.size (Lib.byteCells (x ++ 46 :: y)) w4) := hid (by
      simp only [if_true, List.nil_append, Lib.strCells_eq] at g1
      rw [show x ++ 46 :: y = (x ++ [46]) ++ y by simp, Lib.byteCells_append, Lib.byteCells_append]
      exact g1)
     clear g1 g2
     go_wp2
     go_roundw
     case rel => exact ⟨1, by go_num, by omega, HH4, HB4⟩
     case measure => simp [intOf]
    ·have HS := hid (Tryz.Builder_String_any w.heap.size w.heap.size (x ++ 46 :: y) wr (Or.inr HH.out) HBW.out.size)
     go_wp2_with fail
     refine HS.out.mono ?_; rintro e w5 ⟨rfl, g2⟩
     have HB5 := hid (HBW.out.trans g2)
     clear g2
     go_wp2
     go_ret
     exact ⟨rfl, HB5.out⟩
end Go.Proofs.YtilfpnkcgjonhaaGreatDoor.Pr
