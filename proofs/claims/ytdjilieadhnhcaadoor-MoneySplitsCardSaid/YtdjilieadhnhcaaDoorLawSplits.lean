/-
  The law MoneySplits: its walk.
-/
import Derived.Test.YtdjilieadhnhcaaDoorHead
import Derived.Test.YtdjilieadhnhcaaDoorSlices
import Derived.Test.YtdjilieadhnhcaaDoorMathParts
namespace Go.Proofs.YtdjilieadhnhcaaDoor
open Go.RowKit Go.Sort Go.Shelf Foyer.Money

set_option maxRecDepth 100000 in
set_option maxHeartbeats 1000000 in
theorem splits_bad (n : Int) (ws : List Int) (p : Option Addr) (cap : Nat) (w : World) (h : (valid n && vWeights ws) = false) (hl : ws.length ≤ 100) (hr : Rd w p ws) (hE : Env w) :
    Calls Tryd.prog 6 #[.int .i64 n, .slice p ws.length cap] w fun e w' => e = .returned (.bool true) ∧ RowKit.Below w.heap.size w w' := by
  have HE := Lib.hid hE; clear hE
  have HS : Hid (Since w w) := RowKit.Below.refl _ _
  have HR := Lib.hid hr; have HH := Lib.hid h; clear hr h
  go_enter Tryd.func6, Tryd.ntmps6
  go_wp2_with fail
  refine (head_any _ HE.out).mono ?_; rintro e w1 ⟨rfl, hb1⟩
  have HR := Lib.hid (rd_below HR.out hb1)
  have HS := Lib.hid (HS.out.call hb1)
  clear hb1
  go_wp2_with fail
  refine (split_bad n ws p cap _ HH.out HR.out (by omega)).mono ?_; rintro e w2 ⟨rfl, rfl⟩
  go_wp2
  go_ret
  exact ⟨rfl, HS.out⟩

set_option maxRecDepth 100000 in
set_option maxHeartbeats 2000000 in
theorem splits_good (n : Int) (ws : List Int) (p : Option Addr) (cap : Nat) (w : World) (h : (valid n && vWeights ws) = true) (hl : ws.length ≤ 100) (hr : Rd w p ws) (hE : Env w) :
    Calls Tryd.prog 6 #[.int .i64 n, .slice p ws.length cap] w fun e w' => e = .returned (.bool true) ∧ RowKit.Below w.heap.size w w' := by
  obtain ⟨hv, hw⟩ := (Bool.and_eq_true _ _).mp h
  obtain ⟨v1, v2⟩ := valid_iff.1 hv
  obtain ⟨hw1, hW⟩ := vWeights_iff.1 hw
  have hnear := fun i hi => splitS_near (n := n) (fun z hz => (hw1 z hz).1) hW i hi
  have hbd := fun i hi => splitS_bd hv (fun z hz => (hw1 z hz).1) hW i hi
  have hsum := splitS_sum (n := n) hW
  have hlen := splitS_len n ws
  have hwx : ∀ i, i < ws.length → 0 ≤ ws.getD i 0 ∧ ws.getD i 0 ≤ 1000000000 := fun i hi => hw1 _ (by rw [List.getD_eq_getElem?_getD, List.getElem?_eq_getElem hi]; exact List.getElem_mem _)
  have hWb : ws.sum ≤ 1000000000000 := by
    have := (sum_take_bd ws (fun z hz => by have := hw1 z hz; omega) ws.length (Nat.le_refl _)).2
    rw [List.take_length] at this; omega
  have hsb : ∀ z ∈ splitS n ws, -10000000000 ≤ z ∧ z ≤ 10000000000 := by
    intro z hz
    obtain ⟨j, hj, rfl⟩ := List.mem_iff_getElem.1 hz
    have := hbd j (by rw [hlen] at hj; exact hj)
    rw [List.getD_eq_getElem?_getD, List.getElem?_eq_getElem hj] at this
    simp only [Option.getD_some] at this
    omega
  have HE := Lib.hid hE; clear hE
  have HS : Hid (Since w w) := RowKit.Below.refl _ _
  have HR := Lib.hid hr; have HH := Lib.hid h; have Hw1 := Lib.hid hw1
  have Hnear := Lib.hid hnear; have Hbd := Lib.hid hbd; have Hsum := Lib.hid hsum; have Hlen := Lib.hid hlen; have Hwx := Lib.hid hwx; have Hsb := Lib.hid hsb
  clear hr h hw1 hnear hbd hsum hlen hwx hsb hv hw
  generalize hWe : ws.sum = W at *
  have HW := Lib.hid hWe; clear hWe
  go_enter Tryd.func6, Tryd.ntmps6
  go_wp2_with fail
  refine (head_any _ HE.out).mono ?_; rintro e w1 ⟨rfl, hb1⟩
  have HR := Lib.hid (rd_below HR.out hb1)
  have HS := Lib.hid (HS.out.call hb1)
  clear hb1
  go_wp2_with fail
  refine (split_ok n ws p cap _ HH.out HR.out (by omega)).mono ?_; rintro e w2 ⟨g, rfl, hown, hb2⟩
  have HR := Lib.hid (rd_below HR.out hb2)
  have HS := Lib.hid (HS.out.call hb2)
  have HO := Lib.hid hown
  clear hb2 hown
  go_wp2_with fail
  refine (total_any ws p cap _ HR.out (by omega) (fun z hz => by have := Hw1.out z hz; omega)).mono ?_; rintro e w3 ⟨rfl, rfl⟩
  rw [HW.out]
  have htot := total_any (splitS n ws) (some ⟨g, 0, none⟩) ws.length w2 (rd_of_own HO.out Hlen.out) (by rw [Hlen.out]; omega) Hsb.out
  rw [Hlen.out, Hsum.out] at htot
  have Htot := Lib.hid htot; clear htot
  go_wp2_with fail
  refine Htot.out.mono ?_; rintro e w3 ⟨rfl, rfl⟩
  go_wp2
  go_loopw [9] (fun i wr => ∃ k : Nat, k ≤ ws.length ∧ i = .int .i64 k ∧ ∃ q, wr = w2.drewN q) (fun i _ => ws.length - (intOf i).toNat)
  case atStart => exact ⟨0, Nat.zero_le _, rfl, 0, rfl⟩
  case round =>
    obtain ⟨k, hk, rfl, q, rfl⟩ := hrel
    by_cases hlt : k < ws.length
    · rcases HR.out with e | ⟨b, off, rfl, hb, hc⟩
      · rw [e] at hlt; simp at hlt
      have hcx := hc k hlt
      have hcy : w2.cell? ⟨g, k, none⟩ = some (.int .i64 ((splitS n ws).getD k 0)) := by
        have hkl : k < (splitS n ws).length := by rw [Hlen.out]; exact hlt
        rw [HO.out.cellAt k (by omega), List.getElem?_map, List.getElem?_eq_getElem hkl]
        simp [hkl]
      obtain ⟨n1, n2, n3, n4, n5⟩ := Hnear.out k hlt
      obtain ⟨y1, y2⟩ := Hbd.out k hlt
      obtain ⟨x1, x2⟩ := Hwx.out k hlt
      clear hc
      generalize (splitS n ws).getD k 0 = y at *
      generalize ws.getD k 0 = x at *
      obtain ⟨p1, p2⟩ := mul_le_bd 1000000000 1000000000 v1 v2 x1 x2
      have hx : ((x == 0) = true ∧ (y != 0) = false) ∨ (x == 0) = false := by
        by_cases k : x = 0
        · exact Or.inl ⟨by simp [k], by simp [n1 k]⟩
        · exact Or.inr (by simp [k])
      have hn : (n < 0 ∧ y ≤ 0) ∨ (0 < n ∧ 0 ≤ y) ∨ (0 ≤ n ∧ n ≤ 0 ∧ 0 ≤ y ∧ y ≤ 0) := by
        by_cases k : n < 0
        · exact Or.inl ⟨k, n3 (by omega)⟩
        · by_cases k2 : 0 < n
          · exact Or.inr (Or.inl ⟨k2, n2 (by omega)⟩)
          · exact Or.inr (Or.inr ⟨by omega, by omega, n2 (by omega), n3 (by omega)⟩)
      clear n1 n2 n3
      by_cases hA : W ≤ 1000000000
      · obtain ⟨q1, q2⟩ := mul_le_bd 1000000000 1000000000 y1 y2 (show 0 ≤ W by omega) hA
        have hd : decide (W ≤ y * W - n * x) = false := by simp; omega
        rcases hx with ⟨hx1, hx2⟩ | hx1 <;> rcases hn with ⟨m1, m2⟩ | ⟨m1, m2⟩ | ⟨m1, m2, m3, m4⟩ <;>
          (go_wp2
           go_quiet (fail)
           go_wp2
           go_roundw
           case rel => exact ⟨k + 1, by omega, by go_num, _, rfl⟩
           case measure => simp [intOf]; omega)
      · have hd : decide (W ≤ 1000000000) = false := by simp; omega
        rcases hx with ⟨hx1, hx2⟩ | hx1 <;> rcases hn with ⟨m1, m2⟩ | ⟨m1, m2⟩ | ⟨m1, m2, m3, m4⟩ <;>
          (go_wp2
           go_quiet (fail)
           go_wp2
           go_roundw
           case rel => exact ⟨k + 1, by omega, by go_num, _, rfl⟩
           case measure => simp [intOf]; omega)
    · have e : k = ws.length := by omega
      subst e
      go_wp2
      go_ret
      exact ⟨rfl, below_drewN HS.out q⟩

theorem splits_walk (n : Int) (p : Option Addr) (len cap : Nat) (zs : List Int) (w : World) (_ : (Lit.int .i64 n).wf = true) (hz : IsRow .i64 w p len cap zs) (hE : Env w) :
    Calls Tryd.prog 6 #[.int .i64 n, .slice p len cap] w fun e w' => e = .returned (.bool true) ∧ RowKit.Below w.heap.size w w' := by
  obtain ⟨hm, ws, rfl, hr, _⟩ := rd_of_row hz
  unfold maxLen at hm
  by_cases hl : ws.length ≤ 100
  · cases h : valid n && vWeights ws
    · exact splits_bad n ws p cap w h hl hr hE
    · exact splits_good n ws p cap w h hl hr hE
  · have hl' : 100 < (ws.length : Int) := by omega
    clear hr hz hl
    have HE := Lib.hid hE; clear hE
    have HS : Hid (Since w w) := RowKit.Below.refl _ _
    go_enter Tryd.func6, Tryd.ntmps6
    go_wp2_with fail
    refine (head_any _ HE.out).mono ?_; rintro e w1 ⟨rfl, hb1⟩
    have HS := Lib.hid (HS.out.call hb1)
    clear hb1
    go_wp2
    go_ret
    exact ⟨rfl, HS.out⟩
end Go.Proofs.YtdjilieadhnhcaaDoor
