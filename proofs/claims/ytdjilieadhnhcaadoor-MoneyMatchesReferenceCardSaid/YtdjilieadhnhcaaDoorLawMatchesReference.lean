/-
  The law MoneyMatchesReference: its walk.
-/
import Derived.Test.YtdjilieadhnhcaaDoorHead
import Derived.Test.YtdjilieadhnhcaaDoorSlices
import Derived.Test.YtdjilieadhnhcaaDoorRefSplit2
import Derived.Test.YtdjilieadhnhcaaDoorRefShare
import Derived.Test.YtdjilieadhnhcaaDoorRefParse
namespace Go.Proofs.YtdjilieadhnhcaaDoor
open Go.RowKit Go.Sort Go.Shelf Foyer.Money

/-- The two cells of a struct that came in, behind a call. -/
theorem two_kept {w w' : World} {b : Nat} {x y : Value} (h : w.cell? ⟨b, 0, none⟩ = some x ∧ w.cell? ⟨b, 1, none⟩ = some y) (hb : RowKit.Below w.heap.size w w') :
    w'.cell? ⟨b, 0, none⟩ = some x ∧ w'.cell? ⟨b, 1, none⟩ = some y :=
  ⟨by rw [hb.cell (Lib.lt_of_cell h.1)]; exact h.1, by rw [hb.cell (Lib.lt_of_cell h.2)]; exact h.2⟩

set_option maxRecDepth 100000 in
set_option maxHeartbeats 2000000 in
theorem matches_bad (n num den : Int) (l ws : List Int) (p q : Option Addr) (c1 c2 : Nat) (t : ByteArray) (w : World) (h : (valid n && vWeights ws) = false) (hl : l.length ≤ 100) (hw : ws.length ≤ 100) (ht : t.size ≤ 200) (hL : Rd w p l) (hR : Rd w q ws) (hE : Env w) :
    Calls Tryd.prog 3 #[.int .i64 n, .agg #[.int .i64 num, .int .i64 den], .slice p l.length c1, .slice q ws.length c2, .string t] w fun e w' => e = .returned (.bool true) ∧ RowKit.Below w.heap.size w w' := by
  have HE := Lib.hid hE; clear hE
  have HS : Hid (Since w w) := RowKit.Below.refl _ _
  have HL := Lib.hid hL; have HR := Lib.hid hR; clear hL hR
  have Hsum := fun W hW => sum_any l p c1 W hW (by omega)
  have Hrsum := fun W hW => rsum_any l p c1 W hW (by omega)
  have Hsh := share_any n num den
  have Hrsh := rshare_any n num den
  have Hpa := fun W hW => parse_any t W hW
  have Hrpa := fun W => rparse_any t W (by omega)
  generalize (sumS l).1 = a at *
  generalize (sumS l).2 = e at *
  generalize (shareS n num den).1 = c at *
  generalize (shareS n num den).2 = g at *
  generalize (parse t.data.toList).1 = pp at *
  generalize (parse t.data.toList).2 = kk at *
  have Hsum := Lib.hid Hsum; have Hrsum := Lib.hid Hrsum; have Hsh := Lib.hid Hsh; have Hrsh := Lib.hid Hrsh; have Hpa := Lib.hid Hpa; have Hrpa := Lib.hid Hrpa
  have HH := Lib.hid h; clear h
  have hl' : (l.length : Int) ≤ 100 := by omega
  have hw' : (ws.length : Int) ≤ 100 := by omega
  have ht' : (t.size : Int) ≤ 200 := by omega
  go_enter Tryd.func3, Tryd.ntmps3
  go_wp2_with fail
  refine (head_any _ (HE.out.below (HS.out.alloc _))).mono ?_; rintro e' w1 ⟨rfl, hb1⟩
  have hc1 : w1.cell? ⟨w.heap.size, 0, none⟩ = some (.int .i64 num) ∧ w1.cell? ⟨w.heap.size, 1, none⟩ = some (.int .i64 den) := two_kept (by simp) hb1
  have HS := Lib.hid ((HS.out.alloc _).call hb1)
  have HL := Lib.hid (rd_below HL.out HS.out)
  have HR := Lib.hid (rd_below HR.out HS.out)
  clear hb1
  go_wp2_with fail
  refine (Hsum.out _ HL.out).mono ?_; rintro e' w2 ⟨rfl, rfl⟩
  go_wp2_with fail
  refine (Hrsum.out _ HL.out).mono ?_; rintro e' w2 ⟨rfl, rfl⟩
  go_wp2_with fail
  refine (Hsh.out _).mono ?_; rintro e' w2 ⟨rfl, hb2⟩
  have hc2 := two_kept hc1 hb2
  have HS := Lib.hid (HS.out.call hb2)
  have HR := Lib.hid (rd_below HR.out hb2)
  clear hb2 hc1 HL
  go_wp2_with fail
  refine (Hrsh.out _).mono ?_; rintro e' w3 ⟨rfl, hb3⟩
  have HS := Lib.hid (HS.out.call hb3)
  have HR := Lib.hid (rd_below HR.out hb3)
  clear hb3 hc2
  go_wp2_with fail
  refine (split_bad n ws q c2 _ HH.out HR.out (by omega)).mono ?_; rintro e' w4 ⟨rfl, rfl⟩
  go_wp2_with fail
  refine (rsplit_bad n ws q c2 _ HH.out HR.out (by omega)).mono ?_; rintro e' w4 ⟨rfl, rfl⟩
  go_wp2_with fail
  refine (Hpa.out _ (HE.out.below HS.out)).mono ?_; rintro e' w6 ⟨rfl, hb6⟩
  have HS := Lib.hid (HS.out.call hb6)
  clear hb6
  go_wp2_with fail
  refine (Hrpa.out _).mono ?_; rintro e' w7 ⟨rfl, rfl⟩
  go_wp2_with fail
  refine (ints_c [] 0 none none 0 0 _ (Or.inl rfl) (Or.inl rfl) rfl (by decide)).mono ?_; rintro e' w8 ⟨rfl, hb8⟩
  have HS := Lib.hid (HS.out.call hb8)
  clear hb8
  have Hva := Lib.hid (fun W => valid_any n W); have Hrva := Lib.hid (fun W => rvalid_any n W)
  generalize valid n = vv at *
  go_wp2_with fail
  refine (Hva.out _).mono ?_; rintro e' w9 ⟨rfl, rfl⟩
  go_wp2_with fail
  refine (Hrva.out _).mono ?_; rintro e' w9 ⟨rfl, rfl⟩
  have Hta := Lib.hid (fun W hW => text_any n W hW); have Hrta := Lib.hid (fun W => rtext_any n W)
  generalize text n = tt at *
  go_wp2_with fail
  refine (Hta.out _ (HE.out.below HS.out)).mono ?_; rintro e' w9 ⟨rfl, hb9⟩
  have HS := Lib.hid (HS.out.call hb9)
  clear hb9
  go_wp2_with fail
  refine (Hrta.out _).mono ?_; rintro e' w10 ⟨rfl, rfl⟩
  go_wp2
  go_ret
  exact ⟨rfl, HS.out⟩

set_option maxRecDepth 100000 in
set_option maxHeartbeats 2000000 in
theorem matches_good (n num den : Int) (l ws : List Int) (p q : Option Addr) (c1 c2 : Nat) (t : ByteArray) (w : World) (h : (valid n && vWeights ws) = true) (hl : l.length ≤ 100) (hw : ws.length ≤ 100) (ht : t.size ≤ 200) (hL : Rd w p l) (hR : Rd w q ws) (hE : Env w) :
    Calls Tryd.prog 3 #[.int .i64 n, .agg #[.int .i64 num, .int .i64 den], .slice p l.length c1, .slice q ws.length c2, .string t] w fun e w' => e = .returned (.bool true) ∧ RowKit.Below w.heap.size w w' := by
  have HE := Lib.hid hE; clear hE
  have HS : Hid (Since w w) := RowKit.Below.refl _ _
  have HL := Lib.hid hL; have HR := Lib.hid hR; clear hL hR
  have Hsum := fun W hW => sum_any l p c1 W hW (by omega)
  have Hrsum := fun W hW => rsum_any l p c1 W hW (by omega)
  have Hsh := share_any n num den
  have Hrsh := rshare_any n num den
  have Hpa := fun W hW => parse_any t W hW
  have Hrpa := fun W => rparse_any t W (by omega)
  generalize (sumS l).1 = a at *
  generalize (sumS l).2 = e at *
  generalize (shareS n num den).1 = c at *
  generalize (shareS n num den).2 = g at *
  generalize (parse t.data.toList).1 = pp at *
  generalize (parse t.data.toList).2 = kk at *
  have Hsum := Lib.hid Hsum; have Hrsum := Lib.hid Hrsum; have Hsh := Lib.hid Hsh; have Hrsh := Lib.hid Hrsh; have Hpa := Lib.hid Hpa; have Hrpa := Lib.hid Hrpa
  have HH := Lib.hid h; clear h
  have hl' : (l.length : Int) ≤ 100 := by omega
  have hw' : (ws.length : Int) ≤ 100 := by omega
  have ht' : (t.size : Int) ≤ 200 := by omega
  go_enter Tryd.func3, Tryd.ntmps3
  go_wp2_with fail
  refine (head_any _ (HE.out.below (HS.out.alloc _))).mono ?_; rintro e' w1 ⟨rfl, hb1⟩
  have hc1 : w1.cell? ⟨w.heap.size, 0, none⟩ = some (.int .i64 num) ∧ w1.cell? ⟨w.heap.size, 1, none⟩ = some (.int .i64 den) := two_kept (by simp) hb1
  have HS := Lib.hid ((HS.out.alloc _).call hb1)
  have HL := Lib.hid (rd_below HL.out HS.out)
  have HR := Lib.hid (rd_below HR.out HS.out)
  clear hb1
  go_wp2_with fail
  refine (Hsum.out _ HL.out).mono ?_; rintro e' w2 ⟨rfl, rfl⟩
  go_wp2_with fail
  refine (Hrsum.out _ HL.out).mono ?_; rintro e' w2 ⟨rfl, rfl⟩
  go_wp2_with fail
  refine (Hsh.out _).mono ?_; rintro e' w2 ⟨rfl, hb2⟩
  have hc2 := two_kept hc1 hb2
  have HS := Lib.hid (HS.out.call hb2)
  have HR := Lib.hid (rd_below HR.out hb2)
  clear hb2 hc1 HL
  go_wp2_with fail
  refine (Hrsh.out _).mono ?_; rintro e' w3 ⟨rfl, hb3⟩
  have HS := Lib.hid (HS.out.call hb3)
  have HR := Lib.hid (rd_below HR.out hb3)
  clear hb3 hc2
  go_wp2_with fail
  refine (split_ok n ws q c2 _ HH.out HR.out (by omega)).mono ?_; rintro e' w4 ⟨g1, rfl, hown1, hb4⟩
  have HR := Lib.hid (rd_below HR.out hb4)
  have HS := Lib.hid (HS.out.call hb4)
  have HO1 := Lib.hid hown1
  clear hb4 hown1
  go_wp2_with fail
  refine (rsplit_ok n ws q c2 _ HH.out HR.out (by omega)).mono ?_; rintro e' w5 ⟨g2, rfl, hown2, hb5⟩
  have HO1 := Lib.hid (own_kept HO1.out hb5)
  have HS := Lib.hid (HS.out.call hb5)
  have HO2 := Lib.hid hown2
  have Hlen := Lib.hid (splitS_len n ws)
  clear hb5 hown2
  go_wp2_with fail
  refine (Hpa.out _ (HE.out.below HS.out)).mono ?_; rintro e' w6 ⟨rfl, hb6⟩
  have HO1 := Lib.hid (own_kept HO1.out hb6)
  have HO2 := Lib.hid (own_kept HO2.out hb6)
  have HS := Lib.hid (HS.out.call hb6)
  clear hb6
  go_wp2_with fail
  refine (Hrpa.out _).mono ?_; rintro e' w7 ⟨rfl, rfl⟩
  go_wp2_with fail
  refine (ints_c (splitS n ws) ws.length _ _ _ _ _ (rd_of_own HO1.out Hlen.out) (rd_of_own HO2.out Hlen.out) Hlen.out (by omega)).mono ?_; rintro e' w8 ⟨rfl, hb8⟩
  have HS := Lib.hid (HS.out.call hb8)
  clear hb8
  have Hva := Lib.hid (fun W => valid_any n W); have Hrva := Lib.hid (fun W => rvalid_any n W)
  generalize valid n = vv at *
  go_wp2_with fail
  refine (Hva.out _).mono ?_; rintro e' w9 ⟨rfl, rfl⟩
  go_wp2_with fail
  refine (Hrva.out _).mono ?_; rintro e' w9 ⟨rfl, rfl⟩
  have Hta := Lib.hid (fun W hW => text_any n W hW); have Hrta := Lib.hid (fun W => rtext_any n W)
  generalize text n = tt at *
  go_wp2_with fail
  refine (Hta.out _ (HE.out.below HS.out)).mono ?_; rintro e' w9 ⟨rfl, hb9⟩
  have HS := Lib.hid (HS.out.call hb9)
  clear hb9
  go_wp2_with fail
  refine (Hrta.out _).mono ?_; rintro e' w10 ⟨rfl, rfl⟩
  go_wp2
  go_ret
  exact ⟨rfl, HS.out⟩

set_option maxRecDepth 100000 in
theorem matches_walk (n num den : Int) (p : Option Addr) (n1 c1 : Nat) (z1 : List Int) (q : Option Addr) (n2 c2 : Nat) (z2 : List Int) (t : ByteArray) (w : World)
    (_ : (Lit.int .i64 n).wf = true) (_ : (Lit.int .i64 num).wf = true) (_ : (Lit.int .i64 den).wf = true) (h1 : IsRow .i64 w p n1 c1 z1) (h2 : IsRow .i64 w q n2 c2 z2) (hm : t.size ≤ maxLen) (hE : Env w) :
    Calls Tryd.prog 3 #[.int .i64 n, .agg #[.int .i64 num, .int .i64 den], .slice p n1 c1, .slice q n2 c2, .string t] w fun e w' => e = .returned (.bool true) ∧ RowKit.Below w.heap.size w w' := by
  obtain ⟨hm1, l, rfl, hp, _⟩ := rd_of_row h1
  obtain ⟨hm2, ws, rfl, hq, _⟩ := rd_of_row h2
  unfold maxLen at hm hm1 hm2
  by_cases hc : l.length ≤ 100 ∧ ws.length ≤ 100 ∧ t.size ≤ 200
  · obtain ⟨hl, hw, ht⟩ := hc
    cases h : valid n && vWeights ws
    · exact matches_bad n num den l ws p q c1 c2 t w h hl hw ht hp hq hE
    · exact matches_good n num den l ws p q c1 c2 t w h hl hw ht hp hq hE
  · have HE := Lib.hid hE
    have HS : Hid (Since w w) := RowKit.Below.refl _ _
    clear hp hq h1 h2 hE
    have hcase : 100 < (l.length : Int) ∨ (¬ 100 < (l.length : Int) ∧ 100 < (ws.length : Int)) ∨ (¬ 100 < (l.length : Int) ∧ ¬ 100 < (ws.length : Int) ∧ 200 < (t.size : Int)) := by omega
    clear hc
    rcases hcase with k | ⟨k, k2⟩ | ⟨k, k2, k3⟩ <;>
      (go_enter Tryd.func3, Tryd.ntmps3
       go_wp2_with fail
       refine (head_any _ (HE.out.below (HS.out.alloc _))).mono ?_; rintro e' w1 ⟨rfl, hb1⟩
       have HS := Lib.hid ((HS.out.alloc _).call hb1)
       clear hb1
       go_wp2
       go_ret
       exact ⟨rfl, HS.out⟩)
end Go.Proofs.YtdjilieadhnhcaaDoor
