/-
  The document's own Split, of whatever amount: it returns what the program's does.
-/
import Derived.Test.YtdjilieadhnhcaaDoorRefSplit
namespace Go.Proofs.YtdjilieadhnhcaaDoor
open Go.RowKit Go.Sort Go.Shelf Foyer.Money

theorem splitS_opposite {n : Int} (hn : n < 0) {ws : List Int} (hw : ∀ z ∈ ws, 0 ≤ z) (hW : 0 < ws.sum) : (splitS (-n) ws).map (fun p => p * -1) = splitS n ws := by
  apply List.ext_getElem
  · simp [splitS, divS]
  · intro i h1 h2
    have hi : i < ws.length := by rw [splitS_len] at h2; exact h2
    have h := splitS_neg (n := -n) (by omega) hw hW i hi
    rw [Int.neg_neg] at h
    have hl : i < (splitS (-n) ws).length := by rw [splitS_len]; exact hi
    rw [List.getD_eq_getElem?_getD, List.getD_eq_getElem?_getD, List.getElem?_eq_getElem h2, List.getElem?_eq_getElem hl] at h
    simp only [Option.getD_some] at h
    rw [List.getElem_map, h]; omega

set_option maxRecDepth 100000 in
set_option maxHeartbeats 1000000 in
theorem rsplit_neg (n : Int) (ws : List Int) (p : Option Addr) (cap : Nat) (w : World) (hn : n < 0) (h : (valid n && vWeights ws) = true) (hr : Rd w p ws) (hl : ws.length ≤ 1000) :
    Calls Tryd.prog 16 #[.int .i64 n, .slice p ws.length cap] w fun e w' => SplitDone n ws w e w' := by
  obtain ⟨hv, hw⟩ := (Bool.and_eq_true _ _).mp h
  obtain ⟨v1, v2⟩ := valid_iff.1 hv
  obtain ⟨hw1, hW⟩ := vWeights_iff.1 hw
  have h' : (valid (-n) && vWeights ws) = true := by rw [valid_neg]; exact h
  have hopp := splitS_opposite hn (fun z hz => (hw1 z hz).1) hW
  have hbd := fun i hi => splitS_bd (n := -n) (by rw [valid_neg]; exact hv) (fun z hz => (hw1 z hz).1) hW i hi
  have hlen := splitS_len (-n) ws
  have hcall := rsplit_plain (-n) ws p cap w (by omega) h' hr hl
  unfold SplitDone at hcall
  have HR := Lib.hid hr; have Hv := Lib.hid hv; have Hw := Lib.hid hw; have Hopp := Lib.hid hopp; have Hbd := Lib.hid hbd; have Hlen := Lib.hid hlen; have Hcall := Lib.hid hcall
  clear hr hv hw hw1 hW h h' hopp hbd hlen hcall
  generalize splitS (-n) ws = zs at *
  go_enter Tryd.func16, Tryd.ntmps16
  go_wp2_with fail
  refine (rvalid_yes _ _ Hv.out).mono ?_; rintro e w' ⟨rfl, rfl⟩
  go_wp2_with fail
  refine (rweights_any ws _ cap _ HR.out hl).mono ?_; rintro e w' ⟨rfl, rfl⟩
  rw [Hw.out]
  go_wp2_with fail
  refine Hcall.out.mono ?_; rintro e w1 ⟨g, rfl, hown, hb1⟩
  rw [signed_zero zs (-1)] at hown
  have HB := Lib.hid hb1; clear hb1
  have hgl := (hown.lt _ rfl).1
  go_wp2
  go_loopw [8] (fun i wr => ∃ k : Nat, k ≤ ws.length ∧ i = .int .i64 k ∧ wr.ownsRow w.heap.size 3 1 (.slice (some ⟨g, 0, none⟩) ws.length ws.length) ws.length (signed zs (-1) k) ∧ Hid (RowKit.Below w.heap.size w wr)) (fun i _ => ws.length - (intOf i).toNat)
  case atStart => exact ⟨0, Nat.zero_le _, rfl, hown, HB⟩
  case round =>
    clear hown HB
    obtain ⟨k, hk, rfl, hown, HB⟩ := hrel
    by_cases hlt : k < ws.length
    · have hcp := (hown.cellAt k (by omega)).trans (signed_get zs (-1) k k (by rw [Hlen.out]; exact hlt))
      rw [if_neg (by omega)] at hcp
      have hfp := hown.frozenAt k
      have hset := signed_set zs (-1) k
      rw [show zs.getD k 0 * -1 = -(zs.getD k 0) by omega] at hset
      have hst := hown.stored k (.int .i64 (-(zs.getD k 0)))
      rw [hset] at hst
      obtain ⟨d0, d1⟩ := Hbd.out k hlt
      have Hst := Lib.hid hst.1
      clear hst hown hset
      generalize zs.getD k 0 = x at *
      go_wp2
      go_roundw
      case rel => exact ⟨k + 1, by omega, by go_num, Hst.out, Lib.hid (HB.out.setCell (p := ⟨g, k, none⟩) hgl _)⟩
      case measure => simp [intOf]; omega
    · have e : k = ws.length := by omega
      subst e
      go_wp2
      go_ret2
      refine ⟨g, rfl, ?_, HB.out⟩
      rw [← Hopp.out, ← signed_all, Hlen.out]
      exact hown

theorem rsplit_ok (n : Int) (ws : List Int) (p : Option Addr) (cap : Nat) (w : World) (h : (valid n && vWeights ws) = true) (hr : Rd w p ws) (hl : ws.length ≤ 1000) :
    Calls Tryd.prog 16 #[.int .i64 n, .slice p ws.length cap] w fun e w' => SplitDone n ws w e w' := by
  by_cases hn : n < 0
  · exact rsplit_neg n ws p cap w hn h hr hl
  · exact rsplit_plain n ws p cap w (by omega) h hr hl
end Go.Proofs.YtdjilieadhnhcaaDoor
