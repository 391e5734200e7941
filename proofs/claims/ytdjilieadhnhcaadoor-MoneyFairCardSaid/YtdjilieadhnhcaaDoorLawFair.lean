/-
  The law MoneyFair: its walk.
-/
import Derived.Test.YtdjilieadhnhcaaDoorHead
import Derived.Test.YtdjilieadhnhcaaDoorSlices
import Derived.Test.YtdjilieadhnhcaaDoorMathParts
namespace Go.Proofs.YtdjilieadhnhcaaDoor
open Go.RowKit Go.Sort Go.Shelf Foyer.Money

/-- An element of a row that a call has made. -/
theorem made_cell {w : World} {B g n : Nat} {zs : List Int} (h : w.ownsRow B 3 1 (.slice (some ⟨g, 0, none⟩) n n) n (zs.map (Value.int .i64))) (hn : zs.length = n) (k : Nat) (hk : k < n) : w.cell? ⟨g, k, none⟩ = some (.int .i64 (zs.getD k 0)) := by
  have hkl : k < zs.length := by omega
  rw [h.cellAt k (by omega), List.getElem?_map, List.getElem?_eq_getElem hkl]
  simp [hkl]

set_option maxRecDepth 100000 in
set_option maxHeartbeats 1000000 in
theorem fair_bad (n : Int) (ws : List Int) (p : Option Addr) (cap : Nat) (o1 o2 : Int) (w : World) (hn0 : 0 ≤ n) (hn1 : n ≤ 9223372036854775807) (h : (valid n && vWeights ws) = false) (hl : ws.length ≤ 100) (hr : Rd w p ws) (hE : Env w) :
    Calls Tryd.prog 7 #[.int .i64 n, .slice p ws.length cap, .int .u8 o1, .int .u8 o2] w fun e w' => e = .returned (.bool true) ∧ RowKit.Below w.heap.size w w' := by
  have HE := Lib.hid hE; clear hE
  have HS : Hid (Since w w) := RowKit.Below.refl _ _
  have h' : (valid (-n) && vWeights ws) = false := by rw [valid_neg]; exact h
  have HR := Lib.hid hr; have HH := Lib.hid h; have HH' := Lib.hid h'; clear hr h h'
  go_enter Tryd.func7, Tryd.ntmps7
  go_wp2_with fail
  refine (head_any _ HE.out).mono ?_; rintro e w1 ⟨rfl, hb1⟩
  have HR := Lib.hid (rd_below HR.out hb1)
  have HS := Lib.hid (HS.out.call hb1)
  clear hb1
  go_wp2_with fail
  refine (split_bad n ws p cap _ HH.out HR.out (by omega)).mono ?_; rintro e w2 ⟨rfl, rfl⟩
  go_wp2_with fail
  refine (split_bad (-n) ws p cap _ HH'.out HR.out (by omega)).mono ?_; rintro e w2 ⟨rfl, rfl⟩
  go_wp2
  go_ret
  exact ⟨rfl, HS.out⟩

set_option maxRecDepth 100000 in
set_option maxHeartbeats 2000000 in
theorem fair_good (n : Int) (ws : List Int) (p : Option Addr) (cap : Nat) (o1 o2 : Int) (w : World) (hn0 : 0 ≤ n) (h : (valid n && vWeights ws) = true) (hl : ws.length ≤ 100) (hr : Rd w p ws) (ho1 : 0 ≤ o1 ∧ o1 ≤ 255) (ho2 : 0 ≤ o2 ∧ o2 ≤ 255) (hE : Env w) :
    Calls Tryd.prog 7 #[.int .i64 n, .slice p ws.length cap, .int .u8 o1, .int .u8 o2] w fun e w' => e = .returned (.bool true) ∧ RowKit.Below w.heap.size w w' := by
  obtain ⟨hv, hw⟩ := (Bool.and_eq_true _ _).mp h
  obtain ⟨v1, v2⟩ := valid_iff.1 hv
  obtain ⟨hw1, hW⟩ := vWeights_iff.1 hw
  have hl1 := vWeights_length hw
  have h' : (valid (-n) && vWeights ws) = true := by rw [valid_neg]; exact h
  have hneg := fun i hi => splitS_neg hn0 (fun z hz => (hw1 z hz).1) hW i hi
  have hbd := fun i hi => splitS_bd hv (fun z hz => (hw1 z hz).1) hW i hi
  have hfair : ∀ i k, i < ws.length → k < ws.length → (ws.getD k 0 < ws.getD i 0 → (splitS n ws).getD k 0 ≤ (splitS n ws).getD i 0) ∧ (ws.getD i 0 = ws.getD k 0 → i < k → (splitS n ws).getD i 0 = (splitS n ws).getD k 0 ∨ (splitS n ws).getD i 0 = (splitS n ws).getD k 0 + 1) := by
    intro i k hi hk
    have e1 : size n = n := by unfold size; rw [if_neg (by omega)]
    have e2 : sgn n = 1 := by unfold sgn; rw [if_neg (by omega)]
    rw [splitS_get _ _ _ hi, splitS_get _ _ _ hk, e1, e2, Int.mul_one, Int.mul_one]
    exact divS_fair hn0 (fun z hz => (hw1 z hz).1) hW i k hi hk
  have hlen := splitS_len n ws
  have hlen' := splitS_len (-n) ws
  have HE := Lib.hid hE; clear hE
  have HS : Hid (Since w w) := RowKit.Below.refl _ _
  have HR := Lib.hid hr; have HH := Lib.hid h; have HH' := Lib.hid h'
  have Hneg := Lib.hid hneg; have Hbd := Lib.hid hbd; have Hfair := Lib.hid hfair; have Hlen := Lib.hid hlen; have Hlen' := Lib.hid hlen'
  clear hr h h' hw1 hneg hbd hfair hlen hlen' hv hw hW
  obtain ⟨o10, o11⟩ := ho1
  obtain ⟨o20, o21⟩ := ho2
  obtain ⟨ii, hii⟩ : ∃ ii : Nat, o1 % (ws.length : Int) = ii := Int.eq_ofNat_of_zero_le (Int.emod_nonneg _ (by omega))
  obtain ⟨kk, hkk⟩ : ∃ kk : Nat, o2 % (ws.length : Int) = kk := Int.eq_ofNat_of_zero_le (Int.emod_nonneg _ (by omega))
  have hiil : ii < ws.length := by have := Int.emod_lt_of_pos o1 (b := ws.length) (by omega); rw [hii] at this; omega
  have hkkl : kk < ws.length := by have := Int.emod_lt_of_pos o2 (b := ws.length) (by omega); rw [hkk] at this; omega
  have Hii := Lib.hid hii; have Hkk := Lib.hid hkk; clear hii hkk
  go_enter Tryd.func7, Tryd.ntmps7
  go_wp2_with fail
  refine (head_any _ HE.out).mono ?_; rintro e w1 ⟨rfl, hb1⟩
  have HR := Lib.hid (rd_below HR.out hb1)
  have HS := Lib.hid (HS.out.call hb1)
  clear hb1
  go_wp2_with fail
  refine (split_ok n ws p cap _ HH.out HR.out (by omega)).mono ?_; rintro e w2 ⟨g, rfl, hown, hb2⟩
  have HR := Lib.hid (rd_below HR.out hb2)
  have HS := Lib.hid (HS.out.call hb2)
  have HO := Lib.hid hown
  clear hb2 hown
  go_wp2_with fail
  refine (split_ok (-n) ws p cap _ HH'.out HR.out (by omega)).mono ?_; rintro e w3 ⟨g', rfl, hown', hb3⟩
  have HR := Lib.hid (rd_below HR.out hb3)
  have HS := Lib.hid (HS.out.call hb3)
  have HO := Lib.hid (own_kept HO.out hb3)
  have HO' := Lib.hid hown'
  clear hb3 hown'
  have hlz : ((ws.length : Int) == 0) = false := by rw [beq_eq_false_iff_ne]; omega
  go_wp2
  go_loopw [14] (fun i wr => ∃ k : Nat, k ≤ ws.length ∧ i = .int .i64 k ∧ ∃ q, wr = w3.drewN q) (fun i _ => ws.length - (intOf i).toNat)
  case atStart => exact ⟨0, Nat.zero_le _, rfl, 0, rfl⟩
  case round =>
    obtain ⟨k, hk, rfl, q, rfl⟩ := hrel
    by_cases hlt : k < ws.length
    · have hcy := made_cell HO.out Hlen.out k hlt
      have hcz := made_cell HO'.out Hlen'.out k hlt
      rw [Hneg.out k hlt] at hcz
      obtain ⟨y1, y2⟩ := Hbd.out k hlt
      generalize (splitS n ws).getD k 0 = y at *
      go_wp2
      go_quiet (fail)
      go_wp2
      go_roundw
      case rel => exact ⟨k + 1, by omega, by go_num, _, rfl⟩
      case measure => simp [intOf]; omega
    · have e : k = ws.length := by omega
      subst e
      rcases HR.out with e | ⟨b, off, rfl, hb, hc⟩
      · rw [e] at hl1; simp at hl1
      have hci := hc ii hiil
      have hck := hc kk hkkl
      have hli := made_cell HO.out Hlen.out ii hiil
      have hlk := made_cell HO.out Hlen.out kk hkkl
      obtain ⟨f1, f2⟩ := Hfair.out ii kk hiil hkkl
      obtain ⟨y1, y2⟩ := Hbd.out ii hiil
      obtain ⟨y3, y4⟩ := Hbd.out kk hkkl
      clear hc
      generalize (splitS n ws).getD ii 0 = li at *
      generalize (splitS n ws).getD kk 0 = lk at *
      generalize ws.getD ii 0 = wi at *
      generalize ws.getD kk 0 = wk at *
      go_wp2
      rw [Hii.out, Hkk.out]
      have hcase : (wk < wi ∧ lk ≤ li ∧ (wi != wk) = true) ∨ (wi < wk ∧ (wi != wk) = true ∧ decide (wk < wi) = false) ∨
          (kk ≤ ii ∧ (wi != wk) = false ∧ decide (wk < wi) = false) ∨ (ii < kk ∧ (wi != wk) = false ∧ (li == lk) = true ∧ decide (wk < wi) = false) ∨
          (ii < kk ∧ (wi != wk) = false ∧ (li == lk) = false ∧ (li == lk + 1) = true ∧ decide (wk < wi) = false) := by
        by_cases c1 : wk < wi
        · exact Or.inl ⟨c1, f1 c1, by simp; omega⟩
        · by_cases c2 : wi < wk
          · exact Or.inr (Or.inl ⟨c2, by simp; omega, by simp; omega⟩)
          · have e : wi = wk := by omega
            by_cases c3 : kk ≤ ii
            · exact Or.inr (Or.inr (Or.inl ⟨c3, by simp [e], by simp; omega⟩))
            · by_cases c4 : li = lk
              · exact Or.inr (Or.inr (Or.inr (Or.inl ⟨by omega, by simp [e], by simp [c4], by simp; omega⟩)))
              · have c5 : li = lk + 1 := by
                  rcases f2 e (by omega) with h | h
                  · exact absurd h c4
                  · exact h
                exact Or.inr (Or.inr (Or.inr (Or.inr ⟨by omega, by simp [e], by simp [c4], by simp [c5], by simp; omega⟩)))
      clear f1 f2
      rcases hcase with ⟨a1, a2, a3⟩ | ⟨a1, a2, a3⟩ | ⟨a1, a2, a3⟩ | ⟨a1, a2, a3, a4⟩ | ⟨a1, a2, a3, a4, a5⟩
      · have hd : decide (li < lk) = false := by simp; omega
        go_quiet (fail)
        go_wp2
        go_quiet (fail)
        go_wp2
        go_ret
        exact ⟨rfl, below_drewN (below_drewN (below_drewN HS.out _) _) _⟩
      · go_quiet (fail)
        go_wp2
        go_quiet (fail)
        go_wp2
        go_ret
        exact ⟨rfl, below_drewN (below_drewN (below_drewN HS.out _) _) _⟩
      · go_quiet (fail)
        go_wp2
        go_quiet (fail)
        go_wp2
        go_ret
        exact ⟨rfl, below_drewN (below_drewN (below_drewN HS.out _) _) _⟩
      · have hd : decide (kk ≤ ii) = false := by simp; omega
        go_quiet (fail)
        go_wp2
        go_quiet (fail)
        go_wp2
        go_ret
        exact ⟨rfl, below_drewN (below_drewN (below_drewN HS.out _) _) _⟩
      · have hd : decide (kk ≤ ii) = false := by simp; omega
        go_quiet (fail)
        go_wp2
        go_quiet (fail)
        go_wp2
        go_ret
        exact ⟨rfl, below_drewN (below_drewN (below_drewN HS.out _) _) _⟩

set_option maxRecDepth 100000 in
theorem fair_walk (n : Int) (p : Option Addr) (len cap : Nat) (zs : List Int) (o1 o2 : Int) (w : World) (hn : (Lit.int .i64 n).wf = true) (hz : IsRow .i64 w p len cap zs) (h1 : (Lit.int .u8 o1).wf = true) (h2 : (Lit.int .u8 o2).wf = true) (hE : Env w) :
    Calls Tryd.prog 7 #[.int .i64 n, .slice p len cap, .int .u8 o1, .int .u8 o2] w fun e w' => e = .returned (.bool true) ∧ RowKit.Below w.heap.size w w' := by
  obtain ⟨hm, ws, rfl, hr, _⟩ := rd_of_row hz
  unfold maxLen at hm
  obtain ⟨hn0, hn1⟩ := bounds_i64 hn
  by_cases hc : ws.length ≤ 100 ∧ 0 ≤ n
  · obtain ⟨hl, hp⟩ := hc
    cases h : valid n && vWeights ws
    · exact fair_bad n ws p cap o1 o2 w hp hn1 h hl hr hE
    · exact fair_good n ws p cap o1 o2 w hp h hl hr (bounds_u8 h1) (bounds_u8 h2) hE
  · have HE := Lib.hid hE
    have HS : Hid (Since w w) := RowKit.Below.refl _ _
    clear hr hz hE hn h1 h2 hn0 hn1
    by_cases hl : 100 < (ws.length : Int)
    · clear hc
      go_enter Tryd.func7, Tryd.ntmps7
      go_wp2_with fail
      refine (head_any _ HE.out).mono ?_; rintro e w1 ⟨rfl, hb1⟩
      have HS := Lib.hid (HS.out.call hb1)
      clear hb1
      go_wp2
      go_ret
      exact ⟨rfl, HS.out⟩
    · have hp : n < 0 := by omega
      clear hc
      go_enter Tryd.func7, Tryd.ntmps7
      go_wp2_with fail
      refine (head_any _ HE.out).mono ?_; rintro e w1 ⟨rfl, hb1⟩
      have HS := Lib.hid (HS.out.call hb1)
      clear hb1
      go_wp2
      go_ret
      exact ⟨rfl, HS.out⟩
end Go.Proofs.YtdjilieadhnhcaaDoor
