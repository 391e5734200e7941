/-
  The law MoneyScales: its walk.
-/
import Derived.Test.YtdjilieadhnhcaaDoorHead
import Derived.Test.YtdjilieadhnhcaaDoorSlices
import Derived.Test.YtdjilieadhnhcaaDoorMathParts
namespace Go.Proofs.YtdjilieadhnhcaaDoor
open Go.RowKit Go.Sort Go.Shelf Foyer.Money

theorem made_at {w : World} {B g n : Nat} {zs : List Int} (h : w.ownsRow B 3 1 (.slice (some ⟨g, 0, none⟩) n n) n (zs.map (Value.int .i64))) (hn : zs.length = n) (k : Nat) (hk : k < n) : w.cell? ⟨g, k, none⟩ = some (.int .i64 (zs.getD k 0)) := by
  have hkl : k < zs.length := by omega
  rw [h.cellAt k (by omega), List.getElem?_map, List.getElem?_eq_getElem hkl]
  simp [hkl]
theorem rd_single (w : World) (a : Int) (T : TypeId) : Rd (w.alloc (.cells #[.int .i64 a] T)) (some ⟨w.heap.size, 0, none⟩) [a] := by
  refine Or.inr ⟨w.heap.size, 0, rfl, by simp, fun j hj => ?_⟩
  match j, hj with
  | 0, _ => simp
theorem rd_of_made' {w : World} {B k : Nat} {v : Value} {zs : List Int} (h : w.ownsRow B 3 1 v k (zs.map (Value.int .i64))) (hk : zs.length = k) :
    ∃ p c, v = .slice p zs.length c ∧ Rd w p zs := by
  have hh := h
  rcases h.2 with ⟨rfl, rfl⟩ | ⟨g, cap, cur, rfl, _⟩
  · have e : zs = [] := List.eq_nil_of_length_eq_zero hk
    subst e
    exact ⟨none, 0, rfl, Or.inl rfl⟩
  · subst hk
    exact ⟨_, _, rfl, rd_of_own hh rfl⟩
theorem scaled_take (ws : List Int) (K : Int) (k : Nat) (hk : k < ws.length) : (ws.map fun w => K * w).take (k + 1) = (ws.map fun w => K * w).take k ++ [K * ws.getD k 0] := by
  rw [List.take_succ_eq_append_getElem (by simpa using hk)]
  simp [List.getD_eq_getElem?_getD, hk]

set_option maxRecDepth 100000 in
set_option maxHeartbeats 1000000 in
theorem scales_bad (n : Int) (ws : List Int) (p : Option Addr) (cap : Nat) (o : Int) (w : World) (h : (valid n && vWeights ws) = false) (hl : ws.length ≤ 100) (hr : Rd w p ws) (hE : Env w) :
    Calls Tryd.prog 8 #[.int .i64 n, .slice p ws.length cap, .int .u8 o] w fun e w' => e = .returned (.bool true) ∧ RowKit.Below w.heap.size w w' := by
  have HE := Lib.hid hE; clear hE
  have HS : Hid (Since w w) := RowKit.Below.refl _ _
  have HR := Lib.hid hr; have HH := Lib.hid h; clear hr h
  go_enter Tryd.func8, Tryd.ntmps8
  go_wp2_with fail
  refine (head_any _ HE.out).mono ?_; rintro e w1 ⟨rfl, hb1⟩
  have HR := Lib.hid (rd_below HR.out hb1)
  have HS := Lib.hid (HS.out.call hb1)
  clear hb1
  go_wp2_with fail
  refine (split_bad n ws p cap _ HH.out HR.out (by omega)).mono ?_; rintro e w2 ⟨rfl, rfl⟩
  go_wp2
  go_ret
  exact ⟨rfl, HS.out⟩

set_option maxRecDepth 100000 in
set_option maxHeartbeats 2000000 in
theorem scales_good (n : Int) (ws : List Int) (p : Option Addr) (cap : Nat) (o : Int) (w : World) (h : (valid n && vWeights ws) = true) (hl : ws.length ≤ 100) (hr : Rd w p ws) (ho : 0 ≤ o ∧ o ≤ 255) (hE : Env w) :
    Calls Tryd.prog 8 #[.int .i64 n, .slice p ws.length cap, .int .u8 o] w fun e w' => e = .returned (.bool true) ∧ RowKit.Below w.heap.size w w' := by
  obtain ⟨i0, hi, hz0, hz1, hz2⟩ := info_parts info3
  obtain ⟨hv, hw⟩ := (Bool.and_eq_true _ _).mp h
  obtain ⟨hw1, hW⟩ := vWeights_iff.1 hw
  have hl1 := vWeights_length hw
  have HE := Lib.hid hE; clear hE
  have HS : Hid (Since w w) := RowKit.Below.refl _ _
  have HR := Lib.hid hr; have HH := Lib.hid h; have Hv := Lib.hid hv; have Hw := Lib.hid hw; have Hw1 := Lib.hid hw1; have HW := Lib.hid hW
  clear hr h hv hw hw1 hW
  obtain ⟨o0, o1⟩ := ho
  go_enter Tryd.func8, Tryd.ntmps8
  go_wp2_with fail
  refine (head_any _ HE.out).mono ?_; rintro e w1 ⟨rfl, hb1⟩
  have HR := Lib.hid (rd_below HR.out hb1)
  have HS := Lib.hid (HS.out.call hb1)
  clear hb1
  go_wp2_with fail
  refine (split_ok n ws p cap _ HH.out HR.out (by omega)).mono ?_; rintro e w2 ⟨g, rfl, hown, hb2⟩
  have HR := Lib.hid (rd_below HR.out hb2)
  have HS := Lib.hid (HS.out.call hb2)
  have HO := Lib.hid hown
  clear hb2 hown
  go_wp2
  have hK1 : 1 ≤ 1 + o % 50 := by omega
  have hK2 : 1 + o % 50 ≤ 50 := by omega
  generalize 1 + o % 50 = K at *
  have hKz : (K == 0) = false := by rw [beq_eq_false_iff_ne]; omega
  go_loopw [11, 12] (fun v i wr => ∃ k : Nat, k ≤ ws.length ∧ i = .int .i64 k ∧ wr.ownsRow w2.heap.size 3 1 v k (((ws.map fun w => K * w).take k).map (Value.int .i64)) ∧ Hid (∀ j, j < k → K * ws.getD j 0 ≤ 1000000000) ∧ Hid (Since w2 wr)) (fun _ i _ => ws.length - (intOf i).toNat)
  case atStart => exact ⟨0, Nat.zero_le _, rfl, World.ownsRow_nil _ _ _ _, Lib.hid (fun j hj => absurd hj (Nat.not_lt_zero _)), RowKit.Below.refl _ _⟩
  case round =>
    obtain ⟨k, hk, rfl, hown, HK, HS2⟩ := hrel
    have hsz := HS2.out.size
    by_cases hlt : k < ws.length
    · rcases HR.out with e | ⟨b, off, rfl, hb, hc⟩
      · rw [e] at hlt; simp at hlt
      have hcx : wr.cell? ⟨b, off + k, none⟩ = some (.int .i64 (ws.getD k 0)) := by rw [HS2.out.cell hb]; exact hc k hlt
      have hwx := Hw1.out (ws.getD k 0) (by rw [List.getD_eq_getElem?_getD, List.getElem?_eq_getElem hlt]; exact List.getElem_mem _)
      have ht := scaled_take ws K k hlt
      have HT := Lib.hid ht
      clear hc ht
      generalize hxx : ws.getD k 0 = x at *
      have Hxx := Lib.hid hxx; clear hxx
      obtain ⟨x0, x1⟩ := hwx
      have hq0 : 0 ≤ 1000000000 / K := Int.ediv_nonneg (by omega) (by omega)
      by_cases hgt : 1000000000 / K < x
      · go_wp2
        go_quiet (fail)
        go_wp2
        go_ret
        exact ⟨rfl, below_drewN (RowKit.Below.trans HS.out (HS2.out.mono HS.out.size)) _⟩
      · have hkx0 : 0 ≤ K * x := Int.mul_nonneg (by omega) x0
        have hkx : K * x ≤ 1000000000 := by
          have h1 : K * x ≤ K * (1000000000 / K) := Int.mul_le_mul_of_nonneg_left (by omega) (by omega)
          have h2 := Int.mul_ediv_add_emod 1000000000 K
          have h3 := Int.emod_nonneg 1000000000 (b := K) (by omega)
          omega
        have HK' := Lib.hid (upto_succ HK.out (by rw [Hxx.out]; exact hkx))
        go_wp2
        go_quiet (fail)
        go_wp2_with (at_builtin; refine wpList_append_own _ rfl _ _ 24 rfl w2.heap.size 3 i0 (.int .i64 0) 1 8 Tryd.underlying24 hi hz0 hz1 hz2 rfl (by decide) _ _ _ rfl (hown.alloc _) ⟨wr.heap.size, 0, none⟩ 1 1 [.int .i64 (K * x)] rfl rfl ?c1 ?c2 ?c3 ?c4 ?c5 ?_)
        case c1 => exact cell_one_new _ _ _
        case c2 => intro u hu; simp only [List.mem_singleton] at hu; subst hu; rfl
        case c3 => unfold maxLen; omega
        case c4 => omega
        case c5 => simp; omega
        intro v' w3 hown' hgrow' _
        have Ho : Hid (w3.ownsRow w2.heap.size 3 1 v' (k + 1) (((ws.map fun w => K * w).take (k + 1)).map (Value.int .i64))) := by
          show w3.ownsRow w2.heap.size 3 1 v' (k + 1) (((ws.map fun w => K * w).take (k + 1)).map (Value.int .i64))
          rw [HT.out]; simpa [List.map_take] using hown'
        have Hs : Hid (Since w2 w3) := RowKit.Below.grown ((below_drewN HS2.out _).alloc (by simpa using HS2.out.size) _) hgrow' (by simp; omega) (fun k hk => (hown.lt k hk).1)
        clear hown' hgrow' hown HS2 HK
        go_wp2
        go_roundw
        case rel => exact ⟨k + 1, by omega, by go_num, Ho.out, HK', Hs⟩
        case measure => simp [intOf]; omega
    · have e : k = ws.length := by omega
      subst e
      rw [List.take_of_length_le (by simp)] at hown
      obtain ⟨pv, cv, rfl, hT⟩ := rd_of_made' (zs := ws.map fun w => K * w) (v := u11) hown (by simp)
      have hvw : vWeights (ws.map fun w => K * w) = true := by
        rw [vWeights_iff]
        constructor
        · intro z hz
          obtain ⟨x, hx, rfl⟩ := List.mem_map.1 hz
          have hx0 := (Hw1.out x hx).1
          obtain ⟨j, hj, rfl⟩ := List.mem_iff_getElem.1 hx
          have := HK.out j hj
          rw [List.getD_eq_getElem?_getD, List.getElem?_eq_getElem hj, Option.getD_some] at this
          exact ⟨Int.mul_nonneg (by omega) hx0, this⟩
        · rw [sum_scaled]; exact Int.mul_pos (by omega) HW.out
      have hmlen : (ws.map fun w => K * w).length = ws.length := by simp
      have hS1 := split_c n (ws.map fun w => K * w) (splitS n ws) ws.length pv cv wr (by rw [Hv.out, hvw]; rfl) (splitS_scaled (by omega) ws) hmlen hT (by omega)
      have HS1 := Lib.hid hS1
      rw [hmlen]
      have hvk : (valid n && vWeights [K]) = true := by
        rw [Hv.out]
        have : vWeights [K] = true := by rw [vWeights_iff]; simp; omega
        rw [this]; rfl
      have Hvk := Lib.hid hvk
      have Hone : Hid (splitS n [K] = [n]) := splitS_one (by omega)
      have HR := Lib.hid (rd_below HR.out HS2.out)
      have HO := Lib.hid (own_kept HO.out HS2.out)
      have HS := Lib.hid (HS.out.call HS2.out)
      have Hz0 : Hid ((valid 0 && vWeights ws) = true) := by show _ = true; rw [Hw.out]; decide +kernel
      have Hlen := Lib.hid (splitS_len n ws)
      have Hlen0 := Lib.hid (splitS_len 0 ws)
      have Hzero := Lib.hid (splitS_zero (fun z hz => (Hw1.out z hz).1) HW.out)
      clear hT hS1 hvw hmlen hvk hown HK HS2 hsz
      go_wp2_with fail
      refine HS1.out.mono ?_; rintro e w4 ⟨g1, rfl, hown1, hb4⟩
      have HR := Lib.hid (rd_below HR.out hb4)
      have HO := Lib.hid (own_kept HO.out hb4)
      have HS := Lib.hid (HS.out.call hb4)
      have HO1 := Lib.hid hown1
      clear hb4 hown1 HS1
      go_wp2_with fail
      refine (split_ok 0 ws p cap _ Hz0.out HR.out (by omega)).mono ?_; rintro e w5 ⟨g2, rfl, hown2, hb5⟩
      have HO := Lib.hid (own_kept HO.out hb5)
      have HO1 := Lib.hid (own_kept HO1.out hb5)
      have HS := Lib.hid (HS.out.call hb5)
      have HO2 := Lib.hid hown2
      clear hb5 hown2
      go_wp2_with fail
      refine (split_c n [K] [n] 1 _ _ _ Hvk.out Hone.out rfl (rd_single _ _ _) (by decide)).mono ?_; rintro e w6 ⟨g3, rfl, hown3, hb6⟩
      have HO := Lib.hid (own_kept (own_alloc HO.out _) hb6)
      have HO1 := Lib.hid (own_kept (own_alloc HO1.out _) hb6)
      have HO2 := Lib.hid (own_kept (own_alloc HO2.out _) hb6)
      have HS := Lib.hid ((HS.out.alloc _).call hb6)
      have HO3 := Lib.hid hown3
      clear hb6 hown3
      go_wp2
      go_loop [19] (fun i => ∃ k : Nat, k ≤ ws.length ∧ i = .int .i64 k) (fun i => ws.length - (intOf i).toNat)
      case atStart => exact ⟨0, Nat.zero_le _, rfl⟩
      case round =>
        obtain ⟨k, hk, rfl⟩ := hrel
        by_cases hlt : k < ws.length
        · have hcz := made_at HO2.out Hlen0.out k hlt
          have hz : (splitS 0 ws).getD k 0 = 0 := Hzero.out _ (by rw [List.getD_eq_getElem?_getD, List.getElem?_eq_getElem (by rw [Hlen0.out]; exact hlt)]; exact List.getElem_mem _)
          rw [hz] at hcz
          clear hz
          go_wp2
          go_round
          case rel => exact ⟨k + 1, by omega, by go_num⟩
          case measure => simp [intOf]; omega
        · have e : k = ws.length := by omega
          subst e
          go_wp2_with fail
          refine (ints_c (splitS n ws) ws.length _ _ _ _ _ (rd_of_own HO.out Hlen.out) (rd_of_own HO1.out Hlen.out) Hlen.out (by omega)).mono ?_; rintro e w7 ⟨rfl, hb7⟩
          have HO3 := Lib.hid (own_kept HO3.out hb7)
          have HS := Lib.hid (HS.out.call hb7)
          clear hb7
          go_wp2_with fail
          refine (ints_c [n] 1 _ _ _ _ _ (rd_of_own (own_alloc HO3.out _) rfl) (rd_single _ _ _) rfl (by decide)).mono ?_; rintro e w8 ⟨rfl, hb8⟩
          have HS := Lib.hid ((HS.out.alloc _).call hb8)
          clear hb8
          go_wp2
          go_ret
          exact ⟨rfl, HS.out⟩

set_option maxRecDepth 100000 in
theorem scales_walk (n : Int) (p : Option Addr) (len cap : Nat) (zs : List Int) (o : Int) (w : World) (_ : (Lit.int .i64 n).wf = true) (hz : IsRow .i64 w p len cap zs) (h1 : (Lit.int .u8 o).wf = true) (hE : Env w) :
    Calls Tryd.prog 8 #[.int .i64 n, .slice p len cap, .int .u8 o] w fun e w' => e = .returned (.bool true) ∧ RowKit.Below w.heap.size w w' := by
  obtain ⟨hm, ws, rfl, hr, _⟩ := rd_of_row hz
  unfold maxLen at hm
  by_cases hl : ws.length ≤ 100
  · cases h : valid n && vWeights ws
    · exact scales_bad n ws p cap o w h hl hr hE
    · exact scales_good n ws p cap o w h hl hr (bounds_u8 h1) hE
  · have hl' : 100 < (ws.length : Int) := by omega
    have HE := Lib.hid hE
    have HS : Hid (Since w w) := RowKit.Below.refl _ _
    clear hr hz hE h1 hl
    go_enter Tryd.func8, Tryd.ntmps8
    go_wp2_with fail
    refine (head_any _ HE.out).mono ?_; rintro e w1 ⟨rfl, hb1⟩
    have HS := Lib.hid (HS.out.call hb1)
    clear hb1
    go_wp2
    go_ret
    exact ⟨rfl, HS.out⟩
end Go.Proofs.YtdjilieadhnhcaaDoor
