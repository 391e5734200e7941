/-
  The law LexerLongest: its walk.
-/
import Derived.Test.YtbnnlpmflifofaaDoorLawHelp
import Derived.Test.YtbnnlpmflifofaaDoorRefSame
import Derived.IntWalk
import Derived.Test.YtbnnlpmflifofaaDoorRound
namespace Go.Proofs.YtbnnlpmflifofaaDoor
open Go.RowKit Go.Sort Foyer.Lexer Foyer.Round

set_option linter.unusedSimpArgs false in
set_option maxRecDepth 100000 in
set_option maxHeartbeats 2000000 in
theorem longest_ok (t : ByteArray) (w : World) (ht : t.size ≤ 3000) (ts : List Foyer.Lexer.Tok) (h : Lx 0 t.data.toList ts none) :
    Calls Tryd.prog 9 #[.string t] w fun e w' => e = .returned (.bool true) ∧ Below w.heap.size w w' := by
  have HS : Hid (Since w w) := Below.refl _ _
  have hd : decide ((3000 : Int) < (t.size : Int)) = false := by simp; omega
  have hsz : t.data.toList.length = t.size := by simp
  have hx := lexAll_none (by omega) h
  have hc := lx_count h
  have hp := lx_pos h
  obtain ⟨n, hn⟩ : ∃ n, ts.length = n := ⟨_, rfl⟩
  rw [hn, hsz] at hc
  rw [hsz] at hp
  have hl := fun w => lex_n t (by omega) ts n 0 0 hn hx w
  have HL := Lib.hid hl; have HN := Lib.hid hn; have HLX := Lib.hid h; have HSZ := Lib.hid hsz; have HP := Lib.hid hp
  clear hx hl hn h hsz hp
  go_enter Tryd.func9, Tryd.ntmps9
  go_wp2_with fail
  refine (head_any _).mono ?_; rintro x w1 ⟨rfl, hb1⟩
  have HS1 := Lib.hid (HS.out.call hb1); clear hb1
  go_wp2_with fail
  refine (HL.out _).mono ?_; rintro x w2 ⟨q, cap, rfl, hr, hcap, hm, hb2⟩
  have HS2 := Lib.hid (HS1.out.call hb2); have HR := Lib.hid hr; clear hb2 hr
  go_wp2
  go_loopw [7] (fun i wr => ∃ j : Nat, i = .int .i64 (j + 1 : Nat) ∧ j ≤ n ∧ Hid (RdT wr q ts) ∧ Hid (Since w wr)) (fun i _ => (n + 1) - (intOf i).toNat)
  case atStart => exact ⟨0, rfl, Nat.zero_le _, HR, HS2⟩
  case round =>
    obtain ⟨wo, rfl⟩ : ∃ wo : World, wo = wr := ⟨_, rfl⟩
    clear HR
    obtain ⟨j, rfl, hj, HR, HSW⟩ := hrel
    by_cases hlt : j + 1 < n
    · obtain ⟨u, hu⟩ : ∃ u, ts[j]? = some u := ⟨_, List.getElem?_eq_getElem (by rw [HN.out]; omega)⟩
      obtain ⟨v, hv⟩ : ∃ v, ts[j + 1]? = some v := ⟨_, List.getElem?_eq_getElem (by rw [HN.out]; omega)⟩
      obtain ⟨b, off, rfl, hta, hbl⟩ := rdT_cells HR.out j u hu
      obtain ⟨b', off', e', htb, hbl'⟩ := rdT_cells HR.out (j + 1) v hv
      simp only [Option.some.injEq, Addr.mk.injEq, and_true] at e'
      obtain ⟨rfl, rfl⟩ := e'
      have hpu := HP.out u (List.mem_of_getElem? hu)
      have hpv := HP.out v (List.mem_of_getElem? hv)
      have htouch := lx_touch HLX.out j u v hu hv
      obtain ⟨kd, T, vl, po⟩ := u
      obtain ⟨kd2, T2, vl2, po2⟩ := v
      obtain ⟨a0, a1, a2, a3⟩ := hta
      obtain ⟨c0, c1, c2, c3⟩ := htb
      dsimp only at a1 a3 c1 c3 hpu hpv htouch
      have hT1 : (⟨T.toArray⟩ : ByteArray).size = T.length := size_of_list T
      have hT2 : (⟨T2.toArray⟩ : ByteArray).size = T2.length := size_of_list T2
      obtain ⟨L, hL⟩ : ∃ L, T.length = L := ⟨_, rfl⟩
      obtain ⟨L2, hL2⟩ : ∃ L, T2.length = L := ⟨_, rfl⟩
      rw [hL] at hT1 hpu htouch
      rw [hL2] at hT2 hpv
      have HTO := Lib.hid htouch; have HLL := Lib.hid hL; have HLL2 := Lib.hid hL2
      clear hu hv htouch hL hL2 a0 a2 c0 c2
      have hkd : decide (((j + 1 : Nat) : Int) < (n : Int)) = true := by simp; omega
      have w1' : IntKind.i64.wrap (j : Int) = (j : Int) := IntWalk.i64_in _ ⟨by omega, by omega⟩
      have w2' : IntKind.i64.wrap ((j : Int) + 1 - 1) = (j : Int) := by rw [Int.add_sub_cancel]; exact w1'
      have w3' : IntKind.i64.wrap ((po : Int) + (L : Int)) = (po : Int) + (L : Int) := IntWalk.i64_in _ ⟨by omega, by omega⟩
      have i1 : 0 ≤ (j : Int) + 1 := by omega
      have i2 : ((j : Int) + 1).toNat = j + 1 := by omega
      have i3 : (j : Int) < (n : Int) := by omega
      have i4 : (j : Int) + 1 < (n : Int) := by omega
      by_cases hto : po + L = po2
      · have d1 : ((po : Int) + (L : Int) != (po2 : Int)) = false := by simp; omega
        have hx := lexAll_none (by rw [List.length_append, HLL.out, HLL2.out]; omega) (HTO.out hto)
        have e1 : ((⟨T.toArray⟩ : ByteArray) ++ ⟨T2.toArray⟩).data.toList = T ++ T2 := by rw [str_append]
        rw [← e1] at hx
        have hl2 := fun w => lex_n ((⟨T.toArray⟩ : ByteArray) ++ ⟨T2.toArray⟩) (by rw [str_append, size_of_list, List.length_append, HLL.out, HLL2.out]; omega) _ 2 0 0 rfl hx w
        have HL2 := Lib.hid hl2
        clear hx e1 hl2
        go_wp2
        go_quiet (fail)
        have a1' : (wo.drewN nq).cell? ⟨b, off + j * 4 + 1, none⟩ = some (.string ⟨T.toArray⟩) := a1
        have c1' : (wo.drewN nq).cell? ⟨b, off + (j + 1) * 4 + 1, none⟩ = some (.string ⟨T2.toArray⟩) := c1
        have HR' := Lib.hid (HR.out.drewN nq); have HS' := Lib.hid (HSW.out.drewN nq)
        have hbn : b < (wo.drewN nq).heap.size := hbl
        clear a1 a3 c1 c3 HR HSW hbl hbl'
        generalize wo.drewN nq = wp at *
        have hsum : L + L2 ≤ 9223372036854775807 := by omega
        have hsum2 : (⟨T.toArray⟩ : ByteArray).size + (⟨T2.toArray⟩ : ByteArray).size ≤ 9223372036854775807 := by rw [hT1, hT2]; exact hsum
        go_wp2
        refine wp_region_any (by kernel_rfl) ?_
        have hS0 : Below wp.drew.heap.size wp.drew wp.drew := Below.refl _ _
        have hW0 : Below wp.heap.size wp wp.drew := below_drewN (Below.refl _ _) 1
        have a1w : wp.drew.cell? ⟨b, off + j * 4 + 1, none⟩ = some (.string ⟨T.toArray⟩) := a1'
        have c1w : wp.drew.cell? ⟨b, off + (j + 1) * 4 + 1, none⟩ = some (.string ⟨T2.toArray⟩) := c1'
        have hbw : b < wp.drew.heap.size := hbn
        refine any_of_held (S := fun w' => Below wp.drew.heap.size wp.drew w') (N := []) _ _ _ _ ?_
        change held _ _ _ _ _ _ _ _ _ wp.drew
        obtain ⟨wa, hwa⟩ : ∃ wa, wp.drew = wa := ⟨_, rfl⟩
        rw [hwa] at hS0 hW0 a1w c1w hbw ⊢
        refine held_take [] (i := 0) (v := .slice (some ⟨b, off, none⟩) n cap) rfl (by kernel_rfl) (fun _ _ _ h => h) (Or.inl ⟨by rfl, fun w' hS => by go_simp⟩) hS0 ?_
        try simp only [Act.put, List.setIfInBounds_toArray, List.set_cons_zero, List.set_cons_succ]
        refine held_take [] (i := 1) (v := .int .i64 ((j : Int) + 1)) rfl (by kernel_rfl) (fun _ _ _ h => h) (Or.inl ⟨by rfl, fun w' hS => by go_simp⟩) hS0 ?_
        try simp only [Act.put, List.setIfInBounds_toArray, List.set_cons_zero, List.set_cons_succ]
        refine held_take [] (i := 2) (v := .int .i64 (j : Int)) rfl (by kernel_rfl) (fun _ _ _ h => h) (Or.inl ⟨by rfl, fun w' hS => by go_simp⟩) hS0 ?_
        try simp only [Act.put, List.setIfInBounds_toArray, List.set_cons_zero, List.set_cons_succ]
        refine held_take [] (i := 3) (v := .pointer (some ⟨b, off + j * 4, none⟩)) rfl (by kernel_rfl) (fun _ _ _ h => h) (Or.inl ⟨by rfl, fun w' hS => by go_simp⟩) hS0 ?_
        try simp only [Act.put, List.setIfInBounds_toArray, List.set_cons_zero, List.set_cons_succ]
        refine held_take [] (i := 4) (v := .pointer (some ⟨b, off + j * 4 + 1, none⟩)) rfl (by kernel_rfl) (fun _ _ _ h => h) (Or.inl ⟨by rfl, fun w' hS => by go_simp⟩) hS0 ?_
        try simp only [Act.put, List.setIfInBounds_toArray, List.set_cons_zero, List.set_cons_succ]
        refine held_take [] (i := 5) (v := .string ⟨T.toArray⟩) rfl (by kernel_rfl) (fun _ _ _ h => h) (Or.inl ⟨by rfl, fun w' hS => by have hc := (hS.cell (p := ⟨b, off + j * 4 + 1, none⟩) hbw).trans a1w; go_simp⟩) hS0 ?_
        try simp only [Act.put, List.setIfInBounds_toArray, List.set_cons_zero, List.set_cons_succ]
        refine held_take [] (i := 6) (v := .slice (some ⟨b, off, none⟩) n cap) rfl (by kernel_rfl) (fun _ _ _ h => h) (Or.inl ⟨by rfl, fun w' hS => by go_simp⟩) hS0 ?_
        try simp only [Act.put, List.setIfInBounds_toArray, List.set_cons_zero, List.set_cons_succ]
        refine held_take [] (i := 7) (v := .int .i64 ((j : Int) + 1)) rfl (by kernel_rfl) (fun _ _ _ h => h) (Or.inl ⟨by rfl, fun w' hS => by go_simp⟩) hS0 ?_
        try simp only [Act.put, List.setIfInBounds_toArray, List.set_cons_zero, List.set_cons_succ]
        refine held_take [] (i := 8) (v := .pointer (some ⟨b, off + (j + 1) * 4, none⟩)) rfl (by kernel_rfl) (fun _ _ _ h => h) (Or.inl ⟨by rfl, fun w' hS => by go_simp⟩) hS0 ?_
        try simp only [Act.put, List.setIfInBounds_toArray, List.set_cons_zero, List.set_cons_succ]
        refine held_take [] (i := 9) (v := .pointer (some ⟨b, off + (j + 1) * 4 + 1, none⟩)) rfl (by kernel_rfl) (fun _ _ _ h => h) (Or.inl ⟨by rfl, fun w' hS => by go_simp⟩) hS0 ?_
        try simp only [Act.put, List.setIfInBounds_toArray, List.set_cons_zero, List.set_cons_succ]
        refine held_take [] (i := 10) (v := .string ⟨T2.toArray⟩) rfl (by kernel_rfl) (fun _ _ _ h => h) (Or.inl ⟨by rfl, fun w' hS => by have hc := (hS.cell (p := ⟨b, off + (j + 1) * 4 + 1, none⟩) hbw).trans c1w; go_simp⟩) hS0 ?_
        try simp only [Act.put, List.setIfInBounds_toArray, List.set_cons_zero, List.set_cons_succ]
        refine held_take [] (i := 11) (v := .string ((⟨T.toArray⟩ : ByteArray) ++ ⟨T2.toArray⟩)) rfl (by kernel_rfl) (fun _ _ _ h => h) (Or.inl ⟨by rfl, fun w' hS => by go_simp⟩) hS0 ?_
        try simp only [Act.put, List.setIfInBounds_toArray, List.set_cons_zero, List.set_cons_succ]
        refine held_one (i := 12) rfl (by kernel_rfl) (fun K hK => ?_)
        go_simp
        refine (HL2.out wa).mono ?_; rintro e wb ⟨q2, cap2, rfl, hr2, hc2, hm2, hbb⟩
        refine hK.out _ _ (fun _ => hbb) ?_
        clear hK K
        try simp only [Act.put, List.setIfInBounds_toArray, List.set_cons_zero, List.set_cons_succ]
        refine held_take [] (i := 13) (v := .tuple #[.slice q2 2 cap2, .int .i64 (0 : Nat), .int .i64 0]) rfl (by kernel_rfl) (fun _ _ _ h => h) (Or.inl ⟨by rfl, fun w' hS => by go_simp⟩) hbb ?_
        try simp only [Act.put, List.setIfInBounds_toArray, List.set_cons_zero, List.set_cons_succ]
        refine held_take [] (i := 14) (v := .slice q2 2 cap2) rfl (by kernel_rfl) (fun _ _ _ h => h) (Or.inl ⟨by rfl, fun w' hS => by go_simp⟩) hbb ?_
        try simp only [Act.put, List.setIfInBounds_toArray, List.set_cons_zero, List.set_cons_succ]
        refine held_take [] (i := 15) (v := .int .i64 0) rfl (by kernel_rfl) (fun _ _ _ h => h) (Or.inl ⟨by rfl, fun w' hS => by go_simp⟩) hbb ?_
        try simp only [Act.put, List.setIfInBounds_toArray, List.set_cons_zero, List.set_cons_succ]
        refine held_take [] (i := 16) (v := .int .i64 0) rfl (by kernel_rfl) (fun _ _ _ h => h) (Or.inl ⟨by rfl, fun w' hS => by go_simp⟩) hbb ?_
        try simp only [Act.put, List.setIfInBounds_toArray, List.set_cons_zero, List.set_cons_succ]
        refine held_one (i := 17) rfl (by kernel_rfl) (fun K hK => ?_)
        go_simp
        refine hK.out _ _ (fun _ => hbb) ?_
        clear hK K
        try simp only [Act.put, List.setIfInBounds_toArray, List.set_cons_zero, List.set_cons_succ]
        refine held_one (i := 18) rfl (by kernel_rfl) (fun K hK => ?_)
        go_simp
        refine hK.out _ _ (fun _ => hbb) ?_
        clear hK K
        try simp only [Act.put, List.setIfInBounds_toArray, List.set_cons_zero, List.set_cons_succ]
        refine held_one (i := 19) rfl (by kernel_rfl) (fun K hK => ?_)
        go_simp
        refine hK.out _ _ (fun _ => hbb) ?_
        clear hK K
        try simp only [Act.put, List.setIfInBounds_toArray, List.set_cons_zero, List.set_cons_succ]
        refine held_done (by kernel_rfl) ?_ _
        have hbel : Below wp.heap.size wp wb := hW0.trans (hbb.mono hW0.size)
        have HR2 := Lib.hid (HR'.out.since hbel); have HS2' := Lib.hid (HS'.out.call hbel)
        clear hbel hbb hr2
        go_wp2
        go_roundw
        case rel => exact ⟨j + 1, by go_num, by omega, HR2, HS2'⟩
        case measure => simp [intOf]; omega
      · have d1 : ((po : Int) + (L : Int) != (po2 : Int)) = true := by simp; omega
        go_wp2
        go_quiet (fail)
        go_wp2
        go_roundw
        case rel => exact ⟨j + 1, by go_num, by omega, Lib.hid (HR.out.drewN _), Lib.hid (HSW.out.drewN _)⟩
        case measure => simp [intOf]; omega
    · have hkd : decide (((j + 1 : Nat) : Int) < (n : Int)) = false := by simp; omega
      go_wp2
      go_ret
      exact ⟨rfl, HSW.out⟩

set_option maxRecDepth 100000 in
set_option maxHeartbeats 2000000 in
theorem longest_walk (t : ByteArray) (w : World) (ht : t.size ≤ maxLen) (_ : Env w) :
    Calls Tryd.prog 9 #[.string t] w fun e w' => e = .returned (.bool true) ∧ Below w.heap.size w w' := by
  have HS : Hid (Since w w) := Below.refl _ _
  unfold maxLen at ht
  by_cases h2 : 3000 < t.size
  · have hd : decide ((3000 : Int) < (t.size : Int)) = true := by simp; omega
    go_enter Tryd.func9, Tryd.ntmps9
    go_wp2_with fail
    refine (head_any _).mono ?_; rintro x w1 ⟨rfl, hb1⟩
    have HS1 := Lib.hid (HS.out.call hb1); clear hb1
    go_wp2
    go_ret
    exact ⟨rfl, HS1.out⟩
  · have hsz : t.data.toList.length = t.size := by simp
    rcases lex_ways t.data.toList (by omega) with ⟨ts, hlx, hx⟩ | ⟨ts, d, p, hlx, hx, hd3, hp⟩
    · exact longest_ok t w (by omega) ts hlx
    · have hl := fun w => lex_n t (by omega) [] 0 d p rfl hx w
      have HL := Lib.hid hl
      have hd : decide ((3000 : Int) < (t.size : Int)) = false := by simp; omega
      clear hx hl hsz hlx hd3 hp
      go_enter Tryd.func9, Tryd.ntmps9
      go_wp2_with fail
      refine (head_any _).mono ?_; rintro x w1 ⟨rfl, hb1⟩
      have HS1 := Lib.hid (HS.out.call hb1); clear hb1
      go_wp2_with fail
      refine (HL.out _).mono ?_; rintro x w2 ⟨q, cap, rfl, hr, hc, hm, hb2⟩
      have HS2 := Lib.hid (HS1.out.call hb2); clear hb2 hr
      go_wp2
      go_loopw [7] (fun i wr => i = .int .i64 1 ∧ w2 = wr) (fun _ _ => 0)
      case atStart => exact ⟨rfl, rfl⟩
      case round =>
        obtain ⟨rfl, rfl⟩ := hrel
        go_wp2
        go_ret
        exact ⟨rfl, HS2.out⟩
end Go.Proofs.YtbnnlpmflifofaaDoor
