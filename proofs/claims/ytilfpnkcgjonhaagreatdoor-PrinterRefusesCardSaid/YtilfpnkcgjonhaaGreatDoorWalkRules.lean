/-
  The walks of rules.
-/
import Derived.Test.YtilfpnkcgjonhaaGreatDoorWalkItem
namespace Go.Proofs.YtilfpnkcgjonhaaGreatDoor.Pr
open Go.RowKit Go.Sort Foyer.Printer Foyer.Lexer Foyer.Round

set_option linter.unusedSimpArgs false in
set_option maxRecDepth 100000 in
set_option maxHeartbeats 4000000 in
theorem rules_any {B b : Nat} {T : TypeId} (l : List ItemZ) (hx : ∀ x ∈ l, ItemZ.Fit x) (p : Option Addr) (n cap : Nat) (w : World) (v : Value) (s : St) (h : WR B b T w v s) (hB : B ≤ w.heap.size) (hE : EnvAt B w) (hm : Lk itemL w B (.slice p n cap) l) :
    Calls Tryz.prog 29 #[.pointer (some ⟨b, 0, none⟩), .agg #[.slice p n cap]] w fun e w' => e = .returned (.tuple #[]) ∧ Step B b T w v (rulesS l s) w' := by
  have hb0 : Below w.heap.size w (w.alloc (.cells #[.slice p n cap] 29)) := (Below.refl _ _).alloc (Nat.le_refl _) _
  have hR : Wrote b w v (w.alloc (.cells #[.slice p n cap] 29)) v := (Wrote.refl b _ v).later hb0
  have HBK : Hid (∀ w' v', Wrote b (w.alloc (.cells #[.slice p n cap] 29)) v w' v' → Blk w' w.heap.size 29 [.slice p n cap]) := Lib.hid fun w' v' k => (k.kept (k := w.heap.size) (by simp) (by have := h.lt; omega) (fun e => by have := (h.vlow e).2; omega)).1.trans (Blk.new w 29 [.slice p n cap])
  have HB0 : Hid (B ≤ (w.alloc (.cells #[.slice p n cap] 29)).heap.size) := Lib.hid (by simp; omega)
  have HEW : Hid (∀ w' v', Wrote b (w.alloc (.cells #[.slice p n cap] 29)) v w' v' → EnvAt B w') := Lib.hid fun w' v' k => hE.below ((hb0.mono hB).trans ((h.later hb0).wrote (by simp; omega) k))
  have HIN : Hid (∀ w' v', Wrote b (w.alloc (.cells #[.slice p n cap] 29)) v w' v' → Below B w w') := Lib.hid fun w' v' k => (hb0.mono hB).trans ((h.later hb0).wrote (by simp; omega) k)
  have K0 := Lib.hid (h.later hb0)
  have HFIN : Hid (∀ w' v', Wrote b (w.alloc (.cells #[.slice p n cap] 29)) v w' v' → Wrote b w v w' v') := Lib.hid fun w' v' k => hR.trans k
  obtain ⟨w0, hw0⟩ : ∃ w0, w.alloc (.cells #[.slice p n cap] 29) = w0 := ⟨_, rfl⟩
  obtain ⟨u0, hu0⟩ : ∃ u0, u0 = v := ⟨v, rfl⟩
  rw [hw0] at HBK HB0 HEW HIN HFIN K0
  rw [← hu0] at HBK HEW HIN HFIN K0
  have R0 := Lib.hid (Wrote.refl b w0 u0)
  have HL := Lib.hid hm
  have hlen := hm.len.1
  clear hm
  clear h hb0 hR hE hB
  go_enter Tryz.func29, Tryz.ntmps29
  by_cases hc : n ≤ 200
  · have hd : decide ((n : Int) ≤ 200) = true := by rw [decide_eq_true_eq]; omega
    go_upto_region 1 with fail
    try rw [hw0]
    refine wp_region_any (by kernel_rfl) ?_
    have KA := Lib.hid K0.out.drew; have RA := Lib.hid R0.out.drew
    have hS0 : Blk w0.drew w.heap.size 29 [.slice p n cap] := HBK.out _ _ RA.out
    refine any_of_held (S := fun W => Blk W w.heap.size 29 [.slice p n cap]) (N := []) _ _ _ _ ?_
    change held _ _ _ _ _ _ _ _ _ w0.drew
    obtain ⟨wa, hwa⟩ : ∃ wa, w0.drew = wa := ⟨_, rfl⟩
    rw [hwa] at hS0 KA RA ⊢
    clear hwa K0 R0
    refine held_take [] (i := 0) (v := .pointer (some ⟨b, 0, none⟩)) rfl (by kernel_rfl) (fun _ _ _ h => h) (Or.inl ⟨by rfl, fun w' hS => by go_simp⟩) hS0 ?_
    try simp only [Act.put, List.setIfInBounds_toArray, List.set_cons_zero, List.set_cons_succ]
    refine held_take [] (i := 1) (v := .pointer (some ⟨b, 0, none⟩)) rfl (by kernel_rfl) (fun _ _ _ h => h) (Or.inl ⟨by rfl, fun w' hS => by go_simp⟩) hS0 ?_
    try simp only [Act.put, List.setIfInBounds_toArray, List.set_cons_zero, List.set_cons_succ]
    refine held_take [] (i := 2) (v := .pointer (some ⟨b, 0, none⟩)) rfl (by kernel_rfl) (fun _ _ _ h => h) (Or.inl ⟨by rfl, fun w' hS => by go_simp⟩) hS0 ?_
    try simp only [Act.put, List.setIfInBounds_toArray, List.set_cons_zero, List.set_cons_succ]
    refine held_take [] (i := 3) (v := .pointer (some ⟨w.heap.size, 0, none⟩)) rfl (by kernel_rfl) (fun _ _ _ h => h) (Or.inl ⟨by rfl, fun w' hS => by go_simp⟩) hS0 ?_
    try simp only [Act.put, List.setIfInBounds_toArray, List.set_cons_zero, List.set_cons_succ]
    refine held_take [] (i := 4) (v := .slice p n cap) rfl (by kernel_rfl) (fun _ _ _ h => h) (Or.inl ⟨by rfl, fun w' hS => by have hc := hS.cell (i := 0) rfl; go_simp⟩) hS0 ?_
    try simp only [Act.put, List.setIfInBounds_toArray, List.set_cons_zero, List.set_cons_succ]
    refine held_take [] (i := 5) (v := .int .i64 n) rfl (by kernel_rfl) (fun _ _ _ h => h) (Or.inl ⟨by rfl, fun w' hS => by go_simp⟩) hS0 ?_
    try simp only [Act.put, List.setIfInBounds_toArray, List.set_cons_zero, List.set_cons_succ]
    refine held_take [] (i := 6) (v := .bool true) rfl (by kernel_rfl) (fun _ _ _ h => h) (Or.inl ⟨by rfl, fun w' hS => by go_simp⟩) hS0 ?_
    try simp only [Act.put, List.setIfInBounds_toArray, List.set_cons_zero, List.set_cons_succ]
    refine held_one (i := 7) rfl (by kernel_rfl) (fun K hK => ?_)
    go_simp
    have HC := Lib.hid (require_s true wa u0 _ KA.out)
    refine HC.out.mono ?_; rintro e w1 ⟨rfl, u1, k1, k2⟩
    replace RA := Lib.hid (RA.out.trans k2)
    replace KA := Lib.hid k1
    refine hK.out _ _ (fun _ => HBK.out _ _ RA.out) ?_
    clear hS0
    have hS0 := HBK.out _ _ RA.out
    clear hK K k1 k2 HC
    try simp only [Act.put, List.setIfInBounds_toArray, List.set_cons_zero, List.set_cons_succ]
    refine held_take [] (i := 8) (v := .bool false) rfl (by kernel_rfl) (fun _ _ _ h => h) (Or.inl ⟨by rfl, fun w' hS => by go_simp⟩) hS0 ?_
    try simp only [Act.put, List.setIfInBounds_toArray, List.set_cons_zero, List.set_cons_succ]
    refine held_done (by kernel_rfl) ?_ _
    have K1 := KA; have R1 := RA
    clear KA RA hS0
    have e1 : requireS true s = s := by simp [requireS]
    rw [e1] at K1
    clear e1
    have hc200 := hc
    clear hc
    obtain ⟨S1, hS⟩ : ∃ S, s = S := ⟨_, rfl⟩
    have HS1 := Lib.hid hS
    replace K1 : Hid (WR B b T w1 u1 S1) := Lib.hid (by rw [← hS]; exact K1.out)
    clear hS
    have cf := (HBK.out _ _ R1.out).cell (i := 0) rfl
    go_wp2
    go_loopw [18] (fun i wr => ∃ (k : Nat) (uo : Value), i = .int .i64 k ∧ k ≤ n ∧ Hid (WR B b T wr uo ((l.take k).foldl (fun s x => itemS x s) (S1))) ∧ Hid (Wrote b w0 u0 wr uo)) (fun i _ => n - (intOf i).toNat)
    case atStart => exact ⟨0, u1, rfl, Nat.zero_le _, Lib.hid (by rw [List.take_zero, List.foldl_nil]; exact K1.out), R1⟩
    case round =>
      have hnb : n ≤ 9223372036854775807 := by have := HL.out.len.2; unfold maxLen at this; omega
      obtain ⟨k, uo, rfl, hk, HV, HR⟩ := hrel
      clear cf
      have cf := (HBK.out _ _ HR.out).cell (i := 0) rfl
      by_cases hkn : k < n
      · obtain ⟨x, hx⟩ : ∃ x, l[k]? = some x := ⟨_, List.getElem?_eq_getElem (by have := HL.out.len.1; omega)⟩
        have hm := List.mem_of_getElem? hx
        have hst := take_fold (fun s x => itemS x s) l (S1) hx
        obtain ⟨t, ht⟩ : ∃ t, (l.take k).foldl (fun s x => itemS x s) (S1) = t := ⟨_, rfl⟩
        rw [ht] at hst HV
        obtain ⟨lb, lo, c, rfl, hlb, hc, hcell⟩ := (HL.out.below (HIN.out _ _ HR.out)).at hx
        obtain ⟨v0, rfl, hm0⟩ := hc
        obtain ⟨lp, lcap, rfl⟩ := hm0.slice
        obtain ⟨ln, hln⟩ : ∃ ln, x.conds.length = ln := ⟨_, rfl⟩
        rw [hln] at hm0 hcell
        clear hln
        obtain ⟨kind, name, conds, num, ⟨rn, rd⟩, ⟨sn, sd⟩, pos⟩ := x
        have d0 := hcell 0 _ rfl
        have d1 := hcell 1 _ rfl
        have d2 := hcell 2 _ rfl
        have d3 := hcell 3 _ rfl
        have d4 := hcell 4 _ rfl
        have d5 := hcell 5 _ rfl
        have d6 := hcell 6 _ rfl
        have d7 := hcell 7 _ rfl
        have d8 := hcell 8 _ rfl
        rw [show itemL.size = 9 from rfl] at d0 d1 d2 d3 d4 d5 d6 d7 d8
        rw [Nat.add_zero] at d0
        have hki : (0 : Int) ≤ k ∧ (k : Int) < n := by omega
        go_wp2_with fail
        have hbe : Below wr.heap.size wr (wr.alloc (.cells #[.int .i64 kind, .string ⟨name.toArray⟩, .slice lp ln lcap, .int .i64 num, .int .i64 rn, .int .i64 rd, .int .i64 sn, .int .i64 sd, .int .i64 pos] 66)) := (Below.refl _ _).alloc (Nat.le_refl _) _
        have hbB : B ≤ wr.heap.size := Nat.le_trans HB0.out HR.out.kp.size
        have HRE : Hid (Wrote b w0 u0 (wr.alloc (.cells #[.int .i64 kind, .string ⟨name.toArray⟩, .slice lp ln lcap, .int .i64 num, .int .i64 rn, .int .i64 rd, .int .i64 sn, .int .i64 sd, .int .i64 pos] 66)) uo) := Lib.hid (HR.out.trans ((Wrote.refl b _ uo).later hbe))
        have HM0 : Hid (Lk testsL (wr.alloc (.cells #[.int .i64 kind, .string ⟨name.toArray⟩, .slice lp ln lcap, .int .i64 num, .int .i64 rn, .int .i64 rd, .int .i64 sn, .int .i64 sd, .int .i64 pos] 66)) B (.slice lp ln lcap) conds) := Lib.hid (hm0.below (hbe.mono hbB))
        have K100 := Lib.hid (HV.out.later hbe); have HB1 : Hid (B ≤ (wr.alloc (.cells #[.int .i64 kind, .string ⟨name.toArray⟩, .slice lp ln lcap, .int .i64 num, .int .i64 rn, .int .i64 rd, .int .i64 sn, .int .i64 sd, .int .i64 pos] 66)).heap.size) := Lib.hid (Nat.le_trans hbB hbe.size)
        have HBE : Hid (∀ w' v', Wrote b (wr.alloc (.cells #[.int .i64 kind, .string ⟨name.toArray⟩, .slice lp ln lcap, .int .i64 num, .int .i64 rn, .int .i64 rd, .int .i64 sn, .int .i64 sd, .int .i64 pos] 66)) uo w' v' → Blk w' wr.heap.size 66 [.int .i64 kind, .string ⟨name.toArray⟩, .slice lp ln lcap, .int .i64 num, .int .i64 rn, .int .i64 rd, .int .i64 sn, .int .i64 sd, .int .i64 pos]) := Lib.hid fun w' v' k => (k.kept (k := wr.heap.size) (by simp) (by have := HV.out.lt; omega) (fun e => by have := (HV.out.vlow e).2; omega)).1.trans (Blk.new wr 66 [.int .i64 kind, .string ⟨name.toArray⟩, .slice lp ln lcap, .int .i64 num, .int .i64 rn, .int .i64 rd, .int .i64 sn, .int .i64 sd, .int .i64 pos])
        obtain ⟨w100, hw100⟩ : ∃ w100, (wr.alloc (.cells #[.int .i64 kind, .string ⟨name.toArray⟩, .slice lp ln lcap, .int .i64 num, .int .i64 rn, .int .i64 rd, .int .i64 sn, .int .i64 sd, .int .i64 pos] 66)) = w100 := ⟨_, rfl⟩
        rw [hw100] at HRE K100 HB1 HBE HM0
        have R100 := Lib.hid (Wrote.refl b w100 uo)
        have HST := Lib.hid hst
        clear hx hst ht hcell hbe hlb hbB
        have HC := Lib.hid (item_any kind name conds lp ln lcap num rn rd sn sd pos (hx _ hm) w100 uo t K100.out (Nat.le_trans HB1.out R100.out.kp.size) (HEW.out _ _ (HRE.out.trans R100.out)) HM0.out)
        try rw [hw100]
        refine HC.out.mono ?_; rintro e w101 ⟨rfl, u101, k1, k2⟩
        have K101 := Lib.hid k1; have R101 := Lib.hid (R100.out.trans k2)
        clear k1 k2 HC K100 R100
        have RZ := Lib.hid (HRE.out.trans R101.out)
        clear HRE cf d0 d1 d2 d3 d4 d5 d6 d7 d8
        have cf := (HBK.out _ _ RZ.out).cell (i := 0) rfl
        go_wp2
        go_roundw
        case rel => exact ⟨k + 1, u101, by go_num, by omega, by rw [HST.out]; exact K101, RZ⟩
        case measure => simp [intOf]; omega
      · have hkn2 : k = n := by omega
        subst hkn2
        rw [show l.take k = l from List.take_of_length_le (by have := HL.out.len.1; omega)] at HV
        clear cf hkn hk hnb
        obtain ⟨u2, hu2⟩ : ∃ u, u = uo := ⟨uo, rfl⟩
        rw [← hu2] at HV HR
        generalize wr = w2 at *
        have K2 := HV; have R2 := HR
        clear HV HR K1 R1 hu2
        have HE : Hid (rulesS l s = l.foldl (fun s x => itemS x s) (S1)) := Lib.hid (by rw [← HS1.out]; unfold rulesS; rw [if_pos (by rw [hlen]; exact hc200)])
        go_wp2
        go_end0
        subst hu0
        exact ⟨rfl, u2, by rw [HE.out]; exact K2.out, HFIN.out _ _ R2.out⟩
  · have hd : decide ((n : Int) ≤ 200) = false := by rw [decide_eq_false_iff_not]; omega
    go_upto_region 1 with fail
    try rw [hw0]
    refine wp_region_any (by kernel_rfl) ?_
    have KA := Lib.hid K0.out.drew; have RA := Lib.hid R0.out.drew
    have hS0 : Blk w0.drew w.heap.size 29 [.slice p n cap] := HBK.out _ _ RA.out
    refine any_of_held (S := fun W => Blk W w.heap.size 29 [.slice p n cap]) (N := []) _ _ _ _ ?_
    change held _ _ _ _ _ _ _ _ _ w0.drew
    obtain ⟨wa, hwa⟩ : ∃ wa, w0.drew = wa := ⟨_, rfl⟩
    rw [hwa] at hS0 KA RA ⊢
    clear hwa K0 R0
    refine held_take [] (i := 0) (v := .pointer (some ⟨b, 0, none⟩)) rfl (by kernel_rfl) (fun _ _ _ h => h) (Or.inl ⟨by rfl, fun w' hS => by go_simp⟩) hS0 ?_
    try simp only [Act.put, List.setIfInBounds_toArray, List.set_cons_zero, List.set_cons_succ]
    refine held_take [] (i := 1) (v := .pointer (some ⟨b, 0, none⟩)) rfl (by kernel_rfl) (fun _ _ _ h => h) (Or.inl ⟨by rfl, fun w' hS => by go_simp⟩) hS0 ?_
    try simp only [Act.put, List.setIfInBounds_toArray, List.set_cons_zero, List.set_cons_succ]
    refine held_take [] (i := 2) (v := .pointer (some ⟨b, 0, none⟩)) rfl (by kernel_rfl) (fun _ _ _ h => h) (Or.inl ⟨by rfl, fun w' hS => by go_simp⟩) hS0 ?_
    try simp only [Act.put, List.setIfInBounds_toArray, List.set_cons_zero, List.set_cons_succ]
    refine held_take [] (i := 3) (v := .pointer (some ⟨w.heap.size, 0, none⟩)) rfl (by kernel_rfl) (fun _ _ _ h => h) (Or.inl ⟨by rfl, fun w' hS => by go_simp⟩) hS0 ?_
    try simp only [Act.put, List.setIfInBounds_toArray, List.set_cons_zero, List.set_cons_succ]
    refine held_take [] (i := 4) (v := .slice p n cap) rfl (by kernel_rfl) (fun _ _ _ h => h) (Or.inl ⟨by rfl, fun w' hS => by have hc := hS.cell (i := 0) rfl; go_simp⟩) hS0 ?_
    try simp only [Act.put, List.setIfInBounds_toArray, List.set_cons_zero, List.set_cons_succ]
    refine held_take [] (i := 5) (v := .int .i64 n) rfl (by kernel_rfl) (fun _ _ _ h => h) (Or.inl ⟨by rfl, fun w' hS => by go_simp⟩) hS0 ?_
    try simp only [Act.put, List.setIfInBounds_toArray, List.set_cons_zero, List.set_cons_succ]
    refine held_take [] (i := 6) (v := .bool false) rfl (by kernel_rfl) (fun _ _ _ h => h) (Or.inl ⟨by rfl, fun w' hS => by go_simp⟩) hS0 ?_
    try simp only [Act.put, List.setIfInBounds_toArray, List.set_cons_zero, List.set_cons_succ]
    refine held_one (i := 7) rfl (by kernel_rfl) (fun K hK => ?_)
    go_simp
    have HC := Lib.hid (require_s false wa u0 _ KA.out)
    refine HC.out.mono ?_; rintro e w1 ⟨rfl, u1, k1, k2⟩
    replace RA := Lib.hid (RA.out.trans k2)
    replace KA := Lib.hid k1
    refine hK.out _ _ (fun _ => HBK.out _ _ RA.out) ?_
    clear hS0
    have hS0 := HBK.out _ _ RA.out
    clear hK K k1 k2 HC
    try simp only [Act.put, List.setIfInBounds_toArray, List.set_cons_zero, List.set_cons_succ]
    refine held_take [] (i := 8) (v := .bool true) rfl (by kernel_rfl) (fun _ _ _ h => h) (Or.inl ⟨by rfl, fun w' hS => by go_simp⟩) hS0 ?_
    try simp only [Act.put, List.setIfInBounds_toArray, List.set_cons_zero, List.set_cons_succ]
    refine held_done (by kernel_rfl) ?_ _
    have K1 := KA; have R1 := RA
    clear KA RA hS0
    have HE : Hid (rulesS l s = requireS false s) := Lib.hid (by unfold rulesS; rw [if_neg (by rw [hlen]; exact hc)])
    go_wp2
    refine bodyPost_ret (results_none rfl _ _ _) rfl ?_
    subst hu0
    exact ⟨rfl, u1, by rw [HE.out]; exact K1.out, HFIN.out _ _ R1.out⟩
end Go.Proofs.YtilfpnkcgjonhaaGreatDoor.Pr
