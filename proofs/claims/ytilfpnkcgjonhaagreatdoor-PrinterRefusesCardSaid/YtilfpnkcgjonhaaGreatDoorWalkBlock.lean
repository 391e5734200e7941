/-
  The walks of blocks.
-/
import Derived.Test.YtilfpnkcgjonhaaGreatDoorWalkRow
namespace Go.Proofs.YtilfpnkcgjonhaaGreatDoor.Pr
open Go.RowKit Go.Sort Foyer.Printer Foyer.Lexer Foyer.Round

set_option linter.unusedSimpArgs false in
set_option maxRecDepth 100000 in
set_option maxHeartbeats 4000000 in
theorem block_any {B b : Nat} {T : TypeId} (x0 : BlockZ) (hx : BlockZ.Fit x0) (p : Option Addr) (n cap : Nat) (w : World) (v : Value) (s : St) (h : WR B b T w v s) (hB : B ≤ w.heap.size) (hE : EnvAt B w) (hop : s.opn ≤ 5) (hm : Lk rowL w B (.slice p n cap) x0.rows) :
    Calls Tryz.prog 69 #[.pointer (some ⟨b, 0, none⟩), .agg #[.string ⟨x0.name.toArray⟩, .slice p n cap, .int .i64 x0.pos]] w fun e w' => e = .returned (.tuple #[]) ∧ Step B b T w v (blockS x0 s) w' := by
  have hb0 : Below w.heap.size w (w.alloc (.cells #[.string ⟨x0.name.toArray⟩, .slice p n cap, .int .i64 x0.pos] 44)) := (Below.refl _ _).alloc (Nat.le_refl _) _
  have hR : Wrote b w v (w.alloc (.cells #[.string ⟨x0.name.toArray⟩, .slice p n cap, .int .i64 x0.pos] 44)) v := (Wrote.refl b _ v).later hb0
  have HBK : Hid (∀ w' v', Wrote b (w.alloc (.cells #[.string ⟨x0.name.toArray⟩, .slice p n cap, .int .i64 x0.pos] 44)) v w' v' → Blk w' w.heap.size 44 [.string ⟨x0.name.toArray⟩, .slice p n cap, .int .i64 x0.pos]) := Lib.hid fun w' v' k => (k.kept (k := w.heap.size) (by simp) (by have := h.lt; omega) (fun e => by have := (h.vlow e).2; omega)).1.trans (Blk.new w 44 [.string ⟨x0.name.toArray⟩, .slice p n cap, .int .i64 x0.pos])
  have HB0 : Hid (B ≤ (w.alloc (.cells #[.string ⟨x0.name.toArray⟩, .slice p n cap, .int .i64 x0.pos] 44)).heap.size) := Lib.hid (by simp; omega)
  have HEW : Hid (∀ w' v', Wrote b (w.alloc (.cells #[.string ⟨x0.name.toArray⟩, .slice p n cap, .int .i64 x0.pos] 44)) v w' v' → EnvAt B w') := Lib.hid fun w' v' k => hE.below ((hb0.mono hB).trans ((h.later hb0).wrote (by simp; omega) k))
  have HIN : Hid (∀ w' v', Wrote b (w.alloc (.cells #[.string ⟨x0.name.toArray⟩, .slice p n cap, .int .i64 x0.pos] 44)) v w' v' → Below B w w') := Lib.hid fun w' v' k => (hb0.mono hB).trans ((h.later hb0).wrote (by simp; omega) k)
  have K0 := Lib.hid (h.later hb0)
  have HFIN : Hid (∀ w' v', Wrote b (w.alloc (.cells #[.string ⟨x0.name.toArray⟩, .slice p n cap, .int .i64 x0.pos] 44)) v w' v' → Wrote b w v w' v') := Lib.hid fun w' v' k => hR.trans k
  obtain ⟨w0, hw0⟩ : ∃ w0, w.alloc (.cells #[.string ⟨x0.name.toArray⟩, .slice p n cap, .int .i64 x0.pos] 44) = w0 := ⟨_, rfl⟩
  obtain ⟨u0, hu0⟩ : ∃ u0, u0 = v := ⟨v, rfl⟩
  rw [hw0] at HBK HB0 HEW HIN HFIN K0
  rw [← hu0] at HBK HEW HIN HFIN K0
  have R0 := Lib.hid (Wrote.refl b w0 u0)
  have HL := Lib.hid hm
  obtain ⟨hx1, hx2⟩ := hx
  clear hm
  clear h hb0 hR hE hB
  go_enter Tryz.func69, Tryz.ntmps69
  have HC := Lib.hid (word_any wBlock (by decide) w0 u0 _ K0.out (Nat.le_trans HB0.out R0.out.kp.size))
  go_wp2_with fail
  try rw [hw0]
  refine HC.out.mono ?_; rintro e w1 ⟨rfl, u1, k1, k2⟩
  have K1 := Lib.hid k1; have R1 := Lib.hid (R0.out.trans k2)
  clear k1 k2 HC K0 R0
  go_upto_region 2 with fail
  refine wp_region_any (by kernel_rfl) ?_
  have KA := Lib.hid K1.out.drew; have RA := Lib.hid R1.out.drew
  have hS0 : Blk w1.drew w.heap.size 44 [.string ⟨x0.name.toArray⟩, .slice p n cap, .int .i64 x0.pos] := HBK.out _ _ RA.out
  refine any_of_held (S := fun W => Blk W w.heap.size 44 [.string ⟨x0.name.toArray⟩, .slice p n cap, .int .i64 x0.pos]) (N := []) _ _ _ _ ?_
  change held _ _ _ _ _ _ _ _ _ w1.drew
  obtain ⟨wa, hwa⟩ : ∃ wa, w1.drew = wa := ⟨_, rfl⟩
  rw [hwa] at hS0 KA RA ⊢
  clear hwa K1 R1
  refine held_take [] (i := 0) (v := .pointer (some ⟨b, 0, none⟩)) rfl (by kernel_rfl) (fun _ _ _ h => h) (Or.inl ⟨by rfl, fun w' hS => by go_simp⟩) hS0 ?_
  try simp only [Act.put, List.setIfInBounds_toArray, List.set_cons_zero, List.set_cons_succ]
  refine held_take [] (i := 1) (v := .pointer (some ⟨b, 0, none⟩)) rfl (by kernel_rfl) (fun _ _ _ h => h) (Or.inl ⟨by rfl, fun w' hS => by go_simp⟩) hS0 ?_
  try simp only [Act.put, List.setIfInBounds_toArray, List.set_cons_zero, List.set_cons_succ]
  refine held_take [] (i := 2) (v := .pointer (some ⟨b, 0, none⟩)) rfl (by kernel_rfl) (fun _ _ _ h => h) (Or.inl ⟨by rfl, fun w' hS => by go_simp⟩) hS0 ?_
  try simp only [Act.put, List.setIfInBounds_toArray, List.set_cons_zero, List.set_cons_succ]
  refine held_take [] (i := 3) (v := .pointer (some ⟨w.heap.size, 0, none⟩)) rfl (by kernel_rfl) (fun _ _ _ h => h) (Or.inl ⟨by rfl, fun w' hS => by go_simp⟩) hS0 ?_
  try simp only [Act.put, List.setIfInBounds_toArray, List.set_cons_zero, List.set_cons_succ]
  refine held_take [] (i := 4) (v := .string ⟨x0.name.toArray⟩) rfl (by kernel_rfl) (fun _ _ _ h => h) (Or.inl ⟨by rfl, fun w' hS => by have hc := hS.cell (i := 0) rfl; go_simp⟩) hS0 ?_
  try simp only [Act.put, List.setIfInBounds_toArray, List.set_cons_zero, List.set_cons_succ]
  refine held_one (i := 5) rfl (by kernel_rfl) (fun K hK => ?_)
  go_simp
  refine hK.out _ _ (fun _ => hS0.alloc _) ?_
  clear hK K
  try simp only [Act.put, List.setIfInBounds_toArray, List.set_cons_zero, List.set_cons_succ]
  refine held_one (i := 6) rfl (by kernel_rfl) (fun K hK => ?_)
  go_simp
  have HC := Lib.hid (name_new x0.name hx1 wa u1 _ KA.out (Nat.le_trans HB0.out RA.out.kp.size))
  refine HC.out.mono ?_; rintro e w2 ⟨rfl, u2, k1, k2⟩
  have K2 := Lib.hid k1; have R2 := Lib.hid (RA.out.trans k2)
  refine hK.out _ _ (fun _ => HBK.out _ _ R2.out) ?_
  clear hK K k1 k2 HC KA RA hS0
  try simp only [Act.put, List.setIfInBounds_toArray, List.set_cons_zero, List.set_cons_succ]
  refine held_done (by kernel_rfl) ?_ _
  have HC := Lib.hid (begin_any w2 u2 _ K2.out (Nat.le_trans HB0.out R2.out.kp.size) (by rw [opn_names, opn_word]; omega))
  go_wp2_with fail
  refine HC.out.mono ?_; rintro e w3 ⟨rfl, u3, k1, k2⟩
  have K3 := Lib.hid k1; have R3 := Lib.hid (R2.out.trans k2)
  clear k1 k2 HC K2 R2
  obtain ⟨S1, hS⟩ : ∃ S, beginS (namesS [x0.name] (wordS wBlock (s))) = S := ⟨_, rfl⟩
  have HS1 := Lib.hid hS
  replace K3 : Hid (WR B b T w3 u3 S1) := Lib.hid (by rw [← hS]; exact K3.out)
  clear hS
  have cf := (HBK.out _ _ R3.out).cell (i := 1) rfl
  go_wp2
  go_loopw [24] (fun i wr => ∃ (k : Nat) (uo : Value), i = .int .i64 k ∧ k ≤ n ∧ Hid (WR B b T wr uo ((x0.rows.take k).foldl (fun s x => rowS x s) (S1))) ∧ Hid (Wrote b w0 u0 wr uo)) (fun i _ => n - (intOf i).toNat)
  case atStart => exact ⟨0, u3, rfl, Nat.zero_le _, Lib.hid (by rw [List.take_zero, List.foldl_nil]; exact K3.out), R3⟩
  case round =>
    have hnb : n ≤ 9223372036854775807 := by have := HL.out.len.2; unfold maxLen at this; omega
    obtain ⟨k, uo, rfl, hk, HV, HR⟩ := hrel
    clear cf
    have cf := (HBK.out _ _ HR.out).cell (i := 1) rfl
    by_cases hkn : k < n
    · obtain ⟨x, hx⟩ : ∃ x, x0.rows[k]? = some x := ⟨_, List.getElem?_eq_getElem (by have := HL.out.len.1; omega)⟩
      have hm := List.mem_of_getElem? hx
      have hst := take_fold (fun s x => rowS x s) x0.rows (S1) hx
      obtain ⟨t, ht⟩ : ∃ t, (x0.rows.take k).foldl (fun s x => rowS x s) (S1) = t := ⟨_, rfl⟩
      rw [ht] at hst HV
      obtain ⟨lb, lo, c, rfl, hlb, hc, hcell⟩ := (HL.out.below (HIN.out _ _ HR.out)).at hx
      obtain ⟨v0, rfl, hm0⟩ := hc
      obtain ⟨lp, lcap, rfl⟩ := hm0.slice
      obtain ⟨ln, hln⟩ : ∃ ln, x.marks.length = ln := ⟨_, rfl⟩
      rw [hln] at hm0 hcell
      clear hln
      have d0 := hcell 0 _ rfl
      have d1 := hcell 1 _ rfl
      have d2 := hcell 2 _ rfl
      have d3 := hcell 3 _ rfl
      have d4 := hcell 4 _ rfl
      have d5 := hcell 5 _ rfl
      have d6 := hcell 6 _ rfl
      have d7 := hcell 7 _ rfl
      rw [show rowL.size = 8 from rfl] at d0 d1 d2 d3 d4 d5 d6 d7
      rw [Nat.add_zero] at d0
      have hki : (0 : Int) ≤ k ∧ (k : Int) < n := by omega
      go_wp2_with fail
      have hbe : Below wr.heap.size wr (wr.alloc (.cells #[.string ⟨x.name.toArray⟩, .int .i64 x.x, .int .i64 x.y, .int .i64 x.first, .int .i64 x.last, .int .i64 x.step, .slice lp ln lcap, .int .i64 x.pos] 40)) := (Below.refl _ _).alloc (Nat.le_refl _) _
      have hbB : B ≤ wr.heap.size := Nat.le_trans HB0.out HR.out.kp.size
      have HRE : Hid (Wrote b w0 u0 (wr.alloc (.cells #[.string ⟨x.name.toArray⟩, .int .i64 x.x, .int .i64 x.y, .int .i64 x.first, .int .i64 x.last, .int .i64 x.step, .slice lp ln lcap, .int .i64 x.pos] 40)) uo) := Lib.hid (HR.out.trans ((Wrote.refl b _ uo).later hbe))
      have HM0 : Hid (Lk markL (wr.alloc (.cells #[.string ⟨x.name.toArray⟩, .int .i64 x.x, .int .i64 x.y, .int .i64 x.first, .int .i64 x.last, .int .i64 x.step, .slice lp ln lcap, .int .i64 x.pos] 40)) B (.slice lp ln lcap) x.marks) := Lib.hid (hm0.below (hbe.mono hbB))
      have K100 := Lib.hid (HV.out.later hbe); have HB1 : Hid (B ≤ (wr.alloc (.cells #[.string ⟨x.name.toArray⟩, .int .i64 x.x, .int .i64 x.y, .int .i64 x.first, .int .i64 x.last, .int .i64 x.step, .slice lp ln lcap, .int .i64 x.pos] 40)).heap.size) := Lib.hid (Nat.le_trans hbB hbe.size)
      have HBE : Hid (∀ w' v', Wrote b (wr.alloc (.cells #[.string ⟨x.name.toArray⟩, .int .i64 x.x, .int .i64 x.y, .int .i64 x.first, .int .i64 x.last, .int .i64 x.step, .slice lp ln lcap, .int .i64 x.pos] 40)) uo w' v' → Blk w' wr.heap.size 40 [.string ⟨x.name.toArray⟩, .int .i64 x.x, .int .i64 x.y, .int .i64 x.first, .int .i64 x.last, .int .i64 x.step, .slice lp ln lcap, .int .i64 x.pos]) := Lib.hid fun w' v' k => (k.kept (k := wr.heap.size) (by simp) (by have := HV.out.lt; omega) (fun e => by have := (HV.out.vlow e).2; omega)).1.trans (Blk.new wr 40 [.string ⟨x.name.toArray⟩, .int .i64 x.x, .int .i64 x.y, .int .i64 x.first, .int .i64 x.last, .int .i64 x.step, .slice lp ln lcap, .int .i64 x.pos])
      obtain ⟨w100, hw100⟩ : ∃ w100, (wr.alloc (.cells #[.string ⟨x.name.toArray⟩, .int .i64 x.x, .int .i64 x.y, .int .i64 x.first, .int .i64 x.last, .int .i64 x.step, .slice lp ln lcap, .int .i64 x.pos] 40)) = w100 := ⟨_, rfl⟩
      rw [hw100] at HRE K100 HB1 HBE HM0
      have R100 := Lib.hid (Wrote.refl b w100 uo)
      have HST := Lib.hid hst
      clear hx hst ht hcell hbe hlb hbB
      have HC := Lib.hid (row_any x (hx2 _ hm) lp ln lcap w100 uo t K100.out (Nat.le_trans HB1.out R100.out.kp.size) (HEW.out _ _ (HRE.out.trans R100.out)) HM0.out)
      try rw [hw100]
      refine HC.out.mono ?_; rintro e w101 ⟨rfl, u101, k1, k2⟩
      have K101 := Lib.hid k1; have R101 := Lib.hid (R100.out.trans k2)
      clear k1 k2 HC K100 R100
      have RZ := Lib.hid (HRE.out.trans R101.out)
      clear HRE cf d0 d1 d2 d3 d4 d5 d6 d7
      have cf := (HBK.out _ _ RZ.out).cell (i := 1) rfl
      go_wp2
      go_roundw
      case rel => exact ⟨k + 1, u101, by go_num, by omega, by rw [HST.out]; exact K101, RZ⟩
      case measure => simp [intOf]; omega
    · have hkn2 : k = n := by omega
      subst hkn2
      rw [show x0.rows.take k = x0.rows from List.take_of_length_le (by have := HL.out.len.1; omega)] at HV
      clear cf hkn hk hnb
      obtain ⟨u4, hu4⟩ : ∃ u, u = uo := ⟨uo, rfl⟩
      rw [← hu4] at HV HR
      generalize wr = w4 at *
      have K4 := HV; have R4 := HR
      clear HV HR K3 R3 hu4
      have HC := Lib.hid (end_any w4 u4 _ K4.out (Nat.le_trans HB0.out R4.out.kp.size) (by rw [opn_fold (fun s r => opn_row r s), ← HS1.out, opn_begin]; omega))
      go_wp2_with fail
      refine HC.out.mono ?_; rintro e w5 ⟨rfl, u5, k1, k2⟩
      have K5 := Lib.hid k1; have R5 := Lib.hid (R4.out.trans k2)
      clear k1 k2 HC K4 R4
      have HE : Hid (blockS x0 s = endS (x0.rows.foldl (fun s x => rowS x s) (S1))) := Lib.hid (by rw [← HS1.out]; rfl)
      go_wp2
      go_end0
      subst hu0
      exact ⟨rfl, u5, by rw [HE.out]; exact K5.out, HFIN.out _ _ R5.out⟩
end Go.Proofs.YtilfpnkcgjonhaaGreatDoor.Pr
