/-
  The walks of rules, one by one.
-/
import Derived.Test.YtilfpnkcgjonhaaGreatDoorWalkTerms
namespace Go.Proofs.YtilfpnkcgjonhaaGreatDoor.Pr
open Go.RowKit Go.Sort Foyer.Printer Foyer.Lexer Foyer.Round

set_option linter.unusedSimpArgs false in
set_option maxRecDepth 100000 in
set_option maxHeartbeats 4000000 in
theorem item_any {B b : Nat} {T : TypeId} (kind : Int) (name : List UInt8) (conds : List (List TestZ)) (p : Option Addr) (n cap : Nat) (num rn rd sn sd pos : Int) (hx : ItemZ.Fit ⟨kind, name, conds, num, ⟨rn, rd⟩, ⟨sn, sd⟩, pos⟩) (w : World) (v : Value) (s : St) (h : WR B b T w v s) (hB : B ≤ w.heap.size) (hE : EnvAt B w) (hm : Lk testsL w B (.slice p n cap) conds) :
    Calls Tryz.prog 51 #[.pointer (some ⟨b, 0, none⟩), .agg #[.int .i64 kind, .string ⟨name.toArray⟩, .slice p n cap, .int .i64 num, .int .i64 rn, .int .i64 rd, .int .i64 sn, .int .i64 sd, .int .i64 pos]] w fun e w' => e = .returned (.tuple #[]) ∧ Step B b T w v (itemS ⟨kind, name, conds, num, ⟨rn, rd⟩, ⟨sn, sd⟩, pos⟩ s) w' := by
  have hb0 : Below w.heap.size w (w.alloc (.cells #[.int .i64 kind, .string ⟨name.toArray⟩, .slice p n cap, .int .i64 num, .int .i64 rn, .int .i64 rd, .int .i64 sn, .int .i64 sd, .int .i64 pos] 66)) := (Below.refl _ _).alloc (Nat.le_refl _) _
  have hR : Wrote b w v (w.alloc (.cells #[.int .i64 kind, .string ⟨name.toArray⟩, .slice p n cap, .int .i64 num, .int .i64 rn, .int .i64 rd, .int .i64 sn, .int .i64 sd, .int .i64 pos] 66)) v := (Wrote.refl b _ v).later hb0
  have HBK : Hid (∀ w' v', Wrote b (w.alloc (.cells #[.int .i64 kind, .string ⟨name.toArray⟩, .slice p n cap, .int .i64 num, .int .i64 rn, .int .i64 rd, .int .i64 sn, .int .i64 sd, .int .i64 pos] 66)) v w' v' → Blk w' w.heap.size 66 [.int .i64 kind, .string ⟨name.toArray⟩, .slice p n cap, .int .i64 num, .int .i64 rn, .int .i64 rd, .int .i64 sn, .int .i64 sd, .int .i64 pos]) := Lib.hid fun w' v' k => (k.kept (k := w.heap.size) (by simp) (by have := h.lt; omega) (fun e => by have := (h.vlow e).2; omega)).1.trans (Blk.new w 66 [.int .i64 kind, .string ⟨name.toArray⟩, .slice p n cap, .int .i64 num, .int .i64 rn, .int .i64 rd, .int .i64 sn, .int .i64 sd, .int .i64 pos])
  have HB0 : Hid (B ≤ (w.alloc (.cells #[.int .i64 kind, .string ⟨name.toArray⟩, .slice p n cap, .int .i64 num, .int .i64 rn, .int .i64 rd, .int .i64 sn, .int .i64 sd, .int .i64 pos] 66)).heap.size) := Lib.hid (by simp; omega)
  have HEW : Hid (∀ w' v', Wrote b (w.alloc (.cells #[.int .i64 kind, .string ⟨name.toArray⟩, .slice p n cap, .int .i64 num, .int .i64 rn, .int .i64 rd, .int .i64 sn, .int .i64 sd, .int .i64 pos] 66)) v w' v' → EnvAt B w') := Lib.hid fun w' v' k => hE.below ((hb0.mono hB).trans ((h.later hb0).wrote (by simp; omega) k))
  have HIN : Hid (∀ w' v', Wrote b (w.alloc (.cells #[.int .i64 kind, .string ⟨name.toArray⟩, .slice p n cap, .int .i64 num, .int .i64 rn, .int .i64 rd, .int .i64 sn, .int .i64 sd, .int .i64 pos] 66)) v w' v' → Below B w w') := Lib.hid fun w' v' k => (hb0.mono hB).trans ((h.later hb0).wrote (by simp; omega) k)
  have K0 := Lib.hid (h.later hb0)
  have HFIN : Hid (∀ w' v', Wrote b (w.alloc (.cells #[.int .i64 kind, .string ⟨name.toArray⟩, .slice p n cap, .int .i64 num, .int .i64 rn, .int .i64 rd, .int .i64 sn, .int .i64 sd, .int .i64 pos] 66)) v w' v' → Wrote b w v w' v') := Lib.hid fun w' v' k => hR.trans k
  obtain ⟨w0, hw0⟩ : ∃ w0, w.alloc (.cells #[.int .i64 kind, .string ⟨name.toArray⟩, .slice p n cap, .int .i64 num, .int .i64 rn, .int .i64 rd, .int .i64 sn, .int .i64 sd, .int .i64 pos] 66) = w0 := ⟨_, rfl⟩
  obtain ⟨u0, hu0⟩ : ∃ u0, u0 = v := ⟨v, rfl⟩
  rw [hw0] at HBK HB0 HEW HIN HFIN K0
  rw [← hu0] at HBK HEW HIN HFIN K0
  have R0 := Lib.hid (Wrote.refl b w0 u0)
  obtain ⟨h1, h2, h3, h4, h5, h6⟩ := hx
  simp only at h1 h2 h3 h4 h5 h6
  have HL := Lib.hid hm
  clear hm
  clear h hb0 hR hE hB
  go_enter Tryz.func51, Tryz.ntmps51
  go_upto_region 2 with fail
  try rw [hw0]
  have hbq : Below w0.heap.size w0 (w0.alloc (.cells (strCells' itemWords).toArray 148)) := (Below.refl _ _).alloc (Nat.le_refl _) _
  have HQ0 : Hid (Blk (w0.alloc (.cells (strCells' itemWords).toArray 148)) w0.heap.size 148 (strCells' itemWords)) := Lib.hid (Blk.new _ _ _)
  have hq1 : w0.heap.size ≠ b := by have := K0.out.lt; omega
  have hq2 : u0.ownBlock ≠ some w0.heap.size := fun e => by have := (K0.out.vlow e).2; omega
  have HQ1 := Lib.hid hq1; have HQ2 := Lib.hid hq2
  have K1 := Lib.hid (K0.out.later hbq); have R1 : Hid (Wrote b w0 u0 _ u0) := Lib.hid (R0.out.trans ((Wrote.refl b _ u0).later hbq))
  obtain ⟨q, hq⟩ : ∃ q, w0.heap.size = q := ⟨_, rfl⟩
  change Code.wp _ _ _ _ (w0.alloc (.cells (strCells' itemWords).toArray 148))
  generalize w0.alloc (.cells (strCells' itemWords).toArray 148) = w1 at *
  rw [hq] at HQ0 HQ1 HQ2
  try rw [hq]
  clear hbq hq1 hq2 K0 R0
  refine wp_region_any (by kernel_rfl) ?_
  have hQ : Blk w1.drew q 148 (strCells' itemWords) := HQ0.out
  have KA := Lib.hid K1.out.drew; have RA := Lib.hid R1.out.drew
  have hS0 : Blk w1.drew w.heap.size 66 [.int .i64 kind, .string ⟨name.toArray⟩, .slice p n cap, .int .i64 num, .int .i64 rn, .int .i64 rd, .int .i64 sn, .int .i64 sd, .int .i64 pos] := HBK.out _ _ RA.out
  refine any_of_held (S := fun W => Blk W w.heap.size 66 [.int .i64 kind, .string ⟨name.toArray⟩, .slice p n cap, .int .i64 num, .int .i64 rn, .int .i64 rd, .int .i64 sn, .int .i64 sd, .int .i64 pos]) (N := []) _ _ _ _ ?_
  change held _ _ _ _ _ _ _ _ _ w1.drew
  obtain ⟨wa, hwa⟩ : ∃ wa, w1.drew = wa := ⟨_, rfl⟩
  rw [hwa] at hS0 KA RA hQ ⊢
  clear hwa K1 R1
  refine held_take [] (i := 0) (v := .pointer (some ⟨b, 0, none⟩)) rfl (by kernel_rfl) (fun _ _ _ h => h) (Or.inl ⟨by rfl, fun w' hS => by go_simp⟩) hS0 ?_
  try simp only [Act.put, List.setIfInBounds_toArray, List.set_cons_zero, List.set_cons_succ]
  refine held_take [] (i := 1) (v := .pointer (some ⟨b, 0, none⟩)) rfl (by kernel_rfl) (fun _ _ _ h => h) (Or.inl ⟨by rfl, fun w' hS => by go_simp⟩) hS0 ?_
  try simp only [Act.put, List.setIfInBounds_toArray, List.set_cons_zero, List.set_cons_succ]
  refine held_take [] (i := 2) (v := .pointer (some ⟨b, 0, none⟩)) rfl (by kernel_rfl) (fun _ _ _ h => h) (Or.inl ⟨by rfl, fun w' hS => by go_simp⟩) hS0 ?_
  try simp only [Act.put, List.setIfInBounds_toArray, List.set_cons_zero, List.set_cons_succ]
  refine held_take [] (i := 3) (v := .slice (some ⟨q, 0, none⟩) 8 8) rfl (by kernel_rfl) (fun _ _ _ h => h) (Or.inl ⟨by rfl, fun w' hS => by go_simp⟩) hS0 ?_
  try simp only [Act.put, List.setIfInBounds_toArray, List.set_cons_zero, List.set_cons_succ]
  refine held_take [] (i := 4) (v := .pointer (some ⟨w.heap.size, 0, none⟩)) rfl (by kernel_rfl) (fun _ _ _ h => h) (Or.inl ⟨by rfl, fun w' hS => by go_simp⟩) hS0 ?_
  try simp only [Act.put, List.setIfInBounds_toArray, List.set_cons_zero, List.set_cons_succ]
  refine held_take [] (i := 5) (v := .int .i64 kind) rfl (by kernel_rfl) (fun _ _ _ h => h) (Or.inl ⟨by rfl, fun w' hS => by have hc := hS.cell (i := 0) rfl; go_simp⟩) hS0 ?_
  try simp only [Act.put, List.setIfInBounds_toArray, List.set_cons_zero, List.set_cons_succ]
  refine held_one (i := 6) rfl (by kernel_rfl) (fun K hK => ?_)
  go_simp
  have HC := Lib.hid (oneOf_any itemWords (by decide) kind h1 q _ wa u0 _ KA.out (Nat.le_trans HB0.out RA.out.kp.size) HQ1.out HQ2.out hQ)
  refine HC.out.mono ?_; rintro e w2 ⟨rfl, u2, k1, k2⟩
  have K2 := Lib.hid k1; have R2 := Lib.hid (RA.out.trans k2)
  refine hK.out _ _ (fun _ => HBK.out _ _ R2.out) ?_
  clear hK K k1 k2 HC KA RA hS0 hQ
  try simp only [Act.put, List.setIfInBounds_toArray, List.set_cons_zero, List.set_cons_succ]
  refine held_done (by kernel_rfl) ?_ _
  clear HQ0 HQ1 HQ2
  go_upto_region 3 with fail
  refine wp_region_any (by kernel_rfl) ?_
  have KA := Lib.hid K2.out.drew; have RA := Lib.hid R2.out.drew
  have hS0 : Blk w2.drew w.heap.size 66 [.int .i64 kind, .string ⟨name.toArray⟩, .slice p n cap, .int .i64 num, .int .i64 rn, .int .i64 rd, .int .i64 sn, .int .i64 sd, .int .i64 pos] := HBK.out _ _ RA.out
  refine any_of_held (S := fun W => Blk W w.heap.size 66 [.int .i64 kind, .string ⟨name.toArray⟩, .slice p n cap, .int .i64 num, .int .i64 rn, .int .i64 rd, .int .i64 sn, .int .i64 sd, .int .i64 pos]) (N := []) _ _ _ _ ?_
  change held _ _ _ _ _ _ _ _ _ w2.drew
  obtain ⟨wa, hwa⟩ : ∃ wa, w2.drew = wa := ⟨_, rfl⟩
  rw [hwa] at hS0 KA RA ⊢
  clear hwa K2 R2
  refine held_take [] (i := 0) (v := .pointer (some ⟨b, 0, none⟩)) rfl (by kernel_rfl) (fun _ _ _ h => h) (Or.inl ⟨by rfl, fun w' hS => by go_simp⟩) hS0 ?_
  try simp only [Act.put, List.setIfInBounds_toArray, List.set_cons_zero, List.set_cons_succ]
  refine held_take [] (i := 1) (v := .pointer (some ⟨b, 0, none⟩)) rfl (by kernel_rfl) (fun _ _ _ h => h) (Or.inl ⟨by rfl, fun w' hS => by go_simp⟩) hS0 ?_
  try simp only [Act.put, List.setIfInBounds_toArray, List.set_cons_zero, List.set_cons_succ]
  refine held_take [] (i := 2) (v := .pointer (some ⟨b, 0, none⟩)) rfl (by kernel_rfl) (fun _ _ _ h => h) (Or.inl ⟨by rfl, fun w' hS => by go_simp⟩) hS0 ?_
  try simp only [Act.put, List.setIfInBounds_toArray, List.set_cons_zero, List.set_cons_succ]
  refine held_take [] (i := 3) (v := .pointer (some ⟨w.heap.size, 1, none⟩)) rfl (by kernel_rfl) (fun _ _ _ h => h) (Or.inl ⟨by rfl, fun w' hS => by go_simp⟩) hS0 ?_
  try simp only [Act.put, List.setIfInBounds_toArray, List.set_cons_zero, List.set_cons_succ]
  refine held_take [] (i := 4) (v := .string ⟨name.toArray⟩) rfl (by kernel_rfl) (fun _ _ _ h => h) (Or.inl ⟨by rfl, fun w' hS => by have hc := hS.cell (i := 1) rfl; go_simp⟩) hS0 ?_
  try simp only [Act.put, List.setIfInBounds_toArray, List.set_cons_zero, List.set_cons_succ]
  refine held_one (i := 5) rfl (by kernel_rfl) (fun K hK => ?_)
  go_simp
  refine hK.out _ _ (fun _ => hS0.alloc _) ?_
  clear hK K
  try simp only [Act.put, List.setIfInBounds_toArray, List.set_cons_zero, List.set_cons_succ]
  refine held_one (i := 6) rfl (by kernel_rfl) (fun K hK => ?_)
  go_simp
  have HC := Lib.hid (name_new name h2 wa u2 _ KA.out (Nat.le_trans HB0.out RA.out.kp.size))
  refine HC.out.mono ?_; rintro e w3 ⟨rfl, u3, k1, k2⟩
  have K3 := Lib.hid k1; have R3 := Lib.hid (RA.out.trans k2)
  refine hK.out _ _ (fun _ => HBK.out _ _ R3.out) ?_
  clear hK K k1 k2 HC KA RA hS0
  try simp only [Act.put, List.setIfInBounds_toArray, List.set_cons_zero, List.set_cons_succ]
  refine held_done (by kernel_rfl) ?_ _
  have cb := HBK.out _ _ R3.out
  have c0 := cb.cell (i := 0) rfl
  have c1 := cb.cell (i := 1) rfl
  have c2 := cb.cell (i := 2) rfl
  have c3 := cb.cell (i := 3) rfl
  have c4 := cb.cell (i := 4) rfl
  have c5 := cb.cell (i := 5) rfl
  have c6 := cb.cell (i := 6) rfl
  have c7 := cb.cell (i := 7) rfl
  have c8 := cb.cell (i := 8) rfl
  clear cb
  have HC := Lib.hid (terms_any kind name conds p n cap num rn rd sn sd pos h4 h5 h6 w3 u3 _ K3.out (Nat.le_trans HB0.out R3.out.kp.size) (HEW.out _ _ (R3.out)))
  go_wp2_with fail
  refine HC.out.mono ?_; rintro e w4 ⟨rfl, u4, k1, k2⟩
  have K4 := Lib.hid k1; have R4 := Lib.hid (R3.out.trans k2)
  clear k1 k2 HC K3 R3
  clear c0 c1 c2 c3 c4 c5 c6 c7 c8
  have c2 := (HBK.out _ _ R4.out).cell (i := 2) rfl
  have HC := Lib.hid (when_any conds h3 p n cap w4 u4 _ K4.out (Nat.le_trans HB0.out R4.out.kp.size) (HEW.out _ _ (R4.out)) (HL.out.below (HIN.out _ _ R4.out)))
  go_wp2_with fail
  refine HC.out.mono ?_; rintro e w5 ⟨rfl, u5, k1, k2⟩
  have K5 := Lib.hid k1; have R5 := Lib.hid (R4.out.trans k2)
  clear k1 k2 HC K4 R4
  clear c2
  have HC := Lib.hid (line_any [59] (by decide) w5 u5 _ K5.out (Nat.le_trans HB0.out R5.out.kp.size))
  go_wp2_with fail
  refine HC.out.mono ?_; rintro e w6 ⟨rfl, u6, k1, k2⟩
  have K6 := Lib.hid k1; have R6 := Lib.hid (R5.out.trans k2)
  clear k1 k2 HC K5 R5
  have HE : Hid (itemS ⟨kind, name, conds, num, ⟨rn, rd⟩, ⟨sn, sd⟩, pos⟩ s = lineS [59] (whenS conds (termsS ⟨kind, name, conds, num, ⟨rn, rd⟩, ⟨sn, sd⟩, pos⟩ (namesS [name] (oneOfS itemWords kind s))))) := Lib.hid rfl
  go_wp2
  go_end0
  subst hu0
  exact ⟨rfl, u6, by rw [HE.out]; exact K6.out, HFIN.out _ _ R6.out⟩
end Go.Proofs.YtilfpnkcgjonhaaGreatDoor.Pr
