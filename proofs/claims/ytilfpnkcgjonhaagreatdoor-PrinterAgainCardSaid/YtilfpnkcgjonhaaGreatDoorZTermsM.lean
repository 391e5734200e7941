/-
  The walks of what a rule has besides its name.
-/
import Derived.Test.YtilfpnkcgjonhaaGreatDoorZRatioAll
namespace Go.Proofs.YtilfpnkcgjonhaaGreatDoor.Pr
open Go.RowKit Go.Sort Foyer.Printer Foyer.Lexer Foyer.Round
theorem WR.other {B b : Nat} {T : TypeId} {w : World} {v : Value} {s : St} (h : WR B b T w v s) (p : Addr) (u : Value) (hb : p.block ≠ b) (hv : v.ownBlock ≠ some p.block) : WR B b T (w.setCell p u) v s :=
 ⟨h.base, h.cells.other hb u, own_of_block h.own fun k hk => Below.heap_setCell _ _ _ _ (fun e => hv (by rw [← e]; exact hk)), h.apart, h.short, h.low⟩
theorem Wrote.store {b : Nat} {w w' : World} {v v' : Value} (h : Wrote b w v w' v') (q i : Nat) (u : Value) (hq : w.heap.size ≤ q) : Wrote b w v (w'.setCell ⟨q, i, none⟩ u) v' := ⟨h.kp.setNew q i hq u, h.own⟩
set_option linter.unusedSimpArgs false in
set_option maxRecDepth 100000 in
set_option maxHeartbeats 40000000 in
theorem terms_any {B b : Nat} {T : TypeId} (kind : Int) (name : List UInt8) (conds : List (List TestZ)) (p : Option Addr) (n cap : Nat) (num rn rd sn sd pos : Int) (hn : intOk num) (hr : RatioZ.Fit ⟨rn, rd⟩) (hs : RatioZ.Fit ⟨sn, sd⟩) (w : World) (v : Value) (s : St) (h : WR B b T w v s) (hB : B ≤ w.heap.size) (hE : EnvAt B w) :
  Calls Tryz.prog 79 #[.pointer (some ⟨b, 0, none⟩), .agg #[.int .i64 kind, .string ⟨name.toArray⟩, .slice p n cap, .int .i64 num, .int .i64 rn, .int .i64 rd, .int .i64 sn, .int .i64 sd, .int .i64 pos]] w fun e w' => e = .returned (.tuple #[]) ∧ Step B b T w v (termsS ⟨kind, name, conds, num, ⟨rn, rd⟩, ⟨sn, sd⟩, pos⟩ s) w' := by
 have hb0 : Below w.heap.size w (w.alloc (.cells #[.int .i64 kind, .string ⟨name.toArray⟩, .slice p n cap, .int .i64 num, .int .i64 rn, .int .i64 rd, .int .i64 sn, .int .i64 sd, .int .i64 pos] 66)) := (Below.refl _ _).alloc (Nat.le_refl _) _
 have hR : Wrote b w v (w.alloc (.cells #[.int .i64 kind, .string ⟨name.toArray⟩, .slice p n cap, .int .i64 num, .int .i64 rn, .int .i64 rd, .int .i64 sn, .int .i64 sd, .int .i64 pos] 66)) v := (Wrote.refl b _ v).later hb0
 have HBK : Hid (∀ w' v', Wrote b (w.alloc (.cells #[.int .i64 kind, .string ⟨name.toArray⟩, .slice p n cap, .int .i64 num, .int .i64 rn, .int .i64 rd, .int .i64 sn, .int .i64 sd, .int .i64 pos] 66)) v w' v' → Blk w' w.heap.size 66 [.int .i64 kind, .string ⟨name.toArray⟩, .slice p n cap, .int .i64 num, .int .i64 rn, .int .i64 rd, .int .i64 sn, .int .i64 sd, .int .i64 pos]) := hid fun w' v' k => (k.kept (k := w.heap.size) (by simp) (by have := h.lt; omega) (fun e => by have := (h.vlow e).2; omega)).1.trans (Blk.new w 66 [.int .i64 kind, .string ⟨name.toArray⟩, .slice p n cap, .int .i64 num, .int .i64 rn, .int .i64 rd, .int .i64 sn, .int .i64 sd, .int .i64 pos])
 have HB0 : Hid (B ≤ (w.alloc (.cells #[.int .i64 kind, .string ⟨name.toArray⟩, .slice p n cap, .int .i64 num, .int .i64 rn, .int .i64 rd, .int .i64 sn, .int .i64 sd, .int .i64 pos] 66)).heap.size) := hid (by simp; omega)
 have HEW : Hid (∀ w' v', Wrote b (w.alloc (.cells #[.int .i64 kind, .string ⟨name.toArray⟩, .slice p n cap, .int .i64 num, .int .i64 rn, .int .i64 rd, .int .i64 sn, .int .i64 sd, .int .i64 pos] 66)) v w' v' → EnvAt B w') := hid fun w' v' k => hE.below ((hb0.mono hB).trans ((h.later hb0).wrote (by simp; omega) k))
 have HIN : Hid (∀ w' v', Wrote b (w.alloc (.cells #[.int .i64 kind, .string ⟨name.toArray⟩, .slice p n cap, .int .i64 num, .int .i64 rn, .int .i64 rd, .int .i64 sn, .int .i64 sd, .int .i64 pos] 66)) v w' v' → Below B w w') := hid fun w' v' k => (hb0.mono hB).trans ((h.later hb0).wrote (by simp; omega) k)
 have K0 := hid (h.later hb0)
 have HFIN : Hid (∀ w' v', Wrote b (w.alloc (.cells #[.int .i64 kind, .string ⟨name.toArray⟩, .slice p n cap, .int .i64 num, .int .i64 rn, .int .i64 rd, .int .i64 sn, .int .i64 sd, .int .i64 pos] 66)) v w' v' → Wrote b w v w' v') := hid fun w' v' k => hR.trans k
 obtain ⟨w0, hw0⟩ : ∃ w0, w.alloc (.cells #[.int .i64 kind, .string ⟨name.toArray⟩, .slice p n cap, .int .i64 num, .int .i64 rn, .int .i64 rd, .int .i64 sn, .int .i64 sd, .int .i64 pos] 66) = w0 := ⟨_, rfl⟩
 obtain ⟨u0, hu0⟩ : ∃ u0, u0 = v := ⟨v, rfl⟩
 rw [hw0] at HBK HB0 HEW HIN HFIN K0
 rw [← hu0] at HBK HEW HIN HFIN K0
 have R0 := hid (Wrote.refl b w0 u0)
 clear h hb0 hR hE hB
 go_enter Tryz.func79, Tryz.ntmps79
 have cb := HBK.out _ _ R0.out
 have c0 := cb.cell (i := 0) rfl
 have c1 := cb.cell (i := 1) rfl
 have c2 := cb.cell (i := 2) rfl
 have c3 := cb.cell (i := 3) rfl
 have c4 := cb.cell (i := 4) rfl
 have c5 := cb.cell (i := 5) rfl
 have c6 := cb.cell (i := 6) rfl
 have c7 := cb.cell (i := 7) rfl
 have c8 := cb.cell (i := 8) rfl
 go_upto_region 2 with fail
 try rw [hw0]
 have hbq : Below w0.heap.size w0 (w0.alloc (.cells #[.int .i64 kind, .string ⟨name.toArray⟩, .slice p n cap, .int .i64 num, .int .i64 rn, .int .i64 rd, .int .i64 sn, .int .i64 sd, .int .i64 pos] 66)) := (Below.refl _ _).alloc (Nat.le_refl _) _
 have HQ : Hid (Blk (w0.alloc (.cells #[.int .i64 kind, .string ⟨name.toArray⟩, .slice p n cap, .int .i64 num, .int .i64 rn, .int .i64 rd, .int .i64 sn, .int .i64 sd, .int .i64 pos] 66)) w0.heap.size 66 [.int .i64 kind, .string ⟨name.toArray⟩, .slice p n cap, .int .i64 num, .int .i64 rn, .int .i64 rd, .int .i64 sn, .int .i64 sd, .int .i64 pos]) := hid (Blk.new _ _ _)
 have HQB : Hid (w0.heap.size ≠ b) := hid (by have := K0.out.lt; omega)
 have HQV : Hid (u0.ownBlock ≠ some w0.heap.size) := hid (fun e => by have := (K0.out.vlow e).2; omega)
 have K1 := hid (K0.out.later hbq); have R1 : Hid (Wrote b w0 u0 _ u0) := hid (R0.out.trans ((Wrote.refl b _ u0).later hbq))
 obtain ⟨q, hq⟩ : ∃ q, w0.heap.size = q := ⟨_, rfl⟩
 have HQ0 : Hid (w0.heap.size ≤ q) := hid (Nat.le_of_eq hq)
 change Code.wp _ _ _ _ (w0.alloc (.cells #[.int .i64 kind, .string ⟨name.toArray⟩, .slice p n cap, .int .i64 num, .int .i64 rn, .int .i64 rd, .int .i64 sn, .int .i64 sd, .int .i64 pos] 66))
 generalize (w0.alloc (.cells #[.int .i64 kind, .string ⟨name.toArray⟩, .slice p n cap, .int .i64 num, .int .i64 rn, .int .i64 rd, .int .i64 sn, .int .i64 sd, .int .i64 pos] 66)) = w1 at *
 rw [hq] at HQ HQB HQV
 try rw [hq]
 clear hbq cb c0 c1 c2 c3 c4 c5 c6 c7 c8 K0 R0 hq
 have c0 := (HBK.out _ _ R1.out).cell (i := 0) rfl
 by_cases hk : kind = 1
 ·subst hk
  have cz := c0
  clear c0
  have cq := HQ.out
  have q3 := cq.cell (i := 3) rfl
  have qf := cq.free
  go_upto_region 5 with fail
  have hqn : Hid (Blk (w1.setCell ⟨q, 3, none⟩ (.int .i64 0)) q 66 [.int .i64 1, .string ⟨name.toArray⟩, .slice p n cap, .int .i64 0, .int .i64 rn, .int .i64 rd, .int .i64 sn, .int .i64 sd, .int .i64 pos]) := hid ((HQ.out.set 3 (.int .i64 0)).cast rfl)
  have K2 := hid (K1.out.other ⟨q, 3, none⟩ (.int .i64 0) HQB.out HQV.out); have R2 := hid (R1.out.store q 3 (.int .i64 0) HQ0.out)
  change Code.wp _ _ _ _ (w1.setCell ⟨q, 3, none⟩ (.int .i64 0))
  generalize (w1.setCell ⟨q, 3, none⟩ (.int .i64 0)) = w2 at *
  clear q3 qf cq HQ K1 R1
  have HQ := hqn
  clear hqn
  have c3 := (HBK.out _ _ R2.out).cell (i := 3) rfl
  by_cases hnz : num = 0
  ·have hnb : (num == 0) = true := by simp [hnz]
   by_cases hR : rn = 0 ∧ rd = 0
   ·have hy1 := ratio_eql rn rd 0 0 true (by simp [hR])
    have hdR : decide ((⟨rn, rd⟩ : RatioZ) = none0) = true := by rw [hR.1, hR.2]; rfl
    by_cases hS : sn = 0 ∧ sd = 0
    ·have hy2 := ratio_eql sn sd 0 0 true (by simp [hS])
     have hdS : decide ((⟨sn, sd⟩ : RatioZ) = none0) = true := by rw [hS.1, hS.2]; rfl
     have HE : Hid (termsS ⟨1, name, conds, num, ⟨rn, rd⟩, ⟨sn, sd⟩, pos⟩ s = requireS true (s)) := hid (by show requireS (decide ((⟨rn, rd⟩ : RatioZ) = none0) && decide ((⟨sn, sd⟩ : RatioZ) = none0)) (if num ≠ 0 then numbersS [num] (wordS wLimit s) else s) = _; rw [if_neg (fun h => h hnz), hdR, hdS]; try rfl)
     have hb23 : Below w2.heap.size w2 (w2.alloc (.cells #[.int .i64 0, .int .i64 0] 64)) := (Below.refl _ _).alloc (Nat.le_refl _) _
     have z0 := (Blk.new w2 64 [.int .i64 0, .int .i64 0]).cell (i := 0) rfl
     have z1 := (Blk.new w2 64 [.int .i64 0, .int .i64 0]).cell (i := 1) rfl
     have cq := HQ.out.alloc (.cells #[.int .i64 0, .int .i64 0] 64)
     have q3 := cq.cell (i := 3) rfl
     have q4 := cq.cell (i := 4) rfl
     have q5 := cq.cell (i := 5) rfl
     have q6 := cq.cell (i := 6) rfl
     have q7 := cq.cell (i := 7) rfl
     have KB := hid (K2.out.later hb23); have RB : Hid (Wrote b w0 u0 _ u0) := hid (R2.out.trans ((Wrote.refl b _ u0).later hb23))
     have hg := fun (x y : Operand) (xs ys : Array Value) (W : World) => ratio_geql x y xs ys W
     go_upto_region 23 with fail
     obtain ⟨zb, hzb⟩ : ∃ zb, w2.heap.size = zb := ⟨_, rfl⟩
     rw [hzb] at z0 z1
     try rw [hzb]
     change Code.wp _ _ _ _ (w2.alloc (.cells #[.int .i64 0, .int .i64 0] 64))
     generalize w2.alloc (.cells #[.int .i64 0, .int .i64 0] 64) = wb at *
     clear cq hb23 HQ HQV K2 R2
     have HC := hid (require_s true wb.drew u0 _ KB.out.drew)
     go_still_tail 18, (by kernel_rfl)
     change wpList _ _ _ _ _ wb.drew
     refine wpList_plain rfl fun K hK => ?_
     go_simp
     refine HC.out.mono ?_; rintro e we ⟨rfl, ue, k1, k2⟩
     have KE := hid k1; have RE := hid (RB.out.drew.trans k2)
     clear k1 k2 HC
     refine hK _ _ ?_
     clear hK K
     unfold wpList
     go_wp2
     go_end0
     subst hu0
     exact ⟨rfl, ue, by rw [HE.out]; exact KE.out, HFIN.out _ _ RE.out⟩
    ·have hy2 := ratio_eql sn sd 0 0 false (decide_eq_false hS)
     have hdS : decide ((⟨sn, sd⟩ : RatioZ) = none0) = false := decide_eq_false fun e => hS (by injection e with e1 e2; exact ⟨e1, e2⟩)
     have HE : Hid (termsS ⟨1, name, conds, num, ⟨rn, rd⟩, ⟨sn, sd⟩, pos⟩ s = requireS false (s)) := hid (by show requireS (decide ((⟨rn, rd⟩ : RatioZ) = none0) && decide ((⟨sn, sd⟩ : RatioZ) = none0)) (if num ≠ 0 then numbersS [num] (wordS wLimit s) else s) = _; rw [if_neg (fun h => h hnz), hdR, hdS]; try rfl)
     have hb23 : Below w2.heap.size w2 (w2.alloc (.cells #[.int .i64 0, .int .i64 0] 64)) := (Below.refl _ _).alloc (Nat.le_refl _) _
     have z0 := (Blk.new w2 64 [.int .i64 0, .int .i64 0]).cell (i := 0) rfl
     have z1 := (Blk.new w2 64 [.int .i64 0, .int .i64 0]).cell (i := 1) rfl
     have cq := HQ.out.alloc (.cells #[.int .i64 0, .int .i64 0] 64)
     have q3 := cq.cell (i := 3) rfl
     have q4 := cq.cell (i := 4) rfl
     have q5 := cq.cell (i := 5) rfl
     have q6 := cq.cell (i := 6) rfl
     have q7 := cq.cell (i := 7) rfl
     have KB := hid (K2.out.later hb23); have RB : Hid (Wrote b w0 u0 _ u0) := hid (R2.out.trans ((Wrote.refl b _ u0).later hb23))
     have hg := fun (x y : Operand) (xs ys : Array Value) (W : World) => ratio_geql x y xs ys W
     go_upto_region 23 with fail
     obtain ⟨zb, hzb⟩ : ∃ zb, w2.heap.size = zb := ⟨_, rfl⟩
     rw [hzb] at z0 z1
     try rw [hzb]
     change Code.wp _ _ _ _ (w2.alloc (.cells #[.int .i64 0, .int .i64 0] 64))
     generalize w2.alloc (.cells #[.int .i64 0, .int .i64 0] 64) = wb at *
     clear cq hb23 HQ HQV K2 R2
     have HC := hid (require_s false wb.drew u0 _ KB.out.drew)
     go_still_tail 18, (by kernel_rfl)
     change wpList _ _ _ _ _ wb.drew
     refine wpList_plain rfl fun K hK => ?_
     go_simp
     refine HC.out.mono ?_; rintro e we ⟨rfl, ue, k1, k2⟩
     have KE := hid k1; have RE := hid (RB.out.drew.trans k2)
     clear k1 k2 HC
     refine hK _ _ ?_
     clear hK K
     unfold wpList
     go_wp2
     go_end0
     subst hu0
     exact ⟨rfl, ue, by rw [HE.out]; exact KE.out, HFIN.out _ _ RE.out⟩
   ·have hy1 := ratio_eql rn rd 0 0 false (decide_eq_false hR)
    have hdR : decide ((⟨rn, rd⟩ : RatioZ) = none0) = false := decide_eq_false fun e => hR (by injection e with e1 e2; exact ⟨e1, e2⟩)
    have HE : Hid (termsS ⟨1, name, conds, num, ⟨rn, rd⟩, ⟨sn, sd⟩, pos⟩ s = requireS false (s)) := hid (by show requireS (decide ((⟨rn, rd⟩ : RatioZ) = none0) && decide ((⟨sn, sd⟩ : RatioZ) = none0)) (if num ≠ 0 then numbersS [num] (wordS wLimit s) else s) = _; rw [if_neg (fun h => h hnz), hdR]; try rfl)
    have hb23 : Below w2.heap.size w2 (w2.alloc (.cells #[.int .i64 0, .int .i64 0] 64)) := (Below.refl _ _).alloc (Nat.le_refl _) _
    have z0 := (Blk.new w2 64 [.int .i64 0, .int .i64 0]).cell (i := 0) rfl
    have z1 := (Blk.new w2 64 [.int .i64 0, .int .i64 0]).cell (i := 1) rfl
    have cq := HQ.out.alloc (.cells #[.int .i64 0, .int .i64 0] 64)
    have q3 := cq.cell (i := 3) rfl
    have q4 := cq.cell (i := 4) rfl
    have q5 := cq.cell (i := 5) rfl
    have q6 := cq.cell (i := 6) rfl
    have q7 := cq.cell (i := 7) rfl
    have KB := hid (K2.out.later hb23); have RB : Hid (Wrote b w0 u0 _ u0) := hid (R2.out.trans ((Wrote.refl b _ u0).later hb23))
    have hg := fun (x y : Operand) (xs ys : Array Value) (W : World) => ratio_geql x y xs ys W
    go_upto_region 23 with fail
    obtain ⟨zb, hzb⟩ : ∃ zb, w2.heap.size = zb := ⟨_, rfl⟩
    rw [hzb] at z0 z1
    try rw [hzb]
    change Code.wp _ _ _ _ (w2.alloc (.cells #[.int .i64 0, .int .i64 0] 64))
    generalize w2.alloc (.cells #[.int .i64 0, .int .i64 0] 64) = wb at *
    clear cq hb23 HQ HQV K2 R2
    have HC := hid (require_s false wb.drew u0 _ KB.out.drew)
    go_still_tail 18, (by kernel_rfl)
    change wpList _ _ _ _ _ wb.drew
    refine wpList_plain rfl fun K hK => ?_
    go_simp
    refine HC.out.mono ?_; rintro e we ⟨rfl, ue, k1, k2⟩
    have KE := hid k1; have RE := hid (RB.out.drew.trans k2)
    clear k1 k2 HC
    refine hK _ _ ?_
    clear hK K
    unfold wpList
    go_wp2
    go_end0
    subst hu0
    exact ⟨rfl, ue, by rw [HE.out]; exact KE.out, HFIN.out _ _ RE.out⟩
  ·have hnb : (num == 0) = false := by rw [beq_eq_false_iff_ne]; exact hnz
   have HC := hid (word_any wLimit (by decide) w2 u0 _ K2.out (Nat.le_trans HB0.out R2.out.kp.size))
   go_wp2_with fail
   refine HC.out.mono ?_; rintro e w3 ⟨rfl, u3, k1, k2⟩
   have K3 := hid k1; have R3 := hid (R2.out.trans k2)
   have hqk := k2.kept HQ.out.lt HQB.out HQV.out
   replace HQ : Hid (Blk w3 q 66 [.int .i64 1, .string ⟨name.toArray⟩, .slice p n cap, .int .i64 0, .int .i64 rn, .int .i64 rd, .int .i64 sn, .int .i64 sd, .int .i64 pos]) := hid (hqk.1.trans HQ.out)
   replace HQV := hid hqk.2.1
   clear hqk
   clear k1 k2 HC K2 R2
   clear c3
   go_upto_region 7 with fail
   refine wp_region_any (by kernel_rfl) ?_
   have KA := hid K3.out.drew; have RA := hid R3.out.drew
   have hS0 : Blk w3.drew w.heap.size 66 [.int .i64 1, .string ⟨name.toArray⟩, .slice p n cap, .int .i64 num, .int .i64 rn, .int .i64 rd, .int .i64 sn, .int .i64 sd, .int .i64 pos] := HBK.out _ _ RA.out
   replace HQ : Hid (Blk w3.drew q 66 [.int .i64 1, .string ⟨name.toArray⟩, .slice p n cap, .int .i64 0, .int .i64 rn, .int .i64 rd, .int .i64 sn, .int .i64 sd, .int .i64 pos]) := hid HQ.out
   refine any_of_held (S := fun W => Blk W w.heap.size 66 [.int .i64 1, .string ⟨name.toArray⟩, .slice p n cap, .int .i64 num, .int .i64 rn, .int .i64 rd, .int .i64 sn, .int .i64 sd, .int .i64 pos]) (N := []) _ _ _ _ ?_
   change held _ _ _ _ _ _ _ _ _ w3.drew
   obtain ⟨wa, hwa⟩ : ∃ wa, w3.drew = wa := ⟨_, rfl⟩
   rw [hwa] at hS0 KA RA HQ ⊢
   clear hwa K3 R3
   refine held_take [] (i := 0) (v := .pointer (some ⟨b, 0, none⟩)) rfl (by kernel_rfl) (fun _ _ _ h => h) (Or.inl ⟨by rfl, fun w' hS => by go_simp⟩) hS0 ?_
   try simp only [Act.put, aA, aB, aC]
   refine held_take [] (i := 1) (v := .pointer (some ⟨b, 0, none⟩)) rfl (by kernel_rfl) (fun _ _ _ h => h) (Or.inl ⟨by rfl, fun w' hS => by go_simp⟩) hS0 ?_
   try simp only [Act.put, aA, aB, aC]
   refine held_take [] (i := 2) (v := .pointer (some ⟨b, 0, none⟩)) rfl (by kernel_rfl) (fun _ _ _ h => h) (Or.inl ⟨by rfl, fun w' hS => by go_simp⟩) hS0 ?_
   try simp only [Act.put, aA, aB, aC]
   refine held_take [] (i := 3) (v := .pointer (some ⟨w.heap.size, 3, none⟩)) rfl (by kernel_rfl) (fun _ _ _ h => h) (Or.inl ⟨by rfl, fun w' hS => by go_simp⟩) hS0 ?_
   try simp only [Act.put, aA, aB, aC]
   refine held_take [] (i := 4) (v := .int .i64 num) rfl (by kernel_rfl) (fun _ _ _ h => h) (Or.inl ⟨by rfl, fun w' hS => by have hc := hS.cell (i := 3) rfl; go_simp⟩) hS0 ?_
   try simp only [Act.put, aA, aB, aC]
   refine held_one (i := 5) rfl (by kernel_rfl) (fun K hK => ?_)
   go_simp
   refine hK.out _ _ (fun _ => hS0.alloc _) ?_
   clear hK K
   try simp only [Act.put, aA, aB, aC]
   refine held_one (i := 6) rfl (by kernel_rfl) (fun K hK => ?_)
   go_simp
   have HC := hid (numbers_new [num] (by intro z hz; rw [List.mem_singleton] at hz; subst hz; exact hn) (by simp) wa u3 _ KA.out (Nat.le_trans HB0.out RA.out.kp.size) (HEW.out _ _ RA.out))
   refine HC.out.mono ?_; rintro e w4 ⟨rfl, u4, k1, k2⟩
   have K4 := hid k1; have R4 := hid (RA.out.trans k2)
   have hqk := k2.kept HQ.out.lt HQB.out HQV.out
   replace HQ : Hid (Blk w4 q 66 [.int .i64 1, .string ⟨name.toArray⟩, .slice p n cap, .int .i64 0, .int .i64 rn, .int .i64 rd, .int .i64 sn, .int .i64 sd, .int .i64 pos]) := hid (hqk.1.trans HQ.out)
   replace HQV := hid hqk.2.1
   clear hqk
   refine hK.out _ _ (fun _ => HBK.out _ _ R4.out) ?_
   clear hK K k1 k2 HC KA RA hS0
   try simp only [Act.put, aA, aB, aC]
   refine held_done (by kernel_rfl) ?_ _
   by_cases hR : rn = 0 ∧ rd = 0
   ·have hy1 := ratio_eql rn rd 0 0 true (by simp [hR])
    have hdR : decide ((⟨rn, rd⟩ : RatioZ) = none0) = true := by rw [hR.1, hR.2]; rfl
    by_cases hS : sn = 0 ∧ sd = 0
    ·have hy2 := ratio_eql sn sd 0 0 true (by simp [hS])
     have hdS : decide ((⟨sn, sd⟩ : RatioZ) = none0) = true := by rw [hS.1, hS.2]; rfl
     have HE : Hid (termsS ⟨1, name, conds, num, ⟨rn, rd⟩, ⟨sn, sd⟩, pos⟩ s = requireS true (numbersS [num] (wordS wLimit s))) := hid (by show requireS (decide ((⟨rn, rd⟩ : RatioZ) = none0) && decide ((⟨sn, sd⟩ : RatioZ) = none0)) (if num ≠ 0 then numbersS [num] (wordS wLimit s) else s) = _; rw [if_pos hnz, hdR, hdS]; try rfl)
     have hb23 : Below w4.heap.size w4 (w4.alloc (.cells #[.int .i64 0, .int .i64 0] 64)) := (Below.refl _ _).alloc (Nat.le_refl _) _
     have z0 := (Blk.new w4 64 [.int .i64 0, .int .i64 0]).cell (i := 0) rfl
     have z1 := (Blk.new w4 64 [.int .i64 0, .int .i64 0]).cell (i := 1) rfl
     have cq := HQ.out.alloc (.cells #[.int .i64 0, .int .i64 0] 64)
     have q3 := cq.cell (i := 3) rfl
     have q4 := cq.cell (i := 4) rfl
     have q5 := cq.cell (i := 5) rfl
     have q6 := cq.cell (i := 6) rfl
     have q7 := cq.cell (i := 7) rfl
     have KB := hid (K4.out.later hb23); have RB : Hid (Wrote b w0 u0 _ u4) := hid (R4.out.trans ((Wrote.refl b _ u4).later hb23))
     have hg := fun (x y : Operand) (xs ys : Array Value) (W : World) => ratio_geql x y xs ys W
     go_upto_region 23 with fail
     obtain ⟨zb, hzb⟩ : ∃ zb, w4.heap.size = zb := ⟨_, rfl⟩
     rw [hzb] at z0 z1
     try rw [hzb]
     change Code.wp _ _ _ _ (w4.alloc (.cells #[.int .i64 0, .int .i64 0] 64))
     generalize w4.alloc (.cells #[.int .i64 0, .int .i64 0] 64) = wb at *
     clear cq hb23 HQ HQV K4 R4
     have HC := hid (require_s true wb.drew u4 _ KB.out.drew)
     go_still_tail 18, (by kernel_rfl)
     change wpList _ _ _ _ _ wb.drew
     refine wpList_plain rfl fun K hK => ?_
     go_simp
     refine HC.out.mono ?_; rintro e we ⟨rfl, ue, k1, k2⟩
     have KE := hid k1; have RE := hid (RB.out.drew.trans k2)
     clear k1 k2 HC
     refine hK _ _ ?_
     clear hK K
     unfold wpList
     go_wp2
     go_end0
     subst hu0
     exact ⟨rfl, ue, by rw [HE.out]; exact KE.out, HFIN.out _ _ RE.out⟩
    ·have hy2 := ratio_eql sn sd 0 0 false (decide_eq_false hS)
     have hdS : decide ((⟨sn, sd⟩ : RatioZ) = none0) = false := decide_eq_false fun e => hS (by injection e with e1 e2; exact ⟨e1, e2⟩)
     have HE : Hid (termsS ⟨1, name, conds, num, ⟨rn, rd⟩, ⟨sn, sd⟩, pos⟩ s = requireS false (numbersS [num] (wordS wLimit s))) := hid (by show requireS (decide ((⟨rn, rd⟩ : RatioZ) = none0) && decide ((⟨sn, sd⟩ : RatioZ) = none0)) (if num ≠ 0 then numbersS [num] (wordS wLimit s) else s) = _; rw [if_pos hnz, hdR, hdS]; try rfl)
     have hb23 : Below w4.heap.size w4 (w4.alloc (.cells #[.int .i64 0, .int .i64 0] 64)) := (Below.refl _ _).alloc (Nat.le_refl _) _
     have z0 := (Blk.new w4 64 [.int .i64 0, .int .i64 0]).cell (i := 0) rfl
     have z1 := (Blk.new w4 64 [.int .i64 0, .int .i64 0]).cell (i := 1) rfl
     have cq := HQ.out.alloc (.cells #[.int .i64 0, .int .i64 0] 64)
     have q3 := cq.cell (i := 3) rfl
     have q4 := cq.cell (i := 4) rfl
     have q5 := cq.cell (i := 5) rfl
     have q6 := cq.cell (i := 6) rfl
     have q7 := cq.cell (i := 7) rfl
     have KB := hid (K4.out.later hb23); have RB : Hid (Wrote b w0 u0 _ u4) := hid (R4.out.trans ((Wrote.refl b _ u4).later hb23))
     have hg := fun (x y : Operand) (xs ys : Array Value) (W : World) => ratio_geql x y xs ys W
     go_upto_region 23 with fail
     obtain ⟨zb, hzb⟩ : ∃ zb, w4.heap.size = zb := ⟨_, rfl⟩
     rw [hzb] at z0 z1
     try rw [hzb]
     change Code.wp _ _ _ _ (w4.alloc (.cells #[.int .i64 0, .int .i64 0] 64))
     generalize w4.alloc (.cells #[.int .i64 0, .int .i64 0] 64) = wb at *
     clear cq hb23 HQ HQV K4 R4
     have HC := hid (require_s false wb.drew u4 _ KB.out.drew)
     go_still_tail 18, (by kernel_rfl)
     change wpList _ _ _ _ _ wb.drew
     refine wpList_plain rfl fun K hK => ?_
     go_simp
     refine HC.out.mono ?_; rintro e we ⟨rfl, ue, k1, k2⟩
     have KE := hid k1; have RE := hid (RB.out.drew.trans k2)
     clear k1 k2 HC
     refine hK _ _ ?_
     clear hK K
     unfold wpList
     go_wp2
     go_end0
     subst hu0
     exact ⟨rfl, ue, by rw [HE.out]; exact KE.out, HFIN.out _ _ RE.out⟩
   ·have hy1 := ratio_eql rn rd 0 0 false (decide_eq_false hR)
    have hdR : decide ((⟨rn, rd⟩ : RatioZ) = none0) = false := decide_eq_false fun e => hR (by injection e with e1 e2; exact ⟨e1, e2⟩)
    have HE : Hid (termsS ⟨1, name, conds, num, ⟨rn, rd⟩, ⟨sn, sd⟩, pos⟩ s = requireS false (numbersS [num] (wordS wLimit s))) := hid (by show requireS (decide ((⟨rn, rd⟩ : RatioZ) = none0) && decide ((⟨sn, sd⟩ : RatioZ) = none0)) (if num ≠ 0 then numbersS [num] (wordS wLimit s) else s) = _; rw [if_pos hnz, hdR]; try rfl)
    have hb23 : Below w4.heap.size w4 (w4.alloc (.cells #[.int .i64 0, .int .i64 0] 64)) := (Below.refl _ _).alloc (Nat.le_refl _) _
    have z0 := (Blk.new w4 64 [.int .i64 0, .int .i64 0]).cell (i := 0) rfl
    have z1 := (Blk.new w4 64 [.int .i64 0, .int .i64 0]).cell (i := 1) rfl
    have cq := HQ.out.alloc (.cells #[.int .i64 0, .int .i64 0] 64)
    have q3 := cq.cell (i := 3) rfl
    have q4 := cq.cell (i := 4) rfl
    have q5 := cq.cell (i := 5) rfl
    have q6 := cq.cell (i := 6) rfl
    have q7 := cq.cell (i := 7) rfl
    have KB := hid (K4.out.later hb23); have RB : Hid (Wrote b w0 u0 _ u4) := hid (R4.out.trans ((Wrote.refl b _ u4).later hb23))
    have hg := fun (x y : Operand) (xs ys : Array Value) (W : World) => ratio_geql x y xs ys W
    go_upto_region 23 with fail
    obtain ⟨zb, hzb⟩ : ∃ zb, w4.heap.size = zb := ⟨_, rfl⟩
    rw [hzb] at z0 z1
    try rw [hzb]
    change Code.wp _ _ _ _ (w4.alloc (.cells #[.int .i64 0, .int .i64 0] 64))
    generalize w4.alloc (.cells #[.int .i64 0, .int .i64 0] 64) = wb at *
    clear cq hb23 HQ HQV K4 R4
    have HC := hid (require_s false wb.drew u4 _ KB.out.drew)
    go_still_tail 18, (by kernel_rfl)
    change wpList _ _ _ _ _ wb.drew
    refine wpList_plain rfl fun K hK => ?_
    go_simp
    refine HC.out.mono ?_; rintro e we ⟨rfl, ue, k1, k2⟩
    have KE := hid k1; have RE := hid (RB.out.drew.trans k2)
    clear k1 k2 HC
    refine hK _ _ ?_
    clear hK K
    unfold wpList
    go_wp2
    go_end0
    subst hu0
    exact ⟨rfl, ue, by rw [HE.out]; exact KE.out, HFIN.out _ _ RE.out⟩
 ·have hk1 : (kind == 1) = false := by rw [beq_eq_false_iff_ne]; exact hk
  have hne1 := hk
  clear hk
  by_cases hk : kind = 3
  ·subst hk
   have cz := c0
   clear c0
   clear hk1 hne1
   have cq := HQ.out
   have q3 := cq.cell (i := 3) rfl
   have q4 := cq.cell (i := 4) rfl
   have q5 := cq.cell (i := 5) rfl
   have q6 := cq.cell (i := 6) rfl
   have q7 := cq.cell (i := 7) rfl
   have qf := cq.free
   go_upto_region 10 with fail
   have hqn : Hid (Blk (((((w1.setCell ⟨q, 3, none⟩ (.int .i64 0)).setCell ⟨q, 4, none⟩ (.int .i64 0)).setCell ⟨q, 5, none⟩ (.int .i64 0)).setCell ⟨q, 6, none⟩ (.int .i64 0)).setCell ⟨q, 7, none⟩ (.int .i64 0)) q 66 [.int .i64 3, .string ⟨name.toArray⟩, .slice p n cap, .int .i64 0, .int .i64 0, .int .i64 0, .int .i64 0, .int .i64 0, .int .i64 pos]) := hid ((((((HQ.out.set 3 (.int .i64 0)).set 4 (.int .i64 0)).set 5 (.int .i64 0)).set 6 (.int .i64 0)).set 7 (.int .i64 0)).cast rfl)
   have K2 := hid (((((K1.out.other ⟨q, 3, none⟩ (.int .i64 0) HQB.out HQV.out).other ⟨q, 4, none⟩ (.int .i64 0) HQB.out HQV.out).other ⟨q, 5, none⟩ (.int .i64 0) HQB.out HQV.out).other ⟨q, 6, none⟩ (.int .i64 0) HQB.out HQV.out).other ⟨q, 7, none⟩ (.int .i64 0) HQB.out HQV.out); have R2 := hid (((((R1.out.store q 3 (.int .i64 0) HQ0.out).store q 4 (.int .i64 0) HQ0.out).store q 5 (.int .i64 0) HQ0.out).store q 6 (.int .i64 0) HQ0.out).store q 7 (.int .i64 0) HQ0.out)
   change Code.wp _ _ _ _ (((((w1.setCell ⟨q, 3, none⟩ (.int .i64 0)).setCell ⟨q, 4, none⟩ (.int .i64 0)).setCell ⟨q, 5, none⟩ (.int .i64 0)).setCell ⟨q, 6, none⟩ (.int .i64 0)).setCell ⟨q, 7, none⟩ (.int .i64 0))
   generalize (((((w1.setCell ⟨q, 3, none⟩ (.int .i64 0)).setCell ⟨q, 4, none⟩ (.int .i64 0)).setCell ⟨q, 5, none⟩ (.int .i64 0)).setCell ⟨q, 6, none⟩ (.int .i64 0)).setCell ⟨q, 7, none⟩ (.int .i64 0)) = w2 at *
   clear q3 q4 q5 q6 q7 qf cq HQ K1 R1
   have HQ := hqn
   clear hqn
   go_upto_region 10 with fail
   refine wp_region_any (by kernel_rfl) ?_
   have KA := hid K2.out.drew; have RA := hid R2.out.drew
   have hS0 : Blk w2.drew w.heap.size 66 [.int .i64 3, .string ⟨name.toArray⟩, .slice p n cap, .int .i64 num, .int .i64 rn, .int .i64 rd, .int .i64 sn, .int .i64 sd, .int .i64 pos] := HBK.out _ _ RA.out
   replace HQ : Hid (Blk w2.drew q 66 [.int .i64 3, .string ⟨name.toArray⟩, .slice p n cap, .int .i64 0, .int .i64 0, .int .i64 0, .int .i64 0, .int .i64 0, .int .i64 pos]) := hid HQ.out
   refine any_of_held (S := fun W => Blk W w.heap.size 66 [.int .i64 3, .string ⟨name.toArray⟩, .slice p n cap, .int .i64 num, .int .i64 rn, .int .i64 rd, .int .i64 sn, .int .i64 sd, .int .i64 pos]) (N := []) _ _ _ _ ?_
   change held _ _ _ _ _ _ _ _ _ w2.drew
   obtain ⟨wa, hwa⟩ : ∃ wa, w2.drew = wa := ⟨_, rfl⟩
   rw [hwa] at hS0 KA RA HQ ⊢
   clear hwa K2 R2
   refine held_take [] (i := 0) (v := .pointer (some ⟨b, 0, none⟩)) rfl (by kernel_rfl) (fun _ _ _ h => h) (Or.inl ⟨by rfl, fun w' hS => by go_simp⟩) hS0 ?_
   try simp only [Act.put, aA, aB, aC]
   refine held_take [] (i := 1) (v := .pointer (some ⟨b, 0, none⟩)) rfl (by kernel_rfl) (fun _ _ _ h => h) (Or.inl ⟨by rfl, fun w' hS => by go_simp⟩) hS0 ?_
   try simp only [Act.put, aA, aB, aC]
   refine held_take [] (i := 2) (v := .pointer (some ⟨b, 0, none⟩)) rfl (by kernel_rfl) (fun _ _ _ h => h) (Or.inl ⟨by rfl, fun w' hS => by go_simp⟩) hS0 ?_
   try simp only [Act.put, aA, aB, aC]
   refine held_take [] (i := 3) (v := .pointer (some ⟨w.heap.size, 3, none⟩)) rfl (by kernel_rfl) (fun _ _ _ h => h) (Or.inl ⟨by rfl, fun w' hS => by go_simp⟩) hS0 ?_
   try simp only [Act.put, aA, aB, aC]
   refine held_take [] (i := 4) (v := .int .i64 num) rfl (by kernel_rfl) (fun _ _ _ h => h) (Or.inl ⟨by rfl, fun w' hS => by have hc := hS.cell (i := 3) rfl; go_simp⟩) hS0 ?_
   try simp only [Act.put, aA, aB, aC]
   refine held_one (i := 5) rfl (by kernel_rfl) (fun K hK => ?_)
   go_simp
   refine hK.out _ _ (fun _ => hS0.alloc _) ?_
   clear hK K
   try simp only [Act.put, aA, aB, aC]
   refine held_one (i := 6) rfl (by kernel_rfl) (fun K hK => ?_)
   go_simp
   have HC := hid (numbers_new [num] (by intro z hz; rw [List.mem_singleton] at hz; subst hz; exact hn) (by simp) wa u0 _ KA.out (Nat.le_trans HB0.out RA.out.kp.size) (HEW.out _ _ RA.out))
   refine HC.out.mono ?_; rintro e w3 ⟨rfl, u3, k1, k2⟩
   have K3 := hid k1; have R3 := hid (RA.out.trans k2)
   have hqk := k2.kept HQ.out.lt HQB.out HQV.out
   replace HQ : Hid (Blk w3 q 66 [.int .i64 3, .string ⟨name.toArray⟩, .slice p n cap, .int .i64 0, .int .i64 0, .int .i64 0, .int .i64 0, .int .i64 0, .int .i64 pos]) := hid (hqk.1.trans HQ.out)
   replace HQV := hid hqk.2.1
   clear hqk
   refine hK.out _ _ (fun _ => HBK.out _ _ R3.out) ?_
   clear hK K k1 k2 HC KA RA hS0
   try simp only [Act.put, aA, aB, aC]
   refine held_done (by kernel_rfl) ?_ _
   have cb := HBK.out _ _ R3.out
   have e0 := cb.cell (i := 4) rfl
   have e1 := cb.cell (i := 5) rfl
   clear cb
   have HC := hid (ratioIf_any wFee (by decide) rn rd hr w3 u3 _ K3.out (Nat.le_trans HB0.out R3.out.kp.size) (HEW.out _ _ R3.out))
   go_wp2_with fail
   refine HC.out.mono ?_; rintro e w4 ⟨rfl, u4, k1, k2⟩
   have K4 := hid k1; have R4 := hid (R3.out.trans k2)
   have hqk := k2.kept HQ.out.lt HQB.out HQV.out
   replace HQ : Hid (Blk w4 q 66 [.int .i64 3, .string ⟨name.toArray⟩, .slice p n cap, .int .i64 0, .int .i64 0, .int .i64 0, .int .i64 0, .int .i64 0, .int .i64 pos]) := hid (hqk.1.trans HQ.out)
   replace HQV := hid hqk.2.1
   clear hqk
   clear k1 k2 HC K3 R3
   clear e0 e1
   have cb := HBK.out _ _ R4.out
   have e0 := cb.cell (i := 6) rfl
   have e1 := cb.cell (i := 7) rfl
   clear cb
   have HC := hid (ratioIf_any wTax (by decide) sn sd hs w4 u4 _ K4.out (Nat.le_trans HB0.out R4.out.kp.size) (HEW.out _ _ R4.out))
   go_wp2_with fail
   refine HC.out.mono ?_; rintro e w5 ⟨rfl, u5, k1, k2⟩
   have K5 := hid k1; have R5 := hid (R4.out.trans k2)
   have hqk := k2.kept HQ.out.lt HQB.out HQV.out
   replace HQ : Hid (Blk w5 q 66 [.int .i64 3, .string ⟨name.toArray⟩, .slice p n cap, .int .i64 0, .int .i64 0, .int .i64 0, .int .i64 0, .int .i64 0, .int .i64 pos]) := hid (hqk.1.trans HQ.out)
   replace HQV := hid hqk.2.1
   clear hqk
   clear k1 k2 HC K4 R4
   clear e0 e1
   have hy1 := ratio_eql 0 0 0 0 true rfl
   have hy2 := ratio_eql 0 0 0 0 true rfl
   have HE : Hid (termsS ⟨3, name, conds, num, ⟨rn, rd⟩, ⟨sn, sd⟩, pos⟩ s = requireS true (ratioIfS wTax ⟨sn, sd⟩ (ratioIfS wFee ⟨rn, rd⟩ (numbersS [num] s)))) := hid (rfl)
   have hb23 : Below w5.heap.size w5 (w5.alloc (.cells #[.int .i64 0, .int .i64 0] 64)) := (Below.refl _ _).alloc (Nat.le_refl _) _
   have z0 := (Blk.new w5 64 [.int .i64 0, .int .i64 0]).cell (i := 0) rfl
   have z1 := (Blk.new w5 64 [.int .i64 0, .int .i64 0]).cell (i := 1) rfl
   have cq := HQ.out.alloc (.cells #[.int .i64 0, .int .i64 0] 64)
   have q3 := cq.cell (i := 3) rfl
   have q4 := cq.cell (i := 4) rfl
   have q5 := cq.cell (i := 5) rfl
   have q6 := cq.cell (i := 6) rfl
   have q7 := cq.cell (i := 7) rfl
   have KB := hid (K5.out.later hb23); have RB : Hid (Wrote b w0 u0 _ u5) := hid (R5.out.trans ((Wrote.refl b _ u5).later hb23))
   have hg := fun (x y : Operand) (xs ys : Array Value) (W : World) => ratio_geql x y xs ys W
   go_upto_region 23 with fail
   obtain ⟨zb, hzb⟩ : ∃ zb, w5.heap.size = zb := ⟨_, rfl⟩
   rw [hzb] at z0 z1
   try rw [hzb]
   change Code.wp _ _ _ _ (w5.alloc (.cells #[.int .i64 0, .int .i64 0] 64))
   generalize w5.alloc (.cells #[.int .i64 0, .int .i64 0] 64) = wb at *
   clear cq hb23 HQ HQV K5 R5
   have HC := hid (require_s true wb.drew u5 _ KB.out.drew)
   go_still_tail 18, (by kernel_rfl)
   change wpList _ _ _ _ _ wb.drew
   refine wpList_plain rfl fun K hK => ?_
   go_simp
   refine HC.out.mono ?_; rintro e we ⟨rfl, ue, k1, k2⟩
   have KE := hid k1; have RE := hid (RB.out.drew.trans k2)
   clear k1 k2 HC
   refine hK _ _ ?_
   clear hK K
   unfold wpList
   go_wp2
   go_end0
   subst hu0
   exact ⟨rfl, ue, by rw [HE.out]; exact KE.out, HFIN.out _ _ RE.out⟩
  ·have hk3 : (kind == 3) = false := by rw [beq_eq_false_iff_ne]; exact hk
   have hne3 := hk
   clear hk
   by_cases hk : kind = 4
   ·subst hk
    have cz := c0
    clear c0
    clear hk1 hne1 hk3 hne3
    have cq := HQ.out
    have q4 := cq.cell (i := 4) rfl
    have q5 := cq.cell (i := 5) rfl
    have q6 := cq.cell (i := 6) rfl
    have q7 := cq.cell (i := 7) rfl
    have qf := cq.free
    go_upto_region 15 with fail
    have hqn : Hid (Blk ((((w1.setCell ⟨q, 4, none⟩ (.int .i64 0)).setCell ⟨q, 5, none⟩ (.int .i64 0)).setCell ⟨q, 6, none⟩ (.int .i64 0)).setCell ⟨q, 7, none⟩ (.int .i64 0)) q 66 [.int .i64 4, .string ⟨name.toArray⟩, .slice p n cap, .int .i64 num, .int .i64 0, .int .i64 0, .int .i64 0, .int .i64 0, .int .i64 pos]) := hid (((((HQ.out.set 4 (.int .i64 0)).set 5 (.int .i64 0)).set 6 (.int .i64 0)).set 7 (.int .i64 0)).cast rfl)
    have K2 := hid ((((K1.out.other ⟨q, 4, none⟩ (.int .i64 0) HQB.out HQV.out).other ⟨q, 5, none⟩ (.int .i64 0) HQB.out HQV.out).other ⟨q, 6, none⟩ (.int .i64 0) HQB.out HQV.out).other ⟨q, 7, none⟩ (.int .i64 0) HQB.out HQV.out); have R2 := hid ((((R1.out.store q 4 (.int .i64 0) HQ0.out).store q 5 (.int .i64 0) HQ0.out).store q 6 (.int .i64 0) HQ0.out).store q 7 (.int .i64 0) HQ0.out)
    change Code.wp _ _ _ _ ((((w1.setCell ⟨q, 4, none⟩ (.int .i64 0)).setCell ⟨q, 5, none⟩ (.int .i64 0)).setCell ⟨q, 6, none⟩ (.int .i64 0)).setCell ⟨q, 7, none⟩ (.int .i64 0))
    generalize ((((w1.setCell ⟨q, 4, none⟩ (.int .i64 0)).setCell ⟨q, 5, none⟩ (.int .i64 0)).setCell ⟨q, 6, none⟩ (.int .i64 0)).setCell ⟨q, 7, none⟩ (.int .i64 0)) = w2 at *
    clear q4 q5 q6 q7 qf cq HQ K1 R1
    have HQ := hqn
    clear hqn
    have HC := hid (word_any wCap (by decide) w2 u0 _ K2.out (Nat.le_trans HB0.out R2.out.kp.size))
    go_wp2_with fail
    refine HC.out.mono ?_; rintro e w3 ⟨rfl, u3, k1, k2⟩
    have K3 := hid k1; have R3 := hid (R2.out.trans k2)
    have hqk := k2.kept HQ.out.lt HQB.out HQV.out
    replace HQ : Hid (Blk w3 q 66 [.int .i64 4, .string ⟨name.toArray⟩, .slice p n cap, .int .i64 num, .int .i64 0, .int .i64 0, .int .i64 0, .int .i64 0, .int .i64 pos]) := hid (hqk.1.trans HQ.out)
    replace HQV := hid hqk.2.1
    clear hqk
    clear k1 k2 HC K2 R2
    have cb := HBK.out _ _ R3.out
    have e0 := cb.cell (i := 4) rfl
    have e1 := cb.cell (i := 5) rfl
    clear cb
    have HC := hid (ratio_any rn rd hr w3 u3 _ K3.out (Nat.le_trans HB0.out R3.out.kp.size) (HEW.out _ _ R3.out))
    go_wp2_with fail
    refine HC.out.mono ?_; rintro e w4 ⟨rfl, u4, k1, k2⟩
    have K4 := hid k1; have R4 := hid (R3.out.trans k2)
    have hqk := k2.kept HQ.out.lt HQB.out HQV.out
    replace HQ : Hid (Blk w4 q 66 [.int .i64 4, .string ⟨name.toArray⟩, .slice p n cap, .int .i64 num, .int .i64 0, .int .i64 0, .int .i64 0, .int .i64 0, .int .i64 pos]) := hid (hqk.1.trans HQ.out)
    replace HQV := hid hqk.2.1
    clear hqk
    clear k1 k2 HC K3 R3
    clear e0 e1
    have HC := hid (word_any wShare (by decide) w4 u4 _ K4.out (Nat.le_trans HB0.out R4.out.kp.size))
    go_wp2_with fail
    refine HC.out.mono ?_; rintro e w5 ⟨rfl, u5, k1, k2⟩
    have K5 := hid k1; have R5 := hid (R4.out.trans k2)
    have hqk := k2.kept HQ.out.lt HQB.out HQV.out
    replace HQ : Hid (Blk w5 q 66 [.int .i64 4, .string ⟨name.toArray⟩, .slice p n cap, .int .i64 num, .int .i64 0, .int .i64 0, .int .i64 0, .int .i64 0, .int .i64 pos]) := hid (hqk.1.trans HQ.out)
    replace HQV := hid hqk.2.1
    clear hqk
    clear k1 k2 HC K4 R4
    have cb := HBK.out _ _ R5.out
    have e0 := cb.cell (i := 6) rfl
    have e1 := cb.cell (i := 7) rfl
    clear cb
    have HC := hid (ratio_any sn sd hs w5 u5 _ K5.out (Nat.le_trans HB0.out R5.out.kp.size) (HEW.out _ _ R5.out))
    go_wp2_with fail
    refine HC.out.mono ?_; rintro e w6 ⟨rfl, u6, k1, k2⟩
    have K6 := hid k1; have R6 := hid (R5.out.trans k2)
    have hqk := k2.kept HQ.out.lt HQB.out HQV.out
    replace HQ : Hid (Blk w6 q 66 [.int .i64 4, .string ⟨name.toArray⟩, .slice p n cap, .int .i64 num, .int .i64 0, .int .i64 0, .int .i64 0, .int .i64 0, .int .i64 pos]) := hid (hqk.1.trans HQ.out)
    replace HQV := hid hqk.2.1
    clear hqk
    clear k1 k2 HC K5 R5
    clear e0 e1
    by_cases hN : num = 0
    ·have hn0 : (num == 0) = true := by simp [hN]
     have hy1 := ratio_eql 0 0 0 0 true rfl
     have hy2 := ratio_eql 0 0 0 0 true rfl
     have HE : Hid (termsS ⟨4, name, conds, num, ⟨rn, rd⟩, ⟨sn, sd⟩, pos⟩ s = requireS true (ratioS ⟨sn, sd⟩ (wordS wShare (ratioS ⟨rn, rd⟩ (wordS wCap s))))) := hid (by show requireS (decide (num = 0)) _ = _; rw [decide_eq_true hN]; try rfl)
     have hb23 : Below w6.heap.size w6 (w6.alloc (.cells #[.int .i64 0, .int .i64 0] 64)) := (Below.refl _ _).alloc (Nat.le_refl _) _
     have z0 := (Blk.new w6 64 [.int .i64 0, .int .i64 0]).cell (i := 0) rfl
     have z1 := (Blk.new w6 64 [.int .i64 0, .int .i64 0]).cell (i := 1) rfl
     have cq := HQ.out.alloc (.cells #[.int .i64 0, .int .i64 0] 64)
     have q3 := cq.cell (i := 3) rfl
     have q4 := cq.cell (i := 4) rfl
     have q5 := cq.cell (i := 5) rfl
     have q6 := cq.cell (i := 6) rfl
     have q7 := cq.cell (i := 7) rfl
     have KB := hid (K6.out.later hb23); have RB : Hid (Wrote b w0 u0 _ u6) := hid (R6.out.trans ((Wrote.refl b _ u6).later hb23))
     have hg := fun (x y : Operand) (xs ys : Array Value) (W : World) => ratio_geql x y xs ys W
     go_upto_region 23 with fail
     obtain ⟨zb, hzb⟩ : ∃ zb, w6.heap.size = zb := ⟨_, rfl⟩
     rw [hzb] at z0 z1
     try rw [hzb]
     change Code.wp _ _ _ _ (w6.alloc (.cells #[.int .i64 0, .int .i64 0] 64))
     generalize w6.alloc (.cells #[.int .i64 0, .int .i64 0] 64) = wb at *
     clear cq hb23 HQ HQV K6 R6
     have HC := hid (require_s true wb.drew u6 _ KB.out.drew)
     go_still_tail 18, (by kernel_rfl)
     change wpList _ _ _ _ _ wb.drew
     refine wpList_plain rfl fun K hK => ?_
     go_simp
     refine HC.out.mono ?_; rintro e we ⟨rfl, ue, k1, k2⟩
     have KE := hid k1; have RE := hid (RB.out.drew.trans k2)
     clear k1 k2 HC
     refine hK _ _ ?_
     clear hK K
     unfold wpList
     go_wp2
     go_end0
     subst hu0
     exact ⟨rfl, ue, by rw [HE.out]; exact KE.out, HFIN.out _ _ RE.out⟩
    ·have hn0 : (num == 0) = false := by rw [beq_eq_false_iff_ne]; exact hN
     have HE : Hid (termsS ⟨4, name, conds, num, ⟨rn, rd⟩, ⟨sn, sd⟩, pos⟩ s = requireS false (ratioS ⟨sn, sd⟩ (wordS wShare (ratioS ⟨rn, rd⟩ (wordS wCap s))))) := hid (by show requireS (decide (num = 0)) _ = _; rw [decide_eq_false hN]; try rfl)
     have hb23 : Below w6.heap.size w6 (w6.alloc (.cells #[.int .i64 0, .int .i64 0] 64)) := (Below.refl _ _).alloc (Nat.le_refl _) _
     have z0 := (Blk.new w6 64 [.int .i64 0, .int .i64 0]).cell (i := 0) rfl
     have z1 := (Blk.new w6 64 [.int .i64 0, .int .i64 0]).cell (i := 1) rfl
     have cq := HQ.out.alloc (.cells #[.int .i64 0, .int .i64 0] 64)
     have q3 := cq.cell (i := 3) rfl
     have q4 := cq.cell (i := 4) rfl
     have q5 := cq.cell (i := 5) rfl
     have q6 := cq.cell (i := 6) rfl
     have q7 := cq.cell (i := 7) rfl
     have KB := hid (K6.out.later hb23); have RB : Hid (Wrote b w0 u0 _ u6) := hid (R6.out.trans ((Wrote.refl b _ u6).later hb23))
     have hg := fun (x y : Operand) (xs ys : Array Value) (W : World) => ratio_geql x y xs ys W
     go_upto_region 23 with fail
     obtain ⟨zb, hzb⟩ : ∃ zb, w6.heap.size = zb := ⟨_, rfl⟩
     rw [hzb] at z0 z1
     try rw [hzb]
     change Code.wp _ _ _ _ (w6.alloc (.cells #[.int .i64 0, .int .i64 0] 64))
     generalize w6.alloc (.cells #[.int .i64 0, .int .i64 0] 64) = wb at *
     clear cq hb23 HQ HQV K6 R6
     have HC := hid (require_s false wb.drew u6 _ KB.out.drew)
     go_still_tail 18, (by kernel_rfl)
     change wpList _ _ _ _ _ wb.drew
     refine wpList_plain rfl fun K hK => ?_
     go_simp
     refine HC.out.mono ?_; rintro e we ⟨rfl, ue, k1, k2⟩
     have KE := hid k1; have RE := hid (RB.out.drew.trans k2)
     clear k1 k2 HC
     refine hK _ _ ?_
     clear hK K
     unfold wpList
     go_wp2
     go_end0
     subst hu0
     exact ⟨rfl, ue, by rw [HE.out]; exact KE.out, HFIN.out _ _ RE.out⟩
   ·have hk4 : (kind == 4) = false := by rw [beq_eq_false_iff_ne]; exact hk
    have hne4 := hk
    clear hk
    by_cases hk : kind = 5
    ·subst hk
     have cz := c0
     clear c0
     clear hk1 hne1 hk3 hne3 hk4 hne4
     have cq := HQ.out
     have q4 := cq.cell (i := 4) rfl
     have q5 := cq.cell (i := 5) rfl
     have qf := cq.free
     go_upto_region 21 with fail
     have hqn : Hid (Blk ((w1.setCell ⟨q, 4, none⟩ (.int .i64 0)).setCell ⟨q, 5, none⟩ (.int .i64 0)) q 66 [.int .i64 5, .string ⟨name.toArray⟩, .slice p n cap, .int .i64 num, .int .i64 0, .int .i64 0, .int .i64 sn, .int .i64 sd, .int .i64 pos]) := hid (((HQ.out.set 4 (.int .i64 0)).set 5 (.int .i64 0)).cast rfl)
     have K2 := hid ((K1.out.other ⟨q, 4, none⟩ (.int .i64 0) HQB.out HQV.out).other ⟨q, 5, none⟩ (.int .i64 0) HQB.out HQV.out); have R2 := hid ((R1.out.store q 4 (.int .i64 0) HQ0.out).store q 5 (.int .i64 0) HQ0.out)
     change Code.wp _ _ _ _ ((w1.setCell ⟨q, 4, none⟩ (.int .i64 0)).setCell ⟨q, 5, none⟩ (.int .i64 0))
     generalize ((w1.setCell ⟨q, 4, none⟩ (.int .i64 0)).setCell ⟨q, 5, none⟩ (.int .i64 0)) = w2 at *
     clear q4 q5 qf cq HQ K1 R1
     have HQ := hqn
     clear hqn
     have cb := HBK.out _ _ R2.out
     have e0 := cb.cell (i := 4) rfl
     have e1 := cb.cell (i := 5) rfl
     clear cb
     have HC := hid (ratio_any rn rd hr w2 u0 _ K2.out (Nat.le_trans HB0.out R2.out.kp.size) (HEW.out _ _ R2.out))
     go_wp2_with fail
     refine HC.out.mono ?_; rintro e w3 ⟨rfl, u3, k1, k2⟩
     have K3 := hid k1; have R3 := hid (R2.out.trans k2)
     have hqk := k2.kept HQ.out.lt HQB.out HQV.out
     replace HQ : Hid (Blk w3 q 66 [.int .i64 5, .string ⟨name.toArray⟩, .slice p n cap, .int .i64 num, .int .i64 0, .int .i64 0, .int .i64 sn, .int .i64 sd, .int .i64 pos]) := hid (hqk.1.trans HQ.out)
     replace HQV := hid hqk.2.1
     clear hqk
     clear k1 k2 HC K2 R2
     clear e0 e1
     by_cases hN : num = 0
     ·have hn0 : (num == 0) = true := by simp [hN]
      have hy1 := ratio_eql 0 0 0 0 true rfl
      by_cases hS : sn = 0 ∧ sd = 0
      ·have hy2 := ratio_eql sn sd 0 0 true (by simp [hS])
       have hdS : decide ((⟨sn, sd⟩ : RatioZ) = none0) = true := by rw [hS.1, hS.2]; rfl
       have HE : Hid (termsS ⟨5, name, conds, num, ⟨rn, rd⟩, ⟨sn, sd⟩, pos⟩ s = requireS true (ratioS ⟨rn, rd⟩ s)) := hid (by show requireS (decide (num = 0) && decide ((⟨sn, sd⟩ : RatioZ) = none0)) _ = _; rw [decide_eq_true hN, hdS]; try rfl)
       have hb23 : Below w3.heap.size w3 (w3.alloc (.cells #[.int .i64 0, .int .i64 0] 64)) := (Below.refl _ _).alloc (Nat.le_refl _) _
       have z0 := (Blk.new w3 64 [.int .i64 0, .int .i64 0]).cell (i := 0) rfl
       have z1 := (Blk.new w3 64 [.int .i64 0, .int .i64 0]).cell (i := 1) rfl
       have cq := HQ.out.alloc (.cells #[.int .i64 0, .int .i64 0] 64)
       have q3 := cq.cell (i := 3) rfl
       have q4 := cq.cell (i := 4) rfl
       have q5 := cq.cell (i := 5) rfl
       have q6 := cq.cell (i := 6) rfl
       have q7 := cq.cell (i := 7) rfl
       have KB := hid (K3.out.later hb23); have RB : Hid (Wrote b w0 u0 _ u3) := hid (R3.out.trans ((Wrote.refl b _ u3).later hb23))
       have hg := fun (x y : Operand) (xs ys : Array Value) (W : World) => ratio_geql x y xs ys W
       go_upto_region 23 with fail
       obtain ⟨zb, hzb⟩ : ∃ zb, w3.heap.size = zb := ⟨_, rfl⟩
       rw [hzb] at z0 z1
       try rw [hzb]
       change Code.wp _ _ _ _ (w3.alloc (.cells #[.int .i64 0, .int .i64 0] 64))
       generalize w3.alloc (.cells #[.int .i64 0, .int .i64 0] 64) = wb at *
       clear cq hb23 HQ HQV K3 R3
       have HC := hid (require_s true wb.drew u3 _ KB.out.drew)
       go_still_tail 18, (by kernel_rfl)
       change wpList _ _ _ _ _ wb.drew
       refine wpList_plain rfl fun K hK => ?_
       go_simp
       refine HC.out.mono ?_; rintro e we ⟨rfl, ue, k1, k2⟩
       have KE := hid k1; have RE := hid (RB.out.drew.trans k2)
       clear k1 k2 HC
       refine hK _ _ ?_
       clear hK K
       unfold wpList
       go_wp2
       go_end0
       subst hu0
       exact ⟨rfl, ue, by rw [HE.out]; exact KE.out, HFIN.out _ _ RE.out⟩
      ·have hy2 := ratio_eql sn sd 0 0 false (decide_eq_false hS)
       have hdS : decide ((⟨sn, sd⟩ : RatioZ) = none0) = false := decide_eq_false fun e => hS (by injection e with e1 e2; exact ⟨e1, e2⟩)
       have HE : Hid (termsS ⟨5, name, conds, num, ⟨rn, rd⟩, ⟨sn, sd⟩, pos⟩ s = requireS false (ratioS ⟨rn, rd⟩ s)) := hid (by show requireS (decide (num = 0) && decide ((⟨sn, sd⟩ : RatioZ) = none0)) _ = _; rw [decide_eq_true hN, hdS]; try rfl)
       have hb23 : Below w3.heap.size w3 (w3.alloc (.cells #[.int .i64 0, .int .i64 0] 64)) := (Below.refl _ _).alloc (Nat.le_refl _) _
       have z0 := (Blk.new w3 64 [.int .i64 0, .int .i64 0]).cell (i := 0) rfl
       have z1 := (Blk.new w3 64 [.int .i64 0, .int .i64 0]).cell (i := 1) rfl
       have cq := HQ.out.alloc (.cells #[.int .i64 0, .int .i64 0] 64)
       have q3 := cq.cell (i := 3) rfl
       have q4 := cq.cell (i := 4) rfl
       have q5 := cq.cell (i := 5) rfl
       have q6 := cq.cell (i := 6) rfl
       have q7 := cq.cell (i := 7) rfl
       have KB := hid (K3.out.later hb23); have RB : Hid (Wrote b w0 u0 _ u3) := hid (R3.out.trans ((Wrote.refl b _ u3).later hb23))
       have hg := fun (x y : Operand) (xs ys : Array Value) (W : World) => ratio_geql x y xs ys W
       go_upto_region 23 with fail
       obtain ⟨zb, hzb⟩ : ∃ zb, w3.heap.size = zb := ⟨_, rfl⟩
       rw [hzb] at z0 z1
       try rw [hzb]
       change Code.wp _ _ _ _ (w3.alloc (.cells #[.int .i64 0, .int .i64 0] 64))
       generalize w3.alloc (.cells #[.int .i64 0, .int .i64 0] 64) = wb at *
       clear cq hb23 HQ HQV K3 R3
       have HC := hid (require_s false wb.drew u3 _ KB.out.drew)
       go_still_tail 18, (by kernel_rfl)
       change wpList _ _ _ _ _ wb.drew
       refine wpList_plain rfl fun K hK => ?_
       go_simp
       refine HC.out.mono ?_; rintro e we ⟨rfl, ue, k1, k2⟩
       have KE := hid k1; have RE := hid (RB.out.drew.trans k2)
       clear k1 k2 HC
       refine hK _ _ ?_
       clear hK K
       unfold wpList
       go_wp2
       go_end0
       subst hu0
       exact ⟨rfl, ue, by rw [HE.out]; exact KE.out, HFIN.out _ _ RE.out⟩
     ·have hn0 : (num == 0) = false := by rw [beq_eq_false_iff_ne]; exact hN
      have HE : Hid (termsS ⟨5, name, conds, num, ⟨rn, rd⟩, ⟨sn, sd⟩, pos⟩ s = requireS false (ratioS ⟨rn, rd⟩ s)) := hid (by show requireS (decide (num = 0) && decide ((⟨sn, sd⟩ : RatioZ) = none0)) _ = _; rw [decide_eq_false hN]; try rfl)
      have hb23 : Below w3.heap.size w3 (w3.alloc (.cells #[.int .i64 0, .int .i64 0] 64)) := (Below.refl _ _).alloc (Nat.le_refl _) _
      have z0 := (Blk.new w3 64 [.int .i64 0, .int .i64 0]).cell (i := 0) rfl
      have z1 := (Blk.new w3 64 [.int .i64 0, .int .i64 0]).cell (i := 1) rfl
      have cq := HQ.out.alloc (.cells #[.int .i64 0, .int .i64 0] 64)
      have q3 := cq.cell (i := 3) rfl
      have q4 := cq.cell (i := 4) rfl
      have q5 := cq.cell (i := 5) rfl
      have q6 := cq.cell (i := 6) rfl
      have q7 := cq.cell (i := 7) rfl
      have KB := hid (K3.out.later hb23); have RB : Hid (Wrote b w0 u0 _ u3) := hid (R3.out.trans ((Wrote.refl b _ u3).later hb23))
      have hg := fun (x y : Operand) (xs ys : Array Value) (W : World) => ratio_geql x y xs ys W
      go_upto_region 23 with fail
      obtain ⟨zb, hzb⟩ : ∃ zb, w3.heap.size = zb := ⟨_, rfl⟩
      rw [hzb] at z0 z1
      try rw [hzb]
      change Code.wp _ _ _ _ (w3.alloc (.cells #[.int .i64 0, .int .i64 0] 64))
      generalize w3.alloc (.cells #[.int .i64 0, .int .i64 0] 64) = wb at *
      clear cq hb23 HQ HQV K3 R3
      have HC := hid (require_s false wb.drew u3 _ KB.out.drew)
      go_still_tail 18, (by kernel_rfl)
      change wpList _ _ _ _ _ wb.drew
      refine wpList_plain rfl fun K hK => ?_
      go_simp
      refine HC.out.mono ?_; rintro e we ⟨rfl, ue, k1, k2⟩
      have KE := hid k1; have RE := hid (RB.out.drew.trans k2)
      clear k1 k2 HC
      refine hK _ _ ?_
      clear hK K
      unfold wpList
      go_wp2
      go_end0
      subst hu0
      exact ⟨rfl, ue, by rw [HE.out]; exact KE.out, HFIN.out _ _ RE.out⟩
    ·have hk5 : (kind == 5) = false := by rw [beq_eq_false_iff_ne]; exact hk
     have hne5 := hk
     clear hk
     by_cases hN : num = 0
     ·have hn0 : (num == 0) = true := by simp [hN]
      by_cases hR : rn = 0 ∧ rd = 0
      ·have hy1 := ratio_eql rn rd 0 0 true (by simp [hR])
       have hdR : decide ((⟨rn, rd⟩ : RatioZ) = none0) = true := by rw [hR.1, hR.2]; rfl
       by_cases hS : sn = 0 ∧ sd = 0
       ·have hy2 := ratio_eql sn sd 0 0 true (by simp [hS])
        have hdS : decide ((⟨sn, sd⟩ : RatioZ) = none0) = true := by rw [hS.1, hS.2]; rfl
        have HE : Hid (termsS ⟨kind, name, conds, num, ⟨rn, rd⟩, ⟨sn, sd⟩, pos⟩ s = requireS true (s)) := hid (by unfold termsS; simp only [hne1, hne3, hne4, hne5, if_false]; rw [decide_eq_true hN, hdR, hdS]; try rfl)
        have hb23 : Below w1.heap.size w1 (w1.alloc (.cells #[.int .i64 0, .int .i64 0] 64)) := (Below.refl _ _).alloc (Nat.le_refl _) _
        have z0 := (Blk.new w1 64 [.int .i64 0, .int .i64 0]).cell (i := 0) rfl
        have z1 := (Blk.new w1 64 [.int .i64 0, .int .i64 0]).cell (i := 1) rfl
        have cq := HQ.out.alloc (.cells #[.int .i64 0, .int .i64 0] 64)
        have q3 := cq.cell (i := 3) rfl
        have q4 := cq.cell (i := 4) rfl
        have q5 := cq.cell (i := 5) rfl
        have q6 := cq.cell (i := 6) rfl
        have q7 := cq.cell (i := 7) rfl
        have KB := hid (K1.out.later hb23); have RB : Hid (Wrote b w0 u0 _ u0) := hid (R1.out.trans ((Wrote.refl b _ u0).later hb23))
        have hg := fun (x y : Operand) (xs ys : Array Value) (W : World) => ratio_geql x y xs ys W
        go_upto_region 23 with fail
        obtain ⟨zb, hzb⟩ : ∃ zb, w1.heap.size = zb := ⟨_, rfl⟩
        rw [hzb] at z0 z1
        try rw [hzb]
        change Code.wp _ _ _ _ (w1.alloc (.cells #[.int .i64 0, .int .i64 0] 64))
        generalize w1.alloc (.cells #[.int .i64 0, .int .i64 0] 64) = wb at *
        clear cq hb23 HQ HQV K1 R1
        have HC := hid (require_s true wb.drew u0 _ KB.out.drew)
        go_still_tail 18, (by kernel_rfl)
        change wpList _ _ _ _ _ wb.drew
        refine wpList_plain rfl fun K hK => ?_
        go_simp
        refine HC.out.mono ?_; rintro e we ⟨rfl, ue, k1, k2⟩
        have KE := hid k1; have RE := hid (RB.out.drew.trans k2)
        clear k1 k2 HC
        refine hK _ _ ?_
        clear hK K
        unfold wpList
        go_wp2
        go_end0
        subst hu0
        exact ⟨rfl, ue, by rw [HE.out]; exact KE.out, HFIN.out _ _ RE.out⟩
       ·have hy2 := ratio_eql sn sd 0 0 false (decide_eq_false hS)
        have hdS : decide ((⟨sn, sd⟩ : RatioZ) = none0) = false := decide_eq_false fun e => hS (by injection e with e1 e2; exact ⟨e1, e2⟩)
        have HE : Hid (termsS ⟨kind, name, conds, num, ⟨rn, rd⟩, ⟨sn, sd⟩, pos⟩ s = requireS false (s)) := hid (by unfold termsS; simp only [hne1, hne3, hne4, hne5, if_false]; rw [decide_eq_true hN, hdR, hdS]; try rfl)
        have hb23 : Below w1.heap.size w1 (w1.alloc (.cells #[.int .i64 0, .int .i64 0] 64)) := (Below.refl _ _).alloc (Nat.le_refl _) _
        have z0 := (Blk.new w1 64 [.int .i64 0, .int .i64 0]).cell (i := 0) rfl
        have z1 := (Blk.new w1 64 [.int .i64 0, .int .i64 0]).cell (i := 1) rfl
        have cq := HQ.out.alloc (.cells #[.int .i64 0, .int .i64 0] 64)
        have q3 := cq.cell (i := 3) rfl
        have q4 := cq.cell (i := 4) rfl
        have q5 := cq.cell (i := 5) rfl
        have q6 := cq.cell (i := 6) rfl
        have q7 := cq.cell (i := 7) rfl
        have KB := hid (K1.out.later hb23); have RB : Hid (Wrote b w0 u0 _ u0) := hid (R1.out.trans ((Wrote.refl b _ u0).later hb23))
        have hg := fun (x y : Operand) (xs ys : Array Value) (W : World) => ratio_geql x y xs ys W
        go_upto_region 23 with fail
        obtain ⟨zb, hzb⟩ : ∃ zb, w1.heap.size = zb := ⟨_, rfl⟩
        rw [hzb] at z0 z1
        try rw [hzb]
        change Code.wp _ _ _ _ (w1.alloc (.cells #[.int .i64 0, .int .i64 0] 64))
        generalize w1.alloc (.cells #[.int .i64 0, .int .i64 0] 64) = wb at *
        clear cq hb23 HQ HQV K1 R1
        have HC := hid (require_s false wb.drew u0 _ KB.out.drew)
        go_still_tail 18, (by kernel_rfl)
        change wpList _ _ _ _ _ wb.drew
        refine wpList_plain rfl fun K hK => ?_
        go_simp
        refine HC.out.mono ?_; rintro e we ⟨rfl, ue, k1, k2⟩
        have KE := hid k1; have RE := hid (RB.out.drew.trans k2)
        clear k1 k2 HC
        refine hK _ _ ?_
        clear hK K
        unfold wpList
        go_wp2
        go_end0
        subst hu0
        exact ⟨rfl, ue, by rw [HE.out]; exact KE.out, HFIN.out _ _ RE.out⟩
      ·have hy1 := ratio_eql rn rd 0 0 false (decide_eq_false hR)
       have hdR : decide ((⟨rn, rd⟩ : RatioZ) = none0) = false := decide_eq_false fun e => hR (by injection e with e1 e2; exact ⟨e1, e2⟩)
       have HE : Hid (termsS ⟨kind, name, conds, num, ⟨rn, rd⟩, ⟨sn, sd⟩, pos⟩ s = requireS false (s)) := hid (by unfold termsS; simp only [hne1, hne3, hne4, hne5, if_false]; rw [decide_eq_true hN, hdR]; try rfl)
       have hb23 : Below w1.heap.size w1 (w1.alloc (.cells #[.int .i64 0, .int .i64 0] 64)) := (Below.refl _ _).alloc (Nat.le_refl _) _
       have z0 := (Blk.new w1 64 [.int .i64 0, .int .i64 0]).cell (i := 0) rfl
       have z1 := (Blk.new w1 64 [.int .i64 0, .int .i64 0]).cell (i := 1) rfl
       have cq := HQ.out.alloc (.cells #[.int .i64 0, .int .i64 0] 64)
       have q3 := cq.cell (i := 3) rfl
       have q4 := cq.cell (i := 4) rfl
       have q5 := cq.cell (i := 5) rfl
       have q6 := cq.cell (i := 6) rfl
       have q7 := cq.cell (i := 7) rfl
       have KB := hid (K1.out.later hb23); have RB : Hid (Wrote b w0 u0 _ u0) := hid (R1.out.trans ((Wrote.refl b _ u0).later hb23))
       have hg := fun (x y : Operand) (xs ys : Array Value) (W : World) => ratio_geql x y xs ys W
       go_upto_region 23 with fail
       obtain ⟨zb, hzb⟩ : ∃ zb, w1.heap.size = zb := ⟨_, rfl⟩
       rw [hzb] at z0 z1
       try rw [hzb]
       change Code.wp _ _ _ _ (w1.alloc (.cells #[.int .i64 0, .int .i64 0] 64))
       generalize w1.alloc (.cells #[.int .i64 0, .int .i64 0] 64) = wb at *
       clear cq hb23 HQ HQV K1 R1
       have HC := hid (require_s false wb.drew u0 _ KB.out.drew)
       go_still_tail 18, (by kernel_rfl)
       change wpList _ _ _ _ _ wb.drew
       refine wpList_plain rfl fun K hK => ?_
       go_simp
       refine HC.out.mono ?_; rintro e we ⟨rfl, ue, k1, k2⟩
       have KE := hid k1; have RE := hid (RB.out.drew.trans k2)
       clear k1 k2 HC
       refine hK _ _ ?_
       clear hK K
       unfold wpList
       go_wp2
       go_end0
       subst hu0
       exact ⟨rfl, ue, by rw [HE.out]; exact KE.out, HFIN.out _ _ RE.out⟩
     ·have hn0 : (num == 0) = false := by rw [beq_eq_false_iff_ne]; exact hN
      have HE : Hid (termsS ⟨kind, name, conds, num, ⟨rn, rd⟩, ⟨sn, sd⟩, pos⟩ s = requireS false (s)) := hid (by unfold termsS; simp only [hne1, hne3, hne4, hne5, if_false]; rw [decide_eq_false hN]; try rfl)
      have hb23 : Below w1.heap.size w1 (w1.alloc (.cells #[.int .i64 0, .int .i64 0] 64)) := (Below.refl _ _).alloc (Nat.le_refl _) _
      have z0 := (Blk.new w1 64 [.int .i64 0, .int .i64 0]).cell (i := 0) rfl
      have z1 := (Blk.new w1 64 [.int .i64 0, .int .i64 0]).cell (i := 1) rfl
      have cq := HQ.out.alloc (.cells #[.int .i64 0, .int .i64 0] 64)
      have q3 := cq.cell (i := 3) rfl
      have q4 := cq.cell (i := 4) rfl
      have q5 := cq.cell (i := 5) rfl
      have q6 := cq.cell (i := 6) rfl
      have q7 := cq.cell (i := 7) rfl
      have KB := hid (K1.out.later hb23); have RB : Hid (Wrote b w0 u0 _ u0) := hid (R1.out.trans ((Wrote.refl b _ u0).later hb23))
      have hg := fun (x y : Operand) (xs ys : Array Value) (W : World) => ratio_geql x y xs ys W
      go_upto_region 23 with fail
      obtain ⟨zb, hzb⟩ : ∃ zb, w1.heap.size = zb := ⟨_, rfl⟩
      rw [hzb] at z0 z1
      try rw [hzb]
      change Code.wp _ _ _ _ (w1.alloc (.cells #[.int .i64 0, .int .i64 0] 64))
      generalize w1.alloc (.cells #[.int .i64 0, .int .i64 0] 64) = wb at *
      clear cq hb23 HQ HQV K1 R1
      have HC := hid (require_s false wb.drew u0 _ KB.out.drew)
      go_still_tail 18, (by kernel_rfl)
      change wpList _ _ _ _ _ wb.drew
      refine wpList_plain rfl fun K hK => ?_
      go_simp
      refine HC.out.mono ?_; rintro e we ⟨rfl, ue, k1, k2⟩
      have KE := hid k1; have RE := hid (RB.out.drew.trans k2)
      clear k1 k2 HC
      refine hK _ _ ?_
      clear hK K
      unfold wpList
      go_wp2
      go_end0
      subst hu0
      exact ⟨rfl, ue, by rw [HE.out]; exact KE.out, HFIN.out _ _ RE.out⟩
end Go.Proofs.YtilfpnkcgjonhaaGreatDoor.Pr
