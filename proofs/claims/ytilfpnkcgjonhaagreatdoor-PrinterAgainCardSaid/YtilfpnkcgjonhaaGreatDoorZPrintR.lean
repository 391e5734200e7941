/-
  The walks of rules, one by one.
  The walks of rules.
  The walk of printer.Rules.
-/
import Derived.Test.YtilfpnkcgjonhaaGreatDoorZTermsM
import Derived.Test.YtilfpnkcgjonhaaGreatDoorZPrintH
namespace Go.Proofs.YtilfpnkcgjonhaaGreatDoor.Pr
open Go.RowKit Go.Sort Foyer.Printer Foyer.Lexer Foyer.Round
set_option linter.unusedSimpArgs false in
set_option maxRecDepth 100000 in
set_option maxHeartbeats 4000000 in
theorem item_any {B b : Nat} {T : TypeId} (kind : Int) (name : List UInt8) (conds : List (List TestZ)) (p : Option Addr) (n cap : Nat) (num rn rd sn sd pos : Int) (hx : ItemZ.Fit ⟨kind, name, conds, num, ⟨rn, rd⟩, ⟨sn, sd⟩, pos⟩) (w : World) (v : Value) (s : St) (h : WR B b T w v s) (hB : B ≤ w.heap.size) (hE : EnvAt B w) (hm : Lk testsL w B (.slice p n cap) conds) :
  Calls Tryz.prog 51 #[.pointer (some ⟨b, 0, none⟩), .agg #[.int .i64 kind, .string ⟨name.toArray⟩, .slice p n cap, .int .i64 num, .int .i64 rn, .int .i64 rd, .int .i64 sn, .int .i64 sd, .int .i64 pos]] w fun e w' => e = .returned (.tuple #[]) ∧ Step B b T w v (itemS ⟨kind, name, conds, num, ⟨rn, rd⟩, ⟨sn, sd⟩, pos⟩ s) w' := by
 have hb0 : Below w.heap.size w (w.alloc (.cells #[.int .i64 kind, .string ⟨name.toArray⟩, .slice p n cap, .int .i64 num, .int .i64 rn, .int .i64 rd, .int .i64 sn, .int .i64 sd, .int .i64 pos] 66)) := (Below.refl _ _).alloc (Nat.le_refl _) _
 have hR : Wrote b w v (w.alloc (.cells #[.int .i64 kind, .string ⟨name.toArray⟩, .slice p n cap, .int .i64 num, .int .i64 rn, .int .i64 rd, .int .i64 sn, .int .i64 sd, .int .i64 pos] 66)) v := (Wrote.refl b _ v).later hb0
 have HBK : Hid (∀ w' v', Wrote b (w.alloc (.cells #[.int .i64 kind, .string ⟨name.toArray⟩, .slice p n cap, .int .i64 num, .int .i64 rn, .int .i64 rd, .int .i64 sn, .int .i64 sd, .int .i64 pos] 66)) v w' v' → Blk w' w.heap.size 66 [.int .i64 kind, .string ⟨name.toArray⟩, .slice p n cap, .int .i64 num, .int .i64 rn, .int .i64 rd, .int .i64 sn, .int .i64 sd, .int .i64 pos]) := hid fun w' v' k => (k.kept (k := w.heap.size) (by simp) (by have := h.lt; omega) (fun e => by have := (h.vlow e).2; omega)).1.trans (Blk.new w 66 [.int .i64 kind, .string ⟨name.toArray⟩, .slice p n cap, .int .i64 num, .int .i64 rn, .int .i64 rd, .int .i64 sn, .int .i64 sd, .int .i64 pos])
 have HB0 : Hid (B ≤ (w.alloc (.cells #[.int .i64 kind, .string ⟨name.toArray⟩, .slice p n cap, .int .i64 num, .int .i64 rn, .int .i64 rd, .int .i64 sn, .int .i64 sd, .int .i64 pos] 66)).heap.size) := hid (by simp; omega)
 have HEW : Hid (∀ w' v', Wrote b (w.alloc (.cells #[.int .i64 kind, .string ⟨name.toArray⟩, .slice p n cap, .int .i64 num, .int .i64 rn, .int .i64 rd, .int .i64 sn, .int .i64 sd, .int .i64 pos] 66)) v w' v' → EnvAt B w') := hid fun w' v' k => hE.below ((hb0.mono hB).trans ((h.later hb0).wrote (by simp; omega) k))
 have HIN : Hid (∀ w' v', Wrote b (w.alloc (.cells #[.int .i64 kind, .string ⟨name.toArray⟩, .slice p n cap, .int .i64 num, .int .i64 rn, .int .i64 rd, .int .i64 sn, .int .i64 sd, .int .i64 pos] 66)) v w' v' → Below B w w') := hid fun w' v' k => (hb0.mono hB).trans ((h.later hb0).wrote (by simp; omega) k)
 have K0 := hid (h.later hb0)
 have HFIN : Hid (∀ w' v', Wrote b (w.alloc (.cells #[.int .i64 kind, .string ⟨name.toArray⟩, .slice p n cap, .int .i64 num, .int .i64 rn, .int .i64 rd, .int .i64 sn, .int .i64 sd, .int .i64 pos] 66)) v w' v' → Wrote b w v w' v') := hid fun w' v' k => hR.trans k
 obtain ⟨w0, hw0⟩ : ∃ w0, w.alloc (.cells #[.int .i64 kind, .string ⟨name.toArray⟩, .slice p n cap, .int .i64 num, .int .i64 rn, .int .i64 rd, .int .i64 sn, .int .i64 sd, .int .i64 pos] 66) = w0 := ⟨_, rfl⟩
 obtain ⟨u0, hu0⟩ : ∃ u0, u0 = v := ⟨v, rfl⟩
 rw [hw0] at HBK HB0 HEW HIN HFIN K0
 rw [← hu0] at HBK HEW HIN HFIN K0
 have R0 := hid (Wrote.refl b w0 u0)
 obtain ⟨h1, h2, h3, h4, h5, h6⟩ := hx
 simp only at h1 h2 h3 h4 h5 h6
 have HL := hid hm
 clear hm
 clear h hb0 hR hE hB
 go_enter Tryz.func51, Tryz.ntmps51
 go_upto_region 2 with fail
 try rw [hw0]
 have hbq : Below w0.heap.size w0 (w0.alloc (.cells (strCells' itemWords).toArray 148)) := (Below.refl _ _).alloc (Nat.le_refl _) _
 have HQ0 : Hid (Blk (w0.alloc (.cells (strCells' itemWords).toArray 148)) w0.heap.size 148 (strCells' itemWords)) := hid (Blk.new _ _ _)
 have hq1 : w0.heap.size ≠ b := by have := K0.out.lt; omega
 have hq2 : u0.ownBlock ≠ some w0.heap.size := fun e => by have := (K0.out.vlow e).2; omega
 have HQ1 := hid hq1; have HQ2 := hid hq2
 have K1 := hid (K0.out.later hbq); have R1 : Hid (Wrote b w0 u0 _ u0) := hid (R0.out.trans ((Wrote.refl b _ u0).later hbq))
 obtain ⟨q, hq⟩ : ∃ q, w0.heap.size = q := ⟨_, rfl⟩
 change Code.wp _ _ _ _ (w0.alloc (.cells (strCells' itemWords).toArray 148))
 generalize w0.alloc (.cells (strCells' itemWords).toArray 148) = w1 at *
 rw [hq] at HQ0 HQ1 HQ2
 try rw [hq]
 clear hbq hq1 hq2 K0 R0
 refine wp_region_any (by kernel_rfl) ?_
 have hQ : Blk w1.drew q 148 (strCells' itemWords) := HQ0.out
 have KA := hid K1.out.drew; have RA := hid R1.out.drew
 have hS0 : Blk w1.drew w.heap.size 66 [.int .i64 kind, .string ⟨name.toArray⟩, .slice p n cap, .int .i64 num, .int .i64 rn, .int .i64 rd, .int .i64 sn, .int .i64 sd, .int .i64 pos] := HBK.out _ _ RA.out
 refine any_of_held (S := fun W => Blk W w.heap.size 66 [.int .i64 kind, .string ⟨name.toArray⟩, .slice p n cap, .int .i64 num, .int .i64 rn, .int .i64 rd, .int .i64 sn, .int .i64 sd, .int .i64 pos]) (N := []) _ _ _ _ ?_
 change held _ _ _ _ _ _ _ _ _ w1.drew
 obtain ⟨wa, hwa⟩ : ∃ wa, w1.drew = wa := ⟨_, rfl⟩
 rw [hwa] at hS0 KA RA hQ ⊢
 clear hwa K1 R1
 refine held_take [] (i := 0) (v := .pointer (some ⟨b, 0, none⟩)) rfl (by kernel_rfl) (fun _ _ _ h => h) (Or.inl ⟨by rfl, fun w' hS => by go_simp⟩) hS0 ?_
 try simp only [Act.put, aA, aB, aC]
 refine held_take [] (i := 1) (v := .pointer (some ⟨b, 0, none⟩)) rfl (by kernel_rfl) (fun _ _ _ h => h) (Or.inl ⟨by rfl, fun w' hS => by go_simp⟩) hS0 ?_
 try simp only [Act.put, aA, aB, aC]
 refine held_take [] (i := 2) (v := .pointer (some ⟨b, 0, none⟩)) rfl (by kernel_rfl) (fun _ _ _ h => h) (Or.inl ⟨by rfl, fun w' hS => by go_simp⟩) hS0 ?_
 try simp only [Act.put, aA, aB, aC]
 refine held_take [] (i := 3) (v := .slice (some ⟨q, 0, none⟩) 8 8) rfl (by kernel_rfl) (fun _ _ _ h => h) (Or.inl ⟨by rfl, fun w' hS => by go_simp⟩) hS0 ?_
 try simp only [Act.put, aA, aB, aC]
 refine held_take [] (i := 4) (v := .pointer (some ⟨w.heap.size, 0, none⟩)) rfl (by kernel_rfl) (fun _ _ _ h => h) (Or.inl ⟨by rfl, fun w' hS => by go_simp⟩) hS0 ?_
 try simp only [Act.put, aA, aB, aC]
 refine held_take [] (i := 5) (v := .int .i64 kind) rfl (by kernel_rfl) (fun _ _ _ h => h) (Or.inl ⟨by rfl, fun w' hS => by have hc := hS.cell (i := 0) rfl; go_simp⟩) hS0 ?_
 try simp only [Act.put, aA, aB, aC]
 refine held_one (i := 6) rfl (by kernel_rfl) (fun K hK => ?_)
 go_simp
 have HC := hid (oneOf_any itemWords (by decide) kind h1 q _ wa u0 _ KA.out (Nat.le_trans HB0.out RA.out.kp.size) HQ1.out HQ2.out hQ)
 refine HC.out.mono ?_; rintro e w2 ⟨rfl, u2, k1, k2⟩
 have K2 := hid k1; have R2 := hid (RA.out.trans k2)
 refine hK.out _ _ (fun _ => HBK.out _ _ R2.out) ?_
 clear hK K k1 k2 HC KA RA hS0 hQ
 try simp only [Act.put, aA, aB, aC]
 refine held_done (by kernel_rfl) ?_ _
 clear HQ0 HQ1 HQ2
 go_upto_region 3 with fail
 refine wp_region_any (by kernel_rfl) ?_
 have KA := hid K2.out.drew; have RA := hid R2.out.drew
 have hS0 : Blk w2.drew w.heap.size 66 [.int .i64 kind, .string ⟨name.toArray⟩, .slice p n cap, .int .i64 num, .int .i64 rn, .int .i64 rd, .int .i64 sn, .int .i64 sd, .int .i64 pos] := HBK.out _ _ RA.out
 refine any_of_held (S := fun W => Blk W w.heap.size 66 [.int .i64 kind, .string ⟨name.toArray⟩, .slice p n cap, .int .i64 num, .int .i64 rn, .int .i64 rd, .int .i64 sn, .int .i64 sd, .int .i64 pos]) (N := []) _ _ _ _ ?_
 change held _ _ _ _ _ _ _ _ _ w2.drew
 obtain ⟨wa, hwa⟩ : ∃ wa, w2.drew = wa := ⟨_, rfl⟩
 rw [hwa] at hS0 KA RA ⊢
 clear hwa K2 R2
 refine held_take [] (i := 0) (v := .pointer (some ⟨b, 0, none⟩)) rfl (by kernel_rfl) (fun _ _ _ h => h) (Or.inl ⟨by rfl, fun w' hS => by go_simp⟩) hS0 ?_
 try simp only [Act.put, aA, aB, aC]
 refine held_take [] (i := 1) (v := .pointer (some ⟨b, 0, none⟩)) rfl (by kernel_rfl) (fun _ _ _ h => h) (Or.inl ⟨by rfl, fun w' hS => by go_simp⟩) hS0 ?_
 try simp only [Act.put, aA, aB, aC]
 refine held_take [] (i := 2) (v := .pointer (some ⟨b, 0, none⟩)) rfl (by kernel_rfl) (fun _ _ _ h => h) (Or.inl ⟨by rfl, fun w' hS => by go_simp⟩) hS0 ?_
 try simp only [Act.put, aA, aB, aC]
 refine held_take [] (i := 3) (v := .pointer (some ⟨w.heap.size, 1, none⟩)) rfl (by kernel_rfl) (fun _ _ _ h => h) (Or.inl ⟨by rfl, fun w' hS => by go_simp⟩) hS0 ?_
 try simp only [Act.put, aA, aB, aC]
 refine held_take [] (i := 4) (v := .string ⟨name.toArray⟩) rfl (by kernel_rfl) (fun _ _ _ h => h) (Or.inl ⟨by rfl, fun w' hS => by have hc := hS.cell (i := 1) rfl; go_simp⟩) hS0 ?_
 try simp only [Act.put, aA, aB, aC]
 refine held_one (i := 5) rfl (by kernel_rfl) (fun K hK => ?_)
 go_simp
 refine hK.out _ _ (fun _ => hS0.alloc _) ?_
 clear hK K
 try simp only [Act.put, aA, aB, aC]
 refine held_one (i := 6) rfl (by kernel_rfl) (fun K hK => ?_)
 go_simp
 have HC := hid (name_new name h2 wa u2 _ KA.out (Nat.le_trans HB0.out RA.out.kp.size))
 refine HC.out.mono ?_; rintro e w3 ⟨rfl, u3, k1, k2⟩
 have K3 := hid k1; have R3 := hid (RA.out.trans k2)
 refine hK.out _ _ (fun _ => HBK.out _ _ R3.out) ?_
 clear hK K k1 k2 HC KA RA hS0
 try simp only [Act.put, aA, aB, aC]
 refine held_done (by kernel_rfl) ?_ _
 have cb := HBK.out _ _ R3.out
 have c0 := cb.cell (i := 0) rfl
 have c1 := cb.cell (i := 1) rfl
 have c2 := cb.cell (i := 2) rfl
 have c3 := cb.cell (i := 3) rfl
 have c4 := cb.cell (i := 4) rfl
 have c5 := cb.cell (i := 5) rfl
 have c6 := cb.cell (i := 6) rfl
 have c7 := cb.cell (i := 7) rfl
 have c8 := cb.cell (i := 8) rfl
 clear cb
 have HC := hid (terms_any kind name conds p n cap num rn rd sn sd pos h4 h5 h6 w3 u3 _ K3.out (Nat.le_trans HB0.out R3.out.kp.size) (HEW.out _ _ (R3.out)))
 go_wp2_with fail
 refine HC.out.mono ?_; rintro e w4 ⟨rfl, u4, k1, k2⟩
 have K4 := hid k1; have R4 := hid (R3.out.trans k2)
 clear k1 k2 HC K3 R3
 clear c0 c1 c2 c3 c4 c5 c6 c7 c8
 have c2 := (HBK.out _ _ R4.out).cell (i := 2) rfl
 have HC := hid (when_any conds h3 p n cap w4 u4 _ K4.out (Nat.le_trans HB0.out R4.out.kp.size) (HEW.out _ _ (R4.out)) (HL.out.below (HIN.out _ _ R4.out)))
 go_wp2_with fail
 refine HC.out.mono ?_; rintro e w5 ⟨rfl, u5, k1, k2⟩
 have K5 := hid k1; have R5 := hid (R4.out.trans k2)
 clear k1 k2 HC K4 R4
 clear c2
 have HC := hid (line_any [59] (by decide) w5 u5 _ K5.out (Nat.le_trans HB0.out R5.out.kp.size))
 go_wp2_with fail
 refine HC.out.mono ?_; rintro e w6 ⟨rfl, u6, k1, k2⟩
 have K6 := hid k1; have R6 := hid (R5.out.trans k2)
 clear k1 k2 HC K5 R5
 have HE : Hid (itemS ⟨kind, name, conds, num, ⟨rn, rd⟩, ⟨sn, sd⟩, pos⟩ s = lineS [59] (whenS conds (termsS ⟨kind, name, conds, num, ⟨rn, rd⟩, ⟨sn, sd⟩, pos⟩ (namesS [name] (oneOfS itemWords kind s))))) := hid rfl
 go_wp2
 go_end0
 subst hu0
 exact ⟨rfl, u6, by rw [HE.out]; exact K6.out, HFIN.out _ _ R6.out⟩
end Go.Proofs.YtilfpnkcgjonhaaGreatDoor.Pr
namespace Go.Proofs.YtilfpnkcgjonhaaGreatDoor.Pr
open Go.RowKit Go.Sort Foyer.Printer Foyer.Lexer Foyer.Round
set_option linter.unusedSimpArgs false in
set_option maxRecDepth 100000 in
set_option maxHeartbeats 4000000 in
theorem rules_any {B b : Nat} {T : TypeId} (l : List ItemZ) (hx : ∀ x ∈ l, ItemZ.Fit x) (p : Option Addr) (n cap : Nat) (w : World) (v : Value) (s : St) (h : WR B b T w v s) (hB : B ≤ w.heap.size) (hE : EnvAt B w) (hm : Lk itemL w B (.slice p n cap) l) :
  Calls Tryz.prog 29 #[.pointer (some ⟨b, 0, none⟩), .agg #[.slice p n cap]] w fun e w' => e = .returned (.tuple #[]) ∧ Step B b T w v (rulesS l s) w' := by
 have hb0 : Below w.heap.size w (w.alloc (.cells #[.slice p n cap] 29)) := (Below.refl _ _).alloc (Nat.le_refl _) _
 have hR : Wrote b w v (w.alloc (.cells #[.slice p n cap] 29)) v := (Wrote.refl b _ v).later hb0
 have HBK : Hid (∀ w' v', Wrote b (w.alloc (.cells #[.slice p n cap] 29)) v w' v' → Blk w' w.heap.size 29 [.slice p n cap]) := hid fun w' v' k => (k.kept (k := w.heap.size) (by simp) (by have := h.lt; omega) (fun e => by have := (h.vlow e).2; omega)).1.trans (Blk.new w 29 [.slice p n cap])
 have HB0 : Hid (B ≤ (w.alloc (.cells #[.slice p n cap] 29)).heap.size) := hid (by simp; omega)
 have HEW : Hid (∀ w' v', Wrote b (w.alloc (.cells #[.slice p n cap] 29)) v w' v' → EnvAt B w') := hid fun w' v' k => hE.below ((hb0.mono hB).trans ((h.later hb0).wrote (by simp; omega) k))
 have HIN : Hid (∀ w' v', Wrote b (w.alloc (.cells #[.slice p n cap] 29)) v w' v' → Below B w w') := hid fun w' v' k => (hb0.mono hB).trans ((h.later hb0).wrote (by simp; omega) k)
 have K0 := hid (h.later hb0)
 have HFIN : Hid (∀ w' v', Wrote b (w.alloc (.cells #[.slice p n cap] 29)) v w' v' → Wrote b w v w' v') := hid fun w' v' k => hR.trans k
 obtain ⟨w0, hw0⟩ : ∃ w0, w.alloc (.cells #[.slice p n cap] 29) = w0 := ⟨_, rfl⟩
 obtain ⟨u0, hu0⟩ : ∃ u0, u0 = v := ⟨v, rfl⟩
 rw [hw0] at HBK HB0 HEW HIN HFIN K0
 rw [← hu0] at HBK HEW HIN HFIN K0
 have R0 := hid (Wrote.refl b w0 u0)
 have HL := hid hm
 have hlen := hm.len.1
 clear hm
 clear h hb0 hR hE hB
 go_enter Tryz.func29, Tryz.ntmps29
 by_cases hc : n ≤ 200
 ·have hd : decide ((n : Int) ≤ 200) = true := by rw [decide_eq_true_eq]; omega
  go_upto_region 1 with fail
  try rw [hw0]
  refine wp_region_any (by kernel_rfl) ?_
  have KA := hid K0.out.drew; have RA := hid R0.out.drew
  have hS0 : Blk w0.drew w.heap.size 29 [.slice p n cap] := HBK.out _ _ RA.out
  refine any_of_held (S := fun W => Blk W w.heap.size 29 [.slice p n cap]) (N := []) _ _ _ _ ?_
  change held _ _ _ _ _ _ _ _ _ w0.drew
  obtain ⟨wa, hwa⟩ : ∃ wa, w0.drew = wa := ⟨_, rfl⟩
  rw [hwa] at hS0 KA RA ⊢
  clear hwa K0 R0
  refine held_take [] (i := 0) (v := .pointer (some ⟨b, 0, none⟩)) rfl (by kernel_rfl) (fun _ _ _ h => h) (Or.inl ⟨by rfl, fun w' hS => by go_simp⟩) hS0 ?_
  try simp only [Act.put, aA, aB, aC]
  refine held_take [] (i := 1) (v := .pointer (some ⟨b, 0, none⟩)) rfl (by kernel_rfl) (fun _ _ _ h => h) (Or.inl ⟨by rfl, fun w' hS => by go_simp⟩) hS0 ?_
  try simp only [Act.put, aA, aB, aC]
  refine held_take [] (i := 2) (v := .pointer (some ⟨b, 0, none⟩)) rfl (by kernel_rfl) (fun _ _ _ h => h) (Or.inl ⟨by rfl, fun w' hS => by go_simp⟩) hS0 ?_
  try simp only [Act.put, aA, aB, aC]
  refine held_take [] (i := 3) (v := .pointer (some ⟨w.heap.size, 0, none⟩)) rfl (by kernel_rfl) (fun _ _ _ h => h) (Or.inl ⟨by rfl, fun w' hS => by go_simp⟩) hS0 ?_
  try simp only [Act.put, aA, aB, aC]
  refine held_take [] (i := 4) (v := .slice p n cap) rfl (by kernel_rfl) (fun _ _ _ h => h) (Or.inl ⟨by rfl, fun w' hS => by have hc := hS.cell (i := 0) rfl; go_simp⟩) hS0 ?_
  try simp only [Act.put, aA, aB, aC]
  refine held_take [] (i := 5) (v := .int .i64 n) rfl (by kernel_rfl) (fun _ _ _ h => h) (Or.inl ⟨by rfl, fun w' hS => by go_simp⟩) hS0 ?_
  try simp only [Act.put, aA, aB, aC]
  refine held_take [] (i := 6) (v := .bool true) rfl (by kernel_rfl) (fun _ _ _ h => h) (Or.inl ⟨by rfl, fun w' hS => by go_simp⟩) hS0 ?_
  try simp only [Act.put, aA, aB, aC]
  refine held_one (i := 7) rfl (by kernel_rfl) (fun K hK => ?_)
  go_simp
  have HC := hid (require_s true wa u0 _ KA.out)
  refine HC.out.mono ?_; rintro e w1 ⟨rfl, u1, k1, k2⟩
  replace RA := hid (RA.out.trans k2)
  replace KA := hid k1
  refine hK.out _ _ (fun _ => HBK.out _ _ RA.out) ?_
  clear hS0
  have hS0 := HBK.out _ _ RA.out
  clear hK K k1 k2 HC
  try simp only [Act.put, aA, aB, aC]
  refine held_take [] (i := 8) (v := .bool false) rfl (by kernel_rfl) (fun _ _ _ h => h) (Or.inl ⟨by rfl, fun w' hS => by go_simp⟩) hS0 ?_
  try simp only [Act.put, aA, aB, aC]
  refine held_done (by kernel_rfl) ?_ _
  have K1 := KA; have R1 := RA
  clear KA RA hS0
  have e1 : requireS true s = s := by simp [requireS]
  rw [e1] at K1
  clear e1
  have hc200 := hc
  clear hc
  obtain ⟨S1, hS⟩ : ∃ S, s = S := ⟨_, rfl⟩
  have HS1 := hid hS
  replace K1 : Hid (WR B b T w1 u1 S1) := hid (by rw [← hS]; exact K1.out)
  clear hS
  have cf := (HBK.out _ _ R1.out).cell (i := 0) rfl
  go_wp2
  go_loopw [18] (fun i wr => ∃ (k : Nat) (uo : Value), i = .int .i64 k ∧ k ≤ n ∧ Hid (WR B b T wr uo ((l.take k).foldl (fun s x => itemS x s) (S1))) ∧ Hid (Wrote b w0 u0 wr uo)) (fun i _ => n - (intOf i).toNat)
  case atStart => exact ⟨0, u1, rfl, Nat.zero_le _, hid (by rw [List.take_zero, List.foldl_nil]; exact K1.out), R1⟩
  case round =>
   have hnb : n ≤ 9223372036854775807 := by have := HL.out.len.2; unfold maxLen at this; omega
   obtain ⟨k, uo, rfl, hk, HV, HR⟩ := hrel
   clear cf
   have cf := (HBK.out _ _ HR.out).cell (i := 0) rfl
   by_cases hkn : k < n
   ·obtain ⟨x, hx⟩ : ∃ x, l[k]? = some x := ⟨_, List.getElem?_eq_getElem (by have := HL.out.len.1; omega)⟩
    have hm := List.mem_of_getElem? hx
    have hst := take_fold (fun s x => itemS x s) l (S1) hx
    obtain ⟨t, ht⟩ : ∃ t, (l.take k).foldl (fun s x => itemS x s) (S1) = t := ⟨_, rfl⟩
    rw [ht] at hst HV
    obtain ⟨lb, lo, c, rfl, hlb, hc, hcell⟩ := (HL.out.below (HIN.out _ _ HR.out)).at hx
    obtain ⟨v0, rfl, hm0⟩ := hc
    obtain ⟨lp, lcap, rfl⟩ := hm0.slice
    obtain ⟨ln, hln⟩ : ∃ ln, x.conds.length = ln := ⟨_, rfl⟩
    rw [hln] at hm0 hcell
    clear hln
    obtain ⟨kind, name, conds, num, ⟨rn, rd⟩, ⟨sn, sd⟩, pos⟩ := x
    have d0 := hcell 0 _ rfl
    have d1 := hcell 1 _ rfl
    have d2 := hcell 2 _ rfl
    have d3 := hcell 3 _ rfl
    have d4 := hcell 4 _ rfl
    have d5 := hcell 5 _ rfl
    have d6 := hcell 6 _ rfl
    have d7 := hcell 7 _ rfl
    have d8 := hcell 8 _ rfl
    rw [show itemL.size = 9 from rfl] at d0 d1 d2 d3 d4 d5 d6 d7 d8
    rw [Nat.add_zero] at d0
    have hki : (0 : Int) ≤ k ∧ (k : Int) < n := by omega
    go_wp2_with fail
    have hbe : Below wr.heap.size wr (wr.alloc (.cells #[.int .i64 kind, .string ⟨name.toArray⟩, .slice lp ln lcap, .int .i64 num, .int .i64 rn, .int .i64 rd, .int .i64 sn, .int .i64 sd, .int .i64 pos] 66)) := (Below.refl _ _).alloc (Nat.le_refl _) _
    have hbB : B ≤ wr.heap.size := Nat.le_trans HB0.out HR.out.kp.size
    have HRE : Hid (Wrote b w0 u0 (wr.alloc (.cells #[.int .i64 kind, .string ⟨name.toArray⟩, .slice lp ln lcap, .int .i64 num, .int .i64 rn, .int .i64 rd, .int .i64 sn, .int .i64 sd, .int .i64 pos] 66)) uo) := hid (HR.out.trans ((Wrote.refl b _ uo).later hbe))
    have HM0 : Hid (Lk testsL (wr.alloc (.cells #[.int .i64 kind, .string ⟨name.toArray⟩, .slice lp ln lcap, .int .i64 num, .int .i64 rn, .int .i64 rd, .int .i64 sn, .int .i64 sd, .int .i64 pos] 66)) B (.slice lp ln lcap) conds) := hid (hm0.below (hbe.mono hbB))
    have K100 := hid (HV.out.later hbe); have HB1 : Hid (B ≤ (wr.alloc (.cells #[.int .i64 kind, .string ⟨name.toArray⟩, .slice lp ln lcap, .int .i64 num, .int .i64 rn, .int .i64 rd, .int .i64 sn, .int .i64 sd, .int .i64 pos] 66)).heap.size) := hid (Nat.le_trans hbB hbe.size)
    have HBE : Hid (∀ w' v', Wrote b (wr.alloc (.cells #[.int .i64 kind, .string ⟨name.toArray⟩, .slice lp ln lcap, .int .i64 num, .int .i64 rn, .int .i64 rd, .int .i64 sn, .int .i64 sd, .int .i64 pos] 66)) uo w' v' → Blk w' wr.heap.size 66 [.int .i64 kind, .string ⟨name.toArray⟩, .slice lp ln lcap, .int .i64 num, .int .i64 rn, .int .i64 rd, .int .i64 sn, .int .i64 sd, .int .i64 pos]) := hid fun w' v' k => (k.kept (k := wr.heap.size) (by simp) (by have := HV.out.lt; omega) (fun e => by have := (HV.out.vlow e).2; omega)).1.trans (Blk.new wr 66 [.int .i64 kind, .string ⟨name.toArray⟩, .slice lp ln lcap, .int .i64 num, .int .i64 rn, .int .i64 rd, .int .i64 sn, .int .i64 sd, .int .i64 pos])
    obtain ⟨w100, hw100⟩ : ∃ w100, (wr.alloc (.cells #[.int .i64 kind, .string ⟨name.toArray⟩, .slice lp ln lcap, .int .i64 num, .int .i64 rn, .int .i64 rd, .int .i64 sn, .int .i64 sd, .int .i64 pos] 66)) = w100 := ⟨_, rfl⟩
    rw [hw100] at HRE K100 HB1 HBE HM0
    have R100 := hid (Wrote.refl b w100 uo)
    have HST := hid hst
    clear hx hst ht hcell hbe hlb hbB
    have HC := hid (item_any kind name conds lp ln lcap num rn rd sn sd pos (hx _ hm) w100 uo t K100.out (Nat.le_trans HB1.out R100.out.kp.size) (HEW.out _ _ (HRE.out.trans R100.out)) HM0.out)
    try rw [hw100]
    refine HC.out.mono ?_; rintro e w101 ⟨rfl, u101, k1, k2⟩
    have K101 := hid k1; have R101 := hid (R100.out.trans k2)
    clear k1 k2 HC K100 R100
    have RZ := hid (HRE.out.trans R101.out)
    clear HRE cf d0 d1 d2 d3 d4 d5 d6 d7 d8
    have cf := (HBK.out _ _ RZ.out).cell (i := 0) rfl
    go_wp2
    go_roundw
    case rel => exact ⟨k + 1, u101, by go_num, by omega, by rw [HST.out]; exact K101, RZ⟩
    case measure => simp [intOf]; omega
   ·have hkn2 : k = n := by omega
    subst hkn2
    rw [show l.take k = l from List.take_of_length_le (by have := HL.out.len.1; omega)] at HV
    clear cf hkn hk hnb
    obtain ⟨u2, hu2⟩ : ∃ u, u = uo := ⟨uo, rfl⟩
    rw [← hu2] at HV HR
    generalize wr = w2 at *
    have K2 := HV; have R2 := HR
    clear HV HR K1 R1 hu2
    have HE : Hid (rulesS l s = l.foldl (fun s x => itemS x s) (S1)) := hid (by rw [← HS1.out]; unfold rulesS; rw [if_pos (by rw [hlen]; exact hc200)])
    go_wp2
    go_end0
    subst hu0
    exact ⟨rfl, u2, by rw [HE.out]; exact K2.out, HFIN.out _ _ R2.out⟩
 ·have hd : decide ((n : Int) ≤ 200) = false := by rw [decide_eq_false_iff_not]; omega
  go_upto_region 1 with fail
  try rw [hw0]
  refine wp_region_any (by kernel_rfl) ?_
  have KA := hid K0.out.drew; have RA := hid R0.out.drew
  have hS0 : Blk w0.drew w.heap.size 29 [.slice p n cap] := HBK.out _ _ RA.out
  refine any_of_held (S := fun W => Blk W w.heap.size 29 [.slice p n cap]) (N := []) _ _ _ _ ?_
  change held _ _ _ _ _ _ _ _ _ w0.drew
  obtain ⟨wa, hwa⟩ : ∃ wa, w0.drew = wa := ⟨_, rfl⟩
  rw [hwa] at hS0 KA RA ⊢
  clear hwa K0 R0
  refine held_take [] (i := 0) (v := .pointer (some ⟨b, 0, none⟩)) rfl (by kernel_rfl) (fun _ _ _ h => h) (Or.inl ⟨by rfl, fun w' hS => by go_simp⟩) hS0 ?_
  try simp only [Act.put, aA, aB, aC]
  refine held_take [] (i := 1) (v := .pointer (some ⟨b, 0, none⟩)) rfl (by kernel_rfl) (fun _ _ _ h => h) (Or.inl ⟨by rfl, fun w' hS => by go_simp⟩) hS0 ?_
  try simp only [Act.put, aA, aB, aC]
  refine held_take [] (i := 2) (v := .pointer (some ⟨b, 0, none⟩)) rfl (by kernel_rfl) (fun _ _ _ h => h) (Or.inl ⟨by rfl, fun w' hS => by go_simp⟩) hS0 ?_
  try simp only [Act.put, aA, aB, aC]
  refine held_take [] (i := 3) (v := .pointer (some ⟨w.heap.size, 0, none⟩)) rfl (by kernel_rfl) (fun _ _ _ h => h) (Or.inl ⟨by rfl, fun w' hS => by go_simp⟩) hS0 ?_
  try simp only [Act.put, aA, aB, aC]
  refine held_take [] (i := 4) (v := .slice p n cap) rfl (by kernel_rfl) (fun _ _ _ h => h) (Or.inl ⟨by rfl, fun w' hS => by have hc := hS.cell (i := 0) rfl; go_simp⟩) hS0 ?_
  try simp only [Act.put, aA, aB, aC]
  refine held_take [] (i := 5) (v := .int .i64 n) rfl (by kernel_rfl) (fun _ _ _ h => h) (Or.inl ⟨by rfl, fun w' hS => by go_simp⟩) hS0 ?_
  try simp only [Act.put, aA, aB, aC]
  refine held_take [] (i := 6) (v := .bool false) rfl (by kernel_rfl) (fun _ _ _ h => h) (Or.inl ⟨by rfl, fun w' hS => by go_simp⟩) hS0 ?_
  try simp only [Act.put, aA, aB, aC]
  refine held_one (i := 7) rfl (by kernel_rfl) (fun K hK => ?_)
  go_simp
  have HC := hid (require_s false wa u0 _ KA.out)
  refine HC.out.mono ?_; rintro e w1 ⟨rfl, u1, k1, k2⟩
  replace RA := hid (RA.out.trans k2)
  replace KA := hid k1
  refine hK.out _ _ (fun _ => HBK.out _ _ RA.out) ?_
  clear hS0
  have hS0 := HBK.out _ _ RA.out
  clear hK K k1 k2 HC
  try simp only [Act.put, aA, aB, aC]
  refine held_take [] (i := 8) (v := .bool true) rfl (by kernel_rfl) (fun _ _ _ h => h) (Or.inl ⟨by rfl, fun w' hS => by go_simp⟩) hS0 ?_
  try simp only [Act.put, aA, aB, aC]
  refine held_done (by kernel_rfl) ?_ _
  have K1 := KA; have R1 := RA
  clear KA RA hS0
  have HE : Hid (rulesS l s = requireS false s) := hid (by unfold rulesS; rw [if_neg (by rw [hlen]; exact hc)])
  go_wp2
  refine bodyPost_ret (results_none rfl _ _ _) rfl ?_
  subst hu0
  exact ⟨rfl, u1, by rw [HE.out]; exact K1.out, HFIN.out _ _ R1.out⟩
end Go.Proofs.YtilfpnkcgjonhaaGreatDoor.Pr
namespace Go.Proofs.YtilfpnkcgjonhaaGreatDoor.Pr
open Go.RowKit Go.Sort Foyer.Printer Foyer.Lexer
set_option linter.unusedSimpArgs false in
set_option maxRecDepth 100000 in
set_option maxHeartbeats 400000 in
theorem printRules_any (l : List ItemZ) (hx : ∀ x ∈ l, ItemZ.Fit x) (p : Option Addr) (n cap : Nat) (w : World) (hE : Env w) (hm : Lk itemL w w.heap.size (.slice p n cap) l) :
  Calls Tryz.prog 16 #[.agg #[.slice p n cap]] w fun e w' =>
   e = .returned (.tuple #[.string ⟨(rulesAll l).1.toArray⟩, .int .i64 ((rulesAll l).2 : Nat)]) ∧ Below w.heap.size w w' := by
 have hb1 : Below w.heap.size w (w.alloc (.cells #[.slice p n cap] 29)) := (Below.refl _ _).alloc (Nat.le_refl _) _
 have hk1 := Blk.new w 29 [.slice p n cap]
 obtain ⟨w1, hw1⟩ : ∃ w1, w.alloc (.cells #[.slice p n cap] 29) = w1 := ⟨_, rfl⟩
 have hs1 : w1.heap.size = w.heap.size + 1 := by rw [← hw1]; simp
 have hb2 : Below w.heap.size w (w1.alloc (.cells #[.slice none 0 0, .int .i64 0, .bool false] 89)) := by rw [hw1] at hb1; exact hb1.alloc (by omega) _
 have hW := fresh_wr w.heap.size 89 w1 (by omega)
 have hk2 : Blk (w1.alloc (.cells #[.slice none 0 0, .int .i64 0, .bool false] 89)) w.heap.size 29 [.slice p n cap] := by
  have : Blk w1 w.heap.size 29 [.slice p n cap] := by rw [← hw1]; exact hk1
  exact this.alloc _
 have HH := hid (rules_any l hx p n cap _ _ _ hW (by simp; omega) (EnvAt.below ⟨hE, hE.low⟩ hb2) (hm.below hb2))
 unfold rulesAll
 obtain ⟨S, hS⟩ : ∃ S, rulesS l startS = S := ⟨_, rfl⟩
 rw [hS] at HH ⊢
 clear hS
 obtain ⟨rt, hrt⟩ : ∃ rt, (finishS S).1 = rt := ⟨_, rfl⟩
 obtain ⟨re, hre⟩ : ∃ re, (finishS S).2 = re := ⟨_, rfl⟩
 have HFA : Hid (∀ w3 v3, WR w.heap.size (w.heap.size + 1) 89 w3 v3 S → Calls Tryz.prog 24 #[.pointer (some ⟨w.heap.size + 1, 0, none⟩)] w3 fun e w' => e = .returned (.tuple #[.string ⟨rt.toArray⟩, .int .i64 (re : Nat)]) ∧ Below w3.heap.size w3 w') :=
  hid fun w3 v3 g => by rw [← hrt, ← hre]; exact finish_any w3 v3 S g
 rw [hrt, hre]
 clear hrt hre
 have HB2 := hid hb2
 have HW := hid hW
 have k0 := hk2.cell (i := 0) rfl
 rw [hs1] at HH HW
 clear hb1 hk1 hk2 hb2 hW hm hx
 go_enter Tryz.func16, Tryz.ntmps16
 go_wp2_with fail
 refine HH.out.mono ?_; rintro e w3 ⟨rfl, v3, g1, g2⟩
 have HB3 := hid (HB2.out.trans (HW.out.wrote (by simp; omega) g2))
 have HF := hid (HFA.out w3 v3 g1)
 clear g1 g2 k0
 go_wp2_with fail
 refine HF.out.mono ?_; rintro e w4 ⟨rfl, hb4⟩
 have HB4 := hid (HB3.out.trans (hb4.mono HB3.out.size))
 clear hb4 HF
 go_wp2
 go_ret2
 exact ⟨rfl, HB4.out⟩
end Go.Proofs.YtilfpnkcgjonhaaGreatDoor.Pr
