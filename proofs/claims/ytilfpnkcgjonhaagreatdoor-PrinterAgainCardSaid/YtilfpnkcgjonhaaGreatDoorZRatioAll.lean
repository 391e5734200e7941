/-
  The walks of ratios.
  The walks of ratios behind words.
  The walks of tests.
  The walks of lists of tests and of conditions.
-/
import Derived.Test.YtilfpnkcgjonhaaGreatDoorZPrintH
import Derived.Test.YtilfpnkcgjonhaaGreatDoorZSameRow
namespace Go.Proofs.YtilfpnkcgjonhaaGreatDoor.Pr
open Go.RowKit Go.Sort Foyer.Printer Foyer.Lexer Foyer.Round
theorem itoa_40 (n : Int) (hn : intOk n) : (Go.Lib.itoa n).length ≤ 40 := itoa_short' n hn
set_option linter.unusedSimpArgs false in
set_option maxRecDepth 100000 in
set_option maxHeartbeats 4000000 in
theorem ratio_any {B b : Nat} {T : TypeId} (num den : Int) (hx : RatioZ.Fit ⟨num, den⟩) (w : World) (v : Value) (s : St) (h : WR B b T w v s) (hB : B ≤ w.heap.size) (hE : EnvAt B w) :
  Calls Tryz.prog 105 #[.pointer (some ⟨b, 0, none⟩), .agg #[.int .i64 num, .int .i64 den]] w fun e w' => e = .returned (.tuple #[]) ∧ Step B b T w v (ratioS ⟨num, den⟩ s) w' := by
 have hb0 : Below w.heap.size w (w.alloc (.cells #[.int .i64 num, .int .i64 den] 64)) := (Below.refl _ _).alloc (Nat.le_refl _) _
 have hR : Wrote b w v (w.alloc (.cells #[.int .i64 num, .int .i64 den] 64)) v := (Wrote.refl b _ v).later hb0
 have HBK : Hid (∀ w' v', Wrote b (w.alloc (.cells #[.int .i64 num, .int .i64 den] 64)) v w' v' → Blk w' w.heap.size 64 [.int .i64 num, .int .i64 den]) := hid fun w' v' k => (k.kept (k := w.heap.size) (by simp) (by have := h.lt; omega) (fun e => by have := (h.vlow e).2; omega)).1.trans (Blk.new w 64 [.int .i64 num, .int .i64 den])
 have HB0 : Hid (B ≤ (w.alloc (.cells #[.int .i64 num, .int .i64 den] 64)).heap.size) := hid (by simp; omega)
 have HEW : Hid (∀ w' v', Wrote b (w.alloc (.cells #[.int .i64 num, .int .i64 den] 64)) v w' v' → EnvAt B w') := hid fun w' v' k => hE.below ((hb0.mono hB).trans ((h.later hb0).wrote (by simp; omega) k))
 have HIN : Hid (∀ w' v', Wrote b (w.alloc (.cells #[.int .i64 num, .int .i64 den] 64)) v w' v' → Below B w w') := hid fun w' v' k => (hb0.mono hB).trans ((h.later hb0).wrote (by simp; omega) k)
 have K0 := hid (h.later hb0)
 have HFIN : Hid (∀ w' v', Wrote b (w.alloc (.cells #[.int .i64 num, .int .i64 den] 64)) v w' v' → Wrote b w v w' v') := hid fun w' v' k => hR.trans k
 obtain ⟨w0, hw0⟩ : ∃ w0, w.alloc (.cells #[.int .i64 num, .int .i64 den] 64) = w0 := ⟨_, rfl⟩
 obtain ⟨u0, hu0⟩ : ∃ u0, u0 = v := ⟨v, rfl⟩
 rw [hw0] at HBK HB0 HEW HIN HFIN K0
 rw [← hu0] at HBK HEW HIN HFIN K0
 have R0 := hid (Wrote.refl b w0 u0)
 obtain ⟨hx1, hx2⟩ := hx
 simp only at hx1 hx2
 obtain ⟨A, hA⟩ : ∃ A, Go.Lib.itoa num = A := ⟨_, rfl⟩
 obtain ⟨D, hD⟩ : ∃ D, Go.Lib.itoa den = D := ⟨_, rfl⟩
 have HLA : Hid (A.length ≤ 40) := hid (by rw [← hA]; exact itoa_40 num hx1)
 have HLD : Hid (D.length ≤ 40) := hid (by rw [← hD]; exact itoa_40 den hx2)
 obtain ⟨A1, hA1⟩ : ∃ A1, A ++ [47] = A1 := ⟨_, rfl⟩
 obtain ⟨A2, hA2⟩ : ∃ A2, A1 ++ D = A2 := ⟨_, rfl⟩
 have HL1 : Hid (A1.length ≤ 41) := hid (by have := HLA.out; rw [← hA1]; simp only [List.length_append, List.length_cons, List.length_nil]; omega)
 have HL2 : Hid (A2.length ≤ 90) := hid (by have := HL1.out; have := HLD.out; rw [← hA2]; simp only [List.length_append]; omega)
 have HA1 : Hid ((⟨A.toArray⟩ : ByteArray) ++ ⟨#[47]⟩ = ⟨A1.toArray⟩) := hid (by rw [← hA1]; exact str_append A [47])
 have HA2 : Hid ((⟨A1.toArray⟩ : ByteArray) ++ ⟨D.toArray⟩ = ⟨A2.toArray⟩) := hid (by rw [← hA2]; exact str_append A1 D)
 have HDN : Hid (∀ (W : World) (V : Value) (S : St), WR B b T W V S → B ≤ W.heap.size → EnvAt B W → Calls Tryz.prog 67 #[.pointer (some ⟨b, 0, none⟩), .int .i64 num] W fun e w' => e = .returned (.string ⟨A.toArray⟩) ∧ Step B b T W V (requireS (numOk num) S) w') := hid fun W V S k1 k2 k3 => by rw [← hA]; exact digits_any num hx1 W V S k1 k2 k3
 have HDD : Hid (∀ (W : World) (V : Value) (S : St), WR B b T W V S → B ≤ W.heap.size → EnvAt B W → Calls Tryz.prog 67 #[.pointer (some ⟨b, 0, none⟩), .int .i64 den] W fun e w' => e = .returned (.string ⟨D.toArray⟩) ∧ Step B b T W V (requireS (numOk den) S) w') := hid fun W V S k1 k2 k3 => by rw [← hD]; exact digits_any den hx2 W V S k1 k2 k3
 have HE : Hid (ratioS ⟨num, den⟩ s = wordS A2 (requireS (numOk den) (requireS (numOk num) s))) := hid (by rw [← hA2, ← hA1, ← hA, ← hD]; rfl)
 clear hA hD hA1 hA2
 clear h hb0 hR hE hB
 go_enter Tryz.func105, Tryz.ntmps105
 go_upto_region 1 with fail
 try rw [hw0]
 refine wp_region_any (by kernel_rfl) ?_
 have KA := hid K0.out.drew; have RA := hid R0.out.drew
 have hS0 : Blk w0.drew w.heap.size 64 [.int .i64 num, .int .i64 den] := HBK.out _ _ RA.out
 refine any_of_held (S := fun W => Blk W w.heap.size 64 [.int .i64 num, .int .i64 den]) (N := []) _ _ _ _ ?_
 change held _ _ _ _ _ _ _ _ _ w0.drew
 obtain ⟨wa, hwa⟩ : ∃ wa, w0.drew = wa := ⟨_, rfl⟩
 rw [hwa] at hS0 KA RA ⊢
 clear hwa K0 R0
 refine held_take [] (i := 0) (v := .pointer (some ⟨b, 0, none⟩)) rfl (by kernel_rfl) (fun _ _ _ h => h) (Or.inl ⟨by rfl, fun w' hS => by go_simp⟩) hS0 ?_
 try simp only [Act.put, aA, aB, aC]
 refine held_take [] (i := 1) (v := .pointer (some ⟨b, 0, none⟩)) rfl (by kernel_rfl) (fun _ _ _ h => h) (Or.inl ⟨by rfl, fun w' hS => by go_simp⟩) hS0 ?_
 try simp only [Act.put, aA, aB, aC]
 refine held_take [] (i := 2) (v := .pointer (some ⟨b, 0, none⟩)) rfl (by kernel_rfl) (fun _ _ _ h => h) (Or.inl ⟨by rfl, fun w' hS => by go_simp⟩) hS0 ?_
 try simp only [Act.put, aA, aB, aC]
 refine held_take [] (i := 3) (v := .pointer (some ⟨b, 0, none⟩)) rfl (by kernel_rfl) (fun _ _ _ h => h) (Or.inl ⟨by rfl, fun w' hS => by go_simp⟩) hS0 ?_
 try simp only [Act.put, aA, aB, aC]
 refine held_take [] (i := 4) (v := .pointer (some ⟨b, 0, none⟩)) rfl (by kernel_rfl) (fun _ _ _ h => h) (Or.inl ⟨by rfl, fun w' hS => by go_simp⟩) hS0 ?_
 try simp only [Act.put, aA, aB, aC]
 refine held_take [] (i := 5) (v := .pointer (some ⟨b, 0, none⟩)) rfl (by kernel_rfl) (fun _ _ _ h => h) (Or.inl ⟨by rfl, fun w' hS => by go_simp⟩) hS0 ?_
 try simp only [Act.put, aA, aB, aC]
 refine held_take [] (i := 6) (v := .pointer (some ⟨w.heap.size, 0, none⟩)) rfl (by kernel_rfl) (fun _ _ _ h => h) (Or.inl ⟨by rfl, fun w' hS => by go_simp⟩) hS0 ?_
 try simp only [Act.put, aA, aB, aC]
 refine held_take [] (i := 7) (v := .int .i64 num) rfl (by kernel_rfl) (fun _ _ _ h => h) (Or.inl ⟨by rfl, fun w' hS => by have hc := hS.cell (i := 0) rfl; go_simp⟩) hS0 ?_
 try simp only [Act.put, aA, aB, aC]
 refine held_take [] (i := 10) (v := .pointer (some ⟨b, 0, none⟩)) rfl (by kernel_rfl) (fun _ _ _ h => h) (Or.inl ⟨by rfl, fun w' hS => by go_simp⟩) hS0 ?_
 try simp only [Act.put, aA, aB, aC]
 refine held_take [] (i := 11) (v := .pointer (some ⟨b, 0, none⟩)) rfl (by kernel_rfl) (fun _ _ _ h => h) (Or.inl ⟨by rfl, fun w' hS => by go_simp⟩) hS0 ?_
 try simp only [Act.put, aA, aB, aC]
 refine held_take [] (i := 12) (v := .pointer (some ⟨b, 0, none⟩)) rfl (by kernel_rfl) (fun _ _ _ h => h) (Or.inl ⟨by rfl, fun w' hS => by go_simp⟩) hS0 ?_
 try simp only [Act.put, aA, aB, aC]
 refine held_take [] (i := 13) (v := .pointer (some ⟨w.heap.size, 1, none⟩)) rfl (by kernel_rfl) (fun _ _ _ h => h) (Or.inl ⟨by rfl, fun w' hS => by go_simp⟩) hS0 ?_
 try simp only [Act.put, aA, aB, aC]
 refine held_take [] (i := 14) (v := .int .i64 den) rfl (by kernel_rfl) (fun _ _ _ h => h) (Or.inl ⟨by rfl, fun w' hS => by have hc := hS.cell (i := 1) rfl; go_simp⟩) hS0 ?_
 try simp only [Act.put, aA, aB, aC]
 refine held_one (i := 8) rfl (by kernel_rfl) (fun K hK => ?_)
 go_simp
 have HC := hid (HDN.out wa u0 _ KA.out (Nat.le_trans HB0.out RA.out.kp.size) (HEW.out _ _ (RA.out)))
 refine HC.out.mono ?_; rintro e w1 ⟨rfl, u1, k1, k2⟩
 replace RA := hid (RA.out.trans k2)
 replace KA := hid k1
 refine hK.out _ _ (fun _ => HBK.out _ _ RA.out) ?_
 clear hS0
 have hS0 := HBK.out _ _ RA.out
 clear hK K k1 k2 HC
 try simp only [Act.put, aA, aB, aC]
 refine held_take [] (i := 9) (v := .string ⟨A1.toArray⟩) rfl (by kernel_rfl) (fun _ _ _ h => h) (Or.inl ⟨by rfl, fun w' hS => by have h1 := HA1.out; have h2 := HLA.out; go_simp <;> omega⟩) hS0 ?_
 try simp only [Act.put, aA, aB, aC]
 refine held_one (i := 15) rfl (by kernel_rfl) (fun K hK => ?_)
 go_simp
 have HC := hid (HDD.out w1 u1 _ KA.out (Nat.le_trans HB0.out RA.out.kp.size) (HEW.out _ _ (RA.out)))
 refine HC.out.mono ?_; rintro e w2 ⟨rfl, u2, k1, k2⟩
 replace RA := hid (RA.out.trans k2)
 replace KA := hid k1
 refine hK.out _ _ (fun _ => HBK.out _ _ RA.out) ?_
 clear hS0
 have hS0 := HBK.out _ _ RA.out
 clear hK K k1 k2 HC
 try simp only [Act.put, aA, aB, aC]
 refine held_take [] (i := 16) (v := .string ⟨A2.toArray⟩) rfl (by kernel_rfl) (fun _ _ _ h => h) (Or.inl ⟨by rfl, fun w' hS => by have h1 := HA2.out; have h2 := HL1.out; have h3 := HLD.out; go_simp <;> omega⟩) hS0 ?_
 try simp only [Act.put, aA, aB, aC]
 refine held_one (i := 17) rfl (by kernel_rfl) (fun K hK => ?_)
 go_simp
 have HC := hid (word_any A2 HL2.out w2 u2 _ KA.out (Nat.le_trans HB0.out RA.out.kp.size))
 refine HC.out.mono ?_; rintro e w3 ⟨rfl, u3, k1, k2⟩
 replace RA := hid (RA.out.trans k2)
 replace KA := hid k1
 refine hK.out _ _ (fun _ => HBK.out _ _ RA.out) ?_
 clear hS0
 have hS0 := HBK.out _ _ RA.out
 clear hK K k1 k2 HC
 try simp only [Act.put, aA, aB, aC]
 refine held_done (by kernel_rfl) ?_ _
 have K3 := KA; have R3 := RA
 clear KA RA hS0
 go_wp2
 go_end0
 subst hu0
 exact ⟨rfl, u3, by rw [HE.out]; exact K3.out, HFIN.out _ _ R3.out⟩
end Go.Proofs.YtilfpnkcgjonhaaGreatDoor.Pr
namespace Go.Proofs.YtilfpnkcgjonhaaGreatDoor.Pr
open Go.RowKit Go.Sort Foyer.Printer Foyer.Lexer Foyer.Round
set_option linter.unusedSimpArgs false in
set_option maxRecDepth 100000 in
set_option maxHeartbeats 4000000 in
theorem ratioIf_any {B b : Nat} {T : TypeId} (ws : List UInt8) (hws : ws.length ≤ 90) (num den : Int) (hx : RatioZ.Fit ⟨num, den⟩) (w : World) (v : Value) (s : St) (h : WR B b T w v s) (hB : B ≤ w.heap.size) (hE : EnvAt B w) :
  Calls Tryz.prog 104 #[.pointer (some ⟨b, 0, none⟩), .string ⟨ws.toArray⟩, .agg #[.int .i64 num, .int .i64 den]] w fun e w' => e = .returned (.tuple #[]) ∧ Step B b T w v (ratioIfS ws ⟨num, den⟩ s) w' := by
 have hb0 : Below w.heap.size w (w.alloc (.cells #[.int .i64 num, .int .i64 den] 64)) := (Below.refl _ _).alloc (Nat.le_refl _) _
 have hR : Wrote b w v (w.alloc (.cells #[.int .i64 num, .int .i64 den] 64)) v := (Wrote.refl b _ v).later hb0
 have HBK : Hid (∀ w' v', Wrote b (w.alloc (.cells #[.int .i64 num, .int .i64 den] 64)) v w' v' → Blk w' w.heap.size 64 [.int .i64 num, .int .i64 den]) := hid fun w' v' k => (k.kept (k := w.heap.size) (by simp) (by have := h.lt; omega) (fun e => by have := (h.vlow e).2; omega)).1.trans (Blk.new w 64 [.int .i64 num, .int .i64 den])
 have HB0 : Hid (B ≤ (w.alloc (.cells #[.int .i64 num, .int .i64 den] 64)).heap.size) := hid (by simp; omega)
 have HEW : Hid (∀ w' v', Wrote b (w.alloc (.cells #[.int .i64 num, .int .i64 den] 64)) v w' v' → EnvAt B w') := hid fun w' v' k => hE.below ((hb0.mono hB).trans ((h.later hb0).wrote (by simp; omega) k))
 have HIN : Hid (∀ w' v', Wrote b (w.alloc (.cells #[.int .i64 num, .int .i64 den] 64)) v w' v' → Below B w w') := hid fun w' v' k => (hb0.mono hB).trans ((h.later hb0).wrote (by simp; omega) k)
 have K0 := hid (h.later hb0)
 have HFIN : Hid (∀ w' v', Wrote b (w.alloc (.cells #[.int .i64 num, .int .i64 den] 64)) v w' v' → Wrote b w v w' v') := hid fun w' v' k => hR.trans k
 obtain ⟨w0, hw0⟩ : ∃ w0, w.alloc (.cells #[.int .i64 num, .int .i64 den] 64) = w0 := ⟨_, rfl⟩
 obtain ⟨u0, hu0⟩ : ∃ u0, u0 = v := ⟨v, rfl⟩
 rw [hw0] at HBK HB0 HEW HIN HFIN K0
 rw [← hu0] at HBK HEW HIN HFIN K0
 have R0 := hid (Wrote.refl b w0 u0)
 clear h hb0 hR hE hB
 go_enter Tryz.func104, Tryz.ntmps104
 go_upto_region 2 with fail
 try rw [hw0]
 have hbq : Below w0.heap.size w0 (w0.alloc (.cells #[.int .i64 0, .int .i64 1] 64)) := (Below.refl _ _).alloc (Nat.le_refl _) _
 have hq : Blk (w0.alloc (.cells #[.int .i64 0, .int .i64 1] 64)) w0.heap.size 64 [.int .i64 0, .int .i64 1] := Blk.new _ _ _
 have K1 := hid (K0.out.later hbq); have R1 : Hid (Wrote b w0 u0 _ u0) := hid (R0.out.trans ((Wrote.refl b _ u0).later hbq))
 generalize w0.alloc (.cells #[.int .i64 0, .int .i64 1] 64) = w1 at *
 have c0 := (HBK.out _ _ R1.out).cell (i := 0) rfl
 have c1 := (HBK.out _ _ R1.out).cell (i := 1) rfl
 have d0 := hq.cell (i := 0) rfl
 have d1 := hq.cell (i := 1) rfl
 have hg := fun (x y : Operand) (xs ys : Array Value) (W : World) => ratio_gneq x y xs ys W
 clear hbq hq K0 R0
 by_cases h01 : num = 0 ∧ den = 1
 ·have hy := ratio_neq num den 0 1 false (by simp [h01])
  have HE : Hid (ratioIfS ws ⟨num, den⟩ s = s) := hid (by unfold ratioIfS; rw [if_pos (by rw [h01.1, h01.2])])
  go_wp2
  go_end0
  subst hu0
  exact ⟨rfl, _, by rw [HE.out]; exact K1.out, HFIN.out _ _ R1.out⟩
 ·have hy := ratio_neq num den 0 1 true (by simp only [decide_eq_false h01, Bool.not_false])
  have HE : Hid (ratioIfS ws ⟨num, den⟩ s = ratioS ⟨num, den⟩ (wordS ws s)) := hid (by unfold ratioIfS; rw [if_neg (fun e => h01 (by injection e with e1 e2; exact ⟨e1, e2⟩))])
  have HC := hid (word_any ws hws w1 u0 _ K1.out (Nat.le_trans HB0.out R1.out.kp.size))
  go_wp2_with fail
  refine HC.out.mono ?_; rintro e w2 ⟨rfl, u2, k1, k2⟩
  have K2 := hid k1; have R2 := hid (R1.out.trans k2)
  clear k1 k2 HC K1 R1
  have c0 := (HBK.out _ _ R2.out).cell (i := 0) rfl
  have c1 := (HBK.out _ _ R2.out).cell (i := 1) rfl
  have HC := hid (ratio_any num den hx w2 u2 _ K2.out (Nat.le_trans HB0.out R2.out.kp.size) (HEW.out _ _ (R2.out)))
  go_wp2_with fail
  refine HC.out.mono ?_; rintro e w3 ⟨rfl, u3, k1, k2⟩
  have K3 := hid k1; have R3 := hid (R2.out.trans k2)
  clear k1 k2 HC K2 R2
  go_wp2
  go_end0
  subst hu0
  exact ⟨rfl, u3, by rw [HE.out]; exact K3.out, HFIN.out _ _ R3.out⟩
end Go.Proofs.YtilfpnkcgjonhaaGreatDoor.Pr
namespace Go.Proofs.YtilfpnkcgjonhaaGreatDoor.Pr
open Go.RowKit Go.Sort Foyer.Printer Foyer.Lexer Foyer.Round
theorem index_point : ∀ l : List UInt8, Go.Lib.indexByte l 46 = (match atPoint l with | none => -1 | some p => (p.1.length : Int))
 | [] => rfl
 | c :: r => by
  unfold Go.Lib.indexByte atPoint
  by_cases hc : c = 46
  ·subst hc; simp
  ·have hb : (c == 46) = false := by rw [beq_eq_false_iff_ne]; exact hc
   rw [hb, if_neg hc, index_point r]
   cases h : atPoint r with
   | none => simp
   | some p =>
    have : ((p.1.length : Int) == -1) = false := by rw [beq_eq_false_iff_ne]; omega
    simp [this]
theorem split_parts (l : List UInt8) : Go.Lib.splitB ⟨#[46]⟩ 0 1 ⟨l.toArray⟩ = (partsOf l).map fun x => (⟨x.toArray⟩ : ByteArray) := by
 have hi : Go.Lib.indexB ⟨l.toArray⟩ ⟨#[46]⟩ = (match atPoint l with | none => -1 | some p => (p.1.length : Int)) := by
  rw [← index_point l]
  exact Go.Lib.index_one l 46
 unfold partsOf
 cases h : atPoint l with
 | none =>
  rw [h] at hi
  rw [Go.Lib.splitB_miss _ _ _ _ hi]
  rfl
 | some p =>
  rw [h] at hi
  have hl := atPoint_some h
  rw [Go.Lib.splitB_hit _ _ _ _ p.1.length hi, Go.Lib.splitB_zero]
  have e1 : (⟨l.toArray⟩ : ByteArray).extract 0 (p.1.length + 0) = ⟨p.1.toArray⟩ := by
   obtain ⟨m, hm, hm2⟩ := part_list ⟨l.toArray⟩ 0 (p.1.length + 0)
   rw [hm, hm2]
   congr 2
   simp only [Nat.add_zero, List.drop_zero]
   conv => lhs; rw [hl]
   exact List.take_left
  have e2 : (⟨l.toArray⟩ : ByteArray).extract (p.1.length + (⟨#[46]⟩ : ByteArray).size) (⟨l.toArray⟩ : ByteArray).size = ⟨p.2.toArray⟩ := by
   obtain ⟨m, hm, hm2⟩ := part_list ⟨l.toArray⟩ (p.1.length + (⟨#[46]⟩ : ByteArray).size) (⟨l.toArray⟩ : ByteArray).size
   rw [hm, hm2]
   congr 2
   rw [show (⟨#[46]⟩ : ByteArray).size = 1 from rfl, size_of_list]
   simp only [List.take_length]
   conv => lhs; rw [hl]
   rw [show p.1 ++ 46 :: p.2 = (p.1 ++ [46]) ++ p.2 by simp, show p.1.length + 1 = (p.1 ++ [46]).length by simp]
   exact List.drop_left
  rw [e1, e2]
  rfl
theorem parts_len (l : List UInt8) : (partsOf l).length = 1 ∨ (partsOf l).length = 2 := by
 unfold partsOf
 split
 ·exact Or.inl rfl
 ·exact Or.inr rfl
theorem parts_fit {l : List UInt8} (h : nmOk l) : ∀ x ∈ partsOf l, x.length ≤ 1000000 := by
 unfold nmOk at h
 unfold partsOf
 cases hp : atPoint l with
 | none => intro x hx; rw [List.mem_singleton] at hx; subst hx; exact h
 | some p =>
  have hl := atPoint_some hp
  rw [hl, List.length_append, List.length_cons] at h
  intro x hx
  simp only [List.mem_cons, List.not_mem_nil, or_false] at hx
  rcases hx with rfl | rfl <;> omega
theorem split_any (l : List UInt8) (hl : l ≠ []) (hf : nmOk l) (w : World) (hE : Env w) :
  Calls Tryz.prog 161 #[.string ⟨l.toArray⟩, .string ⟨#[46]⟩, .int .i64 2] w fun e w' => e = .returned (.slice (some ⟨w.heap.size, 0, none⟩) (partsOf l).length 2) ∧
   ∃ C : Array Value, w' = w.alloc (.cells C 9) ∧ ∀ (j : Nat) (x : List UInt8), (partsOf l)[j]? = some x → C[j]? = some (.string ⟨x.toArray⟩) := by
 obtain ⟨m, hm⟩ := hE.len
 have hpos : 1 ≤ l.length := by cases l with | nil => exact absurd rfl hl | cons c r => simp
 unfold nmOk at hf
 have hmin : min 2 ((⟨l.toArray⟩ : ByteArray).size + 1) = 2 := by rw [size_of_list]; omega
 have := Any.strings_SplitN { Tryz.laysM147 with } Tryz.laysM147.i9 ⟨l.toArray⟩ ⟨#[46]⟩ 2 m w (by rw [size_of_list]; omega) hm (by decide) (by decide) (by decide)
 rw [hmin, show 2 - 1 = 1 from rfl, split_parts] at this
 refine this.mono ?_
 rintro e w' ⟨rfl, rfl⟩
 refine ⟨by rw [List.length_map], _, rfl, fun j x hx => ?_⟩
 unfold Go.Lib.cellsOf
 rw [List.getElem?_toArray, List.getElem?_append_left (by
  rw [List.length_map, List.length_map]
  exact (List.getElem?_eq_some_iff.1 hx).1), List.getElem?_map, List.getElem?_map, hx]
 rfl
set_option linter.unusedSimpArgs false in
set_option maxRecDepth 100000 in
set_option maxHeartbeats 4000000 in
theorem test_any {B b : Nat} {T : TypeId} (attr : List UInt8) (op : Int) (name : List UInt8) (n pos : Int) (hx : TestZ.Fit ⟨attr, op, name, n, pos⟩) (w : World) (v : Value) (s : St) (h : WR B b T w v s) (hB : B ≤ w.heap.size) (hE : EnvAt B w) :
  Calls Tryz.prog 136 #[.pointer (some ⟨b, 0, none⟩), .agg #[.string ⟨attr.toArray⟩, .int .i64 op, .string ⟨name.toArray⟩, .int .i64 n, .int .i64 pos]] w fun e w' => e = .returned (.tuple #[]) ∧ Step B b T w v (testS ⟨attr, op, name, n, pos⟩ s) w' := by
 have hb0 : Below w.heap.size w (w.alloc (.cells #[.string ⟨attr.toArray⟩, .int .i64 op, .string ⟨name.toArray⟩, .int .i64 n, .int .i64 pos] 68)) := (Below.refl _ _).alloc (Nat.le_refl _) _
 have hR : Wrote b w v (w.alloc (.cells #[.string ⟨attr.toArray⟩, .int .i64 op, .string ⟨name.toArray⟩, .int .i64 n, .int .i64 pos] 68)) v := (Wrote.refl b _ v).later hb0
 have HBK : Hid (∀ w' v', Wrote b (w.alloc (.cells #[.string ⟨attr.toArray⟩, .int .i64 op, .string ⟨name.toArray⟩, .int .i64 n, .int .i64 pos] 68)) v w' v' → Blk w' w.heap.size 68 [.string ⟨attr.toArray⟩, .int .i64 op, .string ⟨name.toArray⟩, .int .i64 n, .int .i64 pos]) := hid fun w' v' k => (k.kept (k := w.heap.size) (by simp) (by have := h.lt; omega) (fun e => by have := (h.vlow e).2; omega)).1.trans (Blk.new w 68 [.string ⟨attr.toArray⟩, .int .i64 op, .string ⟨name.toArray⟩, .int .i64 n, .int .i64 pos])
 have HB0 : Hid (B ≤ (w.alloc (.cells #[.string ⟨attr.toArray⟩, .int .i64 op, .string ⟨name.toArray⟩, .int .i64 n, .int .i64 pos] 68)).heap.size) := hid (by simp; omega)
 have HEW : Hid (∀ w' v', Wrote b (w.alloc (.cells #[.string ⟨attr.toArray⟩, .int .i64 op, .string ⟨name.toArray⟩, .int .i64 n, .int .i64 pos] 68)) v w' v' → EnvAt B w') := hid fun w' v' k => hE.below ((hb0.mono hB).trans ((h.later hb0).wrote (by simp; omega) k))
 have HIN : Hid (∀ w' v', Wrote b (w.alloc (.cells #[.string ⟨attr.toArray⟩, .int .i64 op, .string ⟨name.toArray⟩, .int .i64 n, .int .i64 pos] 68)) v w' v' → Below B w w') := hid fun w' v' k => (hb0.mono hB).trans ((h.later hb0).wrote (by simp; omega) k)
 have K0 := hid (h.later hb0)
 have HFIN : Hid (∀ w' v', Wrote b (w.alloc (.cells #[.string ⟨attr.toArray⟩, .int .i64 op, .string ⟨name.toArray⟩, .int .i64 n, .int .i64 pos] 68)) v w' v' → Wrote b w v w' v') := hid fun w' v' k => hR.trans k
 obtain ⟨w0, hw0⟩ : ∃ w0, w.alloc (.cells #[.string ⟨attr.toArray⟩, .int .i64 op, .string ⟨name.toArray⟩, .int .i64 n, .int .i64 pos] 68) = w0 := ⟨_, rfl⟩
 obtain ⟨u0, hu0⟩ : ∃ u0, u0 = v := ⟨v, rfl⟩
 rw [hw0] at HBK HB0 HEW HIN HFIN K0
 rw [← hu0] at HBK HEW HIN HFIN K0
 have R0 := hid (Wrote.refl b w0 u0)
 obtain ⟨hx1, hx2, hx3, hx4⟩ := hx
 simp only at hx1 hx2 hx3 hx4
 clear h hb0 hR hE hB
 go_enter Tryz.func136, Tryz.ntmps136
 go_upto_region 2 with fail
 try rw [hw0]
 have hbq : Below w0.heap.size w0 (w0.alloc (.cells (strCells' opWords).toArray 224)) := (Below.refl _ _).alloc (Nat.le_refl _) _
 have HQ0 : Hid (Blk (w0.alloc (.cells (strCells' opWords).toArray 224)) w0.heap.size 224 (strCells' opWords)) := hid (Blk.new _ _ _)
 have hq1 : w0.heap.size ≠ b := by have := K0.out.lt; omega
 have hq2 : u0.ownBlock ≠ some w0.heap.size := fun e => by have := (K0.out.vlow e).2; omega
 have HQ1 := hid hq1; have HQ2 := hid hq2
 have K1 := hid (K0.out.later hbq); have R1 : Hid (Wrote b w0 u0 _ u0) := hid (R0.out.trans ((Wrote.refl b _ u0).later hbq))
 obtain ⟨q, hq⟩ : ∃ q, w0.heap.size = q := ⟨_, rfl⟩
 change Code.wp _ _ _ _ (w0.alloc (.cells (strCells' opWords).toArray 224))
 generalize w0.alloc (.cells (strCells' opWords).toArray 224) = w1 at *
 rw [hq] at HQ0 HQ1 HQ2
 try rw [hq]
 clear hbq hq1 hq2 K0 R0
 replace HBK : Hid (∀ w' v', Wrote b w1 u0 w' v' → Blk w' w.heap.size 68 [.string ⟨attr.toArray⟩, .int .i64 op, .string ⟨name.toArray⟩, .int .i64 n, .int .i64 pos]) := hid fun w' v' k => HBK.out _ _ (R1.out.trans k)
 replace HEW : Hid (∀ w' v', Wrote b w1 u0 w' v' → EnvAt B w') := hid fun w' v' k => HEW.out _ _ (R1.out.trans k)
 have HFIN1 : Hid (∀ w' v', Wrote b w1 u0 w' v' → Wrote b w u0 w' v') := hid fun w' v' k => HFIN.out _ _ (R1.out.trans k)
 replace HB0 : Hid (B ≤ w1.heap.size) := hid (Nat.le_trans HB0.out R1.out.kp.size)
 have HQ : Hid (∀ w' v', Wrote b w1 u0 w' v' → Blk w' q 224 (strCells' opWords) ∧ v'.ownBlock ≠ some q) := hid fun w' v' k => by
  obtain ⟨h1, h2, _⟩ := k.kept HQ0.out.lt HQ1.out HQ2.out
  exact ⟨h1.trans HQ0.out, h2⟩
 clear HFIN R1 HQ0 HQ2
 have R1 := hid (Wrote.refl b w1 u0)
 refine wp_region_any (by kernel_rfl) ?_
 have KA := hid K1.out.drew; have RA := hid R1.out.drew
 have hS0 : Blk w1.drew w.heap.size 68 [.string ⟨attr.toArray⟩, .int .i64 op, .string ⟨name.toArray⟩, .int .i64 n, .int .i64 pos] := HBK.out _ _ RA.out
 refine any_of_held (S := fun W => Blk W w.heap.size 68 [.string ⟨attr.toArray⟩, .int .i64 op, .string ⟨name.toArray⟩, .int .i64 n, .int .i64 pos]) (N := []) _ _ _ _ ?_
 change held _ _ _ _ _ _ _ _ _ w1.drew
 obtain ⟨wa, hwa⟩ : ∃ wa, w1.drew = wa := ⟨_, rfl⟩
 rw [hwa] at hS0 KA RA ⊢
 clear hwa K1 R1
 refine held_take [] (i := 0) (v := .pointer (some ⟨b, 0, none⟩)) rfl (by kernel_rfl) (fun _ _ _ h => h) (Or.inl ⟨by rfl, fun w' hS => by go_simp⟩) hS0 ?_
 try simp only [Act.put, aA, aB, aC]
 refine held_take [] (i := 1) (v := .pointer (some ⟨b, 0, none⟩)) rfl (by kernel_rfl) (fun _ _ _ h => h) (Or.inl ⟨by rfl, fun w' hS => by go_simp⟩) hS0 ?_
 try simp only [Act.put, aA, aB, aC]
 refine held_take [] (i := 2) (v := .pointer (some ⟨b, 0, none⟩)) rfl (by kernel_rfl) (fun _ _ _ h => h) (Or.inl ⟨by rfl, fun w' hS => by go_simp⟩) hS0 ?_
 try simp only [Act.put, aA, aB, aC]
 refine held_take [] (i := 3) (v := .pointer (some ⟨w.heap.size, 0, none⟩)) rfl (by kernel_rfl) (fun _ _ _ h => h) (Or.inl ⟨by rfl, fun w' hS => by go_simp⟩) hS0 ?_
 try simp only [Act.put, aA, aB, aC]
 refine held_take [] (i := 4) (v := .string ⟨attr.toArray⟩) rfl (by kernel_rfl) (fun _ _ _ h => h) (Or.inl ⟨by rfl, fun w' hS => by have hc := hS.cell (i := 0) rfl; go_simp⟩) hS0 ?_
 try simp only [Act.put, aA, aB, aC]
 refine held_one (i := 5) rfl (by kernel_rfl) (fun K hK => ?_)
 go_simp
 refine hK.out _ _ (fun _ => hS0.alloc _) ?_
 clear hK K
 try simp only [Act.put, aA, aB, aC]
 refine held_one (i := 6) rfl (by kernel_rfl) (fun K hK => ?_)
 go_simp
 have HC := hid (name_new attr hx1 wa u0 _ KA.out (Nat.le_trans HB0.out RA.out.kp.size))
 refine HC.out.mono ?_; rintro e w2 ⟨rfl, u2, k1, k2⟩
 have K2 := hid k1; have R2 := hid (RA.out.trans k2)
 refine hK.out _ _ (fun _ => HBK.out _ _ R2.out) ?_
 clear hK K k1 k2 HC KA RA hS0
 try simp only [Act.put, aA, aB, aC]
 refine held_done (by kernel_rfl) ?_ _
 go_upto_region 3 with fail
 refine wp_region_any (by kernel_rfl) ?_
 have hQ : Blk w2.drew q 224 (strCells' opWords) ∧ u2.ownBlock ≠ some q := HQ.out _ _ R2.out.drew
 have KA := hid K2.out.drew; have RA := hid R2.out.drew
 have hS0 : Blk w2.drew w.heap.size 68 [.string ⟨attr.toArray⟩, .int .i64 op, .string ⟨name.toArray⟩, .int .i64 n, .int .i64 pos] := HBK.out _ _ RA.out
 refine any_of_held (S := fun W => Blk W w.heap.size 68 [.string ⟨attr.toArray⟩, .int .i64 op, .string ⟨name.toArray⟩, .int .i64 n, .int .i64 pos]) (N := []) _ _ _ _ ?_
 change held _ _ _ _ _ _ _ _ _ w2.drew
 obtain ⟨wa, hwa⟩ : ∃ wa, w2.drew = wa := ⟨_, rfl⟩
 rw [hwa] at hS0 KA RA hQ ⊢
 clear hwa K2 R2
 refine held_take [] (i := 0) (v := .pointer (some ⟨b, 0, none⟩)) rfl (by kernel_rfl) (fun _ _ _ h => h) (Or.inl ⟨by rfl, fun w' hS => by go_simp⟩) hS0 ?_
 try simp only [Act.put, aA, aB, aC]
 refine held_take [] (i := 1) (v := .pointer (some ⟨b, 0, none⟩)) rfl (by kernel_rfl) (fun _ _ _ h => h) (Or.inl ⟨by rfl, fun w' hS => by go_simp⟩) hS0 ?_
 try simp only [Act.put, aA, aB, aC]
 refine held_take [] (i := 2) (v := .pointer (some ⟨b, 0, none⟩)) rfl (by kernel_rfl) (fun _ _ _ h => h) (Or.inl ⟨by rfl, fun w' hS => by go_simp⟩) hS0 ?_
 try simp only [Act.put, aA, aB, aC]
 refine held_take [] (i := 3) (v := .slice (some ⟨q, 0, none⟩) 7 7) rfl (by kernel_rfl) (fun _ _ _ h => h) (Or.inl ⟨by rfl, fun w' hS => by go_simp⟩) hS0 ?_
 try simp only [Act.put, aA, aB, aC]
 refine held_take [] (i := 4) (v := .pointer (some ⟨w.heap.size, 1, none⟩)) rfl (by kernel_rfl) (fun _ _ _ h => h) (Or.inl ⟨by rfl, fun w' hS => by go_simp⟩) hS0 ?_
 try simp only [Act.put, aA, aB, aC]
 refine held_take [] (i := 5) (v := .int .i64 op) rfl (by kernel_rfl) (fun _ _ _ h => h) (Or.inl ⟨by rfl, fun w' hS => by have hc := hS.cell (i := 1) rfl; go_simp⟩) hS0 ?_
 try simp only [Act.put, aA, aB, aC]
 refine held_one (i := 6) rfl (by kernel_rfl) (fun K hK => ?_)
 go_simp
 have HC := hid (oneOf_any opWords (by decide) op hx2 q _ wa u2 _ KA.out (Nat.le_trans HB0.out RA.out.kp.size) HQ1.out hQ.2 hQ.1)
 refine HC.out.mono ?_; rintro e w3 ⟨rfl, u3, k1, k2⟩
 have K3 := hid k1; have R3 := hid (RA.out.trans k2)
 refine hK.out _ _ (fun _ => HBK.out _ _ R3.out) ?_
 clear hK K k1 k2 HC KA RA hS0 hQ
 try simp only [Act.put, aA, aB, aC]
 refine held_done (by kernel_rfl) ?_ _
 clear HQ
 have c2 := (HBK.out _ _ R3.out).cell (i := 2) rfl
 by_cases hk : name = []
 ·subst hk
  have hs : Hid (testS ⟨attr, op, [], n, pos⟩ s = numbersS [n] (oneOfS opWords op (namesS [attr] s))) := hid rfl
  go_upto_region 5 with fail
  refine wp_region_any (by kernel_rfl) ?_
  have KA := hid K3.out.drew; have RA := hid R3.out.drew
  have hS0 : Blk w3.drew w.heap.size 68 [.string ⟨attr.toArray⟩, .int .i64 op, .string ⟨([] : List UInt8).toArray⟩, .int .i64 n, .int .i64 pos] := HBK.out _ _ RA.out
  refine any_of_held (S := fun W => Blk W w.heap.size 68 [.string ⟨attr.toArray⟩, .int .i64 op, .string ⟨([] : List UInt8).toArray⟩, .int .i64 n, .int .i64 pos]) (N := []) _ _ _ _ ?_
  change held _ _ _ _ _ _ _ _ _ w3.drew
  obtain ⟨wa, hwa⟩ : ∃ wa, w3.drew = wa := ⟨_, rfl⟩
  rw [hwa] at hS0 KA RA ⊢
  clear hwa K3 R3
  refine held_take [] (i := 0) (v := .pointer (some ⟨b, 0, none⟩)) rfl (by kernel_rfl) (fun _ _ _ h => h) (Or.inl ⟨by rfl, fun w' hS => by go_simp⟩) hS0 ?_
  try simp only [Act.put, aA, aB, aC]
  refine held_take [] (i := 1) (v := .pointer (some ⟨b, 0, none⟩)) rfl (by kernel_rfl) (fun _ _ _ h => h) (Or.inl ⟨by rfl, fun w' hS => by go_simp⟩) hS0 ?_
  try simp only [Act.put, aA, aB, aC]
  refine held_take [] (i := 2) (v := .pointer (some ⟨b, 0, none⟩)) rfl (by kernel_rfl) (fun _ _ _ h => h) (Or.inl ⟨by rfl, fun w' hS => by go_simp⟩) hS0 ?_
  try simp only [Act.put, aA, aB, aC]
  refine held_take [] (i := 3) (v := .pointer (some ⟨w.heap.size, 3, none⟩)) rfl (by kernel_rfl) (fun _ _ _ h => h) (Or.inl ⟨by rfl, fun w' hS => by go_simp⟩) hS0 ?_
  try simp only [Act.put, aA, aB, aC]
  refine held_take [] (i := 4) (v := .int .i64 n) rfl (by kernel_rfl) (fun _ _ _ h => h) (Or.inl ⟨by rfl, fun w' hS => by have hc := hS.cell (i := 3) rfl; go_simp⟩) hS0 ?_
  try simp only [Act.put, aA, aB, aC]
  refine held_one (i := 5) rfl (by kernel_rfl) (fun K hK => ?_)
  go_simp
  refine hK.out _ _ (fun _ => hS0.alloc _) ?_
  clear hK K
  try simp only [Act.put, aA, aB, aC]
  refine held_one (i := 6) rfl (by kernel_rfl) (fun K hK => ?_)
  go_simp
  have HC := hid (numbers_new [n] (by intro z hz; rw [List.mem_singleton] at hz; subst hz; exact hx4) (by simp) wa u3 _ KA.out (Nat.le_trans HB0.out RA.out.kp.size) (HEW.out _ _ (RA.out)))
  refine HC.out.mono ?_; rintro e w4 ⟨rfl, u4, k1, k2⟩
  have K4 := hid k1; have R4 := hid (RA.out.trans k2)
  refine hK.out _ _ (fun _ => HBK.out _ _ R4.out) ?_
  clear hK K k1 k2 HC KA RA hS0
  try simp only [Act.put, aA, aB, aC]
  refine held_done (by kernel_rfl) ?_ _
  go_wp2
  refine bodyPost_ret (results_none rfl _ _ _) rfl ?_
  subst hu0
  exact ⟨rfl, u4, by rw [hs.out]; exact K4.out, HFIN1.out _ _ R4.out⟩
 ·have hs : Hid (testS ⟨attr, op, name, n, pos⟩ s = namesS (partsOf name) (requireS (decide (n = 0)) (oneOfS opWords op (namesS [attr] s)))) := hid (by unfold testS; simp only [hk, if_false])
  have hk0 : (name == []) = false := by rw [beq_eq_false_iff_ne]; exact hk
  go_upto_region 6 with fail
  refine wp_region_any (by kernel_rfl) ?_
  have KA := hid K3.out.drew; have RA := hid R3.out.drew
  have hS0 : Blk w3.drew w.heap.size 68 [.string ⟨attr.toArray⟩, .int .i64 op, .string ⟨name.toArray⟩, .int .i64 n, .int .i64 pos] := HBK.out _ _ RA.out
  refine any_of_held (S := fun W => Blk W w.heap.size 68 [.string ⟨attr.toArray⟩, .int .i64 op, .string ⟨name.toArray⟩, .int .i64 n, .int .i64 pos]) (N := []) _ _ _ _ ?_
  change held _ _ _ _ _ _ _ _ _ w3.drew
  obtain ⟨wa, hwa⟩ : ∃ wa, w3.drew = wa := ⟨_, rfl⟩
  rw [hwa] at hS0 KA RA ⊢
  clear hwa K3 R3
  refine held_take [] (i := 0) (v := .pointer (some ⟨b, 0, none⟩)) rfl (by kernel_rfl) (fun _ _ _ h => h) (Or.inl ⟨by rfl, fun w' hS => by go_simp⟩) hS0 ?_
  try simp only [Act.put, aA, aB, aC]
  refine held_take [] (i := 1) (v := .pointer (some ⟨b, 0, none⟩)) rfl (by kernel_rfl) (fun _ _ _ h => h) (Or.inl ⟨by rfl, fun w' hS => by go_simp⟩) hS0 ?_
  try simp only [Act.put, aA, aB, aC]
  refine held_take [] (i := 2) (v := .pointer (some ⟨b, 0, none⟩)) rfl (by kernel_rfl) (fun _ _ _ h => h) (Or.inl ⟨by rfl, fun w' hS => by go_simp⟩) hS0 ?_
  try simp only [Act.put, aA, aB, aC]
  refine held_take [] (i := 3) (v := .pointer (some ⟨w.heap.size, 3, none⟩)) rfl (by kernel_rfl) (fun _ _ _ h => h) (Or.inl ⟨by rfl, fun w' hS => by go_simp⟩) hS0 ?_
  try simp only [Act.put, aA, aB, aC]
  refine held_take [] (i := 4) (v := .int .i64 n) rfl (by kernel_rfl) (fun _ _ _ h => h) (Or.inl ⟨by rfl, fun w' hS => by have hc := hS.cell (i := 3) rfl; go_simp⟩) hS0 ?_
  try simp only [Act.put, aA, aB, aC]
  refine held_take [] (i := 5) (v := .bool (n == 0)) rfl (by kernel_rfl) (fun _ _ _ h => h) (Or.inl ⟨by rfl, fun w' hS => by go_simp⟩) hS0 ?_
  try simp only [Act.put, aA, aB, aC]
  refine held_one (i := 6) rfl (by kernel_rfl) (fun K hK => ?_)
  go_simp
  have HC := hid (require_s (decide (n = 0)) wa u3 _ KA.out)
  refine HC.out.mono ?_; rintro e w4 ⟨rfl, u4, k1, k2⟩
  have K4 := hid k1; have R4 := hid (RA.out.trans k2)
  refine hK.out _ _ (fun _ => HBK.out _ _ R4.out) ?_
  clear hK K k1 k2 HC KA RA hS0
  try simp only [Act.put, aA, aB, aC]
  refine held_done (by kernel_rfl) ?_ _
  go_upto_region 7 with fail
  refine wp_region_any (by kernel_rfl) ?_
  have KA := hid K4.out.drew; have RA := hid R4.out.drew
  have hS0 : Blk w4.drew w.heap.size 68 [.string ⟨attr.toArray⟩, .int .i64 op, .string ⟨name.toArray⟩, .int .i64 n, .int .i64 pos] := HBK.out _ _ RA.out
  refine any_of_held (S := fun W => Blk W w.heap.size 68 [.string ⟨attr.toArray⟩, .int .i64 op, .string ⟨name.toArray⟩, .int .i64 n, .int .i64 pos]) (N := []) _ _ _ _ ?_
  change held _ _ _ _ _ _ _ _ _ w4.drew
  obtain ⟨wa, hwa⟩ : ∃ wa, w4.drew = wa := ⟨_, rfl⟩
  rw [hwa] at hS0 KA RA ⊢
  clear hwa K4 R4
  refine held_take [] (i := 0) (v := .pointer (some ⟨b, 0, none⟩)) rfl (by kernel_rfl) (fun _ _ _ h => h) (Or.inl ⟨by rfl, fun w' hS => by go_simp⟩) hS0 ?_
  try simp only [Act.put, aA, aB, aC]
  refine held_take [] (i := 1) (v := .pointer (some ⟨b, 0, none⟩)) rfl (by kernel_rfl) (fun _ _ _ h => h) (Or.inl ⟨by rfl, fun w' hS => by go_simp⟩) hS0 ?_
  try simp only [Act.put, aA, aB, aC]
  refine held_take [] (i := 2) (v := .pointer (some ⟨b, 0, none⟩)) rfl (by kernel_rfl) (fun _ _ _ h => h) (Or.inl ⟨by rfl, fun w' hS => by go_simp⟩) hS0 ?_
  try simp only [Act.put, aA, aB, aC]
  refine held_take [] (i := 3) (v := .pointer (some ⟨w.heap.size, 2, none⟩)) rfl (by kernel_rfl) (fun _ _ _ h => h) (Or.inl ⟨by rfl, fun w' hS => by go_simp⟩) hS0 ?_
  try simp only [Act.put, aA, aB, aC]
  refine held_take [] (i := 4) (v := .string ⟨name.toArray⟩) rfl (by kernel_rfl) (fun _ _ _ h => h) (Or.inl ⟨by rfl, fun w' hS => by have hc := hS.cell (i := 2) rfl; go_simp⟩) hS0 ?_
  try simp only [Act.put, aA, aB, aC]
  refine held_one (i := 5) rfl (by kernel_rfl) (fun K hK => ?_)
  go_simp
  refine (split_any name hk hx3 wa (HEW.out _ _ RA.out).env).mono ?_; rintro e wz ⟨rfl, C, rfl, hC⟩
  have hbz : Below wa.heap.size wa (wa.alloc (.cells C 9)) := (Below.refl _ _).alloc (Nat.le_refl _) _
  have HC0 := hid hC
  refine hK.out _ _ (fun _ => hS0.alloc _) ?_
  clear hK K hC
  try simp only [Act.put, aA, aB, aC]
  refine held_one (i := 6) rfl (by kernel_rfl) (fun K hK => ?_)
  go_simp
  have hlt := KA.out.lt
  have HC := hid (names_any (partsOf name) (parts_len name) (parts_fit hx3) wa.heap.size 0 2 (by have := parts_len name; omega) (wa.alloc (.cells C 9)) u4 _ (KA.out.later hbz) (Nat.le_trans HB0.out (Nat.le_trans RA.out.kp.size hbz.size)) (by omega) (fun e => by have := (KA.out.vlow e).2; omega) (by simp) (fun j x hj => by
   rw [Nat.zero_add]
   have h2 := HC0.out j x hj
   exact Blk.cell (b := wa.heap.size) (T := 9) (cs := C.toList) (by have := Blk.new wa 9 C.toList; simpa using this) (by simpa using h2)))
  refine HC.out.mono ?_; rintro e w5 ⟨rfl, u5, k1, k2⟩
  replace RA := hid (RA.out.trans (k2.later hbz))
  replace KA := hid k1
  refine hK.out _ _ (fun _ => HBK.out _ _ RA.out) ?_
  clear hS0
  have hS0 := HBK.out _ _ RA.out
  clear hK K k1 k2 HC hbz HC0
  try simp only [Act.put, aA, aB, aC]
  refine held_done (by kernel_rfl) ?_ _
  have K5 := KA; have R5 := RA
  clear KA RA hS0
  go_wp2
  go_end0
  subst hu0
  exact ⟨rfl, u5, by rw [hs.out]; exact K5.out, HFIN1.out _ _ R5.out⟩
end Go.Proofs.YtilfpnkcgjonhaaGreatDoor.Pr
namespace Go.Proofs.YtilfpnkcgjonhaaGreatDoor.Pr
open Go.RowKit Go.Sort Foyer.Printer Foyer.Lexer Foyer.Round
def headS : List TestZ → St → St
 | [], s => s
 | t :: r, s => restS r (testS t s)
theorem restS_snoc : ∀ (r : List TestZ) (x : TestZ) (s : St), restS (r ++ [x]) s = testS x (wordS wAnd (restS r s))
 | [], _, _ => rfl
 | _ :: r, x, _ => restS_snoc r x _
theorem headS_next {l : List TestZ} {k : Nat} {x : TestZ} (h : l[k]? = some x) (s : St) : headS (l.take (k + 1)) s = testS x (if k = 0 then headS (l.take k) s else wordS wAnd (headS (l.take k) s)) := by
 obtain ⟨h1, h2⟩ := List.getElem?_eq_some_iff.1 h
 rw [List.take_succ_eq_append_getElem h1, h2]
 cases k with
 | zero => rfl
 | succ k =>
  rw [if_neg (by omega)]
  cases l with
  | nil => simp at h1
  | cons y r =>
   rw [List.take_succ_cons, List.cons_append]
   exact restS_snoc _ _ _
set_option linter.unusedSimpArgs false in
set_option maxRecDepth 100000 in
set_option maxHeartbeats 4000000 in
theorem tests_any {B b : Nat} {T : TypeId} (l : List TestZ) (hl : ∀ t ∈ l, TestZ.Fit t) (p : Option Addr) (n cap : Nat) (w : World) (v : Value) (s : St) (h : WR B b T w v s) (hB : B ≤ w.heap.size) (hE : EnvAt B w) (hm : Lk testL w B (.slice p n cap) l) :
  Calls Tryz.prog 106 #[.pointer (some ⟨b, 0, none⟩), .slice p n cap] w fun e w' => e = .returned (.tuple #[]) ∧ Step B b T w v (testsS l s) w' := by
 have HIN : Hid (∀ w' v', Wrote b w v w' v' → Below B w w') := hid fun w' v' k => h.wrote hB k
 have HEW : Hid (∀ w' v', Wrote b w v w' v' → EnvAt B w') := hid fun w' v' k => hE.below (h.wrote hB k)
 have HL := hid hm; have HF := hid hl; have HB0 := hid hB
 have hlen := hm.len.1
 have hn2 := hm.len.2
 by_cases hc : 0 < n ∧ n ≤ 12
 ·obtain ⟨k1, k2⟩ := requireS_step h true
  have H1 := hid (require_any true w v s h)
  have e1 : requireS true s = s := by simp [requireS]
  rw [e1] at k1
  have HS : Hid (testsS l s = headS l s) := hid (by
   unfold testsS; rw [if_pos (by rw [hlen]; exact hc)]
   cases l <;> rfl)
  generalize w.setCell ⟨b, 2, none⟩ (.bool (s.refused || !true)) = w1 at *
  have K1 := hid k1; have R1 := hid k2
  have hn0 : 0 < n := hc.1
  have hd2 : decide ((n : Int) ≤ 12) = true := by rw [decide_eq_true_eq]; omega
  have hn12 : n ≤ 12 := hc.2
  clear h k1 k2 e1 hc hm hl hB hE hlen hn2
  go_enter Tryz.func106, Tryz.ntmps106
  go_wp2_with fail
  refine H1.out.mono ?_; rintro e w2 ⟨rfl, rfl⟩
  clear H1
  go_wp2
  go_loopw [21] (fun i wr => ∃ (k : Nat) (uo : Value), i = .int .i64 k ∧ k ≤ n ∧ Hid (WR B b T wr uo (headS (l.take k) s)) ∧ Hid (Wrote b w v wr uo)) (fun i _ => n - (intOf i).toNat)
  case atStart => exact ⟨0, v, rfl, Nat.zero_le _, hid (by rw [List.take_zero]; exact K1.out), R1⟩
  case round =>
   obtain ⟨k, uo, rfl, hk, HV, HR⟩ := hrel
   by_cases hkn : k < n
   ·obtain ⟨x, hx⟩ : ∃ x, l[k]? = some x := ⟨_, List.getElem?_eq_getElem (by have := HL.out.len.1; omega)⟩
    have hf := HF.out x (List.mem_of_getElem? hx)
    have hst := headS_next hx s
    obtain ⟨t, ht⟩ : ∃ t, headS (l.take k) s = t := ⟨_, rfl⟩
    rw [ht] at hst HV
    obtain ⟨lb, lo, c, rfl, hlb, hc, hcell⟩ := (HL.out.below (HIN.out _ _ HR.out)).at hx
    obtain rfl := hc
    obtain ⟨attr, op, name, num, pos⟩ := x
    have d0 := hcell 0 _ rfl
    have d1 := hcell 1 _ rfl
    have d2 := hcell 2 _ rfl
    have d3 := hcell 3 _ rfl
    have d4 := hcell 4 _ rfl
    rw [show testL.size = 5 from rfl] at d0 d1 d2 d3 d4
    rw [Nat.add_zero] at d0
    have hki : (0 : Int) ≤ k ∧ (k : Int) < n := by omega
    have hbe : Below wr.heap.size wr (wr.alloc (.cells #[.string ⟨attr.toArray⟩, .int .i64 op, .string ⟨name.toArray⟩, .int .i64 num, .int .i64 pos] 68)) := (Below.refl _ _).alloc (Nat.le_refl _) _
    have HRE : Hid (Wrote b w v (wr.alloc (.cells #[.string ⟨attr.toArray⟩, .int .i64 op, .string ⟨name.toArray⟩, .int .i64 num, .int .i64 pos] 68)) uo) := hid (HR.out.trans ((Wrote.refl b _ uo).later hbe))
    have KE := hid (HV.out.later hbe)
    have HBE : Hid (∀ w' v', Wrote b (wr.alloc (.cells #[.string ⟨attr.toArray⟩, .int .i64 op, .string ⟨name.toArray⟩, .int .i64 num, .int .i64 pos] 68)) uo w' v' → Blk w' wr.heap.size 68 [.string ⟨attr.toArray⟩, .int .i64 op, .string ⟨name.toArray⟩, .int .i64 num, .int .i64 pos]) := hid fun w' v' k => (k.kept (k := wr.heap.size) (by simp) (by have := HV.out.lt; omega) (fun e => by have := (HV.out.vlow e).2; omega)).1.trans (Blk.new wr 68 [.string ⟨attr.toArray⟩, .int .i64 op, .string ⟨name.toArray⟩, .int .i64 num, .int .i64 pos])
    have HST := hid hst; have HFT := hid hf
    clear hx hst hf ht hcell hbe hlb
    by_cases hk0 : k = 0
    ·subst hk0
     rw [if_pos rfl] at HST
     rw [Nat.zero_mul, Nat.add_zero] at d0 d1 d2 d3 d4
     have HC := hid (test_any attr op name num pos HFT.out _ uo t KE.out (Nat.le_trans HB0.out HRE.out.kp.size) (HEW.out _ _ HRE.out))
     clear KE HBE
     go_wp2_with fail
     refine HC.out.mono ?_; rintro e wz ⟨rfl, uz, k1, k2⟩
     have KZ := hid k1; have RZ := hid (HRE.out.trans k2)
     clear k1 k2 HC HRE d0 d1 d2 d3 d4
     go_wp2
     go_roundw
     case rel => exact ⟨0 + 1, uz, by go_num, by omega, by rw [HST.out]; exact KZ, RZ⟩
     case measure => simp [intOf]; omega
    ·rw [if_neg hk0] at HST
     have hkp : decide ((0 : Int) < (k : Int)) = true := by rw [decide_eq_true_eq]; omega
     have HC := hid (word_any wAnd (by decide) _ uo t KE.out (Nat.le_trans HB0.out HRE.out.kp.size))
     clear KE
     go_wp2_with fail
     refine HC.out.mono ?_; rintro e wy ⟨rfl, uy, k1, k2⟩
     have hbk := HBE.out _ _ k2
     have e0 := hbk.cell (i := 0) rfl
     have e1 := hbk.cell (i := 1) rfl
     have e2 := hbk.cell (i := 2) rfl
     have e3 := hbk.cell (i := 3) rfl
     have e4 := hbk.cell (i := 4) rfl
     have KY := hid k1; have RY := hid (HRE.out.trans k2)
     clear k1 k2 HC HRE d0 d1 d2 d3 d4 HBE hbk
     have HC := hid (test_any attr op name num pos HFT.out wy uy _ KY.out (Nat.le_trans HB0.out RY.out.kp.size) (HEW.out _ _ RY.out))
     go_wp2_with fail
     refine HC.out.mono ?_; rintro e wz ⟨rfl, uz, k1, k2⟩
     have KZ := hid k1; have RZ := hid (RY.out.trans k2)
     clear k1 k2 HC KY RY e0 e1 e2 e3 e4
     go_wp2
     go_roundw
     case rel => exact ⟨k + 1, uz, by go_num, by omega, by rw [HST.out]; exact KZ, RZ⟩
     case measure => simp [intOf]; omega
   ·have hkn2 : k = n := by omega
    subst hkn2
    rw [show l.take k = l from List.take_of_length_le (by have := HL.out.len.1; omega)] at HV
    go_wp2
    go_end0
    exact ⟨rfl, uo, by rw [HS.out]; exact HV.out, HR.out⟩
 ·obtain ⟨k1, k2⟩ := requireS_step h false
  have H1 := hid (require_any false w v s h)
  generalize w.setCell ⟨b, 2, none⟩ (.bool (s.refused || !false)) = w1 at *
  have HS : Hid (testsS l s = requireS false s) := hid (by unfold testsS; rw [if_neg (by rw [hlen]; exact hc)])
  have K1 := hid k1; have K2 := hid k2
  clear h k1 k2 hm hl hB hE hlen
  by_cases h0 : 0 < n
  ·have hd2 : decide ((n : Int) ≤ 12) = false := by rw [decide_eq_false_iff_not]; omega
   clear hc
   go_enter Tryz.func106, Tryz.ntmps106
   go_wp2_with fail
   refine H1.out.mono ?_; rintro e w2 ⟨rfl, rfl⟩
   go_wp2
   refine bodyPost_ret (results_none rfl _ _ _) rfl ?_
   exact ⟨rfl, v, by rw [HS.out]; exact K1.out, K2.out⟩
  ·obtain rfl : n = 0 := by omega
   clear hc h0
   go_enter Tryz.func106, Tryz.ntmps106
   go_wp2_with fail
   refine H1.out.mono ?_; rintro e w2 ⟨rfl, rfl⟩
   go_wp2
   refine bodyPost_ret (results_none rfl _ _ _) rfl ?_
   exact ⟨rfl, v, by rw [HS.out]; exact K1.out, K2.out⟩
def nextW (k : Nat) : List UInt8 := if k = 0 then wWhen else wOr
theorem altsS_snoc : ∀ (c : List (List TestZ)) (w : List UInt8) (x : List TestZ) (s : St), altsS w (c ++ [x]) s = testsS x (wordS (if c = [] then w else wOr) (altsS w c s))
 | [], _, _, _ => rfl
 | y :: r, w, x, s => by
  rw [List.cons_append, altsS, altsS_snoc r wOr x, if_neg (by simp : ¬ y :: r = [])]
  cases r with
  | nil => rfl
  | cons z r => rw [if_neg (by simp)]; rfl
theorem altsS_next {c : List (List TestZ)} {k : Nat} {x : List TestZ} (h : c[k]? = some x) (s : St) : altsS wWhen (c.take (k + 1)) s = testsS x (wordS (nextW k) (altsS wWhen (c.take k) s)) := by
 obtain ⟨h1, h2⟩ := List.getElem?_eq_some_iff.1 h
 rw [List.take_succ_eq_append_getElem h1, h2, altsS_snoc]
 have e : (if c.take k = [] then wWhen else wOr) = nextW k := by
  unfold nextW
  by_cases hk : k = 0
  ·subst hk; rw [List.take_zero, if_pos rfl, if_pos rfl]
  ·rw [if_neg hk, if_neg]
   intro e
   have := congrArg List.length e
   rw [List.length_take] at this
   simp only [List.length_nil] at this
   omega
 rw [e]
set_option linter.unusedSimpArgs false in
set_option maxRecDepth 100000 in
set_option maxHeartbeats 4000000 in
theorem when_any {B b : Nat} {T : TypeId} (l : List (List TestZ)) (hl : ∀ x ∈ l, ∀ t ∈ x, TestZ.Fit t) (p : Option Addr) (n cap : Nat) (w : World) (v : Value) (s : St) (h : WR B b T w v s) (hB : B ≤ w.heap.size) (hE : EnvAt B w) (hm : Lk testsL w B (.slice p n cap) l) :
  Calls Tryz.prog 80 #[.pointer (some ⟨b, 0, none⟩), .slice p n cap] w fun e w' => e = .returned (.tuple #[]) ∧ Step B b T w v (whenS l s) w' := by
 have HIN : Hid (∀ w' v', Wrote b w v w' v' → Below B w w') := hid fun w' v' k => h.wrote hB k
 have HEW : Hid (∀ w' v', Wrote b w v w' v' → EnvAt B w') := hid fun w' v' k => hE.below (h.wrote hB k)
 have HL := hid hm; have HF := hid hl; have HB0 := hid hB
 have hlen := hm.len.1
 by_cases hc : n ≤ 12
 ·obtain ⟨k1, k2⟩ := requireS_step h true
  have H1 := hid (require_any true w v s h)
  have e1 : requireS true s = s := by simp [requireS]
  rw [e1] at k1
  have HS : Hid (whenS l s = altsS wWhen l s) := hid (by unfold whenS; rw [if_pos (by rw [hlen]; exact hc)])
  generalize w.setCell ⟨b, 2, none⟩ (.bool (s.refused || !true)) = w1 at *
  have K1 := hid k1; have R1 := hid k2
  have hd2 : decide ((n : Int) ≤ 12) = true := by rw [decide_eq_true_eq]; omega
  clear h k1 k2 e1 hm hl hB hE hlen
  go_enter Tryz.func80, Tryz.ntmps80
  go_wp2_with fail
  refine H1.out.mono ?_; rintro e w2 ⟨rfl, rfl⟩
  clear H1
  go_wp2
  go_loopw [4, 17] (fun z i wr => ∃ (k : Nat) (uo : Value), i = .int .i64 k ∧ k ≤ n ∧ z = .string ⟨(nextW k).toArray⟩ ∧ Hid (WR B b T wr uo (altsS wWhen (l.take k) s)) ∧ Hid (Wrote b w v wr uo)) (fun _ i _ => n - (intOf i).toNat)
  case atStart => exact ⟨0, v, rfl, Nat.zero_le _, rfl, hid (by rw [List.take_zero]; exact K1.out), R1⟩
  case round =>
   obtain ⟨k, uo, rfl, hk, rfl, HV, HR⟩ := hrel
   by_cases hkn : k < n
   ·obtain ⟨x, hx⟩ : ∃ x, l[k]? = some x := ⟨_, List.getElem?_eq_getElem (by have := HL.out.len.1; omega)⟩
    have hf := HF.out x (List.mem_of_getElem? hx)
    have hst := altsS_next hx s
    obtain ⟨t, ht⟩ : ∃ t, altsS wWhen (l.take k) s = t := ⟨_, rfl⟩
    rw [ht] at hst HV
    obtain ⟨lb, lo, c, rfl, hlb, hcc, hcell⟩ := (HL.out.below (HIN.out _ _ HR.out)).at hx
    obtain ⟨v0, rfl, hm0⟩ := hcc
    obtain ⟨lp, lcap, rfl⟩ := hm0.slice
    obtain ⟨ln, hln⟩ : ∃ ln, x.length = ln := ⟨_, rfl⟩
    rw [hln] at hm0 hcell
    have d0 := hcell 0 _ rfl
    rw [show testsL.size = 1 from rfl, Nat.mul_one, Nat.add_zero] at d0
    have hki : (0 : Int) ≤ k ∧ (k : Int) < n := by omega
    have hnw : nextW (k + 1) = wOr := by unfold nextW; rw [if_neg (by omega)]
    have hwl : (nextW k).length ≤ 90 := by unfold nextW; split <;> decide
    obtain ⟨nw, hnwk⟩ : ∃ nw, nextW k = nw := ⟨_, rfl⟩
    rw [hnwk] at hst hwl ⊢
    have HC := hid (word_any nw hwl wr uo t HV.out (Nat.le_trans HB0.out HR.out.kp.size))
    have HST := hid hst; have HFT := hid hf; have HM0 := hid hm0; have HNW := hid hnw
    clear hx hst hf ht hcell hlb hm0 hln hnw hwl hnwk
    go_wp2_with fail
    refine HC.out.mono ?_; rintro e wy ⟨rfl, uy, k1, k2⟩
    have KY := hid k1; have RY := hid (HR.out.trans k2)
    have HMY := hid (HM0.out.below (HV.out.wrote (Nat.le_trans HB0.out HR.out.kp.size) k2))
    clear k1 k2 HC d0 HM0
    have HC := hid (tests_any x HFT.out lp ln lcap wy uy _ KY.out (Nat.le_trans HB0.out RY.out.kp.size) (HEW.out _ _ RY.out) HMY.out)
    go_wp2_with fail
    refine HC.out.mono ?_; rintro e wz ⟨rfl, uz, k1, k2⟩
    have KZ := hid k1; have RZ := hid (RY.out.trans k2)
    clear k1 k2 HC KY RY HMY
    go_wp2
    go_roundw
    case rel => exact ⟨k + 1, uz, by go_num, by omega, by rw [HNW.out]; rfl, by rw [HST.out]; exact KZ, RZ⟩
    case measure => simp [intOf]; omega
   ·have hkn2 : k = n := by omega
    subst hkn2
    rw [show l.take k = l from List.take_of_length_le (by have := HL.out.len.1; omega)] at HV
    go_wp2
    go_end0
    exact ⟨rfl, uo, by rw [HS.out]; exact HV.out, HR.out⟩
 ·obtain ⟨k1, k2⟩ := requireS_step h false
  have H1 := hid (require_any false w v s h)
  generalize w.setCell ⟨b, 2, none⟩ (.bool (s.refused || !false)) = w1 at *
  have HS : Hid (whenS l s = requireS false s) := hid (by unfold whenS; rw [if_neg (by rw [hlen]; exact hc)])
  have K1 := hid k1; have K2 := hid k2
  have hd2 : decide ((n : Int) ≤ 12) = false := by rw [decide_eq_false_iff_not]; omega
  clear h k1 k2 hm hl hB hE hlen hc
  go_enter Tryz.func80, Tryz.ntmps80
  go_wp2_with fail
  refine H1.out.mono ?_; rintro e w2 ⟨rfl, rfl⟩
  go_wp2
  refine bodyPost_ret (results_none rfl _ _ _) rfl ?_
  exact ⟨rfl, v, by rw [HS.out]; exact K1.out, K2.out⟩
end Go.Proofs.YtilfpnkcgjonhaaGreatDoor.Pr
