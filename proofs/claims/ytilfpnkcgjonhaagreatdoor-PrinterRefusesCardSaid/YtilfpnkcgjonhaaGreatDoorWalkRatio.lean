/-
  The walks of ratios.
-/
import Derived.Test.YtilfpnkcgjonhaaGreatDoorWalkPrintH
import Derived.Test.YtilfpnkcgjonhaaGreatDoorEqs
namespace Go.Proofs.YtilfpnkcgjonhaaGreatDoor.Pr
open Go.RowKit Go.Sort Foyer.Printer Foyer.Lexer Foyer.Round

theorem itoa_40 (n : Int) (hn : intOk n) : (Go.Lib.itoa n).length ≤ 40 := itoa_short' n hn
set_option linter.unusedSimpArgs false in
set_option maxRecDepth 100000 in
set_option maxHeartbeats 4000000 in
theorem ratio_any {B b : Nat} {T : TypeId} (num den : Int) (hx : RatioZ.Fit ⟨num, den⟩) (w : World) (v : Value) (s : St) (h : WR B b T w v s) (hB : B ≤ w.heap.size) (hE : EnvAt B w) :
    Calls Tryz.prog 105 #[.pointer (some ⟨b, 0, none⟩), .agg #[.int .i64 num, .int .i64 den]] w fun e w' => e = .returned (.tuple #[]) ∧ Step B b T w v (ratioS ⟨num, den⟩ s) w' := by
  have hb0 : Below w.heap.size w (w.alloc (.cells #[.int .i64 num, .int .i64 den] 64)) := (Below.refl _ _).alloc (Nat.le_refl _) _
  have hR : Wrote b w v (w.alloc (.cells #[.int .i64 num, .int .i64 den] 64)) v := (Wrote.refl b _ v).later hb0
  have HBK : Hid (∀ w' v', Wrote b (w.alloc (.cells #[.int .i64 num, .int .i64 den] 64)) v w' v' → Blk w' w.heap.size 64 [.int .i64 num, .int .i64 den]) := Lib.hid fun w' v' k => (k.kept (k := w.heap.size) (by simp) (by have := h.lt; omega) (fun e => by have := (h.vlow e).2; omega)).1.trans (Blk.new w 64 [.int .i64 num, .int .i64 den])
  have HB0 : Hid (B ≤ (w.alloc (.cells #[.int .i64 num, .int .i64 den] 64)).heap.size) := Lib.hid (by simp; omega)
  have HEW : Hid (∀ w' v', Wrote b (w.alloc (.cells #[.int .i64 num, .int .i64 den] 64)) v w' v' → EnvAt B w') := Lib.hid fun w' v' k => hE.below ((hb0.mono hB).trans ((h.later hb0).wrote (by simp; omega) k))
  have HIN : Hid (∀ w' v', Wrote b (w.alloc (.cells #[.int .i64 num, .int .i64 den] 64)) v w' v' → Below B w w') := Lib.hid fun w' v' k => (hb0.mono hB).trans ((h.later hb0).wrote (by simp; omega) k)
  have K0 := Lib.hid (h.later hb0)
  have HFIN : Hid (∀ w' v', Wrote b (w.alloc (.cells #[.int .i64 num, .int .i64 den] 64)) v w' v' → Wrote b w v w' v') := Lib.hid fun w' v' k => hR.trans k
  obtain ⟨w0, hw0⟩ : ∃ w0, w.alloc (.cells #[.int .i64 num, .int .i64 den] 64) = w0 := ⟨_, rfl⟩
  obtain ⟨u0, hu0⟩ : ∃ u0, u0 = v := ⟨v, rfl⟩
  rw [hw0] at HBK HB0 HEW HIN HFIN K0
  rw [← hu0] at HBK HEW HIN HFIN K0
  have R0 := Lib.hid (Wrote.refl b w0 u0)
  obtain ⟨hx1, hx2⟩ := hx
  simp only at hx1 hx2
  obtain ⟨A, hA⟩ : ∃ A, Go.Lib.itoa num = A := ⟨_, rfl⟩
  obtain ⟨D, hD⟩ : ∃ D, Go.Lib.itoa den = D := ⟨_, rfl⟩
  have HLA : Hid (A.length ≤ 40) := Lib.hid (by rw [← hA]; exact itoa_40 num hx1)
  have HLD : Hid (D.length ≤ 40) := Lib.hid (by rw [← hD]; exact itoa_40 den hx2)
  obtain ⟨A1, hA1⟩ : ∃ A1, A ++ [47] = A1 := ⟨_, rfl⟩
  obtain ⟨A2, hA2⟩ : ∃ A2, A1 ++ D = A2 := ⟨_, rfl⟩
  have HL1 : Hid (A1.length ≤ 41) := Lib.hid (by have := HLA.out; rw [← hA1]; simp only [List.length_append, List.length_cons, List.length_nil]; omega)
  have HL2 : Hid (A2.length ≤ 90) := Lib.hid (by have := HL1.out; have := HLD.out; rw [← hA2]; simp only [List.length_append]; omega)
  have HA1 : Hid ((⟨A.toArray⟩ : ByteArray) ++ ⟨#[47]⟩ = ⟨A1.toArray⟩) := Lib.hid (by rw [← hA1]; exact str_append A [47])
  have HA2 : Hid ((⟨A1.toArray⟩ : ByteArray) ++ ⟨D.toArray⟩ = ⟨A2.toArray⟩) := Lib.hid (by rw [← hA2]; exact str_append A1 D)
  have HDN : Hid (∀ (W : World) (V : Value) (S : St), WR B b T W V S → B ≤ W.heap.size → EnvAt B W → Calls Tryz.prog 67 #[.pointer (some ⟨b, 0, none⟩), .int .i64 num] W fun e w' => e = .returned (.string ⟨A.toArray⟩) ∧ Step B b T W V (requireS (numOk num) S) w') := Lib.hid fun W V S k1 k2 k3 => by rw [← hA]; exact digits_any num hx1 W V S k1 k2 k3
  have HDD : Hid (∀ (W : World) (V : Value) (S : St), WR B b T W V S → B ≤ W.heap.size → EnvAt B W → Calls Tryz.prog 67 #[.pointer (some ⟨b, 0, none⟩), .int .i64 den] W fun e w' => e = .returned (.string ⟨D.toArray⟩) ∧ Step B b T W V (requireS (numOk den) S) w') := Lib.hid fun W V S k1 k2 k3 => by rw [← hD]; exact digits_any den hx2 W V S k1 k2 k3
  have HE : Hid (ratioS ⟨num, den⟩ s = wordS A2 (requireS (numOk den) (requireS (numOk num) s))) := Lib.hid (by rw [← hA2, ← hA1, ← hA, ← hD]; rfl)
  clear hA hD hA1 hA2
  clear h hb0 hR hE hB
  go_enter Tryz.func105, Tryz.ntmps105
  go_upto_region 1 with fail
  try rw [hw0]
  refine wp_region_any (by kernel_rfl) ?_
  have KA := Lib.hid K0.out.drew; have RA := Lib.hid R0.out.drew
  have hS0 : Blk w0.drew w.heap.size 64 [.int .i64 num, .int .i64 den] := HBK.out _ _ RA.out
  refine any_of_held (S := fun W => Blk W w.heap.size 64 [.int .i64 num, .int .i64 den]) (N := []) _ _ _ _ ?_
  change held _ _ _ _ _ _ _ _ _ w0.drew
  obtain ⟨wa, hwa⟩ : ∃ wa, w0.drew = wa := ⟨_, rfl⟩
  rw [hwa] at hS0 KA RA ⊢
  clear hwa K0 R0
  refine held_take [] (i := 0) (v := .pointer (some ⟨b, 0, none⟩)) rfl (by kernel_rfl) (fun _ _ _ h => h) (Or.inl ⟨by rfl, fun w' hS => by go_simp⟩) hS0 ?_
  try simp only [Act.put, List.setIfInBounds_toArray, List.set_cons_zero, List.set_cons_succ]
  refine held_take [] (i := 1) (v := .pointer (some ⟨b, 0, none⟩)) rfl (by kernel_rfl) (fun _ _ _ h => h) (Or.inl ⟨by rfl, fun w' hS => by go_simp⟩) hS0 ?_
  try simp only [Act.put, List.setIfInBounds_toArray, List.set_cons_zero, List.set_cons_succ]
  refine held_take [] (i := 2) (v := .pointer (some ⟨b, 0, none⟩)) rfl (by kernel_rfl) (fun _ _ _ h => h) (Or.inl ⟨by rfl, fun w' hS => by go_simp⟩) hS0 ?_
  try simp only [Act.put, List.setIfInBounds_toArray, List.set_cons_zero, List.set_cons_succ]
  refine held_take [] (i := 3) (v := .pointer (some ⟨b, 0, none⟩)) rfl (by kernel_rfl) (fun _ _ _ h => h) (Or.inl ⟨by rfl, fun w' hS => by go_simp⟩) hS0 ?_
  try simp only [Act.put, List.setIfInBounds_toArray, List.set_cons_zero, List.set_cons_succ]
  refine held_take [] (i := 4) (v := .pointer (some ⟨b, 0, none⟩)) rfl (by kernel_rfl) (fun _ _ _ h => h) (Or.inl ⟨by rfl, fun w' hS => by go_simp⟩) hS0 ?_
  try simp only [Act.put, List.setIfInBounds_toArray, List.set_cons_zero, List.set_cons_succ]
  refine held_take [] (i := 5) (v := .pointer (some ⟨b, 0, none⟩)) rfl (by kernel_rfl) (fun _ _ _ h => h) (Or.inl ⟨by rfl, fun w' hS => by go_simp⟩) hS0 ?_
  try simp only [Act.put, List.setIfInBounds_toArray, List.set_cons_zero, List.set_cons_succ]
  refine held_take [] (i := 6) (v := .pointer (some ⟨w.heap.size, 0, none⟩)) rfl (by kernel_rfl) (fun _ _ _ h => h) (Or.inl ⟨by rfl, fun w' hS => by go_simp⟩) hS0 ?_
  try simp only [Act.put, List.setIfInBounds_toArray, List.set_cons_zero, List.set_cons_succ]
  refine held_take [] (i := 7) (v := .int .i64 num) rfl (by kernel_rfl) (fun _ _ _ h => h) (Or.inl ⟨by rfl, fun w' hS => by have hc := hS.cell (i := 0) rfl; go_simp⟩) hS0 ?_
  try simp only [Act.put, List.setIfInBounds_toArray, List.set_cons_zero, List.set_cons_succ]
  refine held_take [] (i := 10) (v := .pointer (some ⟨b, 0, none⟩)) rfl (by kernel_rfl) (fun _ _ _ h => h) (Or.inl ⟨by rfl, fun w' hS => by go_simp⟩) hS0 ?_
  try simp only [Act.put, List.setIfInBounds_toArray, List.set_cons_zero, List.set_cons_succ]
  refine held_take [] (i := 11) (v := .pointer (some ⟨b, 0, none⟩)) rfl (by kernel_rfl) (fun _ _ _ h => h) (Or.inl ⟨by rfl, fun w' hS => by go_simp⟩) hS0 ?_
  try simp only [Act.put, List.setIfInBounds_toArray, List.set_cons_zero, List.set_cons_succ]
  refine held_take [] (i := 12) (v := .pointer (some ⟨b, 0, none⟩)) rfl (by kernel_rfl) (fun _ _ _ h => h) (Or.inl ⟨by rfl, fun w' hS => by go_simp⟩) hS0 ?_
  try simp only [Act.put, List.setIfInBounds_toArray, List.set_cons_zero, List.set_cons_succ]
  refine held_take [] (i := 13) (v := .pointer (some ⟨w.heap.size, 1, none⟩)) rfl (by kernel_rfl) (fun _ _ _ h => h) (Or.inl ⟨by rfl, fun w' hS => by go_simp⟩) hS0 ?_
  try simp only [Act.put, List.setIfInBounds_toArray, List.set_cons_zero, List.set_cons_succ]
  refine held_take [] (i := 14) (v := .int .i64 den) rfl (by kernel_rfl) (fun _ _ _ h => h) (Or.inl ⟨by rfl, fun w' hS => by have hc := hS.cell (i := 1) rfl; go_simp⟩) hS0 ?_
  try simp only [Act.put, List.setIfInBounds_toArray, List.set_cons_zero, List.set_cons_succ]
  refine held_one (i := 8) rfl (by kernel_rfl) (fun K hK => ?_)
  go_simp
  have HC := Lib.hid (HDN.out wa u0 _ KA.out (Nat.le_trans HB0.out RA.out.kp.size) (HEW.out _ _ (RA.out)))
  refine HC.out.mono ?_; rintro e w1 ⟨rfl, u1, k1, k2⟩
  replace RA := Lib.hid (RA.out.trans k2)
  replace KA := Lib.hid k1
  refine hK.out _ _ (fun _ => HBK.out _ _ RA.out) ?_
  clear hS0
  have hS0 := HBK.out _ _ RA.out
  clear hK K k1 k2 HC
  try simp only [Act.put, List.setIfInBounds_toArray, List.set_cons_zero, List.set_cons_succ]
  refine held_take [] (i := 9) (v := .string ⟨A1.toArray⟩) rfl (by kernel_rfl) (fun _ _ _ h => h) (Or.inl ⟨by rfl, fun w' hS => by have h1 := HA1.out; have h2 := HLA.out; go_simp <;> omega⟩) hS0 ?_
  try simp only [Act.put, List.setIfInBounds_toArray, List.set_cons_zero, List.set_cons_succ]
  refine held_one (i := 15) rfl (by kernel_rfl) (fun K hK => ?_)
  go_simp
  have HC := Lib.hid (HDD.out w1 u1 _ KA.out (Nat.le_trans HB0.out RA.out.kp.size) (HEW.out _ _ (RA.out)))
  refine HC.out.mono ?_; rintro e w2 ⟨rfl, u2, k1, k2⟩
  replace RA := Lib.hid (RA.out.trans k2)
  replace KA := Lib.hid k1
  refine hK.out _ _ (fun _ => HBK.out _ _ RA.out) ?_
  clear hS0
  have hS0 := HBK.out _ _ RA.out
  clear hK K k1 k2 HC
  try simp only [Act.put, List.setIfInBounds_toArray, List.set_cons_zero, List.set_cons_succ]
  refine held_take [] (i := 16) (v := .string ⟨A2.toArray⟩) rfl (by kernel_rfl) (fun _ _ _ h => h) (Or.inl ⟨by rfl, fun w' hS => by have h1 := HA2.out; have h2 := HL1.out; have h3 := HLD.out; go_simp <;> omega⟩) hS0 ?_
  try simp only [Act.put, List.setIfInBounds_toArray, List.set_cons_zero, List.set_cons_succ]
  refine held_one (i := 17) rfl (by kernel_rfl) (fun K hK => ?_)
  go_simp
  have HC := Lib.hid (word_any A2 HL2.out w2 u2 _ KA.out (Nat.le_trans HB0.out RA.out.kp.size))
  refine HC.out.mono ?_; rintro e w3 ⟨rfl, u3, k1, k2⟩
  replace RA := Lib.hid (RA.out.trans k2)
  replace KA := Lib.hid k1
  refine hK.out _ _ (fun _ => HBK.out _ _ RA.out) ?_
  clear hS0
  have hS0 := HBK.out _ _ RA.out
  clear hK K k1 k2 HC
  try simp only [Act.put, List.setIfInBounds_toArray, List.set_cons_zero, List.set_cons_succ]
  refine held_done (by kernel_rfl) ?_ _
  have K3 := KA; have R3 := RA
  clear KA RA hS0
  go_wp2
  go_end0
  subst hu0
  exact ⟨rfl, u3, by rw [HE.out]; exact K3.out, HFIN.out _ _ R3.out⟩
end Go.Proofs.YtilfpnkcgjonhaaGreatDoor.Pr
