/-
  The walks of ratios behind words.
-/
import Derived.Test.YtilfpnkcgjonhaaGreatDoorWalkRatio
namespace Go.Proofs.YtilfpnkcgjonhaaGreatDoor.Pr
open Go.RowKit Go.Sort Foyer.Printer Foyer.Lexer Foyer.Round

set_option linter.unusedSimpArgs false in
set_option maxRecDepth 100000 in
set_option maxHeartbeats 4000000 in
theorem ratioIf_any {B b : Nat} {T : TypeId} (ws : List UInt8) (hws : ws.length ≤ 90) (num den : Int) (hx : RatioZ.Fit ⟨num, den⟩) (w : World) (v : Value) (s : St) (h : WR B b T w v s) (hB : B ≤ w.heap.size) (hE : EnvAt B w) :
    Calls Tryz.prog 104 #[.pointer (some ⟨b, 0, none⟩), .string ⟨ws.toArray⟩, .agg #[.int .i64 num, .int .i64 den]] w fun e w' => e = .returned (.tuple #[]) ∧ Step B b T w v (ratioIfS ws ⟨num, den⟩ s) w' := by
  have hb0 : Below w.heap.size w (w.alloc (.cells #[.int .i64 num, .int .i64 den] 64)) := (Below.refl _ _).alloc (Nat.le_refl _) _
  have hR : Wrote b w v (w.alloc (.cells #[.int .i64 num, .int .i64 den] 64)) v := (Wrote.refl b _ v).later hb0
  have HBK : Hid (∀ w' v', Wrote b (w.alloc (.cells #[.int .i64 num, .int .i64 den] 64)) v w' v' → Blk w' w.heap.size 64 [.int .i64 num, .int .i64 den]) := Lib.hid fun w' v' k => (k.kept (k := w.heap.size) (by simp) (by have := h.lt; omega) (fun e => by have := (h.vlow e).2; omega)).1.trans (Blk.new w 64 [.int .i64 num, .int .i64 den])
  have HB0 : Hid (B ≤ (w.alloc (.cells #[.int .i64 num, .int .i64 den] 64)).heap.size) := Lib.hid (by simp; omega)
  have HEW : Hid (∀ w' v', Wrote b (w.alloc (.cells #[.int .i64 num, .int .i64 den] 64)) v w' v' → EnvAt B w') := Lib.hid fun w' v' k => hE.below ((hb0.mono hB).trans ((h.later hb0).wrote (by simp; omega) k))
  have HIN : Hid (∀ w' v', Wrote b (w.alloc (.cells #[.int .i64 num, .int .i64 den] 64)) v w' v' → Below B w w') := Lib.hid fun w' v' k => (hb0.mono hB).trans ((h.later hb0).wrote (by simp; omega) k)
  have K0 := Lib.hid (h.later hb0)
  have HFIN : Hid (∀ w' v', Wrote b (w.alloc (.cells #[.int .i64 num, .int .i64 den] 64)) v w' v' → Wrote b w v w' v') := Lib.hid fun w' v' k => hR.trans k
  obtain ⟨w0, hw0⟩ : ∃ w0, w.alloc (.cells #[.int .i64 num, .int .i64 den] 64) = w0 := ⟨_, rfl⟩
  obtain ⟨u0, hu0⟩ : ∃ u0, u0 = v := ⟨v, rfl⟩
  rw [hw0] at HBK HB0 HEW HIN HFIN K0
  rw [← hu0] at HBK HEW HIN HFIN K0
  have R0 := Lib.hid (Wrote.refl b w0 u0)
  clear h hb0 hR hE hB
  go_enter Tryz.func104, Tryz.ntmps104
  go_upto_region 2 with fail
  try rw [hw0]
  have hbq : Below w0.heap.size w0 (w0.alloc (.cells #[.int .i64 0, .int .i64 1] 64)) := (Below.refl _ _).alloc (Nat.le_refl _) _
  have hq : Blk (w0.alloc (.cells #[.int .i64 0, .int .i64 1] 64)) w0.heap.size 64 [.int .i64 0, .int .i64 1] := Blk.new _ _ _
  have K1 := Lib.hid (K0.out.later hbq); have R1 : Hid (Wrote b w0 u0 _ u0) := Lib.hid (R0.out.trans ((Wrote.refl b _ u0).later hbq))
  generalize w0.alloc (.cells #[.int .i64 0, .int .i64 1] 64) = w1 at *
  have c0 := (HBK.out _ _ R1.out).cell (i := 0) rfl
  have c1 := (HBK.out _ _ R1.out).cell (i := 1) rfl
  have d0 := hq.cell (i := 0) rfl
  have d1 := hq.cell (i := 1) rfl
  have hg := fun (x y : Operand) (xs ys : Array Value) (W : World) => ratio_gneq x y xs ys W
  clear hbq hq K0 R0
  by_cases h01 : num = 0 ∧ den = 1
  · have hy := ratio_neq num den 0 1 false (by simp [h01])
    have HE : Hid (ratioIfS ws ⟨num, den⟩ s = s) := Lib.hid (by unfold ratioIfS; rw [if_pos (by rw [h01.1, h01.2])])
    go_wp2
    go_end0
    subst hu0
    exact ⟨rfl, _, by rw [HE.out]; exact K1.out, HFIN.out _ _ R1.out⟩
  · have hy := ratio_neq num den 0 1 true (by simp only [decide_eq_false h01, Bool.not_false])
    have HE : Hid (ratioIfS ws ⟨num, den⟩ s = ratioS ⟨num, den⟩ (wordS ws s)) := Lib.hid (by unfold ratioIfS; rw [if_neg (fun e => h01 (by injection e with e1 e2; exact ⟨e1, e2⟩))])
    have HC := Lib.hid (word_any ws hws w1 u0 _ K1.out (Nat.le_trans HB0.out R1.out.kp.size))
    go_wp2_with fail
    refine HC.out.mono ?_; rintro e w2 ⟨rfl, u2, k1, k2⟩
    have K2 := Lib.hid k1; have R2 := Lib.hid (R1.out.trans k2)
    clear k1 k2 HC K1 R1
    have c0 := (HBK.out _ _ R2.out).cell (i := 0) rfl
    have c1 := (HBK.out _ _ R2.out).cell (i := 1) rfl
    have HC := Lib.hid (ratio_any num den hx w2 u2 _ K2.out (Nat.le_trans HB0.out R2.out.kp.size) (HEW.out _ _ (R2.out)))
    go_wp2_with fail
    refine HC.out.mono ?_; rintro e w3 ⟨rfl, u3, k1, k2⟩
    have K3 := Lib.hid k1; have R3 := Lib.hid (R2.out.trans k2)
    clear k1 k2 HC K2 R2
    go_wp2
    go_end0
    subst hu0
    exact ⟨rfl, u3, by rw [HE.out]; exact K3.out, HFIN.out _ _ R3.out⟩
end Go.Proofs.YtilfpnkcgjonhaaGreatDoor.Pr
