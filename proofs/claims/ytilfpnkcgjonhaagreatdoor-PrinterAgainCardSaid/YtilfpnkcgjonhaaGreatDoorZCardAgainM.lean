/-
  The law PrinterAgain: its walk.
  The card of PrinterAgain: for every input the law returns true and leaves its arguments as they were; the listed variables hold what the program's text lays. No condition on the input.
-/
import Derived.Test.YtilfpnkcgjonhaaGreatDoorZFitParse
import Derived.Test.YtilfpnkcgjonhaaGreatDoorZSameRules
import Derived.Test.YtilfpnkcgjonhaaGreatDoorZSameHallT
import Derived.Test.YtilfpnkcgjonhaaGreatDoorZHead8M
import Derived.Test.YtilfpnkcgjonhaaGreatDoorZArgs
import Derived.ShutString
import Derived.ChangeOld
import Derived.Lib.SmallJoins
import Derived.Lay
namespace Go.Proofs.YtilfpnkcgjonhaaGreatDoor.Pr
open Go.RowKit Go.Sort Foyer.Printer Foyer.Lexer
theorem lk_since {α : Type} {K : Look α} {w w' : World} {v : Value} {xs : List α} (h : Lk K w w.heap.size v xs) (hb : Below w.heap.size w w') : Lk K w' w'.heap.size v xs := (h.below hb).mono hb.size
theorem short_of {t : List UInt8} (h : (lexAll t).2.1 = 0) : t.length ≤ 20000 := by
 rcases Nat.lt_or_ge 20000 t.length with hl | hl
 ·rw [lexAll_long hl] at h; cases h
 ·exact hl
theorem size_ok {t : List UInt8} (h : t.length ≤ 20000) : (⟨t.toArray⟩ : ByteArray).size ≤ 1000000 := by
 show t.toArray.size ≤ 1000000
 simp; omega
theorem hall_short {h : HallZ} (h0 : (hallAll h).2 = 0) : (hallAll h).1.length ≤ 20000 := by
 rcases hallAll_ways h with ⟨_, _, h2, h3⟩ | ⟨_, h1 | h1⟩
 ·rw [h2]; exact short_of h3
 ·rw [h1] at h0; cases h0
 ·rw [h1] at h0; cases h0
theorem rules_short {l : List ItemZ} (h0 : (rulesAll l).2 = 0) : (rulesAll l).1.length ≤ 20000 := by
 rcases rulesAll_ways l with ⟨_, _, h2, h3⟩ | ⟨_, h1 | h1⟩
 ·rw [h2]; exact short_of h3
 ·rw [h1] at h0; cases h0
 ·rw [h1] at h0; cases h0
theorem blk_since {X W : World} {b : Nat} {T : TypeId} {cs : List Value} (h : Blk X b T cs) (hb : Below X.heap.size X W) : Blk W b T cs := (hb.block _ h.lt).trans h
set_option linter.unusedSimpArgs false in
set_option maxRecDepth 100000 in
set_option maxHeartbeats 8000000 in
theorem again_walk (t : ByteArray) (w : World) (_ : t.size ≤ maxLen) (hE : Env w) :
  Calls Tryz.prog 7 #[.string t] w fun e w' => e = .returned (.bool true) ∧ Below w.heap.size w w' := by
 have HE := hid hE
 have B0 := hid (Below.refl w.heap.size w)
 clear hE
 by_cases hs : t.size ≤ 3000
 rotate_left
 ·have e0 : decide ((3000 : Int) < (t.size : Int)) = true := by rw [decide_eq_true_eq]; omega
  go_enter Tryz.func7, Tryz.ntmps7
  go_wp2_with fail
  refine (head_any w HE.out).mono ?_; rintro e w1 ⟨rfl, g⟩
  have B1 := hid g
  clear g
  go_wp2
  go_ret
  exact ⟨rfl, B1.out⟩
 have e0 : decide ((3000 : Int) < (t.size : Int)) = false := by rw [decide_eq_false_iff_not]; omega
 have HS : Hid (t.size ≤ 1000000) := hid (by omega)
 clear hs
 go_enter Tryz.func7, Tryz.ntmps7
 go_wp2_with fail
 refine (head_any w HE.out).mono ?_; rintro e w1 ⟨rfl, g⟩
 have B1 := hid g
 clear g
 obtain ⟨x, hx⟩ : ∃ x, Foyer.Plan.parseAll t.data.toList = x := ⟨_, rfl⟩
 have FX : Hid (HallZ.Fit (hallOf x.1)) := hid (by rw [← hx]; exact plan_fit _)
 have HX := hid hx
 clear hx
 go_wp2_with fail
 refine (plan_h t HS.out x HX.out w1).mono ?_; rintro e w2 ⟨⟨q1, n1, c1, rfl, g1⟩, g2⟩
 clear HX e0
 obtain ⟨x, E, O⟩ := x
 simp only at g1 FX ⊢
 obtain ⟨h, hh⟩ : ∃ h, hallOf x = h := ⟨_, rfl⟩
 rw [hh] at g1 FX ⊢
 clear hh
 have B2 := hid (B1.out.trans (g2.mono B1.out.size)); have L1 := hid g1
 clear g1 g2
 go_upto_region 5 with fail
 have g : Below w2.heap.size w2 (w2.alloc (.cells #[.string ⟨h.name.toArray⟩, .int .i64 h.stage.x, .int .i64 h.stage.y, .slice q1 n1 c1] 26)) := (Below.refl _ _).alloc (Nat.le_refl _) _
 have gb := Blk.new w2 26 [.string ⟨h.name.toArray⟩, .int .i64 h.stage.x, .int .i64 h.stage.y, .slice q1 n1 c1]
 obtain ⟨K1A, gA⟩ : ∃ A, w2.heap.size = A := ⟨_, rfl⟩
 have B3 := hid (B2.out.trans (g.mono B2.out.size)); have L2 := hid (lk_since L1.out g)
 rw [gA] at gb ⊢
 clear g gA L1 
 generalize w2.alloc (.cells #[.string ⟨h.name.toArray⟩, .int .i64 h.stage.x, .int .i64 h.stage.y, .slice q1 n1 c1] 26) = w3 at *
 have K1 := hid gb
 clear gb
 by_cases h1 : E = 0
 rotate_left
 ·have h2 : ¬ ((E : Int) = 0) := by omega
  obtain ⟨y, hy⟩ : ∃ y, Foyer.Rule.parseAll t.data.toList = y := ⟨_, rfl⟩
  have FY : Hid (∀ x ∈ rulesOf y.1, ItemZ.Fit x) := hid (by rw [← hy]; exact rule_fit _)
  have HY := hid hy
  clear hy
  go_wp2_with fail
  refine (rule_h t HS.out y HY.out w3).mono ?_; rintro e w4 ⟨⟨r1, m1, d1, rfl, g1⟩, g2⟩
  clear HY
  obtain ⟨y, F, G⟩ := y
  simp only at g1 FY ⊢
  obtain ⟨l, hl⟩ : ∃ l, rulesOf y = l := ⟨_, rfl⟩
  rw [hl] at g1 FY
  clear hl
  have B4 := hid (B3.out.trans (g2.mono B3.out.size)); have M1 := hid g1
  clear g1 g2
  go_upto_region 13 with fail
  have g : Below w4.heap.size w4 (w4.alloc (.cells #[.slice r1 m1 d1] 29)) := (Below.refl _ _).alloc (Nat.le_refl _) _
  have gb := Blk.new w4 29 [.slice r1 m1 d1]
  obtain ⟨J1A, gA⟩ : ∃ A, w4.heap.size = A := ⟨_, rfl⟩
  have B5 := hid (B4.out.trans (g.mono B4.out.size)); have M2 := hid (lk_since M1.out g)
  rw [gA] at gb ⊢
  clear g gA M1 
  generalize w4.alloc (.cells #[.slice r1 m1 d1] 29) = w5 at *
  have J1 := hid gb
  clear gb
  by_cases h5 : F = 0
  rotate_left
  ·have h6 : ¬ ((F : Int) = 0) := by omega
   go_wp2
   go_ret
   exact ⟨rfl, B5.out⟩
  subst h5
  have a0 := J1.out.cell (i := 0) rfl
  go_wp2_with fail
  refine (printRules_any l FY.out r1 m1 d1 w5 (HE.out.since B5.out) M2.out).mono ?_; rintro e w6 ⟨rfl, g⟩
  have B6 := hid (B5.out.trans (g.mono B5.out.size)); have J2 := hid (blk_since J1.out g); have M3 := hid (lk_since M2.out g)
  clear g J1 M2 a0
  by_cases h5 : (rulesAll l).2 = 0
  rotate_left
  ·have h6 : ¬ (((rulesAll l).2 : Int) = 0) := by omega
   go_wp2
   go_ret
   exact ⟨rfl, B6.out⟩
  obtain ⟨b, hb1, hb2⟩ := rules_round h5
  have hb3 := rules_same hb2
  have hb4 := rules_short h5
  rw [h5]
  have hb5 : (rulesAll (rulesOf b)).2 = 0 := by rw [hb3]; exact h5
  have hb6 : (rulesAll (rulesOf b)).1 = (rulesAll l).1 := by rw [hb3]
  obtain ⟨tx, htx⟩ : ∃ tx, (rulesAll l).1 = tx := ⟨_, rfl⟩
  rw [htx] at hb1 hb4 hb6 ⊢
  have P1 := hid hb1; have P2 := hid hb2; have P4 := hid hb4; have P5 := hid hb5; have P6 := hid hb6
  have FZ : Hid (∀ x ∈ rulesOf b, ItemZ.Fit x) := hid (by have := rule_fit tx; rw [hb1] at this; exact this)
  clear hb1 hb2 hb3 hb4 hb5 hb6 htx h5
  go_wp2_with fail
  refine (rule_h ⟨tx.toArray⟩ (size_ok P4.out) (b, 0, 0) P1.out w6).mono ?_; rintro e w7 ⟨⟨r2, m2, d2, rfl, g1⟩, g2⟩
  have B7 := hid (B6.out.trans (g2.mono B6.out.size)); have M4 := hid g1; have J3 := hid (blk_since J2.out g2); have M5 := hid (lk_since M3.out g2)
  clear g1 g2 J2 M3 P1 P4
  go_upto_region 19 with fail
  have g : Below w7.heap.size w7 (w7.alloc (.cells #[.slice r2 m2 d2] 29)) := (Below.refl _ _).alloc (Nat.le_refl _) _
  have gb := Blk.new w7 29 [.slice r2 m2 d2]
  obtain ⟨J4A, gA⟩ : ∃ A, w7.heap.size = A := ⟨_, rfl⟩
  have B8 := hid (B7.out.trans (g.mono B7.out.size)); have M6 := hid (lk_since M4.out g)
  have J5 := hid (blk_since J3.out g)
  have M7 := hid (lk_since M5.out g)
  rw [gA] at gb ⊢
  clear g gA M4 J3 M5
  generalize w7.alloc (.cells #[.slice r2 m2 d2] 29) = w8 at *
  have J4 := hid gb
  clear gb
  have a0 := J4.out.cell (i := 0) rfl
  go_wp2_with fail
  refine (printRules_any (rulesOf b) FZ.out r2 m2 d2 w8 (HE.out.since B8.out) M6.out).mono ?_; rintro e w9 ⟨rfl, g⟩
  rw [P5.out, P6.out]
  have B9 := hid (B8.out.trans (g.mono B8.out.size)); have J6 := hid (blk_since J4.out g); have J7 := hid (blk_since J5.out g); have M8 := hid (lk_since M6.out g); have M9 := hid (lk_since M7.out g)
  clear g J4 J5 M6 M7 P5 P6 a0
  have a0 := J6.out.cell (i := 0) rfl
  have b0 := J7.out.cell (i := 0) rfl
  go_wp2_with fail
  refine (rules_same_any (rulesOf b) l r2 r1 m2 m1 d2 d1 w9 M8.out M9.out).mono ?_; rintro e w10 ⟨rfl, g⟩
  rw [decide_eq_true P2.out]
  have B10 := hid (B9.out.trans (g.mono B9.out.size))
  clear g J6 J7 M8 M9 P2 a0 b0
  go_wp2
  go_ret
  exact ⟨rfl, B10.out⟩
 subst h1
 have a0 := K1.out.cell (i := 0) rfl
 have a1 := K1.out.cell (i := 1) rfl
 have a2 := K1.out.cell (i := 2) rfl
 have a3 := K1.out.cell (i := 3) rfl
 go_wp2_with fail
 refine (printHall_any h FX.out q1 n1 c1 w3 (HE.out.since B3.out) L2.out).mono ?_; rintro e w4 ⟨rfl, g⟩
 have B4 := hid (B3.out.trans (g.mono B3.out.size)); have K2 := hid (blk_since K1.out g); have L3 := hid (lk_since L2.out g)
 clear g K1 L2 a0 a1 a2 a3
 by_cases h1 : (hallAll h).2 = 0
 rotate_left
 ·have h2 : ¬ (((hallAll h).2 : Int) = 0) := by omega
  obtain ⟨y, hy⟩ : ∃ y, Foyer.Rule.parseAll t.data.toList = y := ⟨_, rfl⟩
  have FY : Hid (∀ x ∈ rulesOf y.1, ItemZ.Fit x) := hid (by rw [← hy]; exact rule_fit _)
  have HY := hid hy
  clear hy
  go_wp2_with fail
  refine (rule_h t HS.out y HY.out w4).mono ?_; rintro e w5 ⟨⟨r1, m1, d1, rfl, g1⟩, g2⟩
  clear HY
  obtain ⟨y, F, G⟩ := y
  simp only at g1 FY ⊢
  obtain ⟨l, hl⟩ : ∃ l, rulesOf y = l := ⟨_, rfl⟩
  rw [hl] at g1 FY
  clear hl
  have B5 := hid (B4.out.trans (g2.mono B4.out.size)); have M1 := hid g1
  clear g1 g2
  go_upto_region 13 with fail
  have g : Below w5.heap.size w5 (w5.alloc (.cells #[.slice r1 m1 d1] 29)) := (Below.refl _ _).alloc (Nat.le_refl _) _
  have gb := Blk.new w5 29 [.slice r1 m1 d1]
  obtain ⟨J1A, gA⟩ : ∃ A, w5.heap.size = A := ⟨_, rfl⟩
  have B6 := hid (B5.out.trans (g.mono B5.out.size)); have M2 := hid (lk_since M1.out g)
  rw [gA] at gb ⊢
  clear g gA M1 
  generalize w5.alloc (.cells #[.slice r1 m1 d1] 29) = w6 at *
  have J1 := hid gb
  clear gb
  by_cases h5 : F = 0
  rotate_left
  ·have h6 : ¬ ((F : Int) = 0) := by omega
   go_wp2
   go_ret
   exact ⟨rfl, B6.out⟩
  subst h5
  have a0 := J1.out.cell (i := 0) rfl
  go_wp2_with fail
  refine (printRules_any l FY.out r1 m1 d1 w6 (HE.out.since B6.out) M2.out).mono ?_; rintro e w7 ⟨rfl, g⟩
  have B7 := hid (B6.out.trans (g.mono B6.out.size)); have J2 := hid (blk_since J1.out g); have M3 := hid (lk_since M2.out g)
  clear g J1 M2 a0
  by_cases h5 : (rulesAll l).2 = 0
  rotate_left
  ·have h6 : ¬ (((rulesAll l).2 : Int) = 0) := by omega
   go_wp2
   go_ret
   exact ⟨rfl, B7.out⟩
  obtain ⟨b, hb1, hb2⟩ := rules_round h5
  have hb3 := rules_same hb2
  have hb4 := rules_short h5
  rw [h5]
  have hb5 : (rulesAll (rulesOf b)).2 = 0 := by rw [hb3]; exact h5
  have hb6 : (rulesAll (rulesOf b)).1 = (rulesAll l).1 := by rw [hb3]
  obtain ⟨tx, htx⟩ : ∃ tx, (rulesAll l).1 = tx := ⟨_, rfl⟩
  rw [htx] at hb1 hb4 hb6 ⊢
  have P1 := hid hb1; have P2 := hid hb2; have P4 := hid hb4; have P5 := hid hb5; have P6 := hid hb6
  have FZ : Hid (∀ x ∈ rulesOf b, ItemZ.Fit x) := hid (by have := rule_fit tx; rw [hb1] at this; exact this)
  clear hb1 hb2 hb3 hb4 hb5 hb6 htx h5
  go_wp2_with fail
  refine (rule_h ⟨tx.toArray⟩ (size_ok P4.out) (b, 0, 0) P1.out w7).mono ?_; rintro e w8 ⟨⟨r2, m2, d2, rfl, g1⟩, g2⟩
  have B8 := hid (B7.out.trans (g2.mono B7.out.size)); have M4 := hid g1; have J3 := hid (blk_since J2.out g2); have M5 := hid (lk_since M3.out g2)
  clear g1 g2 J2 M3 P1 P4
  go_upto_region 19 with fail
  have g : Below w8.heap.size w8 (w8.alloc (.cells #[.slice r2 m2 d2] 29)) := (Below.refl _ _).alloc (Nat.le_refl _) _
  have gb := Blk.new w8 29 [.slice r2 m2 d2]
  obtain ⟨J4A, gA⟩ : ∃ A, w8.heap.size = A := ⟨_, rfl⟩
  have B9 := hid (B8.out.trans (g.mono B8.out.size)); have M6 := hid (lk_since M4.out g)
  have J5 := hid (blk_since J3.out g)
  have M7 := hid (lk_since M5.out g)
  rw [gA] at gb ⊢
  clear g gA M4 J3 M5
  generalize w8.alloc (.cells #[.slice r2 m2 d2] 29) = w9 at *
  have J4 := hid gb
  clear gb
  have a0 := J4.out.cell (i := 0) rfl
  go_wp2_with fail
  refine (printRules_any (rulesOf b) FZ.out r2 m2 d2 w9 (HE.out.since B9.out) M6.out).mono ?_; rintro e w10 ⟨rfl, g⟩
  rw [P5.out, P6.out]
  have B10 := hid (B9.out.trans (g.mono B9.out.size)); have J6 := hid (blk_since J4.out g); have J7 := hid (blk_since J5.out g); have M8 := hid (lk_since M6.out g); have M9 := hid (lk_since M7.out g)
  clear g J4 J5 M6 M7 P5 P6 a0
  have a0 := J6.out.cell (i := 0) rfl
  have b0 := J7.out.cell (i := 0) rfl
  go_wp2_with fail
  refine (rules_same_any (rulesOf b) l r2 r1 m2 m1 d2 d1 w10 M8.out M9.out).mono ?_; rintro e w11 ⟨rfl, g⟩
  rw [decide_eq_true P2.out]
  have B11 := hid (B10.out.trans (g.mono B10.out.size))
  clear g J6 J7 M8 M9 P2 a0 b0
  go_wp2
  go_ret
  exact ⟨rfl, B11.out⟩
 obtain ⟨a, ha1, ha2⟩ := hall_round h1
 have ha3 := hall_same ha2
 have ha4 := hall_short h1
 rw [h1]
 have ha5 : (hallAll (hallOf a)).2 = 0 := by rw [ha3]; exact h1
 have ha6 : (hallAll (hallOf a)).1 = (hallAll h).1 := by rw [ha3]
 obtain ⟨ty, hty⟩ : ∃ ty, (hallAll h).1 = ty := ⟨_, rfl⟩
 rw [hty] at ha1 ha4 ha6 ⊢
 have A1 := hid ha1; have A2 := hid ha2; have A4 := hid ha4; have A5 := hid ha5; have A6 := hid ha6
 have FA : Hid (HallZ.Fit (hallOf a)) := hid (by have := plan_fit ty; rw [ha1] at this; exact this)
 clear ha1 ha2 ha3 ha4 ha5 ha6 hty h1
 go_wp2_with fail
 refine (plan_h ⟨ty.toArray⟩ (size_ok A4.out) (a, 0, 0) A1.out w4).mono ?_; rintro e w5 ⟨⟨q2, n2, c2, rfl, g1⟩, g2⟩
 have B5 := hid (B4.out.trans (g2.mono B4.out.size)); have L4 := hid g1; have K3 := hid (blk_since K2.out g2); have L5 := hid (lk_since L3.out g2)
 clear g1 g2 K2 L3 A1 A4
 go_upto_region 9 with fail
 have g : Below w5.heap.size w5 (w5.alloc (.cells #[.string ⟨(hallOf a).name.toArray⟩, .int .i64 (hallOf a).stage.x, .int .i64 (hallOf a).stage.y, .slice q2 n2 c2] 26)) := (Below.refl _ _).alloc (Nat.le_refl _) _
 have gb := Blk.new w5 26 [.string ⟨(hallOf a).name.toArray⟩, .int .i64 (hallOf a).stage.x, .int .i64 (hallOf a).stage.y, .slice q2 n2 c2]
 obtain ⟨K4A, gA⟩ : ∃ A, w5.heap.size = A := ⟨_, rfl⟩
 have B6 := hid (B5.out.trans (g.mono B5.out.size)); have L6 := hid (lk_since L4.out g)
 have K5 := hid (blk_since K3.out g)
 have L7 := hid (lk_since L5.out g)
 rw [gA] at gb ⊢
 clear g gA L4 K3 L5
 generalize w5.alloc (.cells #[.string ⟨(hallOf a).name.toArray⟩, .int .i64 (hallOf a).stage.x, .int .i64 (hallOf a).stage.y, .slice q2 n2 c2] 26) = w6 at *
 have K4 := hid gb
 clear gb
 have a0 := K4.out.cell (i := 0) rfl
 have a1 := K4.out.cell (i := 1) rfl
 have a2 := K4.out.cell (i := 2) rfl
 have a3 := K4.out.cell (i := 3) rfl
 go_wp2_with fail
 refine (printHall_any (hallOf a) FA.out q2 n2 c2 w6 (HE.out.since B6.out) L6.out).mono ?_; rintro e w7 ⟨rfl, g⟩
 rw [A5.out, A6.out]
 have B7 := hid (B6.out.trans (g.mono B6.out.size)); have K6 := hid (blk_since K4.out g); have K7 := hid (blk_since K5.out g); have L8 := hid (lk_since L6.out g); have L9 := hid (lk_since L7.out g)
 clear g K4 K5 L6 L7 A5 A6 a0 a1 a2 a3
 have a0 := K6.out.cell (i := 0) rfl
 have a1 := K6.out.cell (i := 1) rfl
 have a2 := K6.out.cell (i := 2) rfl
 have a3 := K6.out.cell (i := 3) rfl
 have b0 := K7.out.cell (i := 0) rfl
 have b1 := K7.out.cell (i := 1) rfl
 have b2 := K7.out.cell (i := 2) rfl
 have b3 := K7.out.cell (i := 3) rfl
 go_wp2_with fail
 refine (hall_true (hallOf a) h A2.out q2 q1 n2 n1 c2 c1 w7 L8.out L9.out).mono ?_; rintro e w8 ⟨rfl, g⟩
 have B8 := hid (B7.out.trans (g.mono B7.out.size))
 clear g K6 K7 L8 L9 A2 a0 a1 a2 a3 b0 b1 b2 b3
 obtain ⟨y, hy⟩ : ∃ y, Foyer.Rule.parseAll t.data.toList = y := ⟨_, rfl⟩
 have FY : Hid (∀ x ∈ rulesOf y.1, ItemZ.Fit x) := hid (by rw [← hy]; exact rule_fit _)
 have HY := hid hy
 clear hy
 go_wp2_with fail
 refine (rule_h t HS.out y HY.out w8).mono ?_; rintro e w9 ⟨⟨r1, m1, d1, rfl, g1⟩, g2⟩
 clear HY
 obtain ⟨y, F, G⟩ := y
 simp only at g1 FY ⊢
 obtain ⟨l, hl⟩ : ∃ l, rulesOf y = l := ⟨_, rfl⟩
 rw [hl] at g1 FY
 clear hl
 have B9 := hid (B8.out.trans (g2.mono B8.out.size)); have M1 := hid g1
 clear g1 g2
 go_upto_region 13 with fail
 have g : Below w9.heap.size w9 (w9.alloc (.cells #[.slice r1 m1 d1] 29)) := (Below.refl _ _).alloc (Nat.le_refl _) _
 have gb := Blk.new w9 29 [.slice r1 m1 d1]
 obtain ⟨J1A, gA⟩ : ∃ A, w9.heap.size = A := ⟨_, rfl⟩
 have B10 := hid (B9.out.trans (g.mono B9.out.size)); have M2 := hid (lk_since M1.out g)
 rw [gA] at gb ⊢
 clear g gA M1 
 generalize w9.alloc (.cells #[.slice r1 m1 d1] 29) = w10 at *
 have J1 := hid gb
 clear gb
 by_cases h5 : F = 0
 rotate_left
 ·have h6 : ¬ ((F : Int) = 0) := by omega
  go_wp2
  go_ret
  exact ⟨rfl, B10.out⟩
 subst h5
 have a0 := J1.out.cell (i := 0) rfl
 go_wp2_with fail
 refine (printRules_any l FY.out r1 m1 d1 w10 (HE.out.since B10.out) M2.out).mono ?_; rintro e w11 ⟨rfl, g⟩
 have B11 := hid (B10.out.trans (g.mono B10.out.size)); have J2 := hid (blk_since J1.out g); have M3 := hid (lk_since M2.out g)
 clear g J1 M2 a0
 by_cases h5 : (rulesAll l).2 = 0
 rotate_left
 ·have h6 : ¬ (((rulesAll l).2 : Int) = 0) := by omega
  go_wp2
  go_ret
  exact ⟨rfl, B11.out⟩
 obtain ⟨b, hb1, hb2⟩ := rules_round h5
 have hb3 := rules_same hb2
 have hb4 := rules_short h5
 rw [h5]
 have hb5 : (rulesAll (rulesOf b)).2 = 0 := by rw [hb3]; exact h5
 have hb6 : (rulesAll (rulesOf b)).1 = (rulesAll l).1 := by rw [hb3]
 obtain ⟨tx, htx⟩ : ∃ tx, (rulesAll l).1 = tx := ⟨_, rfl⟩
 rw [htx] at hb1 hb4 hb6 ⊢
 have P1 := hid hb1; have P2 := hid hb2; have P4 := hid hb4; have P5 := hid hb5; have P6 := hid hb6
 have FZ : Hid (∀ x ∈ rulesOf b, ItemZ.Fit x) := hid (by have := rule_fit tx; rw [hb1] at this; exact this)
 clear hb1 hb2 hb3 hb4 hb5 hb6 htx h5
 go_wp2_with fail
 refine (rule_h ⟨tx.toArray⟩ (size_ok P4.out) (b, 0, 0) P1.out w11).mono ?_; rintro e w12 ⟨⟨r2, m2, d2, rfl, g1⟩, g2⟩
 have B12 := hid (B11.out.trans (g2.mono B11.out.size)); have M4 := hid g1; have J3 := hid (blk_since J2.out g2); have M5 := hid (lk_since M3.out g2)
 clear g1 g2 J2 M3 P1 P4
 go_upto_region 19 with fail
 have g : Below w12.heap.size w12 (w12.alloc (.cells #[.slice r2 m2 d2] 29)) := (Below.refl _ _).alloc (Nat.le_refl _) _
 have gb := Blk.new w12 29 [.slice r2 m2 d2]
 obtain ⟨J4A, gA⟩ : ∃ A, w12.heap.size = A := ⟨_, rfl⟩
 have B13 := hid (B12.out.trans (g.mono B12.out.size)); have M6 := hid (lk_since M4.out g)
 have J5 := hid (blk_since J3.out g)
 have M7 := hid (lk_since M5.out g)
 rw [gA] at gb ⊢
 clear g gA M4 J3 M5
 generalize w12.alloc (.cells #[.slice r2 m2 d2] 29) = w13 at *
 have J4 := hid gb
 clear gb
 have a0 := J4.out.cell (i := 0) rfl
 go_wp2_with fail
 refine (printRules_any (rulesOf b) FZ.out r2 m2 d2 w13 (HE.out.since B13.out) M6.out).mono ?_; rintro e w14 ⟨rfl, g⟩
 rw [P5.out, P6.out]
 have B14 := hid (B13.out.trans (g.mono B13.out.size)); have J6 := hid (blk_since J4.out g); have J7 := hid (blk_since J5.out g); have M8 := hid (lk_since M6.out g); have M9 := hid (lk_since M7.out g)
 clear g J4 J5 M6 M7 P5 P6 a0
 have a0 := J6.out.cell (i := 0) rfl
 have b0 := J7.out.cell (i := 0) rfl
 go_wp2_with fail
 refine (rules_same_any (rulesOf b) l r2 r1 m2 m1 d2 d1 w14 M8.out M9.out).mono ?_; rintro e w15 ⟨rfl, g⟩
 rw [decide_eq_true P2.out]
 have B15 := hid (B14.out.trans (g.mono B14.out.size))
 clear g J6 J7 M8 M9 P2 a0 b0
 go_wp2
 go_ret
 exact ⟨rfl, B15.out⟩
end Go.Proofs.YtilfpnkcgjonhaaGreatDoor.Pr
namespace Go.Proofs.YtilfpnkcgjonhaaGreatDoor.again
open Go.ChangeShapes Go.WideShapes Go.ChangeAt Go.RowKit Go.Joins
open Go.ChangeMaps (open_string shut_string)
open Go.Proofs.YtilfpnkcgjonhaaGreatDoor.Pr
set_option maxRecDepth 100000 in
theorem contract (H : Type) (enc : TypeId × Value → H) (W : World) (base : Nat) (args : Array Value) (ds gs : List (DataW H)) (before : List MemPlace)
  (hval : ∀ (j : Nat) t v, Tryz.f7.params[j]? = some t → args[j]? = some v → Value.okWide Tryz.prog W .any base t v)
  (hW : DataW.Whole enc Tryz.prog Tryz.f7.params.toList Rows.printerAgainSpec.vars false W args.toList ds gs before) (hL : laidMetH Tryz.prog Rows.printerAgainRow.laid W) (hsh : W.ShapedOpen Tryz.prog) :
  Calls Tryz.prog 7 args W fun e W' => ∃ v, e = .returned v ∧ Rows.printerAgainSpec.post enc Tryz.prog Tryz.f7 false true false false W args v W' := by
 have hE : Env W := env_of hL hsh
 have hW' := hW
 obtain ⟨p, q, hA0, hV, rfl, hfz, hnd⟩ := hW
 have hA : DataW.TrodAll enc Tryz.prog W 0 (fun _ => true) true Tryz.f7.params.toList args.toList ds p := hA0
 rw [Tryz.params7] at hA hval
 obtain ⟨v0, vs0, d0, ds0, p0, q0, hargs, rfl, rfl, h0, r0⟩ := trodAll_cons hA
 obtain ⟨rfl, rfl, rfl⟩ := trodAll_nil r0
 obtain rfl : args = #[v0] := Array.toList_inj.1 hargs
 obtain ⟨rfl, rfl⟩ := trodVars_none hV
 have k0 := h0
 have lt0 : ∀ x ∈ p0, x.block < W.heap.size := by obtain ⟨m, hm⟩ := k0; exact DataW.trod_lt m _ _ _ hm
 obtain ⟨a0, rfl, rfl, rfl, w0⟩ := open_string Tryz.underlying9 (hval 0 9 v0 rfl rfl) h0
 refine (again_walk a0 W w0 hE).mono fun e W' ⟨he, bel⟩ => ?_
 subst he
 exact ⟨_, rfl, _, _, _, [], _, [], hW', trodAll_mk1 (shut_bool Tryz.underlying4 _), (trodAll_cons_mk (Below.trod laidOut (by kernel_rfl) (of_decide_eq_true (by kernel_rfl)) k0 bel lt0) trodAll_mk0), rfl, bel.frame _, fun h => by cases h⟩
theorem laid_met (os : Os) : laidMet Tryz.prog Rows.printerAgainRow.laid ((World.laidAll Tryz.prog os Rows.printerAgainRow.laid).forCall (fun _ _ => 0) ⟨#[], #[.string ByteArray.empty], []⟩).memory :=
 laidMet_laidAll _ (by kernel_rfl) (by kernel_rfl)
theorem reads (os : Os) {H : Type} (enc : TypeId × Value → H) : ∃ places, DataW.whole enc Tryz.prog ((World.laidAll Tryz.prog os Rows.printerAgainRow.laid).forCall (fun _ _ => 0) ⟨#[], #[.string ByteArray.empty], []⟩).memory Tryz.f7.params.toList Rows.printerAgainSpec.vars false #[.string ByteArray.empty].toList 8 = some ([.lit (.string [])], [], places) :=
 ⟨[], by kernel_rfl⟩
set_option maxRecDepth 100000 in
theorem lifted (os : Os) (started : os.Started) (H : Type) (enc : TypeId × Value → H) (F : Stop.Interp) :
  ReturnsInHanded {} Tryz.checked os 7 .any ((OpenSpec.ofChange Rows.printerAgainSpec).preRow enc Tryz.prog Tryz.f7 Rows.printerAgainRow.domain false Rows.printerAgainRow.laid) (((OpenSpec.ofChange Rows.printerAgainSpec).at F).post enc Tryz.prog Tryz.f7 false true false false) := by
 obtain ⟨places, hx⟩ := reads os enc
 refine returnsInHanded_of_row (C := Tryz.checked) (s := OpenSpec.ofChange Rows.printerAgainSpec) own started (by kernel_rfl) Tryz.func7
  (witness_row_atRef (enc := enc) (C := Tryz.checked) false (World.laidAll Tryz.prog os Rows.printerAgainRow.laid) #[.string ByteArray.empty] (World.laidAll_os _ _ _) (by kernel_rfl) (by kernel_rfl) (by kernel_rfl)
   (OpenSpec.preRow_of_cond 8 hx (by kernel_rfl) (fun k hk => by cases hk) (by kernel_rfl) (laid_met os))) ?_
 intro W base args ds gs before hval hW _ _ _ hL hsh _
 exact contract H enc W base args ds gs before hval hW hL hsh
theorem said : Rows.PrinterAgainSaid :=
 OpenClaim.holds_of_cond 7 Tryz.f7 rfl rfl rfl rfl rfl rfl rfl ⟨rfl, rfl, rfl, rfl, rfl⟩ rfl rfl rfl rfl rfl (by kernel_rfl) Tryz.func7 (by kernel_rfl)
  (of_decide_eq_true (by kernel_rfl)) (by unfold Func.isWrapper; first | (rw [if_pos (by decide +kernel)]; kernel_rfl) | (rw [if_neg (by decide +kernel)]; exact ⟨rfl, rfl⟩))
  (fun os started H enc _ F => by rw [OpenClaim.pre_eq_preRow]; exact lifted os started H enc F)
theorem plain (f : FuncId) (fn : Func) (hf : Tryz.pinned.checked.prog.funcNamed Rows.printerAgainRow.func = some f) (hfn : Tryz.pinned.checked.prog.funcs[f]? = some fn) :
  true = Tryz.pinned.checked.prog.looks [] ∧ ∀ (j : Nat) t, fn.params[j]? = some t → Tryz.pinned.checked.prog.wantsStandIn t = false := by
 obtain rfl : f = 7 := Option.some.inj ((show Tryz.prog.funcNamed Rows.printerAgainRow.func = some 7 by kernel_rfl).symm.trans hf) |>.symm
 obtain rfl : fn = Tryz.f7 := (Option.some.inj (Tryz.func7.symm.trans hfn)).symm
 refine ⟨by kernel_rfl, fun j t ht => ?_⟩
 rw [Tryz.params7] at ht
 have hm := Array.mem_of_getElem? ht
 have hall : (Tryz.f7.params.toList.all fun u => !Tryz.prog.wantsStandIn u) = true := by kernel_rfl
 rw [Tryz.params7] at hall
 have := List.all_eq_true.1 hall t (by simpa using hm)
 exact (show Tryz.prog.wantsStandIn t = false by simpa using this)
theorem card : Rows.PrinterAgainCardSaid :=
 Claim7.holds_tied_plain_at .later [] _ _ _ _ said (fun _ h => by cases h) (by kernel_rfl) (fun _ h => by cases h) printerAgain_row_tie rfl ⟨rfl, rfl⟩ (by kernel_rfl) rfl plain (by kernel_rfl)
end Go.Proofs.YtilfpnkcgjonhaaGreatDoor.again
