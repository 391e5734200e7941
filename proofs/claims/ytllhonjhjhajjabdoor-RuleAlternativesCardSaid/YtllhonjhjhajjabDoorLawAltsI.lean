/-
  The law RuleAlternatives: the idle cases.
-/
import Derived.Test.YtllhonjhjhajjabDoorHelpA
import Derived.Test.YtllhonjhjhajjabDoorRefItem7
import Derived.Test.YtllhonjhjhajjabDoorWalkDigits
import Derived.Test.YtllhonjhjhajjabDoorAppends
import Derived.Test.YtllhonjhjhajjabDoorRound
import Derived.Lib.QuietBelow
namespace Go.Proofs.YtllhonjhjhajjabDoor
open Go.RowKit Go.Sort Go.Shelf Foyer.Rule Foyer.Round

set_option linter.unusedSimpArgs false in
set_option maxRecDepth 100000 in
set_option maxHeartbeats 8000000 in
theorem alts_short (hh : HeadC) (a : ByteArray) (n : Nat) (_ : n < 65536) (w : World) (h : a.size = 0 ∨ 4000 < a.size) :
    Calls Tryd.prog 3 #[.string a, .int .u16 (n : Nat)] w fun e w' => e = .returned (.bool true) ∧ Below w.heap.size w w' := by
  have HS : Hid (Since w w) := Below.refl _ _
  have HH := Lib.hid hh
  clear hh
  by_cases h1 : a.size = 0
  · have e1 : (((a.size : Nat) : Int) == 0) = true := by simp [h1]
    clear h h1
    go_enter Tryd.func3, Tryd.ntmps3
    go_wp2_with fail
    refine (HH.out _).mono ?_; rintro e w1 ⟨rfl, hb1⟩
    have HS1 := Lib.hid (HS.out.call hb1); clear hb1
    go_wp2
    go_ret
    exact ⟨rfl, HS1.out⟩
  · have e1 : (((a.size : Nat) : Int) == 0) = false := by simp [h1]
    have hd : decide ((4000 : Int) < (a.size : Int)) = true := by simp; omega
    clear h h1
    go_enter Tryd.func3, Tryd.ntmps3
    go_wp2_with fail
    refine (HH.out _).mono ?_; rintro e w1 ⟨rfl, hb1⟩
    have HS1 := Lib.hid (HS.out.call hb1); clear hb1
    go_wp2
    go_ret
    exact ⟨rfl, HS1.out⟩
set_option linter.unusedSimpArgs false in
set_option maxRecDepth 100000 in
set_option maxHeartbeats 8000000 in
theorem alts_semi (hh : HeadC) (a : ByteArray) (n : Nat) (_ : n < 65536) (w : World) (k : Nat) (hk : a.size = k + 1) (h4 : a.size ≤ 4000) (hlt : k < a.size) (hz : a[k] ≠ 59) :
    Calls Tryd.prog 3 #[.string a, .int .u16 (n : Nat)] w fun e w' => e = .returned (.bool true) ∧ Below w.heap.size w w' := by
  have HS : Hid (Since w w) := Below.refl _ _
  have HH := Lib.hid hh
  have e1 : (((a.size : Nat) : Int) == 0) = false := beq_eq_false_iff_ne.2 (by omega)
  have hd : decide ((4000 : Int) < (a.size : Int)) = false := by simp; omega
  have hsub : ((a.size : Nat) : Int) - 1 = (k : Int) := by omega
  have hki : (0 : Int) ≤ k ∧ (k : Int) < a.size := by omega
  have HK := Lib.hid hk
  have e3 : (((a[k].toNat : Nat) : Int) != 59) = true := by
    simp only [bne_iff_ne, ne_eq]
    intro h
    exact hz (UInt8.toNat_inj.1 (by show a[k].toNat = 59; omega))
  clear hh hz hk
  go_enter Tryd.func3, Tryd.ntmps3
  go_wp2_with fail
  refine (HH.out _).mono ?_; rintro e w1 ⟨rfl, hb1⟩
  have HS1 := Lib.hid (HS.out.call hb1); clear hb1
  go_wp2
  go_ret
  exact ⟨rfl, HS1.out⟩
set_option linter.unusedSimpArgs false in
set_option maxRecDepth 100000 in
set_option maxHeartbeats 8000000 in
theorem alts_none (hh : HeadC) (a : ByteArray) (n : Nat) (_ : n < 65536) (w : World) (k : Nat) (hk : a.size = k + 1) (h4 : a.size ≤ 4000) (hlt : k < a.size) (hz : a[k] = 59) (xs : List ItemP) (E : Nat) (O : Int) (hp : parseAll a.data.toList = (xs, E, O)) (ts : List TokP) (F : Nat) (O2 : Int) (hx : Foyer.Lexer.lexAll a.data.toList = (ts, F, O2)) (hi : E ≠ 0 ∨ xs.length ≠ 1) :
    Calls Tryd.prog 3 #[.string a, .int .u16 (n : Nat)] w fun e w' => e = .returned (.bool true) ∧ Below w.heap.size w w' := by
  have HS : Hid (Since w w) := Below.refl _ _
  have HH := Lib.hid hh
  have e1 : (((a.size : Nat) : Int) == 0) = false := beq_eq_false_iff_ne.2 (by omega)
  have hd : decide ((4000 : Int) < (a.size : Int)) = false := by simp; omega
  have hsub : ((a.size : Nat) : Int) - 1 = (k : Int) := by omega
  have hki : (0 : Int) ≤ k ∧ (k : Int) < a.size := by omega
  have HK := Lib.hid hk
  have e3 : (((a[k].toNat : Nat) : Int) != 59) = false := by rw [hz]; rfl
  obtain ⟨m, hm⟩ : ∃ m, xs.length = m := ⟨_, rfl⟩
  have HP := Lib.hid (fun w => rule_s a (by omega) xs E O hp w)
  have HL := Lib.hid (fun w => lex_c a (by omega) ts F O2 hx w)
  rw [hm] at HP hi
  have HI := Lib.hid hi
  clear hh hz hk hp hx hi hm
  go_enter Tryd.func3, Tryd.ntmps3
  go_wp2_with fail
  refine (HH.out _).mono ?_; rintro e w1 ⟨rfl, hb1⟩
  have HS1 := Lib.hid (HS.out.call hb1); clear hb1
  go_wp2_with fail
  refine (HP.out _).mono ?_; rintro e w2 ⟨sa, sc, rfl, hv2, hb2⟩
  have hB2 := hb2.alloc hb2.size (.cells #[.slice sa m sc] 26)
  have P2 := Lib.hid (Blk.new w2 26 [.slice sa m sc])
  have L2 := Lib.hid (hv2.late ((Below.refl w2.heap.size w2).alloc (Nat.le_refl _) (.cells #[.slice sa m sc] 26)))
  have HS2 := Lib.hid (HS1.out.call hB2)
  clear hb2 hB2 hv2
  go_upto_region 5 with fail
  have P2 : Hid (Blk (w2.alloc (.cells #[.slice sa m sc] 26)) w2.heap.size 26 [.slice sa m sc]) := P2
  generalize w2.alloc (.cells #[.slice sa m sc] 26) = X2 at *
  generalize w2.heap.size = v2 at *
  go_wp2_with fail
  refine (HL.out _).mono ?_; rintro e w3 ⟨q, cap, rfl, hr, hc, hm, hb3⟩
  have P3 := Lib.hid (P2.out.below hb3); have L3 := Lib.hid (L2.out.below hb3)
  have HS3 := Lib.hid (HS2.out.call hb3); have HR := Lib.hid hr; have HC := Lib.hid hc; have HM := Lib.hid hm
  clear hb3 P2 L2 hr hc hm
  go_upto_region 6 with fail
  have p0 := P3.out.cell (i := 0) rfl
  by_cases h1 : E = 0
  · have e4 : (((E : Nat) : Int) != 0) = false := by simp [h1]
    have h2 : m ≠ 1 := HI.out.resolve_left (fun h => h h1)
    have e5 : (((m : Nat) : Int) != 1) = true := by simp; omega
    clear h1 h2
    go_wp2
    go_ret
    exact ⟨rfl, HS3.out⟩
  · have e4 : (((E : Nat) : Int) != 0) = true := by simp [h1]
    clear h1
    go_wp2
    go_ret
    exact ⟨rfl, HS3.out⟩
set_option linter.unusedSimpArgs false in
set_option maxRecDepth 100000 in
set_option maxHeartbeats 8000000 in
theorem alts_idle (hh : HeadC) (a : ByteArray) (n : Nat) (_ : n < 65536) (w : World) (k : Nat) (hk : a.size = k + 1) (h4 : a.size ≤ 4000) (hlt : k < a.size) (hz : a[k] = 59) (x : ItemP) (O : Int) (hp : parseAll a.data.toList = ([x], 0, O)) (ts : List TokP) (hx : Foyer.Lexer.lexAll a.data.toList = (ts, 0, 0)) (m : Nat) (hm : ts.length = m + 1) (t : TokP) (ht : ts[m]? = some t) (hi : t.pos ≠ k ∨ 12 ≤ x.conds.length) :
    Calls Tryd.prog 3 #[.string a, .int .u16 (n : Nat)] w fun e w' => e = .returned (.bool true) ∧ Below w.heap.size w w' := by
  have HS : Hid (Since w w) := Below.refl _ _
  have HH := Lib.hid hh
  have e1 : (((a.size : Nat) : Int) == 0) = false := beq_eq_false_iff_ne.2 (by omega)
  have hd : decide ((4000 : Int) < (a.size : Int)) = false := by simp; omega
  have hsub : ((a.size : Nat) : Int) - 1 = (k : Int) := by omega
  have hki : (0 : Int) ≤ k ∧ (k : Int) < a.size := by omega
  have HK := Lib.hid hk
  have e3 : (((a[k].toNat : Nat) : Int) != 59) = false := by rw [hz]; rfl
  have HP := Lib.hid (fun w => rule_s a (by omega) [x] 0 O hp w)
  have HL := Lib.hid (fun w => lex_c a (by omega) ts 0 0 hx w)
  have hm5 : ts.length ≤ 5000 := by have := (Foyer.Lexer.lexAll_bounds a.data.toList).1; rw [hx] at this; exact this
  obtain ⟨mm, hmm⟩ : ∃ mm, ts.length = mm := ⟨_, rfl⟩
  have HP : Hid (∀ w, Calls Tryd.prog 5 #[.string a] w fun e w' => ∃ p c, e = .returned (.tuple #[.agg #[.slice p 1 c], .int .i64 0, .int .i64 O]) ∧ IsList itemK w' (fun k => w.heap.size ≤ k) 39 (.slice p 1 c) [x] ∧ Below w.heap.size w w') := HP
  rw [hmm] at HL hm hm5
  have hsm : (mm : Int) - 1 = (m : Int) := by omega
  have e4 : (((mm : Nat) : Int) == 0) = false := by simp; omega
  have hmi : (0 : Int) ≤ m ∧ (m : Int) < mm := by omega
  have HT := Lib.hid ht
  have HI := Lib.hid hi
  clear hh hz hk hp hx hi hm hmm ht
  go_enter Tryd.func3, Tryd.ntmps3
  go_wp2_with fail
  refine (HH.out _).mono ?_; rintro e w1 ⟨rfl, hb1⟩
  have HS1 := Lib.hid (HS.out.call hb1); clear hb1
  go_wp2_with fail
  refine (HP.out _).mono ?_; rintro e w2 ⟨sa, sc, rfl, hv2, hb2⟩
  have hB2 := hb2.alloc hb2.size (.cells #[.slice sa 1 sc] 26)
  have P2 := Lib.hid (Blk.new w2 26 [.slice sa 1 sc])
  have L2 := Lib.hid (hv2.late ((Below.refl w2.heap.size w2).alloc (Nat.le_refl _) (.cells #[.slice sa 1 sc] 26)))
  have HS2 := Lib.hid (HS1.out.call hB2)
  clear hb2 hB2 hv2
  go_upto_region 5 with fail
  have P2 : Hid (Blk (w2.alloc (.cells #[.slice sa 1 sc] 26)) w2.heap.size 26 [.slice sa 1 sc]) := P2
  generalize w2.alloc (.cells #[.slice sa 1 sc] 26) = X2 at *
  generalize w2.heap.size = v2 at *
  go_wp2_with fail
  refine (HL.out _).mono ?_; rintro e w3 ⟨q, cap, rfl, hr, hc, hm, hb3⟩
  have P3 := Lib.hid (P2.out.below hb3); have L3 := Lib.hid (L2.out.below hb3)
  have HS3 := Lib.hid (HS2.out.call hb3); have HR := Lib.hid hr; have HC := Lib.hid hc; have HM := Lib.hid hm
  clear hb3 P2 L2 hr hc hm
  go_upto_region 6 with fail
  have p0 := P3.out.cell (i := 0) rfl
  obtain ⟨g, cp, cs, he, hcap9, hcm9, _, hg, ⟨vw, rfl, hw⟩, hcell⟩ := L3.out.at (i := 0) (x := x) rfl
  injection he with he1 he2 he3
  subst he1 he3
  clear he2
  replace hcap9 : 1 ≤ sc := hcap9
  obtain ⟨wa, wc, rfl⟩ := hw.len
  obtain ⟨nc, hnc⟩ : ∃ nc, x.conds.length = nc := ⟨_, rfl⟩
  rw [hnc] at hcell hw
  have d2 := hcell 2 _ rfl
  rw [show itemK.size = 9 from rfl] at d2
  obtain ⟨b, off, rfl, hbl, htk⟩ := HR.out.resolve_left (fun h => by have := HT.out; rw [h] at this; cases this)
  have dt := (htk m t HT.out).pos
  rw [Nat.zero_mul, Nat.zero_add] at d2
  have HW := Lib.hid hw; have HNC := Lib.hid hnc
  clear hcell htk hw hnc
  rw [HNC.out] at HI
  by_cases h1 : t.pos = k
  · have e6 : (((t.pos : Nat) : Int) != (k : Int)) = false := by rw [h1]; simp
    have h2 : 12 ≤ nc := HI.out.resolve_left (fun h => h h1)
    have e7 : decide ((12 : Int) ≤ (nc : Int)) = true := by simp; omega
    clear h1 h2
    go_wp2
    go_ret
    exact ⟨rfl, HS3.out⟩
  · have e6 : (((t.pos : Nat) : Int) != (k : Int)) = true := by simp; omega
    clear h1
    go_wp2
    go_ret
    exact ⟨rfl, HS3.out⟩
end Go.Proofs.YtllhonjhjhajjabDoor
