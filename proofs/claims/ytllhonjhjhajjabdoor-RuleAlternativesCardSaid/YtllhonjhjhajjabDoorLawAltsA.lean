/-
  The law RuleAlternatives: the first list.
-/
import Derived.Test.YtllhonjhjhajjabDoorHelpA
import Derived.Test.YtllhonjhjhajjabDoorRefItem7
import Derived.Test.YtllhonjhjhajjabDoorWalkDigits
import Derived.Test.YtllhonjhjhajjabDoorAppends
import Derived.Test.YtllhonjhjhajjabDoorRound
import Derived.Lib.QuietBelow
namespace Go.Proofs.YtllhonjhjhajjabDoor
open Go.RowKit Go.Sort Go.Shelf Foyer.Rule Foyer.Round

set_option linter.unusedSimpArgs false in
set_option maxRecDepth 100000 in
set_option maxHeartbeats 8000000 in
theorem alts_when (hh : HeadC) (a : ByteArray) (n : Nat) (hn : n < 65536) (w : World) (k : Nat) (hk : a.size = k + 1) (h4 : a.size ≤ 4000) (hlt : k < a.size) (hz : a[k] = 59) (x : ItemP) (O : Int) (hp : parseAll a.data.toList = ([x], 0, O)) (ts : List TokP) (hx : Foyer.Lexer.lexAll a.data.toList = (ts, 0, 0)) (m : Nat) (hm : ts.length = m + 1) (t : TokP) (ht : ts[m]? = some t) (hpos : t.pos = k) (hc : x.conds.length < 12) (hne : x.conds = []) (y : ItemP) (M : List UInt8) (hM : ((((a.data.toList.take k ++ [32, 119, 104, 101, 110, 32]) ++ [104, 101, 108, 100, 32, 60, 61, 32]) ++ dig n) ++ [59]) = M) (hq : parseAll M = ([y], 0, 0)) (hy : y.at_ (fun _ => 0) = ({ x with conds := x.conds ++ [[⟨wHeld, 4, [], n, 0⟩]] } : ItemP).at_ fun _ => 0) :
    Calls Tryd.prog 3 #[.string a, .int .u16 (n : Nat)] w fun e w' => e = .returned (.bool true) ∧ Below w.heap.size w w' := by
  have HS : Hid (Since w w) := Below.refl _ _
  have HH := Lib.hid hh
  have e1 : (((a.size : Nat) : Int) == 0) = false := beq_eq_false_iff_ne.2 (by omega)
  have hd : decide ((4000 : Int) < (a.size : Int)) = false := by simp; omega
  have hsub : ((a.size : Nat) : Int) - 1 = (k : Int) := by omega
  have hki : (0 : Int) ≤ k ∧ (k : Int) < a.size := by omega
  have HK := Lib.hid hk
  have e3 : (((a[k].toNat : Nat) : Int) != 59) = false := by rw [hz]; rfl
  have HP := Lib.hid (fun w => rule_s a (by omega) [x] 0 O hp w)
  have HL := Lib.hid (fun w => lex_c a (by omega) ts 0 0 hx w)
  have hm5 : ts.length ≤ 5000 := by have := (Foyer.Lexer.lexAll_bounds a.data.toList).1; rw [hx] at this; exact this
  obtain ⟨mm, hmm⟩ : ∃ mm, ts.length = mm := ⟨_, rfl⟩
  have HP : Hid (∀ w, Calls Tryd.prog 5 #[.string a] w fun e w' => ∃ p c, e = .returned (.tuple #[.agg #[.slice p 1 c], .int .i64 0, .int .i64 O]) ∧ IsList itemK w' (fun k => w.heap.size ≤ k) 39 (.slice p 1 c) [x] ∧ Below w.heap.size w w') := HP
  rw [hmm] at HL hm hm5
  have hsm : (mm : Int) - 1 = (m : Int) := by omega
  have e4 : (((mm : Nat) : Int) == 0) = false := by simp; omega
  have hmi : (0 : Int) ≤ m ∧ (m : Int) < mm := by omega
  have HT := Lib.hid ht
  obtain ⟨A, hA, hAl⟩ := cut_list a k
  rw [← hAl] at hM
  have hA4 : A.length ≤ 4000 := by rw [hAl, List.length_take]; omega
  have s1 := str_append A [32, 119, 104, 101, 110, 32]
  obtain ⟨B1, hB1⟩ : ∃ B, A ++ [32, 119, 104, 101, 110, 32] = B := ⟨_, rfl⟩
  rw [hB1] at s1 hM
  have hl1 : B1.length ≤ 4006 := by rw [← hB1, List.length_append]; simp; omega
  have s2 := str_append B1 [104, 101, 108, 100, 32, 60, 61, 32]
  obtain ⟨B2, hB2⟩ : ∃ B, B1 ++ [104, 101, 108, 100, 32, 60, 61, 32] = B := ⟨_, rfl⟩
  rw [hB2] at s2 hM
  have hl2 : B2.length ≤ 4014 := by rw [← hB2, List.length_append]; simp; omega
  have hdl : (dig n).length ≤ 5 := by
    obtain ⟨_, _, _, h⟩ := dig_facts 4 n (by omega)
    exact h
  have hdg := digits_any 4 n (by omega) hn
  obtain ⟨D, hD⟩ : ∃ D, dig n = D := ⟨_, rfl⟩
  rw [hD] at hM hdl hdg
  have s3 := str_append B2 D
  obtain ⟨B3, hB3⟩ : ∃ B, B2 ++ D = B := ⟨_, rfl⟩
  rw [hB3] at s3 hM
  have hl3 : B3.length ≤ 4019 := by rw [← hB3, List.length_append]; omega
  have s4 := str_append B3 [59]
  rw [hM] at s4
  have hl4 : M.length ≤ 4020 := by rw [← hM, List.length_append]; simp; omega
  have HPM := Lib.hid (fun w => rule_s ⟨M.toArray⟩ (by rw [size_of_list]; omega) [y] 0 0 hq w)
  have HPM : Hid (∀ w, Calls Tryd.prog 5 #[.string ⟨M.toArray⟩] w fun e w' => ∃ p c, e = .returned (.tuple #[.agg #[.slice p 1 c], .int .i64 0, .int .i64 0]) ∧ IsList itemK w' (fun k => w.heap.size ≤ k) 39 (.slice p 1 c) [y] ∧ Below w.heap.size w w') := HPM
  have HDG := Lib.hid hdg; have HY := Lib.hid hy
  have e6 : (((t.pos : Nat) : Int) != (k : Int)) = false := by rw [hpos]; simp
  have HNE := Lib.hid hne
  have HCC := Lib.hid hc
  have HA := hA
  clear hh hz hk hp hx hm hmm ht hAl hA hM hB1 hB2 hB3 hD hdg hq hy hc hne hpos
  go_enter Tryd.func3, Tryd.ntmps3
  go_wp2_with fail
  refine (HH.out _).mono ?_; rintro e w1 ⟨rfl, hb1⟩
  have HS1 := Lib.hid (HS.out.call hb1); clear hb1
  go_wp2_with fail
  refine (HP.out _).mono ?_; rintro e w2 ⟨sa, sc, rfl, hv2, hb2⟩
  have hB2 := hb2.alloc hb2.size (.cells #[.slice sa 1 sc] 26)
  have P2 := Lib.hid (Blk.new w2 26 [.slice sa 1 sc])
  have L2 := Lib.hid (hv2.late ((Below.refl w2.heap.size w2).alloc (Nat.le_refl _) (.cells #[.slice sa 1 sc] 26)))
  have HS2 := Lib.hid (HS1.out.call hB2)
  clear hb2 hB2 hv2
  go_upto_region 5 with fail
  have P2 : Hid (Blk (w2.alloc (.cells #[.slice sa 1 sc] 26)) w2.heap.size 26 [.slice sa 1 sc]) := P2
  generalize w2.alloc (.cells #[.slice sa 1 sc] 26) = X2 at *
  generalize w2.heap.size = v2 at *
  go_wp2_with fail
  refine (HL.out _).mono ?_; rintro e w3 ⟨q, cap, rfl, hr, hc, hm, hb3⟩
  have P3 := Lib.hid (P2.out.below hb3); have L3 := Lib.hid (L2.out.below hb3)
  have HS3 := Lib.hid (HS2.out.call hb3); have HR := Lib.hid hr; have HC := Lib.hid hc; have HM := Lib.hid hm
  clear hb3 P2 L2 hr hc hm
  go_upto_region 6 with fail
  have p0 := P3.out.cell (i := 0) rfl
  obtain ⟨g, cp, cs, he, hcap9, hcm9, _, hg, ⟨vw, rfl, hw⟩, hcell⟩ := L3.out.at (i := 0) (x := x) rfl
  injection he with he1 he2 he3
  subst he1 he3
  clear he2
  replace hcap9 : 1 ≤ sc := hcap9
  obtain ⟨wa, wc, rfl⟩ := hw.len
  obtain ⟨nc, hnc⟩ : ∃ nc, x.conds.length = nc := ⟨_, rfl⟩
  rw [hnc] at hcell hw
  have d2 := hcell 2 _ rfl
  rw [show itemK.size = 9 from rfl] at d2
  obtain ⟨b, off, rfl, hbl, htk⟩ := HR.out.resolve_left (fun h => by have := HT.out; rw [h] at this; cases this)
  have dt := (htk m t HT.out).pos
  rw [Nat.zero_mul, Nat.zero_add] at d2
  have HW := Lib.hid hw; have HNC := Lib.hid hnc
  clear hcell htk hw hnc
  have e7 : decide ((12 : Int) ≤ (nc : Int)) = false := by have h := HCC.out; rw [HNC.out] at h; simp; omega
  have h0c : nc = 0 := by have h := HNC.out; rw [HNE.out] at h; exact h.symm
  have e8 : decide (0 < nc) = false := by rw [h0c]; rfl
  have e9 : decide ((0 : Int) < (nc : Int)) = false := by rw [h0c]; rfl
  clear h0c
  go_upto_region 11 with fail
  go_cut [13, 14, 15] from 90 (fun v u u2 wx => ∃ (zb : Nat) (sp : Option Addr) (sq : Nat), v = .pointer (some ⟨zb, 0, none⟩) ∧ u = .int .i64 0 ∧ u2 = .int .i64 0 ∧ Hid (Blk wx zb 26 [.slice sp 1 sq]) ∧ Hid (IsList itemK wx (fun _ => True) 39 (.slice sp 1 sq) [y]) ∧ Hid (Below w3.heap.size w3 wx))
  case first =>
    rename_i J KM hRJ hMK
    refine wp_region_any (by kernel_rfl) ?_
    refine any_of_held (S := fun W => Below w3.heap.size w3 W) (N := []) _ _ _ _ ?_
    have hS0 : Below w3.heap.size w3 w3.drew := (Below.refl _ _).drew
    change held _ _ _ _ _ _ _ _ _ w3.drew
    generalize w3.drew = wd at *
    refine held_take [] (i := 0) (v := .string a) rfl (by kernel_rfl) (fun _ _ _ h => h) (Or.inl ⟨by rfl, fun w' hS => by go_simp⟩) hS0 ?_
    try simp only [Act.put, List.setIfInBounds_toArray, List.set_cons_zero, List.set_cons_succ]
    refine held_take [] (i := 1) (v := .string a) rfl (by kernel_rfl) (fun _ _ _ h => h) (Or.inl ⟨by rfl, fun w' hS => by go_simp⟩) hS0 ?_
    try simp only [Act.put, List.setIfInBounds_toArray, List.set_cons_zero, List.set_cons_succ]
    refine held_take [] (i := 2) (v := .int .i64 (a.size : Nat)) rfl (by kernel_rfl) (fun _ _ _ h => h) (Or.inl ⟨by rfl, fun w' hS => by go_simp⟩) hS0 ?_
    try simp only [Act.put, List.setIfInBounds_toArray, List.set_cons_zero, List.set_cons_succ]
    refine held_take [] (i := 3) (v := .int .i64 (k : Nat)) rfl (by kernel_rfl) (fun _ _ _ h => h) (Or.inl ⟨by rfl, fun w' hS => by have hw3 : IntKind.i64.wrap (k : Int) = k := (by rw [IntKind.wrap_i64]; omega); go_simp⟩) hS0 ?_
    try simp only [Act.put, List.setIfInBounds_toArray, List.set_cons_zero, List.set_cons_succ]
    refine held_take [] (i := 4) (v := .string ⟨A.toArray⟩) rfl (by kernel_rfl) (fun _ _ _ h => h) (Or.inl ⟨by rfl, fun w' hS => by go_simp; intro h; omega⟩) hS0 ?_
    try simp only [Act.put, List.setIfInBounds_toArray, List.set_cons_zero, List.set_cons_succ]
    refine held_take [] (i := 5) (v := .string ⟨#[32, 119, 104, 101, 110, 32]⟩) rfl (by kernel_rfl) (fun _ _ _ h => h) (Or.inl ⟨by rfl, fun w' hS => by go_simp⟩) hS0 ?_
    try simp only [Act.put, List.setIfInBounds_toArray, List.set_cons_zero, List.set_cons_succ]
    refine held_take [] (i := 6) (v := .string ⟨B1.toArray⟩) rfl (by kernel_rfl) (fun _ _ _ h => h) (Or.inl ⟨by rfl, fun w' hS => by go_simp; omega⟩) hS0 ?_
    try simp only [Act.put, List.setIfInBounds_toArray, List.set_cons_zero, List.set_cons_succ]
    refine held_take [] (i := 7) (v := .string ⟨B2.toArray⟩) rfl (by kernel_rfl) (fun _ _ _ h => h) (Or.inl ⟨by rfl, fun w' hS => by go_simp; omega⟩) hS0 ?_
    try simp only [Act.put, List.setIfInBounds_toArray, List.set_cons_zero, List.set_cons_succ]
    refine held_take [] (i := 8) (v := .int .u16 (n : Nat)) rfl (by kernel_rfl) (fun _ _ _ h => h) (Or.inl ⟨by rfl, fun w' hS => by go_simp⟩) hS0 ?_
    try simp only [Act.put, List.setIfInBounds_toArray, List.set_cons_zero, List.set_cons_succ]
    refine held_take [] (i := 9) (v := .int .i64 (n : Nat)) rfl (by kernel_rfl) (fun _ _ _ h => h) (Or.inl ⟨by rfl, fun w' hS => by have hw9 : IntKind.i64.wrap (n : Int) = n := (by rw [IntKind.wrap_i64]; omega); go_simp⟩) hS0 ?_
    try simp only [Act.put, List.setIfInBounds_toArray, List.set_cons_zero, List.set_cons_succ]
    refine held_two (i := 10) (j := 18) rfl rfl (by kernel_rfl) (fun K hK => ?_) (fun K hK => ?_)
    · go_simp
      refine (HDG.out wd).mono ?_
      rintro e8 W1 ⟨rfl, rfl⟩
      refine hK.out _ _ (fun _ => hS0) ?_
      clear hK K
      try simp only [Act.put, List.setIfInBounds_toArray, List.set_cons_zero, List.set_cons_succ]
      refine held_take [] (i := 11) (v := .string ⟨B3.toArray⟩) rfl (by kernel_rfl) (fun _ _ _ h => h) (Or.inl ⟨by rfl, fun w' hS => by go_simp; omega⟩) hS0 ?_
      try simp only [Act.put, List.setIfInBounds_toArray, List.set_cons_zero, List.set_cons_succ]
      refine held_take [] (i := 12) (v := .string ⟨M.toArray⟩) rfl (by kernel_rfl) (fun _ _ _ h => h) (Or.inl ⟨by rfl, fun w' hS => by go_simp; omega⟩) hS0 ?_
      try simp only [Act.put, List.setIfInBounds_toArray, List.set_cons_zero, List.set_cons_succ]
      refine held_two (i := 13) (j := 18) rfl rfl (by kernel_rfl) (fun K hK => ?_) (fun K hK => ?_)
      · go_simp
        refine (HPM.out W1).mono ?_
        rintro e8 W2 ⟨sp2, sq2, rfl, hm2, hw2⟩
        have hS2 := hS0.trans (hw2.mono hS0.size)
        have HY2 := Lib.hid (hm2.mono (F' := fun q => W1.heap.size ≤ q ∧ q < W2.heap.size) (fun q hq hlt => ⟨hq, hlt⟩))
        obtain ⟨m2, hm82⟩ : ∃ m, W1.heap.size = m := ⟨_, rfl⟩
        obtain ⟨q2, hq82⟩ : ∃ m, W2.heap.size = m := ⟨_, rfl⟩
        rw [hm82, hq82] at HY2
        have hle2 : q2 ≤ W2.heap.size := Nat.le_of_eq hq82.symm
        clear hm2 hw2 hm82 hq82
        refine hK.out _ _ (fun _ => hS2) ?_
        clear hK K
        try simp only [Act.put, List.setIfInBounds_toArray, List.set_cons_zero, List.set_cons_succ]
        refine held_take [] (i := 14) (v := .tuple #[.agg #[.slice sp2 1 sq2], .int .i64 0, .int .i64 0]) rfl (by kernel_rfl) (fun _ _ _ h => h) (Or.inl ⟨by rfl, fun w' hS => by go_simp⟩) hS2 ?_
        try simp only [Act.put, List.setIfInBounds_toArray, List.set_cons_zero, List.set_cons_succ]
        refine held_take [] (i := 15) (v := .agg #[.slice sp2 1 sq2]) rfl (by kernel_rfl) (fun _ _ _ h => h) (Or.inl ⟨by rfl, fun w' hS => by go_simp⟩) hS2 ?_
        try simp only [Act.put, List.setIfInBounds_toArray, List.set_cons_zero, List.set_cons_succ]
        refine held_take [] (i := 16) (v := .int .i64 0) rfl (by kernel_rfl) (fun _ _ _ h => h) (Or.inl ⟨by rfl, fun w' hS => by go_simp⟩) hS2 ?_
        try simp only [Act.put, List.setIfInBounds_toArray, List.set_cons_zero, List.set_cons_succ]
        refine held_take [] (i := 17) (v := .int .i64 0) rfl (by kernel_rfl) (fun _ _ _ h => h) (Or.inl ⟨by rfl, fun w' hS => by go_simp⟩) hS2 ?_
        try simp only [Act.put, List.setIfInBounds_toArray, List.set_cons_zero, List.set_cons_succ]
        refine held_one (i := 18) rfl (by kernel_rfl) (fun K hK => ?_)
        go_simp
        have HZ3 := Lib.hid (Blk.new W2 26 [.slice none 0 0])
        have hS3 := hS2.alloc hS2.size (.cells #[.slice none 0 0] 26)
        have hzb3 := hS2.size
        have HY3 := Lib.hid (HY2.out.kept (W' := W2.alloc (.cells #[.slice none 0 0] 26)) (fun q _ hq => Below.heap_alloc _ _ _ hq))
        have hz83 : W2.heap.size < m2 ∨ q2 ≤ W2.heap.size := Or.inr hle2
        refine hK.out _ _ (fun _ => hS3) ?_
        clear hK K
        try simp only [Act.put, List.setIfInBounds_toArray, List.set_cons_zero, List.set_cons_succ]
        have hbs3 : W2.heap.size < (W2.alloc (.cells #[.slice none 0 0] 26)).heap.size := by simp
        generalize W2.alloc (.cells #[.slice none 0 0] 26) = W3 at *
        generalize W2.heap.size = b3 at *
        have hc4 := HZ3.out.cell (i := 0) rfl
        have hf4 := HZ3.out.free 0
        refine held_one (i := 19) rfl (by kernel_rfl) (fun K hK => ?_)
        go_simp
        have hz4 : w3.heap.size ≤ b3 := by omega
        have hS4 : Below w3.heap.size w3 (W3.setCell ⟨b3, 0, none⟩ (.slice sp2 1 sq2)) := ((Kp.of_below (E := fun _ => False) hS3).setNew b3 0 hz4 (.slice sp2 1 sq2)).below (Nat.le_refl _) (fun q hq => hq.elim)
        refine hK.out _ _ (fun _ => hS4) ?_
        clear hK K hc4 hf4
        try simp only [Act.put, List.setIfInBounds_toArray, List.set_cons_zero, List.set_cons_succ]
        refine held_one (i := 20) rfl (by kernel_rfl) (fun K hK => ?_)
        go_simp
        refine hK.out _ _ (fun _ => hS4) ?_
        clear hK K
        try simp only [Act.put, List.setIfInBounds_toArray, List.set_cons_zero, List.set_cons_succ]
        refine held_one (i := 21) rfl (by kernel_rfl) (fun K hK => ?_)
        go_simp
        refine hK.out _ _ (fun _ => hS4) ?_
        clear hK K
        try simp only [Act.put, List.setIfInBounds_toArray, List.set_cons_zero, List.set_cons_succ]
        refine held_done (by kernel_rfl) ?_ _
        refine hMK _ _ (Met.intro (hRJ _ _ ?_))
        (repeat apply Exists.intro)
        refine ⟨?rel4, rfl⟩
        refine ⟨b3, _, _, rfl, rfl, rfl, Lib.hid (HZ3.out.set 0 (.slice sp2 1 sq2)), Lib.hid ((HY3.out.kept (W' := (W3.setCell ⟨b3, 0, none⟩ (.slice sp2 1 sq2))) (fun q hq _ => Below.heap_setCell _ _ _ _ (by have h1 := hq.1; have h2 := hq.2; have h3 := hz83; show q ≠ b3; omega))).mono (fun _ _ _ => trivial)), Lib.hid hS4⟩
      · go_simp
        have HZ5 := Lib.hid (Blk.new W1 26 [.slice none 0 0])
        have hS5 := hS0.alloc hS0.size (.cells #[.slice none 0 0] 26)
        have hzb5 := hS0.size
        refine hK.out _ _ (fun _ => hS5) ?_
        clear hK K
        try simp only [Act.put, List.setIfInBounds_toArray, List.set_cons_zero, List.set_cons_succ]
        have hbs5 : W1.heap.size < (W1.alloc (.cells #[.slice none 0 0] 26)).heap.size := by simp
        generalize W1.alloc (.cells #[.slice none 0 0] 26) = W5 at *
        generalize W1.heap.size = b5 at *
        refine held_one (i := 13) rfl (by kernel_rfl) (fun K hK => ?_)
        go_simp
        refine (HPM.out W5).mono ?_
        rintro e8 W6 ⟨sp6, sq6, rfl, hm6, hw6⟩
        have hS6 := hS5.trans (hw6.mono hS5.size)
        have HY6 := Lib.hid (hm6.mono (F' := fun q => W5.heap.size ≤ q ∧ q < W6.heap.size) (fun q hq hlt => ⟨hq, hlt⟩))
        have HZ6 : Hid (Blk W6 b5 26 [.slice none 0 0]) := Lib.hid (HZ5.out.below hw6)
        have hz86 : b5 < W5.heap.size ∨ W6.heap.size ≤ b5 := Or.inl HZ5.out.lt
        obtain ⟨m6, hm86⟩ : ∃ m, W5.heap.size = m := ⟨_, rfl⟩
        obtain ⟨q6, hq86⟩ : ∃ m, W6.heap.size = m := ⟨_, rfl⟩
        rw [hm86, hq86] at HY6
        rw [hm86, hq86] at hz86
        have hle6 : q6 ≤ W6.heap.size := Nat.le_of_eq hq86.symm
        clear hm6 hw6 hm86 hq86
        refine hK.out _ _ (fun _ => hS6) ?_
        clear hK K
        try simp only [Act.put, List.setIfInBounds_toArray, List.set_cons_zero, List.set_cons_succ]
        refine held_take [] (i := 14) (v := .tuple #[.agg #[.slice sp6 1 sq6], .int .i64 0, .int .i64 0]) rfl (by kernel_rfl) (fun _ _ _ h => h) (Or.inl ⟨by rfl, fun w' hS => by go_simp⟩) hS6 ?_
        try simp only [Act.put, List.setIfInBounds_toArray, List.set_cons_zero, List.set_cons_succ]
        refine held_take [] (i := 15) (v := .agg #[.slice sp6 1 sq6]) rfl (by kernel_rfl) (fun _ _ _ h => h) (Or.inl ⟨by rfl, fun w' hS => by go_simp⟩) hS6 ?_
        try simp only [Act.put, List.setIfInBounds_toArray, List.set_cons_zero, List.set_cons_succ]
        refine held_take [] (i := 16) (v := .int .i64 0) rfl (by kernel_rfl) (fun _ _ _ h => h) (Or.inl ⟨by rfl, fun w' hS => by go_simp⟩) hS6 ?_
        try simp only [Act.put, List.setIfInBounds_toArray, List.set_cons_zero, List.set_cons_succ]
        refine held_take [] (i := 17) (v := .int .i64 0) rfl (by kernel_rfl) (fun _ _ _ h => h) (Or.inl ⟨by rfl, fun w' hS => by go_simp⟩) hS6 ?_
        try simp only [Act.put, List.setIfInBounds_toArray, List.set_cons_zero, List.set_cons_succ]
        have hc7 := HZ6.out.cell (i := 0) rfl
        have hf7 := HZ6.out.free 0
        refine held_one (i := 19) rfl (by kernel_rfl) (fun K hK => ?_)
        go_simp
        have hz7 : w3.heap.size ≤ b5 := by omega
        have hS7 : Below w3.heap.size w3 (W6.setCell ⟨b5, 0, none⟩ (.slice sp6 1 sq6)) := ((Kp.of_below (E := fun _ => False) hS6).setNew b5 0 hz7 (.slice sp6 1 sq6)).below (Nat.le_refl _) (fun q hq => hq.elim)
        refine hK.out _ _ (fun _ => hS7) ?_
        clear hK K hc7 hf7
        try simp only [Act.put, List.setIfInBounds_toArray, List.set_cons_zero, List.set_cons_succ]
        refine held_one (i := 20) rfl (by kernel_rfl) (fun K hK => ?_)
        go_simp
        refine hK.out _ _ (fun _ => hS7) ?_
        clear hK K
        try simp only [Act.put, List.setIfInBounds_toArray, List.set_cons_zero, List.set_cons_succ]
        refine held_one (i := 21) rfl (by kernel_rfl) (fun K hK => ?_)
        go_simp
        refine hK.out _ _ (fun _ => hS7) ?_
        clear hK K
        try simp only [Act.put, List.setIfInBounds_toArray, List.set_cons_zero, List.set_cons_succ]
        refine held_done (by kernel_rfl) ?_ _
        refine hMK _ _ (Met.intro (hRJ _ _ ?_))
        (repeat apply Exists.intro)
        refine ⟨?rel7, rfl⟩
        refine ⟨b5, _, _, rfl, rfl, rfl, Lib.hid (HZ6.out.set 0 (.slice sp6 1 sq6)), Lib.hid ((HY6.out.kept (W' := (W6.setCell ⟨b5, 0, none⟩ (.slice sp6 1 sq6))) (fun q hq _ => Below.heap_setCell _ _ _ _ (by have h1 := hq.1; have h2 := hq.2; have h3 := hz86; show q ≠ b5; omega))).mono (fun _ _ _ => trivial)), Lib.hid hS7⟩
    · go_simp
      have HZ8 := Lib.hid (Blk.new wd 26 [.slice none 0 0])
      have hS8 := hS0.alloc hS0.size (.cells #[.slice none 0 0] 26)
      have hzb8 := hS0.size
      refine hK.out _ _ (fun _ => hS8) ?_
      clear hK K
      try simp only [Act.put, List.setIfInBounds_toArray, List.set_cons_zero, List.set_cons_succ]
      have hbs8 : wd.heap.size < (wd.alloc (.cells #[.slice none 0 0] 26)).heap.size := by simp
      generalize wd.alloc (.cells #[.slice none 0 0] 26) = W8 at *
      generalize wd.heap.size = b8 at *
      refine held_one (i := 10) rfl (by kernel_rfl) (fun K hK => ?_)
      go_simp
      refine (HDG.out W8).mono ?_
      rintro e8 W9 ⟨rfl, rfl⟩
      refine hK.out _ _ (fun _ => hS8) ?_
      clear hK K
      try simp only [Act.put, List.setIfInBounds_toArray, List.set_cons_zero, List.set_cons_succ]
      refine held_take [] (i := 11) (v := .string ⟨B3.toArray⟩) rfl (by kernel_rfl) (fun _ _ _ h => h) (Or.inl ⟨by rfl, fun w' hS => by go_simp; omega⟩) hS8 ?_
      try simp only [Act.put, List.setIfInBounds_toArray, List.set_cons_zero, List.set_cons_succ]
      refine held_take [] (i := 12) (v := .string ⟨M.toArray⟩) rfl (by kernel_rfl) (fun _ _ _ h => h) (Or.inl ⟨by rfl, fun w' hS => by go_simp; omega⟩) hS8 ?_
      try simp only [Act.put, List.setIfInBounds_toArray, List.set_cons_zero, List.set_cons_succ]
      refine held_one (i := 13) rfl (by kernel_rfl) (fun K hK => ?_)
      go_simp
      refine (HPM.out W9).mono ?_
      rintro e8 W10 ⟨sp10, sq10, rfl, hm10, hw10⟩
      have hS10 := hS8.trans (hw10.mono hS8.size)
      have HY10 := Lib.hid (hm10.mono (F' := fun q => W9.heap.size ≤ q ∧ q < W10.heap.size) (fun q hq hlt => ⟨hq, hlt⟩))
      have HZ10 : Hid (Blk W10 b8 26 [.slice none 0 0]) := Lib.hid (HZ8.out.below hw10)
      have hz810 : b8 < W9.heap.size ∨ W10.heap.size ≤ b8 := Or.inl HZ8.out.lt
      obtain ⟨m10, hm810⟩ : ∃ m, W9.heap.size = m := ⟨_, rfl⟩
      obtain ⟨q10, hq810⟩ : ∃ m, W10.heap.size = m := ⟨_, rfl⟩
      rw [hm810, hq810] at HY10
      rw [hm810, hq810] at hz810
      have hle10 : q10 ≤ W10.heap.size := Nat.le_of_eq hq810.symm
      clear hm10 hw10 hm810 hq810
      refine hK.out _ _ (fun _ => hS10) ?_
      clear hK K
      try simp only [Act.put, List.setIfInBounds_toArray, List.set_cons_zero, List.set_cons_succ]
      refine held_take [] (i := 14) (v := .tuple #[.agg #[.slice sp10 1 sq10], .int .i64 0, .int .i64 0]) rfl (by kernel_rfl) (fun _ _ _ h => h) (Or.inl ⟨by rfl, fun w' hS => by go_simp⟩) hS10 ?_
      try simp only [Act.put, List.setIfInBounds_toArray, List.set_cons_zero, List.set_cons_succ]
      refine held_take [] (i := 15) (v := .agg #[.slice sp10 1 sq10]) rfl (by kernel_rfl) (fun _ _ _ h => h) (Or.inl ⟨by rfl, fun w' hS => by go_simp⟩) hS10 ?_
      try simp only [Act.put, List.setIfInBounds_toArray, List.set_cons_zero, List.set_cons_succ]
      refine held_take [] (i := 16) (v := .int .i64 0) rfl (by kernel_rfl) (fun _ _ _ h => h) (Or.inl ⟨by rfl, fun w' hS => by go_simp⟩) hS10 ?_
      try simp only [Act.put, List.setIfInBounds_toArray, List.set_cons_zero, List.set_cons_succ]
      refine held_take [] (i := 17) (v := .int .i64 0) rfl (by kernel_rfl) (fun _ _ _ h => h) (Or.inl ⟨by rfl, fun w' hS => by go_simp⟩) hS10 ?_
      try simp only [Act.put, List.setIfInBounds_toArray, List.set_cons_zero, List.set_cons_succ]
      have hc11 := HZ10.out.cell (i := 0) rfl
      have hf11 := HZ10.out.free 0
      refine held_one (i := 19) rfl (by kernel_rfl) (fun K hK => ?_)
      go_simp
      have hz11 : w3.heap.size ≤ b8 := by omega
      have hS11 : Below w3.heap.size w3 (W10.setCell ⟨b8, 0, none⟩ (.slice sp10 1 sq10)) := ((Kp.of_below (E := fun _ => False) hS10).setNew b8 0 hz11 (.slice sp10 1 sq10)).below (Nat.le_refl _) (fun q hq => hq.elim)
      refine hK.out _ _ (fun _ => hS11) ?_
      clear hK K hc11 hf11
      try simp only [Act.put, List.setIfInBounds_toArray, List.set_cons_zero, List.set_cons_succ]
      refine held_one (i := 20) rfl (by kernel_rfl) (fun K hK => ?_)
      go_simp
      refine hK.out _ _ (fun _ => hS11) ?_
      clear hK K
      try simp only [Act.put, List.setIfInBounds_toArray, List.set_cons_zero, List.set_cons_succ]
      refine held_one (i := 21) rfl (by kernel_rfl) (fun K hK => ?_)
      go_simp
      refine hK.out _ _ (fun _ => hS11) ?_
      clear hK K
      try simp only [Act.put, List.setIfInBounds_toArray, List.set_cons_zero, List.set_cons_succ]
      refine held_done (by kernel_rfl) ?_ _
      refine hMK _ _ (Met.intro (hRJ _ _ ?_))
      (repeat apply Exists.intro)
      refine ⟨?rel11, rfl⟩
      refine ⟨b8, _, _, rfl, rfl, rfl, Lib.hid (HZ10.out.set 0 (.slice sp10 1 sq10)), Lib.hid ((HY10.out.kept (W' := (W10.setCell ⟨b8, 0, none⟩ (.slice sp10 1 sq10))) (fun q hq _ => Below.heap_setCell _ _ _ _ (by have h1 := hq.1; have h2 := hq.2; have h3 := hz810; show q ≠ b8; omega))).mono (fun _ _ _ => trivial)), Lib.hid hS11⟩
  case rest =>
    obtain ⟨zb, sp, sq, rfl, rfl, rfl, HZB, HIS, HS4⟩ := hcut
    have P4 := Lib.hid (P3.out.below HS4.out); have L4 := Lib.hid (L3.out.below HS4.out); have HS5 := Lib.hid (HS3.out.call HS4.out)
    clear P3 L3 HS3 HS4 p0 d2 dt hg HR hbl
    have p0 := P4.out.cell (i := 0) rfl
    have c0 := HZB.out.cell (i := 0) rfl
    obtain ⟨g', cp', cs', he', hcap', _, _, hg', ⟨vw', rfl, hw'⟩, hcell'⟩ := L4.out.at (i := 0) (x := x) rfl
    injection he' with he1' he2' he3'
    cases he1'
    clear he2' he3'
    obtain ⟨wa2, wc2, rfl⟩ := hw'.len
    rw [HNC.out] at hw' hcell'
    have d0 := hcell' 0 _ rfl
    have d1 := hcell' 1 _ rfl
    have d2 := hcell' 2 _ rfl
    have d3 := hcell' 3 _ rfl
    have d4 := hcell' 4 _ rfl
    have d5 := hcell' 5 _ rfl
    have d6 := hcell' 6 _ rfl
    have d7 := hcell' 7 _ rfl
    have d8 := hcell' 8 _ rfl
    rw [show itemK.size = 9 from rfl, Nat.zero_mul, Nat.zero_add] at d0 d1 d2 d3 d4 d5 d6 d7 d8
    have HW2 := Lib.hid hw'
    have hw9 : IntKind.i64.wrap (n : Int) = n := by rw [IntKind.wrap_i64]; omega
    clear hcell' hw'
    go_upto_region 15 with fail
    have V5 : Hid (Blk (wc.alloc (.cells #[.int .i64 (x.kind : Nat), .string ⟨x.name.toArray⟩, .slice wa2 nc wc2, .int .i64 (x.head.n : Nat), .int .i64 (x.head.rn : Nat), .int .i64 (x.head.rd : Nat), .int .i64 (x.head.sn : Nat), .int .i64 (x.head.sd : Nat), .int .i64 (x.pos : Nat)] 39)) wc.heap.size 39 [.int .i64 (x.kind : Nat), .string ⟨x.name.toArray⟩, .slice wa2 nc wc2, .int .i64 (x.head.n : Nat), .int .i64 (x.head.rn : Nat), .int .i64 (x.head.rd : Nat), .int .i64 (x.head.sn : Nat), .int .i64 (x.head.sd : Nat), .int .i64 (x.pos : Nat)]) := Lib.hid (Blk.new wc 39 [.int .i64 (x.kind : Nat), .string ⟨x.name.toArray⟩, .slice wa2 nc wc2, .int .i64 (x.head.n : Nat), .int .i64 (x.head.rn : Nat), .int .i64 (x.head.rd : Nat), .int .i64 (x.head.sn : Nat), .int .i64 (x.head.sd : Nat), .int .i64 (x.pos : Nat)])
    have hS5 : Below wc.heap.size wc (wc.alloc (.cells #[.int .i64 (x.kind : Nat), .string ⟨x.name.toArray⟩, .slice wa2 nc wc2, .int .i64 (x.head.n : Nat), .int .i64 (x.head.rn : Nat), .int .i64 (x.head.rd : Nat), .int .i64 (x.head.sn : Nat), .int .i64 (x.head.sd : Nat), .int .i64 (x.pos : Nat)] 39)) := (Below.refl _ _).alloc (Nat.le_refl _) _
    have hz5 : wc.heap.size < (wc.alloc (.cells #[.int .i64 (x.kind : Nat), .string ⟨x.name.toArray⟩, .slice wa2 nc wc2, .int .i64 (x.head.n : Nat), .int .i64 (x.head.rn : Nat), .int .i64 (x.head.rd : Nat), .int .i64 (x.head.sn : Nat), .int .i64 (x.head.sd : Nat), .int .i64 (x.pos : Nat)] 39)).heap.size := by simp
    generalize wc.alloc (.cells #[.int .i64 (x.kind : Nat), .string ⟨x.name.toArray⟩, .slice wa2 nc wc2, .int .i64 (x.head.n : Nat), .int .i64 (x.head.rn : Nat), .int .i64 (x.head.rd : Nat), .int .i64 (x.head.sn : Nat), .int .i64 (x.head.sd : Nat), .int .i64 (x.pos : Nat)] 39) = X5 at *
    obtain ⟨css, hcx, _, hall⟩ := HW2.out
    have hlc : css.length = nc := by rw [All2.length hall]; exact HNC.out
    have hone := tests_one hall
    obtain ⟨i0, hi0, hz0, hz1, hz2⟩ := info_parts' listTests_info
    have hcx6 := (hcx.of_block (w' := X5) (fun q hq => hS5.block q (own_lt hcx.own hq).2)).of_block (w' := X5.alloc (.cells #[] 43)) (fun q hq => Below.heap_alloc _ _ _ (Nat.lt_of_lt_of_le (own_lt hcx.own hq).2 hS5.size))
    have HC6 := Lib.hid (show Con (X5.alloc (.cells #[] 43)) X5.heap.size 43 testsK.size (.slice (some ⟨X5.heap.size, 0, none⟩) 0 0) [] from ⟨World.ownsRow_made X5 #[] 0 (Nat.le_refl _) (Nat.zero_le _) rfl, fun cs h => by cases h⟩)
    have HCX6 := Lib.hid hcx6; have HLC := Lib.hid hlc; have HO : Hid (∀ d ∈ css, ∀ u ∈ d, u.oneCell' = true) := Lib.hid hone; have HALL := Lib.hid hall
    have HI := Lib.hid hi0; have HZ0 := Lib.hid hz0; have HZ1 := Lib.hid hz1; have HZ2 := Lib.hid hz2; have HS6 := Lib.hid hS5
    have hnc12 : nc < 12 := by have := HCC.out; rw [HNC.out] at this; exact this
    clear hcx hcx6 hlc hone hall hi0 hz0 hz1 hz2 hS5 d0 d1 d2 d3 d4 d5 d6 d7 d8 p0 c0
    have o2 := V5.out.cell (i := 2) rfl
    go_upto_region 16 with (first | (refine wpList_appends_con (t := 35) (T := 43) (m := testsK.size) (B := X5.heap.size) Tryd.underlying35 HI.out HZ0.out HZ1.out HZ2.out rfl (by decide) (by decide) rfl (.tmp 120) (.tmp 122) rfl _ ([] : List (List Value)) css nc HLC.out rfl HC6.out (.slice wa2 nc wc2) rfl HCX6.out HO.out (by show 0 + nc ≤ 1000000; omega) (by rw [World.size_alloc]; omega) ?_; intro pa7 pc7 W7 hcon7 hgr7 hat7; generalize ([] : List (List Value)).length + nc = k7 at *; have S7 : Hid (Below X5.heap.size X5 W7) := Lib.hid (((Below.refl X5.heap.size X5).alloc (Nat.le_refl _) (.cells #[] 43)).grown hgr7 (by rw [World.size_alloc]; omega) (fun q hq => (own_lt HC6.out.own hq).1)); have hs7 := S7.out.size; have HC7 := Lib.hid hcon7; have HC8 := Lib.hid ((HC7.out.of_block (w' := W7.alloc (.cells #[.string ⟨#[104, 101, 108, 100]⟩, .int .i64 4, .string ⟨#[]⟩, .int .i64 (n : Nat), .int .i64 0] 42)) (fun q hq => Below.heap_alloc _ _ _ (own_lt HC7.out.own hq).2)).of_block (w' := (W7.alloc (.cells #[.string ⟨#[104, 101, 108, 100]⟩, .int .i64 4, .string ⟨#[]⟩, .int .i64 (n : Nat), .int .i64 0] 42)).alloc (.cells #[.slice (some ⟨W7.heap.size, 0, none⟩) 1 1] 43)) (fun q hq => Below.heap_alloc _ _ _ (by have := (own_lt HC7.out.own hq).2; rw [World.size_alloc]; omega))); have b8 := Blk.new (W7.alloc (.cells #[.string ⟨#[104, 101, 108, 100]⟩, .int .i64 4, .string ⟨#[]⟩, .int .i64 (n : Nat), .int .i64 0] 42)) 43 [.slice (some ⟨W7.heap.size, 0, none⟩) 1 1]; rw [World.size_alloc] at b8; have HSRC := Lib.hid (con_one (B := 0) (m := testsK.size) b8 (Nat.zero_le _) rfl); have HT8 := Lib.hid ((Blk.new W7 42 [.string ⟨#[104, 101, 108, 100]⟩, .int .i64 4, .string ⟨#[]⟩, .int .i64 (n : Nat), .int .i64 0]).alloc (.cells #[.slice (some ⟨W7.heap.size, 0, none⟩) 1 1] 43)); have V7 := Lib.hid (V5.out.below S7.out); clear hcon7 hgr7 hat7 b8 o2) | (refine wpList_appends_con (t := 35) (T := 43) (m := testsK.size) (B := X5.heap.size) Tryd.underlying35 HI.out HZ0.out HZ1.out HZ2.out rfl (by decide) (by decide) rfl (.tmp 123) (.tmp 128) rfl _ ([] ++ css : List (List Value)) [[.slice (some ⟨W7.heap.size, 0, none⟩) 1 1]] 1 rfl rfl HC8.out (.slice (some ⟨W7.heap.size + 1, 0, none⟩) 1 1) rfl HSRC.out (by intro d hd u hu; rw [List.mem_singleton] at hd; subst hd; rw [List.mem_singleton] at hu; subst hu; rfl) (by rw [List.nil_append, HLC.out]; omega) (by rw [World.size_alloc, World.size_alloc]; omega) ?_; intro pa9 pc9 W9 hcon9 hgr9 hat9; generalize ([] ++ css : List (List Value)).length + 1 = k9 at *; have S9 : Hid (Below X5.heap.size X5 W9) := Lib.hid (((S7.out.alloc hs7 (.cells #[.string ⟨#[104, 101, 108, 100]⟩, .int .i64 4, .string ⟨#[]⟩, .int .i64 (n : Nat), .int .i64 0] 42)).alloc (by rw [World.size_alloc]; omega) (.cells #[.slice (some ⟨W7.heap.size, 0, none⟩) 1 1] 43)).grown hgr9 (by rw [World.size_alloc, World.size_alloc]; omega) (fun q hq => (own_lt HC8.out.own hq).1)); have HC9 := Lib.hid hcon9; have hown7 : ∀ q, (Value.slice pa7 k7 pc7).ownBlock = some q → q < W7.heap.size := fun q hq => (own_lt HC7.out.own hq).2; have HT9 : Hid (Blk W9 W7.heap.size 42 [.string ⟨#[104, 101, 108, 100]⟩, .int .i64 4, .string ⟨#[]⟩, .int .i64 (n : Nat), .int .i64 0]) := Lib.hid ((hgr9.block W7.heap.size (by rw [World.size_alloc, World.size_alloc]; omega) (fun h => by have := hown7 _ h.symm; omega)).trans HT8.out); have V9 := Lib.hid (V5.out.below S9.out); have hv2 := V9.out.cell (i := 2) rfl; have hvf := V9.out.free; clear hcon9 hgr9 hat9 hown7))
    have V10 : Hid (Blk (W9.setCell ⟨wc.heap.size, 2, none⟩ (.slice pa9 k9 pc9)) wc.heap.size 39 [.int .i64 (x.kind : Nat), .string ⟨x.name.toArray⟩, .slice pa9 k9 pc9, .int .i64 (x.head.n : Nat), .int .i64 (x.head.rn : Nat), .int .i64 (x.head.rd : Nat), .int .i64 (x.head.sn : Nat), .int .i64 (x.head.sd : Nat), .int .i64 (x.pos : Nat)]) := Lib.hid (V9.out.set 2 (.slice pa9 k9 pc9))
    have S10 : Below wc.heap.size wc (W9.setCell ⟨wc.heap.size, 2, none⟩ (.slice pa9 k9 pc9)) := (HS6.out.trans (S9.out.mono HS6.out.size)).setCell (p := ⟨wc.heap.size, 2, none⟩) (Nat.le_refl _) _
    have hT10 : Blk (W9.setCell ⟨wc.heap.size, 2, none⟩ (.slice pa9 k9 pc9)) W7.heap.size 42 [.string ⟨#[104, 101, 108, 100]⟩, .int .i64 4, .string ⟨#[]⟩, .int .i64 (n : Nat), .int .i64 0] := (Below.heap_setCell _ _ _ _ (by show W7.heap.size ≠ wc.heap.size; omega)).trans HT9.out
    have hC10 := HC9.out.of_block (w' := W9.setCell ⟨wc.heap.size, 2, none⟩ (.slice pa9 k9 pc9)) (fun q hq => Below.heap_setCell _ _ _ _ (by have := (own_lt HC9.out.own hq).1; show q ≠ wc.heap.size; omega))
    have HLN : Hid (IsList testsK (W9.setCell ⟨wc.heap.size, 2, none⟩ (.slice pa9 k9 pc9)) (fun _ => True) 43 (.slice pa9 k9 pc9) (x.conds ++ [[⟨wHeld, 4, [], n, 0⟩]])) := Lib.hid ⟨_, hC10.base (Nat.zero_le _), fun _ _ => trivial, all2_append (All2.imp HALL.out fun _ _ h => testsK.moved h (fun q _ hlt => S10.block q hlt) (fun _ _ _ => trivial)) (.cons ⟨_, rfl, ⟨_, con_one hT10 (Nat.zero_le _) rfl, fun _ _ => trivial, .cons rfl .nil⟩⟩ .nil)⟩
    have HSX := Lib.hid S10
    clear hT10 hC10 hv2 hvf S10 V9 HT9 HC9
    generalize W9.setCell ⟨wc.heap.size, 2, none⟩ (.slice pa9 k9 pc9) = X10 at *
    have HZ10 := Lib.hid (HZB.out.below HSX.out); have HIS10 := Lib.hid (HIS.out.below HSX.out)
    obtain ⟨g2, cp2, cs2, he2, hcap2, _, _, hg2, ⟨vy, rfl, hy2⟩, hcell2⟩ := HIS10.out.at (i := 0) (x := y) rfl
    injection he2 with he21 he22 he23
    subst he21 he23
    clear he22
    obtain ⟨ya, yc, rfl⟩ := hy2.len
    obtain ⟨ny, hny⟩ : ∃ ny, y.conds.length = ny := ⟨_, rfl⟩
    rw [hny] at hy2 hcell2
    replace hcap2 : 1 ≤ sq := hcap2
    have HCT := Lib.hid (fun (d : Nat) (os : Array Obj) => Calls.regrown_of (sameItemv_false y { x with conds := x.conds ++ [[⟨wHeld, 4, [], n, 0⟩]] } HY.out (.slice ya ny yc) (.slice pa9 k9 pc9) _ _ (grow (redrawn X10 d) os) (hy2.below (below_regrown X10 d os)) (HLN.out.below (below_regrown X10 d os))))
    unfold itemCl at HCT
    try dsimp only at HCT
    have q0 := hcell2 0 _ rfl
    have q1 := hcell2 1 _ rfl
    have q2 := hcell2 2 _ rfl
    have q3 := hcell2 3 _ rfl
    have q4 := hcell2 4 _ rfl
    have q5 := hcell2 5 _ rfl
    have q6 := hcell2 6 _ rfl
    have q7 := hcell2 7 _ rfl
    have q8 := hcell2 8 _ rfl
    rw [show itemK.size = 9 from rfl, Nat.zero_mul, Nat.zero_add] at q0 q1 q2 q3 q4 q5 q6 q7 q8
    have r0 := fun d os => cell_regrown q0 d os
    have r1 := fun d os => cell_regrown q1 d os
    have r2 := fun d os => cell_regrown q2 d os
    have r3 := fun d os => cell_regrown q3 d os
    have r4 := fun d os => cell_regrown q4 d os
    have r5 := fun d os => cell_regrown q5 d os
    have r6 := fun d os => cell_regrown q6 d os
    have r7 := fun d os => cell_regrown q7 d os
    have r8 := fun d os => cell_regrown q8 d os
    have zc := fun d os => cell_regrown (HZ10.out.cell (i := 0) rfl) d os
    have v0c := fun d os => cell_regrown (V10.out.cell (i := 0) rfl) d os
    have v1c := fun d os => cell_regrown (V10.out.cell (i := 1) rfl) d os
    have v2c := fun d os => cell_regrown (V10.out.cell (i := 2) rfl) d os
    have v3c := fun d os => cell_regrown (V10.out.cell (i := 3) rfl) d os
    have v4c := fun d os => cell_regrown (V10.out.cell (i := 4) rfl) d os
    have v5c := fun d os => cell_regrown (V10.out.cell (i := 5) rfl) d os
    have v6c := fun d os => cell_regrown (V10.out.cell (i := 6) rfl) d os
    have v7c := fun d os => cell_regrown (V10.out.cell (i := 7) rfl) d os
    have v8c := fun d os => cell_regrown (V10.out.cell (i := 8) rfl) d os
    clear hcell2 hy2 hny q0 q1 q2 q3 q4 q5 q6 q7 q8
    refine wp_region_quiet_below (by kernel_rfl) (by kernel_rfl) ?_
    repeat (go_big_quiet_step (with_reducible exact HCT.out _ _))
    refine wpQuiet_nil ?_
    intro _ hw'
    obtain ⟨⟨dq, osq⟩, hw''⟩ := hw'
    subst hw''
    have hbr := below_regrown X10 dq osq
    have HSE := Lib.hid ((HS5.out.call HSX.out).call hbr)
    clear HCT zc r0 r1 r2 r3 r4 r5 r6 r7 r8 v0c v1c v2c v3c v4c v5c v6c v7c v8c hbr
    generalize grow (redrawn X10 dq) osq = X11 at *
    go_wp2
    go_ret
    exact ⟨rfl, HSE.out⟩
end Go.Proofs.YtllhonjhjhajjabDoor
