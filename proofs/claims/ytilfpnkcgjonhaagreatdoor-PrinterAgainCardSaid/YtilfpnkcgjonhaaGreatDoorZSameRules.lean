/-
  The document's own comparison of rules but for their offsets: what it answers.
-/
import Derived.Test.YtilfpnkcgjonhaaGreatDoorZSameRow
import Derived.Test.YtilfpnkcgjonhaaGreatDoorZRdRule
namespace Go.Proofs.YtilfpnkcgjonhaaGreatDoor.Pr
open Go.RowKit Go.Sort Foyer.Printer Foyer.Lexer
theorem mtake {α β : Type} {f : α → β} {xs ys : List α} {k : Nat} {x y : α} (h : (xs.take k).map f = (ys.take k).map f) (hx : xs[k]? = some x) (hy : ys[k]? = some y) (hf : f x = f y) : (xs.take (k + 1)).map f = (ys.take (k + 1)).map f := by
 obtain ⟨h1, h2⟩ := List.getElem?_eq_some_iff.1 hx
 obtain ⟨h3, h4⟩ := List.getElem?_eq_some_iff.1 hy
 rw [List.take_succ_eq_append_getElem h1, List.take_succ_eq_append_getElem h3, List.map_append, List.map_append, h, h2, h4, List.map_singleton, List.map_singleton, hf]
theorem mne {α β : Type} {f : α → β} {xs ys : List α} {k : Nat} {x y : α} (hx : xs[k]? = some x) (hy : ys[k]? = some y) (h : ¬ f x = f y) : ¬ xs.map f = ys.map f := by
 intro e
 have h1 : (xs.map f)[k]? = some (f x) := by rw [List.getElem?_map, hx]; rfl
 rw [e, List.getElem?_map, hy] at h1
 exact h (Option.some.inj h1).symm
theorem mend {α β : Type} {f : α → β} {xs ys : List α} {k : Nat} (h : (xs.take k).map f = (ys.take k).map f) (hx : xs.length = k) (hy : ys.length = k) : xs.map f = ys.map f := by
 rw [List.take_of_length_le (by omega), List.take_of_length_le (by omega)] at h
 exact h
set_option linter.unusedSimpArgs false in
set_option maxRecDepth 100000 in
set_option maxHeartbeats 8000000 in
theorem rules_same_any (xs ys : List ItemZ) (p p' : Option Addr) (n n' c c' : Nat) (w : World) (h : Lk itemL w w.heap.size (.slice p n c) xs) (h' : Lk itemL w w.heap.size (.slice p' n' c') ys) :
  Calls Tryz.prog 21 #[.agg #[.slice p n c], .agg #[.slice p' n' c']] w fun e w' => e = .returned (.bool (decide (xs.map ItemZ.bare = ys.map ItemZ.bare))) ∧ Below w.heap.size w w' := by
 obtain ⟨r, hr⟩ : ∃ r, decide (xs.map ItemZ.bare = ys.map ItemZ.bare) = r := ⟨_, rfl⟩
 rw [hr]
 have hn9 : n ≤ 9223372036854775807 := by have := h.len.2; unfold maxLen at this; omega
 have HN := hid h.len.1; have HN' := hid h'.len.1
 have HL := hid h; have HL' := hid h'; have HR := hid hr
 clear h h' hr
 rcases (Decidable.em (n = n')).symm with g0 | g0
 ·have e0 : ¬ ((n : Int) = n') := by omega
  obtain rfl : r = false := by
   rw [← HR.out]
   refine decide_eq_false fun e => ?_
   have := congrArg List.length e; simp only [List.length_map] at this; exact g0 (by rw [← HN.out, ← HN'.out]; exact this)
  have WB := hid (((Below.refl _ _).alloc (Nat.le_refl _) _).alloc (by simp) _ : Below w.heap.size w ((w.alloc (.cells #[.slice p n c] 29)).alloc (.cells #[.slice p' n' c'] 29)))
  go_enter Tryz.func21, Tryz.ntmps21
  go_wp2
  go_ret
  exact ⟨rfl, WB.out⟩
 subst g0
 have hb : Below w.heap.size w ((w.alloc (.cells #[.slice p n c] 29)).alloc (.cells #[.slice p' n c'] 29)) := ((Below.refl _ _).alloc (Nat.le_refl _) _).alloc (by simp) _
 have X1 := hid ((Blk.new w 29 [.slice p n c]).alloc (.cells #[.slice p' n c'] 29))
 have x2 := Blk.new (w.alloc (.cells #[.slice p n c] 29)) 29 [.slice p' n c']
 rw [World.size_alloc] at x2
 have X2 := hid x2
 have K1 := hid ((HL.out.below hb).mono hb.size); have K1' := hid ((HL'.out.below hb).mono hb.size)
 have WB := hid hb
 clear hb x2 HL HL'
 go_enter Tryz.func21, Tryz.ntmps21
 go_upto_region 1 with fail
 generalize (w.alloc (.cells #[.slice p n c] 29)).alloc (.cells #[.slice p' n c'] 29) = W at *
 have y0 := X1.out.cell (i := 0) rfl
 have z0 := X2.out.cell (i := 0) rfl
 have HB0 := hid (Below.refl W.heap.size W)
 go_wp2
 go_loopw [5] (fun i wr => ∃ k : Nat, i = .int .i64 k ∧ k ≤ n ∧ Hid ((xs.take k).map ItemZ.bare = (ys.take k).map ItemZ.bare) ∧ Hid (Below W.heap.size W wr)) (fun i _ => n - (intOf i).toNat)
 case atStart => exact ⟨0, rfl, Nat.zero_le _, hid (by simp), HB0⟩
 case round =>
  obtain ⟨k, rfl, hk, HS, HB⟩ := hrel
  obtain ⟨wo, hwo⟩ : ∃ wo, wo = wr := ⟨_, rfl⟩
  subst hwo
  clear y0 z0
  have y0 := (blk_later X1.out HB.out).cell (i := 0) rfl
  by_cases hk2 : k < n
  ·obtain ⟨x, hx⟩ : ∃ m, xs[k]? = some m := ⟨_, List.getElem?_eq_getElem (by have := HN.out; omega)⟩
   obtain ⟨y, hy⟩ : ∃ m, ys[k]? = some m := ⟨_, List.getElem?_eq_getElem (by have := HN'.out; omega)⟩
   obtain ⟨g, go, cs, rfl, hg, hc, hcell⟩ := (K1.out.below HB.out).at hx
   obtain ⟨v2, rfl, hl2⟩ := hc
   obtain ⟨g', go', cs', rfl, hg', hc', hcell'⟩ := (K1'.out.below HB.out).at hy
   obtain ⟨u2, rfl, hl2'⟩ := hc'
   obtain ⟨p2, c2, rfl⟩ := hl2.slice
   obtain ⟨q2, d2, rfl⟩ := hl2'.slice
   obtain ⟨n2, hn2⟩ : ∃ n, x.conds.length = n := ⟨_, rfl⟩
   obtain ⟨m2, hm2⟩ : ∃ n, y.conds.length = n := ⟨_, rfl⟩
   rw [hn2] at hl2 hcell; rw [hm2] at hl2' hcell'
   have hn29 : n2 ≤ 9223372036854775807 := by have := hl2.len.2; unfold maxLen at this; omega
   have HX := hid hx; have HY := hid hy; have HN2 := hid hn2; have HM2 := hid hm2
   have K2W : Hid (∀ wz, Below W.heap.size W wz → Lk testsL wz W.heap.size (.slice p2 n2 c2) x.conds) := hid fun wz hz => hl2.kept fun q hq => (hz.block q hq).trans (HB.out.block q hq).symm
   have K2W' : Hid (∀ wz, Below W.heap.size W wz → Lk testsL wz W.heap.size (.slice q2 m2 d2) y.conds) := hid fun wz hz => hl2'.kept fun q hq => (hz.block q hq).trans (HB.out.block q hq).symm
   obtain ⟨xk, xn, xc, xv, ⟨xr1, xr2⟩, ⟨xs1, xs2⟩, xp⟩ := x
   obtain ⟨yk, yn, yc, yv, ⟨yr1, yr2⟩, ⟨ys1, ys2⟩, yp⟩ := y
   simp only at hn2 hm2 hl2 hl2'
   have e0 := hcell 0 _ rfl
   have e1 := hcell 1 _ rfl
   have e2 := hcell 2 _ rfl
   have e3 := hcell 3 _ rfl
   have e4 := hcell 4 _ rfl
   have e5 := hcell 5 _ rfl
   have e6 := hcell 6 _ rfl
   have e7 := hcell 7 _ rfl
   have e8 := hcell 8 _ rfl
   rw [show itemL.size = 9 from rfl] at e0 e1 e2 e3 e4 e5 e6 e7 e8
   rw [Nat.add_zero] at e0
   have hki : (0 : Int) ≤ k ∧ (k : Int) < n := by omega
   go_upto_region 7 with fail
   have hba : Below wo.heap.size wo (wo.alloc (.cells #[.int .i64 xk, .string ⟨xn.toArray⟩, .slice p2 n2 c2, .int .i64 xv, .int .i64 xr1, .int .i64 xr2, .int .i64 xs1, .int .i64 xs2, .int .i64 xp] 66)) := (Below.refl _ _).alloc (Nat.le_refl _) _
   have xb := Blk.new wo 66 [.int .i64 xk, .string ⟨xn.toArray⟩, .slice p2 n2 c2, .int .i64 xv, .int .i64 xr1, .int .i64 xr2, .int .i64 xs1, .int .i64 xs2, .int .i64 xp]
   obtain ⟨XA, hXA⟩ : ∃ XA, wo.heap.size = XA := ⟨_, rfl⟩
   have hbx : Below W.heap.size W (wo.alloc (.cells #[.int .i64 xk, .string ⟨xn.toArray⟩, .slice p2 n2 c2, .int .i64 xv, .int .i64 xr1, .int .i64 xr2, .int .i64 xs1, .int .i64 xs2, .int .i64 xp] 66)) := HB.out.trans (hba.mono HB.out.size)
   have hgo : g' < wo.heap.size := Nat.lt_of_lt_of_le hg' HB.out.size
   have f0 := (hba.cell (p := ⟨g', go' + k * itemL.size + 0, none⟩) hgo).trans (hcell' 0 _ rfl)
   have f1 := (hba.cell (p := ⟨g', go' + k * itemL.size + 1, none⟩) hgo).trans (hcell' 1 _ rfl)
   have f2 := (hba.cell (p := ⟨g', go' + k * itemL.size + 2, none⟩) hgo).trans (hcell' 2 _ rfl)
   have f3 := (hba.cell (p := ⟨g', go' + k * itemL.size + 3, none⟩) hgo).trans (hcell' 3 _ rfl)
   have f4 := (hba.cell (p := ⟨g', go' + k * itemL.size + 4, none⟩) hgo).trans (hcell' 4 _ rfl)
   have f5 := (hba.cell (p := ⟨g', go' + k * itemL.size + 5, none⟩) hgo).trans (hcell' 5 _ rfl)
   have f6 := (hba.cell (p := ⟨g', go' + k * itemL.size + 6, none⟩) hgo).trans (hcell' 6 _ rfl)
   have f7 := (hba.cell (p := ⟨g', go' + k * itemL.size + 7, none⟩) hgo).trans (hcell' 7 _ rfl)
   have f8 := (hba.cell (p := ⟨g', go' + k * itemL.size + 8, none⟩) hgo).trans (hcell' 8 _ rfl)
   rw [show itemL.size = 9 from rfl] at f0 f1 f2 f3 f4 f5 f6 f7 f8
   rw [Nat.add_zero] at f0
   rw [hXA] at xb ⊢
   clear hcell hcell' hx hy hg hn2 hm2 hl2 hl2' y0 hba hgo hg' e0 e1 e2 e3 e4 e5 e6 e7 e8
   generalize wo.alloc (.cells #[.int .i64 xk, .string ⟨xn.toArray⟩, .slice p2 n2 c2, .int .i64 xv, .int .i64 xr1, .int .i64 xr2, .int .i64 xs1, .int .i64 xs2, .int .i64 xp] 66) = w1 at *
   have z0 := (blk_later X2.out hbx).cell (i := 0) rfl
   have XB := hid xb; have HBX := hid hbx
   clear xb hbx hXA
   go_upto_region 8 with fail
   have hba : Below w1.heap.size w1 (w1.alloc (.cells #[.int .i64 yk, .string ⟨yn.toArray⟩, .slice q2 m2 d2, .int .i64 yv, .int .i64 yr1, .int .i64 yr2, .int .i64 ys1, .int .i64 ys2, .int .i64 yp] 66)) := (Below.refl _ _).alloc (Nat.le_refl _) _
   have yb := Blk.new w1 66 [.int .i64 yk, .string ⟨yn.toArray⟩, .slice q2 m2 d2, .int .i64 yv, .int .i64 yr1, .int .i64 yr2, .int .i64 ys1, .int .i64 ys2, .int .i64 yp]
   have xb := XB.out.alloc (.cells #[.int .i64 yk, .string ⟨yn.toArray⟩, .slice q2 m2 d2, .int .i64 yv, .int .i64 yr1, .int .i64 yr2, .int .i64 ys1, .int .i64 ys2, .int .i64 yp] 66)
   have hbx : Below W.heap.size W (w1.alloc (.cells #[.int .i64 yk, .string ⟨yn.toArray⟩, .slice q2 m2 d2, .int .i64 yv, .int .i64 yr1, .int .i64 yr2, .int .i64 ys1, .int .i64 ys2, .int .i64 yp] 66)) := HBX.out.trans (hba.mono HBX.out.size)
   obtain ⟨YA, hYA⟩ : ∃ YA, w1.heap.size = YA := ⟨_, rfl⟩
   rw [hYA] at yb ⊢
   clear z0 hba hYA XB HBX f0 f1 f2 f3 f4 f5 f6 f7 f8
   generalize w1.alloc (.cells #[.int .i64 yk, .string ⟨yn.toArray⟩, .slice q2 m2 d2, .int .i64 yv, .int .i64 yr1, .int .i64 yr2, .int .i64 ys1, .int .i64 ys2, .int .i64 yp] 66) = w2 at *
   have y0 := xb.cell (i := 0) rfl
   have z0 := yb.cell (i := 0) rfl
   have y1 := xb.cell (i := 1) rfl
   have z1 := yb.cell (i := 1) rfl
   have y2 := xb.cell (i := 2) rfl
   have z2 := yb.cell (i := 2) rfl
   have y3 := xb.cell (i := 3) rfl
   have z3 := yb.cell (i := 3) rfl
   have y4 := xb.cell (i := 4) rfl
   have z4 := yb.cell (i := 4) rfl
   have y5 := xb.cell (i := 5) rfl
   have z5 := yb.cell (i := 5) rfl
   have y6 := xb.cell (i := 6) rfl
   have z6 := yb.cell (i := 6) rfl
   have y7 := xb.cell (i := 7) rfl
   have z7 := yb.cell (i := 7) rfl
   have y8 := xb.cell (i := 8) rfl
   have z8 := yb.cell (i := 8) rfl
   have XB := hid xb; have YB := hid yb; have HBX := hid hbx
   clear xb yb hbx
   have rg := fun x y xs ys w => ratio_gneq x y xs ys w
   rcases (Decidable.em (xk = yk)).symm with g1 | g1
   ·have t1 : ¬ (xk = yk) := g1
    obtain rfl : r = false := by
     rw [← HR.out]
     refine decide_eq_false fun e => ?_
     exact mne HX.out HY.out (fun e => g1 (by have h9 := congrArg ItemZ.kind e; exact h9)) e
    go_wp2
    go_ret
    exact ⟨rfl, WB.out.trans (HBX.out.mono WB.out.size)⟩
   subst g1
   rcases (Decidable.em (xn = yn)).symm with g2 | g2
   ·have t2 : (xn != yn) = true := by simpa using g2
    obtain rfl : r = false := by
     rw [← HR.out]
     refine decide_eq_false fun e => ?_
     exact mne HX.out HY.out (fun e => g2 (by have h9 := congrArg ItemZ.name e; exact h9)) e
    go_wp2
    go_ret
    exact ⟨rfl, WB.out.trans (HBX.out.mono WB.out.size)⟩
   subst g2
   have t2 : (xn != xn) = false := by simp
   rcases (Decidable.em (xv = yv)).symm with g3 | g3
   ·have t3 : ¬ (xv = yv) := g3
    obtain rfl : r = false := by
     rw [← HR.out]
     refine decide_eq_false fun e => ?_
     exact mne HX.out HY.out (fun e => g3 (by have h9 := congrArg ItemZ.n e; exact h9)) e
    go_wp2
    go_ret
    exact ⟨rfl, WB.out.trans (HBX.out.mono WB.out.size)⟩
   subst g3
   rcases (Decidable.em (xr1 = yr1 ∧ xr2 = yr2)).symm with g4 | g4
   ·have t4 := fun w => ratio_neq xr1 xr2 yr1 yr2 true (by rw [decide_eq_false g4]; rfl) w
    obtain rfl : r = false := by
     rw [← HR.out]
     refine decide_eq_false fun e => ?_
     exact mne HX.out HY.out (fun e => g4 (by have h9 : RatioZ.mk xr1 xr2 = ⟨yr1, yr2⟩ := congrArg ItemZ.r e; exact ⟨congrArg RatioZ.num h9, congrArg RatioZ.den h9⟩)) e
    go_wp2
    go_ret
    exact ⟨rfl, WB.out.trans (HBX.out.mono WB.out.size)⟩
   obtain ⟨rfl, rfl⟩ := g4
   have t4 := fun w => ratio_neq xr1 xr2 xr1 xr2 false (by simp) w
   rcases (Decidable.em (xs1 = ys1 ∧ xs2 = ys2)).symm with g5 | g5
   ·have t5 := fun w => ratio_neq xs1 xs2 ys1 ys2 true (by rw [decide_eq_false g5]; rfl) w
    obtain rfl : r = false := by
     rw [← HR.out]
     refine decide_eq_false fun e => ?_
     exact mne HX.out HY.out (fun e => g5 (by have h9 : RatioZ.mk xs1 xs2 = ⟨ys1, ys2⟩ := congrArg ItemZ.s e; exact ⟨congrArg RatioZ.num h9, congrArg RatioZ.den h9⟩)) e
    go_wp2
    go_ret
    exact ⟨rfl, WB.out.trans (HBX.out.mono WB.out.size)⟩
   obtain ⟨rfl, rfl⟩ := g5
   have t5 := fun w => ratio_neq xs1 xs2 xs1 xs2 false (by simp) w
   rcases (Decidable.em (n2 = m2)).symm with g6 | g6
   ·have t6 : ¬ ((n2 : Int) = m2) := by omega
    obtain rfl : r = false := by
     rw [← HR.out]
     refine decide_eq_false fun e => ?_
     exact mne HX.out HY.out (fun e => g6 (by have h9 := congrArg (fun x => x.conds.length) e; simp only [ItemZ.bare, List.length_map] at h9; have a1 := HN2.out; have a2 := HM2.out; simp only at a1 a2; omega)) e
    go_wp2
    go_ret
    exact ⟨rfl, WB.out.trans (HBX.out.mono WB.out.size)⟩
   subst g6
   go_wp2
   clear t2 t4 t5 rg
   have HB2 := hid (Below.refl w2.heap.size w2)
   go_loopw [8] (fun i wr => ∃ m : Nat, i = .int .i64 m ∧ m ≤ n2 ∧ Hid ((xc.take m).map (List.map TestZ.bare) = (yc.take m).map (List.map TestZ.bare)) ∧ Hid (Below w2.heap.size w2 wr)) (fun i _ => n2 - (intOf i).toNat)
   case atStart => exact ⟨0, rfl, Nat.zero_le _, hid (by simp), HB2⟩
   case round =>
    obtain ⟨m, rfl, hm, HT, HC⟩ := hrel
    obtain ⟨wi, hwi⟩ : ∃ wi, wi = wr := ⟨_, rfl⟩
    subst hwi
    clear y0 z0 y1 z1 y2 z2 y3 z3 y4 z4 y5 z5 y6 z6 y7 z7 y8 z8
    have y2 := (blk_later XB.out HC.out).cell (i := 2) rfl
    have z2 := (blk_later YB.out HC.out).cell (i := 2) rfl
    by_cases hm2 : m < n2
    ·obtain ⟨a, ha⟩ : ∃ q, xc[m]? = some q := ⟨_, List.getElem?_eq_getElem (by have := HN2.out; (try simp only at this); omega)⟩
     obtain ⟨b, hb⟩ : ∃ q, yc[m]? = some q := ⟨_, List.getElem?_eq_getElem (by have := HM2.out; (try simp only at this); omega)⟩
     have hwi : Below W.heap.size W wi := HBX.out.trans (HC.out.mono HBX.out.size)
     obtain ⟨g2, go2, cs, rfl, hg2, hc, hcell⟩ := (K2W.out wi hwi).at ha
     obtain ⟨v3, rfl, hl3⟩ := hc
     obtain ⟨g2', go2', cs', rfl, hg2', hc', hcell'⟩ := (K2W'.out wi hwi).at hb
     obtain ⟨u3, rfl, hl3'⟩ := hc'
     obtain ⟨p3, c3, rfl⟩ := hl3.slice
     obtain ⟨q3, d3, rfl⟩ := hl3'.slice
     obtain ⟨n3, hn3⟩ : ∃ n, a.length = n := ⟨_, rfl⟩
     obtain ⟨m3, hm3⟩ : ∃ n, b.length = n := ⟨_, rfl⟩
     rw [hn3] at hl3 hcell; rw [hm3] at hl3' hcell'
     have e0 := hcell 0 _ rfl
     have f0 := hcell' 0 _ rfl
     rw [show testsL.size = 1 from rfl, Nat.add_zero, Nat.mul_one] at e0 f0
     have hmi : (0 : Int) ≤ m ∧ (m : Int) < n2 := by omega
     have hn39 : n3 ≤ 9223372036854775807 := by have := hl3.len.2; unfold maxLen at this; omega
     have HA := hid ha; have HBB := hid hb; have HN3 := hid hn3; have HM3 := hid hm3; have K3 := hid hl3; have K3' := hid hl3'; have HWI := hid hwi
     have bg : g2 < wi.heap.size := Nat.lt_of_lt_of_le hg2 hwi.size
     have bg' : g2' < wi.heap.size := Nat.lt_of_lt_of_le hg2' hwi.size
     clear hcell hcell' ha hb hg2 hg2' hn3 hm3 hl3 hl3' hwi
     rcases (Decidable.em (n3 = m3)).symm with g7 | g7
     ·have t7 : ¬ ((n3 : Int) = m3) := by omega
      obtain rfl : r = false := by
       rw [← HR.out]
       refine decide_eq_false fun e => ?_
       exact mne HX.out HY.out (fun e => mne HA.out HBB.out (fun e => g7 (by have h9 := congrArg List.length e; simp only [List.length_map] at h9; have a1 := HN3.out; have a2 := HM3.out; omega)) (congrArg ItemZ.conds e)) e
      go_wp2
      go_quiet (fail)
      go_wp2
      go_ret
      exact ⟨rfl, WB.out.trans ((below_drewN HWI.out _).mono WB.out.size)⟩
     ·subst g7
      go_wp2
      go_quiet (fail)
      go_wp2
      go_loopw [9] (fun i wr => ∃ j : Nat, i = .int .i64 j ∧ j ≤ n3 ∧ Hid ((a.take j).map TestZ.bare = (b.take j).map TestZ.bare) ∧ Hid (Below wi.heap.size wi wr)) (fun i _ => n3 - (intOf i).toNat)
      case atStart => exact ⟨0, rfl, Nat.zero_le _, hid (by simp), hid (below_drewN (Below.refl _ _) _)⟩
      case round =>
       obtain ⟨j, rfl, hj, HU, HD⟩ := hrel
       clear y2 z2
       have hc2 : Below w2.heap.size w2 wr := HC.out.trans (HD.out.mono HC.out.size)
       have y2 := (blk_later XB.out hc2).cell (i := 2) rfl
       have e1 := (HD.out.cell (p := ⟨g2, go2 + m, none⟩) bg).trans e0
       by_cases hj2 : j < n3
       ·obtain ⟨s, hs⟩ : ∃ q, a[j]? = some q := ⟨_, List.getElem?_eq_getElem (by have := HN3.out; omega)⟩
        obtain ⟨t, ht⟩ : ∃ q, b[j]? = some q := ⟨_, List.getElem?_eq_getElem (by have := HM3.out; omega)⟩
        have kz := (K3.out.kept fun q hq => HD.out.block q (Nat.lt_of_lt_of_le hq HWI.out.size))
        have kz' := (K3'.out.kept fun q hq => HD.out.block q (Nat.lt_of_lt_of_le hq HWI.out.size))
        obtain ⟨g3, go3, cs, rfl, hg3, hc, hcell⟩ := kz.at hs
        obtain rfl := hc
        obtain ⟨g3', go3', cs', rfl, hg3', hc', hcell'⟩ := kz'.at ht
        obtain rfl := hc'
        obtain ⟨sa, so, sn, sv, sp⟩ := s
        obtain ⟨ta, to_, tn, tv, tp⟩ := t
        have r0 := hcell 0 _ rfl
        have r1 := hcell 1 _ rfl
        have r2 := hcell 2 _ rfl
        have r3 := hcell 3 _ rfl
        have r4 := hcell 4 _ rfl
        rw [show testL.size = 5 from rfl] at r0 r1 r2 r3 r4
        rw [Nat.add_zero] at r0
        have hji : (0 : Int) ≤ j ∧ (j : Int) < n3 := by omega
        have hg3z : g3' < wr.heap.size := Nat.lt_of_lt_of_le hg3' (Nat.le_trans HWI.out.size HD.out.size)
        have hgw : g2' < wr.heap.size := Nat.lt_of_lt_of_le bg' HD.out.size
        go_upto_region 19 with fail
        have hba : Below wr.heap.size wr (wr.alloc (.cells #[.string ⟨sa.toArray⟩, .int .i64 so, .string ⟨sn.toArray⟩, .int .i64 sv, .int .i64 sp] 68)) := (Below.refl _ _).alloc (Nat.le_refl _) _
        have sb := Blk.new wr 68 [.string ⟨sa.toArray⟩, .int .i64 so, .string ⟨sn.toArray⟩, .int .i64 sv, .int .i64 sp]
        have hd1 : Below wi.heap.size wi (wr.alloc (.cells #[.string ⟨sa.toArray⟩, .int .i64 so, .string ⟨sn.toArray⟩, .int .i64 sv, .int .i64 sp] 68)) := HD.out.trans (hba.mono HD.out.size)
        have q0 := (hba.cell (p := ⟨g3', go3' + j * testL.size + 0, none⟩) hg3z).trans (hcell' 0 _ rfl)
        have q1 := (hba.cell (p := ⟨g3', go3' + j * testL.size + 1, none⟩) hg3z).trans (hcell' 1 _ rfl)
        have q2 := (hba.cell (p := ⟨g3', go3' + j * testL.size + 2, none⟩) hg3z).trans (hcell' 2 _ rfl)
        have q3 := (hba.cell (p := ⟨g3', go3' + j * testL.size + 3, none⟩) hg3z).trans (hcell' 3 _ rfl)
        have q4 := (hba.cell (p := ⟨g3', go3' + j * testL.size + 4, none⟩) hg3z).trans (hcell' 4 _ rfl)
        rw [show testL.size = 5 from rfl] at q0 q1 q2 q3 q4
        rw [Nat.add_zero] at q0
        have f1 := (hd1.cell (p := ⟨g2', go2' + m, none⟩) bg').trans f0
        have z2 := (blk_later YB.out (HC.out.trans (hd1.mono HC.out.size))).cell (i := 2) rfl
        obtain ⟨SA, hSA⟩ : ∃ SA, wr.heap.size = SA := ⟨_, rfl⟩
        have hSA0 : wi.heap.size ≤ SA := by rw [← hSA]; exact HD.out.size
        rw [hSA] at sb ⊢
        have HS2 := hid hs; have HT2 := hid ht
        clear hcell hcell' hs ht kz kz' hg3 hg3' hg3z hgw hba hSA y2 e1 hc2 r0 r1 r2 r3 r4
        generalize wr.alloc (.cells #[.string ⟨sa.toArray⟩, .int .i64 so, .string ⟨sn.toArray⟩, .int .i64 sv, .int .i64 sp] 68) = w3 at *
        have SB := hid sb; have HD1 := hid hd1
        clear sb hd1
        go_upto_region 20 with fail
        have hba : Below w3.heap.size w3 (w3.alloc (.cells #[.string ⟨ta.toArray⟩, .int .i64 to_, .string ⟨tn.toArray⟩, .int .i64 tv, .int .i64 tp] 68)) := (Below.refl _ _).alloc (Nat.le_refl _) _
        have tb := Blk.new w3 68 [.string ⟨ta.toArray⟩, .int .i64 to_, .string ⟨tn.toArray⟩, .int .i64 tv, .int .i64 tp]
        have sb := SB.out.alloc (.cells #[.string ⟨ta.toArray⟩, .int .i64 to_, .string ⟨tn.toArray⟩, .int .i64 tv, .int .i64 tp] 68)
        have hd1 : Below wi.heap.size wi (w3.alloc (.cells #[.string ⟨ta.toArray⟩, .int .i64 to_, .string ⟨tn.toArray⟩, .int .i64 tv, .int .i64 tp] 68)) := HD1.out.trans (hba.mono HD1.out.size)
        obtain ⟨TA, hTA⟩ : ∃ TA, w3.heap.size = TA := ⟨_, rfl⟩
        have hST : SA ≠ TA := by have := SB.out.lt; omega
        have hTA0 : wi.heap.size ≤ TA := by rw [← hTA]; exact HD1.out.size
        rw [hTA] at tb ⊢
        clear hba hTA z2 f1 SB HD1 q0 q1 q2 q3 q4
        generalize w3.alloc (.cells #[.string ⟨ta.toArray⟩, .int .i64 to_, .string ⟨tn.toArray⟩, .int .i64 tv, .int .i64 tp] 68) = w4 at *
        have a4 := sb.cell (i := 4) rfl; have a4f := sb.free 4
        have SB := hid sb; have TB := hid tb; have HD1 := hid hd1
        clear sb tb hd1
        go_upto_region 21 with fail
        have sb : Blk (w4.setCell ⟨SA, 4, none⟩ (.int .i64 0)) SA 68 [.string ⟨sa.toArray⟩, .int .i64 so, .string ⟨sn.toArray⟩, .int .i64 sv, .int .i64 0] := SB.out.set 4 _
        have tb : Blk (w4.setCell ⟨SA, 4, none⟩ (.int .i64 0)) TA 68 [.string ⟨ta.toArray⟩, .int .i64 to_, .string ⟨tn.toArray⟩, .int .i64 tv, .int .i64 tp] := TB.out.other (p := ⟨SA, 4, none⟩) hST _
        have hd1 : Below wi.heap.size wi (w4.setCell ⟨SA, 4, none⟩ (.int .i64 0)) := HD1.out.setCell (p := ⟨SA, 4, none⟩) hSA0 _
        clear a4 a4f SB TB HD1
        generalize w4.setCell ⟨SA, 4, none⟩ (.int .i64 0) = w5 at *
        have a4 := tb.cell (i := 4) rfl; have a4f := tb.free 4
        have SB := hid sb; have TB := hid tb; have HD1 := hid hd1
        clear sb tb hd1
        go_upto_region 22 with fail
        have tb : Blk (w5.setCell ⟨TA, 4, none⟩ (.int .i64 0)) TA 68 [.string ⟨ta.toArray⟩, .int .i64 to_, .string ⟨tn.toArray⟩, .int .i64 tv, .int .i64 0] := TB.out.set 4 _
        have sb : Blk (w5.setCell ⟨TA, 4, none⟩ (.int .i64 0)) SA 68 [.string ⟨sa.toArray⟩, .int .i64 so, .string ⟨sn.toArray⟩, .int .i64 sv, .int .i64 0] := SB.out.other (p := ⟨TA, 4, none⟩) (Ne.symm hST) _
        have hd1 : Below wi.heap.size wi (w5.setCell ⟨TA, 4, none⟩ (.int .i64 0)) := HD1.out.setCell (p := ⟨TA, 4, none⟩) hTA0 _
        clear a4 a4f SB TB HD1
        generalize w5.setCell ⟨TA, 4, none⟩ (.int .i64 0) = w6 at *
        have y0 := sb.cell (i := 0) rfl
        have z0 := tb.cell (i := 0) rfl
        have y1 := sb.cell (i := 1) rfl
        have z1 := tb.cell (i := 1) rfl
        have y2 := sb.cell (i := 2) rfl
        have z2 := tb.cell (i := 2) rfl
        have y3 := sb.cell (i := 3) rfl
        have z3 := tb.cell (i := 3) rfl
        have y4 := sb.cell (i := 4) rfl
        have z4 := tb.cell (i := 4) rfl
        have HD2 := hid hd1
        clear sb tb hd1 hSA0 hTA0 hST
        have tg := fun x y xs ys w => test_gneq x y xs ys w
        rcases (Decidable.em (sa = ta ∧ so = to_ ∧ sn = tn ∧ sv = tv ∧ (0 : Int) = 0)).symm with g8 | g8
        ·have t8 := fun w => test_neq sa so sn sv 0 ta to_ tn tv 0 true (by rw [decide_eq_false g8]; rfl) w
         obtain rfl : r = false := by
          rw [← HR.out]
          refine decide_eq_false fun e => ?_
          exact mne HX.out HY.out (fun e => mne HA.out HBB.out (fun e => mne HS2.out HT2.out (fun e => g8 (by simp only [TestZ.bare, TestZ.mk.injEq] at e; exact ⟨e.1, e.2.1, e.2.2.1, e.2.2.2.1, rfl⟩)) e) (congrArg ItemZ.conds e)) e
         have HW6 := hid (HWI.out.trans (HD2.out.mono HWI.out.size))
         go_wp2
         go_ret
         exact ⟨rfl, WB.out.trans (HW6.out.mono WB.out.size)⟩
        ·obtain ⟨rfl, rfl, rfl, rfl, _⟩ := g8
         have t8 := fun w => test_neq sa so sn sv 0 sa so sn sv 0 false (by simp) w
         have HU2 := hid (mtake HU.out HS2.out HT2.out rfl)
         go_wp2
         refine ⟨⟨j + 1, by go_num, by omega, HU2, HD2⟩, ?_⟩
         simp [intOf]; omega
       ·obtain rfl : j = n3 := by omega
        have HT2 := hid (mtake HT.out HA.out HBB.out (mend HU.out HN3.out HM3.out))
        have HC2 := hid hc2
        clear hc2
        go_wp2
        refine ⟨⟨m + 1, by go_num, by omega, HT2, HC2⟩, ?_⟩
        simp [intOf]; omega
    ·obtain rfl : m = n2 := by omega
     have HS2 := hid (mtake HS.out HX.out HY.out (by
      have e := mend HT.out (by have := HN2.out; (try simp only at this); exact this) (by have := HM2.out; (try simp only at this); exact this)
      unfold ItemZ.bare; simp only [e]))
     have HB3 := hid (HBX.out.trans (HC.out.mono HBX.out.size))
     go_wp2
     refine ⟨⟨k + 1, by go_num, by omega, HS2, HB3⟩, ?_⟩
     simp [intOf]; omega
  ·obtain rfl : k = n := by omega
   have G := mend HS.out HN.out HN'.out
   obtain rfl : r = true := by
    rw [← HR.out]
    exact decide_eq_true G
   clear G
   go_wp2
   go_ret
   exact ⟨rfl, WB.out.trans (HB.out.mono WB.out.size)⟩
end Go.Proofs.YtilfpnkcgjonhaaGreatDoor.Pr
