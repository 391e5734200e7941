/-
  The document's own root and path.
-/
import Derived.Test.YtkjgdgocjnocaaaDoorRefLevel
namespace Go.Proofs.YtkjgdgocjnocaaaDoor
open Go.RowKit Go.Sort Foyer.Digest Foyer.Tree

/-- The length of a slice. -/
def sliceLen : Value → Nat
  | .slice _ n _ => n
  | _ => 0
theorem own0 {W : World} {B g n cap : Nat} {ls : List (List UInt8)} (h : OwnS W B (.slice (some ⟨g, 0, none⟩) n cap) ls) (j : Nat) (hj : j < ls.length) : W.cell? ⟨g, j, none⟩ = some (.string ⟨(ls.getD j []).toArray⟩) := by
  obtain ⟨g', c', e, _, _, _, _, hr⟩ := h.form (by omega)
  simp only [Value.slice.injEq, Option.some.injEq, Addr.mk.injEq, and_true] at e
  obtain ⟨rfl, _, _⟩ := e
  have := rdS_at' hr j hj
  rwa [Nat.zero_add] at this
theorem ownRd {W : World} {B g n cap : Nat} {ls : List (List UInt8)} (h : OwnS W B (.slice (some ⟨g, 0, none⟩) n cap) ls) (h1 : 1 ≤ ls.length) : RdS W (some ⟨g, 0, none⟩) ls := by
  obtain ⟨g', c', e, _, _, _, _, hr⟩ := h.form h1
  simp only [Value.slice.injEq, Option.some.injEq, Addr.mk.injEq, and_true] at e
  obtain ⟨rfl, _, _⟩ := e
  exact hr

/-- What is appended; another own list is kept. -/
theorem wpList_append_k {ops : Array Oper} {rest : List Oper} {o : Oper} {a : Act} {Q : Exit → Act → World → Prop} (w : World) (hgd : o.guard = none) (s x : Operand)
    (hop : o.op = Op.call { callee := Callee.builtin Builtin.append, args := #[s, x], argTypes := #[22, 22] })
    (B : Nat) (v : Value) (ls : List (List UInt8)) (hs : a.eval s = v) (hown : OwnS w B v ls) (b off c : Nat) (ts : List (List UInt8)) (m : Nat) (hm : ts.length = m) (hx : a.eval x = .slice (some ⟨b, off, none⟩) m c)
    (hc : ∀ j, j < ts.length → w.cell? ⟨b, off + j, none⟩ = some (.string ⟨(ts.getD j []).toArray⟩)) (hlen : ls.length + m ≤ 1000000) (hB : B ≤ w.heap.size) (B2 : Nat) (u : Value) (us : List (List UInt8)) (hu : OwnS w B2 u us) (hap : u.ownBlock ≠ v.ownBlock)
    (hK : ∀ v' w', OwnS w' B v' (ls ++ ts) → w.heap.size ≤ w'.heap.size → (∀ C wb, C ≤ B → Below C wb w → Below C wb w') → OwnS w' B2 u us → wpList Tryd.prog ops Q rest (a.put o.dst v') w') :
    wpList Tryd.prog ops Q (o :: rest) a w := by
  obtain ⟨i0, hi, hz0, hz1, hz2⟩ := info_parts strInfo
  refine wpList_append_own _ hgd _ _ 22 hop B 9 i0 (.string ⟨#[]⟩) 1 16 Tryd.underlying22 hi hz0 hz1 hz2 rfl (by decide) v ls.length _ hs hown ⟨b, off, none⟩ m c (ts.map fun l => Value.string ⟨l.toArray⟩) hx (by simp [hm]) ?c1 ?c2 ?d3 ?d4 hB ?_
  case c1 =>
    intro j u hu
    rw [List.getElem?_map] at hu
    have hj : j < ts.length := by
      rcases Nat.lt_or_ge j ts.length with h | h
      · exact h
      · rw [List.getElem?_eq_none h] at hu; cases hu
    rw [List.getElem?_eq_getElem hj] at hu
    simp only [Option.map_some] at hu
    rw [add_plain, hc j hj, ← hu]
    simp [List.getD_eq_getElem?_getD, hj]
  case c2 =>
    intro u hu
    obtain ⟨l, _, rfl⟩ := List.mem_map.1 hu
    rfl
  case d3 => unfold maxLen; omega
  case d4 => omega
  intro v' w' hown' hg _
  refine hK v' w' ?_ hg.size (fun C wb hC hb => hb.grown hg (Nat.le_trans hC hB) (fun q hq => Nat.le_trans hC (hown.lt q hq).1)) (World.ownsRow.kept hu hg (.inr hap))
  refine own_cast hown' (by simp [hm]) (by simp)

set_option linter.unusedSimpArgs false in
set_option maxRecDepth 100000 in
set_option maxHeartbeats 1000000 in
theorem rroot_c (l : List (List UInt8)) (rt : List UInt8) (hrt : root l = rt) (p : Option Addr) (n c1 : Nat) (w : World) (hr : RdS w p l) (hn : l.length = n) (hl : n ≤ 1000) (htl : ∀ x ∈ l, x.length ≤ 1000000) :
    Calls Tryd.prog 14 #[.slice p n c1] w fun e w' => e = .returned (.string ⟨rt.toArray⟩) ∧ Below w.heap.size w w' := by
  have HR := Lib.hid hr; have HTL := Lib.hid htl; have HN := Lib.hid hn; have HRT := Lib.hid hrt
  have HS : Hid (Since w w) := Below.refl _ _
  clear hr htl hn hrt
  by_cases hz : n = 0
  · subst hz
    have hl0 : l = [] := List.length_eq_zero_iff.1 HN.out
    have hls : listSum [sNone] = rt := by rw [← HRT.out, hl0]; rfl
    have HLS := Lib.hid hls; clear hls
    go_enter Tryd.func14, Tryd.ntmps14
    go_wp2_with fail
    refine (rlist_c [sNone] rt 1 rfl HLS.out _ 1 _ (rd_one w sNone 9) (by decide) (one_le (by decide))).mono ?_; rintro e w1 ⟨rfl, hb1⟩
    have HS1 := Lib.hid ((HS.out.alloc _).call hb1); clear hb1
    go_wp2
    go_ret
    exact ⟨rfl, HS1.out⟩
  · have hne : ((n : Int) == 0) = false := by simp; omega
    have hlne : l ≠ [] := fun e => by have := HN.out; rw [e] at this; simp at this; omega
    go_enter Tryd.func14, Tryd.ntmps14
    go_wp2_with fail
    refine (rleaves_any l p n c1 _ HR.out HN.out hl HTL.out).mono ?_; rintro e w1 ⟨v1, rfl, ho1, hb1⟩
    obtain ⟨g1, c1', rfl, _, _, _, _, _⟩ := ho1.form (by rw [leaves_length, HN.out]; omega)
    rw [leaves_length, HN.out] at ho1 ⊢
    have HO1 := Lib.hid ho1; have HB1 := Lib.hid hb1
    clear ho1 hb1
    go_wp2
    go_loopw [3] (fun v wr => ∃ (j g mL cL : Nat), v = .slice (some ⟨g, 0, none⟩) mL cL ∧ 1 ≤ mL ∧ mL ≤ n ∧ j ≤ 64 ∧ Hid (mL ≤ 2 ^ (64 - j)) ∧ Hid ((lvl l j).length = mL) ∧ Hid (OwnS wr w.heap.size v (lvl l j)) ∧ Hid (Below w.heap.size w wr)) (fun v _ => sliceLen v)
    case atStart => exact ⟨0, g1, n, c1', rfl, by omega, Nat.le_refl _, Nat.zero_le _, Lib.hid (by simp; omega), Lib.hid (by rw [lvl_length, HN.out]; rfl), HO1, HB1⟩
    case round =>
      clear HO1 HB1
      obtain ⟨j, g, mL, cL, rfl, hm0, hmn, hj64, HPW, HLL, HO, HB⟩ := hrel
      by_cases hm1 : 1 < mL
      · have hj63 : j < 64 := by
          rcases Nat.lt_or_ge j 64 with h | h
          · exact h
          · have := HPW.out
            rw [show 64 - j = 0 by omega, Nat.pow_zero] at this; omega
        have hpw : (mL + 1) / 2 ≤ 2 ^ (64 - (j + 1)) := by
          have := HPW.out
          rw [show 64 - j = (64 - (j + 1)) + 1 by omega, Nat.pow_succ] at this; omega
        have hul : (up (lvl l j)).length = (mL + 1) / 2 := by rw [up_length, HLL.out]
        have HPW2 := Lib.hid hpw; clear hpw HPW
        go_wp2_with fail
        refine (rup_any (lvl l j) g mL cL _ (ownRd HO.out (by rw [HLL.out]; omega)) HLL.out (by omega) (lvl_16 l j)).mono ?_; rintro e w2 ⟨v2, rfl, ho2, hb2⟩
        obtain ⟨g2, c2, rfl, _, _, _, _, _⟩ := ho2.form (by rw [hul]; omega)
        rw [hul] at ho2 ⊢
        have HO2 := Lib.hid (ho2.base HB.out.size)
        have HB2 := Lib.hid (below_trans HB.out (Nat.le_refl _) hb2)
        have HUL := Lib.hid hul
        clear ho2 hb2 hul
        go_wp2
        go_roundw
        case rel => exact ⟨j + 1, g2, (mL + 1) / 2, c2, rfl, by omega, by omega, hj63, HPW2, HUL, HO2, HB2⟩
        case measure =>
          show (mL + 1) / 2 < mL
          omega
      · have hcell := own0 HO.out 0 (by rw [HLL.out]; omega)
        have hrr : (lvl l j).getD 0 [] = rt := by
          rw [← HRT.out]; exact (root_at hlne (k := j) (by unfold Foyer.Tree.hi; omega) (by rw [HLL.out]; omega)).symm
        rw [hrr] at hcell
        have hm2 : (0 : Int) < (mL : Int) := by omega
        clear hrr
        go_wp2
        go_ret
        exact ⟨rfl, HB.out⟩

theorem rpath_bad (l : List (List UInt8)) (p : Option Addr) (n cap : Nat) (i : Int) (w : World) (_ : l.length = n) (hi : ¬ (0 ≤ i ∧ i < n)) :
    Calls Tryd.prog 12 #[.slice p n cap, .int .i64 i] w fun e w' => e = .returned (.tuple #[.slice none 0 0, .int .i64 1]) ∧ Below w.heap.size w w' := by
  have HS : Hid (Since w w) := Below.refl _ _
  by_cases h0 : i < 0
  · have hd : decide (i < 0) = true := by simp; omega
    go_enter Tryd.func12, Tryd.ntmps12
    go_wp2
    go_ret2
    exact ⟨rfl, HS.out⟩
  · have hd : decide (i < 0) = false := by simp; omega
    have hd2 : decide ((n : Int) ≤ i) = true := by simp; omega
    go_enter Tryd.func12, Tryd.ntmps12
    go_wp2
    go_ret2
    exact ⟨rfl, HS.out⟩

set_option linter.unusedSimpArgs false in
set_option maxRecDepth 100000 in
set_option maxHeartbeats 2000000 in
theorem rpath_any (l : List (List UInt8)) (p : Option Addr) (n c1 i : Nat) (w : World) (hr : RdS w p l) (hn : l.length = n) (hl : n ≤ 1000) (htl : ∀ x ∈ l, x.length ≤ 1000000) (hi : i < n) :
    Calls Tryd.prog 12 #[.slice p n c1, .int .i64 i] w fun e w' => ∃ v, e = .returned (.tuple #[v, .int .i64 0]) ∧ OwnS w' w.heap.size v (path l i) ∧ Below w.heap.size w w' := by
  have HR := Lib.hid hr; have HTL := Lib.hid htl; have HN := Lib.hid hn
  clear hr htl hn
  have hd0 : decide ((i : Int) < 0) = false := by simp
  have hd1 : decide ((n : Int) ≤ (i : Int)) = false := by simp; omega
  go_enter Tryd.func12, Tryd.ntmps12
  go_wp2_with fail
  refine (rleaves_any l p n c1 _ HR.out HN.out hl HTL.out).mono ?_; rintro e w1 ⟨v1, rfl, ho1, hb1⟩
  obtain ⟨g1, c1', rfl, _, _, _, _, _⟩ := ho1.form (by rw [leaves_length, HN.out]; omega)
  rw [leaves_length, HN.out] at ho1 ⊢
  have HO1 := Lib.hid ho1; have HB1 := Lib.hid hb1
  clear ho1 hb1
  go_wp2
  go_loopw [1, 6, 7] (fun iv pv v wr => ∃ (j g mL cL ii : Nat) (z : Value), iv = .int .i64 ii ∧ z = pv ∧ v = .slice (some ⟨g, 0, none⟩) mL cL ∧ ii < mL ∧ mL ≤ n ∧ j ≤ 64 ∧ Hid (mL ≤ 2 ^ (64 - j)) ∧ Hid (i / 2 ^ j = ii) ∧ Hid ((lvl l j).length = mL) ∧ Hid (OwnS wr w.heap.size v (lvl l j)) ∧ Hid (OwnS wr w.heap.size z (pathTo (leaves l) i j)) ∧ Hid (Below w.heap.size w wr) ∧ Hid (∀ q, z.ownBlock = some q → q < g)) (fun _ _ v _ => sliceLen v)
  case atStart => exact ⟨0, g1, n, c1', i, _, rfl, rfl, rfl, hi, Nat.le_refl _, Nat.zero_le _, Lib.hid (by simp; omega), Lib.hid (by simp), Lib.hid (by rw [lvl_length, HN.out]; rfl), HO1, Lib.hid (ownS_nil _ _), HB1, Lib.hid (fun q e => by cases e)⟩
  case round =>
    clear HO1 HB1
    obtain ⟨j, g, mL, cL, ii, z, rfl, rfl, rfl, hii, hmn, hj64, HPW, HII, HLL, HO, HZ, HB, HQ⟩ := hrel
    by_cases hm1 : 1 < mL
    · have hj63 : j < 64 := by
        rcases Nat.lt_or_ge j 64 with h | h
        · exact h
        · have := HPW.out
          rw [show 64 - j = 0 by omega, Nat.pow_zero] at this; omega
      have hpw : (mL + 1) / 2 ≤ 2 ^ (64 - (j + 1)) := by
        have := HPW.out
        rw [show 64 - j = (64 - (j + 1)) + 1 by omega, Nat.pow_succ] at this; omega
      have hul : (up (lvl l j)).length = (mL + 1) / 2 := by rw [up_length, HLL.out]
      have hnextI : i / 2 ^ (j + 1) = ii / 2 := by rw [Nat.pow_succ, ← Nat.div_div_eq_div_mul, HII.out]
      have hnextP : pathTo (leaves l) i (j + 1) = pathTo (leaves l) i j ++ beside (lvl l j) ii := by rw [← HII.out]; rfl
      have hpl := (pathTo_length (leaves l) i j).1
      have h16 := lvl_16 l j
      have hlv1 : lvl l (j + 1) = up (lvl l j) := rfl
      have HPW2 := Lib.hid hpw; have HNI := Lib.hid hnextI; have HNP := Lib.hid hnextP; have HLV := Lib.hid hlv1; have H16 := Lib.hid h16
      clear hpw HPW hnextI hnextP hlv1 HII h16
      generalize hL : lvl l j = L at *
      generalize pathTo (leaves l) i j = PT at *
      clear hL
      have hdm : decide ((1 : Int) < (mL : Int)) = true := by simp; omega
      by_cases hodd : ii % 2 = 1
      · have hz : (ii : Int) % 2 = 1 := by omega
        have hov : (ii : Int) + 1 - 2 = ((ii - 1 : Nat) : Int) := by omega
        have hs1 : decide (((ii - 1 : Nat) : Int) < (mL : Int)) = true := by simp; omega
        have hcell := own0 HO.out (ii - 1) (by rw [HLL.out]; omega)
        have hbe : beside L ii = [L.getD (ii - 1) []] := by unfold beside; rw [show sib ii = ii - 1 by unfold sib; rw [if_neg (by omega)], if_pos (by rw [HLL.out]; omega)]
        generalize L.getD (ii - 1) [] = t at *
        have HBE := Lib.hid hbe; clear hbe
        go_wp2_with (at_builtin; refine wpList_append_k _ rfl _ _ rfl w.heap.size _ PT rfl (HZ.out.alloc _) wr.heap.size 0 1 [t] 1 rfl rfl (fun j hj => by match j, hj with | 0, _ => simp) (by omega) (by have := HB.out.size; simp; omega) w.heap.size (.slice (some ⟨g, 0, none⟩) mL cL) L (HO.out.alloc _) (fun e => by have := HQ.out g e.symm; omega) ?_; intro v3 w3 hown3 hs3 hbel3 hkeep3; have HZ3 := Lib.hid hown3; have HB3 := Lib.hid (hbel3 _ _ (Nat.le_refl _) (HB.out.alloc HB.out.size _)); have HO3 := Lib.hid hkeep3; clear hown3 hbel3 hkeep3)
        refine (rup_any L g mL cL _ (ownRd HO3.out (by rw [HLL.out]; omega)) HLL.out (by omega) H16.out).mono ?_; rintro e w4 ⟨v4, rfl, ho4, hb4⟩
        obtain ⟨g4, c4, rfl, _, _, hg4, _, _⟩ := ho4.form (by rw [hul]; omega)
        rw [hul] at ho4 ⊢
        have HO4 := Lib.hid (ho4.base HB3.out.size)
        have HB4 := Lib.hid (below_trans HB3.out (Nat.le_refl _) hb4)
        have HZ4 := Lib.hid (HZ3.out.kept hb4)
        have HUL := Lib.hid hul
        clear ho4 hb4 hul
        go_wp2
        go_roundw
        case rel => exact ⟨j + 1, g4, (mL + 1) / 2, c4, ii / 2, v3, by go_num, rfl, rfl, by omega, by omega, hj63, HPW2, HNI, Lib.hid (by rw [HLV.out]; exact HUL.out), Lib.hid (by rw [HLV.out]; exact HO4.out), Lib.hid (by rw [HNP.out, HBE.out]; exact HZ4.out), HB4, Lib.hid (fun q e => Nat.lt_of_lt_of_le (World.ownsRow.lt HZ3.out q e).2 hg4)⟩
        case measure =>
          show (mL + 1) / 2 < mL
          omega
      · have hz : (ii : Int) % 2 = 0 := by omega
        by_cases hs1 : ii + 1 < mL
        · have hd2 : decide ((ii : Int) + 1 < (mL : Int)) = true := by simp; omega
          have hcell := own0 HO.out (ii + 1) (by rw [HLL.out]; omega)
          have hbe : beside L ii = [L.getD (ii + 1) []] := by unfold beside; rw [show sib ii = ii + 1 by unfold sib; rw [if_pos (by omega)], if_pos (by rw [HLL.out]; omega)]
          generalize L.getD (ii + 1) [] = t at *
          have HBE := Lib.hid hbe; clear hbe
          go_wp2_with (at_builtin; refine wpList_append_k _ rfl _ _ rfl w.heap.size _ PT rfl (HZ.out.alloc _) wr.heap.size 0 1 [t] 1 rfl rfl (fun j hj => by match j, hj with | 0, _ => simp) (by omega) (by have := HB.out.size; simp; omega) w.heap.size (.slice (some ⟨g, 0, none⟩) mL cL) L (HO.out.alloc _) (fun e => by have := HQ.out g e.symm; omega) ?_; intro v3 w3 hown3 hs3 hbel3 hkeep3; have HZ3 := Lib.hid hown3; have HB3 := Lib.hid (hbel3 _ _ (Nat.le_refl _) (HB.out.alloc HB.out.size _)); have HO3 := Lib.hid hkeep3; clear hown3 hbel3 hkeep3)
          refine (rup_any L g mL cL _ (ownRd HO3.out (by rw [HLL.out]; omega)) HLL.out (by omega) H16.out).mono ?_; rintro e w4 ⟨v4, rfl, ho4, hb4⟩
          obtain ⟨g4, c4, rfl, _, _, hg4, _, _⟩ := ho4.form (by rw [hul]; omega)
          rw [hul] at ho4 ⊢
          have HO4 := Lib.hid (ho4.base HB3.out.size)
          have HB4 := Lib.hid (below_trans HB3.out (Nat.le_refl _) hb4)
          have HZ4 := Lib.hid (HZ3.out.kept hb4)
          have HUL := Lib.hid hul
          clear ho4 hb4 hul
          go_wp2
          go_roundw
          case rel => exact ⟨j + 1, g4, (mL + 1) / 2, c4, ii / 2, v3, by go_num, rfl, rfl, by omega, by omega, hj63, HPW2, HNI, Lib.hid (by rw [HLV.out]; exact HUL.out), Lib.hid (by rw [HLV.out]; exact HO4.out), Lib.hid (by rw [HNP.out, HBE.out]; exact HZ4.out), HB4, Lib.hid (fun q e => Nat.lt_of_lt_of_le (World.ownsRow.lt HZ3.out q e).2 hg4)⟩
          case measure =>
            show (mL + 1) / 2 < mL
            omega
        · have hd2 : decide ((ii : Int) + 1 < (mL : Int)) = false := by simp; omega
          have hbe : beside L ii = [] := by unfold beside; rw [show sib ii = ii + 1 by unfold sib; rw [if_pos (by omega)], if_neg (by rw [HLL.out]; omega)]
          have HBE := Lib.hid (show PT ++ beside L ii = PT by rw [hbe, List.append_nil]); clear hbe
          have HO3 := HO
          have HB3 := HB
          have HZ3 := HZ
          clear HO HB HZ
          go_wp2_with fail
          refine (rup_any L g mL cL _ (ownRd HO3.out (by rw [HLL.out]; omega)) HLL.out (by omega) H16.out).mono ?_; rintro e w4 ⟨v4, rfl, ho4, hb4⟩
          obtain ⟨g4, c4, rfl, _, _, hg4, _, _⟩ := ho4.form (by rw [hul]; omega)
          rw [hul] at ho4 ⊢
          have HO4 := Lib.hid (ho4.base HB3.out.size)
          have HB4 := Lib.hid (below_trans HB3.out (Nat.le_refl _) hb4)
          have HZ4 := Lib.hid (HZ3.out.kept hb4)
          have HUL := Lib.hid hul
          clear ho4 hb4 hul
          go_wp2
          go_roundw
          case rel => exact ⟨j + 1, g4, (mL + 1) / 2, c4, ii / 2, z, by go_num, rfl, rfl, by omega, by omega, hj63, HPW2, HNI, Lib.hid (by rw [HLV.out]; exact HUL.out), Lib.hid (by rw [HLV.out]; exact HO4.out), Lib.hid (by rw [HNP.out, HBE.out]; exact HZ4.out), HB4, Lib.hid (fun q e => Nat.lt_of_lt_of_le (World.ownsRow.lt HZ3.out q e).2 hg4)⟩
          case measure =>
            show (mL + 1) / 2 < mL
            omega
    · have hpd : path l i = pathTo (leaves l) i j := path_at (by rw [HN.out]; exact hi) (k := j) (by unfold Foyer.Tree.hi; omega) (by rw [HLL.out]; omega)
      have hz := HZ.out
      rw [← hpd] at hz
      clear hpd
      go_wp2
      go_ret2
      exact ⟨_, rfl, hz, HB.out⟩
end Go.Proofs.YtkjgdgocjnocaaaDoor
