/-
  The walk of the law's search for two lists of texts with one digest.
-/
import Derived.Test.YtkjgdgocjnocaaaDoorHead4
import Derived.Test.YtkjgdgocjnocaaaDoorOwnStrs
import Derived.Test.YtkjgdgocjnocaaaDoorTail
import Derived.Test.YtkjgdgocjnocaaaDoorMid
import Derived.StillTailTactics
namespace Go.Proofs.YtkjgdgocjnocaaaDoor
open Go.RowKit Go.Sort Foyer.Digest Foyer.Tree

theorem foundFrom_small {L : List (List UInt8)} {i : Nat} {a : List UInt8} {ps : List (List UInt8)} (h : L.length ≤ 1) : ∀ f, foundFrom f L i a ps = false
  | 0 => rfl
  | _ + 1 => foundFrom_one h
theorem sib_odd {i : Nat} (h : i % 2 = 1) : sib i = i - 1 := by unfold sib; rw [if_neg (by omega)]
theorem sib_even {i : Nat} (h : i % 2 = 0) : sib i = i + 1 := by unfold sib; rw [if_pos h]
theorem drop_at {ps : List (List UInt8)} {u : Nat} (h : u < ps.length) : ps.drop u = ps.getD u [] :: ps.drop (u + 1) := by
  rw [List.drop_eq_getElem_cons h]
  simp [List.getD_eq_getElem?_getD, h]
theorem up_16' {L : List (List UInt8)} (h : ∀ t ∈ L, t.length = 16) : ∀ t ∈ up L, t.length = 16 := up_16 L h
theorem getD_16 {L : List (List UInt8)} (h : ∀ t ∈ L, t.length = 16) {i : Nat} (hi : i < L.length) : (L.getD i []).length = 16 := h _ (getD_mem hi)
theorem pairs_succ (L : List (List UInt8)) (k : Nat) : (List.range (k + 1)).map (pairAt L) = (List.range k).map (pairAt L) ++ [pairAt L k] := by rw [List.range_succ, List.map_append]; rfl
theorem pairs_length (L : List (List UInt8)) (k : Nat) : ((List.range k).map (pairAt L)).length = k := by simp
theorem RdS.atj {w : World} {p : Option Addr} {ls : List (List UInt8)} (h : RdS w p ls) {j : Nat} (hj : j < ls.length) : ∃ b off, p = some ⟨b, off, none⟩ ∧ w.cell? ⟨b, off + j, none⟩ = some (.string ⟨(ls.getD j []).toArray⟩) := by
  rcases h with rfl | ⟨b, off, rfl, _, hc⟩
  · simp at hj
  · exact ⟨b, off, rfl, hc j hj⟩

set_option linter.unusedSimpArgs false in
set_option maxRecDepth 100000 in
set_option maxHeartbeats 4000000 in
theorem found_any (l ps : List (List UInt8)) (i : Nat) (t : List UInt8) (p q : Option Addr) (n c1 m c2 : Nat) (w : World) (hr : RdS w p l) (hq : RdS w q ps) (hn : l.length = n) (hm : ps.length = m) (hl : n ≤ 1000) (hpm : m ≤ 1000) (hi : i < n) (ht : t.length ≤ 1000000)
    (htl : ∀ x ∈ l, x.length ≤ 1000000) (htp : ∀ x ∈ ps, x.length ≤ 1000000) (r : Bool) (hres : found l i t ps = r) (hE : Env w) :
    Calls Tryd.prog 18 #[.slice p n c1, .int .i64 i, .string ⟨t.toArray⟩, .slice q m c2] w fun e w' => e = .returned (.bool r) ∧ Below w.heap.size w w' := by
  have HE := Lib.hid hE; have HR := Lib.hid hr; have HQ := Lib.hid hq; have HTL := Lib.hid htl; have HTP := Lib.hid htp; have HN := Lib.hid hn; have HM := Lib.hid hm
  obtain ⟨bp, op, rfl, hx0⟩ := hr.atj (by rw [hn]; exact hi)
  obtain ⟨li, hli⟩ : ∃ li, l.getD i [] = li := ⟨_, rfl⟩
  have hlil : li.length ≤ 1000000 := by rw [← hli]; exact htl _ (getD_mem (by rw [hn]; exact hi))
  obtain ⟨cb, hcb⟩ : ∃ cb, collide [sLeaf, t] [sLeaf, li] = cb := ⟨_, rfl⟩
  obtain ⟨res, hff⟩ : ∃ res, foundFrom Foyer.Tree.hi (leaves l) i (leafD t) ps = res := ⟨_, rfl⟩
  have hr2 : (cb || res) = r := by rw [← hres, ← hff, ← hcb, ← hli]; rfl
  rw [hli] at hx0
  have hx0a : ∀ o, (w.alloc o).cell? ⟨bp, op + i, none⟩ = some (.string ⟨li.toArray⟩) := fun o => cell_kept hx0 (World.grownBy_alloc w o none) (fun r e => by cases e)
  have HCB := Lib.hid hcb; have HFF := Lib.hid hff
  have HS : Hid (Since w w) := Below.refl _ _
  clear hE hr hq htl htp hn hm hres hcb hff hli
  have HT := Lib.hid ht; have HLI := Lib.hid hlil; clear ht hlil
  cases cb
  · have hr3 : res = r := by simpa using hr2
    subst hr3
    clear hr2
    go_enter Tryd.func18, Tryd.ntmps18
    go_wp2_with fail
    have HS := Lib.hid ((HS.out.alloc (.cells #[.string ⟨sLeaf.toArray⟩, .string ⟨t.toArray⟩] 9)).alloc (.cells #[.string ⟨sLeaf.toArray⟩, .string ⟨li.toArray⟩] 9))
    refine (collide_c [sLeaf, t] [sLeaf, li] false HCB.out 2 2 rfl rfl _ _ 2 2 _ ((rd_two w sLeaf t 9).alloc _) (by have := rd_two (w.alloc (.cells #[.string ⟨sLeaf.toArray⟩, .string ⟨t.toArray⟩] 9)) sLeaf li 9; simpa using this) (by decide) (by decide) (two_le (by decide) HT.out) (two_le (by decide) HLI.out) (HE.out.below HS.out)).mono ?_; rintro e w1 ⟨rfl, hb1⟩
    have HS := Lib.hid (HS.out.call hb1); clear hb1 hx0 hx0a
    go_wp2
    go_loopw [9, 10] (fun v k wr => ∃ (kk : Nat) (z : Value), kk ≤ n ∧ k = .int .i64 kk ∧ z = v ∧ Hid (OwnS wr w.heap.size z ((leaves l).take kk)) ∧ Hid (Below w.heap.size w wr)) (fun _ k _ => n - (intOf k).toNat)
    case atStart => exact ⟨0, _, Nat.zero_le _, rfl, rfl, Lib.hid (by rw [List.take_zero]; exact ownS_nil _ _), HS⟩
    case round =>
      clear HS
      obtain ⟨kk, z, hk, rfl, rfl, HO, HB⟩ := hrel
      by_cases hlt : kk < n
      · obtain ⟨bp2, op2, hpe, hxk⟩ := (HR.out.below (Nat.le_refl _) HB.out).atj (j := kk) (by rw [HN.out]; exact hlt)
        simp only [Option.some.injEq, Addr.mk.injEq, and_true] at hpe
        obtain ⟨rfl, rfl⟩ := hpe
        have hxl : (l.getD kk []).length ≤ 1000000 := HTL.out _ (getD_mem (by rw [HN.out]; exact hlt))
        have hlv := leaves_getD l kk (by rw [HN.out]; exact hlt)
        have htk : (leaves l).take (kk + 1) = (leaves l).take kk ++ [leafD (l.getD kk [])] := by
          rw [List.take_succ_eq_append_getElem (by rw [leaves_length, HN.out]; exact hlt), ← hlv]
          simp [List.getD_eq_getElem?_getD, leaves_length, HN.out, hlt]
        obtain ⟨y, hy⟩ : ∃ y, leafD (l.getD kk []) = y := ⟨_, rfl⟩
        rw [hy] at htk
        generalize l.getD kk [] = x at *
        have htl2 : ((leaves l).take kk).length = kk := by rw [List.length_take, leaves_length, HN.out]; omega
        generalize (leaves l).take kk = T at *
        have HTK := Lib.hid htk; have HY := Lib.hid hy; have HX := Lib.hid hxl
        clear htk hy hxl hlv
        go_wp2_with fail
        refine (leaf_c x y HY.out HX.out _ (HE.out.below HB.out)).mono ?_; rintro e w2 ⟨rfl, hb2⟩
        have HB2 := Lib.hid (below_trans HB.out (Nat.le_refl _) hb2)
        have HO2 := Lib.hid (HO.out.kept hb2)
        clear hb2
        go_wp2_with (at_builtin; refine wpList_append_s _ rfl _ _ rfl w.heap.size _ T rfl (HO2.out.alloc _) w2.heap.size 0 1 [y] 1 rfl rfl ?c1 ?d3 ?d5 ?_)
        case c1 =>
          intro j hj
          match j, hj with
          | 0, _ => simp
        case d3 => omega
        case d5 => have := HB2.out.size; simp; omega
        intro v3 w3 hown3 _ hbel3
        have HO3 := Lib.hid hown3
        have HB3 := Lib.hid (hbel3 _ _ (Nat.le_refl _) (HB2.out.alloc HB2.out.size _))
        clear hown3 hbel3
        go_wp2
        go_roundw
        case rel => exact ⟨kk + 1, v3, by omega, by go_num, rfl, Lib.hid (by rw [HTK.out]; exact HO3.out), HB3⟩
        case measure => simp [intOf]; omega
      · obtain rfl : kk = n := by omega
        have hOL : OwnS wr w.heap.size z (leaves l) := by
          have := HO.out
          rwa [List.take_of_length_le (by rw [leaves_length, HN.out]; exact Nat.le_refl _)] at this
        obtain ⟨x0, hx0⟩ : ∃ x0, leafD t = x0 := ⟨_, rfl⟩
        have hx16 := leafD_length t
        rw [hx0] at hx16
        have hff := HFF.out
        rw [hx0] at hff
        have HFF2 := Lib.hid hff; have HX0 := Lib.hid hx0; have HOL := Lib.hid hOL
        clear hff hx0 hOL HO
        go_wp2_with fail
        refine (leaf_c t x0 HX0.out HT.out _ (HE.out.below HB.out)).mono ?_; rintro e w2 ⟨rfl, hb2⟩
        have HB2 := Lib.hid (below_trans HB.out (Nat.le_refl _) hb2)
        have HO2 := Lib.hid (HOL.out.kept hb2)
        clear hb2 HB HOL
        go_wp2
        go_loopw [1, 9, 11, 12] (fun iv v xv uv wr => ∃ (f jj uu g mL cL : Nat) (L : List (List UInt8)) (x : List UInt8), iv = .int .i64 jj ∧ v = .slice (some ⟨g, 0, none⟩) mL cL ∧ xv = .string ⟨x.toArray⟩ ∧ uv = .int .i64 uu ∧ uu ≤ m ∧ jj < mL ∧ mL ≤ kk ∧ x.length = 16 ∧ L.length = mL ∧ Hid (mL ≤ 2 ^ f) ∧ Hid (∀ t ∈ L, t.length = 16) ∧ Hid (OwnS wr w.heap.size v L) ∧ Hid (Below w.heap.size w wr) ∧ Hid (foundFrom f L jj x (ps.drop uu) = res)) (fun _ v _ _ _ => lenV v)
        case atStart =>
          obtain ⟨g, cL, rfl, _, _, _, _, _⟩ := HO2.out.form (by rw [leaves_length, HN.out]; omega)
          exact ⟨Foyer.Tree.hi, i, 0, g, kk, cL, leaves l, x0, rfl, by rw [leaves_length, HN.out], rfl, rfl, Nat.zero_le _, hi, Nat.le_refl _, hx16, by rw [leaves_length, HN.out], Lib.hid (by unfold Foyer.Tree.hi; omega), Lib.hid (leaves_16 l), HO2, HB2, by rw [List.drop_zero]; exact HFF2⟩
        case round =>
          clear HFF2 HO2 HB2 HX0 hx16
          obtain ⟨f, jj, uu, g, mL, cL, L, x, rfl, rfl, rfl, rfl, hum, hjm, hmk, hxl, hLl, HF, H16, HO, HB, HC⟩ := hrel
          by_cases hm1 : 1 < mL
          · obtain ⟨f, rfl⟩ : ∃ g, f = g + 1 := ⟨f - 1, by
              have := HF.out
              cases f with
              | zero => simp at this; omega
              | succ f => rfl⟩
            have hF2 : (mL + 1) / 2 ≤ 2 ^ f := by have := HF.out; rw [Nat.pow_succ] at this; omega
            have HF2 := Lib.hid hF2; clear hF2 HF
            have hL1 : ¬ L.length ≤ 1 := by omega
            have hdm : decide ((1 : Int) < (mL : Int)) = true := by simp; omega
            by_cases hodd : jj % 2 = 1
            · have hz : (jj : Int) % 2 = 1 := by omega
              have hs : sib jj < L.length := by rw [sib_odd hodd]; omega
              by_cases hu : uu < m
              · have hdr := drop_at (ps := ps) (u := uu) (by rw [HM.out]; exact hu)
                obtain ⟨bq, oq, rfl, hp0⟩ := (HQ.out.below (Nat.le_refl _) HB.out).atj (j := uu) (by rw [HM.out]; exact hu)
                have hpl : (ps.getD uu []).length ≤ 1000000 := HTP.out _ (getD_mem (by rw [HM.out]; exact hu))
                have hc := HC.out
                rw [hdr, foundFrom_take hL1 hs, twoOf_eq, sib_odd hodd] at hc
                have hca := HO.out.atj (jj - 1) (by omega)
                have hcb := HO.out.atj jj (by omega)
                have hla := getD_16 H16.out (i := jj - 1) (by omega)
                have hlb := getD_16 H16.out (i := jj) (by omega)
                have eo : ∀ a b, oneOf jj a b = [sNode, b, a] := fun a b => by unfold oneOf; rw [if_pos hodd]
                rw [eo, eo] at hc
                generalize ps.getD uu [] = pp at *
                generalize L.getD (jj - 1) [] = la at *
                generalize L.getD jj [] = lb at *
                obtain ⟨y, hy⟩ : ∃ y, join jj x pp = y := ⟨_, rfl⟩
                have hys : listSum [sNode, pp, x] = y := by rw [← hy, ← eo, oneOf_sum]
                have hyl : y.length = 16 := by rw [← hys]; exact listSum_length _
                rw [hy] at hc
                obtain ⟨cc, hcc⟩ : ∃ cc, collide [sNode, pp, x] [sNode, la, lb] = cc := ⟨_, rfl⟩
                rw [hcc] at hc
                have HCC := Lib.hid hcc; have HC2 := Lib.hid hc; have HYS := Lib.hid hys
                have hjc : ((jj : Int) - 1) = ((jj - 1 : Nat) : Int) := by omega
                have p2 : ∀ o o2, ((wr.alloc o).alloc o2).cell? ⟨bq, oq + uu, none⟩ = some (.string ⟨pp.toArray⟩) := fun o o2 => cell_past _ (cell_past _ hp0)
                have b1 : ∀ o, (wr.alloc o).cell? ⟨g, jj, none⟩ = some (.string ⟨lb.toArray⟩) := fun o => cell_past _ hcb
                have b3 : ∀ o o2 o3, (((wr.alloc o).alloc o2).alloc o3).drew.cell? ⟨g, jj, none⟩ = some (.string ⟨lb.toArray⟩) := fun o o2 o3 => cell_past _ (cell_past _ (cell_past _ hcb))
                have a3 : ∀ o o2 o3, (((wr.alloc o).alloc o2).alloc o3).drew.cell? ⟨g, jj - 1, none⟩ = some (.string ⟨la.toArray⟩) := fun o o2 o3 => cell_past _ (cell_past _ (cell_past _ hca))
                clear hdr hc hcc hys hy HC eo hca
                go_wp2_with fail
                have hOW : OwnS (((wr.alloc (.cells #[.string ⟨sNode.toArray⟩, .string ⟨x.toArray⟩, .string ⟨pp.toArray⟩] 9)).alloc (.cells #[.string ⟨sNode.toArray⟩, .string ⟨lb.toArray⟩, .string ⟨#[]⟩] 9)).alloc (.cells #[.string ⟨sNode.toArray⟩, .string ⟨pp.toArray⟩, .string ⟨x.toArray⟩] 9)) w.heap.size (.slice (some ⟨g, 0, none⟩) mL cL) L := ((HO.out.alloc _).alloc _).alloc _
                have hBW : Below w.heap.size w (((wr.alloc (.cells #[.string ⟨sNode.toArray⟩, .string ⟨x.toArray⟩, .string ⟨pp.toArray⟩] 9)).alloc (.cells #[.string ⟨sNode.toArray⟩, .string ⟨lb.toArray⟩, .string ⟨#[]⟩] 9)).alloc (.cells #[.string ⟨sNode.toArray⟩, .string ⟨pp.toArray⟩, .string ⟨x.toArray⟩] 9)) := ((Since.alloc HB.out _).alloc _).alloc _
                have hR1 := rd_three ((wr.alloc (.cells #[.string ⟨sNode.toArray⟩, .string ⟨x.toArray⟩, .string ⟨pp.toArray⟩] 9)).alloc (.cells #[.string ⟨sNode.toArray⟩, .string ⟨lb.toArray⟩, .string ⟨#[]⟩] 9)) sNode pp x 9
                simp only [World.size_alloc] at hR1
                have hcb3 := b3 (.cells #[.string ⟨sNode.toArray⟩, .string ⟨x.toArray⟩, .string ⟨pp.toArray⟩] 9) (.cells #[.string ⟨sNode.toArray⟩, .string ⟨lb.toArray⟩, .string ⟨#[]⟩] 9) (.cells #[.string ⟨sNode.toArray⟩, .string ⟨pp.toArray⟩, .string ⟨x.toArray⟩] 9)
                have hca3 := a3 (.cells #[.string ⟨sNode.toArray⟩, .string ⟨x.toArray⟩, .string ⟨pp.toArray⟩] 9) (.cells #[.string ⟨sNode.toArray⟩, .string ⟨lb.toArray⟩, .string ⟨#[]⟩] 9) (.cells #[.string ⟨sNode.toArray⟩, .string ⟨pp.toArray⟩, .string ⟨x.toArray⟩] 9)
                clear p2 b1 b3 a3
                have hw1 : IntKind.i64.wrap ((jj - 1 : Nat) : Int) = ((jj - 1 : Nat) : Int) := by rw [IntKind.wrap_i64]; omega
                have hw2 : ((jj - 1 : Nat) : Int) < (mL : Int) := by omega
                have hw3 : (jj : Int) < (mL : Int) := by omega
                rw [show (#[110, 111, 100, 101] : Array UInt8) = sNode.toArray from rfl]
                generalize ((wr.alloc (.cells #[.string ⟨sNode.toArray⟩, .string ⟨x.toArray⟩, .string ⟨pp.toArray⟩] 9)).alloc (.cells #[.string ⟨sNode.toArray⟩, .string ⟨lb.toArray⟩, .string ⟨#[]⟩] 9)).alloc (.cells #[.string ⟨sNode.toArray⟩, .string ⟨pp.toArray⟩, .string ⟨x.toArray⟩] 9) = W3 at *
                have HOW := Lib.hid hOW; have HBW := Lib.hid hBW; have HR1 := Lib.hid hR1
                clear hOW hBW hR1 hcb hp0 HO HB
                refine wp_region_still_tail 9 (by kernel_rfl) (by kernel_rfl) ?_
                simp only [List.take_succ_cons, List.take_zero, List.drop_succ_cons, List.drop_zero]
                iterate 9 still_step
                refine wpStill_nil ?_
                change wpList _ _ _ _ _ W3.drew
                have HOd : Hid (OwnS W3.drew w.heap.size (.slice (some ⟨g, 0, none⟩) mL cL) L) := HOW.out
                have HBd : Hid (Below w.heap.size w W3.drew) := HBW.out.drew
                have HRd : Hid (RdS W3.drew (some ⟨wr.heap.size + 1 + 1, 0, none⟩) [sNode, pp, x]) := HR1.out
                clear hcb3 hca3 HOW HBW HR1
                generalize W3.drew = W4 at *
                cases cc
                · go_wp2_with fail
                  have HB5 := Lib.hid (Since.alloc HBd.out (.cells #[.string ⟨sNode.toArray⟩, .string ⟨la.toArray⟩, .string ⟨lb.toArray⟩] 9))
                  have HO5 := Lib.hid (HOd.out.alloc (.cells #[.string ⟨sNode.toArray⟩, .string ⟨la.toArray⟩, .string ⟨lb.toArray⟩] 9))
                  have HR5 := Lib.hid (HRd.out.alloc (.cells #[.string ⟨sNode.toArray⟩, .string ⟨la.toArray⟩, .string ⟨lb.toArray⟩] 9))
                  refine (collide_c [sNode, pp, x] [sNode, la, lb] false HCC.out 3 3 rfl rfl _ _ 3 3 _ HR5.out (rd_three W4 sNode la lb 9) (by decide) (by decide) (three_le (by decide) hpl (by omega)) (three_le (by decide) (by omega) (by omega)) (HE.out.below HB5.out)).mono ?_; rintro e w5 ⟨rfl, hb5⟩
                  have HB6 := Lib.hid (Since.call HB5.out hb5)
                  have HO6 := Lib.hid (HO5.out.kept hb5)
                  have HR6 := Lib.hid (HR5.out.below (Nat.le_refl _) hb5)
                  clear hb5 HB5 HO5 HR5
                  go_wp2_with fail
                  refine (list_c [sNode, pp, x] y 3 rfl HYS.out _ 3 _ HR6.out (by decide) (three_le (by decide) hpl (by omega)) (HE.out.below HB6.out)).mono ?_; rintro e wc ⟨rfl, hb7⟩
                  have HBc := Lib.hid (Since.call HB6.out hb7)
                  have HOc := Lib.hid (HO6.out.kept hb7)
                  have hfc : foundFrom f (up L) (jj / 2) y (ps.drop (uu + 1)) = res := by have := HC2.out; simpa using this
                  have HFc := Lib.hid hfc
                  clear hb7 HB6 HO6 HR6 HC2 hfc
                  go_wp2
                  go_loopw [15, 16] (fun v kv wr => ∃ (k3 : Nat) (z : Value), k3 ≤ (mL + 1) / 2 ∧ kv = .int .i64 (2 * k3 : Nat) ∧ z = v ∧ Hid (OwnS wr wc.heap.size z ((List.range k3).map (pairAt L))) ∧ Hid (Below wc.heap.size wc wr)) (fun _ kv _ => mL + 1 - (intOf kv).toNat)
                  case atStart => exact ⟨0, _, Nat.zero_le _, rfl, rfl, Lib.hid (ownS_nil _ _), Lib.hid (Below.refl _ _)⟩
                  case round =>
                    obtain ⟨k3, z, hk3, rfl, rfl, HO3, HB3⟩ := hrel
                    have HBt : Hid (Below w.heap.size w wr) := HBc.out.trans (HB3.out.mono HBc.out.size)
                    have hOw := HOc.out.kept HB3.out
                    by_cases h3 : 2 * k3 < mL
                    · have hps := pairs_succ L k3
                      have hplen := pairs_length L k3
                      obtain ⟨pa, hpa⟩ : ∃ pa, L.getD (2 * k3) [] = pa := ⟨_, rfl⟩
                      have hc0 := hOw.atj (2 * k3) (by omega)
                      have hpa16 := getD_16 H16.out (i := 2 * k3) (by omega)
                      rw [hpa] at hc0 hpa16
                      by_cases h4 : 2 * k3 + 1 < mL
                      · obtain ⟨pb, hpb⟩ : ∃ pb, L.getD (2 * k3 + 1) [] = pb := ⟨_, rfl⟩
                        have hc1 := hOw.atj (2 * k3 + 1) (by omega)
                        have hpb16 := getD_16 H16.out (i := 2 * k3 + 1) (by omega)
                        rw [hpb] at hc1 hpb16
                        obtain ⟨nd, hnd⟩ : ∃ nd, nodeD pa pb = nd := ⟨_, rfl⟩
                        have hpr : pairAt L k3 = nd := by unfold pairAt; rw [if_pos (by omega), hpa, hpb, hnd]
                        rw [hpr] at hps
                        have hc0d : wr.drew.cell? ⟨g, 2 * k3, none⟩ = some (.string ⟨pa.toArray⟩) := hc0
                        have hc1d : wr.drew.cell? ⟨g, 2 * k3 + 1, none⟩ = some (.string ⟨pb.toArray⟩) := hc1
                        have HPS := Lib.hid hps; have HND := Lib.hid hnd
                        clear hps hnd hpr hpa hpb hOw hc0 hc1
                        have hw1 : IntKind.i64.wrap (2 * (k3 : Int) + 1) = 2 * (k3 : Int) + 1 := by rw [IntKind.wrap_i64]; omega
                        have hw2 : 2 * (k3 : Int) < (mL : Int) := by omega
                        have hw3 : 2 * (k3 : Int) + 1 < (mL : Int) := by omega
                        have hw4 : (0 : Int) ≤ 2 * (k3 : Int) := by omega
                        have hw5 : (0 : Int) ≤ 2 * (k3 : Int) + 1 := by omega
                        have hw6 : (2 * (k3 : Int) + 1).toNat = 2 * k3 + 1 := by omega
                        have hw7 : (2 * (k3 : Int)).toNat = 2 * k3 := by omega
                        generalize (List.range k3).map (pairAt L) = PL at *
                        go_wp2_with fail
                        refine Foyer.Tail.wp_region_lead_tail 9 (by kernel_rfl) (by kernel_rfl) z (fun _ _ _ h => h) (Or.inl ⟨by rfl, fun w => by go_simp⟩) ?_
                        simp only [List.take_succ_cons, List.take_zero, List.drop_succ_cons, List.drop_zero]
                        iterate 9 still_step
                        refine wpStill_nil ?_
                        have HOd : Hid (OwnS wr.drew wc.heap.size z PL) := HO3.out
                        have HBd : Hid (Below wc.heap.size wc wr.drew) := HB3.out.drew
                        have HBtd : Hid (Below w.heap.size w wr.drew) := HBt.out.drew
                        clear HO3 HB3 HBt hc0d hc1d
                        change wpList _ _ _ _ _ wr.drew
                        generalize wr.drew = wd at *
                        go_wp2_with fail
                        refine (node_c pa pb nd HND.out (by omega) (by omega) _ (HE.out.below HBtd.out)).mono ?_; rintro e w5 ⟨rfl, hb5⟩
                        have HO5 := Lib.hid (HOd.out.kept hb5)
                        have HB5 := Lib.hid (below_trans HBd.out (Nat.le_refl _) hb5)
                        clear hb5 HOd HBd HBtd
                        go_wp2_with (at_builtin; refine wpList_append_s _ rfl _ _ rfl wc.heap.size _ PL rfl (HO5.out.alloc _) w5.heap.size 0 1 [nd] 1 rfl rfl ?c1 ?d3 ?d5 ?_)
                        case c1 =>
                          intro j hj
                          match j, hj with
                          | 0, _ => simp
                        case d3 => omega
                        case d5 => have := HB5.out.size; simp; omega
                        intro v6 w6 hown6 _ hbel6
                        have HO6 := Lib.hid hown6
                        have HB6 := Lib.hid (hbel6 _ _ (Nat.le_refl _) (HB5.out.alloc HB5.out.size _))
                        clear hown6 hbel6
                        go_wp2
                        go_roundw
                        case rel => exact ⟨k3 + 1, v6, by omega, by go_num, rfl, Lib.hid (by rw [HPS.out]; exact HO6.out), HB6⟩
                        case measure => simp [intOf]; omega
                      · have hpr : pairAt L k3 = pa := by unfold pairAt; rw [if_neg (by omega), hpa]
                        rw [hpr] at hps
                        have HPS := Lib.hid hps
                        clear hps hpr hpa hOw
                        generalize (List.range k3).map (pairAt L) = PL at *
                        go_wp2_with (at_builtin; refine wpList_append_s _ rfl _ _ rfl wc.heap.size _ PL rfl (HO3.out.alloc _) wr.heap.size 0 1 [pa] 1 rfl rfl ?c1 ?d3 ?d5 ?_)
                        case c1 =>
                          intro j hj
                          match j, hj with
                          | 0, _ => simp
                        case d3 => omega
                        case d5 => have := HB3.out.size; simp; omega
                        intro v6 w6 hown6 _ hbel6
                        have HO6 := Lib.hid hown6
                        have HB6 := Lib.hid (hbel6 _ _ (Nat.le_refl _) (HB3.out.alloc HB3.out.size _))
                        clear hown6 hbel6
                        go_wp2
                        go_roundw
                        case rel => exact ⟨k3 + 1, v6, by omega, by go_num, rfl, Lib.hid (by rw [HPS.out]; exact HO6.out), HB6⟩
                        case measure => simp [intOf]; omega
                    · obtain rfl : k3 = (mL + 1) / 2 := by omega
                      have hup : (List.range ((mL + 1) / 2)).map (pairAt L) = up L := by rw [← hLl]; exact up_pairs L
                      have ho3 := HO3.out
                      rw [hup] at ho3
                      obtain ⟨g3, c3, rfl, _, _, _, _, _⟩ := ho3.form (by rw [up_length]; omega)
                      have hul : (up L).length = (mL + 1) / 2 := by rw [up_length, hLl]
                      rw [hul] at ho3
                      have HO4 := Lib.hid (ho3.base (Nat.le_trans HBc.out.size (Nat.le_refl _)))
                      clear ho3 HO3 hup hOw
                      rw [hul]
                      go_wp2
                      go_roundw
                      case rel => exact ⟨f, jj / 2, (uu + 1), g3, (mL + 1) / 2, c3, up L, y, by go_num, rfl, rfl, by go_num, by omega, by omega, by omega, hyl, hul, HF2, Lib.hid (up_16 L H16.out), HO4, HBt, HFc⟩
                      case measure =>
                        show (mL + 1) / 2 < mL
                        omega
                · have hr0 : res = true := by rw [← HC2.out]; rfl
                  subst hr0
                  go_wp2_with fail
                  have HB5 := Lib.hid (Since.alloc HBd.out (.cells #[.string ⟨sNode.toArray⟩, .string ⟨la.toArray⟩, .string ⟨lb.toArray⟩] 9))
                  have HR5 := Lib.hid (HRd.out.alloc (.cells #[.string ⟨sNode.toArray⟩, .string ⟨la.toArray⟩, .string ⟨lb.toArray⟩] 9))
                  refine (collide_c [sNode, pp, x] [sNode, la, lb] true HCC.out 3 3 rfl rfl _ _ 3 3 _ HR5.out (rd_three W4 sNode la lb 9) (by decide) (by decide) (three_le (by decide) hpl (by omega)) (three_le (by decide) (by omega) (by omega)) (HE.out.below HB5.out)).mono ?_; rintro e w5 ⟨rfl, hb5⟩
                  have HB6 := Lib.hid (Since.call HB5.out hb5)
                  clear hb5
                  go_wp2
                  go_ret
                  exact ⟨rfl, HB6.out⟩
              · obtain rfl : uu = m := by omega
                have hr0 : res = false := by
                  have := HC.out
                  rw [List.drop_of_length_le (by rw [HM.out]; exact Nat.le_refl _), foundFrom_stop hL1 hs] at this
                  exact this.symm
                subst hr0
                go_wp2
                go_ret
                exact ⟨rfl, HB.out⟩
            · have hz : (jj : Int) % 2 = 0 := by omega
              by_cases hs1 : jj + 1 < mL
              · have hs : sib jj < L.length := by rw [sib_even (by omega)]; omega
                have hdj : decide ((jj : Int) + 1 < (mL : Int)) = true := by simp; omega
                by_cases hu : uu < m
                · have hdr := drop_at (ps := ps) (u := uu) (by rw [HM.out]; exact hu)
                  have hdu : decide ((m : Int) ≤ (uu : Int)) = false := by simp; omega
                  obtain ⟨bq, oq, rfl, hp0⟩ := (HQ.out.below (Nat.le_refl _) HB.out).atj (j := uu) (by rw [HM.out]; exact hu)
                  have hpl : (ps.getD uu []).length ≤ 1000000 := HTP.out _ (getD_mem (by rw [HM.out]; exact hu))
                  have hc := HC.out
                  rw [hdr, foundFrom_take hL1 hs, twoOf_eq, sib_even (by omega)] at hc
                  have hca := HO.out.atj jj (by omega)
                  have hcb := HO.out.atj (jj + 1) (by omega)
                  have hla := getD_16 H16.out (i := jj) (by omega)
                  have hlb := getD_16 H16.out (i := jj + 1) (by omega)
                  have eo : ∀ a b, oneOf jj a b = [sNode, a, b] := fun a b => by unfold oneOf; rw [if_neg (by omega)]
                  rw [eo, eo] at hc
                  generalize ps.getD uu [] = pp at *
                  generalize L.getD jj [] = la at *
                  generalize L.getD (jj + 1) [] = lb at *
                  obtain ⟨y, hy⟩ : ∃ y, join jj x pp = y := ⟨_, rfl⟩
                  have hys : listSum [sNode, x, pp] = y := by rw [← hy, ← eo, oneOf_sum]
                  have hyl : y.length = 16 := by rw [← hys]; exact listSum_length _
                  rw [hy] at hc
                  obtain ⟨cc, hcc⟩ : ∃ cc, collide [sNode, x, pp] [sNode, la, lb] = cc := ⟨_, rfl⟩
                  rw [hcc] at hc
                  have HCC := Lib.hid hcc; have HC2 := Lib.hid hc; have HYS := Lib.hid hys
                  have a1 : ∀ o, (wr.alloc o).cell? ⟨g, jj, none⟩ = some (.string ⟨la.toArray⟩) := fun o => cell_past _ hca
                  have b2 : ∀ o o2, ((wr.alloc o).alloc o2).cell? ⟨g, jj + 1, none⟩ = some (.string ⟨lb.toArray⟩) := fun o o2 => cell_past _ (cell_past _ hcb)
                  clear hdr hc hcc hys hy HC eo hcb
                  cases cc
                  · go_wp2_with fail
                    have hOW : OwnS ((wr.alloc (.cells #[.string ⟨sNode.toArray⟩, .string ⟨x.toArray⟩, .string ⟨pp.toArray⟩] 9)).alloc (.cells #[.string ⟨sNode.toArray⟩, .string ⟨la.toArray⟩, .string ⟨lb.toArray⟩] 9)) w.heap.size (.slice (some ⟨g, 0, none⟩) mL cL) L := (HO.out.alloc _).alloc _
                    have hBW : Below w.heap.size w ((wr.alloc (.cells #[.string ⟨sNode.toArray⟩, .string ⟨x.toArray⟩, .string ⟨pp.toArray⟩] 9)).alloc (.cells #[.string ⟨sNode.toArray⟩, .string ⟨la.toArray⟩, .string ⟨lb.toArray⟩] 9)) := (Since.alloc HB.out _).alloc _
                    have hR1 := (rd_three wr sNode x pp 9).alloc (.cells #[.string ⟨sNode.toArray⟩, .string ⟨la.toArray⟩, .string ⟨lb.toArray⟩] 9)
                    have hR2 := rd_three (wr.alloc (.cells #[.string ⟨sNode.toArray⟩, .string ⟨x.toArray⟩, .string ⟨pp.toArray⟩] 9)) sNode la lb 9
                    simp only [World.size_alloc] at hR2
                    rw [show (#[110, 111, 100, 101] : Array UInt8) = sNode.toArray from rfl]
                    generalize (wr.alloc (.cells #[.string ⟨sNode.toArray⟩, .string ⟨x.toArray⟩, .string ⟨pp.toArray⟩] 9)).alloc (.cells #[.string ⟨sNode.toArray⟩, .string ⟨la.toArray⟩, .string ⟨lb.toArray⟩] 9) = W3 at *
                    have HOW := Lib.hid hOW; have HBW := Lib.hid hBW; have HR1 := Lib.hid hR1
                    refine (collide_c [sNode, x, pp] [sNode, la, lb] false HCC.out 3 3 rfl rfl _ _ 3 3 _ hR1 hR2 (by decide) (by decide) (three_le (by decide) (by omega) hpl) (three_le (by decide) (by omega) (by omega)) (HE.out.below hBW)).mono ?_; rintro e w5 ⟨rfl, hb5⟩
                    have HB6 := Lib.hid (Since.call HBW.out hb5)
                    have HO6 := Lib.hid (HOW.out.kept hb5)
                    have HR6 := Lib.hid (HR1.out.below (Nat.le_refl _) hb5)
                    clear hb5 hOW hBW hR1 hR2 HO HB hp0 hca a1 b2
                    go_wp2_with fail
                    refine (list_c [sNode, x, pp] y 3 rfl HYS.out _ 3 _ HR6.out (by decide) (three_le (by decide) (by omega) hpl) (HE.out.below HB6.out)).mono ?_; rintro e wc ⟨rfl, hb7⟩
                    have HBc := Lib.hid (Since.call HB6.out hb7)
                    have HOc := Lib.hid (HO6.out.kept hb7)
                    have hfc : foundFrom f (up L) (jj / 2) y (ps.drop (uu + 1)) = res := by have := HC2.out; simpa using this
                    have HFc := Lib.hid hfc
                    clear hb7 HB6 HO6 HR6 HC2 hfc
                    go_wp2
                    go_loopw [15, 16] (fun v kv wr => ∃ (k3 : Nat) (z : Value), k3 ≤ (mL + 1) / 2 ∧ kv = .int .i64 (2 * k3 : Nat) ∧ z = v ∧ Hid (OwnS wr wc.heap.size z ((List.range k3).map (pairAt L))) ∧ Hid (Below wc.heap.size wc wr)) (fun _ kv _ => mL + 1 - (intOf kv).toNat)
                    case atStart => exact ⟨0, _, Nat.zero_le _, rfl, rfl, Lib.hid (ownS_nil _ _), Lib.hid (Below.refl _ _)⟩
                    case round =>
                      obtain ⟨k3, z, hk3, rfl, rfl, HO3, HB3⟩ := hrel
                      have HBt : Hid (Below w.heap.size w wr) := HBc.out.trans (HB3.out.mono HBc.out.size)
                      have hOw := HOc.out.kept HB3.out
                      by_cases h3 : 2 * k3 < mL
                      · have hps := pairs_succ L k3
                        have hplen := pairs_length L k3
                        obtain ⟨pa, hpa⟩ : ∃ pa, L.getD (2 * k3) [] = pa := ⟨_, rfl⟩
                        have hc0 := hOw.atj (2 * k3) (by omega)
                        have hpa16 := getD_16 H16.out (i := 2 * k3) (by omega)
                        rw [hpa] at hc0 hpa16
                        by_cases h4 : 2 * k3 + 1 < mL
                        · obtain ⟨pb, hpb⟩ : ∃ pb, L.getD (2 * k3 + 1) [] = pb := ⟨_, rfl⟩
                          have hc1 := hOw.atj (2 * k3 + 1) (by omega)
                          have hpb16 := getD_16 H16.out (i := 2 * k3 + 1) (by omega)
                          rw [hpb] at hc1 hpb16
                          obtain ⟨nd, hnd⟩ : ∃ nd, nodeD pa pb = nd := ⟨_, rfl⟩
                          have hpr : pairAt L k3 = nd := by unfold pairAt; rw [if_pos (by omega), hpa, hpb, hnd]
                          rw [hpr] at hps
                          have hc0d : wr.drew.cell? ⟨g, 2 * k3, none⟩ = some (.string ⟨pa.toArray⟩) := hc0
                          have hc1d : wr.drew.cell? ⟨g, 2 * k3 + 1, none⟩ = some (.string ⟨pb.toArray⟩) := hc1
                          have HPS := Lib.hid hps; have HND := Lib.hid hnd
                          clear hps hnd hpr hpa hpb hOw hc0 hc1
                          have hw1 : IntKind.i64.wrap (2 * (k3 : Int) + 1) = 2 * (k3 : Int) + 1 := by rw [IntKind.wrap_i64]; omega
                          have hw2 : 2 * (k3 : Int) < (mL : Int) := by omega
                          have hw3 : 2 * (k3 : Int) + 1 < (mL : Int) := by omega
                          have hw4 : (0 : Int) ≤ 2 * (k3 : Int) := by omega
                          have hw5 : (0 : Int) ≤ 2 * (k3 : Int) + 1 := by omega
                          have hw6 : (2 * (k3 : Int) + 1).toNat = 2 * k3 + 1 := by omega
                          have hw7 : (2 * (k3 : Int)).toNat = 2 * k3 := by omega
                          generalize (List.range k3).map (pairAt L) = PL at *
                          go_wp2_with fail
                          refine Foyer.Tail.wp_region_lead_tail 9 (by kernel_rfl) (by kernel_rfl) z (fun _ _ _ h => h) (Or.inl ⟨by rfl, fun w => by go_simp⟩) ?_
                          simp only [List.take_succ_cons, List.take_zero, List.drop_succ_cons, List.drop_zero]
                          iterate 9 still_step
                          refine wpStill_nil ?_
                          have HOd : Hid (OwnS wr.drew wc.heap.size z PL) := HO3.out
                          have HBd : Hid (Below wc.heap.size wc wr.drew) := HB3.out.drew
                          have HBtd : Hid (Below w.heap.size w wr.drew) := HBt.out.drew
                          clear HO3 HB3 HBt hc0d hc1d
                          change wpList _ _ _ _ _ wr.drew
                          generalize wr.drew = wd at *
                          go_wp2_with fail
                          refine (node_c pa pb nd HND.out (by omega) (by omega) _ (HE.out.below HBtd.out)).mono ?_; rintro e w5 ⟨rfl, hb5⟩
                          have HO5 := Lib.hid (HOd.out.kept hb5)
                          have HB5 := Lib.hid (below_trans HBd.out (Nat.le_refl _) hb5)
                          clear hb5 HOd HBd HBtd
                          go_wp2_with (at_builtin; refine wpList_append_s _ rfl _ _ rfl wc.heap.size _ PL rfl (HO5.out.alloc _) w5.heap.size 0 1 [nd] 1 rfl rfl ?c1 ?d3 ?d5 ?_)
                          case c1 =>
                            intro j hj
                            match j, hj with
                            | 0, _ => simp
                          case d3 => omega
                          case d5 => have := HB5.out.size; simp; omega
                          intro v6 w6 hown6 _ hbel6
                          have HO6 := Lib.hid hown6
                          have HB6 := Lib.hid (hbel6 _ _ (Nat.le_refl _) (HB5.out.alloc HB5.out.size _))
                          clear hown6 hbel6
                          go_wp2
                          go_roundw
                          case rel => exact ⟨k3 + 1, v6, by omega, by go_num, rfl, Lib.hid (by rw [HPS.out]; exact HO6.out), HB6⟩
                          case measure => simp [intOf]; omega
                        · have hpr : pairAt L k3 = pa := by unfold pairAt; rw [if_neg (by omega), hpa]
                          rw [hpr] at hps
                          have HPS := Lib.hid hps
                          clear hps hpr hpa hOw
                          generalize (List.range k3).map (pairAt L) = PL at *
                          go_wp2_with (at_builtin; refine wpList_append_s _ rfl _ _ rfl wc.heap.size _ PL rfl (HO3.out.alloc _) wr.heap.size 0 1 [pa] 1 rfl rfl ?c1 ?d3 ?d5 ?_)
                          case c1 =>
                            intro j hj
                            match j, hj with
                            | 0, _ => simp
                          case d3 => omega
                          case d5 => have := HB3.out.size; simp; omega
                          intro v6 w6 hown6 _ hbel6
                          have HO6 := Lib.hid hown6
                          have HB6 := Lib.hid (hbel6 _ _ (Nat.le_refl _) (HB3.out.alloc HB3.out.size _))
                          clear hown6 hbel6
                          go_wp2
                          go_roundw
                          case rel => exact ⟨k3 + 1, v6, by omega, by go_num, rfl, Lib.hid (by rw [HPS.out]; exact HO6.out), HB6⟩
                          case measure => simp [intOf]; omega
                      · obtain rfl : k3 = (mL + 1) / 2 := by omega
                        have hup : (List.range ((mL + 1) / 2)).map (pairAt L) = up L := by rw [← hLl]; exact up_pairs L
                        have ho3 := HO3.out
                        rw [hup] at ho3
                        obtain ⟨g3, c3, rfl, _, _, _, _, _⟩ := ho3.form (by rw [up_length]; omega)
                        have hul : (up L).length = (mL + 1) / 2 := by rw [up_length, hLl]
                        rw [hul] at ho3
                        have HO4 := Lib.hid (ho3.base (Nat.le_trans HBc.out.size (Nat.le_refl _)))
                        clear ho3 HO3 hup hOw
                        rw [hul]
                        go_wp2
                        go_roundw
                        case rel => exact ⟨f, jj / 2, (uu + 1), g3, (mL + 1) / 2, c3, up L, y, by go_num, rfl, rfl, by go_num, by omega, by omega, by omega, hyl, hul, HF2, Lib.hid (up_16 L H16.out), HO4, HBt, HFc⟩
                        case measure =>
                          show (mL + 1) / 2 < mL
                          omega
                  · have hr0 : res = true := by rw [← HC2.out]; rfl
                    subst hr0
                    go_wp2_with fail
                    have hOW : OwnS ((wr.alloc (.cells #[.string ⟨sNode.toArray⟩, .string ⟨x.toArray⟩, .string ⟨pp.toArray⟩] 9)).alloc (.cells #[.string ⟨sNode.toArray⟩, .string ⟨la.toArray⟩, .string ⟨lb.toArray⟩] 9)) w.heap.size (.slice (some ⟨g, 0, none⟩) mL cL) L := (HO.out.alloc _).alloc _
                    have hBW : Below w.heap.size w ((wr.alloc (.cells #[.string ⟨sNode.toArray⟩, .string ⟨x.toArray⟩, .string ⟨pp.toArray⟩] 9)).alloc (.cells #[.string ⟨sNode.toArray⟩, .string ⟨la.toArray⟩, .string ⟨lb.toArray⟩] 9)) := (Since.alloc HB.out _).alloc _
                    have hR1 := (rd_three wr sNode x pp 9).alloc (.cells #[.string ⟨sNode.toArray⟩, .string ⟨la.toArray⟩, .string ⟨lb.toArray⟩] 9)
                    have hR2 := rd_three (wr.alloc (.cells #[.string ⟨sNode.toArray⟩, .string ⟨x.toArray⟩, .string ⟨pp.toArray⟩] 9)) sNode la lb 9
                    simp only [World.size_alloc] at hR2
                    rw [show (#[110, 111, 100, 101] : Array UInt8) = sNode.toArray from rfl]
                    generalize (wr.alloc (.cells #[.string ⟨sNode.toArray⟩, .string ⟨x.toArray⟩, .string ⟨pp.toArray⟩] 9)).alloc (.cells #[.string ⟨sNode.toArray⟩, .string ⟨la.toArray⟩, .string ⟨lb.toArray⟩] 9) = W3 at *
                    have HBW := Lib.hid hBW
                    refine (collide_c [sNode, x, pp] [sNode, la, lb] true HCC.out 3 3 rfl rfl _ _ 3 3 _ hR1 hR2 (by decide) (by decide) (three_le (by decide) (by omega) hpl) (three_le (by decide) (by omega) (by omega)) (HE.out.below hBW)).mono ?_; rintro e w5 ⟨rfl, hb5⟩
                    have HB6 := Lib.hid (Since.call HBW.out hb5)
                    clear hb5
                    go_wp2
                    go_ret
                    exact ⟨rfl, HB6.out⟩
                · obtain rfl : uu = m := by omega
                  have hr0 : res = false := by
                    have := HC.out
                    rw [List.drop_of_length_le (by rw [HM.out]; exact Nat.le_refl _), foundFrom_stop hL1 hs] at this
                    exact this.symm
                  subst hr0
                  go_wp2
                  go_ret
                  exact ⟨rfl, HB.out⟩
              · have hs : ¬ sib jj < L.length := by rw [sib_even (by omega)]; omega
                have hdj : decide ((jj : Int) + 1 < (mL : Int)) = false := by simp; omega
                have hfc := HC.out
                rw [foundFrom_skip hL1 hs] at hfc
                have HFc := Lib.hid hfc
                have HBc := Lib.hid HB.out
                have HOc := Lib.hid HO.out
                clear hfc HC HB HO
                obtain ⟨wc, hwc⟩ : ∃ wc, wr = wc := ⟨_, rfl⟩
                rw [hwc] at HBc HOc ⊢
                clear hwc
                go_wp2
                clear hz
                go_loopw [15, 16] (fun v kv wr => ∃ (k3 : Nat) (z : Value), k3 ≤ (mL + 1) / 2 ∧ kv = .int .i64 (2 * k3 : Nat) ∧ z = v ∧ Hid (OwnS wr wc.heap.size z ((List.range k3).map (pairAt L))) ∧ Hid (Below wc.heap.size wc wr)) (fun _ kv _ => mL + 1 - (intOf kv).toNat)
                case atStart => exact ⟨0, _, Nat.zero_le _, rfl, rfl, Lib.hid (ownS_nil _ _), Lib.hid (Below.refl _ _)⟩
                case round =>
                  obtain ⟨k3, z, hk3, rfl, rfl, HO3, HB3⟩ := hrel
                  have HBt : Hid (Below w.heap.size w wr) := HBc.out.trans (HB3.out.mono HBc.out.size)
                  have hOw := HOc.out.kept HB3.out
                  by_cases h3 : 2 * k3 < mL
                  · have hps := pairs_succ L k3
                    have hplen := pairs_length L k3
                    obtain ⟨pa, hpa⟩ : ∃ pa, L.getD (2 * k3) [] = pa := ⟨_, rfl⟩
                    have hc0 := hOw.atj (2 * k3) (by omega)
                    have hpa16 := getD_16 H16.out (i := 2 * k3) (by omega)
                    rw [hpa] at hc0 hpa16
                    by_cases h4 : 2 * k3 + 1 < mL
                    · obtain ⟨pb, hpb⟩ : ∃ pb, L.getD (2 * k3 + 1) [] = pb := ⟨_, rfl⟩
                      have hc1 := hOw.atj (2 * k3 + 1) (by omega)
                      have hpb16 := getD_16 H16.out (i := 2 * k3 + 1) (by omega)
                      rw [hpb] at hc1 hpb16
                      obtain ⟨nd, hnd⟩ : ∃ nd, nodeD pa pb = nd := ⟨_, rfl⟩
                      have hpr : pairAt L k3 = nd := by unfold pairAt; rw [if_pos (by omega), hpa, hpb, hnd]
                      rw [hpr] at hps
                      have hc0d : wr.drew.cell? ⟨g, 2 * k3, none⟩ = some (.string ⟨pa.toArray⟩) := hc0
                      have hc1d : wr.drew.cell? ⟨g, 2 * k3 + 1, none⟩ = some (.string ⟨pb.toArray⟩) := hc1
                      have HPS := Lib.hid hps; have HND := Lib.hid hnd
                      clear hps hnd hpr hpa hpb hOw hc0 hc1
                      have hw1 : IntKind.i64.wrap (2 * (k3 : Int) + 1) = 2 * (k3 : Int) + 1 := by rw [IntKind.wrap_i64]; omega
                      have hw2 : 2 * (k3 : Int) < (mL : Int) := by omega
                      have hw3 : 2 * (k3 : Int) + 1 < (mL : Int) := by omega
                      have hw4 : (0 : Int) ≤ 2 * (k3 : Int) := by omega
                      have hw5 : (0 : Int) ≤ 2 * (k3 : Int) + 1 := by omega
                      have hw6 : (2 * (k3 : Int) + 1).toNat = 2 * k3 + 1 := by omega
                      have hw7 : (2 * (k3 : Int)).toNat = 2 * k3 := by omega
                      generalize (List.range k3).map (pairAt L) = PL at *
                      go_wp2_with fail
                      refine Foyer.Tail.wp_region_lead_tail 9 (by kernel_rfl) (by kernel_rfl) z (fun _ _ _ h => h) (Or.inl ⟨by rfl, fun w => by go_simp⟩) ?_
                      simp only [List.take_succ_cons, List.take_zero, List.drop_succ_cons, List.drop_zero]
                      iterate 9 still_step
                      refine wpStill_nil ?_
                      have HOd : Hid (OwnS wr.drew wc.heap.size z PL) := HO3.out
                      have HBd : Hid (Below wc.heap.size wc wr.drew) := HB3.out.drew
                      have HBtd : Hid (Below w.heap.size w wr.drew) := HBt.out.drew
                      clear HO3 HB3 HBt hc0d hc1d
                      change wpList _ _ _ _ _ wr.drew
                      generalize wr.drew = wd at *
                      go_wp2_with fail
                      refine (node_c pa pb nd HND.out (by omega) (by omega) _ (HE.out.below HBtd.out)).mono ?_; rintro e w5 ⟨rfl, hb5⟩
                      have HO5 := Lib.hid (HOd.out.kept hb5)
                      have HB5 := Lib.hid (below_trans HBd.out (Nat.le_refl _) hb5)
                      clear hb5 HOd HBd HBtd
                      go_wp2_with (at_builtin; refine wpList_append_s _ rfl _ _ rfl wc.heap.size _ PL rfl (HO5.out.alloc _) w5.heap.size 0 1 [nd] 1 rfl rfl ?c1 ?d3 ?d5 ?_)
                      case c1 =>
                        intro j hj
                        match j, hj with
                        | 0, _ => simp
                      case d3 => omega
                      case d5 => have := HB5.out.size; simp; omega
                      intro v6 w6 hown6 _ hbel6
                      have HO6 := Lib.hid hown6
                      have HB6 := Lib.hid (hbel6 _ _ (Nat.le_refl _) (HB5.out.alloc HB5.out.size _))
                      clear hown6 hbel6
                      go_wp2
                      go_roundw
                      case rel => exact ⟨k3 + 1, v6, by omega, by go_num, rfl, Lib.hid (by rw [HPS.out]; exact HO6.out), HB6⟩
                      case measure => simp [intOf]; omega
                    · have hpr : pairAt L k3 = pa := by unfold pairAt; rw [if_neg (by omega), hpa]
                      rw [hpr] at hps
                      have HPS := Lib.hid hps
                      clear hps hpr hpa hOw
                      generalize (List.range k3).map (pairAt L) = PL at *
                      go_wp2_with (at_builtin; refine wpList_append_s _ rfl _ _ rfl wc.heap.size _ PL rfl (HO3.out.alloc _) wr.heap.size 0 1 [pa] 1 rfl rfl ?c1 ?d3 ?d5 ?_)
                      case c1 =>
                        intro j hj
                        match j, hj with
                        | 0, _ => simp
                      case d3 => omega
                      case d5 => have := HB3.out.size; simp; omega
                      intro v6 w6 hown6 _ hbel6
                      have HO6 := Lib.hid hown6
                      have HB6 := Lib.hid (hbel6 _ _ (Nat.le_refl _) (HB3.out.alloc HB3.out.size _))
                      clear hown6 hbel6
                      go_wp2
                      go_roundw
                      case rel => exact ⟨k3 + 1, v6, by omega, by go_num, rfl, Lib.hid (by rw [HPS.out]; exact HO6.out), HB6⟩
                      case measure => simp [intOf]; omega
                  · obtain rfl : k3 = (mL + 1) / 2 := by omega
                    have hup : (List.range ((mL + 1) / 2)).map (pairAt L) = up L := by rw [← hLl]; exact up_pairs L
                    have ho3 := HO3.out
                    rw [hup] at ho3
                    obtain ⟨g3, c3, rfl, _, _, _, _, _⟩ := ho3.form (by rw [up_length]; omega)
                    have hul : (up L).length = (mL + 1) / 2 := by rw [up_length, hLl]
                    rw [hul] at ho3
                    have HO4 := Lib.hid (ho3.base (Nat.le_trans HBc.out.size (Nat.le_refl _)))
                    clear ho3 HO3 hup hOw
                    rw [hul]
                    go_wp2
                    go_roundw
                    case rel => exact ⟨f, jj / 2, uu, g3, (mL + 1) / 2, c3, up L, x, by go_num, rfl, rfl, rfl, hum, by omega, by omega, hxl, hul, HF2, Lib.hid (up_16 L H16.out), HO4, HBt, HFc⟩
                    case measure =>
                      show (mL + 1) / 2 < mL
                      omega
          · have hr0 : res = false := by rw [← HC.out]; exact foundFrom_small (by omega) f
            subst hr0
            go_wp2
            go_ret
            exact ⟨rfl, HB.out⟩
  · have hr0 : r = true := by rw [← hr2]; rfl
    subst hr0
    clear hr2
    go_enter Tryd.func18, Tryd.ntmps18
    go_wp2_with fail
    have HS := Lib.hid ((HS.out.alloc (.cells #[.string ⟨sLeaf.toArray⟩, .string ⟨t.toArray⟩] 9)).alloc (.cells #[.string ⟨sLeaf.toArray⟩, .string ⟨li.toArray⟩] 9))
    refine (collide_c [sLeaf, t] [sLeaf, li] true HCB.out 2 2 rfl rfl _ _ 2 2 _ ((rd_two w sLeaf t 9).alloc _) (by have := rd_two (w.alloc (.cells #[.string ⟨sLeaf.toArray⟩, .string ⟨t.toArray⟩] 9)) sLeaf li 9; simpa using this) (by decide) (by decide) (two_le (by decide) HT.out) (two_le (by decide) HLI.out) (HE.out.below HS.out)).mono ?_; rintro e w1 ⟨rfl, hb1⟩
    have HS := Lib.hid (HS.out.call hb1); clear hb1
    go_wp2
    go_ret
    exact ⟨rfl, HS.out⟩
end Go.Proofs.YtkjgdgocjnocaaaDoor
