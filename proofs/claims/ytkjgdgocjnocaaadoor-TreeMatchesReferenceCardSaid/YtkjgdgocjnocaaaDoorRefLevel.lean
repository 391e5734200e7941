/-
  The document's own levels.
-/
import Derived.Test.YtkjgdgocjnocaaaDoorRefNode
import Derived.Test.YtkjgdgocjnocaaaDoorWalkAbove
import Derived.Test.YtkjgdgocjnocaaaDoorOwnStrs
import Derived.Test.YtkjgdgocjnocaaaDoorTail
import Derived.StillTailTactics
namespace Go.Proofs.YtkjgdgocjnocaaaDoor
open Go.RowKit Go.Sort Foyer.Digest Foyer.Tree

theorem RdS.cellj {w : World} {p : Option Addr} {ls : List (List UInt8)} (h : RdS w p ls) {j : Nat} (hj : j < ls.length) : ∃ b off, p = some ⟨b, off, none⟩ ∧ w.cell? ⟨b, off + j, none⟩ = some (.string ⟨(ls.getD j []).toArray⟩) := by
  rcases h with rfl | ⟨b, off, rfl, _, hc⟩
  · simp at hj
  · exact ⟨b, off, rfl, hc j hj⟩
theorem pairs_next (L : List (List UInt8)) (k : Nat) : (List.range (k + 1)).map (pairAt L) = (List.range k).map (pairAt L) ++ [pairAt L k] := by rw [List.range_succ, List.map_append]; rfl
theorem pairs_len (L : List (List UInt8)) (k : Nat) : ((List.range k).map (pairAt L)).length = k := by simp

set_option linter.unusedSimpArgs false in
set_option maxRecDepth 100000 in
set_option maxHeartbeats 1000000 in
theorem rleaves_any (l : List (List UInt8)) (p : Option Addr) (n c1 : Nat) (w : World) (hr : RdS w p l) (hn : l.length = n) (hl : n ≤ 1000) (htl : ∀ x ∈ l, x.length ≤ 1000000) :
    Calls Tryd.prog 24 #[.slice p n c1] w fun e w' => ∃ v, e = .returned v ∧ OwnS w' w.heap.size v (leaves l) ∧ Below w.heap.size w w' := by
  have HR := Lib.hid hr; have HTL := Lib.hid htl; have HN := Lib.hid hn
  clear hr htl hn
  go_enter Tryd.func24, Tryd.ntmps24
  go_wp2
  go_loopw [3, 4] (fun v k wr => ∃ (kk : Nat) (z : Value), kk ≤ n ∧ k = .int .i64 kk ∧ z = v ∧ Hid (OwnS wr w.heap.size z ((leaves l).take kk)) ∧ Hid (Below w.heap.size w wr)) (fun _ k _ => n - (intOf k).toNat)
  case atStart => exact ⟨0, _, Nat.zero_le _, rfl, rfl, Lib.hid (by rw [List.take_zero]; exact ownS_nil _ _), Lib.hid (Below.refl _ _)⟩
  case round =>
    obtain ⟨kk, z, hk, rfl, rfl, HO, HB⟩ := hrel
    by_cases hlt : kk < n
    · obtain ⟨bp, op, rfl, hxk⟩ := (HR.out.below (Nat.le_refl _) HB.out).cellj (j := kk) (by rw [HN.out]; exact hlt)
      have hxl : (l.getD kk []).length ≤ 1000000 := HTL.out _ (getD_mem (by rw [HN.out]; exact hlt))
      have hlv := leaves_getD l kk (by rw [HN.out]; exact hlt)
      have htk : (leaves l).take (kk + 1) = (leaves l).take kk ++ [leafD (l.getD kk [])] := by
        rw [List.take_succ_eq_append_getElem (by rw [leaves_length, HN.out]; exact hlt), ← hlv]
        simp [List.getD_eq_getElem?_getD, leaves_length, HN.out, hlt]
      obtain ⟨y, hy⟩ : ∃ y, leafD (l.getD kk []) = y := ⟨_, rfl⟩
      rw [hy] at htk
      generalize l.getD kk [] = x at *
      have htl2 : ((leaves l).take kk).length = kk := by rw [List.length_take, leaves_length, HN.out]; omega
      generalize (leaves l).take kk = T at *
      have HTK := Lib.hid htk; have HY := Lib.hid hy; have HX := Lib.hid hxl
      clear htk hy hxl hlv
      go_wp2_with fail
      refine (rleaf_c x y HY.out HX.out _).mono ?_; rintro e w2 ⟨rfl, hb2⟩
      have HB2 := Lib.hid (below_trans HB.out (Nat.le_refl _) hb2)
      have HO2 := Lib.hid (HO.out.kept hb2)
      clear hb2
      go_wp2_with (at_builtin; refine wpList_append_s _ rfl _ _ rfl w.heap.size _ T rfl (HO2.out.alloc _) w2.heap.size 0 1 [y] 1 rfl rfl ?c1 ?d3 ?d5 ?_)
      case c1 =>
        intro j hj
        match j, hj with
        | 0, _ => simp
      case d3 => omega
      case d5 => have := HB2.out.size; simp; omega
      intro v3 w3 hown3 _ hbel3
      have HO3 := Lib.hid hown3
      have HB3 := Lib.hid (hbel3 _ _ (Nat.le_refl _) (HB2.out.alloc HB2.out.size _))
      clear hown3 hbel3
      go_wp2
      go_roundw
      case rel => exact ⟨kk + 1, v3, by omega, by go_num, rfl, Lib.hid (by rw [HTK.out]; exact HO3.out), HB3⟩
      case measure => simp [intOf]; omega
    · obtain rfl : kk = n := by omega
      have hOL : OwnS wr w.heap.size z (leaves l) := by
        have := HO.out
        rwa [List.take_of_length_le (by rw [leaves_length, HN.out]; exact Nat.le_refl _)] at this
      go_wp2
      go_ret
      exact ⟨_, rfl, hOL, HB.out⟩

set_option linter.unusedSimpArgs false in
set_option maxRecDepth 100000 in
set_option maxHeartbeats 1000000 in
theorem rup_any (L : List (List UInt8)) (g mL cL : Nat) (w : World) (hr : RdS w (some ⟨g, 0, none⟩) L) (hLl : L.length = mL) (hmk : mL ≤ 1000) (h16 : ∀ t ∈ L, t.length = 16) :
    Calls Tryd.prog 25 #[.slice (some ⟨g, 0, none⟩) mL cL] w fun e w' => ∃ v, e = .returned v ∧ OwnS w' w.heap.size v (up L) ∧ Below w.heap.size w w' := by
  have HR := Lib.hid hr; have H16 := Lib.hid h16
  clear hr h16
  go_enter Tryd.func25, Tryd.ntmps25
  go_wp2
  go_loopw [3, 4] (fun v kv wr => ∃ (k3 : Nat) (z : Value), k3 ≤ (mL + 1) / 2 ∧ kv = .int .i64 (2 * k3 : Nat) ∧ z = v ∧ Hid (OwnS wr w.heap.size z ((List.range k3).map (pairAt L))) ∧ Hid (Below w.heap.size w wr)) (fun _ kv _ => mL + 1 - (intOf kv).toNat)
  case atStart => exact ⟨0, _, Nat.zero_le _, rfl, rfl, Lib.hid (ownS_nil _ _), Lib.hid (Below.refl _ _)⟩
  case round =>
    obtain ⟨k3, z, hk3, rfl, rfl, HO3, HB3⟩ := hrel
    have hOw := HR.out.below (Nat.le_refl _) HB3.out
    by_cases h3 : 2 * k3 < mL
    · have hps := pairs_next L k3
      have hplen := pairs_len L k3
      obtain ⟨pa, hpa⟩ : ∃ pa, L.getD (2 * k3) [] = pa := ⟨_, rfl⟩
      have hc0 := rdS_at' hOw (2 * k3) (by omega)
      rw [Nat.zero_add] at hc0
      have hpa16 : (L.getD (2 * k3) []).length = 16 := H16.out _ (getD_mem (by omega))
      rw [hpa] at hc0 hpa16
      by_cases h4 : 2 * k3 + 1 < mL
      · obtain ⟨pb, hpb⟩ : ∃ pb, L.getD (2 * k3 + 1) [] = pb := ⟨_, rfl⟩
        have hc1 := rdS_at' hOw (2 * k3 + 1) (by omega)
        rw [Nat.zero_add] at hc1
        have hpb16 : (L.getD (2 * k3 + 1) []).length = 16 := H16.out _ (getD_mem (by omega))
        rw [hpb] at hc1 hpb16
        obtain ⟨nd, hnd⟩ : ∃ nd, nodeD pa pb = nd := ⟨_, rfl⟩
        have hpr : pairAt L k3 = nd := by unfold pairAt; rw [if_pos (by omega), hpa, hpb, hnd]
        rw [hpr] at hps
        have hc0d : wr.drew.cell? ⟨g, 2 * k3, none⟩ = some (.string ⟨pa.toArray⟩) := hc0
        have hc1d : wr.drew.cell? ⟨g, 2 * k3 + 1, none⟩ = some (.string ⟨pb.toArray⟩) := hc1
        have HPS := Lib.hid hps; have HND := Lib.hid hnd
        clear hps hnd hpr hpa hpb hOw hc0 hc1
        have hw1 : IntKind.i64.wrap (2 * (k3 : Int) + 1) = 2 * (k3 : Int) + 1 := by rw [IntKind.wrap_i64]; omega
        have hw2 : 2 * (k3 : Int) < (mL : Int) := by omega
        have hw3 : 2 * (k3 : Int) + 1 < (mL : Int) := by omega
        have hw4 : (0 : Int) ≤ 2 * (k3 : Int) := by omega
        have hw5 : (0 : Int) ≤ 2 * (k3 : Int) + 1 := by omega
        have hw6 : (2 * (k3 : Int) + 1).toNat = 2 * k3 + 1 := by omega
        have hw7 : (2 * (k3 : Int)).toNat = 2 * k3 := by omega
        generalize (List.range k3).map (pairAt L) = PL at *
        go_wp2_with fail
        refine Foyer.Tail.wp_region_lead_tail 9 (by kernel_rfl) (by kernel_rfl) z (fun _ _ _ h => h) (Or.inl ⟨by rfl, fun w => by go_simp⟩) ?_
        simp only [List.take_succ_cons, List.take_zero, List.drop_succ_cons, List.drop_zero]
        iterate 9 still_step
        refine wpStill_nil ?_
        have HOd : Hid (OwnS wr.drew w.heap.size z PL) := HO3.out
        have HBd : Hid (Below w.heap.size w wr.drew) := HB3.out.drew
        clear HO3 HB3 hc0d hc1d
        change wpList _ _ _ _ _ wr.drew
        generalize wr.drew = wd at *
        go_wp2_with fail
        refine (rnode_c pa pb nd HND.out (by omega) (by omega) _).mono ?_; rintro e w5 ⟨rfl, hb5⟩
        have HO5 := Lib.hid (HOd.out.kept hb5)
        have HB5 := Lib.hid (below_trans HBd.out (Nat.le_refl _) hb5)
        clear hb5 HOd HBd
        go_wp2_with (at_builtin; refine wpList_append_s _ rfl _ _ rfl w.heap.size _ PL rfl (HO5.out.alloc _) w5.heap.size 0 1 [nd] 1 rfl rfl ?c1 ?d3 ?d5 ?_)
        case c1 =>
          intro j hj
          match j, hj with
          | 0, _ => simp
        case d3 => omega
        case d5 => have := HB5.out.size; simp; omega
        intro v6 w6 hown6 _ hbel6
        have HO6 := Lib.hid hown6
        have HB6 := Lib.hid (hbel6 _ _ (Nat.le_refl _) (HB5.out.alloc HB5.out.size _))
        clear hown6 hbel6
        go_wp2
        go_roundw
        case rel => exact ⟨k3 + 1, v6, by omega, by go_num, rfl, Lib.hid (by rw [HPS.out]; exact HO6.out), HB6⟩
        case measure => simp [intOf]; omega
      · have hpr : pairAt L k3 = pa := by unfold pairAt; rw [if_neg (by omega), hpa]
        rw [hpr] at hps
        have HPS := Lib.hid hps
        clear hps hpr hpa hOw
        generalize (List.range k3).map (pairAt L) = PL at *
        go_wp2_with (at_builtin; refine wpList_append_s _ rfl _ _ rfl w.heap.size _ PL rfl (HO3.out.alloc _) wr.heap.size 0 1 [pa] 1 rfl rfl ?c1 ?d3 ?d5 ?_)
        case c1 =>
          intro j hj
          match j, hj with
          | 0, _ => simp
        case d3 => omega
        case d5 => have := HB3.out.size; simp; omega
        intro v6 w6 hown6 _ hbel6
        have HO6 := Lib.hid hown6
        have HB6 := Lib.hid (hbel6 _ _ (Nat.le_refl _) (HB3.out.alloc HB3.out.size _))
        clear hown6 hbel6
        go_wp2
        go_roundw
        case rel => exact ⟨k3 + 1, v6, by omega, by go_num, rfl, Lib.hid (by rw [HPS.out]; exact HO6.out), HB6⟩
        case measure => simp [intOf]; omega
    · obtain rfl : k3 = (mL + 1) / 2 := by omega
      have hup : (List.range ((mL + 1) / 2)).map (pairAt L) = up L := by rw [← hLl]; exact up_pairs L
      have ho3 := HO3.out
      rw [hup] at ho3
      clear hup hOw HO3
      go_wp2
      go_ret
      exact ⟨_, rfl, ho3, HB3.out⟩
end Go.Proofs.YtkjgdgocjnocaaaDoor
