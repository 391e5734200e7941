/-
  The document's own Public, Sign and Verify.
-/
import Derived.Test.YtimiminkeencgaaDoorWalkOwn
import Derived.Test.YtimiminkeencgaaDoorTail
namespace Go.Proofs.YtimiminkeencgaaDoor
open Go.RowKit Go.Sort Foyer.Digest Foyer.Sign

set_option maxRecDepth 100000 in
set_option maxHeartbeats 1000000 in
theorem qpublic_c (s : List UInt8) (hs : s.length ≤ 1000) (m : List UInt8) (h : pub s = m) (w : World) :
    Calls Tryd.prog 12 #[.string ⟨s.toArray⟩] w fun e w' => e = .returned (.string ⟨m.toArray⟩) ∧ Below w.heap.size w w' := by
  have HSL := Lib.hid hs; have HM := Lib.hid h; clear hs h
  go_enter Tryd.func12, Tryd.ntmps12
  go_wp2
  go_loopw [3, 4] (fun v i wr => ∃ (k : Nat) (z : Value), k ≤ 18 ∧ i = .int .i64 k ∧ z = v ∧ Hid (OwnS wr w.heap.size z ((List.range k).map (endAt s))) ∧ Hid (Below w.heap.size w wr)) (fun _ i _ => 18 - (intOf i).toNat)
  case atStart => exact ⟨0, _, Nat.zero_le _, rfl, rfl, Lib.hid (ownS_nil _ _), Lib.hid (Below.refl _ _)⟩
  case round =>
    obtain ⟨k, z, hk, rfl, rfl, HO, HB⟩ := hrel
    by_cases hlt : k < 18
    · obtain ⟨st, hst⟩ : ∃ st, startOf s k = st := ⟨_, rfl⟩
      have hch : chain st 15 = endAt s k := by rw [← hst]; rfl
      have hsl : st.length = 16 := by rw [← hst]; exact isDigest_length (startOf_isDigest s k)
      have hsn := range_snoc (endAt s) k
      have hll := rangeMap_length (endAt s) k
      generalize endAt s k = r at *
      generalize (List.range k).map (endAt s) = L at *
      have HST := Lib.hid hst; have HCH := Lib.hid hch; have HSN := Lib.hid hsn; have HST16 := Lib.hid hsl
      clear hst hch hsn hsl
      go_wp2_with fail
      refine (qstart_any s k (by omega) HSL.out st HST.out _).mono ?_; rintro e w1 ⟨rfl, hb1⟩
      have HO1 := Lib.hid (HO.out.kept hb1)
      have HB1 := Lib.hid (below_trans HB.out (Nat.le_refl _) hb1)
      clear hb1
      go_wp2_with fail
      refine (rchain_c st r _ 15 rfl (by omega) HCH.out (by have := HST16.out; omega) _).mono ?_; rintro e w2 ⟨rfl, rfl⟩
      go_wp2_with (at_builtin; refine wpList_append_s _ rfl _ _ rfl w.heap.size _ _ rfl (HO1.out.alloc _) w1.heap.size 0 1 [r] 1 rfl rfl ?c1 ?d3 ?d5 ?_)
      case c1 =>
        intro j hj
        match j, hj with
        | 0, _ => simp
      case d3 => omega
      case d5 => have := HB1.out.size; simp; omega
      intro v2 w2 hown2 hsz2 hbel2
      have HO2 := Lib.hid hown2
      have HB2 := Lib.hid (hbel2 _ _ (Nat.le_refl _) (HB1.out.alloc HB1.out.size _))
      clear hown2 hsz2 hbel2
      go_wp2
      go_roundw
      case rel => exact ⟨k + 1, v2, by omega, by go_num, rfl, Lib.hid (by rw [HSN.out]; exact HO2.out), HB2⟩
      case measure => simp [intOf]; omega
    · obtain rfl : k = 18 := by omega
      obtain ⟨p, c, hz, hr, _⟩ := HO.out.slice
      rw [rangeMap_length] at hz
      subst hz
      have HR := Lib.hid hr
      have hel : ∀ t ∈ endsOf s, t.length ≤ 1000000 := fun t ht => by
        unfold endsOf at ht
        obtain ⟨i, _, rfl⟩ := List.mem_map.1 ht
        rw [endAt_length]; omega
      have HEL := Lib.hid hel
      clear hr hel HO
      go_wp2_with fail
      refine (rlist_c (endsOf s) m 18 (by unfold endsOf; simp) HM.out _ _ _ HR.out (by decide) HEL.out).mono ?_; rintro e w3 ⟨rfl, hb3⟩
      have HB3 := Lib.hid (below_trans HB.out (Nat.le_refl _) hb3)
      clear hb3
      go_wp2
      go_ret
      exact ⟨rfl, HB3.out⟩

set_option linter.unusedSimpArgs false in
set_option maxRecDepth 100000 in
set_option maxHeartbeats 1000000 in
theorem qsign_any (s m : List UInt8) (hs : s.length ≤ 1000) (hm : m.length ≤ 1000000) (w : World) :
    Calls Tryd.prog 15 #[.string ⟨s.toArray⟩, .string ⟨m.toArray⟩] w fun e w' => ∃ v, e = .returned v ∧ OwnS w' w.heap.size v (sigOf s m) ∧ Below w.heap.size w w' := by
  have HSL := Lib.hid hs; have HML := Lib.hid hm
  obtain ⟨S, hS⟩ : ∃ S, sum m = S := ⟨_, rfl⟩
  have hS16 : S.length = 16 := by rw [← hS]; exact (sum_hex m).2
  have hSall : ∀ _ : Unit, S.all isHex = true := fun _ => by rw [← hS]; exact (sum_hex m).1
  have hDG : ∀ k, (digits S).getD k 0 = digitAt m k := fun k => by rw [← hS]; rfl
  have hDL : (digits S).length = 18 := by rw [← hS]; exact digits_length m
  have HS := Lib.hid hS; have HS16 := Lib.hid hS16; have HSA := Lib.hid hSall; have HDG := Lib.hid hDG; have HDL := Lib.hid hDL
  clear hm hs hS hS16 hSall hDG hDL
  go_enter Tryd.func15, Tryd.ntmps15
  go_wp2_with fail
  refine (rsum_c m S HS.out (by have := HML.out; omega) _).mono ?_; rintro e w1 ⟨rfl, rfl⟩
  go_wp2_with fail
  refine (qdigits_any S HS16.out (HSA.out ()) _).mono ?_; rintro e w1 ⟨pd, capd, rfl, hrd, hb1⟩
  obtain ⟨bd, rfl, hbd, hcd⟩ := hrd
  have HCD : Hid (∀ k, k < 18 → w1.cell? ⟨bd, k, none⟩ = some (.int .i64 (digitAt m k : Nat))) := fun k hk => by
    rw [hcd k (by rw [HDL.out]; exact hk), HDG.out]
  have HBD := Lib.hid hbd; have HB1 := Lib.hid hb1
  clear hcd hbd hb1
  go_wp2
  go_loopw [6, 7] (fun v i wr => ∃ (k : Nat) (z : Value), k ≤ 18 ∧ i = .int .i64 k ∧ z = v ∧ Hid (OwnS wr w1.heap.size z ((List.range k).map (sigAt s m))) ∧ Hid (Below w1.heap.size w1 wr)) (fun _ i _ => 18 - (intOf i).toNat)
  case atStart => exact ⟨0, _, Nat.zero_le _, rfl, rfl, Lib.hid (ownS_nil _ _), Lib.hid (Below.refl _ _)⟩
  case round =>
    obtain ⟨k, z, hk, rfl, rfl, HO, HB⟩ := hrel
    by_cases hlt : k < 18
    · have hcb : wr.drew.cell? ⟨bd, k, none⟩ = some (.int .i64 (digitAt m k : Nat)) := by
        show wr.cell? _ = _
        rw [HB.out.cell HBD.out]; exact HCD.out k hlt
      have hdl := digitAt_le m k
      obtain ⟨st, hst⟩ : ∃ st, startOf s k = st := ⟨_, rfl⟩
      have hch : chain st (digitAt m k) = sigAt s m k := by rw [← hst]; rfl
      have hsl : st.length = 16 := by rw [← hst]; exact isDigest_length (startOf_isDigest s k)
      have hsn := range_snoc (sigAt s m) k
      have hll := rangeMap_length (sigAt s m) k
      generalize sigAt s m k = r at *
      generalize (List.range k).map (sigAt s m) = L at *
      generalize digitAt m k = d at *
      have HST := Lib.hid hst; have HCH := Lib.hid hch; have HSN := Lib.hid hsn; have HST16 := Lib.hid hsl
      clear hst hch hsn hsl
      have hii : ((k : Nat) : Int) < 18 := by omega
      have HDLN : Hid ((digits S).length = 18) := HDL.out
      go_wp2_with fail
      refine wp_region_any (by kernel_rfl) ?_
      change wpAny _ _ _ _ _ _ _ (World.drew _)
      refine wpAny_take (i := 0) (v := z) rfl (by kernel_rfl) (by kernel_rfl) (by kernel_rfl) (fun _ _ _ h => h) (Or.inl ⟨by kernel_rfl, fun w => by go_simp⟩) ?_
      simp only [Act.put, List.setIfInBounds_toArray, List.set_cons_zero, List.set_cons_succ]
      refine wpAny_take (i := 1) (v := .string ⟨s.toArray⟩) rfl (by kernel_rfl) (by kernel_rfl) (by kernel_rfl) (fun _ _ _ h => h) (Or.inl ⟨by kernel_rfl, fun w => by go_simp⟩) ?_
      simp only [Act.put, List.setIfInBounds_toArray, List.set_cons_zero, List.set_cons_succ]
      refine wpAny_take (i := 2) (v := .int .i64 k) rfl (by kernel_rfl) (by kernel_rfl) (by kernel_rfl) (fun _ _ _ h => h) (Or.inl ⟨by kernel_rfl, fun w => by go_simp⟩) ?_
      simp only [Act.put, List.setIfInBounds_toArray, List.set_cons_zero, List.set_cons_succ]
      refine wpAny_take (i := 4) (v := .slice (some ⟨bd, 0, none⟩) 18 capd) rfl (by kernel_rfl) (by kernel_rfl) (by kernel_rfl) (fun _ _ _ h => h) (Or.inl ⟨by kernel_rfl, fun w => by go_simp⟩) ?_
      simp only [Act.put, List.setIfInBounds_toArray, List.set_cons_zero, List.set_cons_succ]
      refine wpAny_take (i := 5) (v := .int .i64 k) rfl (by kernel_rfl) (by kernel_rfl) (by kernel_rfl) (fun _ _ _ h => h) (Or.inl ⟨by kernel_rfl, fun w => by go_simp⟩) ?_
      simp only [Act.put, List.setIfInBounds_toArray, List.set_cons_zero, List.set_cons_succ]
      refine wpAny_take (i := 6) (v := .pointer (some ⟨bd, k, none⟩)) rfl (by kernel_rfl) (by kernel_rfl) (by kernel_rfl) (fun _ _ _ h => h) (Or.inl ⟨by kernel_rfl, fun w => by go_simp⟩) ?_
      simp only [Act.put, List.setIfInBounds_toArray, List.set_cons_zero, List.set_cons_succ]
      apply Foyer.Tail.two_orders (fun w' => w'.cell? ⟨bd, k, none⟩ = some (.int .i64 (d : Nat))) (i := 3) (j := 7) (v := .int .i64 (d : Nat))
      case hi => exact rfl
      case hj => exact rfl
      case hsel => kernel_rfl
      case hr => kernel_rfl
      case hij => decide
      case hri => kernel_rfl
      case hrj => kernel_rfl
      case hf => kernel_rfl
      case hQ => exact fun _ _ _ h => h
      case hS => exact hcb
      case hy => exact Or.inl ⟨by kernel_rfl, fun w (hS : w.cell? ⟨bd, k, none⟩ = some (.int .i64 (d : Nat))) => by go_simp⟩
      intro K hK
      simp only [Act.put, List.setIfInBounds_toArray, List.set_cons_zero, List.set_cons_succ]
      go_simp
      refine (qstart_any s k (by omega) HSL.out st HST.out _).mono ?_; rintro e wc ⟨rfl, hb2⟩
      have hcc : wc.cell? ⟨bd, k, none⟩ = some (.int .i64 (d : Nat)) := by rw [hb2.cell (lt_of_cell hcb)]; exact hcb
      refine hK _ _ hcc ?_
      refine Foyer.Tail.any_of_path [8, 9, 10, 11] _ _ _ (by kernel_rfl) (by kernel_rfl) ?_
      simp only [List.filterMap_cons, List.filterMap_nil, List.getElem?_toArray, List.getElem?_cons_succ, List.getElem?_cons_zero, Act.put, List.setIfInBounds_toArray, List.set_cons_zero, List.set_cons_succ]
      clear hK K
      have hod : OwnS wr.drew w1.heap.size z L := HO.out
      have HO1 := Lib.hid (hod.kept hb2)
      have HB2 := Lib.hid (below_trans HB.out.drew (Nat.le_refl _) hb2)
      clear hod hb2 hcb hcc HO HB
      go_wp2_with fail
      refine (rchain_c st r _ d (by omega) (by omega) HCH.out (by have := HST16.out; omega) _).mono ?_; rintro e w2 ⟨rfl, rfl⟩
      dsimp only
      rename_i KK hKK
      refine hKK _ _ ?_
      clear hKK KK
      refine wpList_plain rfl fun K hK => ?_
      go_simp
      refine hK _ _ ?_
      clear hK K
      refine wpList_append_s _ rfl (.tmp 15) (.tmp 24) rfl w1.heap.size z L (by kernel_rfl) (HO1.out.alloc _) wc.heap.size 0 1 [r] 1 rfl (by kernel_rfl) ?c1 ?d3 ?d5 ?_
      case c1 =>
        intro j hj
        match j, hj with
        | 0, _ => simp
      case d3 => omega
      case d5 => have := HB2.out.size; simp; omega
      intro v2 w2 hown2 hsz2 hbel2
      have HO2 := Lib.hid hown2
      have HB3 := Lib.hid (hbel2 _ _ (Nat.le_refl _) (HB2.out.alloc HB2.out.size _))
      clear hown2 hsz2 hbel2
      go_wp2
      go_roundw
      case rel => exact ⟨k + 1, v2, by omega, by go_num, rfl, Lib.hid (by rw [HSN.out]; exact HO2.out), HB3⟩
      case measure => simp [intOf]; omega
    · obtain rfl : k = 18 := by omega
      go_wp2
      go_ret
      exact ⟨_, rfl, HO.out.base HB1.out.size, HB1.out.trans (HB.out.mono HB1.out.size)⟩
end Go.Proofs.YtimiminkeencgaaDoor
