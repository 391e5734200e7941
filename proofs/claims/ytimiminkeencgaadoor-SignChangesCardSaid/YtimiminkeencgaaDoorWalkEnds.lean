/-
  The law's own ends of a signature; its test for two texts with one digest.
-/
import Derived.Test.YtimiminkeencgaaDoorWalkOwn
import Derived.Test.YtimiminkeencgaaDoorTail
namespace Go.Proofs.YtimiminkeencgaaDoor
open Go.RowKit Go.Sort Foyer.Digest Foyer.Sign

set_option maxRecDepth 100000 in
set_option maxHeartbeats 400000 in
theorem ends_any (m : List UInt8) (ls : List (List UInt8)) (p : Option Addr) (cap : Nat) (hm : m.length ≤ 1000000) (hlen : ls.length = 18) (ht : ∀ t ∈ ls, t.length ≤ 1000000) (w : World) (hr : RdS w p ls) :
    Calls Tryd.prog 21 #[.string ⟨m.toArray⟩, .slice p 18 cap] w fun e w' => ∃ v, e = .returned v ∧ OwnS w' w.heap.size v (leads m ls) ∧ Below w.heap.size w w' := by
  have HML := Lib.hid hm; have HQ := Lib.hid hr
  have HTL : Hid (∀ k, k < 18 → (ls.getD k []).length ≤ 1000000) := fun k hk => by
    rw [List.getD_eq_getElem?_getD, List.getElem?_eq_getElem (by omega)]; exact ht _ (List.getElem_mem _)
  have HLN : Hid (18 ≤ ls.length) := by show _ ≤ _; omega
  obtain ⟨S, hS⟩ : ∃ S, sum m = S := ⟨_, rfl⟩
  have hS16 : S.length = 16 := by rw [← hS]; exact (sum_hex m).2
  have hSall : ∀ _ : Unit, S.all isHex = true := fun _ => by rw [← hS]; exact (sum_hex m).1
  have hDG : ∀ k, (digits S).getD k 0 = digitAt m k := fun k => by rw [← hS]; rfl
  have hDL : (digits S).length = 18 := by rw [← hS]; exact digits_length m
  have HS := Lib.hid hS; have HS16 := Lib.hid hS16; have HSA := Lib.hid hSall; have HDG := Lib.hid hDG; have HDL := Lib.hid hDL
  clear hm hr ht hlen hS hS16 hSall hDG hDL
  go_enter Tryd.func21, Tryd.ntmps21
  go_wp2_with fail
  refine (rsum_c m S HS.out (by have := HML.out; omega) _).mono ?_; rintro e w1 ⟨rfl, rfl⟩
  go_wp2_with fail
  refine (qdigits_any S HS16.out (HSA.out ()) _).mono ?_; rintro e w1 ⟨pd, capd, rfl, hrd, hb1⟩
  obtain ⟨bd, rfl, hbd, hcd⟩ := hrd
  have HCD : Hid (∀ k, k < 18 → w1.cell? ⟨bd, k, none⟩ = some (.int .i64 (digitAt m k : Nat))) := fun k hk => by
    rw [hcd k (by rw [HDL.out]; exact hk), HDG.out]
  have HBD := Lib.hid hbd; have HB1 := Lib.hid hb1
  clear hcd hbd hb1
  go_wp2
  go_loopw [6, 7] (fun v i wr => ∃ (k : Nat) (z : Value), k ≤ 18 ∧ i = .int .i64 k ∧ z = v ∧ Hid (OwnS wr w1.heap.size z ((List.range k).map (leadAt m ls))) ∧ Hid (Below w1.heap.size w1 wr)) (fun _ i _ => 18 - (intOf i).toNat)
  case atStart => exact ⟨0, _, Nat.zero_le _, rfl, rfl, Lib.hid (ownS_nil _ _), Lib.hid (Below.refl _ _)⟩
  case round =>
    obtain ⟨k, z, hk, rfl, rfl, HO, HB⟩ := hrel
    by_cases hlt : k < 18
    · have hck := HCD.out k hlt
      have hck2 : wr.cell? ⟨bd, k, none⟩ = some (.int .i64 (digitAt m k : Nat)) := by rw [HB.out.cell HBD.out]; exact hck
      have htl := HTL.out k hlt
      have hdl := digitAt_le m k
      have hch : chain (ls.getD k []) (15 - digitAt m k) = leadAt m ls k := rfl
      have hsn := range_snoc (leadAt m ls) k
      have hll := rangeMap_length (leadAt m ls) k
      rcases (HQ.out.below (Nat.le_refl _) (HB1.out.trans (HB.out.mono HB1.out.size))) with e | ⟨b, off, rfl, _, hc⟩
      · have := HLN.out; rw [e] at this; simp at this
      · have hcl := hc k (by have := HLN.out; omega)
        clear hc hck
        generalize leadAt m ls k = r at *
        generalize (List.range k).map (leadAt m ls) = L at *
        generalize digitAt m k = d at *
        generalize ls.getD k [] = t at *
        have hwr : IntKind.i64.wrap (15 - (d : Int)) = 15 - (d : Int) := by rw [IntKind.wrap_i64]; omega
        have hcall : ∀ W, Calls Tryd.prog 29 #[.string ⟨t.toArray⟩, .int .i64 (IntKind.i64.wrap (15 - (d : Int)))] W fun e w' => e = .returned (.string ⟨r.toArray⟩) ∧ w' = W := fun W => by
          rw [hwr]
          exact (rchain_c t r (15 - (d : Int)) (15 - d) (by omega) (by omega) hch (by omega) W).mono fun e w' ⟨h1, h2⟩ => ⟨h1, h2.symm⟩
        clear hwr
        have HCA := Lib.hid hcall; have HSN := Lib.hid hsn
        clear hcall hsn hch
        have hlt1 : (k : Int) < 18 := by omega
        go_wp2
        refine Foyer.Tail.wp_region_lead_tail 10 (by kernel_rfl) (by kernel_rfl) z (fun _ _ _ h => h) (Or.inl ⟨by rfl, fun w => by go_simp⟩) ?_
        simp only [List.take_succ_cons, List.take_zero, List.drop_succ_cons, List.drop_zero]
        iterate 9 still_step
        still_call (HCA.out _)
        refine wpStill_nil ?_
        have HOd : Hid (OwnS wr.drew w1.heap.size z L) := HO.out
        have HBd : Hid (Below w1.heap.size w1 wr.drew) := HB.out.drew
        clear HO HB hck2 hcl
        generalize wr.drew = wd at *
        go_wp2_with (at_builtin; refine wpList_append_s _ rfl _ _ rfl w1.heap.size _ _ rfl (HOd.out.alloc _) wd.heap.size 0 1 [r] 1 rfl rfl ?c1 ?d3 ?d5 ?_)
        case c1 =>
          intro j hj
          match j, hj with
          | 0, _ => simp
        case d3 => omega
        case d5 => have := HBd.out.size; simp; omega
        intro v2 w2 hown2 hsz2 hbel2
        have HO2 := Lib.hid hown2
        have HB2 := Lib.hid (hbel2 _ _ (Nat.le_refl _) (HBd.out.alloc HBd.out.size _))
        clear hown2 hsz2 hbel2
        go_wp2
        go_roundw
        case rel => exact ⟨k + 1, v2, by omega, by go_num, rfl, Lib.hid (by rw [HSN.out]; exact HO2.out), HB2⟩
        case measure => simp [intOf]; omega
    · obtain rfl : k = 18 := by omega
      go_wp2
      go_ret
      exact ⟨_, rfl, HO.out.base HB1.out.size, HB1.out.trans (HB.out.mono HB1.out.size)⟩
end Go.Proofs.YtimiminkeencgaaDoor
