/-
  The document's own Verify.
-/
import Derived.Test.YtimiminkeencgaaDoorRefSign
namespace Go.Proofs.YtimiminkeencgaaDoor
open Go.RowKit Go.Sort Foyer.Digest Foyer.Sign

theorem verify_bad {p m : List UInt8} {ls : List (List UInt8)} {k : Nat} (hk : k < ls.length) (h : isDigest (ls.getD k []) = false) : verify p m ls = false := by
  cases e : verify p m ls
  · rfl
  · have h1 := (verify_form e).2.1
    rw [List.getD_eq_getElem?_getD, List.getElem?_eq_getElem hk] at h
    have h2 := List.all_eq_true.1 h1 _ (List.getElem_mem hk)
    have : isDigest ls[k] = false := h
    rw [h2] at this; cases this
theorem verify_good {p m : List UInt8} {ls : List (List UInt8)} (hl : ls.length = 18) (h : ∀ k, k < 18 → isDigest (ls.getD k []) = true) : verify p m ls = (listSum (leads m ls) == p) := by
  have : ls.all isDigest = true := by
    rw [List.all_eq_true]
    intro t ht
    obtain ⟨j, hj, rfl⟩ := List.getElem_of_mem ht
    have := h j (by omega)
    rw [List.getD_eq_getElem?_getD, List.getElem?_eq_getElem hj] at this
    exact this
  unfold verify
  rw [this, hl]; simp

set_option maxRecDepth 100000 in
set_option maxHeartbeats 1000000 in
theorem qverify_any (p m : List UInt8) (ls : List (List UInt8)) (q : Option Addr) (len cap : Nat) (hm : m.length ≤ 1000000) (hlen : ls.length = len) (ht : ∀ t ∈ ls, t.length ≤ 1000000) (v : Bool) (hv : verify p m ls = v) (w : World) (hr : RdS w q ls) :
    Calls Tryd.prog 17 #[.string ⟨p.toArray⟩, .string ⟨m.toArray⟩, .slice q len cap] w fun e w' => e = .returned (.bool v) ∧ Below w.heap.size w w' := by
  by_cases h18 : len = 18
  · subst h18
    have HML := Lib.hid hm; have HQ := Lib.hid hr
    have HTL : Hid (∀ k, k < 18 → (ls.getD k []).length ≤ 1000000) := fun k hk => by
      rw [List.getD_eq_getElem?_getD, List.getElem?_eq_getElem (by omega)]; exact ht _ (List.getElem_mem _)
    have HLN := Lib.hid hlen
    have HBAD : Hid (∀ k, k < 18 → isDigest (ls.getD k []) = false → v = false) := fun k hk h => by rw [← hv]; exact verify_bad (by omega) h
    obtain ⟨y, hy⟩ : ∃ y, listSum (leads m ls) = y := ⟨_, rfl⟩
    have HGOOD : Hid ((∀ k, k < 18 → isDigest (ls.getD k []) = true) → v = (y == p)) := fun h => by rw [← hv, verify_good hlen h, hy]
    have HY := Lib.hid hy
    obtain ⟨S, hS⟩ : ∃ S, sum m = S := ⟨_, rfl⟩
    have hS16 : S.length = 16 := by rw [← hS]; exact (sum_hex m).2
    have hSall : ∀ _ : Unit, S.all isHex = true := fun _ => by rw [← hS]; exact (sum_hex m).1
    have hDG : ∀ k, (digits S).getD k 0 = digitAt m k := fun k => by rw [← hS]; rfl
    have hDL : (digits S).length = 18 := by rw [← hS]; exact digits_length m
    have HS := Lib.hid hS; have HS16 := Lib.hid hS16; have HSA := Lib.hid hSall; have HDG := Lib.hid hDG; have HDL := Lib.hid hDL
    clear hm hr ht hlen hS hS16 hSall hDG hDL hy hv
    go_enter Tryd.func17, Tryd.ntmps17
    go_wp2_with fail
    refine (rsum_c m S HS.out (by have := HML.out; omega) _).mono ?_; rintro e w1 ⟨rfl, rfl⟩
    go_wp2_with fail
    refine (qdigits_any S HS16.out (HSA.out ()) _).mono ?_; rintro e w1 ⟨pd, capd, rfl, hrd, hb1⟩
    obtain ⟨bd, rfl, hbd, hcd⟩ := hrd
    have HCD : Hid (∀ k, k < 18 → w1.cell? ⟨bd, k, none⟩ = some (.int .i64 (digitAt m k : Nat))) := fun k hk => by
      rw [hcd k (by rw [HDL.out]; exact hk), HDG.out]
    have HBD := Lib.hid hbd; have HB1 := Lib.hid hb1
    clear hcd hbd hb1
    go_wp2
    go_loopw [8, 9] (fun v i wr => ∃ (k : Nat) (z : Value), k ≤ 18 ∧ i = .int .i64 k ∧ z = v ∧ Hid (∀ j, j < k → isDigest (ls.getD j []) = true) ∧ Hid (OwnS wr w1.heap.size z ((List.range k).map (leadAt m ls))) ∧ Hid (Below w1.heap.size w1 wr)) (fun _ i _ => 18 - (intOf i).toNat)
    case atStart => exact ⟨0, _, Nat.zero_le _, rfl, rfl, Lib.hid (fun j hj => by omega), Lib.hid (ownS_nil _ _), Lib.hid (Below.refl _ _)⟩
    case round =>
      obtain ⟨k, z, hk, rfl, rfl, HDS, HO, HB⟩ := hrel
      by_cases hlt : k < 18
      · have hck2 : wr.cell? ⟨bd, k, none⟩ = some (.int .i64 (digitAt m k : Nat)) := by rw [HB.out.cell HBD.out]; exact HCD.out k hlt
        have htl := HTL.out k hlt
        have hdl := digitAt_le m k
        have hch : chain (ls.getD k []) (15 - digitAt m k) = leadAt m ls k := rfl
        have hsn := range_snoc (leadAt m ls) k
        have hll := rangeMap_length (leadAt m ls) k
        have HBK := Lib.hid (HBAD.out k hlt)
        have HNX : Hid (isDigest (ls.getD k []) = true → ∀ j, j < k + 1 → isDigest (ls.getD j []) = true) := fun h j hj => by
          by_cases e : j = k
          · rw [e]; exact h
          · exact HDS.out j (by omega)
        rcases (HQ.out.below (Nat.le_refl _) (HB1.out.trans (HB.out.mono HB1.out.size))) with e | ⟨b, off, rfl, _, hc⟩
        · have := HLN.out; rw [e] at this; simp at this
        · have hcl := hc k (by have := HLN.out; omega)
          clear hc
          generalize leadAt m ls k = r at *
          generalize (List.range k).map (leadAt m ls) = L at *
          generalize digitAt m k = d at *
          generalize ls.getD k [] = t at *
          obtain ⟨g, hg⟩ : ∃ g, isDigest t = g := ⟨_, rfl⟩
          have HG := Lib.hid hg; clear hg
          cases g
          · have hvf := HBK.out HG.out
            have HVF := Lib.hid hvf
            clear hvf hch hsn hck2
            go_wp2_with fail
            refine (ris_c t false HG.out _).mono ?_; rintro e w' ⟨rfl, rfl⟩
            go_wp2
            go_ret
            exact ⟨by rw [HVF.out]; rfl, HB1.out.trans (HB.out.mono HB1.out.size)⟩
          · have HND := Lib.hid (HNX.out HG.out)
            have hwr : IntKind.i64.wrap (15 - (d : Int)) = 15 - (d : Int) := by rw [IntKind.wrap_i64]; omega
            have hcall : ∀ W, Calls Tryd.prog 29 #[.string ⟨t.toArray⟩, .int .i64 (IntKind.i64.wrap (15 - (d : Int)))] W fun e w' => e = .returned (.string ⟨r.toArray⟩) ∧ w' = W := fun W => by
              rw [hwr]
              exact (rchain_c t r (15 - (d : Int)) (15 - d) (by omega) (by omega) hch (by omega) W).mono fun e w' ⟨h1, h2⟩ => ⟨h1, h2.symm⟩
            clear hwr
            have HCA := Lib.hid hcall; have HSN := Lib.hid hsn
            clear hcall hsn hch
            have hlt1 : (k : Int) < 18 := by omega
            go_wp2_with fail
            refine (ris_c t true HG.out _).mono ?_; rintro e w' ⟨rfl, rfl⟩
            go_wp2_with fail
            refine Foyer.Tail.wp_region_lead_tail 10 (by kernel_rfl) (by kernel_rfl) z (fun _ _ _ h => h) (Or.inl ⟨by rfl, fun w => by go_simp⟩) ?_
            simp only [List.take_succ_cons, List.take_zero, List.drop_succ_cons, List.drop_zero]
            iterate 9 still_step
            still_call (HCA.out _)
            refine wpStill_nil ?_
            have HOd : Hid (OwnS wr.drew w1.heap.size z L) := HO.out
            have HBd : Hid (Below w1.heap.size w1 wr.drew) := HB.out.drew
            clear HO HB hck2 hcl
            generalize wr.drew = wd at *
            go_wp2_with (at_builtin; refine wpList_append_s _ rfl _ _ rfl w1.heap.size _ _ rfl (HOd.out.alloc _) wd.heap.size 0 1 [r] 1 rfl rfl ?c1 ?d3 ?d5 ?_)
            case c1 =>
              intro j hj
              match j, hj with
              | 0, _ => simp
            case d3 => omega
            case d5 => have := HBd.out.size; simp; omega
            intro v2 w2 hown2 hsz2 hbel2
            have HO2 := Lib.hid hown2
            have HB2 := Lib.hid (hbel2 _ _ (Nat.le_refl _) (HBd.out.alloc HBd.out.size _))
            clear hown2 hsz2 hbel2
            go_wp2
            go_roundw
            case rel => exact ⟨k + 1, v2, by omega, by go_num, rfl, HND, Lib.hid (by rw [HSN.out]; exact HO2.out), HB2⟩
            case measure => simp [intOf]; omega
      · obtain rfl : k = 18 := by omega
        have hg := HGOOD.out HDS.out
        obtain ⟨pz, cz, hz, hrz, _⟩ := HO.out.slice
        rw [rangeMap_length] at hz
        subst hz
        have hrz' : RdS wr pz (leads m ls) := hrz
        have HR := Lib.hid hrz'
        have hle : ∀ t ∈ leads m ls, t.length ≤ 1000000 := fun t ht => by
          unfold leads at ht
          obtain ⟨i, hi, rfl⟩ := List.mem_map.1 ht
          rw [List.mem_range] at hi
          unfold leadAt
          rw [isDigest_length (chain_of_digest (HDS.out i hi) _)]; omega
        have HLE := Lib.hid hle; have HGV := Lib.hid hg
        clear hrz hrz' hle HO hg
        go_wp2_with fail
        refine (rlist_c (leads m ls) y 18 (by unfold leads; simp) HY.out _ _ _ HR.out (by decide) HLE.out).mono ?_; rintro e w3 ⟨rfl, hb3⟩
        have HB3 := Lib.hid (HB1.out.trans ((HB.out.trans (hb3.mono HB.out.size)).mono HB1.out.size))
        clear hb3
        go_wp2
        go_ret
        exact ⟨by rw [HGV.out]; rfl, HB3.out⟩
  · have hf : v = false := by rw [← hv]; exact verify_other_length (by omega)
    have hneq : ((len : Int) != 18) = true := by simp; omega
    clear hv ht hr hm
    subst hf
    go_enter Tryd.func17, Tryd.ntmps17
    go_wp2
    go_ret
    exact ⟨rfl, Below.refl _ _⟩
end Go.Proofs.YtimiminkeencgaaDoor
