/-
  The walk of Verify.
-/
import Derived.Test.YtimiminkeencgaaDoorWalkSign2
namespace Go.Proofs.YtimiminkeencgaaDoor
open Go.RowKit Go.Sort Foyer.Digest Foyer.Sign

theorem isNoDigest_c (l : List UInt8) (b : Bool) (h : isDigest l = b) (hs : l.length ≤ 1000000000000) (w : World) :
    Calls Tryd.prog 34 #[.string ⟨l.toArray⟩] w fun e w' => e = .returned (.bool (!b)) ∧ w = w' := by
  have hi := is_c l b h hs w
  have HI := Lib.hid hi; clear hi h
  go_enter Tryd.func34, Tryd.ntmps34
  go_wp2_with fail
  refine (HI.out).mono ?_; rintro e w' ⟨rfl, rfl⟩
  go_wp2
  go_ret
  exact ⟨rfl, rfl⟩

set_option maxRecDepth 100000 in
theorem indexFunc_any (ls : List (List UInt8)) (p : Option Addr) (len cap : Nat) (hlen : ls.length = len) (hl : len ≤ maxLen) (ht : ∀ t ∈ ls, t.length ≤ 1000000) (w : World) (hr : RdS w p ls) :
    Calls Tryd.prog 51 #[.slice p len cap, .func (.func 34) #[] #[]] w fun e w' => (∃ r : Int, e = .returned (.int .i64 r) ∧ -1 ≤ r ∧ (decide (0 ≤ r) = !ls.all isDigest)) ∧ w = w' := by
  subst hlen
  unfold maxLen at hl
  have HR := Lib.hid hr
  have HTL : Hid (∀ k, k < ls.length → (ls.getD k []).length ≤ 1000000) := fun k hk => by
    rw [List.getD_eq_getElem?_getD, List.getElem?_eq_getElem hk]; exact ht _ (List.getElem_mem hk)
  have HNO : Hid (∀ k, k < ls.length → isDigest (ls.getD k []) = false → ls.all isDigest = false) := fun k hk h => by
    cases e : ls.all isDigest
    · rfl
    · have := List.all_eq_true.1 e (ls.getD k []) (by rw [List.getD_eq_getElem?_getD, List.getElem?_eq_getElem hk]; exact List.getElem_mem hk)
      rw [h] at this; cases this
  have HYES : Hid ((∀ j, j < ls.length → isDigest (ls.getD j []) = true) → ls.all isDigest = true) := fun h => by
    rw [List.all_eq_true]
    intro x hx
    obtain ⟨j, hj, rfl⟩ := List.getElem_of_mem hx
    have := h j hj
    rwa [List.getD_eq_getElem?_getD, List.getElem?_eq_getElem hj] at this
  clear hr ht
  go_enter Tryd.func51, Tryd.ntmps51
  go_wp2
  go_loop [8] (fun i => ∃ k : Nat, k ≤ ls.length ∧ i = .int .i64 k ∧ Hid (∀ j, j < k → isDigest (ls.getD j []) = true)) (fun i => ls.length - (intOf i).toNat)
  case atStart => exact ⟨0, Nat.zero_le _, rfl, Lib.hid (fun j hj => by omega)⟩
  case round =>
    obtain ⟨k, hk, rfl, HK⟩ := hrel
    by_cases hlt : k < ls.length
    · have htl := HTL.out k hlt
      have HN := Lib.hid (HNO.out k hlt)
      have HN2 : Hid (isDigest (ls.getD k []) = true → ∀ j, j < k + 1 → isDigest (ls.getD j []) = true) := fun hh j hj => by
        by_cases e : j = k
        · rw [e]; exact hh
        · exact HK.out j (by omega)
      rcases HR.out with e | ⟨b, off, rfl, _, hc⟩
      · rw [e] at hlt; simp at hlt
      · have hck := hc k hlt
        clear hc
        generalize ls.getD k [] = t at *
        cases hd : isDigest t
        · have HF := Lib.hid (HN.out hd)
          have hcall := isNoDigest_c t false hd (by omega) w
          have HC := Lib.hid hcall; clear hcall hd HN2 HN
          go_wp2_with fail
          refine (HC.out).mono ?_; rintro e w' ⟨rfl, rfl⟩
          go_wp2
          go_ret
          exact ⟨⟨_, rfl, by omega, by rw [HF.out]; simp⟩, rfl⟩
        · have HF := Lib.hid (HN2.out hd)
          have hcall := isNoDigest_c t true hd (by omega) w
          have HC := Lib.hid hcall; clear hcall hd HN2 HN
          go_wp2_with fail
          refine (HC.out).mono ?_; rintro e w' ⟨rfl, rfl⟩
          go_wp2
          go_round
          case rel => exact ⟨k + 1, by omega, by go_num, HF⟩
          case measure => simp [intOf]; omega
    · have HF := Lib.hid (HYES.out (fun j hj => HK.out j (by omega)))
      go_wp2
      go_ret
      exact ⟨⟨_, rfl, by omega, by rw [HF.out]; simp⟩, rfl⟩
theorem contains_any (ls : List (List UInt8)) (p : Option Addr) (len cap : Nat) (hlen : ls.length = len) (hl : len ≤ maxLen) (ht : ∀ t ∈ ls, t.length ≤ 1000000) (b : Bool) (hb : ls.all isDigest = b) (w : World) (hr : RdS w p ls) :
    Calls Tryd.prog 33 #[.slice p len cap, .func (.func 34) #[] #[]] w fun e w' => e = .returned (.bool (!b)) ∧ w = w' := by
  have hi := indexFunc_any ls p len cap hlen hl ht w hr
  rw [hb] at hi
  have HI := Lib.hid hi; clear hi hb ht hl
  go_enter Tryd.func33, Tryd.ntmps33
  go_wp2_with fail
  refine (HI.out).mono ?_; rintro e w' ⟨⟨r, rfl, hr1, hr2⟩, rfl⟩
  go_wp2
  go_ret
  exact ⟨rfl, rfl⟩

theorem verify_len (p m : List UInt8) (q : Option Addr) (len cap : Nat) (h : len ≠ 18) (w : World) :
    Calls Tryd.prog 16 #[.string ⟨p.toArray⟩, .string ⟨m.toArray⟩, .slice q len cap] w fun e w' => e = .returned (.bool false) ∧ Below w.heap.size w w' := by
  have hne : ((len : Int) != 18) = true := by simp; omega
  go_enter Tryd.func16, Tryd.ntmps16
  go_wp2
  go_ret
  exact ⟨rfl, Below.refl _ _⟩
theorem verify_not (p m : List UInt8) (ls : List (List UInt8)) (q : Option Addr) (cap : Nat) (hlen : ls.length = 18) (ht : ∀ t ∈ ls, t.length ≤ 1000000) (hb : ls.all isDigest = false) (w : World) (hr : RdS w q ls) :
    Calls Tryd.prog 16 #[.string ⟨p.toArray⟩, .string ⟨m.toArray⟩, .slice q 18 cap] w fun e w' => e = .returned (.bool false) ∧ Below w.heap.size w w' := by
  have hi := contains_any ls q 18 cap hlen (by decide) ht false hb w hr
  have HI := Lib.hid hi; clear hi hb ht hlen
  go_enter Tryd.func16, Tryd.ntmps16
  go_wp2_with fail
  refine (HI.out).mono ?_; rintro e w' ⟨rfl, rfl⟩
  go_wp2
  go_ret
  exact ⟨rfl, Below.refl _ _⟩

set_option maxRecDepth 100000 in
set_option maxHeartbeats 1000000 in
theorem verify_yes (p m : List UInt8) (ls : List (List UInt8)) (q : Option Addr) (cap : Nat) (hm : m.length ≤ 1000000) (hlen : ls.length = 18) (hb : ls.all isDigest = true) (v : Bool) (hv : (listSum (leads m ls) == p) = v) (w : World) (hr : RdS w q ls) (hE : Env w) :
    Calls Tryd.prog 16 #[.string ⟨p.toArray⟩, .string ⟨m.toArray⟩, .slice q 18 cap] w fun e w' => e = .returned (.bool v) ∧ Below w.heap.size w w' := by
  have hdl : ∀ t ∈ ls, t.length = 16 := fun t ht => isDigest_length (List.all_eq_true.1 hb t ht)
  have hi := contains_any ls q 18 cap hlen (by decide) (fun t ht => by rw [hdl t ht]; omega) true hb w hr
  have HI := Lib.hid hi
  have HT16 : Hid (∀ k, k < 18 → (ls.getD k []).length = 16) := fun k hk => by
    rw [List.getD_eq_getElem?_getD, List.getElem?_eq_getElem (by omega)]; exact hdl _ (List.getElem_mem _)
  have HE := Lib.hid hE; have HML := Lib.hid hm; have HQ := Lib.hid hr
  have HEL : Hid (∀ t ∈ (List.range 18).map (leadAt m ls), t.length ≤ 1000000) := fun t ht => by
    obtain ⟨i, hi, rfl⟩ := List.mem_map.1 ht
    have h1 := HT16.out i (by simpa using hi)
    have h2 := chain_length_le (ls.getD i []) (15 - digitAt m i)
    unfold leadAt; omega
  obtain ⟨sm, hsm⟩ : ∃ sm, listSum ((List.range 18).map (leadAt m ls)) = sm := ⟨_, rfl⟩
  have hv2 : (sm == p) = v := by rw [← hsm]; exact hv
  have HSM := Lib.hid hsm; have HV := Lib.hid hv2
  have HLN : Hid (18 ≤ ls.length) := by show _ ≤ _; omega
  clear hi hb hdl hE hm hr hv hsm hv2 hlen
  go_enter Tryd.func16, Tryd.ntmps16
  go_wp2_with fail
  refine (HI.out).mono ?_; rintro e w' ⟨rfl, rfl⟩
  go_wp2_with fail
  rw [e18s]
  have hrow := rowS_fresh w 43 (leadAt m ls)
  have hbe := (Below.refl w.heap.size w).alloc (Nat.le_refl _) (.cells (Array.replicate 18 (.string ⟨#[]⟩)) 43)
  generalize w.alloc (.cells (Array.replicate 18 (.string ⟨#[]⟩)) 43) = W2 at *
  have HR2 := Lib.hid hrow; have HB2 := Lib.hid hbe; clear hrow hbe
  refine (digitsOf_any m HML.out _ (HE.out.below HB2.out)).mono ?_; rintro e W3 ⟨rfl, hb3⟩
  have HR3 := Lib.hid (HR2.out.below hb3); have HB3 := Lib.hid (HB2.out.trans (hb3.mono HB2.out.size)); clear hb3
  obtain ⟨cs, hcs⟩ : ∃ cs, (cellsD m).toArray = cs := ⟨_, rfl⟩
  rw [hcs]
  have HCS : Hid (∀ k, k < 18 → cs[k]? = some (.int .i64 (digitAt m k : Nat))) := fun k hk => by
    rw [← hcs]; simp only [List.getElem?_toArray]; exact cellsD_at m k hk
  clear hcs
  go_wp2
  go_loopw [19] (fun i wr => ∃ k : Nat, k ≤ 18 ∧ i = .int .i64 k ∧ Hid (RowS wr w.heap.size k (leadAt m ls)) ∧ Hid (Below w.heap.size w wr)) (fun i _ => 18 - (intOf i).toNat)
  case atStart => exact ⟨0, Nat.zero_le _, rfl, HR3, HB3⟩
  case round =>
    obtain ⟨k, hk, rfl, HR, HB⟩ := hrel
    by_cases hlt : k < 18
    · have hset := fun W (h : RowS W w.heap.size k (leadAt m ls)) => RowS.set h hlt
      have HSET := Lib.hid hset; clear hset
      have hr : chain (ls.getD k []) (15 - digitAt m k) = leadAt m ls k := rfl
      have hck := HCS.out k hlt
      have hdl := digitAt_le m k
      have h16 := HT16.out k hlt
      rcases (HQ.out.below (Nat.le_refl _) HB.out) with e | ⟨b, off, rfl, _, hc⟩
      · have := HLN.out; rw [e] at this; simp at this
      · have hcl := hc k (by have := HLN.out; omega)
        clear hc
        generalize leadAt m ls k = r at *
        generalize digitAt m k = d at *
        generalize ls.getD k [] = t at *
        have HRR := Lib.hid hr; clear hr
        have hidx : ∀ w, (Instr.index 45 (.agg cs) (.int .i64 k)).run Tryd.prog w = .ok (.int .i64 d) w := fun w => by
          have h1 : (0 : Int) ≤ (k : Int) ∧ (k : Int) < 18 := by omega
          simp [Instr.index, run_underlying Tryd.underlying45, asIntOf, h1, go_sem]
          rw [if_pos hlt, hck]; rfl
        clear hck
        go_wp2_with fail
        refine (chain_c t r _ (15 - d) (by omega) (by omega) HRR.out (by omega) _ (HE.out.below HB.out).hex).mono ?_; rintro e W4 ⟨rfl, hb4⟩
        have hrow := HR.out.below hb4
        have HR4 := Lib.hid hrow
        have HB4 := Lib.hid (HB.out.trans (hb4.mono HB.out.size))
        obtain ⟨hc4, hf4⟩ := hrow k hlt
        clear hrow hb4 hidx hcl
        go_wp2
        go_roundw
        case rel => exact ⟨k + 1, by omega, by go_num, Lib.hid (HSET.out _ HR4.out), Lib.hid (HB4.out.setCell (p := ⟨w.heap.size, k, none⟩) (Nat.le_refl _) _)⟩
        case measure => simp [intOf]; omega
    · obtain rfl : k = 18 := by omega
      go_wp2_with fail
      refine (list_c ((List.range 18).map (leadAt m ls)) sm 18 (range18_length _) HSM.out _ _ _ HR.out.rd (by decide) HEL.out (HE.out.below HB.out)).mono ?_; rintro e W4 ⟨rfl, hb4⟩
      have HB4 := Lib.hid (HB.out.trans (hb4.mono HB.out.size)); clear hb4
      have hv := HV.out
      go_wp2
      go_ret
      exact ⟨rfl, HB4.out⟩
/-- Verify, whatever the signature. -/
theorem verify_any (p m : List UInt8) (ls : List (List UInt8)) (q : Option Addr) (len cap : Nat) (hm : m.length ≤ 1000000) (hlen : ls.length = len) (ht : ∀ t ∈ ls, t.length ≤ 1000000) (v : Bool) (hv : verify p m ls = v) (w : World) (hr : RdS w q ls) (hE : Env w) :
    Calls Tryd.prog 16 #[.string ⟨p.toArray⟩, .string ⟨m.toArray⟩, .slice q len cap] w fun e w' => e = .returned (.bool v) ∧ Below w.heap.size w w' := by
  by_cases h18 : len = 18
  · subst h18
    cases hb : ls.all isDigest
    · have : v = false := by rw [← hv]; unfold verify; rw [hb]; simp
      subst this
      exact verify_not p m ls q cap hlen ht hb w hr
    · refine verify_yes p m ls q cap hm hlen hb v ?_ w hr hE
      rw [← hv]; unfold verify; rw [hb, hlen]; simp
  · have : v = false := by rw [← hv]; exact verify_other_length (by rw [hlen]; exact h18)
    subst this
    exact verify_len p m q len cap h18 w
end Go.Proofs.YtimiminkeencgaaDoor
