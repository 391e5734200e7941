/-
  The walk of Sign.
-/
import Derived.Test.YtimiminkeencgaaDoorWalkSign
namespace Go.Proofs.YtimiminkeencgaaDoor
open Go.RowKit Go.Sort Foyer.Digest Foyer.Sign

set_option maxRecDepth 100000 in
set_option maxHeartbeats 1000000 in
theorem sign_any (s m : List UInt8) (hs : s.length ≤ 1000) (hm : m.length ≤ 1000000) (w : World) (hE : Env w) :
    Calls Tryd.prog 14 #[.string ⟨s.toArray⟩, .string ⟨m.toArray⟩] w fun e w' => ∃ b, e = .returned (.slice (some ⟨b, 0, none⟩) 18 18) ∧ w.heap.size ≤ b ∧ RowS w' b 18 (sigAt s m) ∧ Below w.heap.size w w' := by
  have HE := Lib.hid hE; clear hE
  have HSL := Lib.hid hs; have HML := Lib.hid hm
  clear hm hs
  go_enter Tryd.func14, Tryd.ntmps14
  go_wp2_with fail
  refine (chainsOf_c _ _).mono ?_; rintro e W1 ⟨b, rfl, hc, hb⟩
  have HC := Lib.hid hc; have HB1 := Lib.hid hb; clear hc hb
  go_wp2_with fail
  rw [e18s]
  have hrow := rowS_fresh W1 43 (sigAt s m)
  have hbe := (Below.refl W1.heap.size W1).alloc (Nat.le_refl _) (.cells (Array.replicate 18 (.string ⟨#[]⟩)) 43)
  generalize W1.alloc (.cells (Array.replicate 18 (.string ⟨#[]⟩)) 43) = W2 at *
  have HR2 := Lib.hid hrow; have HB2 := Lib.hid hbe; clear hrow hbe
  refine (digitsOf_any m HML.out _ (HE.out.below (HB1.out.trans (HB2.out.mono HB1.out.size)))).mono ?_; rintro e W3 ⟨rfl, hb3⟩
  have HR3 := Lib.hid (HR2.out.below hb3); have HB3 := Lib.hid (HB2.out.trans (hb3.mono HB2.out.size)); clear hb3
  obtain ⟨cs, hcs⟩ : ∃ cs, (cellsD m).toArray = cs := ⟨_, rfl⟩
  rw [hcs]
  have HCS : Hid (∀ k, k < 18 → cs[k]? = some (.int .i64 (digitAt m k : Nat))) := fun k hk => by
    rw [← hcs]; simp only [List.getElem?_toArray]; exact cellsD_at m k hk
  have hcsz : cs.size = 18 := by rw [← hcs, List.size_toArray, cellsD_length]
  clear hcs
  go_wp2
  go_loopw [13] (fun i wr => ∃ k : Nat, k ≤ 18 ∧ i = .int .i64 k ∧ Hid (RowS wr W1.heap.size k (sigAt s m)) ∧ Hid (Below W1.heap.size W1 wr)) (fun i _ => 18 - (intOf i).toNat)
  case atStart => exact ⟨0, Nat.zero_le _, rfl, HR3, HB3⟩
  case round =>
    obtain ⟨k, hk, rfl, HR, HB⟩ := hrel
    by_cases hlt : k < 18
    · have hset := fun W (h : RowS W W1.heap.size k (sigAt s m)) => RowS.set h hlt
      have HSET := Lib.hid hset; clear hset
      have hr : chain (startOf s k) (digitAt m k) = sigAt s m k := rfl
      have hck := HCS.out k hlt
      have hdl := digitAt_le m k
      generalize sigAt s m k = r at *
      generalize digitAt m k = d at *
      have HRR := Lib.hid hr; clear hr
      have hidx : ∀ w, (Instr.index 45 (.agg cs) (.int .i64 k)).run Tryd.prog w = .ok (.int .i64 d) w := fun w => by
        have h1 : (0 : Int) ≤ (k : Int) ∧ (k : Int) < 18 := by omega
        simp [Instr.index, run_underlying Tryd.underlying45, asIntOf, h1, go_sem]
        rw [if_pos hlt, hck]; rfl
      clear hck
      go_wp2_with fail
      refine (walk_any s HSL.out k d hlt hdl r HRR.out b _ ((HB.out.cell (lt_of_cell HC.out)).trans HC.out) (HE.out.below (HB1.out.trans (HB.out.mono HB1.out.size)))).mono ?_; rintro e W4 ⟨rfl, hb4⟩
      have hrow := HR.out.below hb4
      have HR4 := Lib.hid hrow
      have HB4 := Lib.hid (HB.out.trans (hb4.mono HB.out.size))
      obtain ⟨hc4, hf4⟩ := hrow k hlt
      clear hrow hb4 hidx
      go_wp2
      go_roundw
      case rel => exact ⟨k + 1, by omega, by go_num, Lib.hid (HSET.out _ HR4.out), Lib.hid (HB4.out.setCell (p := ⟨W1.heap.size, k, none⟩) (Nat.le_refl _) _)⟩
      case measure => simp [intOf]; omega
    · obtain rfl : k = 18 := by omega
      go_wp2
      go_ret
      exact ⟨W1.heap.size, rfl, HB1.out.size, HR.out, HB1.out.trans (HB.out.mono HB1.out.size)⟩
end Go.Proofs.YtimiminkeencgaaDoor
