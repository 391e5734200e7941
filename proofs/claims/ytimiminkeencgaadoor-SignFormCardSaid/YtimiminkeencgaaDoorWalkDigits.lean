/-
  The walks of the digits of a message: the iterator, and the array that is filled from it.
-/
import Derived.RangeFuncNested
import Derived.RangeFuncBound
import Derived.RangeFuncCalls
import Derived.RangeFuncLeaves
import Derived.RangeFuncFrom
import Derived.Shelf.Abstract
import Derived.Shelf.RegionOpen
import Derived.WalkKit
import Derived.OwnWalkIn
import Derived.TacticsInMore
import Derived.LoopNIn
import Derived.LoopIn
import Derived.Deep.MidRow
import Derived.Test.YtimiminkeencgaaDoorWalkChain
namespace Go.Proofs.YtimiminkeencgaaDoor
open Go.RowKit Go.Sort Go.Shelf Foyer.Digest Foyer.Sign
attribute [local go_sem] Oper.semAt_some

/-- A digit and its place. -/
abbrev DP := { p : Nat × Nat // p.1 < 18 ∧ p.2 ≤ 15 }
abbrev encD (x : DP) : Array Value := #[.int .i64 (x.1.1 : Nat), .int .i64 (x.1.2 : Nat)]
/-- The first k digits with their places. -/
def firstD (m : List UInt8) (k : Nat) : List (Nat × Nat) := (List.range k).map fun i => (i, digitAt m i)
theorem firstD_succ (m : List UInt8) (k : Nat) : firstD m (k + 1) = firstD m k ++ [(k, digitAt m k)] := by unfold firstD; rw [range_snoc]
theorem firstD_length (m : List UInt8) (k : Nat) : (firstD m k).length = k := by unfold firstD; simp
/-- The checksum of the first k digits. -/
def restTo (m : List UInt8) (k : Nat) : Nat := rest (((sum m).map unhex).take k)
theorem digitAt_low (m : List UInt8) (k : Nat) (hk : k < (sum m).length) : digitAt m k = unhex (sum m)[k] := by
  unfold digitAt digits
  generalize sum m = S at *
  rw [withSum_low _ _ (by rw [List.length_map]; exact hk), List.getD_eq_getElem?_getD, List.getElem?_map, List.getElem?_eq_getElem hk]; rfl
theorem rest_take_succ (ds : List Nat) (k : Nat) (hk : k < ds.length) : rest (ds.take (k + 1)) = rest (ds.take k) + (15 - ds[k]) := by
  rw [List.take_succ_eq_append_getElem hk, rest_append]
  show rest (ds.take k) + ((15 - ds[k]) + 0) = _
  omega
theorem restTo_succ (m : List UInt8) (k : Nat) (hk : k < (sum m).length) : restTo m (k + 1) = restTo m k + (15 - digitAt m k) := by
  rw [digitAt_low m k hk]
  unfold restTo
  generalize sum m = S at *
  rw [rest_take_succ _ k (by rw [List.length_map]; exact hk), List.getElem_map]
theorem restTo_le (m : List UInt8) (k : Nat) : restTo m k ≤ 15 * k := by
  unfold restTo
  have := rest_le (((sum m).map unhex).take k)
  have h2 : (((sum m).map unhex).take k).length ≤ k := List.length_take_le _ _
  omega
theorem digitAt_16 (m : List UInt8) : digitAt m 16 = restTo m 16 / 16 := by
  have h : ((sum m).map unhex).length = 16 := by rw [List.length_map, (sum_hex m).2]
  unfold digitAt digits restTo
  rw [List.take_of_length_le (by omega)]
  have := withSum_one ((sum m).map unhex)
  rw [h] at this; exact this
theorem digitAt_17 (m : List UInt8) : digitAt m 17 = restTo m 16 % 16 := by
  have h : ((sum m).map unhex).length = 16 := by rw [List.length_map, (sum_hex m).2]
  unfold digitAt digits restTo
  rw [List.take_of_length_le (by omega)]
  have := withSum_two ((sum m).map unhex)
  rw [h] at this; exact this

theorem eachDigit_any (m : ByteArray) (w : World) :
    Calls Tryd.prog 50 #[.string m] w fun e w' => e = .returned (.func (.func 59) #[] #[.pointer (some ⟨w.heap.size, 0, none⟩)]) ∧ w' = w.alloc (.cells #[.string m] 9) := by
  go_enter Tryd.func50, Tryd.ntmps50
  go_wp2
  go_ret
  exact ⟨rfl, rfl⟩

set_option maxRecDepth 100000 in
set_option maxHeartbeats 2000000 in
/-- The iterator: the eighteen digits with their places, in order. -/
theorem each_stops (m : List UInt8) (hm : m.length ≤ 1000000) (b : Nat) (w : World) (hb : w.cell? ⟨b, 0, none⟩ = some (.string ⟨m.toArray⟩)) (hE : Env w) :
    SeqStopsK Fence.wide 2 Tryd.prog 59 #[.pointer (some ⟨b, 0, none⟩)] encD (fun _ _ => True) (fun xs => xs.map (·.1) = firstD m 18) (fun _ => True) 18 w := fun l J Jx W hW hJ hJx hY h0 => by
  have hbl := lt_of_cell hb
  have hcb := (hW.cell (p := ⟨b, 0, none⟩) hbl).trans hb
  have hE1 : Env W := hE.below hW
  have HE := Lib.hid hE1; clear hE hE1
  obtain ⟨S, hS⟩ : ∃ S : List UInt8, sum m = S := ⟨_, rfl⟩
  have hSum := sum_c m S hS (by omega) W HE.out.hex
  have hS16 : S.length = 16 := by rw [← hS]; exact (sum_hex m).2
  have hSall : S.all isHex = true := by rw [← hS]; exact (sum_hex m).1
  obtain ⟨t, ht⟩ : ∃ t : ByteArray, (⟨S.toArray⟩ : ByteArray) = t := ⟨_, rfl⟩
  rw [ht] at hSum
  have ht16 : t.size = 16 := by rw [← ht, size_of_list]; exact hS16
  have hdig : ∀ k (h : k < t.size), isHex t[k] = true ∧ unhex t[k] = digitAt m k ∧ restTo m (k + 1) = restTo m k + (15 - digitAt m k) := fun k h => by
    have hkS : k < S.length := by omega
    have hkm : k < (sum m).length := by rw [hS]; exact hkS
    have e : t[k] = S[k] := by subst ht; rfl
    have e2 : (sum m)[k] = S[k] := by simp [hS]
    refine ⟨?_, ?_, restTo_succ m k hkm⟩
    · rw [e]; exact List.all_eq_true.1 hSall _ (List.getElem_mem hkS)
    · rw [e, digitAt_low m k hkm, e2]
  have HDIG := Lib.hid hdig; have HSUM := Lib.hid hSum; have HY := Lib.hid hY
  clear hdig hSum hY
  refine callsIn_of_wp Tryd.func59 rfl trivial ?_ rfl
  simp only [Tryd.ntmps59, List.size_toArray, List.length_cons, List.length_nil, Nat.reduceAdd, Nat.reduceSub, Array.replicate_succ, Array.replicate_zero, List.push_toArray, List.append_toArray, List.nil_append, List.cons_append]
  gi_wp2_with (refine ⟨trivial, ?_⟩; gi_at_call 46; refine (callsIn_wide.2 HSUM.out).mono ?_; rintro e W1 ⟨rfl, hb1⟩)
  have hJ1 : J [] W1 := hJ _ W W1 none h0 (grown_of_below hb1) (fun r e => by cases e)
  have HJ1 := Lib.hid hJ1
  clear hJ1 hb1 h0 HSUM HE hcb hb hW hbl
  gi_loopw [4, 9] (fun c i wr => ∃ (k n : Nat) (pre : List DP), k ≤ 16 ∧ n ≤ 15 * k ∧ pre.length = k ∧ i = .int .i64 k ∧ c = .int .i64 n ∧ Hid (n = restTo m k) ∧ Hid (pre.map (·.1) = firstD m k) ∧ Hid (J pre wr)) (fun _ i _ => 16 - (intOf i).toNat)
  case atStart => exact ⟨0, 0, [], by omega, by omega, rfl, rfl, rfl, Lib.hid rfl, Lib.hid rfl, HJ1⟩
  case round =>
    obtain ⟨k, n, pre, hk, hn, hpl, rfl, rfl, HN, HP, HJ⟩ := hrel
    by_cases hlt : k < 16
    · obtain ⟨hhex, hun, hrs⟩ := HDIG.out k (by omega)
      have hdle := digitAt_le m k
      have hpf := firstD_succ m k
      have hdv := fun W => digitValue_any t[k] (digitAt m k) hhex hun W
      obtain ⟨d, hd⟩ : ∃ d, digitAt m k = d := ⟨_, rfl⟩
      rw [hd] at hdv hdle hrs hpf
      have hkt : k < t.size := by omega
      obtain ⟨fn, tmps, assign, body, hy, hR⟩ := HY.out pre ⟨(k, d), by omega, hdle⟩ wr HJ.out (by omega)
      dsimp only [encD] at hy
      have HDV := Lib.hid hdv; have HRS := Lib.hid hrs; have HPF := Lib.hid hpf; have HR := Lib.hid hR
      clear hdv hrs hpf hhex hun hd hR
      gi_wp2_with (refine ⟨trivial, ?_⟩; gi_at_call 60; refine (callsIn_wide.2 (HDV.out _)).mono ?_; rintro e w' ⟨rfl, rfl⟩)
      refine HR.out.mono ?_
      rintro e W3 (⟨rfl, hJ3, _⟩ | ⟨rfl, hJx3⟩)
      · have HJ3 := Lib.hid hJ3; clear hJ3 hy
        gi_wp2
        go_roundw
        case rel => exact ⟨k + 1, n + (15 - d), pre ++ [⟨(k, d), by omega, hdle⟩], by omega, by omega, by simp [hpl], by go_num, by go_num, Lib.hid (by rw [HRS.out, ← HN.out]), Lib.hid (by rw [HPF.out, List.map_append, HP.out]; rfl), HJ3⟩
        case measure => simp [intOf]; omega
      · clear hy
        gi_wp2
        refine bodyPost_ret (results_none rfl _ _ _) rfl ?_
        exact ⟨⟨_, rfl⟩, .inr ⟨_, trivial, hJx3⟩⟩
    · obtain rfl : k = 16 := by omega
      have h16 := digitAt_16 m
      have h17 := digitAt_17 m
      have hl16 := digitAt_le m 16
      have hl17 := digitAt_le m 17
      rw [← HN.out] at h16 h17
      have hp16 := firstD_succ m 16
      have hp17 := firstD_succ m 17
      rw [h16] at hp16 hl16
      rw [h17] at hp17 hl17
      obtain ⟨fn, tmps, assign, body, hy, hR⟩ := HY.out pre ⟨(16, n / 16), by omega, hl16⟩ wr HJ.out (by omega)
      dsimp only [encD] at hy
      push_cast at hy
      have HP16 := Lib.hid hp16; have HP17 := Lib.hid hp17; have HR := Lib.hid hR
      clear hp16 hp17 hR h16 h17
      gi_wp2
      refine HR.out.mono ?_
      rintro e W3 (⟨rfl, hJ3, _⟩ | ⟨rfl, hJx3⟩)
      · clear hy
        obtain ⟨fn, tmps, assign, body, hy, hR⟩ := HY.out _ ⟨(17, n % 16), by omega, hl17⟩ W3 hJ3 (by simp [hpl])
        dsimp only [encD] at hy
        push_cast at hy
        have HR := Lib.hid hR; clear hR
        gi_wp2
        refine HR.out.mono ?_
        rintro e W4 (⟨rfl, hJ4, _⟩ | ⟨rfl, hJx4⟩)
        · gi_wp2
          go_end0
          exact ⟨⟨_, rfl⟩, .inl ⟨_, by rw [List.map_append, List.map_append, HP.out, HP17.out, HP16.out]; rfl, hJ4⟩⟩
        · gi_wp2
          go_end0
          exact ⟨⟨_, rfl⟩, .inr ⟨_, trivial, hJx4⟩⟩
      · clear hy
        gi_wp2
        go_end0
        exact ⟨⟨_, rfl⟩, .inr ⟨_, trivial, hJx3⟩⟩
end Go.Proofs.YtimiminkeencgaaDoor
