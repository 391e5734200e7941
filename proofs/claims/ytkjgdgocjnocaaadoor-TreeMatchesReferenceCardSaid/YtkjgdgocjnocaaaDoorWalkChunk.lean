/-
  The walk of the library's iterator over the pairs of a list of texts.
-/
import Derived.RangeFuncNested
import Derived.RangeFuncBound
import Derived.RangeFuncCalls
import Derived.RangeFuncLeaves
import Derived.RangeFuncFrom
import Derived.Shelf.Abstract
import Derived.Shelf.RegionOpen
import Derived.WalkKit
import Derived.OwnWalkIn
import Derived.TacticsInMore
import Derived.LoopNIn
import Derived.LoopIn
import Derived.Deep.MidRow
import Derived.RegionIn
import Derived.Test.YtkjgdgocjnocaaaDoorWalkNode
namespace Go.Proofs.YtkjgdgocjnocaaaDoor
open Go.RowKit Go.Sort Go.Shelf Foyer.Digest Foyer.Tree
attribute [local go_sem] Oper.semAt_some

/-- The number of a pair. -/
abbrev PairOf (n : Nat) := { k : Nat // 2 * k < n }
abbrev encC (b off n : Nat) (x : PairOf n) : Array Value := #[.slice (some ⟨b, off + 2 * x.1, none⟩) (min 2 (n - 2 * x.1)) (min 2 (n - 2 * x.1))]
/-- What a round keeps: the iterator's two variables. -/
def KeepC (b1 b2 : Nat) (W W' : World) : Prop := W'.cell? ⟨b1, 0, none⟩ = W.cell? ⟨b1, 0, none⟩ ∧ W'.cell? ⟨b2, 0, none⟩ = W.cell? ⟨b2, 0, none⟩

theorem chunk_any (p : Option Addr) (n cap : Nat) (w : World) :
    Calls Tryd.prog 49 #[.slice p n cap, .int .i64 2] w fun e w' => e = .returned (.func (.func 54) #[] #[.pointer (some ⟨w.heap.size, 0, none⟩), .pointer (some ⟨w.heap.size + 1, 0, none⟩)]) ∧
      w' = (w.alloc (.cells #[.slice p n cap] 22)).alloc (.cells #[.int .i64 2] 3) := by
  go_enter Tryd.func49, Tryd.ntmps49
  go_wp2
  go_ret
  exact ⟨by simp, rfl⟩

set_option maxRecDepth 100000 in
set_option maxHeartbeats 1000000 in
theorem chunk_stops (b1 b2 b off n cap : Nat) (hn : n ≤ 1000000) (hcap : n ≤ cap) (hcm : cap ≤ maxLen) (w : World) (h1 : w.cell? ⟨b1, 0, none⟩ = some (.slice (some ⟨b, off, none⟩) n cap)) (h2 : w.cell? ⟨b2, 0, none⟩ = some (.int .i64 2)) :
    SeqStopsK Fence.wide 2 Tryd.prog 54 #[.pointer (some ⟨b1, 0, none⟩), .pointer (some ⟨b2, 0, none⟩)] (encC b off n) (KeepC b1 b2) (fun xs => xs.map (·.1) = List.range ((n + 1) / 2)) (fun _ => True) ((n + 1) / 2) w := fun l J Jx W hW hJ hJx hY h0 => by
  unfold maxLen at hcm
  have hc1 := (hW.cell (p := ⟨b1, 0, none⟩) (lt_of_cell h1)).trans h1
  have hc2 := (hW.cell (p := ⟨b2, 0, none⟩) (lt_of_cell h2)).trans h2
  have HY := Lib.hid hY; have H0 := Lib.hid h0
  have HD : Hid (∀ pre (W1 : World), J pre W1 → J pre W1.drew) := fun pre W1 hj => hJ pre W1 W1.drew none hj (grown_of_below (below_drewN (Below.refl _ _) 1)) (fun r e => by cases e)
  clear hY h0 hJ hJx hW h1 h2
  refine callsIn_of_wp Tryd.func54 rfl trivial ?_ rfl
  simp only [Tryd.ntmps54, List.size_toArray, List.length_cons, List.length_nil, Nat.reduceAdd, Nat.reduceSub, Array.replicate_succ, Array.replicate_zero, List.push_toArray, List.append_toArray, List.nil_append, List.cons_append]
  gi_wp2
  gi_loopw [4] (fun i wr => ∃ (k : Nat) (pre : List (PairOf n)), k ≤ (n + 1) / 2 ∧ pre.length = k ∧ i = .int .i64 (2 * k : Nat) ∧ Hid (pre.map (·.1) = List.range k) ∧ Hid (J pre wr) ∧ wr.cell? ⟨b1, 0, none⟩ = some (.slice (some ⟨b, off, none⟩) n cap) ∧ wr.cell? ⟨b2, 0, none⟩ = some (.int .i64 2)) (fun i _ => (n + 1) - (intOf i).toNat)
  case atStart => exact ⟨0, [], by omega, rfl, rfl, Lib.hid rfl, H0, hc1, hc2⟩
  case round =>
    clear hc1 hc2
    obtain ⟨k, pre, hk, hpl, rfl, HP, HJ, hc1, hc2⟩ := hrel
    by_cases hlt : 2 * k < n
    · obtain ⟨m, hm⟩ : ∃ m, min 2 (n - 2 * k) = m := ⟨_, rfl⟩
      have hm2 : m ≤ 2 := by omega
      have hm1 : 1 ≤ m := by omega
      have hmn : 2 * k + m ≤ n := by omega
      have hmi : min (2 : Int) ((n - 2 * k : Nat) : Int) = (m : Int) := by omega
      have hms : (2 * k + m) - 2 * k = m := by omega
      have hrk := List.range_succ (n := k)
      obtain ⟨fn, tmps, assign, body, hy, hR⟩ := HY.out pre ⟨k, hlt⟩ wr.drew (HD.out pre wr HJ.out) (by omega)
      dsimp only [encC] at hy
      rw [hm] at hy
      have HR := Lib.hid hR; have HRK := Lib.hid hrk; clear hR hrk hm
      gi_wp2
      gi_region
      clear hmi
      gi_wp2
      refine HR.out.mono ?_
      rintro e W3 (⟨rfl, hJ3, hk3⟩ | ⟨rfl, hJx3⟩)
      · have HJ3 := Lib.hid hJ3
        have hc13 := hk3.1.trans hc1
        have hc23 := hk3.2.trans hc2
        clear hJ3 hy hk3 hc1 hc2
        gi_wp2
        go_roundw
        case rel => exact ⟨k + 1, pre ++ [⟨k, hlt⟩], by omega, by simp [hpl], by go_num, Lib.hid (by rw [HRK.out, List.map_append, HP.out]; rfl), HJ3, hc13, hc23⟩
        case measure => simp [intOf]; omega
      · clear hy
        gi_wp2
        refine bodyPost_ret (results_none rfl _ _ _) rfl ?_
        exact ⟨⟨_, rfl⟩, .inr ⟨_, trivial, hJx3⟩⟩
    · obtain rfl : k = (n + 1) / 2 := by omega
      gi_wp2
      go_end0
      exact ⟨⟨_, rfl⟩, .inl ⟨_, HP.out, HJ.out⟩⟩
end Go.Proofs.YtkjgdgocjnocaaaDoor
