/-
  The walks of the small functions: halves, neighbours, the digests of leaves and nodes.
-/
import Derived.Test.YtkjgdgocjnocaaaDoorCalls
import Derived.Test.YtkjgdgocjnocaaaDoorMathTree
import Derived.Laws.BitsAllLaws
namespace Go.Proofs.YtkjgdgocjnocaaaDoor
open Go.RowKit Go.Sort Foyer.Digest Foyer.Tree

theorem xor_one (a : Nat) : a ^^^ 1 = sib a := by
  have h1 : (a ^^^ 1) / 2 = a / 2 := by rw [Nat.xor_div_two]; simp
  have h2 : ((a ^^^ 1) % 2 = 1) ↔ ¬ (a % 2 = 1) := by
    by_cases e : a % 2 = 1 <;> simp [e]
  unfold sib
  by_cases e : a % 2 = 1
  · have h3 := fun h => (h2.1 h) e
    rw [if_neg (by omega)]; omega
  · have h3 := h2.2 e
    rw [if_pos (by omega)]; omega
theorem sib_lt {a : Nat} (h : a < 9223372036854775808) : sib a < 9223372036854775808 := by unfold sib; split <;> omega
theorem xor_i64 (a : Nat) (h : a < 9223372036854775808) : bits .xor .i64 (a : Int) 1 = ((sib a : Nat) : Int) := by
  have hs := sib_lt h
  have e1 : (BitVec.ofInt 64 (a : Int)).toNat = a := by
    rw [BitVec.ofInt_natCast, BitVec.toNat_ofNat]; exact Nat.mod_eq_of_lt (by omega)
  have e2 : (BitVec.ofInt 64 (1 : Int)).toNat = 1 := by decide
  show IntKind.i64.wrap ((BitVec.ofInt 64 (a : Int) ^^^ BitVec.ofInt 64 (1 : Int)).toNat : Int) = _
  rw [BitVec.toNat_xor, e1, e2, xor_one]
  simp [IntKind.wrap, IntKind.bits, IntKind.signed]
  omega

theorem halved_any (n : Nat) (h : n < 9223372036854775808) (w : World) :
    Calls Tryd.prog 29 #[.int .i64 n] w fun e w' => e = .returned (.int .i64 ((n + 1) / 2 : Nat)) ∧ w = w' := by
  have e : ((n : Int) / 2 + (n : Int) % 2) = (((n + 1) / 2 : Nat) : Int) := by omega
  go_enter Tryd.func29, Tryd.ntmps29
  go_wp2
  go_ret
  exact ⟨by simp, rfl⟩
theorem neighbour_any (i : Nat) (h : i < 9223372036854775808) (w : World) :
    Calls Tryd.prog 23 #[.int .i64 i] w fun e w' => e = .returned (.int .i64 (sib i : Nat)) ∧ w = w' := by
  have hx := xor_i64 i h
  go_enter Tryd.func23, Tryd.ntmps23
  go_wp2
  go_ret
  exact ⟨rfl, rfl⟩
theorem digestOf_any (ls : List (List UInt8)) (m : List UInt8) (k : Nat) (hk : ls.length = k) (h : listSum ls = m) (p : Option Addr) (cap : Nat) (w : World) (hr : RdS w p ls) (hl : k ≤ 1000) (ht : ∀ t ∈ ls, t.length ≤ 1000000) (hE : Env w) :
    Calls Tryd.prog 26 #[.slice p k cap] w fun e w' => e = .returned (.string ⟨m.toArray⟩) ∧ Below w.heap.size w w' := by
  have hc := list_c ls m k hk h p cap w hr hl ht hE
  have HC := Lib.hid hc; clear hc
  go_enter Tryd.func26, Tryd.ntmps26
  go_wp2_with fail
  refine HC.out.mono ?_; rintro e w1 ⟨rfl, hb1⟩
  go_wp2
  go_ret
  exact ⟨rfl, hb1⟩
theorem rd_three (w : World) (a b c : List UInt8) (T : TypeId) : RdS (w.alloc (.cells #[.string ⟨a.toArray⟩, .string ⟨b.toArray⟩, .string ⟨c.toArray⟩] T)) (some ⟨w.heap.size, 0, none⟩) [a, b, c] := by
  refine Or.inr ⟨w.heap.size, 0, rfl, by simp, fun j hj => ?_⟩
  match j, hj with
  | 0, _ => simp
  | 1, _ => simp
  | 2, _ => simp
theorem leafDigest_any (t : List UInt8) (m : List UInt8) (h : leafD t = m) (ht : t.length ≤ 1000000) (w : World) (hE : Env w) :
    Calls Tryd.prog 28 #[.string ⟨t.toArray⟩] w fun e w' => e = .returned (.string ⟨m.toArray⟩) ∧ Below w.heap.size w w' := by
  have HE := Lib.hid hE; clear hE
  have HS : Hid (Since w w) := Below.refl _ _
  have HL : Hid (∀ x ∈ [sLeaf, t], x.length ≤ 1000000) := fun x hx => by
    simp only [List.mem_cons, List.not_mem_nil, or_false] at hx
    rcases hx with rfl | rfl
    · decide
    · exact ht
  go_enter Tryd.func28, Tryd.ntmps28
  go_wp2_with fail
  refine (digestOf_any [sLeaf, t] m 2 rfl h _ _ _ (rd_two w sLeaf t _) (by decide) HL.out (HE.out.below (HS.out.alloc _))).mono ?_; rintro e w1 ⟨rfl, hb1⟩
  have HS1 := Lib.hid ((HS.out.alloc _).call hb1); clear hb1
  go_wp2
  go_ret
  exact ⟨rfl, HS1.out⟩
theorem nodeDigest_any (a b : List UInt8) (m : List UInt8) (h : nodeD a b = m) (ha : a.length ≤ 1000000) (hb : b.length ≤ 1000000) (w : World) (hE : Env w) :
    Calls Tryd.prog 43 #[.string ⟨a.toArray⟩, .string ⟨b.toArray⟩] w fun e w' => e = .returned (.string ⟨m.toArray⟩) ∧ Below w.heap.size w w' := by
  have HE := Lib.hid hE; clear hE
  have HS : Hid (Since w w) := Below.refl _ _
  have HL : Hid (∀ x ∈ [sNode, a, b], x.length ≤ 1000000) := fun x hx => by
    simp only [List.mem_cons, List.not_mem_nil, or_false] at hx
    rcases hx with rfl | rfl | rfl
    · decide
    · exact ha
    · exact hb
  go_enter Tryd.func43, Tryd.ntmps43
  go_wp2_with fail
  refine (digestOf_any [sNode, a, b] m 3 rfl h _ _ _ (rd_three w sNode a b _) (by decide) HL.out (HE.out.below (HS.out.alloc _))).mono ?_; rintro e w1 ⟨rfl, hb1⟩
  have HS1 := Lib.hid ((HS.out.alloc _).call hb1); clear hb1
  go_wp2
  go_ret
  exact ⟨rfl, HS1.out⟩
theorem joined_any (i : Nat) (own beside : List UInt8) (m : List UInt8) (hi : i < 9223372036854775808) (h : join i own beside = m) (ha : own.length ≤ 1000000) (hb : beside.length ≤ 1000000) (w : World) (hE : Env w) :
    Calls Tryd.prog 30 #[.int .i64 i, .string ⟨own.toArray⟩, .string ⟨beside.toArray⟩] w fun e w' => e = .returned (.string ⟨m.toArray⟩) ∧ Below w.heap.size w w' := by
  have HE := Lib.hid hE; clear hE
  have HA := Lib.hid ha; have HB := Lib.hid hb; clear ha hb
  unfold join at h
  by_cases hm : i % 2 = 0
  · rw [if_pos hm] at h
    have hz : (i : Int) % 2 = 0 := by omega
    go_enter Tryd.func30, Tryd.ntmps30
    go_wp2_with fail
    refine (nodeDigest_any own beside m h HA.out HB.out _ HE.out).mono ?_; rintro e w1 ⟨rfl, hb1⟩
    go_wp2
    go_ret
    exact ⟨rfl, hb1⟩
  · rw [if_neg hm] at h
    have hz : (i : Int) % 2 = 1 := by omega
    go_enter Tryd.func30, Tryd.ntmps30
    go_wp2_with fail
    refine (nodeDigest_any beside own m h HB.out HA.out _ HE.out).mono ?_; rintro e w1 ⟨rfl, hb1⟩
    go_wp2
    go_ret
    exact ⟨rfl, hb1⟩
end Go.Proofs.YtkjgdgocjnocaaaDoor
