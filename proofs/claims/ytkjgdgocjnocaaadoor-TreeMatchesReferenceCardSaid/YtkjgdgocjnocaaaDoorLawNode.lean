/-
  The walks of the law's own digests of leaves and nodes, and of its test for two lists with one digest.
-/
import Derived.Test.YtkjgdgocjnocaaaDoorWalkNode
import Derived.Test.YtkjgdgocjnocaaaDoorRefSame
namespace Go.Proofs.YtkjgdgocjnocaaaDoor
open Go.RowKit Go.Sort Foyer.Digest Foyer.Tree

theorem two_le {a b : List UInt8} {n : Nat} (ha : a.length ≤ n) (hb : b.length ≤ n) : ∀ x ∈ [a, b], x.length ≤ n := fun x hx => by
  simp only [List.mem_cons, List.not_mem_nil, or_false] at hx
  rcases hx with rfl | rfl <;> assumption
theorem three_le {a b c : List UInt8} {n : Nat} (ha : a.length ≤ n) (hb : b.length ≤ n) (hc : c.length ≤ n) : ∀ x ∈ [a, b, c], x.length ≤ n := fun x hx => by
  simp only [List.mem_cons, List.not_mem_nil, or_false] at hx
  rcases hx with rfl | rfl | rfl <;> assumption
theorem one_le {a : List UInt8} {n : Nat} (ha : a.length ≤ n) : ∀ x ∈ [a], x.length ≤ n := fun x hx => by
  simp only [List.mem_cons, List.not_mem_nil, or_false] at hx
  rcases hx with rfl; assumption
theorem leaf_c (t : List UInt8) (m : List UInt8) (h : leafD t = m) (ht : t.length ≤ 1000000) (w : World) (hE : Env w) :
    Calls Tryd.prog 20 #[.string ⟨t.toArray⟩] w fun e w' => e = .returned (.string ⟨m.toArray⟩) ∧ Below w.heap.size w w' := by
  have HE := Lib.hid hE; clear hE
  have HS : Hid (Since w w) := Below.refl _ _
  go_enter Tryd.func20, Tryd.ntmps20
  go_wp2_with fail
  refine (list_c [sLeaf, t] m 2 rfl h _ _ _ (rd_two w sLeaf t _) (by decide) (two_le (by decide) ht) (HE.out.below (HS.out.alloc _))).mono ?_; rintro e w1 ⟨rfl, hb1⟩
  have HS1 := Lib.hid ((HS.out.alloc _).call hb1); clear hb1
  go_wp2
  go_ret
  exact ⟨rfl, HS1.out⟩
theorem node_c (a b : List UInt8) (m : List UInt8) (h : nodeD a b = m) (ha : a.length ≤ 1000000) (hb : b.length ≤ 1000000) (w : World) (hE : Env w) :
    Calls Tryd.prog 19 #[.string ⟨a.toArray⟩, .string ⟨b.toArray⟩] w fun e w' => e = .returned (.string ⟨m.toArray⟩) ∧ Below w.heap.size w w' := by
  have HE := Lib.hid hE; clear hE
  have HS : Hid (Since w w) := Below.refl _ _
  go_enter Tryd.func19, Tryd.ntmps19
  go_wp2_with fail
  refine (list_c [sNode, a, b] m 3 rfl h _ _ _ (rd_three w sNode a b _) (by decide) (three_le (by decide) ha hb) (HE.out.below (HS.out.alloc _))).mono ?_; rintro e w1 ⟨rfl, hb1⟩
  have HS1 := Lib.hid ((HS.out.alloc _).call hb1); clear hb1
  go_wp2
  go_ret
  exact ⟨rfl, HS1.out⟩
theorem collide_c (a b : List (List UInt8)) (r : Bool) (h : collide a b = r) (i j : Nat) (hi : a.length = i) (hj : b.length = j) (p q : Option Addr) (c1 c2 : Nat) (w : World) (ha : RdS w p a) (hb : RdS w q b) (hli : i ≤ 1000) (hlj : j ≤ 1000) (hta : ∀ t ∈ a, t.length ≤ 1000000) (htb : ∀ t ∈ b, t.length ≤ 1000000) (hE : Env w) :
    Calls Tryd.prog 33 #[.slice p i c1, .slice q j c2] w fun e w' => e = .returned (.bool r) ∧ Below w.heap.size w w' := by
  have HE := Lib.hid hE; have HA := Lib.hid ha; have HB := Lib.hid hb; have HTA := Lib.hid hta; have HTB := Lib.hid htb
  have HS : Hid (Since w w) := Below.refl _ _
  obtain ⟨s, hs⟩ : ∃ s, (a == b) = s := ⟨_, rfl⟩
  obtain ⟨x, hx⟩ : ∃ x, listSum a = x := ⟨_, rfl⟩
  obtain ⟨y, hy⟩ : ∃ y, listSum b = y := ⟨_, rfl⟩
  have hr : (!s && (x == y)) = r := by rw [← h, ← hs, ← hx, ← hy]; rfl
  have HSS := Lib.hid hs; have HX := Lib.hid hx; have HY := Lib.hid hy
  clear hE ha hb hta htb hs hx hy h
  cases s
  · have hxy : (x == y) = r := by simpa using hr
    have HXY := Lib.hid hxy; clear hr hxy
    go_enter Tryd.func33, Tryd.ntmps33
    go_wp2_with fail
    refine (rsame_c a b false HSS.out i j hi hj p q c1 c2 _ HA.out HB.out hli).mono ?_; rintro e w1 ⟨rfl, hb1⟩
    have HS1 := Lib.hid (HS.out.call hb1); clear hb1
    go_wp2_with fail
    refine (list_c a x i hi HX.out p c1 _ (HA.out.below (Nat.le_refl _) HS1.out) hli HTA.out (HE.out.below HS1.out)).mono ?_; rintro e w2 ⟨rfl, hb2⟩
    have HS2 := Lib.hid (HS1.out.call hb2); clear hb2
    go_wp2_with fail
    refine (list_c b y j hj HY.out q c2 _ (HB.out.below (Nat.le_refl _) HS2.out) hlj HTB.out (HE.out.below HS2.out)).mono ?_; rintro e w3 ⟨rfl, hb3⟩
    have HS3 := Lib.hid (HS2.out.call hb3); clear hb3
    go_wp2
    go_ret
    exact ⟨by rw [← HXY.out]; rfl, HS3.out⟩
  · have hr0 : r = false := by rw [← hr]; rfl
    subst hr0
    clear hr
    go_enter Tryd.func33, Tryd.ntmps33
    go_wp2_with fail
    refine (rsame_c a b true HSS.out i j hi hj p q c1 c2 _ HA.out HB.out hli).mono ?_; rintro e w1 ⟨rfl, hb1⟩
    have HS1 := Lib.hid (HS.out.call hb1); clear hb1
    go_wp2
    go_ret
    exact ⟨rfl, HS1.out⟩
end Go.Proofs.YtkjgdgocjnocaaaDoor
