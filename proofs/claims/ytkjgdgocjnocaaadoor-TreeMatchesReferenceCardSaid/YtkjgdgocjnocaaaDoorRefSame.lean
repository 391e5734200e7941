/-
  The document's own equality of lists.
-/
import Derived.Test.YtkjgdgocjnocaaaDoorBase
import Derived.BigCall
import Derived.BigGuard
namespace Go.Proofs.YtkjgdgocjnocaaaDoor
open Go.RowKit Go.Sort

theorem differ_at {a b : List (List UInt8)} {k : Nat} (hn : a.getD k [] ≠ b.getD k []) : (a == b) = false := by
  rw [beq_eq_false_iff_ne]
  intro e; subst e; exact hn rfl
theorem equal_upto {a b : List (List UInt8)} (hl : a.length = b.length) (h : ∀ j, j < a.length → a.getD j [] = b.getD j []) : (a == b) = true := by
  rw [beq_iff_eq]
  refine List.ext_getElem hl fun j h1 h2 => ?_
  have := h j h1
  simpa [List.getD_eq_getElem?_getD, h1, h2] using this

set_option maxRecDepth 100000 in
set_option maxHeartbeats 1000000 in
theorem rsame_any (a b : List (List UInt8)) (p q : Option Addr) (c1 c2 : Nat) (w : World) (ha : RdS w p a) (hb : RdS w q b) (hl : a.length ≤ 1000) :
    Calls Tryd.prog 15 #[.slice p a.length c1, .slice q b.length c2] w fun e w' => e = .returned (.bool (a == b)) ∧ ∃ n, w' = w.drewN n := by
  by_cases hne : a.length = b.length
  · have hneq : ((a.length : Int) != (b.length : Int)) = false := by simp [hne]
    have HNE := Lib.hid hne
    have HA := Lib.hid ha; have HB := Lib.hid hb
    have HD : Hid (∀ k, k < a.length → a.getD k [] ≠ b.getD k [] → (a == b) = false) := fun k _ hn => differ_at hn
    have HE : Hid ((∀ j, j < a.length → a.getD j [] = b.getD j []) → (a == b) = true) := equal_upto hne
    clear ha hb hne
    generalize hr : (a == b) = r at *
    have HR := Lib.hid hr; clear hr
    go_enter Tryd.func15, Tryd.ntmps15
    go_wp2
    go_loopw [5] (fun i wr => ∃ k n : Nat, k ≤ a.length ∧ i = .int .i64 k ∧ Hid (∀ j, j < k → a.getD j [] = b.getD j []) ∧ wr = w.drewN n) (fun i _ => a.length - (intOf i).toNat)
    case atStart => exact ⟨0, 0, Nat.zero_le _, rfl, Lib.hid (fun j hj => by omega), rfl⟩
    case round =>
      obtain ⟨k, n, hk, rfl, HK, rfl⟩ := hrel
      by_cases hlt : k < a.length
      · rcases HA.out with e | ⟨b1, o1, rfl, _, hc1⟩
        · rw [e] at hlt; simp at hlt
        · rcases HB.out with e | ⟨b2, o2, rfl, _, hc2⟩
          · have h0 := HNE.out; have : b.length = 0 := by rw [e]; rfl
            omega
          · have hk1 := hc1 k hlt
            have hk2 := hc2 k (by rw [← HNE.out]; exact hlt)
            have hltb : k < b.length := by rw [← HNE.out]; exact hlt
            have HDk := Lib.hid (HD.out k hlt)
            have HN2 : Hid (a.getD k [] = b.getD k [] → ∀ j, j < k + 1 → a.getD j [] = b.getD j []) := fun hh j hj => by
              by_cases e : j = k
              · rw [e]; exact hh
              · exact HK.out j (by omega)
            clear hc1 hc2
            generalize a.getD k [] = x at *
            generalize b.getD k [] = y at *
            by_cases hxy : x = y
            · have HN3 := Lib.hid (HN2.out hxy)
              have hb' : (x == y) = true := by simp [hxy]
              clear hxy HN2 HDk
              go_wp2
              go_quiet (fail)
              go_wp2
              go_roundw
              case rel => exact ⟨k + 1, n + nq, by omega, by go_num, HN3, rfl⟩
              case measure => simp [intOf]; omega
            · have HF := Lib.hid (HDk.out hxy)
              have hb' : (x == y) = false := by simp [hxy]
              clear hxy HN2 HDk
              go_wp2
              go_quiet (fail)
              go_wp2
              go_ret
              exact ⟨by rw [HF.out]; rfl, n + nq, by rw [World.drewN_drewN]⟩
      · have HF := Lib.hid (HE.out (fun j hj => HK.out j (by omega)))
        go_wp2
        go_ret
        exact ⟨by rw [HF.out]; rfl, n, rfl⟩
  · have hneq : ((a.length : Int) != (b.length : Int)) = true := by simp; omega
    have hr : (a == b) = false := by
      rw [beq_eq_false_iff_ne]; intro e; exact hne (by rw [e])
    rw [hr]
    clear hr hne ha hb
    go_enter Tryd.func15, Tryd.ntmps15
    go_wp2
    go_ret
    exact ⟨rfl, 0, rfl⟩
theorem rsame_c (a b : List (List UInt8)) (r : Bool) (h : (a == b) = r) (i j : Nat) (hi : a.length = i) (hj : b.length = j) (p q : Option Addr) (c1 c2 : Nat) (w : World) (ha : RdS w p a) (hb : RdS w q b) (hl : i ≤ 1000) :
    Calls Tryd.prog 15 #[.slice p i c1, .slice q j c2] w fun e w' => e = .returned (.bool r) ∧ Below w.heap.size w w' := by
  rw [← h, ← hi, ← hj]
  exact (rsame_any a b p q c1 c2 w ha hb (by omega)).mono fun e w' ⟨he, n, hw⟩ => ⟨he, by rw [hw]; exact below_drewN (Below.refl _ _) n⟩
end Go.Proofs.YtkjgdgocjnocaaaDoor
