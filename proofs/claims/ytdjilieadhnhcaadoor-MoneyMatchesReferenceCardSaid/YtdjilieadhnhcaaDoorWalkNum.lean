/-
  The walks of the functions of money that compute with numbers and read slices: within, Valid, absolute, nearest, validRatio, add, Sum, validWeights, Share, and the law's own total.
-/
import Derived.Test.YtdjilieadhnhcaaDoorProg
import Derived.Test.YtdjilieadhnhcaaDoorMathSplit
import Derived.WalkKit
import Derived.WalkLawsBesides
import Derived.WalkSpells
import Derived.RegionTactic
import Derived.BigQuiet
import Derived.Deep.QuietTactic
import Derived.Outline
import Derived.Lib.Hide
namespace Go.Proofs.YtdjilieadhnhcaaDoor
open Go.RowKit Foyer.Money


/-- A slice of ints that is read: its elements, from the address on. -/
def Rd (w : World) (p : Option Addr) (zs : List Int) : Prop :=
  zs = [] ∨ ∃ b off, p = some ⟨b, off, none⟩ ∧ b < w.heap.size ∧ ∀ j, j < zs.length → w.cell? ⟨b, off + j, none⟩ = some (.int .i64 (zs.getD j 0))

theorem within_yes (n low high : Int) (w : World) (h1 : low ≤ n) (h2 : n ≤ high) :
    Calls Tryd.prog 35 #[.int .i64 n, .int .i64 low, .int .i64 high] w fun e w' => e = .returned (.bool true) ∧ w = w' := by
  go_enter Tryd.func35, Tryd.ntmps35
  go_wp2
  go_ret
  exact ⟨rfl, rfl⟩
theorem within_no (n low high : Int) (w : World) (h : n < low ∨ high < n) :
    Calls Tryd.prog 35 #[.int .i64 n, .int .i64 low, .int .i64 high] w fun e w' => e = .returned (.bool false) ∧ w = w' := by
  by_cases h1 : low ≤ n
  · have h2 : high < n := by omega
    clear h
    go_enter Tryd.func35, Tryd.ntmps35
    go_wp2
    go_ret
    exact ⟨by simp; omega, rfl⟩
  · clear h
    go_enter Tryd.func35, Tryd.ntmps35
    go_wp2
    go_ret
    exact ⟨rfl, rfl⟩

theorem valid_yes (n : Int) (w : World) (h : valid n = true) :
    Calls Tryd.prog 20 #[.int .i64 n] w fun e w' => e = .returned (.bool true) ∧ w = w' := by
  obtain ⟨h1, h2⟩ := valid_iff.1 h
  clear h
  go_enter Tryd.func20, Tryd.ntmps20
  go_wp2_with (go_at_call 35; refine (within_yes _ _ _ _ h1 h2).mono ?_; rintro e w' ⟨rfl, rfl⟩)
  go_ret
  exact ⟨rfl, rfl⟩
theorem valid_no (n : Int) (w : World) (h : valid n = false) :
    Calls Tryd.prog 20 #[.int .i64 n] w fun e w' => e = .returned (.bool false) ∧ w = w' := by
  have H := valid_false.1 h
  clear h
  go_enter Tryd.func20, Tryd.ntmps20
  go_wp2_with (go_at_call 35; refine (within_no _ _ _ _ H).mono ?_; rintro e w' ⟨rfl, rfl⟩)
  go_ret
  exact ⟨rfl, rfl⟩
theorem valid_any (n : Int) (w : World) :
    Calls Tryd.prog 20 #[.int .i64 n] w fun e w' => e = .returned (.bool (valid n)) ∧ w = w' := by
  cases h : valid n
  · exact valid_no n w h
  · exact valid_yes n w h

/-! ### A sum of numbers -/
theorem sum_take_bd (zs : List Int) (h : ∀ z ∈ zs, -10000000000 ≤ z ∧ z ≤ 10000000000) (k : Nat) (hk : k ≤ zs.length) :
    -(10000000000 * (k : Int)) ≤ (zs.take k).sum ∧ (zs.take k).sum ≤ 10000000000 * (k : Int) := by
  induction k with
  | zero => simp
  | succ k ih =>
    have ih := ih (by omega)
    have e : zs.take (k + 1) = zs.take k ++ [zs[k]] := by rw [List.take_succ_eq_append_getElem (by omega)]
    have hb := h zs[k] (List.getElem_mem _)
    rw [e, List.sum_append]; simp only [List.sum_cons, List.sum_nil]; omega
theorem sum_take_succ (zs : List Int) (k : Nat) (hk : k < zs.length) : (zs.take (k + 1)).sum = (zs.take k).sum + zs.getD k 0 := by
  rw [List.take_succ_eq_append_getElem (by omega), List.sum_append]
  simp [List.getD_eq_getElem?_getD, List.getElem?_eq_getElem hk]

theorem add_any (zs : List Int) (p : Option Addr) (cap : Nat) (w : World) (h : Rd w p zs) (hl : zs.length ≤ 1000) (hb : ∀ z ∈ zs, -10000000000 ≤ z ∧ z ≤ 10000000000) :
    Calls Tryd.prog 25 #[.slice p zs.length cap] w fun e w' => e = .returned (.int .i64 zs.sum) ∧ w = w' := by
  have hbd := fun k hk => sum_take_bd zs hb k hk
  have hsum : (zs.take zs.length).sum = zs.sum := by rw [List.take_length]
  have Hbd := Lib.hid hbd; clear hbd
  have Hsum := Lib.hid hsum; clear hsum
  have Hb := Lib.hid hb; clear hb
  have Hr := Lib.hid h; clear h
  go_enter Tryd.func25, Tryd.ntmps25
  go_wp2
  go_loop [3, 8] (fun t i => ∃ k : Nat, k ≤ zs.length ∧ i = .int .i64 k ∧ t = .int .i64 (zs.take k).sum) (fun _ i => zs.length - (intOf i).toNat)
  case atStart => exact ⟨0, Nat.zero_le _, rfl, rfl⟩
  case round =>
    obtain ⟨k, hk, rfl, rfl⟩ := hrel
    by_cases hlt : k < zs.length
    · have hs := sum_take_succ zs k hlt
      have Hs := Lib.hid hs; clear hs
      have hbk := Hbd.out k hk
      have hbk' := Hbd.out (k + 1) hlt
      rw [Hs.out] at hbk'
      rcases Hr.out with e | ⟨b, off, rfl, _, hc⟩
      · rw [e] at hlt; simp at hlt
      · have hck := hc k hlt
        clear hc
        generalize zs.getD k 0 = z at *
        go_wp2
        go_round
        case rel => exact ⟨k + 1, by omega, by go_num, by rw [Hs.out]⟩
        case measure => simp [intOf]; omega
    · have e : k = zs.length := by omega
      subst e
      go_wp2
      go_ret
      exact ⟨by first | rfl | rw [Hsum.out], rfl⟩
end Go.Proofs.YtdjilieadhnhcaaDoor
