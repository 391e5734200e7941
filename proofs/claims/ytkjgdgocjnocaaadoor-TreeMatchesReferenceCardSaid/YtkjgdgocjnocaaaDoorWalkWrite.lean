/-
  The walk of writing a state as sixteen hexadecimal digits.
-/
import Derived.Test.YtkjgdgocjnocaaaDoorWalkMix
import Derived.Laws.IdiomStrings
import Derived.BigRegion
import Derived.StillTailTactics
import Derived.Below
namespace Go.Proofs.YtkjgdgocjnocaaaDoor
open Go.RowKit Foyer.Digest

/-- The table of digits. -/
def HexTab (w : World) : Prop := ∀ d, d < 16 → w.cell? ⟨0, d, none⟩ = some (.int .u8 (hexD d).toNat)

/-- The array after i rounds. -/
def dg (s i j : Nat) : Int := if 16 ≤ j + i then (hexD (s / 16 ^ (15 - j) % 16)).toNat else 0

set_option maxRecDepth 100000 in
theorem write_any (s : Nat) (h : s < big) (w : World) (hT : HexTab w) :
    Calls Tryd.prog 48 #[.int .u64 s] w fun e w' => e = .returned (.string ⟨(hexN 16 s).toArray⟩) ∧ Below w.heap.size w w' := by
  have HT := Lib.hid hT; clear hT
  have HL := Lib.hid h; clear h
  have hg0 : 0 < w.heap.size := by have := HT.out 0 (by decide); exact lt_of_cell this
  go_enter Tryd.func48, Tryd.ntmps48
  go_wp2
  go_loopw [0, 5] (fun v i wr => ∃ k x : Nat, k ≤ 16 ∧ i = .int .i64 k ∧ v = .int .u64 x ∧ Hid (x = s / 16 ^ k) ∧ Hid (∀ j, j < 16 → wr.cell? ⟨w.heap.size, j, none⟩ = some (.int .u8 (dg s k j)) ∧ wr.frozen? ⟨w.heap.size, j, none⟩ = false) ∧ Hid (Below w.heap.size w wr)) (fun _ i _ => 16 - (intOf i).toNat)
  case atStart =>
    refine ⟨0, s, by omega, rfl, rfl, Lib.hid (by simp), Lib.hid (fun j hj => ?_), Lib.hid ((Below.refl _ _).alloc (Nat.le_refl _) _)⟩
    have e : dg s 0 j = 0 := by unfold dg; rw [if_neg (by omega)]
    rw [e]
    refine ⟨?_, by simp⟩
    have e2 : (#[.int .u8 0, .int .u8 0, .int .u8 0, .int .u8 0, .int .u8 0, .int .u8 0, .int .u8 0, .int .u8 0, .int .u8 0, .int .u8 0, .int .u8 0, .int .u8 0, .int .u8 0, .int .u8 0, .int .u8 0, .int .u8 0] : Array Value) = Array.replicate 16 (.int .u8 0) := rfl
    rw [e2, World.cell?_alloc_mark]
    simp [hj]
  case round =>
    obtain ⟨k, x, hk, rfl, rfl, HX, HC, HB⟩ := hrel
    by_cases hlt : k < 16
    · obtain ⟨hc, hf⟩ := HC.out (15 - k) (by omega)
      have hd : x % 16 < 16 := Nat.mod_lt _ (by decide)
      have hxl : x < 18446744073709551616 := by rw [HX.out]; exact Nat.lt_of_le_of_lt (Nat.div_le_self _ _) HL.out
      have ht := HT.out (x % 16) hd
      have ht' : wr.cell? ⟨0, x % 16, none⟩ = some (.int .u8 (hexD (x % 16)).toNat) := by rw [HB.out.cell hg0]; exact ht
      have hb : bits BinOp.and IntKind.u64 (x : Int) 15 = ((x % 16 : Nat) : Int) := by
        have := u64_and_nat x 15 hxl (by decide)
        rw [nat_mask4] at this; exact this
      have hdg : ∀ j, j < 16 → j ≠ 15 - k → dg s (k + 1) j = dg s k j := fun j hj hne => by
        unfold dg
        by_cases h1 : 16 ≤ j + k
        · rw [if_pos h1, if_pos (by omega)]
        · rw [if_neg h1, if_neg (by omega)]
      have hdg2 : dg s (k + 1) (15 - k) = ((hexD (x % 16)).toNat : Int) := by
        unfold dg; rw [if_pos (by omega), HX.out]
        rw [show 15 - (15 - k) = k by omega]
      have hxn : x / 16 = s / 16 ^ (k + 1) := by rw [HX.out, Nat.div_div_eq_div_mul, Nat.pow_succ]
      have HD := Lib.hid hdg; have HD2 := Lib.hid hdg2; have HXN := Lib.hid hxn
      clear hdg hdg2 hxn ht
      generalize x % 16 = d at *
      generalize (hexD d).toNat = c at *
      go_wp2
      go_roundw
      case rel =>
        refine ⟨k + 1, x / 16, by omega, by go_num, by go_num, Lib.hid HXN.out, Lib.hid (fun j hj => ?_), Lib.hid (HB.out.setCell (by simp) _)⟩
        obtain ⟨e1, e2⟩ := HC.out j hj
        by_cases hj' : j = 15 - k
        · subst hj'
          rw [HD2.out]
          exact ⟨World.cell?_setCell_same _ _ _ e1, by rw [World.frozen?_setCell]; exact e2⟩
        · rw [HD.out j hj hj', World.frozen?_setCell, World.cell?_setCell_other _ _ _ _ (by intro e; injection e with _ e' _; omega)]
          exact ⟨e1, e2⟩
      case measure => simp [intOf]; omega
    · have hk16 : k = 16 := by omega
      subst hk16
      have hrun : (convert 46 9 (.slice (some ⟨w.heap.size, 0, none⟩) 16 16)).run Tryd.prog wr = .ok (.string ⟨(hexN 16 s).toArray⟩) wr := by
        have := run_convert_bytes_back (P := Tryd.prog) wr 46 9 5 ⟨w.heap.size, 0, none⟩ 16 (hexN 16 s) Tryd.underlying46 Tryd.underlying5 Tryd.underlying9 (fun j hj => by
          rw [hexN_length] at hj
          have hc := (HC.out j hj).1
          have hadd : (⟨w.heap.size, 0, none⟩ : Addr).add j = ⟨w.heap.size, j, none⟩ := by unfold Addr.add; split <;> simp_all
          rw [hadd, hc]
          unfold dg
          rw [if_pos (by omega), hexN_at 16 s j hj])
        rw [hexN_length] at this
        exact this
      go_wp2
      go_ret
      exact ⟨rfl, HB.out⟩
end Go.Proofs.YtkjgdgocjnocaaaDoor
