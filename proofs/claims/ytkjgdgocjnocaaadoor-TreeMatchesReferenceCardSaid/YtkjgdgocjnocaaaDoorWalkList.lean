/-
  The walk of the digest of a list.
-/
import Derived.Test.YtkjgdgocjnocaaaDoorWalkIs
import Derived.BigCall
import Derived.BigGuard
import Derived.IntWalk
import Derived.Test.YtkjgdgocjnocaaaDoorBuild
import Derived.Test.YtkjgdgocjnocaaaDoorShelf
import Derived.WalkSmall
import Derived.Lib.LaidTab
namespace Go.Proofs.YtkjgdgocjnocaaaDoor
open Go.RowKit Go.Sort Foyer.Digest

theorem gTab : Tryd.prog.globalNamed "internal/strconv.uint64pow10" = some 1 := by kernel_rfl

/-- What the functions ask of the world. -/
structure Env (w : World) : Prop where
  tab : Lib.TabIs Tryd.prog w "internal/strconv.uint64pow10" .u64 Lib.pow10Tab
  hex : HexTab w
theorem Env.below {w w' : World} (h : Env w) (hb : Below w.heap.size w w') : Env w' := by
  obtain ⟨ht, hh⟩ := h
  have h0 := ht.cell gTab 0 (by decide)
  exact ⟨var?_below hb gTab (lt_of_cell h0) ht, hh.below hb⟩

theorem itoa_call (n : Int) (h0 : -9223372036854775808 ≤ n) (h1 : n ≤ 9223372036854775807) (w : World) (hE : Env w) :
    Calls Tryd.prog 35 #[.int .i64 n] w fun e w' => e = .returned (.string ⟨(Lib.itoa n).toArray⟩) ∧ Below w.heap.size w w' :=
  (Tryd.strconv_Itoa n h0 h1 w hE.tab).mono fun _ _ ⟨he, k, os, hw⟩ => ⟨he, by rw [hw]; exact below_grow' w k os⟩

theorem item_length (t : List UInt8) (h : t.length ≤ 1000000) : (item t).length ≤ 1000010 := by
  unfold item
  have h1 := dec_length t.length
  have h2 := nDigits_le 6 t.length (by have : (10 : Nat) ^ (6 + 1) = 10000000 := by decide
                                       omega)
  simp only [List.length_append, List.length_cons]; omega
theorem joined_take_length (ls : List (List UInt8)) (h : ∀ t ∈ ls, t.length ≤ 1000000) : ∀ k, k ≤ ls.length → (joined (ls.take k)).length ≤ 1000010 * k
  | 0, _ => by simp [joined]
  | k + 1, hk => by
    have ih := joined_take_length ls h k (by omega)
    have hi := item_length ls[k] (h _ (List.getElem_mem _))
    rw [List.take_succ_eq_append_getElem (by omega), joined_snoc, List.length_append]; omega
theorem joined_take_succ (ls : List (List UInt8)) (k : Nat) (hk : k < ls.length) : joined (ls.take (k + 1)) = joined (ls.take k) ++ (Lib.decDigits (ls.getD k []).length ++ 58 :: ls.getD k []) := by
  rw [List.take_succ_eq_append_getElem hk, joined_snoc]
  simp [item, List.getD_eq_getElem?_getD, hk]

set_option maxHeartbeats 2000000 in
set_option maxRecDepth 100000 in
theorem list_any (ls : List (List UInt8)) (p : Option Addr) (cap : Nat) (w : World) (hr : RdS w p ls) (hl : ls.length ≤ 1000) (ht : ∀ t ∈ ls, t.length ≤ 1000000) (hE : Env w) :
    Calls Tryd.prog 21 #[.slice p ls.length cap] w fun e w' => e = .returned (.string ⟨(listSum ls).toArray⟩) ∧ Below w.heap.size w w' := by
  have HE := Lib.hid hE; clear hE
  have HR := Lib.hid hr; clear hr
  have HJ := Lib.hid (joined_take_length ls ht)
  have HTL : Hid (∀ k, k < ls.length → (ls.getD k []).length ≤ 1000000) := fun k hk => by
    rw [List.getD_eq_getElem?_getD, List.getElem?_eq_getElem hk]; exact ht _ (List.getElem_mem hk)
  clear ht
  go_enter Tryd.func21, Tryd.ntmps21
  go_wp2
  go_loopw [8] (fun i wr => ∃ k : Nat, k ≤ ls.length ∧ i = .int .i64 k ∧ Hid (Builds w.heap.size w.heap.size (Lib.byteCells (joined (ls.take k))) wr) ∧ Hid (Below w.heap.size w wr)) (fun i _ => ls.length - (intOf i).toNat)
  case atStart => exact ⟨0, Nat.zero_le _, rfl, Lib.hid (builds_fresh w), Lib.hid ((Below.refl _ _).alloc (Nat.le_refl _) _)⟩
  case round =>
    obtain ⟨k, hk, rfl, HI, HB⟩ := hrel
    by_cases hlt : k < ls.length
    · have HN := Lib.hid (joined_take_succ ls k hlt)
      have hjl := HJ.out k hk
      have htl := HTL.out k hlt
      rcases (HR.out.below (Nat.le_refl _) HB.out) with e | ⟨b, off, rfl, _, hc⟩
      · rw [e] at hlt; simp at hlt
      · have hck := hc k hlt
        clear hc
        have hlen : (⟨(ls.getD k []).toArray⟩ : ByteArray).size = (ls.getD k []).length := size_of_list _
        generalize ls.getD k [] = t at *
        have hd := itoa_nat t.length
        have hdl := dec_length t.length
        have hdl2 := nDigits_le 6 t.length (by have : (10 : Nat) ^ (6 + 1) = 10000000 := by decide
                                               omega)
        have HLS : Hid ((Lib.byteCells (joined (ls.take k))).length + 1000020 ≤ 140737488355328) := by
          show _ ≤ _
          rw [Lib.byteCells_length]; omega
        have HD := Lib.hid hd; have HDL : Hid ((Lib.decDigits t.length).length ≤ 7) := by show _ ≤ _; omega
        have HTL2 : Hid (t.length ≤ 1000000) := htl
        clear hd hdl hdl2 hjl
        generalize joined (ls.take k) = j at *
        go_wp2_with fail
        refine (itoa_call _ (by omega) (by omega) _ (HE.out.below HB.out)).mono ?_; rintro e w1 ⟨rfl, hb1⟩
        have HI1 := Lib.hid (HI.out.below hb1)
        have HB1 := Lib.hid (below_trans HB.out (Nat.le_refl _) hb1)
        clear hb1
        rw [HD.out]
        generalize Lib.decDigits t.length = d at *
        have hds : (⟨d.toArray⟩ : ByteArray).size = d.length := size_of_list _
        go_wp2_with fail
        refine (writeString_any w.heap.size w.heap.size _ ⟨d.toArray⟩ _ HI1.out (by have := HLS.out; have := HDL.out; omega) HB1.out.size).mono ?_; rintro e w2 ⟨rfl, hI2, hb2⟩
        have HI2 := Lib.hid hI2
        have HB2 := Lib.hid (HB1.out.trans hb2)
        clear hI2 hb2
        go_wp2_with fail
        refine (writeByte_any w.heap.size w.heap.size _ 58 _ HI2.out.builds (by rw [List.length_append, Lib.strCells_length]; have := HLS.out; have := HDL.out; omega) HB2.out.size).mono ?_; rintro e w3 ⟨rfl, hI3, hb3⟩
        have HI3 := Lib.hid hI3
        have HB3 := Lib.hid (HB2.out.trans hb3)
        clear hI3 hb3
        go_wp2_with fail
        refine (writeString_any w.heap.size w.heap.size _ ⟨t.toArray⟩ _ HI3.out.builds (by rw [List.length_append, List.length_append, Lib.strCells_length]; simp only [List.length_cons, List.length_nil]; have := HLS.out; have := HDL.out; have := HTL2.out; omega) HB3.out.size).mono ?_; rintro e w4 ⟨rfl, hI4, hb4⟩
        have HI4 := Lib.hid hI4
        have HB4 := Lib.hid (HB3.out.trans hb4)
        clear hI4 hb4
        go_wp2
        go_roundw
        case rel =>
          refine ⟨k + 1, by omega, by go_num, Lib.hid ?_, HB4⟩
          rw [HN.out]
          have e : Lib.byteCells (j ++ (d ++ 58 :: t)) = Lib.byteCells j ++ Lib.strCells ⟨d.toArray⟩ ++ [.int .u8 58] ++ Lib.strCells ⟨t.toArray⟩ := by
            rw [Lib.strCells_eq, Lib.strCells_eq]
            simp [Lib.byteCells]
          exact HI4.out.builds.cast e.symm
        case measure => simp [intOf]; omega
    · have HI' : Hid (Builds w.heap.size w.heap.size (Lib.byteCells (joined ls)) wr) := by
        have := HI.out
        rw [List.take_of_length_le (by omega)] at this
        exact this
      have HJL : Hid ((joined ls).length ≤ 1000000000000) := by
        have := HJ.out ls.length (Nat.le_refl _)
        rw [List.take_length] at this
        show _ ≤ _; omega
      have HS : Hid (listSum ls = sum (joined ls)) := rfl
      clear HI
      generalize joined ls = j at *
      go_wp2_with fail
      refine (Tryd.Builder_String_any w.heap.size w.heap.size j _ HI'.out HB.out.size).mono ?_; rintro e w1 ⟨rfl, hb1⟩
      have HB1 := Lib.hid (HB.out.trans hb1)
      clear hb1
      go_wp2_with fail
      refine (sum_l j HJL.out _ (HE.out.below HB1.out).hex).mono ?_; rintro e w2 ⟨rfl, hb2⟩
      have HB2 := Lib.hid (below_trans HB1.out (Nat.le_refl _) hb2)
      clear hb2
      go_wp2
      go_ret
      exact ⟨by rw [HS.out]; rfl, HB2.out⟩
end Go.Proofs.YtkjgdgocjnocaaaDoor
