/-
  The document's own joined text and digest of a list; equality of lists.
-/
import Derived.Test.YtkjgdgocjnocaaaDoorRefJoined
import Derived.Lib.UnsafeStr
namespace Go.Proofs.YtkjgdgocjnocaaaDoor
open Go.RowKit Go.Sort Foyer.Digest

/-- What a row of the call's own reads as, made a string. -/
theorem conv_own {w : World} {B : Nat} {v : Value} {l : List UInt8} (h : w.ownsRow B 5 1 v l.length (Lib.byteCells l)) :
    (convert 46 9 v).run Tryd.prog w = .ok (.string ⟨l.toArray⟩) w := by
  rcases h.2 with ⟨rfl, h0⟩ | ⟨g, cap, cur, rfl, _⟩
  · have hl : l = [] := List.length_eq_zero_iff.1 h0
    subst hl
    rw [run_convert_bytes_nil w 46 5 Tryd.underlying46 Tryd.underlying5 0 0 9 Tryd.underlying9]
    rfl
  · refine run_convert_bytes_back (P := Tryd.prog) w 46 9 5 ⟨g, 0, none⟩ cap l Tryd.underlying46 Tryd.underlying5 Tryd.underlying9 (fun j hj => ?_)
    have hadd : (⟨g, 0, none⟩ : Addr).add j = ⟨g, j, none⟩ := by unfold Addr.add; split <;> simp_all
    rw [hadd, h.cellAt j (by simpa using hj)]
    simp [Lib.byteCells, hj]

set_option maxRecDepth 100000 in
set_option maxHeartbeats 4000000 in
theorem rjoined_any (ls : List (List UInt8)) (p : Option Addr) (cap : Nat) (w : World) (hr : RdS w p ls) (hl : ls.length ≤ 1000) (ht : ∀ t ∈ ls, t.length ≤ 1000000) :
    Calls Tryd.prog 42 #[.slice p ls.length cap] w fun e w' => e = .returned (.string ⟨(joined ls).toArray⟩) ∧ Below w.heap.size w w' := by
  obtain ⟨i0, hi, hz0, hz1, hz2⟩ := info_parts byteInfo
  have HR := Lib.hid hr; clear hr
  have HJ := Lib.hid (joined_take_length ls ht)
  have HTL : Hid (∀ k, k < ls.length → (ls.getD k []).length ≤ 1000000) := fun k hk => by
    rw [List.getD_eq_getElem?_getD, List.getElem?_eq_getElem hk]; exact ht _ (List.getElem_mem hk)
  clear ht
  have HZ0 := Lib.hid hz0; have HZ1 := Lib.hid hz1; have HZ2 := Lib.hid hz2; have HI := Lib.hid hi
  clear hz0 hz1 hz2 hi
  go_enter Tryd.func42, Tryd.ntmps42
  go_wp2
  go_loop [3, 4] (fun c i => ∃ k n : Nat, k ≤ ls.length ∧ n ≤ 1000021 * k ∧ c = .int .i64 n ∧ i = .int .i64 k) (fun _ i => ls.length - (intOf i).toNat)
  case atStart => exact ⟨0, 0, Nat.zero_le _, by omega, rfl, rfl⟩
  case round =>
    obtain ⟨k, n, hk, hn, rfl, rfl⟩ := hrel
    by_cases hlt : k < ls.length
    · have htl := HTL.out k hlt
      rcases HR.out with e | ⟨b, off, rfl, _, hc⟩
      · rw [e] at hlt; simp at hlt
      · have hck := hc k hlt
        clear hc
        have hlen : (⟨(ls.getD k []).toArray⟩ : ByteArray).size = (ls.getD k []).length := size_of_list _
        generalize ls.getD k [] = t at *
        go_wp2
        go_round
        case rel => exact ⟨k + 1, n + (t.length + 21), by omega, by omega, by go_num, by go_num⟩
        case measure => simp [intOf]; omega
    · have hn2 : n ≤ 1000021000 := by omega
      go_wp2_with (at_make; refine wpList_make_own _ rfl _ _ 46 rfl w.heap.size 5 i0 (.int .u8 0) 1 Tryd.underlying46 HI.out HZ0.out HZ1.out .i64 .i64 _ n rfl rfl (by omega) (by rw [HZ2.out]; omega) (by unfold maxLen; omega) (Nat.le_refl _) ?_; intro w0 hown0 hgrow0)
      have HO0 := Lib.hid hown0
      have HB0 : Hid (Below w.heap.size w w0) := (Below.refl w.heap.size w).grown hgrow0 (Nat.le_refl _) (fun _ h => by cases h)
      clear hown0 hgrow0
      go_wp2
      go_loopw [5, 6] (fun v i wr => ∃ (k : Nat) (z : Value), k ≤ ls.length ∧ i = .int .i64 k ∧ z = v ∧ Hid (wr.ownsRow w.heap.size 5 1 z (joined (ls.take k)).length (Lib.byteCells (joined (ls.take k)))) ∧ Hid (Below w.heap.size w wr)) (fun _ i _ => ls.length - (intOf i).toNat)
      case atStart => exact ⟨0, _, Nat.zero_le _, rfl, rfl, HO0, HB0⟩
      case round =>
        obtain ⟨k, z, hk, rfl, rfl, HO, HB⟩ := hrel
        by_cases hlt : k < ls.length
        · have HN := Lib.hid (joined_take_succ ls k hlt)
          have hjl := HJ.out k hk
          have htl := HTL.out k hlt
          rcases (HR.out.below (Nat.le_refl _) HB.out) with e | ⟨b, off, rfl, hbl, hc⟩
          · rw [e] at hlt; simp at hlt
          · have HCK : Hid (∀ W, Below w.heap.size w W → W.cell? ⟨b, off + k, none⟩ = some (.string ⟨(ls.getD k []).toArray⟩)) := fun W hW => by
              rcases HR.out with e | ⟨b', off', e', hb', hc'⟩
              · rw [e] at hlt; simp at hlt
              · injection e' with e'
                injection e' with e1 e2 _
                subst e1 e2
                rw [hW.cell hb']; exact hc' k hlt
            clear hc
            have hlen : (⟨(ls.getD k []).toArray⟩ : ByteArray).size = (ls.getD k []).length := size_of_list _
            generalize ls.getD k [] = t at *
            have hdl := dec_length t.length
            have hdl2 := nDigits_le 6 t.length (by have : (10 : Nat) ^ (6 + 1) = 10000000 := by decide
                                                   omega)
            have hdec := fun W => rdecimal_any t.length htl W
            have HLS : Hid ((joined (ls.take k)).length + 1000020 ≤ 1000030000) := by show _ ≤ _; omega
            have HDL : Hid ((Lib.decDigits t.length).length ≤ 7) := by show _ ≤ _; omega
            have HTL2 : Hid (t.length ≤ 1000000) := htl
            have HDEC := Lib.hid hdec
            clear hdl hdl2 hjl hdec
            generalize joined (ls.take k) = j at *
            generalize Lib.decDigits t.length = d at *
            have hds : (⟨d.toArray⟩ : ByteArray).size = d.length := size_of_list _
            have hck := HCK.out _ HB.out
            go_wp2_with fail
            refine (HDEC.out _).mono ?_; rintro e w' ⟨rfl, rfl⟩
            go_wp2_with (at_builtin; refine Lib.wpList_append_own_string _ rfl _ _ 46 9 rfl w.heap.size 5 i0 Tryd.underlying46 Tryd.underlying9 HI.out HZ0.out HZ1.out HZ2.out _ _ _ rfl HO.out ⟨d.toArray⟩ rfl ?c3 ?c4 ?c5 ?_)
            case c3 => unfold maxLen; have := HLS.out; have := HDL.out; omega
            case c4 => have := HLS.out; have := HDL.out; omega
            case c5 => exact HB.out.size
            intro v1 w1 hown1 hgrow1 _
            have HB1 : Hid (Below w.heap.size w w1) := HB.out.grown hgrow1 HB.out.size (fun q hq => (HO.out.lt q hq).1)
            have HO1 : Hid (w1.ownsRow w.heap.size 5 1 v1 (j ++ d).length (Lib.byteCells (j ++ d))) :=
              own_cast hown1 (by simp) (by rw [Lib.strCells_eq]; simp [Lib.byteCells])
            clear hown1 hgrow1 hck
            go_wp2_with (at_builtin; refine wpList_append_own _ rfl _ _ 46 rfl w.heap.size 5 i0 (.int .u8 0) 1 1 Tryd.underlying46 HI.out HZ0.out HZ1.out HZ2.out rfl (by decide) _ _ _ rfl (HO1.out.alloc _) ⟨w1.heap.size, 0, none⟩ 1 1 [.int .u8 58] rfl rfl ?c1 ?c2 ?d3 ?d4 ?d5 ?_)
            case c1 =>
              intro q u hq
              match q, hq with
              | 0, hq => simp at hq; subst hq; simp [Addr.add]
            case c2 => intro u hu; simp at hu; subst hu; rfl
            case d3 => unfold maxLen; have := HLS.out; have := HDL.out; rw [List.length_append]; omega
            case d4 => have := HLS.out; have := HDL.out; rw [List.length_append]; omega
            case d5 => have := HB1.out.size; simp; omega
            intro v2 w2 hown2 hgrow2 _
            have HB2 : Hid (Below w.heap.size w w2) := (HB1.out.alloc HB1.out.size _).grown hgrow2 (by have := HB1.out.size; simp; omega) (fun q hq => (HO1.out.lt q hq).1)
            have HO2 : Hid (w2.ownsRow w.heap.size 5 1 v2 (j ++ d ++ [58]).length (Lib.byteCells (j ++ d ++ [58]))) :=
              own_cast hown2 (by simp; omega) (by simp [Lib.byteCells])
            clear hown2 hgrow2
            have hck := HCK.out _ HB2.out
            go_wp2_with (at_builtin; refine Lib.wpList_append_own_string _ rfl _ _ 46 9 rfl w.heap.size 5 i0 Tryd.underlying46 Tryd.underlying9 HI.out HZ0.out HZ1.out HZ2.out _ _ _ rfl HO2.out ⟨t.toArray⟩ rfl ?e3 ?e4 ?e5 ?_)
            case e3 => unfold maxLen; have := HLS.out; have := HDL.out; have := HTL2.out; rw [List.length_append, List.length_append]; simp only [List.length_cons, List.length_nil]; omega
            case e4 => have := HLS.out; have := HDL.out; have := HTL2.out; rw [List.length_append, List.length_append]; simp only [List.length_cons, List.length_nil]; omega
            case e5 => exact HB2.out.size
            intro v3 w3 hown3 hgrow3 _
            have HB3 : Hid (Below w.heap.size w w3) := HB2.out.grown hgrow3 HB2.out.size (fun q hq => (HO2.out.lt q hq).1)
            have HO3 : Hid (w3.ownsRow w.heap.size 5 1 v3 (j ++ (d ++ 58 :: t)).length (Lib.byteCells (j ++ (d ++ 58 :: t)))) :=
              own_cast hown3 (by simp; omega) (by rw [Lib.strCells_eq]; simp [Lib.byteCells])
            clear hown3 hgrow3 hck
            go_wp2
            go_roundw
            case rel => exact ⟨k + 1, v3, by omega, by go_num, rfl, Lib.hid (by rw [HN.out]; exact HO3.out), HB3⟩
            case measure => simp [intOf]; omega
        · have hconv : (convert 46 9 z).run Tryd.prog wr = .ok (.string ⟨(joined ls).toArray⟩) wr := by
            have := HO.out
            rw [List.take_of_length_le (by omega)] at this
            exact conv_own this
          clear HO
          generalize hjj : joined ls = j at *
          have HJJ := Lib.hid hjj; clear hjj
          go_wp2
          go_ret
          exact ⟨by rw [HJJ.out]; rfl, HB.out⟩

theorem rlist_any (ls : List (List UInt8)) (p : Option Addr) (cap : Nat) (w : World) (hr : RdS w p ls) (hl : ls.length ≤ 1000) (ht : ∀ t ∈ ls, t.length ≤ 1000000) :
    Calls Tryd.prog 27 #[.slice p ls.length cap] w fun e w' => e = .returned (.string ⟨(listSum ls).toArray⟩) ∧ Below w.heap.size w w' := by
  have hj := rjoined_any ls p cap w hr hl ht
  have hjl := joined_take_length ls ht ls.length (Nat.le_refl _)
  rw [List.take_length] at hjl
  have hs := fun W => rsum_l (joined ls) (by omega) W
  have HJ := Lib.hid hj; have HS := Lib.hid hs
  have HE : Hid (listSum ls = sum (joined ls)) := rfl
  clear hj hs hjl ht hr
  generalize joined ls = j at *
  go_enter Tryd.func27, Tryd.ntmps27
  go_wp2_with fail
  refine (HJ.out).mono ?_; rintro e w1 ⟨rfl, hb1⟩
  have HB := Lib.hid hb1; clear hb1
  go_wp2_with fail
  refine (HS.out _).mono ?_; rintro e w2 ⟨rfl, rfl⟩
  go_wp2
  go_ret
  exact ⟨by rw [HE.out]; rfl, HB.out⟩
end Go.Proofs.YtkjgdgocjnocaaaDoor
