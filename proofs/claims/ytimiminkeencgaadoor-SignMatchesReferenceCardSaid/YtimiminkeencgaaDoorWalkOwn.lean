/-
  The law's own ends of a secret, and all the strings that are digested for its chains.
-/
import Derived.Test.YtimiminkeencgaaDoorRefJoined4
namespace Go.Proofs.YtimiminkeencgaaDoor
open Go.RowKit Go.Sort Foyer.Digest Foyer.Sign

theorem rangeMap_length {α : Type} (f : Nat → α) (k : Nat) : ((List.range k).map f).length = k := by simp
set_option maxRecDepth 100000 in
set_option maxHeartbeats 1000000 in
theorem own_any (s : List UInt8) (hs : s.length ≤ 1000) (w : World) :
    Calls Tryd.prog 20 #[.string ⟨s.toArray⟩] w fun e w' => ∃ v, e = .returned v ∧ OwnS w' w.heap.size v (endsOf s) ∧ Below w.heap.size w w' := by
  have HSL := Lib.hid hs; clear hs
  go_enter Tryd.func20, Tryd.ntmps20
  go_wp2
  go_loopw [3, 4] (fun v i wr => ∃ (k : Nat) (z : Value), k ≤ 18 ∧ i = .int .i64 k ∧ z = v ∧ Hid (OwnS wr w.heap.size z ((List.range k).map (endAt s))) ∧ Hid (Below w.heap.size w wr)) (fun _ i _ => 18 - (intOf i).toNat)
  case atStart => exact ⟨0, _, Nat.zero_le _, rfl, rfl, Lib.hid (ownS_nil _ _), Lib.hid (Below.refl _ _)⟩
  case round =>
    obtain ⟨k, z, hk, rfl, rfl, HO, HB⟩ := hrel
    by_cases hlt : k < 18
    · obtain ⟨st, hst⟩ : ∃ st, startOf s k = st := ⟨_, rfl⟩
      have hch : chain st 15 = endAt s k := by rw [← hst]; rfl
      have hsl : st.length = 16 := by rw [← hst]; exact isDigest_length (startOf_isDigest s k)
      have hsn := range_snoc (endAt s) k
      have hll := rangeMap_length (endAt s) k
      generalize endAt s k = r at *
      generalize (List.range k).map (endAt s) = L at *
      have HST := Lib.hid hst; have HCH := Lib.hid hch; have HSN := Lib.hid hsn; have HST16 := Lib.hid hsl
      clear hst hch hsn hsl
      go_wp2_with fail
      refine (qstart_any s k (by omega) HSL.out st HST.out _).mono ?_; rintro e w1 ⟨rfl, hb1⟩
      have HO1 := Lib.hid (HO.out.kept hb1)
      have HB1 := Lib.hid (below_trans HB.out (Nat.le_refl _) hb1)
      clear hb1
      go_wp2_with fail
      refine (rchain_c st r _ 15 rfl (by omega) HCH.out (by have := HST16.out; omega) _).mono ?_; rintro e w2 ⟨rfl, rfl⟩
      go_wp2_with (at_builtin; refine wpList_append_s _ rfl _ _ rfl w.heap.size _ _ rfl (HO1.out.alloc _) w1.heap.size 0 1 [r] 1 rfl rfl ?c1 ?d3 ?d5 ?_)
      case c1 =>
        intro j hj
        match j, hj with
        | 0, _ => simp
      case d3 => omega
      case d5 => have := HB1.out.size; simp; omega
      intro v2 w2 hown2 hsz2 hbel2
      have HO2 := Lib.hid hown2
      have HB2 := Lib.hid (hbel2 _ _ (Nat.le_refl _) (HB1.out.alloc HB1.out.size _))
      clear hown2 hsz2 hbel2
      go_wp2
      go_roundw
      case rel => exact ⟨k + 1, v2, by omega, by go_num, rfl, Lib.hid (by rw [HSN.out]; exact HO2.out), HB2⟩
      case measure => simp [intOf]; omega
    · obtain rfl : k = 18 := by omega
      go_wp2
      go_ret
      exact ⟨_, rfl, HO.out, HB.out⟩

theorem chainsTo_length (s : List UInt8) (n : Nat) : ∀ k, (chainsTo s n k).length = k * (n + 2)
  | 0 => by rw [Nat.zero_mul]; rfl
  | k + 1 => by
    rw [chainsTo, List.length_append, chainsTo_length s n k, oneChain, List.length_cons, links_length, Nat.succ_mul]
theorem chainsTo_succ (s : List UInt8) (n k : Nat) : chainsTo s n (k + 1) = (chainsTo s n k ++ [joined [s, Lib.decDigits k]]) ++ links (sum (joined [s, Lib.decDigits k])) n := by
  rw [chainsTo, oneChain, List.append_assoc]; rfl

set_option maxRecDepth 100000 in
set_option maxHeartbeats 1000000 in
theorem chains_any (s : List UInt8) (n : Nat) (hn : n ≤ 100) (hs : s.length ≤ 1000) (w : World) :
    Calls Tryd.prog 23 #[.string ⟨s.toArray⟩, .int .i64 n] w fun e w' => ∃ v, e = .returned v ∧ OwnS w' w.heap.size v (chainsTo s n 18) ∧ Below w.heap.size w w' := by
  have HSL := Lib.hid hs; clear hs
  have HCT : Hid (∀ k, k ≤ 18 → (chainsTo s n k).length ≤ 2000) := fun k hk => by
    rw [chainsTo_length]
    have : k * (n + 2) ≤ 18 * 102 := Nat.mul_le_mul hk (by omega)
    omega
  go_enter Tryd.func23, Tryd.ntmps23
  go_wp2
  go_loopw [5, 6] (fun v i wr => ∃ (k : Nat) (z : Value), k ≤ 18 ∧ i = .int .i64 k ∧ z = v ∧ Hid (OwnS wr w.heap.size z (chainsTo s n k)) ∧ Hid (Below w.heap.size w wr)) (fun _ i _ => 18 - (intOf i).toNat)
  case atStart => exact ⟨0, _, Nat.zero_le _, rfl, rfl, Lib.hid (ownS_nil _ _), Lib.hid (Below.refl _ _)⟩
  case round =>
    obtain ⟨k, z, hk, rfl, rfl, HO, HB⟩ := hrel
    by_cases hlt : k < 18
    · have hix := fun W => index_any k hlt W
      have hnx := chainsTo_succ s n k
      have hcl := HCT.out k hk
      obtain ⟨d, hd⟩ : ∃ d, Lib.decDigits k = d := ⟨_, rfl⟩
      have hdl : d.length ≤ 1000 := by
        have h1 := dec_length k
        have h2 := nDigits_le 1 k (by have : (10 : Nat) ^ (1 + 1) = 100 := by decide
                                      omega)
        rw [← hd]; omega
      rw [hd] at hix hnx
      have hel : ∀ t ∈ [s, d], t.length ≤ 1000000 := fun t ht => by
        have h1 := HSL.out
        simp only [List.mem_cons, List.not_mem_nil, or_false] at ht
        rcases ht with rfl | rfl <;> omega
      obtain ⟨x, hx⟩ : ∃ x, joined [s, d] = x := ⟨_, rfl⟩
      have hxl : x.length ≤ 1000000000 := by
        have := joined_take_length [s, d] hel 2 (Nat.le_refl _)
        rw [List.take_of_length_le (by simp), hx] at this
        omega
      rw [hx] at hnx
      obtain ⟨y, hy⟩ : ∃ y, sum x = y := ⟨_, rfl⟩
      have hyl : y.length = 16 := by rw [← hy]; exact sum_length _
      rw [hy] at hnx
      have hkl := links_length y n
      generalize chainsTo s n k = L at *
      have HIX := Lib.hid hix; have HNX := Lib.hid hnx; have HX := Lib.hid hx; have HY := Lib.hid hy; have HEL := Lib.hid hel; have HXL := Lib.hid hxl; have HYL := Lib.hid hyl; have HKL := Lib.hid hkl
      clear hix hnx hx hy hel hd hdl hxl hyl hkl
      go_wp2_with fail
      refine (HIX.out _).mono ?_; rintro e w1 ⟨rfl, hb1⟩
      have HO1 := Lib.hid (HO.out.kept hb1)
      have HB1 := Lib.hid (below_trans HB.out (Nat.le_refl _) hb1)
      clear hb1
      go_wp2_with fail
      refine (qjoined_c [s, d] x 2 rfl HX.out _ _ _ (rd_two _ _ _ _) (by decide) HEL.out).mono ?_; rintro e w2 ⟨rfl, hb2⟩
      have HO2 := Lib.hid ((HO1.out.alloc _).kept hb2)
      have HB2 := Lib.hid (below_trans (HB1.out.alloc HB1.out.size _) (Nat.le_refl _) hb2)
      clear hb2
      go_wp2_with (at_builtin; refine wpList_append_s _ rfl _ _ rfl w.heap.size _ _ rfl (HO2.out.alloc _) w2.heap.size 0 1 [x] 1 rfl rfl ?c1 ?d3 ?d5 ?_)
      case c1 =>
        intro j hj
        match j, hj with
        | 0, _ => simp
      case d3 => omega
      case d5 => have := HB2.out.size; simp; omega
      intro v3 w3 hown3 hsz3 hbel3
      have HO3 := Lib.hid hown3
      have HB3 := Lib.hid (hbel3 _ _ (Nat.le_refl _) (HB2.out.alloc HB2.out.size _))
      clear hown3 hsz3 hbel3
      go_wp2_with fail
      refine (rsum_c x y HY.out (by have := HXL.out; omega) _).mono ?_; rintro e w4 ⟨rfl, rfl⟩
      go_wp2_with fail
      refine (links_any y n hn (by have := HYL.out; omega) _).mono ?_; rintro e w4 ⟨v4, rfl, ho4, hb4⟩
      have HO4 := Lib.hid (HO3.out.kept hb4)
      have HB4 := Lib.hid (below_trans HB3.out (Nat.le_refl _) hb4)
      obtain ⟨p4, c4, rfl, hr4, _⟩ := ho4.slice
      clear ho4 hb4
      rw [HKL.out]
      rcases hr4 with e0 | ⟨b4, off4, rfl, _, hc4⟩
      · have := HKL.out; rw [e0] at this; simp at this
      · have HC4 := Lib.hid hc4; clear hc4
        go_wp2_with (at_builtin; refine wpList_append_s _ rfl _ _ rfl w.heap.size _ _ rfl HO4.out b4 off4 c4 (links y n) (n + 1) HKL.out rfl HC4.out ?d3 ?d5 ?_)
        case d3 => simp only [List.length_append, List.length_cons, List.length_nil]; omega
        case d5 => exact HB4.out.size
        intro v5 w5 hown5 hsz5 hbel5
        have HO5 := Lib.hid hown5
        have HB5 := Lib.hid (hbel5 _ _ (Nat.le_refl _) HB4.out)
        clear hown5 hsz5 hbel5
        go_wp2
        go_roundw
        case rel => exact ⟨k + 1, v5, by omega, by go_num, rfl, Lib.hid (by rw [HNX.out, List.append_assoc]; exact HO5.out), HB5⟩
        case measure => simp [intOf]; omega
    · obtain rfl : k = 18 := by omega
      go_wp2
      go_ret
      exact ⟨_, rfl, HO.out, HB.out⟩
end Go.Proofs.YtimiminkeencgaaDoor
