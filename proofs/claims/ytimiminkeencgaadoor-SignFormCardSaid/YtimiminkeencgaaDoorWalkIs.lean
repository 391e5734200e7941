/-
  The walks of Is and of Chain.
-/
import Derived.Test.YtimiminkeencgaaDoorWalkSum
namespace Go.Proofs.YtimiminkeencgaaDoor
open Go.RowKit Foyer.Digest

theorem hex_yes (c : Nat) (w : World) (h : (48 ≤ c ∧ c ≤ 57) ∨ (97 ≤ c ∧ c ≤ 102)) :
    Calls Tryd.prog 37 #[.int .u8 c] w fun e w' => e = .returned (.bool true) ∧ w = w' := by
  rcases h with ⟨h1, h2⟩ | ⟨h1, h2⟩
  · go_enter Tryd.func37, Tryd.ntmps37
    go_wp2
    go_ret
    exact ⟨rfl, rfl⟩
  · have h3 : decide ((c : Int) ≤ 57) = false := by simp; omega
    have h4 : decide (97 ≤ (c : Int)) = true := by simp; omega
    have h5 : decide ((c : Int) ≤ 102) = true := by simp; omega
    go_enter Tryd.func37, Tryd.ntmps37
    go_wp2
    go_ret
    exact ⟨rfl, rfl⟩
theorem hex_no (c : Nat) (w : World) (h : ¬ ((48 ≤ c ∧ c ≤ 57) ∨ (97 ≤ c ∧ c ≤ 102))) :
    Calls Tryd.prog 37 #[.int .u8 c] w fun e w' => e = .returned (.bool false) ∧ w = w' := by
  have h5 : c < 48 ∨ (57 < c ∧ c < 97) ∨ 102 < c := by omega
  clear h
  rcases h5 with h1 | ⟨h1, h2⟩ | h1
  · have h3 : decide (48 ≤ (c : Int)) = false := by simp; omega
    have h4 : decide (97 ≤ (c : Int)) = false := by simp; omega
    go_enter Tryd.func37, Tryd.ntmps37
    go_wp2
    go_ret
    exact ⟨rfl, rfl⟩
  · have h3 : decide ((c : Int) ≤ 57) = false := by simp; omega
    have h4 : decide (97 ≤ (c : Int)) = false := by simp; omega
    go_enter Tryd.func37, Tryd.ntmps37
    go_wp2
    go_ret
    exact ⟨rfl, rfl⟩
  · have h3 : decide ((c : Int) ≤ 57) = false := by simp; omega
    have h4 : decide ((c : Int) ≤ 102) = false := by simp; omega
    go_enter Tryd.func37, Tryd.ntmps37
    go_wp2
    go_ret
    exact ⟨rfl, rfl⟩
theorem isHex_iff (c : UInt8) : isHex c = true ↔ (48 ≤ c.toNat ∧ c.toNat ≤ 57) ∨ (97 ≤ c.toNat ∧ c.toNat ≤ 102) := by
  unfold isHex; simp
theorem hex_any (c : UInt8) (w : World) :
    Calls Tryd.prog 37 #[.int .u8 c.toNat] w fun e w' => e = .returned (.bool (isHex c)) ∧ w = w' := by
  cases h : isHex c
  · exact hex_no _ w (fun h' => by rw [(isHex_iff c).2 h'] at h; cases h)
  · exact hex_yes _ w ((isHex_iff c).1 h)

theorem all_take_succ {l : List UInt8} {k : Nat} (h : k < l.length) : (l.take (k + 1)).all isHex = ((l.take k).all isHex && isHex l[k]) := by
  rw [List.take_succ_eq_append_getElem h, List.all_append]; simp
theorem all_of_not {l : List UInt8} {k : Nat} (h : k < l.length) (hn : isHex l[k] = false) : l.all isHex = false := by
  cases e : l.all isHex
  · rfl
  · have := List.all_eq_true.1 e l[k] (List.getElem_mem h)
    rw [hn] at this; cases this

theorem is_any (t : ByteArray) (hs : t.size ≤ 1000000000000) (w : World) :
    Calls Tryd.prog 18 #[.string t] w fun e w' => e = .returned (.bool (isDigest t.data.toList)) ∧ w = w' := by
  have hlen : t.data.toList.length = t.size := by simp
  by_cases h16 : t.size = 16
  · have hD : isDigest t.data.toList = t.data.toList.all isHex := by unfold isDigest; rw [hlen, h16]; simp
    rw [hD]
    generalize hr : t.data.toList.all isHex = r at *
    have HR := Lib.hid hr; clear hr
    have hne : ((t.size : Int) != 16) = false := by simp [h16]
    have H16 := Lib.hid h16; have HL := Lib.hid hlen; clear h16 hlen hD
    go_enter Tryd.func18, Tryd.ntmps18
    go_wp2
    go_loop [9] (fun i => ∃ k : Nat, k ≤ t.size ∧ i = .int .i64 k ∧ Hid ((t.data.toList.take k).all isHex = true)) (fun i => t.size - (intOf i).toNat)
    case atStart => exact ⟨0, Nat.zero_le _, rfl, Lib.hid rfl⟩
    case round =>
      obtain ⟨k, hk, rfl, HK⟩ := hrel
      by_cases hlt : k < t.size
      · have hx := hex_any t[k] w
        have hstep := all_take_succ (l := t.data.toList) (k := k) (by rw [HL.out]; exact hlt)
        have hno := all_of_not (l := t.data.toList) (k := k) (by rw [HL.out]; exact hlt)
        rw [show t.data.toList[k]'(by rw [HL.out]; exact hlt) = t[k] from rfl] at hstep hno
        have HX := Lib.hid hx; have HSt := Lib.hid hstep; have HNo := Lib.hid hno
        clear hx hstep hno
        cases hc : isHex t[k]
        · have HC : Hid (r = false) := by show r = false; rw [← HR.out]; exact HNo.out hc
          rw [hc] at HX
          clear hc
          go_wp2_with fail
          refine (HX.out).mono ?_; rintro e w' ⟨rfl, rfl⟩
          go_wp2
          go_ret
          exact ⟨by rw [HC.out]; rfl, rfl⟩
        · have HC : Hid ((t.data.toList.take (k + 1)).all isHex = true) := by
            show _ = true
            rw [HSt.out, HK.out, hc]; rfl
          rw [hc] at HX
          clear hc
          go_wp2_with fail
          refine (HX.out).mono ?_; rintro e w' ⟨rfl, rfl⟩
          go_wp2
          go_round
          case rel => exact ⟨k + 1, by omega, by go_num, HC⟩
          case measure => simp [intOf]; omega
      · have HA : Hid (r = true) := by
          show r = true
          rw [← HR.out]
          have := HK.out
          rw [List.take_of_length_le (by rw [HL.out]; omega)] at this; exact this
        go_wp2
        go_ret
        exact ⟨by rw [HA.out]; rfl, rfl⟩
  · have hD : isDigest t.data.toList = false := by unfold isDigest; rw [hlen]; simp [h16]
    have hne : ((t.size : Int) != 16) = true := by simp; omega
    have HD := Lib.hid hD; clear hD hlen h16
    go_enter Tryd.func18, Tryd.ntmps18
    go_wp2
    go_ret
    exact ⟨by rw [HD.out]; rfl, rfl⟩

/-! ### The chain -/
theorem HexTab.below {w w' : World} (h : HexTab w) (hb : Below w.heap.size w w') : HexTab w' := fun d hd => by
  have h1 := h d hd
  rw [hb.cell (lt_of_cell h1)]; exact h1

theorem sum_l (c : List UInt8) (hs : c.length ≤ 1000000000000) (w : World) (hT : HexTab w) :
    Calls Tryd.prog 46 #[.string ⟨c.toArray⟩] w fun e w' => e = .returned (.string ⟨(sum c).toArray⟩) ∧ Below w.heap.size w w' :=
  sum_any ⟨c.toArray⟩ (by rw [size_of_list]; exact hs) w hT
set_option maxRecDepth 100000 in
theorem chain_small (t : List UInt8) (m : Nat) (h1 : m ≤ 1000) (hs : t.length ≤ 100000000000) (w : World) (hT : HexTab w) :
    Calls Tryd.prog 35 #[.string ⟨t.toArray⟩, .int .i64 m] w fun e w' => e = .returned (.string ⟨(chain t m).toArray⟩) ∧ Below w.heap.size w w' := by
  have HT := Lib.hid hT; clear hT
  have HL : Hid (∀ k, (chain t k).length ≤ 1000000000000) := fun k => by have := chain_length_le t k; omega
  clear hs
  go_enter Tryd.func35, Tryd.ntmps35
  go_wp2
  go_loopw [0, 7] (fun v i wr => ∃ k : Nat, k ≤ m ∧ i = .int .i64 k ∧ v = .string ⟨(chain t k).toArray⟩ ∧ Hid (Below w.heap.size w wr)) (fun _ i _ => m - (intOf i).toNat)
  case atStart => exact ⟨0, Nat.zero_le _, rfl, rfl, Lib.hid (Below.refl _ _)⟩
  case round =>
    obtain ⟨k, hk, rfl, rfl, HB⟩ := hrel
    have hcl := HL.out k
    have hnx : chain t (k + 1) = sum (chain t k) := rfl
    have HNX := Lib.hid hnx; clear hnx
    have HCL := Lib.hid hcl; clear hcl
    by_cases hlt : k < m
    · generalize chain t k = c at *
      go_wp2_with fail
      refine (sum_l c HCL.out _ (HT.out.below HB.out)).mono ?_; rintro e w2 ⟨rfl, hb2⟩
      have HB2 := Lib.hid (below_trans HB.out (Nat.le_refl _) hb2); clear hb2
      go_wp2
      go_roundw
      case rel => exact ⟨k + 1, by omega, by go_num, by rw [HNX.out], HB2⟩
      case measure => simp [intOf]; omega
    · have hkm : k = m := by omega
      subst hkm
      go_wp2
      go_ret
      exact ⟨rfl, HB.out⟩
set_option maxRecDepth 100000 in
theorem chain_great (t : List UInt8) (n : Int) (h1 : 1000 < n) (hs : t.length ≤ 100000000000) (w : World) (hT : HexTab w) :
    Calls Tryd.prog 35 #[.string ⟨t.toArray⟩, .int .i64 n] w fun e w' => e = .returned (.string ⟨(chain t 1000).toArray⟩) ∧ Below w.heap.size w w' := by
  have HT := Lib.hid hT; clear hT
  have HL : Hid (∀ k, (chain t k).length ≤ 1000000000000) := fun k => by have := chain_length_le t k; omega
  clear hs
  generalize hl : chain t 1000 = last
  have HLa := Lib.hid hl; clear hl
  go_enter Tryd.func35, Tryd.ntmps35
  go_wp2
  obtain ⟨M, hM⟩ : ∃ M : Nat, M = 1000 := ⟨_, rfl⟩
  have e1 : (Value.int IntKind.i64 1000) = Value.int IntKind.i64 ((M : Nat) : Int) := by rw [hM]; rfl
  rw [e1]
  have hM1 : M ≤ 2000 := by omega
  have HM := Lib.hid hM
  clear hM e1
  go_loopw [0, 7] (fun v i wr => ∃ k : Nat, k ≤ M ∧ i = .int .i64 k ∧ v = .string ⟨(chain t k).toArray⟩ ∧ Hid (Below w.heap.size w wr)) (fun _ i _ => M - (intOf i).toNat)
  case atStart => exact ⟨0, Nat.zero_le _, rfl, rfl, Lib.hid (Below.refl _ _)⟩
  case round =>
    obtain ⟨k, hk, rfl, rfl, HB⟩ := hrel
    have hcl := HL.out k
    have hnx : chain t (k + 1) = sum (chain t k) := rfl
    have HNX := Lib.hid hnx; clear hnx
    have HCL := Lib.hid hcl; clear hcl
    have HLast : Hid (k = M → chain t k = last) := fun e => by rw [e, HM.out]; exact HLa.out
    by_cases hlt : k < M
    · clear HLast
      generalize chain t k = c at *
      go_wp2_with fail
      refine (sum_l c HCL.out _ (HT.out.below HB.out)).mono ?_; rintro e w2 ⟨rfl, hb2⟩
      have HB2 := Lib.hid (below_trans HB.out (Nat.le_refl _) hb2); clear hb2
      go_wp2
      go_roundw
      case rel => exact ⟨k + 1, by omega, by go_num, by rw [HNX.out], HB2⟩
      case measure => simp [intOf]; omega
    · have HE := Lib.hid (HLast.out (by omega))
      clear HLast
      generalize chain t k = c at *
      go_wp2
      go_ret
      exact ⟨by rw [← HE.out]; rfl, HB.out⟩
theorem chain_none (t : List UInt8) (n : Int) (hn : n ≤ 0) (w : World) :
    Calls Tryd.prog 35 #[.string ⟨t.toArray⟩, .int .i64 n] w fun e w' => e = .returned (.string ⟨t.toArray⟩) ∧ Below w.heap.size w w' := by
  go_enter Tryd.func35, Tryd.ntmps35
  go_wp2
  go_loop [0, 7] (fun v i => v = .string ⟨t.toArray⟩ ∧ i = .int .i64 0) (fun _ _ => 0)
  case atStart => exact ⟨rfl, rfl⟩
  case round =>
    obtain ⟨rfl, rfl⟩ := hrel
    go_wp2
    go_ret
    exact ⟨rfl, Below.refl _ _⟩
end Go.Proofs.YtimiminkeencgaaDoor
