/-
  The document's own check of a path.
-/
import Derived.Test.YtkjgdgocjnocaaaDoorRefRoot
import Derived.Test.YtkjgdgocjnocaaaDoorWalkCheck
namespace Go.Proofs.YtkjgdgocjnocaaaDoor
open Go.RowKit Go.Sort Foyer.Digest Foyer.Tree

theorem drop_next {ps : List (List UInt8)} {u : Nat} (h : u < ps.length) : ps.drop u = ps.getD u [] :: ps.drop (u + 1) := by
  rw [List.drop_eq_getElem_cons h]
  simp [List.getD_eq_getElem?_getD, h]

set_option maxRecDepth 100000 in
set_option maxHeartbeats 2000000 in
theorem rcheck_any (r t : List UInt8) (n i : Int) (ps : List (List UInt8)) (q : Option Addr) (m c1 : Nat) (w : World) (ht : t.length ≤ 1000000) (hp : ∀ p ∈ ps, p.length ≤ 1000000) (hm : ps.length = m) (hl : m ≤ 1000000)
    (hn : n ≤ 9223372036854775807) (hr : RdS w q ps) :
    Calls Tryd.prog 17 #[.string ⟨r.toArray⟩, .int .i64 n, .int .i64 i, .string ⟨t.toArray⟩, .slice q m c1] w fun e w' => e = .returned (.bool (check r n i t ps)) ∧ Below w.heap.size w w' := by
  have HS : Hid (Since w w) := Below.refl _ _
  by_cases hin : 0 ≤ i ∧ i < n
  · obtain ⟨ii, rfl⟩ := Int.eq_ofNat_of_zero_le hin.1
    obtain ⟨nn, rfl⟩ := Int.eq_ofNat_of_zero_le (show 0 ≤ n by omega)
    have hlt : ii < nn := by have := hin.2; omega
    rw [check_on r t nn ii ps hlt]
    have HR := Lib.hid hr; have HP := Lib.hid hp; have HM := Lib.hid hm
    have hd0 : decide ((nn : Int) < 1) = false := by simp; omega
    have hd1 : decide ((ii : Int) < 0) = false := by simp
    have hd2 : decide ((nn : Int) ≤ (ii : Int)) = false := by simp; omega
    obtain ⟨res, hres⟩ : ∃ res, climb Foyer.Tree.hi nn ii (leafD t) ps = res := ⟨_, rfl⟩
    obtain ⟨b, hb⟩ : ∃ b, (res == some (r, [])) = b := ⟨_, rfl⟩
    rw [hres, hb]
    have HRES := Lib.hid hres; have HBB := Lib.hid hb
    obtain ⟨a, ha⟩ : ∃ a, leafD t = a := ⟨_, rfl⟩
    have hal := leafD_length t
    rw [ha] at hal
    have HA := Lib.hid ha
    clear hr hp hm hres hb ha hin
    go_enter Tryd.func17, Tryd.ntmps17
    go_wp2_with fail
    refine (rleaf_c t a HA.out ht _).mono ?_; rintro e w1 ⟨rfl, hb1⟩
    have HB1 := Lib.hid hb1; clear hb1
    go_wp2
    go_loopw [1, 2, 11, 12] (fun nv iv av uv wr => ∃ (f jj mm uu : Nat) (x : List UInt8), nv = .int .i64 mm ∧ iv = .int .i64 jj ∧ av = .string ⟨x.toArray⟩ ∧ uv = .int .i64 uu ∧ jj < mm ∧ mm ≤ nn ∧ uu ≤ m ∧ x.length = 16 ∧ Hid (mm ≤ 2 ^ f) ∧ Hid (climb f mm jj x (ps.drop uu) = res) ∧ Hid (Below w.heap.size w wr)) (fun nv _ _ _ _ => (intOf nv).toNat)
    case atStart => exact ⟨Foyer.Tree.hi, ii, nn, 0, a, rfl, rfl, rfl, rfl, hlt, Nat.le_refl _, Nat.zero_le _, hal, Lib.hid (by unfold Foyer.Tree.hi; omega), Lib.hid (by rw [List.drop_zero, ← HA.out]; exact HRES.out), HB1⟩
    case round =>
      clear HB1
      obtain ⟨f, jj, mm, uu, x, rfl, rfl, rfl, rfl, hjm, hmn, hum, hxl, HF, HC, HB⟩ := hrel
      by_cases hm1 : 1 < mm
      · obtain ⟨f, rfl⟩ : ∃ g, f = g + 1 := ⟨f - 1, by
          have := HF.out
          cases f with
          | zero => simp at this; omega
          | succ f => rfl⟩
        have hF2 : (mm + 1) / 2 ≤ 2 ^ f := by have := HF.out; rw [Nat.pow_succ] at this; omega
        have hh : jj / 2 < (mm + 1) / 2 := by omega
        have HF2 := Lib.hid hF2; clear hF2 HF
        have hdm : decide ((1 : Int) < (mm : Int)) = true := by simp; omega
        by_cases hodd : jj % 2 = 1
        · have hz : (jj : Int) % 2 = 1 := by omega
          have hov : (jj : Int) + 1 - 2 = ((jj - 1 : Nat) : Int) := by omega
          have hs1 : decide (((jj - 1 : Nat) : Int) < (mm : Int)) = true := by simp; omega
          have hs2 : decide ((jj : Int) < ((jj - 1 : Nat) : Int)) = false := by first | (simp; done) | (simp; omega)
          have hs : sib jj < mm := by rw [show sib jj = jj - 1 by unfold sib; rw [if_neg (by omega)]]; omega
          by_cases hu : uu = m
          · subst hu
            have hf := HC.out
            rw [List.drop_of_length_le (by rw [HM.out]; exact Nat.le_refl _), climb_stop hs] at hf
            have hb0 : b = false := by rw [← HBB.out, ← hf]; rfl
            subst hb0
            have heq : ((uu : Int) == (uu : Int)) = true := by simp
            clear hf
            go_wp2
            go_ret
            exact ⟨rfl, HB.out⟩
          · have hne : ((uu : Int) == (m : Int)) = false := by simp; omega
            have hf := HC.out
            rw [drop_next (by rw [HM.out]; omega), climb_take hs] at hf
            obtain ⟨bb, off, rfl, hck⟩ := (HR.out.below (Nat.le_refl _) HB.out).cellj (j := uu) (by rw [HM.out]; omega)
            have hpl : (ps.getD uu []).length ≤ 1000000 := HP.out _ (getD_mem (by rw [HM.out]; omega))
            generalize ps.getD uu [] = p at *
            obtain ⟨y, hy⟩ : ∃ y, join jj x p = y := ⟨_, rfl⟩
            rw [hy] at hf
            have hyn : nodeD p x = y := by rw [← hy]; unfold join; rw [if_neg (by omega)]
            have hyl : y.length = 16 := by rw [← hyn]; exact nodeD_length _ _
            have HF := Lib.hid hf; have HY := Lib.hid hyn
            clear hf hy hyn
            go_wp2_with fail
            refine (rnode_c p x y HY.out hpl (by omega) _).mono ?_; rintro e w3 ⟨rfl, hb3⟩
            have HB3 := Lib.hid (below_trans HB.out (Nat.le_refl _) hb3)
            clear hb3
            go_wp2
            go_roundw
            case rel => exact ⟨f, jj / 2, (mm + 1) / 2, uu + 1, y, by go_num, by go_num, rfl, by go_num, hh, by omega, by omega, hyl, HF2, HF, HB3⟩
            case measure => simp [intOf]; omega
        · have hz : (jj : Int) % 2 = 0 := by omega
          have hs2 : decide ((jj : Int) < (jj : Int) + 1) = true := by first | (simp; done) | (simp; omega)
          by_cases hs1 : jj + 1 < mm
          · have hd3 : decide ((jj : Int) + 1 < (mm : Int)) = true := by simp; omega
            have hs : sib jj < mm := by rw [show sib jj = jj + 1 by unfold sib; rw [if_pos (by omega)]]; omega
            by_cases hu : uu = m
            · subst hu
              have hf := HC.out
              rw [List.drop_of_length_le (by rw [HM.out]; exact Nat.le_refl _), climb_stop hs] at hf
              have hb0 : b = false := by rw [← HBB.out, ← hf]; rfl
              subst hb0
              have heq : ((uu : Int) == (uu : Int)) = true := by simp
              clear hf
              go_wp2
              go_ret
              exact ⟨rfl, HB.out⟩
            · have hne : ((uu : Int) == (m : Int)) = false := by simp; omega
              have hf := HC.out
              rw [drop_next (by rw [HM.out]; omega), climb_take hs] at hf
              obtain ⟨bb, off, rfl, hck⟩ := (HR.out.below (Nat.le_refl _) HB.out).cellj (j := uu) (by rw [HM.out]; omega)
              have hpl : (ps.getD uu []).length ≤ 1000000 := HP.out _ (getD_mem (by rw [HM.out]; omega))
              generalize ps.getD uu [] = p at *
              obtain ⟨y, hy⟩ : ∃ y, join jj x p = y := ⟨_, rfl⟩
              rw [hy] at hf
              have hyn : nodeD x p = y := by rw [← hy]; unfold join; rw [if_pos (by omega)]
              have hyl : y.length = 16 := by rw [← hyn]; exact nodeD_length _ _
              have HF := Lib.hid hf; have HY := Lib.hid hyn
              clear hf hy hyn
              go_wp2_with fail
              refine (rnode_c x p y HY.out (by omega) hpl _).mono ?_; rintro e w3 ⟨rfl, hb3⟩
              have HB3 := Lib.hid (below_trans HB.out (Nat.le_refl _) hb3)
              clear hb3
              go_wp2
              go_roundw
              case rel => exact ⟨f, jj / 2, (mm + 1) / 2, uu + 1, y, by go_num, by go_num, rfl, by go_num, hh, by omega, by omega, hyl, HF2, HF, HB3⟩
              case measure => simp [intOf]; omega
          · have hd3 : decide ((jj : Int) + 1 < (mm : Int)) = false := by simp; omega
            have hs : ¬ sib jj < mm := by rw [show sib jj = jj + 1 by unfold sib; rw [if_pos (by omega)]]; omega
            have hf := HC.out
            rw [climb_skip hs] at hf
            have HF := Lib.hid hf
            clear hf
            go_wp2
            go_roundw
            case rel => exact ⟨f, jj / 2, (mm + 1) / 2, uu, x, by go_num, by go_num, rfl, rfl, hh, by omega, hum, hxl, HF2, HF, HB⟩
            case measure => simp [intOf]; omega
      · obtain rfl : mm = 1 := by omega
        obtain rfl : jj = 0 := by omega
        have hf := HC.out
        rw [climb_one] at hf
        by_cases hu : uu = m
        · subst hu
          rw [List.drop_of_length_le (by rw [HM.out]; exact Nat.le_refl _)] at hf
          have hb0 : (x == r) = b := by rw [← HBB.out, ← hf]; exact (pair_beq x r).symm
          have HB0 := Lib.hid hb0
          have heq : ((uu : Int) == (uu : Int)) = true := by simp
          clear hf hb0
          go_wp2
          go_ret
          exact ⟨by rw [HB0.out]; rfl, HB.out⟩
        · have hne : ((uu : Int) == (m : Int)) = false := by simp; omega
          have hb0 : b = false := by
            rw [← HBB.out, ← hf, drop_next (by rw [HM.out]; omega)]
            simp
          subst hb0
          clear hf
          go_wp2
          go_ret
          exact ⟨rfl, HB.out⟩
  · rw [check_off r t n i ps hin]
    by_cases h1 : n < 1
    · have hd : decide (n < 1) = true := by simp; omega
      go_enter Tryd.func17, Tryd.ntmps17
      go_wp2
      go_ret
      exact ⟨rfl, HS.out⟩
    · have hd : decide (n < 1) = false := by simp; omega
      by_cases h0 : i < 0
      · have hd1 : decide (i < 0) = true := by simp; omega
        go_enter Tryd.func17, Tryd.ntmps17
        go_wp2
        go_ret
        exact ⟨rfl, HS.out⟩
      · have hd1 : decide (i < 0) = false := by simp; omega
        have hd2 : decide (n ≤ i) = true := by simp; omega
        go_enter Tryd.func17, Tryd.ntmps17
        go_wp2
        go_ret
        exact ⟨rfl, HS.out⟩
theorem rcheck_c (r t : List UInt8) (n i : Int) (ps : List (List UInt8)) (b : Bool) (h : check r n i t ps = b) (q : Option Addr) (m c1 : Nat) (w : World) (ht : t.length ≤ 1000000) (hp : ∀ p ∈ ps, p.length ≤ 1000000) (hm : ps.length = m) (hl : m ≤ 1000000)
    (hn : n ≤ 9223372036854775807) (hr : RdS w q ps) :
    Calls Tryd.prog 17 #[.string ⟨r.toArray⟩, .int .i64 n, .int .i64 i, .string ⟨t.toArray⟩, .slice q m c1] w fun e w' => e = .returned (.bool b) ∧ Below w.heap.size w w' := by
  rw [← h]; exact rcheck_any r t n i ps q m c1 w ht hp hm hl hn hr
end Go.Proofs.YtkjgdgocjnocaaaDoor
