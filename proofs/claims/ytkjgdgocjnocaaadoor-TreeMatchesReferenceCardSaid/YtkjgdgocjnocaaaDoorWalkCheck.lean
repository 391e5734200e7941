/-
  The walk of the check of a path.
-/
import Derived.Test.YtkjgdgocjnocaaaDoorWalkNode
namespace Go.Proofs.YtkjgdgocjnocaaaDoor
open Go.RowKit Go.Sort Foyer.Digest Foyer.Tree

theorem check_off (r t : List UInt8) (n i : Int) (ps : List (List UInt8)) (h : ¬ (0 ≤ i ∧ i < n)) : check r n i t ps = false := by
  unfold check
  by_cases h0 : 0 ≤ i
  · have : ¬ i < n := fun h1 => h ⟨h0, h1⟩
    simp [this]
  · simp [h0]
theorem check_on (r t : List UInt8) (n i : Nat) (ps : List (List UInt8)) (h : i < n) : check r n i t ps = (climb hi n i (leafD t) ps == some (r, [])) := by
  rw [check_nat h]; rfl
theorem pair_beq (x r : List UInt8) : ((some (x, ([] : List (List UInt8)))) == some (r, [])) = (x == r) := by
  by_cases e : x = r
  · subst e; simp
  · have h1 : (x == r) = false := by simp [e]
    rw [h1, beq_eq_false_iff_ne]
    intro h; simp at h; exact e h
theorem rd_cons {w : World} {q : Option Addr} {p : List UInt8} {r : List (List UInt8)} (h : RdS w q (p :: r)) : ∃ b off, q = some ⟨b, off, none⟩ ∧ w.cell? ⟨b, off, none⟩ = some (.string ⟨p.toArray⟩) ∧ RdS w (some ⟨b, off + 1, none⟩) r := by
  rcases h with h | ⟨b, off, rfl, hlt, hc⟩
  · cases h
  · refine ⟨b, off, rfl, by simpa using hc 0 (by simp), ?_⟩
    refine Or.inr ⟨b, off + 1, rfl, hlt, fun j hj => ?_⟩
    have := hc (j + 1) (by simp; omega)
    rw [List.getD_cons_succ] at this
    rwa [show off + 1 + j = off + (j + 1) by omega]

set_option maxRecDepth 100000 in
set_option maxHeartbeats 1000000 in
theorem tcheck_any (r t : List UInt8) (n i : Int) (ps : List (List UInt8)) (q : Option Addr) (len cap : Nat) (w : World) (ht : t.length ≤ 1000000) (hp : ∀ p ∈ ps, p.length ≤ 1000000) (hpl : ps.length = len) (hl : len ≤ 1000000) (hcap : len ≤ cap)
    (hn : n ≤ 9223372036854775807) (hr : RdS w q ps) (hE : Env w) :
    Calls Tryd.prog 16 #[.string ⟨r.toArray⟩, .int .i64 n, .int .i64 i, .string ⟨t.toArray⟩, .slice q len cap] w fun e w' => e = .returned (.bool (check r n i t ps)) ∧ Below w.heap.size w w' := by
  by_cases hin : 0 ≤ i ∧ i < n
  · obtain ⟨ii, rfl⟩ := Int.eq_ofNat_of_zero_le hin.1
    obtain ⟨nn, rfl⟩ := Int.eq_ofNat_of_zero_le (show 0 ≤ n by omega)
    have hlt : ii < nn := by have := hin.2; omega
    rw [check_on r t nn ii ps hlt]
    have HE := Lib.hid hE; have HR := Lib.hid hr; have HP := Lib.hid hp
    have HS : Hid (Since w w) := Below.refl _ _
    have hd0 : decide ((ii : Int) < 0) = false := by simp
    have hd1 : decide ((nn : Int) ≤ (ii : Int)) = false := by simp; omega
    obtain ⟨res, hres⟩ : ∃ res, climb hi nn ii (leafD t) ps = res := ⟨_, rfl⟩
    obtain ⟨b, hb⟩ : ∃ b, (res == some (r, [])) = b := ⟨_, rfl⟩
    rw [hres, hb]
    have HRES := Lib.hid hres; have HBB := Lib.hid hb
    obtain ⟨a, ha⟩ : ∃ a, leafD t = a := ⟨_, rfl⟩
    have hal := leafD_length t
    rw [ha] at hal
    have HA := Lib.hid ha
    clear hE hr hp hres hb ha hin
    subst hpl
    go_enter Tryd.func16, Tryd.ntmps16
    go_wp2_with fail
    refine (leafDigest_any t a HA.out ht _ HE.out).mono ?_; rintro e w1 ⟨rfl, hb1⟩
    have HB1 := Lib.hid hb1; clear hb1
    go_wp2
    go_loopw [2, 4, 11, 12] (fun i pth rc sz wr => ∃ (f jj mm : Nat) (x : List UInt8) (rest : List (List UInt8)) (q' : Option Addr) (c' : Nat), i = .int .i64 jj ∧ pth = .slice q' rest.length c' ∧ rc = .string ⟨x.toArray⟩ ∧ sz = .int .i64 mm ∧ jj < mm ∧ mm ≤ nn ∧ x.length = 16 ∧ rest.length ≤ c' ∧ Hid (mm ≤ 2 ^ f) ∧ Hid (climb f mm jj x rest = res) ∧ Hid (RdS wr q' rest) ∧ Hid (∀ p ∈ rest, p.length ≤ 1000000) ∧ Hid (Below w.heap.size w wr)) (fun _ _ _ sz _ => (intOf sz).toNat)
    case atStart => exact ⟨hi, ii, nn, a, ps, q, cap, rfl, rfl, rfl, rfl, hlt, Nat.le_refl _, hal, hcap, Lib.hid (by unfold hi; omega), Lib.hid (by rw [← HA.out]; exact HRES.out), Lib.hid (HR.out.below (Nat.le_refl _) HB1.out), HP, HB1⟩
    case round =>
      obtain ⟨f, jj, mm, x, rest, q', c', rfl, rfl, rfl, rfl, hjm, hmn, hxl, hrc, HF, HC, HRR, HPP, HB⟩ := hrel
      by_cases hm1 : 1 < mm
      · obtain ⟨f, rfl⟩ : ∃ g, f = g + 1 := ⟨f - 1, by
          have := HF.out
          cases f with
          | zero => simp at this; omega
          | succ f => rfl⟩
        have hF2 : (mm + 1) / 2 ≤ 2 ^ f := by have := HF.out; rw [Nat.pow_succ] at this; omega
        have hh : jj / 2 < (mm + 1) / 2 := by omega
        have HF2 := Lib.hid hF2; clear hF2 HF
        by_cases hs : sib jj < mm
        · cases rest with
          | nil =>
            have hf := HC.out
            rw [climb_stop hs] at hf
            have hb0 : b = false := by rw [← HBB.out, ← hf]; rfl
            subst hb0
            clear hf
            go_wp2_with fail
            refine (neighbour_any jj (by omega) _).mono ?_; rintro e w2 ⟨rfl, rfl⟩
            go_wp2
            go_ret
            exact ⟨rfl, HB.out⟩
          | cons p rest =>
            have hf := HC.out
            rw [climb_take hs] at hf
            obtain ⟨bb, off, rfl, hck, hrd⟩ := rd_cons HRR.out
            obtain ⟨y, hy⟩ : ∃ y, join jj x p = y := ⟨_, rfl⟩
            rw [hy] at hf
            have hyl : y.length = 16 := by rw [← hy]; unfold join; split <;> exact nodeD_length _ _
            have hpl := HPP.out p (by simp)
            have HPT := Lib.hid (fun z (hz : z ∈ rest) => HPP.out z (List.mem_cons_of_mem _ hz))
            have HF := Lib.hid hf; have HY := Lib.hid hy; have HRD := Lib.hid hrd
            clear hf hy hrd HPP HRR
            by_cases hc1 : c' = 1
            · subst hc1
              have hr0 : rest = [] := List.length_eq_zero_iff.1 (by simp only [List.length_cons] at hrc; omega)
              subst hr0
              clear HRD
              simp only [List.length_cons, List.length_nil] at hrc ⊢
              have hne : (((0 + 1 : Nat) : Int) == 0) = false := by simp
              go_wp2_with fail
              refine (neighbour_any jj (by omega) _).mono ?_; rintro e w2 ⟨rfl, rfl⟩
              go_wp2_with fail
              refine (joined_any jj x p y (by omega) HY.out (by omega) hpl _ (HE.out.below HB.out)).mono ?_; rintro e w3 ⟨rfl, hb3⟩
              have HB3 := Lib.hid (below_trans HB.out (Nat.le_refl _) hb3)
              clear hb3
              go_wp2_with fail
              refine (halved_any mm (by omega) _).mono ?_; rintro e w4 ⟨rfl, rfl⟩
              go_wp2
              go_roundw
              case rel => exact ⟨f, jj / 2, (mm + 1) / 2, y, [], some ⟨bb, off, none⟩, 0, by go_num, rfl, rfl, by go_num, hh, by omega, hyl, Nat.le_refl _, HF2, HF, Lib.hid (Or.inl rfl), HPT, HB3⟩
              case measure => simp [intOf]; omega
            · simp only [List.length_cons] at hrc ⊢
              have hne : (((rest.length + 1 : Nat) : Int) == 0) = false := by simp; omega
              go_wp2_with fail
              refine (neighbour_any jj (by omega) _).mono ?_; rintro e w2 ⟨rfl, rfl⟩
              go_wp2_with fail
              refine (joined_any jj x p y (by omega) HY.out (by omega) hpl _ (HE.out.below HB.out)).mono ?_; rintro e w3 ⟨rfl, hb3⟩
              have HB3 := Lib.hid (below_trans HB.out (Nat.le_refl _) hb3)
              have HRD3 := Lib.hid (HRD.out.below (Nat.le_refl _) hb3)
              clear hb3
              go_wp2_with fail
              refine (halved_any mm (by omega) _).mono ?_; rintro e w4 ⟨rfl, rfl⟩
              go_wp2
              go_roundw
              case rel => exact ⟨f, jj / 2, (mm + 1) / 2, y, rest, some ⟨bb, off + 1, none⟩, c' - 1, by go_num, by simp, rfl, by go_num, hh, by omega, hyl, by omega, HF2, HF, HRD3, HPT, HB3⟩
              case measure => simp [intOf]; omega
        · have hf := HC.out
          rw [climb_skip hs] at hf
          have HF := Lib.hid hf
          clear hf
          go_wp2_with fail
          refine (neighbour_any jj (by omega) _).mono ?_; rintro e w2 ⟨rfl, rfl⟩
          go_wp2_with fail
          refine (halved_any mm (by omega) _).mono ?_; rintro e w4 ⟨rfl, rfl⟩
          go_wp2
          go_roundw
          case rel => exact ⟨f, jj / 2, (mm + 1) / 2, x, rest, q', c', by go_num, rfl, rfl, by go_num, hh, by omega, hxl, hrc, HF2, HF, HRR, HPP, HB⟩
          case measure => simp [intOf]; omega
      · obtain rfl : mm = 1 := by omega
        obtain rfl : jj = 0 := by omega
        have hf := HC.out
        rw [climb_one] at hf
        cases rest with
        | nil =>
          have hb0 : (x == r) = b := by rw [← HBB.out, ← hf]; exact (pair_beq x r).symm
          have HB0 := Lib.hid hb0
          clear hf hb0
          go_wp2
          go_ret
          exact ⟨by rw [HB0.out]; rfl, HB.out⟩
        | cons p rest =>
          have hb0 : b = false := by rw [← HBB.out, ← hf]; simp
          subst hb0
          clear hf
          have hne : (((rest.length + 1 : Nat) : Int) == 0) = false := by simp; omega
          go_wp2
          go_ret
          exact ⟨rfl, HB.out⟩
  · rw [check_off r t n i ps hin]
    have HS : Hid (Since w w) := Below.refl _ _
    by_cases h0 : i < 0
    · have hd : decide (i < 0) = true := by simp; omega
      go_enter Tryd.func16, Tryd.ntmps16
      go_wp2
      go_ret
      exact ⟨rfl, HS.out⟩
    · have hd : decide (i < 0) = false := by simp; omega
      have hd1 : decide (n ≤ i) = true := by simp; omega
      go_enter Tryd.func16, Tryd.ntmps16
      go_wp2
      go_ret
      exact ⟨rfl, HS.out⟩
end Go.Proofs.YtkjgdgocjnocaaaDoor
