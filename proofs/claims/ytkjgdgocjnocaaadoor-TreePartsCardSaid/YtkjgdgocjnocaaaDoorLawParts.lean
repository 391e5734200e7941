/-
  The law TreeParts: its walk.
-/
import Derived.Test.YtkjgdgocjnocaaaDoorHead4
import Derived.Test.YtkjgdgocjnocaaaDoorShort4
import Derived.Test.YtkjgdgocjnocaaaDoorLawHelp4
import Derived.Lib.QuietBelow
import Derived.Deep.DeepCutAuto
namespace Go.Proofs.YtkjgdgocjnocaaaDoor
open Go.RowKit Go.Sort Foyer.Digest Foyer.Tree

theorem rd_drop {w : World} {b off : Nat} {ls : List (List UInt8)} (h : RdS w (some ⟨b, off, none⟩) ls) (k : Nat) : RdS w (some ⟨b, off + k, none⟩) (ls.drop k) := by
  rcases h with rfl | ⟨b', off', e, hlt, hc⟩
  · exact Or.inl (by simp)
  · simp only [Option.some.injEq, Addr.mk.injEq, and_true] at e
    obtain ⟨rfl, rfl⟩ := e
    refine Or.inr ⟨b, off + k, rfl, hlt, fun j hj => ?_⟩
    have := hc (k + j) (by rw [List.length_drop] at hj; omega)
    rw [show off + k + j = off + (k + j) by omega, this]
    simp [List.getD_eq_getElem?_getD]

set_option maxRecDepth 100000 in
set_option maxHeartbeats 2000000 in
theorem parts_walk (p : Option Addr) (n c1 : Nat) (l : List (List UInt8)) (raw : Int) (w : World) (hl : IsStrs w p n l) (hcap : n ≤ c1) (hraw : (Lit.int .u8 raw).wf = true) (hE : Env w) :
    Calls Tryd.prog 7 #[.slice p n c1, .int .u8 raw] w fun e w' => e = .returned (.bool true) ∧ Below w.heap.size w w' := by
  obtain ⟨hr0, hr1⟩ := u8_bounds hraw
  obtain ⟨R, rfl⟩ := Int.eq_ofNat_of_zero_le hr0
  have HE := Lib.hid hE; have HL := Lib.hid hl
  have hnm := hl.small
  unfold maxLen at hnm
  have HS : Hid (Since w w) := Below.refl _ _
  clear hE hl hraw
  obtain ⟨e, he⟩ : ∃ e, R % 6 = e := ⟨_, rfl⟩
  have he6 : e < 6 := by omega
  have hri : ((R : Int) % 6) = (e : Int) := by omega
  obtain ⟨N, hN⟩ : ∃ N, 2 ^ e = N := ⟨_, rfl⟩
  have hsh : wrap64 ((2 : Int) ^ e) = (N : Int) := by
    have : ∀ e, e < 6 → wrap64 ((2 : Int) ^ e) = ((2 ^ e : Nat) : Int) := by decide +kernel
    rw [this e he6, hN]
  have hN32 : N ≤ 32 := by
    rw [← hN]
    exact Nat.le_trans (Nat.pow_le_pow_right (by decide) (show e ≤ 5 by omega)) (by decide)
  have hN1 : 1 ≤ N := by rw [← hN]; exact Nat.one_le_two_pow
  clear he
  obtain ⟨s1, hs1⟩ : ∃ s, shortN l 64 = s := ⟨_, rfl⟩
  have HS1 := Lib.hid hs1
  cases s1
  · clear hs1
    go_enter Tryd.func7, Tryd.ntmps7
    go_wp2_with fail
    refine (head_any _ HE.out).mono ?_; rintro x w1 ⟨rfl, hb1⟩
    have HSa := Lib.hid (HS.out.call hb1); clear hb1
    go_wp2_with fail
    refine (short_c l 64 (by decide) false HS1.out _ _ _ _ (HL.out.since HSa.out)).mono ?_; rintro x w2 ⟨rfl, rfl⟩
    go_wp2
    go_ret
    exact ⟨rfl, HSa.out⟩
  have hlen := HL.out.length
  obtain ⟨hl200, hl64⟩ := short_iff'.1 hs1
  rw [hlen] at hl64
  have HL2 := Lib.hid hl200; have HN := Lib.hid hlen
  clear hs1 hl200 hlen
  by_cases hle : n ≤ N
  · have hd : decide ((n : Int) ≤ (N : Int)) = true := by simp; omega
    go_enter Tryd.func7, Tryd.ntmps7
    go_wp2_with fail
    refine (head_any _ HE.out).mono ?_; rintro x w1 ⟨rfl, hb1⟩
    have HSa := Lib.hid (HS.out.call hb1); clear hb1
    go_wp2_with fail
    refine (short_c l 64 (by decide) true HS1.out _ _ _ _ (HL.out.since HSa.out)).mono ?_; rintro x w2 ⟨rfl, rfl⟩
    go_wp2
    go_ret
    exact ⟨rfl, HSa.out⟩
  have hd : decide ((n : Int) ≤ (N : Int)) = false := by simp; omega
  by_cases hgt : 2 * N < n
  · have hd2 : decide (2 * (N : Int) < (n : Int)) = true := by simp; omega
    go_enter Tryd.func7, Tryd.ntmps7
    go_wp2_with fail
    refine (head_any _ HE.out).mono ?_; rintro x w1 ⟨rfl, hb1⟩
    have HSa := Lib.hid (HS.out.call hb1); clear hb1
    go_wp2_with fail
    refine (short_c l 64 (by decide) true HS1.out _ _ _ _ (HL.out.since HSa.out)).mono ?_; rintro x w2 ⟨rfl, rfl⟩
    go_wp2
    go_ret
    exact ⟨rfl, HSa.out⟩
  have hd2 : decide (2 * (N : Int) < (n : Int)) = false := by simp; omega
  have hparts := parts (l := l) (e := e) (by omega) (by rw [HN.out, hN]; omega) (by rw [HN.out, hN]; omega)
  rw [hN] at hparts
  obtain ⟨ra, hra⟩ : ∃ r, root (l.take N) = r := ⟨_, rfl⟩
  obtain ⟨rb, hrb⟩ : ∃ r, root (l.drop N) = r := ⟨_, rfl⟩
  have hra16 : ra.length = 16 := by rw [← hra]; exact root_length _ (by rw [List.length_take, HN.out]; omega)
  have hrb16 : rb.length = 16 := by rw [← hrb]; exact root_length _ (by rw [List.length_drop, HN.out]; omega)
  rw [hra, hrb] at hparts
  obtain ⟨rt, hrt⟩ : ∃ r, nodeD ra rb = r := ⟨_, rfl⟩
  rw [hrt] at hparts
  have hltl : Hid (∀ x ∈ l, x.length ≤ 1000000) := fun x hx => by have := HL2.out x hx; omega
  obtain ⟨bp, op, rfl⟩ := HL.out.place (by omega)
  have HRA := Lib.hid hra; have HRB := Lib.hid hrb; have HRT := Lib.hid hrt; have HPA := Lib.hid hparts
  clear hra hrb hrt hparts hN
  have hrr : (rt == rt) = true := by simp
  go_enter Tryd.func7, Tryd.ntmps7
  go_wp2_with fail
  refine (head_any _ HE.out).mono ?_; rintro x w1 ⟨rfl, hb1⟩
  have HSa := Lib.hid (HS.out.call hb1); clear hb1
  go_wp2_with fail
  refine (short_c l 64 (by decide) true HS1.out _ _ _ _ (HL.out.since HSa.out)).mono ?_; rintro x w2 ⟨rfl, rfl⟩
  have hR1 : ∀ d os, Calls Tryd.prog 13 #[.slice (some ⟨bp, op, none⟩) n c1] (grow (redrawn w1 d) os) fun e w'' => e = .returned (.string ⟨rt.toArray⟩) ∧ ∃ p : Regrown, w'' = grow (redrawn w1 p.d) p.os := fun d os =>
    Calls.regrown_of (root_c l rt HPA.out _ _ _ _ (HL.out.since (HSa.out.call (below_regrown w1 d os))).rd HN.out (by omega) hltl (HE.out.below (HSa.out.call (below_regrown w1 d os))))
  have hR2 : ∀ d os, Calls Tryd.prog 13 #[.slice (some ⟨bp, op, none⟩) N c1] (grow (redrawn w1 d) os) fun e w'' => e = .returned (.string ⟨ra.toArray⟩) ∧ ∃ p : Regrown, w'' = grow (redrawn w1 p.d) p.os := fun d os =>
    Calls.regrown_of (root_c (l.take N) ra HRA.out _ _ _ _ (rd_take (HL.out.since (HSa.out.call (below_regrown w1 d os))).rd N) (by rw [List.length_take, HN.out]; omega) (by omega) (fun x hx => hltl x (List.mem_of_mem_take hx)) (HE.out.below (HSa.out.call (below_regrown w1 d os))))
  have hR3 : ∀ d os, Calls Tryd.prog 13 #[.slice (some ⟨bp, op + N, none⟩) (n - N) (c1 - N)] (grow (redrawn w1 d) os) fun e w'' => e = .returned (.string ⟨rb.toArray⟩) ∧ ∃ p : Regrown, w'' = grow (redrawn w1 p.d) p.os := fun d os =>
    Calls.regrown_of (root_c (l.drop N) rb HRB.out _ _ _ _ (rd_drop (HL.out.since (HSa.out.call (below_regrown w1 d os))).rd N) (by rw [List.length_drop, HN.out]) (by omega) (fun x hx => hltl x (List.mem_of_mem_drop hx)) (HE.out.below (HSa.out.call (below_regrown w1 d os))))
  have hR4 : ∀ d os, Calls Tryd.prog 19 #[.string ⟨ra.toArray⟩, .string ⟨rb.toArray⟩] (grow (redrawn w1 d) os) fun e w'' => e = .returned (.string ⟨rt.toArray⟩) ∧ ∃ p : Regrown, w'' = grow (redrawn w1 p.d) p.os := fun d os =>
    Calls.regrown_of (node_c ra rb rt HRT.out (by omega) (by omega) _ (HE.out.below (HSa.out.call (below_regrown w1 d os))))
  have HR1 := Lib.hid hR1; have HR2 := Lib.hid hR2; have HR3 := Lib.hid hR3; have HR4 := Lib.hid hR4
  clear hR1 hR2 hR3 hR4
  have hn1 : (N : Int) ≤ (n : Int) := by omega
  have hn2 : (N : Int) ≤ (c1 : Int) := by omega
  have hn3 : ¬ c1 - N = 0 := by omega
  have hn4 : ¬ c1 ≤ N := by omega
  have hn5 : N < c1 := by omega
  go_upto_region 5 with fail
  refine wp_region_quiet_below (by kernel_rfl) (by kernel_rfl) ?_
  repeat (go_big_quiet_step (first | with_reducible exact HR1.out _ _ | with_reducible exact HR2.out _ _ | with_reducible exact HR3.out _ _ | with_reducible exact HR4.out _ _))
  refine wpQuiet_nil ?_
  intro _ hw'
  obtain ⟨⟨dq, osq⟩, hw''⟩ := hw'
  subst hw''
  go_wp2
  go_ret
  exact ⟨rfl, HSa.out.call (below_regrown _ dq osq)⟩
end Go.Proofs.YtkjgdgocjnocaaaDoor
