/-
  The law DigestBlock: its walk.
-/
import Derived.Test.YtpfbclomnkfahaaDoorHead
import Derived.Lib.QuietBelow
import Derived.Deep.DeepCutAuto
namespace Go.Proofs.YtpfbclomnkfahaaDoor
open Go.RowKit Go.Sort Foyer.Digest

/-- The statement about lists. -/
theorem block_lists (t al bl : List UInt8) (k n : Nat) (ha : al.length = n) (hb : bl.length = n) (hn : n ≤ 8) (hk : 8 * k ≤ t.length) :
    (sum (t.take (8 * k) ++ al ++ t.drop (min (8 * k + n) t.length)) == sum (t.take (8 * k) ++ bl ++ t.drop (min (8 * k + n) t.length))) = (al == bl) := by
  have hl : (t.take (8 * k) ++ al ++ t.drop (min (8 * k + n) t.length)).length = (t.take (8 * k) ++ bl ++ t.drop (min (8 * k + n) t.length)).length := by
    simp only [List.length_append, ha, hb]
  have htl : (t.take (8 * k)).length = 8 * k := by rw [List.length_take]; omega
  have hiff := one_block_iff hl k (fun i hi => by
    simp only [List.getD_eq_getElem?_getD]
    rcases hi with hi | hi
    · rw [List.append_assoc, List.append_assoc, List.getElem?_append_left (by omega), List.getElem?_append_left (by omega)]
    · rw [List.getElem?_append_right (by rw [List.length_append]; omega), List.getElem?_append_right (by rw [List.length_append]; omega)]
      simp only [List.length_append, ha, hb])
  rw [Bool.eq_iff_iff]
  simp only [beq_iff_eq]
  rw [hiff, List.append_assoc, List.append_assoc]
  refine ⟨fun h => ?_, fun h => by rw [h]⟩
  exact (List.append_inj (List.append_cancel_left h) (by rw [ha, hb])).1

set_option maxRecDepth 100000 in
set_option maxHeartbeats 1000000 in
theorem block_walk (t : ByteArray) (p : Int) (a b : ByteArray) (w : World) (ht : t.size ≤ maxLen) (hp : (Lit.int .u8 p).wf = true) (ha : a.size ≤ maxLen) (hb : b.size ≤ maxLen) (hE : Env w) :
    Calls Tryd.prog 7 #[.string t, .int .u8 p, .string a, .string b] w fun e w' => e = .returned (.bool true) ∧ Below w.heap.size w w' := by
  unfold maxLen at ht ha hb
  obtain ⟨hp1, hp2⟩ := u8_bounds hp
  clear hp
  obtain ⟨k, rfl⟩ := Int.eq_ofNat_of_zero_le hp1
  have HE := Lib.hid hE; clear hE
  have HS : Hid (Since w w) := Below.refl _ _
  obtain ⟨n, hn⟩ : ∃ n : Nat, n = min (min a.size b.size) 8 := ⟨_, rfl⟩
  have hna : n ≤ a.size := by omega
  have hnb : n ≤ b.size := by omega
  have hn8 : n ≤ 8 := by omega
  have HN := Lib.hid hn; clear hn
  go_enter Tryd.func7, Tryd.ntmps7
  go_wp2_with fail
  refine (head_any _ HE.out).mono ?_; rintro e w1 ⟨rfl, hb1⟩
  have HS := Lib.hid (HS.out.call hb1); clear hb1
  go_upto_region 2 with (fail)
  go_cut [10] (fun v wx => v = .int .i64 n ∧ wx = w1)
  case first =>
    go_wp2
    all_goals go_meet
    all_goals exact ⟨by have := HN.out; congr 1; omega, rfl⟩
  case rest =>
    obtain ⟨rfl, rfl⟩ := hcut
    by_cases h2000 : 2000 < (t.size : Int)
    · go_wp2
      go_ret
      exact ⟨rfl, HS.out⟩
    · by_cases hat : (t.size : Int) < 8 * (k : Int)
      · go_wp2
        go_ret
        exact ⟨rfl, HS.out⟩
      · have h2 : decide (2000 < (t.size : Int)) = false := by simp; omega
        have h3 : decide ((t.size : Int) < 8 * (k : Int)) = false := by simp; omega
        obtain ⟨tl, htl⟩ : ∃ l : List UInt8, l = t.data.toList := ⟨_, rfl⟩
        have htll : tl.length = t.size := by rw [htl]; simp
        obtain ⟨al, ha1, ha2⟩ := part_list a 0 n
        obtain ⟨bl, hb1, hb2⟩ := part_list b 0 n
        obtain ⟨hd, hd1, hd2⟩ := part_list t 0 (8 * k)
        obtain ⟨rl, hr1, hr2⟩ := part_list t (min (8 * (k : Int) + (n : Int)) (t.size : Int)).toNat t.size
        have hal : al.length = n := by rw [ha2]; simp; omega
        have hbl : bl.length = n := by rw [hb2]; simp; omega
        have hhd : hd = tl.take (8 * k) := by rw [hd2, htl]; simp
        have hrl : rl = tl.drop (min (8 * k + n) tl.length) := by
          rw [hr2, ← htl, List.take_of_length_le (by omega)]; congr 1; omega
        have hmain := block_lists tl al bl k n hal hbl hn8 (by omega)
        rw [← hhd, ← hrl] at hmain
        have hdl : hd.length ≤ 2000 := by rw [hhd, List.length_take]; omega
        have hrl2 : rl.length ≤ 2000 := by rw [hrl, List.length_drop]; omega
        obtain ⟨T1, hT1⟩ : ∃ l, l = hd ++ al ++ rl := ⟨_, rfl⟩
        obtain ⟨T2, hT2⟩ : ∃ l, l = hd ++ bl ++ rl := ⟨_, rfl⟩
        rw [← hT1, ← hT2] at hmain
        obtain ⟨s1, hs1⟩ : ∃ s, sum T1 = s := ⟨_, rfl⟩
        obtain ⟨s2, hs2⟩ : ∃ s, sum T2 = s := ⟨_, rfl⟩
        rw [hs1, hs2] at hmain
        have e1 : (⟨hd.toArray⟩ : ByteArray) ++ ⟨al.toArray⟩ ++ ⟨rl.toArray⟩ = ⟨T1.toArray⟩ := by rw [str_append, str_append, hT1]
        have e2 : (⟨hd.toArray⟩ : ByteArray) ++ ⟨bl.toArray⟩ ++ ⟨rl.toArray⟩ = ⟨T2.toArray⟩ := by rw [str_append, str_append, hT2]
        have c1 : ∀ d os, Calls Tryd.prog 13 #[.string ⟨T1.toArray⟩] (grow (redrawn wc d) os) fun e w'' => e = .returned (.string ⟨s1.toArray⟩) ∧ ∃ p : Regrown, w'' = grow (redrawn wc p.d) p.os :=
          fun d os => Calls.regrown_of (sum_c _ _ hs1 (by rw [hT1]; simp only [List.length_append]; omega) _ (HE.out.below (HS.out.call (below_regrown wc d os))).hex)
        have c2 : ∀ d os, Calls Tryd.prog 13 #[.string ⟨T2.toArray⟩] (grow (redrawn wc d) os) fun e w'' => e = .returned (.string ⟨s2.toArray⟩) ∧ ∃ p : Regrown, w'' = grow (redrawn wc p.d) p.os :=
          fun d os => Calls.regrown_of (sum_c _ _ hs2 (by rw [hT2]; simp only [List.length_append]; omega) _ (HE.out.below (HS.out.call (below_regrown wc d os))).hex)
        clear hT1 hT2
        have C1 := Lib.hid c1; have C2 := Lib.hid c2; have HM := Lib.hid hmain; have HRL := Lib.hid hr1
        have HA1 := Lib.hid ha1; have HB1 := Lib.hid hb1; have HD1 := Lib.hid hd1; have E1 := Lib.hid e1; have E2 := Lib.hid e2
        clear c1 c2 hmain hr1 ha1 hb1 hd1 e1 e2 hs1 hs2 hhd hrl hd2 ha2 hb2 hr2 htl htll
        have ha1 := HA1.out
        have hb1 := HB1.out
        go_wp2
        rw [HRL.out]
        have hd1 := HD1.out
        have e1 := E1.out
        have e2 := E2.out
        refine wp_region_quiet_below (by kernel_rfl) (by kernel_rfl) ?_
        repeat (go_big_quiet_step (first | with_reducible exact C1.out _ _ | with_reducible exact C2.out _ _))
        refine wpQuiet_nil ?_
        intro _ hw'
        obtain ⟨⟨dq, osq⟩, hw''⟩ := hw'
        subst hw''
        go_wp2
        go_ret
        exact ⟨congrArg (fun z => Ending.returned (Value.bool z)) (by rw [HM.out]; simp), HS.out.call (below_regrown _ dq osq)⟩
end Go.Proofs.YtpfbclomnkfahaaDoor
