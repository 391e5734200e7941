/-
  The law TreeRefuses: its walk.
-/
import Derived.Test.YtkjgdgocjnocaaaDoorHead4
import Derived.Test.YtkjgdgocjnocaaaDoorShort4
import Derived.Test.YtkjgdgocjnocaaaDoorLawHelp4
import Derived.Test.YtkjgdgocjnocaaaDoorOwnStrs
import Derived.Lib.QuietBelow
import Derived.Deep.DeepCutAuto
import Derived.Laws.AppendOwnNone
namespace Go.Proofs.YtkjgdgocjnocaaaDoor
open Go.RowKit Go.Sort Foyer.Digest Foyer.Tree

/-- A list of another call's own is appended. -/
theorem wpList_append_v {ops : Array Oper} {rest : List Oper} {o : Oper} {a : Act} {Q : Exit → Act → World → Prop} (w : World) (hgd : o.guard = none) (s x : Operand)
    (hop : o.op = Op.call { callee := Callee.builtin Builtin.append, args := #[s, x], argTypes := #[22, 22] })
    (B : Nat) (v : Value) (ls : List (List UInt8)) (hs : a.eval s = v) (hown : OwnS w B v ls) (B2 : Nat) (u : Value) (ts : List (List UInt8)) (hx : a.eval x = u) (hu : OwnS w B2 u ts) (hlen : ls.length + ts.length ≤ 1000000) (hB : B ≤ w.heap.size)
    (hK : ∀ v' w', OwnS w' B v' (ls ++ ts) → w.heap.size ≤ w'.heap.size → (∀ C wb, C ≤ B → Below C wb w → Below C wb w') → wpList Tryd.prog ops Q rest (a.put o.dst v') w') :
    wpList Tryd.prog ops Q (o :: rest) a w := by
  obtain ⟨p, cap, hu1, hr, _⟩ := hu.slice
  rcases hu.2 with ⟨e1, e2⟩ | ⟨g, cap', cur, e1, _⟩
  · obtain ⟨i0, hi, hz0, hz1, hz2⟩ := info_parts strInfo
    have hts : ts = [] := List.length_eq_zero_iff.1 e2
    subst hts
    refine wpList_append_own_none hgd s x 22 hop B 9 i0 1 Tryd.underlying22 hi v _ _ hs hown (by rw [hx, e1]) ?_
    exact hK v w (by rw [List.append_nil]; exact hown) (Nat.le_refl _) (fun C wb _ h => h)
  · rw [e1] at hu1
    simp only [Value.slice.injEq] at hu1
    obtain ⟨rfl, _, rfl⟩ := hu1
    refine wpList_append_s w hgd s x hop B v ls hs hown g 0 cap' ts ts.length rfl (by rw [hx, e1]) ?_ hlen hB hK
    intro j hj
    rcases hr with rfl | ⟨b, off, e, _, hc⟩
    · simp at hj
    · simp only [Option.some.injEq, Addr.mk.injEq, and_true] at e
      obtain ⟨rfl, rfl⟩ := e
      exact hc j hj

set_option maxRecDepth 100000 in
set_option maxHeartbeats 600000 in
theorem refuses_walk (p : Option Addr) (n c1 : Nat) (l : List (List UInt8)) (raw : Int) (mo : ByteArray) (nn : Int) (w : World) (hl : IsStrs w p n l) (_ : n ≤ c1) (hraw : (Lit.int .u8 raw).wf = true) (hmo : mo.size ≤ maxLen) (hnn : (Lit.int .i64 nn).wf = true) (hE : Env w) :
    Calls Tryd.prog 8 #[.slice p n c1, .int .u8 raw, .string mo, .int .i64 nn] w fun e w' => e = .returned (.bool true) ∧ Below w.heap.size w w' := by
  obtain ⟨more, rfl⟩ : ∃ l : List UInt8, mo = ⟨l.toArray⟩ := ⟨_, ba_eq mo⟩
  have hmsz := size_of_list more
  rw [hmsz] at hmo
  obtain ⟨hr0, hr1⟩ := u8_bounds hraw
  obtain ⟨hn0, hn1⟩ := i64_bounds hnn
  obtain ⟨R, rfl⟩ := Int.eq_ofNat_of_zero_le hr0
  have HE := Lib.hid hE; have HL := Lib.hid hl
  have hnm := hl.small
  unfold maxLen at hnm hmo
  have HS : Hid (Since w w) := Below.refl _ _
  clear hE hl hraw hnn
  obtain ⟨s1, hs1⟩ : ∃ s, shortN l 60 = s := ⟨_, rfl⟩
  have HS1 := Lib.hid hs1
  cases s1
  · clear hs1
    go_enter Tryd.func8, Tryd.ntmps8
    go_wp2_with fail
    refine (head_any _ HE.out).mono ?_; rintro x w1 ⟨rfl, hb1⟩
    have HSa := Lib.hid (HS.out.call hb1); clear hb1
    go_wp2_with fail
    refine (short_c l 60 (by decide) false HS1.out _ _ _ _ (HL.out.since HSa.out)).mono ?_; rintro x w2 ⟨rfl, rfl⟩
    go_wp2
    go_ret
    exact ⟨rfl, HSa.out⟩
  have hlen := HL.out.length
  obtain ⟨hl200, hl60⟩ := short_iff'.1 hs1
  rw [hlen] at hl60
  have HL2 := Lib.hid hl200; have HN := Lib.hid hlen
  clear hs1 hl200 hlen
  by_cases hz : n = 0
  · subst hz
    go_enter Tryd.func8, Tryd.ntmps8
    go_wp2_with fail
    refine (head_any _ HE.out).mono ?_; rintro x w1 ⟨rfl, hb1⟩
    have HSa := Lib.hid (HS.out.call hb1); clear hb1
    go_wp2_with fail
    refine (short_c l 60 (by decide) true HS1.out _ _ _ _ (HL.out.since HSa.out)).mono ?_; rintro x w2 ⟨rfl, rfl⟩
    go_wp2
    go_ret
    exact ⟨rfl, HSa.out⟩
  have hne : ((n : Int) == 0) = false := by simp; omega
  by_cases hbig : 200 < more.length
  · have hd : decide ((200 : Int) < (more.length : Int)) = true := by simp; omega
    go_enter Tryd.func8, Tryd.ntmps8
    go_wp2_with fail
    refine (head_any _ HE.out).mono ?_; rintro x w1 ⟨rfl, hb1⟩
    have HSa := Lib.hid (HS.out.call hb1); clear hb1
    go_wp2_with fail
    refine (short_c l 60 (by decide) true HS1.out _ _ _ _ (HL.out.since HSa.out)).mono ?_; rintro x w2 ⟨rfl, rfl⟩
    go_wp2
    go_ret
    exact ⟨rfl, HSa.out⟩
  have hd : decide ((200 : Int) < (more.length : Int)) = false := by simp; omega
  obtain ⟨i, hi⟩ : ∃ i, R % n = i := ⟨_, rfl⟩
  have hin : i < n := by rw [← hi]; exact Nat.mod_lt _ (by omega)
  have hri : ((R : Int) % (n : Int)) = (i : Int) := by rw [← hi]; rfl
  obtain ⟨rt, hrt⟩ : ∃ rt, root l = rt := ⟨_, rfl⟩
  have hrt16 : rt.length = 16 := by rw [← hrt]; exact root_length l (by rw [HN.out]; omega)
  obtain ⟨pth, hpt⟩ : ∃ pth, path l i = pth := ⟨_, rfl⟩
  obtain ⟨k, hk⟩ : ∃ k, pth.length = k := ⟨_, rfl⟩
  obtain ⟨li, hli⟩ : ∃ li, l.getD i [] = li := ⟨_, rfl⟩
  have hk64 : k ≤ 64 := by rw [← hk, ← hpt]; exact path_length_le l i
  have hneed : k = need Foyer.Tree.hi n i := by
    have := path_need (l := l) (i := i) (by rw [HN.out]; exact hin) (by rw [HN.out]; omega)
    rwa [hpt, hk, HN.out] at this
  have hlong : check rt n i li (pth ++ [more]) = false := by
    rw [check_nat hin]
    exact refuse (by rw [List.length_append, hk, ← hneed]; simp)
  have hshort : 0 < k → check rt n i li (pth.take (k - 1)) = false := fun h => by
    rw [check_nat hin]
    exact refuse (by rw [List.length_take, hk, ← hneed]; omega)
  have hltl : Hid (∀ x ∈ l, x.length ≤ 1000000) := fun x hx => by have := HL2.out x hx; omega
  have hp16 : Hid (∀ x ∈ pth, x.length ≤ 1000000) := fun x hx => by
    rw [← hpt] at hx
    rw [path_16 l i x hx]; omega
  have hpm16 : Hid (∀ x ∈ pth ++ [more], x.length ≤ 1000000) := fun x hx => by
    rcases List.mem_append.1 hx with h | h
    · exact hp16 x h
    · simp only [List.mem_singleton] at h; rw [h]; omega
  have hlil : li.length ≤ 1000000 := by rw [← hli]; exact hltl _ (getD_mem (by rw [HN.out]; exact hin))
  have hpml : (pth ++ [more]).length = k + 1 := by rw [List.length_append, hk]; rfl
  obtain ⟨bp, op, rfl⟩ := HL.out.place (by omega)
  have HRT := Lib.hid hrt; have HPT := Lib.hid hpt; have HK := Lib.hid hk; have HLI := Lib.hid hli; have HLL := Lib.hid hlil; have HLO := Lib.hid hlong; have HSH := Lib.hid hshort; have HPML := Lib.hid hpml
  clear hrt hpt hk hli hlil hi hlong hshort hneed hpml
  go_enter Tryd.func8, Tryd.ntmps8
  go_wp2_with fail
  refine (head_any _ HE.out).mono ?_; rintro x w1 ⟨rfl, hb1⟩
  have HSa := Lib.hid (HS.out.call hb1); clear hb1
  go_wp2_with fail
  refine (short_c l 60 (by decide) true HS1.out _ _ _ _ (HL.out.since HSa.out)).mono ?_; rintro x w2 ⟨rfl, rfl⟩
  go_wp2_with fail
  refine (root_c l rt HRT.out _ _ _ _ (HL.out.since HSa.out).rd HN.out (by omega) hltl (HE.out.below HSa.out)).mono ?_; rintro x w3 ⟨rfl, hb3⟩
  have HSb := Lib.hid (HSa.out.call hb3); clear hb3
  go_wp2_with fail
  refine (path_c l pth k _ _ _ i HPT.out HK.out _ (HL.out.since HSb.out).rd HN.out (by omega) hltl hin (HE.out.below HSb.out)).mono ?_; rintro x w5 ⟨q5, c5, rfl, hr5, hc5, ho5, hb5⟩
  have HR5 := Lib.hid hr5
  have HO5 := Lib.hid (ho5.base (Nat.zero_le _))
  have HSd := Lib.hid (HSb.out.call hb5); clear hb5 hr5 ho5
  have HKL := Lib.hid (show ([] : List (List UInt8)).length + pth.length ≤ 1000000 by rw [HK.out]; simp; omega)
  have HKL2 := Lib.hid (show ([] ++ pth).length + 1 ≤ 1000000 by rw [List.nil_append, HK.out]; omega)
  go_upto_region 10 with (first
    | (at_builtin; refine wpList_append_v _ rfl _ _ rfl w5.heap.size _ [] rfl (ownS_lit w5 w5.heap.size [] (Nat.le_refl _) (Nat.zero_le _)) 0 _ pth rfl (HO5.out.alloc _) HKL.out (by simp) ?_; intro v6 w6 ho6 hs6 hb6; have HO6 := Lib.hid ho6; have HB6 := Lib.hid (hb6 w5.heap.size w5 (Nat.le_refl _) ((Below.refl _ w5).alloc (Nat.le_refl _) _)); clear ho6 hb6)
    | (at_builtin; refine wpList_append_s _ rfl _ _ rfl w5.heap.size _ ([] ++ pth) rfl (HO6.out.alloc _) w6.heap.size 0 1 [more] 1 rfl rfl (fun j hj => by match j, hj with | 0, _ => simp) HKL2.out (by have := HB6.out.size; simp; omega) ?_; intro v7 w7 ho7 hs7 hb7; have HO7 := Lib.hid ho7; have HB7 := Lib.hid (hb7 w5.heap.size w5 (Nat.le_refl _) (HB6.out.alloc HB6.out.size _)); clear ho7 hb7))
  have HSe := Lib.hid (HSd.out.call HB7.out)
  have HR7 := Lib.hid (HR5.out.below (Nat.le_refl _) HB7.out)
  have ho7 : OwnS w7 w5.heap.size v7 (pth ++ [more]) := HO7.out
  obtain ⟨g7, c7, rfl, hc7, _, _, _, hr7⟩ := ho7.form (by rw [HPML.out]; omega)
  rw [HPML.out] at hc7 ⊢
  have HRL := Lib.hid hr7
  clear ho7 hr7 HO7 HB7 HO6 HB6 HO5 HR5 hs6 hs7
  have hx := HL.out.cellAt HSe.out hin
  rw [HLI.out] at hx
  have hg := fun d os => cell_regrown hx d os
  have hinI : (i : Int) < (n : Int) := by omega
  have hC1 : ∀ d os, Calls Tryd.prog 16 #[.string ⟨rt.toArray⟩, .int .i64 n, .int .i64 i, .string ⟨li.toArray⟩, .slice (some ⟨g7, 0, none⟩) (k + 1) c7] (grow (redrawn w7 d) os) fun e w'' => e = .returned (.bool false) ∧ ∃ p : Regrown, w'' = grow (redrawn w7 p.d) p.os := fun d os =>
    Calls.regrown_of (check_c rt li n i (pth ++ [more]) false HLO.out _ _ _ _ HLL.out hpm16 HPML.out (by omega) hc7 (by omega) (HRL.out.below (Nat.le_refl _) (below_regrown w7 d os)) (HE.out.below (HSe.out.call (below_regrown w7 d os))))
  have HC1 := Lib.hid hC1; clear hC1
  by_cases hk0 : k = 0
  · subst hk0
    go_upto_region 10 with fail
    refine wp_region_quiet_below (by kernel_rfl) (by kernel_rfl) ?_
    repeat (go_big_quiet_step (first | with_reducible exact HC1.out _ _))
    refine wpQuiet_nil ?_
    intro _ hw'
    obtain ⟨⟨dq, osq⟩, hw''⟩ := hw'
    subst hw''
    have HSf := Lib.hid (HSe.out.call (below_regrown _ dq osq))
    have HR6 := Lib.hid (HR7.out.below (Nat.le_refl _) (below_regrown _ dq osq))
    clear hx hg
    generalize grow (redrawn w7 dq) osq = w8 at *
    go_wp2_with fail
    refine (path_bad l _ n _ (-1 - (i : Int)) _ HN.out (by omega) (by omega)).mono ?_; rintro x w9 ⟨rfl, hb9⟩
    have HSg := Lib.hid (HSf.out.call hb9)
    have HR9 := Lib.hid (HR6.out.below (Nat.le_refl _) hb9); clear hb9
    have hx := HL.out.cellAt HSg.out hin
    rw [HLI.out] at hx
    go_wp2_with fail
    refine (check_c rt li nn (-1 - (i : Int)) pth false (check_off _ _ _ _ _ (by omega)) _ _ _ _ HLL.out hp16 HK.out (by omega) hc5 (by omega) HR9.out (HE.out.below HSg.out)).mono ?_; rintro x w10 ⟨rfl, hb10⟩
    have HSh := Lib.hid (HSg.out.call hb10)
    have HR10 := Lib.hid (HR9.out.below (Nat.le_refl _) hb10); clear hb10 hx
    have hx := HL.out.cellAt HSh.out hin
    rw [HLI.out] at hx
    go_wp2_with fail
    refine (check_c rt li (-(i : Int)) (i : Int) pth false (check_off _ _ _ _ _ (by omega)) _ _ _ _ HLL.out hp16 HK.out (by omega) hc5 (by omega) HR10.out (HE.out.below HSh.out)).mono ?_; rintro x w11 ⟨rfl, hb11⟩
    have HSi := Lib.hid (HSh.out.call hb11)
    have HR11 := Lib.hid (HR10.out.below (Nat.le_refl _) hb11); clear hb11 hx
    have hx := HL.out.cellAt HSi.out hin
    rw [HLI.out] at hx
    go_wp2_with fail
    refine (check_c rt li (i : Int) (i : Int) pth false (check_off _ _ _ _ _ (by omega)) _ _ _ _ HLL.out hp16 HK.out (by omega) hc5 (by omega) HR11.out (HE.out.below HSi.out)).mono ?_; rintro x w12 ⟨rfl, hb12⟩
    have HSj := Lib.hid (HSi.out.call hb12)
    have HR12 := Lib.hid (HR11.out.below (Nat.le_refl _) hb12); clear hb12 hx
    go_wp2
    go_ret
    exact ⟨rfl, HSj.out⟩
  · have hC2 : ∀ d os, Calls Tryd.prog 16 #[.string ⟨rt.toArray⟩, .int .i64 n, .int .i64 i, .string ⟨li.toArray⟩, .slice q5 (k - 1) c5] (grow (redrawn w7 d) os) fun e w'' => e = .returned (.bool false) ∧ ∃ p : Regrown, w'' = grow (redrawn w7 p.d) p.os := fun d os =>
      Calls.regrown_of (check_c rt li n i (pth.take (k - 1)) false (HSH.out (by omega)) _ _ _ _ HLL.out (fun x hx => hp16 x (List.mem_of_mem_take hx)) (by rw [List.length_take, HK.out]; omega) (by omega) (by omega) (by omega) (rd_take (HR7.out.below (Nat.le_refl _) (below_regrown w7 d os)) (k - 1)) (HE.out.below (HSe.out.call (below_regrown w7 d os))))
    have HC2 := Lib.hid hC2; clear hC2
    have hkp : decide ((0 : Int) < (k : Int)) = true := by simp; omega
    have hkn : 0 < k := by omega
    have hkq : decide (0 < k) = true := by simp; omega
    have hkm : (k : Int) - 1 = ((k - 1 : Nat) : Int) := by omega
    have hw1 : IntKind.i64.wrap ((k - 1 : Nat) : Int) = ((k - 1 : Nat) : Int) := by rw [IntKind.wrap_i64]; omega
    have hw2 : ((k - 1 : Nat) : Int) ≤ (k : Int) := by omega
    have hw3 : ((k - 1 : Nat) : Int) ≤ (c5 : Int) := by omega
    have hw4 : k - 1 ≤ c5 := by omega
    go_upto_region 10 with fail
    refine wp_region_quiet_below (by kernel_rfl) (by kernel_rfl) ?_
    repeat (go_big_quiet_step (first | with_reducible exact HC1.out _ _ | with_reducible exact HC2.out _ _))
    refine wpQuiet_nil ?_
    intro _ hw'
    obtain ⟨⟨dq, osq⟩, hw''⟩ := hw'
    subst hw''
    have HSf := Lib.hid (HSe.out.call (below_regrown _ dq osq))
    have HR6 := Lib.hid (HR7.out.below (Nat.le_refl _) (below_regrown _ dq osq))
    clear hx hg
    generalize grow (redrawn w7 dq) osq = w8 at *
    go_wp2_with fail
    refine (path_bad l _ n _ (-1 - (i : Int)) _ HN.out (by omega) (by omega)).mono ?_; rintro x w9 ⟨rfl, hb9⟩
    have HSg := Lib.hid (HSf.out.call hb9)
    have HR9 := Lib.hid (HR6.out.below (Nat.le_refl _) hb9); clear hb9
    have hx := HL.out.cellAt HSg.out hin
    rw [HLI.out] at hx
    go_wp2_with fail
    refine (check_c rt li nn (-1 - (i : Int)) pth false (check_off _ _ _ _ _ (by omega)) _ _ _ _ HLL.out hp16 HK.out (by omega) hc5 (by omega) HR9.out (HE.out.below HSg.out)).mono ?_; rintro x w10 ⟨rfl, hb10⟩
    have HSh := Lib.hid (HSg.out.call hb10)
    have HR10 := Lib.hid (HR9.out.below (Nat.le_refl _) hb10); clear hb10 hx
    have hx := HL.out.cellAt HSh.out hin
    rw [HLI.out] at hx
    go_wp2_with fail
    refine (check_c rt li (-(i : Int)) (i : Int) pth false (check_off _ _ _ _ _ (by omega)) _ _ _ _ HLL.out hp16 HK.out (by omega) hc5 (by omega) HR10.out (HE.out.below HSh.out)).mono ?_; rintro x w11 ⟨rfl, hb11⟩
    have HSi := Lib.hid (HSh.out.call hb11)
    have HR11 := Lib.hid (HR10.out.below (Nat.le_refl _) hb11); clear hb11 hx
    have hx := HL.out.cellAt HSi.out hin
    rw [HLI.out] at hx
    go_wp2_with fail
    refine (check_c rt li (i : Int) (i : Int) pth false (check_off _ _ _ _ _ (by omega)) _ _ _ _ HLL.out hp16 HK.out (by omega) hc5 (by omega) HR11.out (HE.out.below HSi.out)).mono ?_; rintro x w12 ⟨rfl, hb12⟩
    have HSj := Lib.hid (HSi.out.call hb12)
    have HR12 := Lib.hid (HR11.out.below (Nat.le_refl _) hb12); clear hb12 hx
    go_wp2
    go_ret
    exact ⟨rfl, HSj.out⟩
end Go.Proofs.YtkjgdgocjnocaaaDoor
