/-
  The walks of lists of tests and of conditions.
-/
import Derived.Test.YtilfpnkcgjonhaaGreatDoorWalkTest
namespace Go.Proofs.YtilfpnkcgjonhaaGreatDoor.Pr
open Go.RowKit Go.Sort Foyer.Printer Foyer.Lexer Foyer.Round

/-- The tests written so far. -/
def headS : List TestZ → St → St
  | [], s => s
  | t :: r, s => restS r (testS t s)
theorem restS_snoc : ∀ (r : List TestZ) (x : TestZ) (s : St), restS (r ++ [x]) s = testS x (wordS wAnd (restS r s))
  | [], _, _ => rfl
  | _ :: r, x, _ => restS_snoc r x _
theorem headS_next {l : List TestZ} {k : Nat} {x : TestZ} (h : l[k]? = some x) (s : St) : headS (l.take (k + 1)) s = testS x (if k = 0 then headS (l.take k) s else wordS wAnd (headS (l.take k) s)) := by
  obtain ⟨h1, h2⟩ := List.getElem?_eq_some_iff.1 h
  rw [List.take_succ_eq_append_getElem h1, h2]
  cases k with
  | zero => rfl
  | succ k =>
    rw [if_neg (by omega)]
    cases l with
    | nil => simp at h1
    | cons y r =>
      rw [List.take_succ_cons, List.cons_append]
      exact restS_snoc _ _ _
set_option linter.unusedSimpArgs false in
set_option maxRecDepth 100000 in
set_option maxHeartbeats 4000000 in
theorem tests_any {B b : Nat} {T : TypeId} (l : List TestZ) (hl : ∀ t ∈ l, TestZ.Fit t) (p : Option Addr) (n cap : Nat) (w : World) (v : Value) (s : St) (h : WR B b T w v s) (hB : B ≤ w.heap.size) (hE : EnvAt B w) (hm : Lk testL w B (.slice p n cap) l) :
    Calls Tryz.prog 106 #[.pointer (some ⟨b, 0, none⟩), .slice p n cap] w fun e w' => e = .returned (.tuple #[]) ∧ Step B b T w v (testsS l s) w' := by
  have HIN : Hid (∀ w' v', Wrote b w v w' v' → Below B w w') := Lib.hid fun w' v' k => h.wrote hB k
  have HEW : Hid (∀ w' v', Wrote b w v w' v' → EnvAt B w') := Lib.hid fun w' v' k => hE.below (h.wrote hB k)
  have HL := Lib.hid hm; have HF := Lib.hid hl; have HB0 := Lib.hid hB
  have hlen := hm.len.1
  have hn2 := hm.len.2
  by_cases hc : 0 < n ∧ n ≤ 12
  · obtain ⟨k1, k2⟩ := requireS_step h true
    have H1 := Lib.hid (require_any true w v s h)
    have e1 : requireS true s = s := by simp [requireS]
    rw [e1] at k1
    have HS : Hid (testsS l s = headS l s) := Lib.hid (by
      unfold testsS; rw [if_pos (by rw [hlen]; exact hc)]
      cases l <;> rfl)
    generalize w.setCell ⟨b, 2, none⟩ (.bool (s.refused || !true)) = w1 at *
    have K1 := Lib.hid k1; have R1 := Lib.hid k2
    have hn0 : 0 < n := hc.1
    have hd2 : decide ((n : Int) ≤ 12) = true := by rw [decide_eq_true_eq]; omega
    have hn12 : n ≤ 12 := hc.2
    clear h k1 k2 e1 hc hm hl hB hE hlen hn2
    go_enter Tryz.func106, Tryz.ntmps106
    go_wp2_with fail
    refine H1.out.mono ?_; rintro e w2 ⟨rfl, rfl⟩
    clear H1
    go_wp2
    go_loopw [21] (fun i wr => ∃ (k : Nat) (uo : Value), i = .int .i64 k ∧ k ≤ n ∧ Hid (WR B b T wr uo (headS (l.take k) s)) ∧ Hid (Wrote b w v wr uo)) (fun i _ => n - (intOf i).toNat)
    case atStart => exact ⟨0, v, rfl, Nat.zero_le _, Lib.hid (by rw [List.take_zero]; exact K1.out), R1⟩
    case round =>
      obtain ⟨k, uo, rfl, hk, HV, HR⟩ := hrel
      by_cases hkn : k < n
      · obtain ⟨x, hx⟩ : ∃ x, l[k]? = some x := ⟨_, List.getElem?_eq_getElem (by have := HL.out.len.1; omega)⟩
        have hf := HF.out x (List.mem_of_getElem? hx)
        have hst := headS_next hx s
        obtain ⟨t, ht⟩ : ∃ t, headS (l.take k) s = t := ⟨_, rfl⟩
        rw [ht] at hst HV
        obtain ⟨lb, lo, c, rfl, hlb, hc, hcell⟩ := (HL.out.below (HIN.out _ _ HR.out)).at hx
        obtain rfl := hc
        obtain ⟨attr, op, name, num, pos⟩ := x
        have d0 := hcell 0 _ rfl
        have d1 := hcell 1 _ rfl
        have d2 := hcell 2 _ rfl
        have d3 := hcell 3 _ rfl
        have d4 := hcell 4 _ rfl
        rw [show testL.size = 5 from rfl] at d0 d1 d2 d3 d4
        rw [Nat.add_zero] at d0
        have hki : (0 : Int) ≤ k ∧ (k : Int) < n := by omega
        have hbe : Below wr.heap.size wr (wr.alloc (.cells #[.string ⟨attr.toArray⟩, .int .i64 op, .string ⟨name.toArray⟩, .int .i64 num, .int .i64 pos] 68)) := (Below.refl _ _).alloc (Nat.le_refl _) _
        have HRE : Hid (Wrote b w v (wr.alloc (.cells #[.string ⟨attr.toArray⟩, .int .i64 op, .string ⟨name.toArray⟩, .int .i64 num, .int .i64 pos] 68)) uo) := Lib.hid (HR.out.trans ((Wrote.refl b _ uo).later hbe))
        have KE := Lib.hid (HV.out.later hbe)
        have HBE : Hid (∀ w' v', Wrote b (wr.alloc (.cells #[.string ⟨attr.toArray⟩, .int .i64 op, .string ⟨name.toArray⟩, .int .i64 num, .int .i64 pos] 68)) uo w' v' → Blk w' wr.heap.size 68 [.string ⟨attr.toArray⟩, .int .i64 op, .string ⟨name.toArray⟩, .int .i64 num, .int .i64 pos]) := Lib.hid fun w' v' k => (k.kept (k := wr.heap.size) (by simp) (by have := HV.out.lt; omega) (fun e => by have := (HV.out.vlow e).2; omega)).1.trans (Blk.new wr 68 [.string ⟨attr.toArray⟩, .int .i64 op, .string ⟨name.toArray⟩, .int .i64 num, .int .i64 pos])
        have HST := Lib.hid hst; have HFT := Lib.hid hf
        clear hx hst hf ht hcell hbe hlb
        by_cases hk0 : k = 0
        · subst hk0
          rw [if_pos rfl] at HST
          rw [Nat.zero_mul, Nat.add_zero] at d0 d1 d2 d3 d4
          have HC := Lib.hid (test_any attr op name num pos HFT.out _ uo t KE.out (Nat.le_trans HB0.out HRE.out.kp.size) (HEW.out _ _ HRE.out))
          clear KE HBE
          go_wp2_with fail
          refine HC.out.mono ?_; rintro e wz ⟨rfl, uz, k1, k2⟩
          have KZ := Lib.hid k1; have RZ := Lib.hid (HRE.out.trans k2)
          clear k1 k2 HC HRE d0 d1 d2 d3 d4
          go_wp2
          go_roundw
          case rel => exact ⟨0 + 1, uz, by go_num, by omega, by rw [HST.out]; exact KZ, RZ⟩
          case measure => simp [intOf]; omega
        · rw [if_neg hk0] at HST
          have hkp : decide ((0 : Int) < (k : Int)) = true := by rw [decide_eq_true_eq]; omega
          have HC := Lib.hid (word_any wAnd (by decide) _ uo t KE.out (Nat.le_trans HB0.out HRE.out.kp.size))
          clear KE
          go_wp2_with fail
          refine HC.out.mono ?_; rintro e wy ⟨rfl, uy, k1, k2⟩
          have hbk := HBE.out _ _ k2
          have e0 := hbk.cell (i := 0) rfl
          have e1 := hbk.cell (i := 1) rfl
          have e2 := hbk.cell (i := 2) rfl
          have e3 := hbk.cell (i := 3) rfl
          have e4 := hbk.cell (i := 4) rfl
          have KY := Lib.hid k1; have RY := Lib.hid (HRE.out.trans k2)
          clear k1 k2 HC HRE d0 d1 d2 d3 d4 HBE hbk
          have HC := Lib.hid (test_any attr op name num pos HFT.out wy uy _ KY.out (Nat.le_trans HB0.out RY.out.kp.size) (HEW.out _ _ RY.out))
          go_wp2_with fail
          refine HC.out.mono ?_; rintro e wz ⟨rfl, uz, k1, k2⟩
          have KZ := Lib.hid k1; have RZ := Lib.hid (RY.out.trans k2)
          clear k1 k2 HC KY RY e0 e1 e2 e3 e4
          go_wp2
          go_roundw
          case rel => exact ⟨k + 1, uz, by go_num, by omega, by rw [HST.out]; exact KZ, RZ⟩
          case measure => simp [intOf]; omega
      · have hkn2 : k = n := by omega
        subst hkn2
        rw [show l.take k = l from List.take_of_length_le (by have := HL.out.len.1; omega)] at HV
        go_wp2
        go_end0
        exact ⟨rfl, uo, by rw [HS.out]; exact HV.out, HR.out⟩
  · obtain ⟨k1, k2⟩ := requireS_step h false
    have H1 := Lib.hid (require_any false w v s h)
    generalize w.setCell ⟨b, 2, none⟩ (.bool (s.refused || !false)) = w1 at *
    have HS : Hid (testsS l s = requireS false s) := Lib.hid (by unfold testsS; rw [if_neg (by rw [hlen]; exact hc)])
    have K1 := Lib.hid k1; have K2 := Lib.hid k2
    clear h k1 k2 hm hl hB hE hlen
    by_cases h0 : 0 < n
    · have hd2 : decide ((n : Int) ≤ 12) = false := by rw [decide_eq_false_iff_not]; omega
      clear hc
      go_enter Tryz.func106, Tryz.ntmps106
      go_wp2_with fail
      refine H1.out.mono ?_; rintro e w2 ⟨rfl, rfl⟩
      go_wp2
      refine bodyPost_ret (results_none rfl _ _ _) rfl ?_
      exact ⟨rfl, v, by rw [HS.out]; exact K1.out, K2.out⟩
    · obtain rfl : n = 0 := by omega
      clear hc h0
      go_enter Tryz.func106, Tryz.ntmps106
      go_wp2_with fail
      refine H1.out.mono ?_; rintro e w2 ⟨rfl, rfl⟩
      go_wp2
      refine bodyPost_ret (results_none rfl _ _ _) rfl ?_
      exact ⟨rfl, v, by rw [HS.out]; exact K1.out, K2.out⟩

/-! ### Conditions -/
def nextW (k : Nat) : List UInt8 := if k = 0 then wWhen else wOr
theorem altsS_snoc : ∀ (c : List (List TestZ)) (w : List UInt8) (x : List TestZ) (s : St), altsS w (c ++ [x]) s = testsS x (wordS (if c = [] then w else wOr) (altsS w c s))
  | [], _, _, _ => rfl
  | y :: r, w, x, s => by
    rw [List.cons_append, altsS, altsS_snoc r wOr x, if_neg (by simp : ¬ y :: r = [])]
    cases r with
    | nil => rfl
    | cons z r => rw [if_neg (by simp)]; rfl
theorem altsS_next {c : List (List TestZ)} {k : Nat} {x : List TestZ} (h : c[k]? = some x) (s : St) : altsS wWhen (c.take (k + 1)) s = testsS x (wordS (nextW k) (altsS wWhen (c.take k) s)) := by
  obtain ⟨h1, h2⟩ := List.getElem?_eq_some_iff.1 h
  rw [List.take_succ_eq_append_getElem h1, h2, altsS_snoc]
  have e : (if c.take k = [] then wWhen else wOr) = nextW k := by
    unfold nextW
    by_cases hk : k = 0
    · subst hk; rw [List.take_zero, if_pos rfl, if_pos rfl]
    · rw [if_neg hk, if_neg]
      intro e
      have := congrArg List.length e
      rw [List.length_take] at this
      simp only [List.length_nil] at this
      omega
  rw [e]
set_option linter.unusedSimpArgs false in
set_option maxRecDepth 100000 in
set_option maxHeartbeats 4000000 in
theorem when_any {B b : Nat} {T : TypeId} (l : List (List TestZ)) (hl : ∀ x ∈ l, ∀ t ∈ x, TestZ.Fit t) (p : Option Addr) (n cap : Nat) (w : World) (v : Value) (s : St) (h : WR B b T w v s) (hB : B ≤ w.heap.size) (hE : EnvAt B w) (hm : Lk testsL w B (.slice p n cap) l) :
    Calls Tryz.prog 80 #[.pointer (some ⟨b, 0, none⟩), .slice p n cap] w fun e w' => e = .returned (.tuple #[]) ∧ Step B b T w v (whenS l s) w' := by
  have HIN : Hid (∀ w' v', Wrote b w v w' v' → Below B w w') := Lib.hid fun w' v' k => h.wrote hB k
  have HEW : Hid (∀ w' v', Wrote b w v w' v' → EnvAt B w') := Lib.hid fun w' v' k => hE.below (h.wrote hB k)
  have HL := Lib.hid hm; have HF := Lib.hid hl; have HB0 := Lib.hid hB
  have hlen := hm.len.1
  by_cases hc : n ≤ 12
  · obtain ⟨k1, k2⟩ := requireS_step h true
    have H1 := Lib.hid (require_any true w v s h)
    have e1 : requireS true s = s := by simp [requireS]
    rw [e1] at k1
    have HS : Hid (whenS l s = altsS wWhen l s) := Lib.hid (by unfold whenS; rw [if_pos (by rw [hlen]; exact hc)])
    generalize w.setCell ⟨b, 2, none⟩ (.bool (s.refused || !true)) = w1 at *
    have K1 := Lib.hid k1; have R1 := Lib.hid k2
    have hd2 : decide ((n : Int) ≤ 12) = true := by rw [decide_eq_true_eq]; omega
    clear h k1 k2 e1 hm hl hB hE hlen
    go_enter Tryz.func80, Tryz.ntmps80
    go_wp2_with fail
    refine H1.out.mono ?_; rintro e w2 ⟨rfl, rfl⟩
    clear H1
    go_wp2
    go_loopw [4, 17] (fun z i wr => ∃ (k : Nat) (uo : Value), i = .int .i64 k ∧ k ≤ n ∧ z = .string ⟨(nextW k).toArray⟩ ∧ Hid (WR B b T wr uo (altsS wWhen (l.take k) s)) ∧ Hid (Wrote b w v wr uo)) (fun _ i _ => n - (intOf i).toNat)
    case atStart => exact ⟨0, v, rfl, Nat.zero_le _, rfl, Lib.hid (by rw [List.take_zero]; exact K1.out), R1⟩
    case round =>
      obtain ⟨k, uo, rfl, hk, rfl, HV, HR⟩ := hrel
      by_cases hkn : k < n
      · obtain ⟨x, hx⟩ : ∃ x, l[k]? = some x := ⟨_, List.getElem?_eq_getElem (by have := HL.out.len.1; omega)⟩
        have hf := HF.out x (List.mem_of_getElem? hx)
        have hst := altsS_next hx s
        obtain ⟨t, ht⟩ : ∃ t, altsS wWhen (l.take k) s = t := ⟨_, rfl⟩
        rw [ht] at hst HV
        obtain ⟨lb, lo, c, rfl, hlb, hcc, hcell⟩ := (HL.out.below (HIN.out _ _ HR.out)).at hx
        obtain ⟨v0, rfl, hm0⟩ := hcc
        obtain ⟨lp, lcap, rfl⟩ := hm0.slice
        obtain ⟨ln, hln⟩ : ∃ ln, x.length = ln := ⟨_, rfl⟩
        rw [hln] at hm0 hcell
        have d0 := hcell 0 _ rfl
        rw [show testsL.size = 1 from rfl, Nat.mul_one, Nat.add_zero] at d0
        have hki : (0 : Int) ≤ k ∧ (k : Int) < n := by omega
        have hnw : nextW (k + 1) = wOr := by unfold nextW; rw [if_neg (by omega)]
        have hwl : (nextW k).length ≤ 90 := by unfold nextW; split <;> decide
        obtain ⟨nw, hnwk⟩ : ∃ nw, nextW k = nw := ⟨_, rfl⟩
        rw [hnwk] at hst hwl ⊢
        have HC := Lib.hid (word_any nw hwl wr uo t HV.out (Nat.le_trans HB0.out HR.out.kp.size))
        have HST := Lib.hid hst; have HFT := Lib.hid hf; have HM0 := Lib.hid hm0; have HNW := Lib.hid hnw
        clear hx hst hf ht hcell hlb hm0 hln hnw hwl hnwk
        go_wp2_with fail
        refine HC.out.mono ?_; rintro e wy ⟨rfl, uy, k1, k2⟩
        have KY := Lib.hid k1; have RY := Lib.hid (HR.out.trans k2)
        have HMY := Lib.hid (HM0.out.below (HV.out.wrote (Nat.le_trans HB0.out HR.out.kp.size) k2))
        clear k1 k2 HC d0 HM0
        have HC := Lib.hid (tests_any x HFT.out lp ln lcap wy uy _ KY.out (Nat.le_trans HB0.out RY.out.kp.size) (HEW.out _ _ RY.out) HMY.out)
        go_wp2_with fail
        refine HC.out.mono ?_; rintro e wz ⟨rfl, uz, k1, k2⟩
        have KZ := Lib.hid k1; have RZ := Lib.hid (RY.out.trans k2)
        clear k1 k2 HC KY RY HMY
        go_wp2
        go_roundw
        case rel => exact ⟨k + 1, uz, by go_num, by omega, by rw [HNW.out]; rfl, by rw [HST.out]; exact KZ, RZ⟩
        case measure => simp [intOf]; omega
      · have hkn2 : k = n := by omega
        subst hkn2
        rw [show l.take k = l from List.take_of_length_le (by have := HL.out.len.1; omega)] at HV
        go_wp2
        go_end0
        exact ⟨rfl, uo, by rw [HS.out]; exact HV.out, HR.out⟩
  · obtain ⟨k1, k2⟩ := requireS_step h false
    have H1 := Lib.hid (require_any false w v s h)
    generalize w.setCell ⟨b, 2, none⟩ (.bool (s.refused || !false)) = w1 at *
    have HS : Hid (whenS l s = requireS false s) := Lib.hid (by unfold whenS; rw [if_neg (by rw [hlen]; exact hc)])
    have K1 := Lib.hid k1; have K2 := Lib.hid k2
    have hd2 : decide ((n : Int) ≤ 12) = false := by rw [decide_eq_false_iff_not]; omega
    clear h k1 k2 hm hl hB hE hlen hc
    go_enter Tryz.func80, Tryz.ntmps80
    go_wp2_with fail
    refine H1.out.mono ?_; rintro e w2 ⟨rfl, rfl⟩
    go_wp2
    refine bodyPost_ret (results_none rfl _ _ _) rfl ?_
    exact ⟨rfl, v, by rw [HS.out]; exact K1.out, K2.out⟩
end Go.Proofs.YtilfpnkcgjonhaaGreatDoor.Pr
