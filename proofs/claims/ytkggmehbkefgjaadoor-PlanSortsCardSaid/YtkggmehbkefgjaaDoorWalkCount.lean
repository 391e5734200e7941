/-
  The law PlanSorts: the walk of its count of braces and semicolons.
-/
import Derived.Test.YtkggmehbkefgjaaDoorHead6
import Derived.Test.YtkggmehbkefgjaaDoorMathSorts
namespace Go.Proofs.YtkggmehbkefgjaaDoor
open Go.RowKit Go.Sort Go.Shelf Foyer.Plan

/-- What is counted. -/
def countOf (ts : List Foyer.Lexer.Tok) : Int := if oneItem 0 ts = true then 1 else -1
theorem oneItem_at {ts : List Foyer.Lexer.Tok} {k : Nat} {t : Foyer.Lexer.Tok} (h : ts[k]? = some t) (d : Int) : oneItem d (ts.drop k) = (decide (0 ≤ depthStep d t) && (decide (stops (depthStep d t) t) == decide (k + 1 = ts.length)) && oneItem (depthStep d t) (ts.drop (k + 1))) := by
  have hk := (List.getElem?_eq_some_iff.1 h).1
  have e : ts.drop k = t :: ts.drop (k + 1) := by
    rw [List.drop_eq_getElem_cons hk]
    congr 1
    exact (List.getElem?_eq_some_iff.1 h).2
  rw [e, oneItem]
  congr 3
  rw [Bool.eq_iff_iff, List.isEmpty_iff, List.drop_eq_nil_iff, decide_eq_true_iff]
  omega
set_option maxRecDepth 100000 in
set_option maxHeartbeats 4000000 in
theorem count_any (ts : List Foyer.Lexer.Tok) (p : Option Addr) (cap : Nat) (s : ByteArray) (w : World) (hr : RdT w p ts) (h5 : ts.length ≤ 5000) :
    Calls Tryd.prog 15 #[.slice p ts.length cap, .string s] w fun e w' => e = .returned (.int .i64 (countOf ts)) ∧ Below w.heap.size w w' := by
  have HR := Lib.hid hr
  obtain ⟨n, hn⟩ : ∃ n, ts.length = n := ⟨_, rfl⟩
  rw [hn] at h5 ⊢
  have HN := Lib.hid hn
  obtain ⟨V, hV⟩ : ∃ V, countOf ts = V := ⟨_, rfl⟩
  rw [hV]
  have HV : Hid (oneItem 0 (ts.drop 0) = true → V = 1) := Lib.hid fun h => by rw [← hV]; unfold countOf; rw [List.drop_zero] at h; rw [if_pos h]
  have HF : Hid (oneItem 0 (ts.drop 0) = false → V = -1) := Lib.hid fun h => by rw [← hV]; unfold countOf; rw [List.drop_zero] at h; rw [if_neg (by rw [h]; decide)]
  clear hr hn hV
  go_enter Tryd.func15, Tryd.ntmps15
  go_wp2
  go_loopw [5, 6] (fun d i wr => ∃ (k : Nat) (z : Int), i = .int .i64 k ∧ d = .int .i64 z ∧ k ≤ n ∧ 0 ≤ z ∧ z ≤ k ∧ Hid (oneItem z (ts.drop k) = oneItem 0 (ts.drop 0)) ∧ Hid (Below w.heap.size w wr)) (fun _ i _ => n - (intOf i).toNat)
  case atStart => exact ⟨0, 0, rfl, rfl, Nat.zero_le _, by omega, by omega, Lib.hid rfl, Lib.hid (Below.refl _ _)⟩
  case round =>
    obtain ⟨k, z, rfl, rfl, hk, hz0, hzk, HE, HB⟩ := hrel
    by_cases hk2 : k < n
    · obtain ⟨t, ht⟩ : ∃ t, ts[k]? = some t := ⟨_, List.getElem?_eq_getElem (by have := HN.out; omega)⟩
      rcases HR.out.since HB.out with h | ⟨bq, off, rfl, hlt, hat⟩
      · rw [h] at ht; simp at ht
      have c1 := (hat k t ht).text
      have hstep := oneItem_at ht z
      rw [HN.out, HE.out] at hstep
      have hki : (0 : Int) ≤ k ∧ (k : Int) < n := by omega
      by_cases ho : t.text = [123]
      · have e2 : depthStep z t = z + 1 := by unfold depthStep; rw [ho]; simp [wOpen, wClose]
        have e3 : ¬ stops (z + 1) t := fun h => by have := h.1; omega
        rw [e2, decide_eq_false e3] at hstep
        have q0 : (z + 1 == 0) = false := by simp; omega
        have q1 : decide (z + 1 < 0) = false := by simp; omega
        by_cases hl : k + 1 = n
        · rw [decide_eq_true hl] at hstep
          have q2 : ((k : Int) == (n : Int) - 1) = true := by simp; omega
          have hv : V = -1 := HF.out (by rw [hstep]; simp)
          subst hv
          rw [ho] at c1
          clear hat ht hstep e2 e3 ho
          go_wp2
          go_ret
          exact ⟨rfl, HB.out⟩
        · rw [decide_eq_false hl, decide_eq_true (by omega : (0 : Int) ≤ z + 1)] at hstep
          have q2 : ((k : Int) == (n : Int) - 1) = false := by simp; omega
          have HE2 : Hid (oneItem (z + 1) (ts.drop (k + 1)) = oneItem 0 (ts.drop 0)) := Lib.hid (by rw [hstep]; simp)
          rw [ho] at c1
          clear hat ht hstep e2 e3 ho
          go_wp2
          go_roundw
          case rel => exact ⟨k + 1, z + 1, by go_num, by go_num, by omega, by omega, by omega, HE2, HB⟩
          case measure => simp [intOf]; omega
      by_cases hc : t.text = [125]
      · have e2 : depthStep z t = z - 1 := by unfold depthStep; rw [hc]; simp [wOpen, wClose]
        rw [e2] at hstep
        by_cases hz : z = 0
        · subst hz
          have hv : V = -1 := HF.out (by rw [hstep]; simp)
          subst hv
          rw [hc] at c1
          clear hat ht hstep e2 hc ho
          go_wp2
          go_ret
          exact ⟨rfl, HB.out⟩
        · by_cases hz1 : z = 1
          · subst hz1
            have e3 : stops (1 - 1) t := ⟨by omega, Or.inl hc⟩
            rw [decide_eq_true e3] at hstep
            rw [hc] at c1
            clear hz e3 hc ho
            by_cases hl : k + 1 = n
            · rw [decide_eq_true hl] at hstep
              have q2 : ((k : Int) == (n : Int) - 1) = true := by simp; omega
              rw [decide_eq_true (by omega : (0 : Int) ≤ 1 - 1)] at hstep
              have HE2 : Hid (oneItem (1 - 1) (ts.drop (k + 1)) = oneItem 0 (ts.drop 0)) := Lib.hid (by rw [hstep]; simp)
              clear hat ht hstep e2
              go_wp2
              go_roundw
              case rel => exact ⟨k + 1, 1 - 1, by go_num, by go_num, by omega, by omega, by omega, HE2, HB⟩
              case measure => simp [intOf]; omega
            · rw [decide_eq_false hl] at hstep
              have q2 : ((k : Int) == (n : Int) - 1) = false := by simp; omega
              have hv : V = -1 := HF.out (by rw [hstep]; simp)
              subst hv
              clear hat ht hstep e2
              go_wp2
              go_ret
              exact ⟨rfl, HB.out⟩
          · have e3 : ¬ stops (z - 1) t := fun h => by have := h.1; omega
            rw [decide_eq_false e3] at hstep
            have q0 : (z - 1 == 0) = false := by simp; omega
            have q1 : decide (z - 1 < 0) = false := by simp; omega
            rw [hc] at c1
            clear e3 hc ho
            by_cases hl : k + 1 = n
            · rw [decide_eq_true hl] at hstep
              have q2 : ((k : Int) == (n : Int) - 1) = true := by simp; omega
              have hv : V = -1 := HF.out (by rw [hstep]; simp)
              subst hv
              clear hat ht hstep e2
              go_wp2
              go_ret
              exact ⟨rfl, HB.out⟩
            · rw [decide_eq_false hl] at hstep
              have q2 : ((k : Int) == (n : Int) - 1) = false := by simp; omega
              rw [decide_eq_true (by omega : (0 : Int) ≤ z - 1)] at hstep
              have HE2 : Hid (oneItem (z - 1) (ts.drop (k + 1)) = oneItem 0 (ts.drop 0)) := Lib.hid (by rw [hstep]; simp)
              clear hat ht hstep e2
              go_wp2
              go_roundw
              case rel => exact ⟨k + 1, z - 1, by go_num, by go_num, by omega, by omega, by omega, HE2, HB⟩
              case measure => simp [intOf]; omega
      · by_cases hm : t.text = [59]
        · have e2 : depthStep z t = z := by unfold depthStep; rw [hm]; simp [wOpen, wClose]
          rw [e2] at hstep
          by_cases hz : z = 0
          · subst hz
            have e3 : stops 0 t := ⟨rfl, Or.inr hm⟩
            rw [decide_eq_true e3] at hstep
            rw [hm] at c1
            clear e3 hm hc ho
            by_cases hl : k + 1 = n
            · rw [decide_eq_true hl] at hstep
              have q2 : ((k : Int) == (n : Int) - 1) = true := by simp; omega
              rw [decide_eq_true (by omega : (0 : Int) ≤ 0)] at hstep
              have HE2 : Hid (oneItem (0) (ts.drop (k + 1)) = oneItem 0 (ts.drop 0)) := Lib.hid (by rw [hstep]; simp)
              clear hat ht hstep e2
              go_wp2
              go_roundw
              case rel => exact ⟨k + 1, 0, by go_num, by go_num, by omega, by omega, by omega, HE2, HB⟩
              case measure => simp [intOf]; omega
            · rw [decide_eq_false hl] at hstep
              have q2 : ((k : Int) == (n : Int) - 1) = false := by simp; omega
              have hv : V = -1 := HF.out (by rw [hstep]; simp)
              subst hv
              clear hat ht hstep e2
              go_wp2
              go_ret
              exact ⟨rfl, HB.out⟩
          · have e3 : ¬ stops z t := fun h => by have := h.1; omega
            rw [decide_eq_false e3] at hstep
            have q0 : (z == 0) = false := by simp; omega
            have q1 : decide (z < 0) = false := by simp; omega
            rw [hm] at c1
            clear e3 hm hc ho
            by_cases hl : k + 1 = n
            · rw [decide_eq_true hl] at hstep
              have q2 : ((k : Int) == (n : Int) - 1) = true := by simp; omega
              have hv : V = -1 := HF.out (by rw [hstep]; simp)
              subst hv
              clear hat ht hstep e2
              go_wp2
              go_ret
              exact ⟨rfl, HB.out⟩
            · rw [decide_eq_false hl] at hstep
              have q2 : ((k : Int) == (n : Int) - 1) = false := by simp; omega
              rw [decide_eq_true (by omega : (0 : Int) ≤ z)] at hstep
              have HE2 : Hid (oneItem (z) (ts.drop (k + 1)) = oneItem 0 (ts.drop 0)) := Lib.hid (by rw [hstep]; simp)
              clear hat ht hstep e2
              go_wp2
              go_roundw
              case rel => exact ⟨k + 1, z, by go_num, by go_num, by omega, by omega, by omega, HE2, HB⟩
              case measure => simp [intOf]; omega
        · have e2 : depthStep z t = z := by unfold depthStep; rw [if_neg (show ¬ t.text = wOpen from ho), if_neg (show ¬ t.text = wClose from hc)]; omega
          have e3 : ¬ stops z t := fun h => h.2.elim hc hm
          rw [e2, decide_eq_false e3] at hstep
          have x1 : (t.text == [123]) = false := by simpa using ho
          have x2 : (t.text == [125]) = false := by simpa using hc
          have x3 : (t.text == [59]) = false := by simpa using hm
          have q1 : decide (z < 0) = false := by simp; omega
          clear e3 hm hc ho
          by_cases hz : z = 0
          · subst hz
            by_cases hl : k + 1 = n
            · rw [decide_eq_true hl] at hstep
              have q2 : ((k : Int) == (n : Int) - 1) = true := by simp; omega
              have hv : V = -1 := HF.out (by rw [hstep]; simp)
              subst hv
              generalize t.text = tt at *
              clear hat ht hstep e2
              go_wp2
              go_ret
              exact ⟨rfl, HB.out⟩
            · rw [decide_eq_false hl] at hstep
              have q2 : ((k : Int) == (n : Int) - 1) = false := by simp; omega
              rw [decide_eq_true (by omega : (0 : Int) ≤ 0)] at hstep
              have HE2 : Hid (oneItem (0) (ts.drop (k + 1)) = oneItem 0 (ts.drop 0)) := Lib.hid (by rw [hstep]; simp)
              generalize t.text = tt at *
              clear hat ht hstep e2
              go_wp2
              go_roundw
              case rel => exact ⟨k + 1, 0, by go_num, by go_num, by omega, by omega, by omega, HE2, HB⟩
              case measure => simp [intOf]; omega
          · have q0 : (z == 0) = false := by simp; omega
            by_cases hl : k + 1 = n
            · rw [decide_eq_true hl] at hstep
              have q2 : ((k : Int) == (n : Int) - 1) = true := by simp; omega
              have hv : V = -1 := HF.out (by rw [hstep]; simp)
              subst hv
              generalize t.text = tt at *
              clear hat ht hstep e2
              go_wp2
              go_ret
              exact ⟨rfl, HB.out⟩
            · rw [decide_eq_false hl] at hstep
              have q2 : ((k : Int) == (n : Int) - 1) = false := by simp; omega
              rw [decide_eq_true (by omega : (0 : Int) ≤ z)] at hstep
              have HE2 : Hid (oneItem (z) (ts.drop (k + 1)) = oneItem 0 (ts.drop 0)) := Lib.hid (by rw [hstep]; simp)
              generalize t.text = tt at *
              clear hat ht hstep e2
              go_wp2
              go_roundw
              case rel => exact ⟨k + 1, z, by go_num, by go_num, by omega, by omega, by omega, HE2, HB⟩
              case measure => simp [intOf]; omega
    · obtain rfl : k = n := by omega
      have hv : V = 1 := HV.out (by rw [← HE.out, List.drop_eq_nil_of_le (by have := HN.out; omega)]; rfl)
      subst hv
      go_wp2
      go_ret
      exact ⟨rfl, HB.out⟩
end Go.Proofs.YtkggmehbkefgjaaDoor
