/-
  The walks of names with points between them, and of what is returned.
-/
import Derived.Test.YtilfpnkcgjonhaaGreatDoorZWalkWords
import Derived.Lib.UnsafeStr
namespace Go.Proofs.YtilfpnkcgjonhaaGreatDoor.Pr
open Go.RowKit Go.Sort Foyer.Printer Foyer.Lexer
theorem join_any (ls : List (List UInt8)) (hn : ls.length = 1 ∨ ls.length = 2) (hl : ∀ l ∈ ls, l.length ≤ 400) (q off cap : Nat) (hc : ls.length ≤ cap) (w : World) (hq : q < w.heap.size) (h : ∀ j x, ls[j]? = some x → w.cell? ⟨q, off + j, none⟩ = some (.string ⟨x.toArray⟩)) :
  Calls Tryz.prog 66 #[.slice (some ⟨q, off, none⟩) ls.length cap, .string ⟨#[46]⟩] w fun e w' => e = .returned (.string ⟨(joined ls).toArray⟩) ∧ Below w.heap.size w w' := by
 match ls, hn, hl, hc, h with
 | [x], _, _, _, h => exact join_one q off cap x w (h 0 x rfl)
 | [x, y], _, hl, hc, h =>
  have := join_two q off cap x y (hl x (by simp)) (hl y (by simp)) w hq hc (h 0 x rfl) (h 1 y rfl)
  exact this
 | [], hn, _, _, _ => simp at hn
 | _ :: _ :: _ :: _, hn, _, _, _ => simp at hn
theorem joined_short (ls : List (List UInt8)) (hn : ls.length = 1 ∨ ls.length = 2) (h : ls.all nameOk = true) : (joined ls).length ≤ 90 ∧ ∀ l ∈ ls, l.length ≤ 400 := by
 have h24 : ∀ l ∈ ls, l.length ≤ 24 := fun l hl => by
  have := List.all_eq_true.1 h l hl
  unfold nameOk at this
  simp only [Bool.and_eq_true, decide_eq_true_eq] at this
  exact this.1.1
 refine ⟨?_, fun l hl => Nat.le_trans (h24 l hl) (by omega)⟩
 match ls, hn, h24 with
 | [x], _, h => have := h x (by simp); simp only [joined]; omega
 | [x, y], _, h => have h1 := h x (by simp); have h2 := h y (by simp); simp only [joined, List.length_append, List.length_cons]; omega
 | [], hn, _ => simp at hn
 | _ :: _ :: _ :: _, hn, _ => simp at hn
set_option maxRecDepth 100000 in
set_option maxHeartbeats 4000000 in
theorem names_any {B b : Nat} {T : TypeId} (ls : List (List UInt8)) (hn : ls.length = 1 ∨ ls.length = 2) (hl : ∀ l ∈ ls, l.length ≤ 1000000) (q off cap : Nat) (hcap : ls.length ≤ cap) (w : World) (v : Value) (s : St) (h : WR B b T w v s) (hB : B ≤ w.heap.size)
  (hqb : q ≠ b) (hqv : v.ownBlock ≠ some q) (hq : q < w.heap.size) (hc : ∀ j x, ls[j]? = some x → w.cell? ⟨q, off + j, none⟩ = some (.string ⟨x.toArray⟩)) :
  Calls Tryz.prog 39 #[.pointer (some ⟨b, 0, none⟩), .slice (some ⟨q, off, none⟩) ls.length cap] w fun e w' => e = .returned (.tuple #[]) ∧ Step B b T w v (namesS ls s) w' := by
 have HW := hid h; have HC := hid hc; have HL := hid hl; have HQB := hid hqb; have HQV := hid hqv; have HBW := hid hB; have HQ := hid hq; have HN2 := hid hn
 obtain ⟨n, hnn⟩ : ∃ n, ls.length = n := ⟨_, rfl⟩
 have HN := hid hnn
 have HCAP := hid hcap
 rw [hnn] at hn ⊢
 clear h hc hl hqb hqv hB hnn hq hcap
 go_enter Tryz.func39, Tryz.ntmps39
 go_wp2
 go_loopw [8] (fun i wr => ∃ (k : Nat), i = .int .i64 k ∧ k ≤ n ∧ Hid ((ls.take k).all nameOk = true) ∧ Hid (WR B b T wr v s) ∧ Hid (Wrote b w v wr v)) (fun i _ => n - (intOf i).toNat)
 case atStart => exact ⟨0, rfl, Nat.zero_le _, hid rfl, HW, hid (Wrote.refl _ _ _)⟩
 case round =>
  obtain ⟨k, rfl, hk, HA, HV, HR⟩ := hrel
  have hcells : ∀ j x, ls[j]? = some x → wr.cell? ⟨q, off + j, none⟩ = some (.string ⟨x.toArray⟩) := fun j x hj => by
   have := (HR.out.kept HQ.out HQB.out HQV.out).1
   have h2 := HC.out j x hj
   unfold World.cell? at h2 ⊢
   rw [show wr.heap[(⟨q, off + j, none⟩ : Addr).block]? = w.heap[(⟨q, off + j, none⟩ : Addr).block]? from this]
   exact h2
  by_cases hkn : k < n
  ·obtain ⟨x, hx⟩ : ∃ x, ls[k]? = some x := ⟨_, List.getElem?_eq_getElem (by have := HN.out; omega)⟩
   have hxl := HL.out x (List.mem_of_getElem? hx)
   have dq := hcells k x hx
   have H1 := hid (isName_any x hxl wr)
   have hki : (0 : Int) ≤ k ∧ (k : Int) < n := by omega
   have hall : (ls.take (k + 1)).all nameOk = nameOk x := by
    obtain ⟨h1, h2⟩ := List.getElem?_eq_some_iff.1 hx
    rw [List.take_succ_eq_append_getElem h1, h2, List.all_append, HA.out]
    simp
   have HALL := hid hall
   have HX := hid hx
   clear hall hxl hcells hx
   go_wp2_with fail
   refine H1.out.mono ?_; rintro e w1 ⟨rfl, hb1⟩
   obtain ⟨k1, k2⟩ := requireS_step (HV.out.later hb1) (nameOk x)
   have H2 := hid (require_any (nameOk x) w1 v s (HV.out.later hb1))
   have K2 := hid (HR.out.trans (k2.later hb1)); have K1 := hid k1
   generalize w1.setCell ⟨b, 2, none⟩ (.bool (s.refused || !nameOk x)) = w2 at *
   clear k1 k2 hb1 dq
   obtain ⟨y, hy⟩ : ∃ y, nameOk x = y := ⟨_, rfl⟩
   rw [hy] at H2 K1 HALL ⊢
   cases y with
   | true =>
    go_wp2_with fail
    refine H2.out.mono ?_; rintro e w3 ⟨rfl, rfl⟩
    have e1 : requireS true s = s := by simp [requireS]
    rw [e1] at K1
    clear e1
    go_wp2
    go_roundw
    case rel => exact ⟨k + 1, by go_num, by omega, HALL, K1, K2⟩
    case measure => simp [intOf]; omega
   | false =>
    have HS : Hid (namesS ls s = requireS false s) := hid (by
     unfold namesS
     rw [if_neg]
     rw [Bool.not_eq_true, List.all_eq_false]
     exact ⟨x, List.mem_of_getElem? HX.out, by rw [hy]; simp⟩)
    go_wp2_with fail
    refine H2.out.mono ?_; rintro e w3 ⟨rfl, rfl⟩
    go_wp2
    refine bodyPost_ret (results_none rfl _ _ _) rfl ?_
    exact ⟨rfl, v, by rw [HS.out]; exact K1.out, K2.out⟩
  ·have hkn2 : k = n := by omega
   subst hkn2
   have ht : ls.take k = ls := List.take_of_length_le (by have := HN.out; omega)
   rw [ht] at HA
   obtain ⟨hj1, hj2⟩ := joined_short ls HN2.out HA.out
   have hj := join_any ls HN2.out hj2 q off cap HCAP.out wr (Nat.lt_of_lt_of_le HQ.out HR.out.kp.size) hcells
   rw [HN.out] at hj
   have H1 := hid hj
   have HS : Hid (namesS ls s = wordS (joined ls) s) := hid (by unfold namesS; rw [if_pos HA.out])
   have HJ1 := hid hj1
   clear hj1 hj2 hj hcells ht
   go_wp2_with fail
   refine H1.out.mono ?_; rintro e w1 ⟨rfl, hb1⟩
   have H2 := hid (word_any (joined ls) HJ1.out w1 v s (HV.out.later hb1) (Nat.le_trans HBW.out (Nat.le_trans HR.out.kp.size hb1.size)))
   have K2 := hid (HR.out.trans ((Wrote.refl b w1 v).later hb1))
   clear hb1
   go_wp2_with fail
   refine H2.out.mono ?_; rintro e w2 ⟨rfl, v2, k3, k4⟩
   have K3 := hid k3; have K4 := hid (K2.out.trans k4)
   clear k3 k4
   go_wp2
   go_end0
   exact ⟨rfl, v2, by rw [HS.out]; exact K3.out, K4.out⟩
theorem run_text {w : World} {B : Nat} {v : Value} {l : List UInt8} (h : w.ownsRow B 5 1 v l.length (Go.Lib.byteCells l)) : (convert 78 9 v).run Tryz.prog w = .ok (.string ⟨l.toArray⟩) w := by
 rcases h.2 with ⟨rfl, h0⟩ | ⟨g, cap, cur, rfl, _⟩
 ·have hl : l = [] := List.length_eq_zero_iff.1 h0
  subst hl
  rw [run_convert_bytes_nil w 78 5 Tryz.underlying78 Tryz.underlying5 0 0 9 Tryz.underlying9]
  rfl
 ·refine run_convert_bytes_back (P := Tryz.prog) w 78 9 5 ⟨g, 0, none⟩ cap l Tryz.underlying78 Tryz.underlying5 Tryz.underlying9 (fun j hj => ?_)
  rw [add_plain, Nat.zero_add, h.cellAt j (by simpa using hj)]
  simp [Go.Lib.byteCells, hj]
set_option maxRecDepth 100000 in
set_option maxHeartbeats 4000000 in
theorem finish_any {B b : Nat} {T : TypeId} (w : World) (v : Value) (s : St) (h : WR B b T w v s) :
  Calls Tryz.prog 24 #[.pointer (some ⟨b, 0, none⟩)] w fun e w' => e = .returned (.tuple #[.string ⟨(finishS s).1.toArray⟩, .int .i64 ((finishS s).2 : Nat)]) ∧ Below w.heap.size w w' := by
 have c2 := h.cells.cell (i := 2) rfl
 cases hr : s.refused with
 | true =>
  have hf : finishS s = ([], 1) := by unfold finishS; rw [if_pos hr]
  rw [hr] at c2
  rw [hf]
  clear h hf hr
  go_enter Tryz.func24, Tryz.ntmps24
  go_wp2
  go_ret2
  exact ⟨rfl, Below.refl _ _⟩
 | false =>
  have hrun := run_text h.own
  have c0 := h.cells.cell (i := 0) rfl
  rw [hr] at c2
  have hL := lex_any ⟨s.text.toArray⟩ (by rw [size_of_list]; have := h.short; omega) w
  obtain ⟨a, c, rfl⟩ := h.slice
  obtain ⟨ts, E, O, hx⟩ : ∃ ts E O, lexAll s.text = (ts, E, O) := ⟨_, _, _, rfl⟩
  have hL2 : Calls Tryz.prog 34 #[.string ⟨s.text.toArray⟩] w fun e w' => ∃ p cap, e = .returned (.tuple #[.slice p ts.length cap, .int .i64 (E : Nat), .int .i64 O]) ∧ Below w.heap.size w w' := by
   refine hL.mono ?_
   rintro e w' ⟨p, cap, rfl, hr, hc, hm, hb⟩
   exact ⟨p, cap, by simp only; rw [hx], hb⟩
  have HL := hid hL2
  clear h hL hL2
  generalize s.text.length = n at *
  by_cases hE : E = 0
  ·subst hE
   have hf : finishS s = (s.text, 0) := by unfold finishS; rw [if_neg (by rw [hr]; simp), if_neg (by rw [hx]; simp)]
   rw [hf]
   clear hf hx
   generalize s.text = t at *
   go_enter Tryz.func24, Tryz.ntmps24
   go_wp2_with fail
   refine HL.out.mono ?_; rintro e w1 ⟨p, cap, rfl, hb1⟩
   have HB1 := hid hb1
   clear hb1
   go_wp2
   go_ret2
   exact ⟨rfl, HB1.out⟩
  ·have hf : finishS s = ([], 3) := by unfold finishS; rw [if_neg (by rw [hr]; simp), if_pos (by rw [hx]; exact hE)]
   rw [hf]
   have hE0 : ((E : Int) == 0) = false := by rw [beq_eq_false_iff_ne]; omega
   clear hf hx
   generalize s.text = t at *
   go_enter Tryz.func24, Tryz.ntmps24
   go_wp2_with fail
   refine HL.out.mono ?_; rintro e w1 ⟨p, cap, rfl, hb1⟩
   have HB1 := hid hb1
   clear hb1
   go_wp2
   go_ret2
   exact ⟨rfl, HB1.out⟩
end Go.Proofs.YtilfpnkcgjonhaaGreatDoor.Pr
