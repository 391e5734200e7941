/-
  The walks of names, numbers and words of kinds; of the beginning and the end of a thing; of what is returned.
-/
import Derived.Test.YtilfpnkcgjonhaaGreatDoorZWalkJoin
import Derived.Test.YtilfpnkcgjonhaaGreatDoorZWalkLex
import Derived.Test.YtilfpnkcgjonhaaGreatDoorZMathToks
import Derived.Lib.LaidTab
namespace Go.Proofs.YtilfpnkcgjonhaaGreatDoor.Pr
open Go.RowKit Go.Sort Foyer.Printer Foyer.Lexer
theorem gTab : Tryz.prog.globalNamed "internal/strconv.uint64pow10" = some 1 := by kernel_rfl
structure Env (w : World) : Prop where
 tab : Lib.TabIs Tryz.prog w "internal/strconv.uint64pow10" .u64 Lib.pow10Tab
 len : ∃ m, w.cell? ⟨0, 0, none⟩ = some (.int .i64 m)
theorem Env.below {w w' : World} (h : Env w) {B : Nat} (hB : 1 < B ∧ 0 < B) (hb : Below B w w') : Env w' := by
 obtain ⟨ht, m, hm⟩ := h
 exact ⟨var?_below hb gTab hB.1 ht, m, (hb.cell (p := ⟨0, 0, none⟩) hB.2).trans hm⟩
theorem Env.low {w : World} (h : Env w) : 1 < w.heap.size ∧ 0 < w.heap.size :=
 ⟨lt_of_cell (h.tab.cell gTab 0 (by decide)), let ⟨_, hm⟩ := h.len; lt_of_cell hm⟩
theorem Env.since {w w' : World} (h : Env w) (hb : Below w.heap.size w w') : Env w' := h.below h.low hb
theorem itoa_call (n : Int) (h0 : -9223372036854775808 ≤ n) (h1 : n ≤ 9223372036854775807) (w : World) (hE : Env w) :
  Calls Tryz.prog 100 #[.int .i64 n] w fun e w' => e = .returned (.string ⟨(Lib.itoa n).toArray⟩) ∧ Below w.heap.size w w' :=
 (Tryz.strconv_Itoa n h0 h1 w hE.tab).mono fun _ _ ⟨he, k, os, hw⟩ => ⟨he, by rw [hw]; exact below_grow' w k os⟩
theorem name_lex {t : List UInt8} (h : nameOk t = true) : lexAll t = ([⟨1, t, 0, 0⟩], 0, 0) := by
 have hl : t.length ≤ 24 := by
  unfold nameOk at h
  simp only [Bool.and_eq_true, decide_eq_true_eq] at h
  exact h.1.1
 have := Lx.good 0 [] t [] 1 0 [] none rfl (word_name h [] (fun c hc => by simp at hc)) (Lx.nil _ _ rfl)
 simp only [List.nil_append, List.append_nil] at this
 exact lexAll_done (by omega) this (by simp)
theorem lex_name {t : List UInt8} {u : Tok} {O : Int} (h : lexAll t = ([u], 0, O)) (hk : u.kind = 1) (ht : u.text = t) : nameOk t = true := by
 obtain ⟨ts, e, hx⟩ := lx_some 0 t
 have h0 : (lexAll t).1 = [u] := by rw [h]
 have hraw : (raw (t.length + 1) 0 t).1 = [u] := by
  unfold lexAll at h
  split at h
  ·simp at h
  ·revert h
   generalize raw (t.length + 1) 0 t = q
   intro h
   cases hd : q.1.drop 5000 with
   | cons x r => simp only [hd] at h; simp at h
   | nil =>
    simp only [hd] at h
    cases he : q.2 with
    | none => simp only [he] at h; exact (Prod.mk.inj h).1
    | some y => simp only [he] at h; simp at h
 rw [lx_raw hx _ (by omega)] at hraw
 simp only at hraw
 subst hraw
 cases hx with
 | good _ g T rest k v _ _ hg hT hr =>
  simp only at hk ht
  subst hk
  rcases hT with ⟨_, _, hl, ⟨c, r, hc, hcl⟩, hw, _⟩ | ⟨h2, _⟩ | ⟨h2, _⟩ | ⟨h2, _⟩ | ⟨h2, _⟩
  ·unfold nameOk
   rw [← ht]
   simp only [Bool.and_eq_true, decide_eq_true_eq, List.all_eq_true]
   exact ⟨⟨hl, by rw [hc]; exact hcl⟩, hw⟩
  all_goals omega
set_option maxRecDepth 100000 in
set_option maxHeartbeats 4000000 in
theorem isName_any (t : List UInt8) (ht : t.length ≤ 1000000) (w : World) :
  Calls Tryz.prog 65 #[.string ⟨t.toArray⟩] w fun e w' => e = .returned (.bool (nameOk t)) ∧ Below w.heap.size w w' := by
 obtain ⟨ts, E, O, hx⟩ : ∃ ts E O, lexAll t = (ts, E, O) := ⟨_, _, _, rfl⟩
 have hL : Calls Tryz.prog 34 #[.string ⟨t.toArray⟩] w fun e w' => ∃ p cap, e = .returned (.tuple #[.slice p ts.length cap, .int .i64 (E : Nat), .int .i64 O]) ∧ RdT w' p ts ∧ Below w.heap.size w w' := by
  refine (lex_any ⟨t.toArray⟩ (by rw [size_of_list]; exact ht) w).mono ?_
  rintro e w' ⟨p, cap, rfl, hr, hc, hm, hb⟩
  simp only at hr
  rw [hx] at hr
  exact ⟨p, cap, by simp only; rw [hx], hr, hb⟩
 have HL := hid hL
 clear hL
 by_cases hE : E = 0
 ·subst hE
  by_cases hn : ts.length = 1
  ·obtain ⟨u, rfl⟩ := List.length_eq_one_iff.1 hn
   obtain ⟨b, hb⟩ : ∃ b, decide (u.text = t) = b := ⟨_, rfl⟩
   have hbe : (u.text == t) = b := by rw [← hb]; by_cases h : u.text = t <;> simp [h]
   have hres : nameOk t = (decide (u.kind = 1) && b) := by
    rw [← hb]
    cases h : nameOk t with
    | true =>
     have := name_lex h
     rw [hx] at this
     injection this with h1 _
     injection h1 with h1 _
     rw [h1]; simp
    | false =>
     symm
     rw [← Bool.not_eq_true, Bool.and_eq_true, decide_eq_true_eq, decide_eq_true_eq]
     rintro ⟨h1, h2⟩
     rw [lex_name hx h1 h2] at h
     cases h
   rw [hres]
   obtain ⟨kd, hkd⟩ : ∃ kd, u.kind = kd := ⟨_, rfl⟩
   obtain ⟨y, hy⟩ : ∃ y, (decide (kd = 1) && b) = y := ⟨_, rfl⟩
   rw [hkd, hy]
   clear hx hres hb
   go_enter Tryz.func65, Tryz.ntmps65
   go_wp2_with fail
   refine HL.out.mono ?_; rintro e w1 ⟨p, cap, rfl, hr, hb1⟩
   have hrd : ∃ b off, p = some ⟨b, off, none⟩ ∧ TokAt w1 b off u := by
    rcases hr with h | ⟨b, off, hp, _, h⟩
    ·simp at h
    ·exact ⟨b, off, hp, by have := h 0 u rfl; rw [Nat.zero_mul, Nat.add_zero] at this; exact this⟩
   obtain ⟨q, off, rfl, hu⟩ := hrd
   have d0 := hu.kind
   rw [hkd] at d0
   have d1 := hu.text
   have HB1 := hid hb1
   clear hr hu hb1
   by_cases hk : kd = 1
   ·subst hk
    obtain rfl : b = y := by simpa using hy
    clear hy
    go_wp2
    go_ret
    exact ⟨rfl, HB1.out⟩
   ·have hk0 : ((kd : Int) == 1) = false := by rw [beq_eq_false_iff_ne]; omega
    obtain rfl : false = y := by rw [← hy, decide_eq_false hk]; rfl
    clear hy hkd
    go_wp2
    go_ret
    exact ⟨rfl, HB1.out⟩
  ·have hres : nameOk t = false := by
    rw [← Bool.not_eq_true]
    intro h
    rw [name_lex h] at hx
    injection hx with h1 _
    rw [← h1] at hn
    exact hn rfl
   rw [hres]
   obtain ⟨n, hn2⟩ : ∃ n, ts.length = n := ⟨_, rfl⟩
   rw [hn2] at HL
   have hn0 : ((n : Int) == 1) = false := by rw [beq_eq_false_iff_ne]; omega
   clear hx hres hn hn2
   go_enter Tryz.func65, Tryz.ntmps65
   go_wp2_with fail
   refine HL.out.mono ?_; rintro e w1 ⟨p, cap, rfl, hr, hb1⟩
   have HB1 := hid hb1
   clear hr hb1
   go_wp2
   go_ret
   exact ⟨rfl, HB1.out⟩
 ·have hres : nameOk t = false := by
   rw [← Bool.not_eq_true]
   intro h
   rw [name_lex h] at hx
   injection hx with h1 h2
   injection h2 with h2 _
   exact hE h2.symm
  rw [hres]
  have hE0 : ((E : Int) == 0) = false := by rw [beq_eq_false_iff_ne]; omega
  clear hx hres hE
  go_enter Tryz.func65, Tryz.ntmps65
  go_wp2_with fail
  refine HL.out.mono ?_; rintro e w1 ⟨p, cap, rfl, hr, hb1⟩
  have HB1 := hid hb1
  clear hr hb1
  go_wp2
  go_ret
  exact ⟨rfl, HB1.out⟩
theorem Step.then {B b : Nat} {T : TypeId} {w w1 w2 : World} {v v1 : Value} {s2 : St} (h : Wrote b w v w1 v1) (k : Step B b T w1 v1 s2 w2) : Step B b T w v s2 w2 :=
 let ⟨v', h1, h2⟩ := k; ⟨v', h1, h.trans h2⟩
set_option maxRecDepth 100000 in
set_option maxHeartbeats 1000000 in
theorem begin_any {B b : Nat} {T : TypeId} (w : World) (v : Value) (s : St) (h : WR B b T w v s) (hB : B ≤ w.heap.size) (hlow : s.opn ≤ 8) :
  Calls Tryz.prog 41 #[.pointer (some ⟨b, 0, none⟩)] w fun e w' => e = .returned (.tuple #[]) ∧ Step B b T w v (beginS s) w' := by
 have H1 := hid (word_any [123] (by decide) w v s h hB)
 go_enter Tryz.func41, Tryz.ntmps41
 go_wp2_with fail
 refine H1.out.mono ?_; rintro e w1 ⟨rfl, v1, k1, k2⟩
 have H2 := hid (line_any [] (by decide) w1 v1 _ k1 (Nat.le_trans hB k2.kp.size))
 have K2 := hid k2
 clear k1 k2 H1
 go_wp2_with fail
 refine H2.out.mono ?_; rintro e w2 ⟨rfl, v2, k3, k4⟩
 have e0 : ∀ (x : List UInt8) (s : St), (putS x s).opn = s.opn := fun x s => by unfold putS; split <;> rfl
 have eo : (lineS [] (wordS [123] s)).opn = s.opn := by unfold lineS wordS; simp only [e0]
 have c1 := k3.cells.cell (i := 1) rfl
 have f1 := k3.cells.free 1
 obtain ⟨k5, k6⟩ := k3.opened ((lineS [] (wordS [123] s)).opn + 1) (by rw [eo]; omega)
 have K6 := hid ((K2.out.trans k4).trans k6); have K5 := hid k5
 rw [eo] at c1
 have hwr : IntKind.i64.wrap ((s.opn : Int) + 1) = (s.opn : Int) + 1 := by rw [IntKind.wrap_i64]; omega
 have hc : (((lineS [] (wordS [123] s)).opn + 1 : Nat) : Int) = (s.opn : Int) + 1 := by rw [eo]; omega
 rw [hc] at K5 K6
 clear k3 k4 k5 k6 H2 hc eo e0
 go_wp2
 go_end0
 exact ⟨rfl, v2, K5.out, K6.out⟩
set_option maxRecDepth 100000 in
set_option maxHeartbeats 1000000 in
theorem end_any {B b : Nat} {T : TypeId} (w : World) (v : Value) (s : St) (h : WR B b T w v s) (hB : B ≤ w.heap.size) (hlow : 0 < s.opn) :
  Calls Tryz.prog 43 #[.pointer (some ⟨b, 0, none⟩)] w fun e w' => e = .returned (.tuple #[]) ∧ Step B b T w v (endS s) w' := by
 have c1 := h.cells.cell (i := 1) rfl
 have f1 := h.cells.free 1
 obtain ⟨m, hm⟩ : ∃ m, s.opn = m + 1 := ⟨s.opn - 1, by omega⟩
 have hl := h.low
 obtain ⟨k5, k6⟩ := h.opened (s.opn - 1) (by omega)
 have H1 := hid (word_any [125] (by decide) _ v _ k5 (Nat.le_trans hB k6.kp.size))
 have K6 := hid k6
 have hwr : IntKind.i64.wrap (m : Int) = (m : Int) := by rw [IntKind.wrap_i64]; omega
 have hsub : ((m + 1 : Nat) : Int) - 1 = (m : Int) := by omega
 have e1 : s.opn - 1 = m := by omega
 rw [hm] at c1
 have HE : Hid (endS s = lineS [] (wordS [125] { s with opn := m })) := hid (by unfold endS; rw [e1])
 rw [e1] at H1 K6
 clear k5 k6 h hlow hm hl e1
 go_enter Tryz.func43, Tryz.ntmps43
 go_wp2_with fail
 refine H1.out.mono ?_; rintro e w1 ⟨rfl, v1, k1, k2⟩
 have H2 := hid (line_any [] (by decide) w1 v1 _ k1 (Nat.le_trans hB (Nat.le_trans K6.out.kp.size k2.kp.size)))
 have K2 := hid (K6.out.trans k2)
 clear k1 k2 H1
 go_wp2_with fail
 refine H2.out.mono ?_; rintro e w2 ⟨rfl, v2, k3, k4⟩
 have K3 := hid k3; have K4 := hid (K2.out.trans k4)
 clear k3 k4
 go_wp2
 go_end0
 exact ⟨rfl, v2, by rw [HE.out]; exact K3.out, K4.out⟩
end Go.Proofs.YtilfpnkcgjonhaaGreatDoor.Pr
