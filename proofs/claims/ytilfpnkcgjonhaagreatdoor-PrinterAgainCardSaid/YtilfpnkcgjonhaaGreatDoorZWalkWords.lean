/-
  The walks of numbers, of names with points between them, of words of kinds, and of what is returned.
-/
import Derived.Test.YtilfpnkcgjonhaaGreatDoorZWalkNames
namespace Go.Proofs.YtilfpnkcgjonhaaGreatDoor.Pr
open Go.RowKit Go.Sort Foyer.Printer Foyer.Lexer
structure EnvAt (B : Nat) (w : World) : Prop where
 env : Env w
 low : 1 < B ∧ 0 < B
theorem EnvAt.below {B : Nat} {w w' : World} (h : EnvAt B w) (hb : Below B w w') : EnvAt B w' := ⟨h.env.below h.low hb, h.low⟩
theorem WR.wrote {B b : Nat} {T : TypeId} {w w' : World} {v v' : Value} {s : St} (h : WR B b T w v s) (hB : B ≤ w.heap.size) (k : Wrote b w v w' v') : Below B w w' := k.below hB h.base fun _ hk => (h.vlow hk).1
set_option maxRecDepth 100000 in
set_option maxHeartbeats 1000000 in
theorem digits_any {B b : Nat} {T : TypeId} (n : Int) (hn : -9223372036854775808 ≤ n ∧ n ≤ 9223372036854775807) (w : World) (v : Value) (s : St) (h : WR B b T w v s) (hB : B ≤ w.heap.size) (hE : EnvAt B w) :
  Calls Tryz.prog 67 #[.pointer (some ⟨b, 0, none⟩), .int .i64 n] w fun e w' => e = .returned (.string ⟨(Go.Lib.itoa n).toArray⟩) ∧ Step B b T w v (requireS (numOk n) s) w' := by
 obtain ⟨k1, k2⟩ := requireS_step h (numOk n)
 have H1 := hid (require_any (numOk n) w v s h)
 generalize w.setCell ⟨b, 2, none⟩ (.bool (s.refused || !numOk n)) = w1 at *
 have H2 := hid (itoa_call n hn.1 hn.2 w1 (hE.below (h.wrote hB k2)).env)
 have K1 := hid k1; have K2 := hid k2
 clear k1 k2 h hE
 obtain ⟨y, hy⟩ : ∃ y, numOk n = y := ⟨_, rfl⟩
 rw [hy] at H1 K1 ⊢
 unfold numOk at hy
 by_cases h0 : 0 ≤ n
 ·have h0' : decide ((0 : Int) ≤ n) = true := decide_eq_true h0
  rw [h0', Bool.true_and] at hy
  go_enter Tryz.func67, Tryz.ntmps67
  go_wp2_with fail
  refine H1.out.mono ?_; rintro e w2 ⟨rfl, rfl⟩
  go_wp2_with fail
  refine H2.out.mono ?_; rintro e w3 ⟨rfl, hb⟩
  have HB := hid hb
  clear hb
  go_wp2
  go_ret
  exact ⟨rfl, v, K1.out.later HB.out, K2.out.trans ((Wrote.refl _ _ _).later HB.out)⟩
 ·have h0' : decide ((0 : Int) ≤ n) = false := decide_eq_false h0
  rw [h0', Bool.false_and] at hy
  subst hy
  go_enter Tryz.func67, Tryz.ntmps67
  go_wp2_with fail
  refine H1.out.mono ?_; rintro e w2 ⟨rfl, rfl⟩
  go_wp2_with fail
  refine H2.out.mono ?_; rintro e w3 ⟨rfl, hb⟩
  have HB := hid hb
  clear hb
  go_wp2
  go_ret
  exact ⟨rfl, v, K1.out.later HB.out, K2.out.trans ((Wrote.refl _ _ _).later HB.out)⟩
theorem itoa_short' (n : Int) (hn : -9223372036854775808 ≤ n ∧ n ≤ 9223372036854775807) : (Go.Lib.itoa n).length ≤ 40 := by
 have hd : ∀ m : Nat, m < 10 ^ 20 → (Go.Lib.decDigits m).length ≤ 20 := fun m hm => by
  rw [Go.Lib.decDigits_length]
  have h0 : ∀ k u, u < 10 ^ (k + 1) → Go.Lib.nDigits u ≤ k + 1 := by
   intro k
   induction k with
   | zero => intro u hu; rw [Go.Lib.nDigits_small (by simpa using hu)]; omega
   | succ k ih =>
    intro u hu
    by_cases h10 : u < 10
    ·rw [Go.Lib.nDigits_small h10]; omega
    ·rw [Go.Lib.nDigits_big h10]
     have := ih (u / 10) (by rw [Nat.pow_succ] at hu; exact Nat.div_lt_of_lt_mul (by rw [Nat.mul_comm]; exact hu))
     omega
  exact h0 19 m hm
 unfold Go.Lib.itoa
 have hp : (10 : Nat) ^ 20 = 100000000000000000000 := by decide
 split
 ·rw [List.length_cons]
  have := hd n.natAbs (by rw [hp]; omega)
  omega
 ·have := hd n.toNat (by rw [hp]; omega)
  omega
theorem itoa_short (n : Int) (hn : -9223372036854775808 ≤ n ∧ n ≤ 9223372036854775807) : (Go.Lib.itoa n).length ≤ 90 := Nat.le_trans (itoa_short' n hn) (by omega)
def intCells (zs : List Int) : List Value := zs.map fun z => .int .i64 z
def Small64 (zs : List Int) : Prop := ∀ z ∈ zs, -9223372036854775808 ≤ z ∧ z ≤ 9223372036854775807
theorem take_fold {α : Type} (f : St → α → St) (zs : List α) (s : St) {k : Nat} {z : α} (h : zs[k]? = some z) : (zs.take (k + 1)).foldl f s = f ((zs.take k).foldl f s) z := by
 obtain ⟨h1, h2⟩ := List.getElem?_eq_some_iff.1 h
 rw [List.take_succ_eq_append_getElem h1, h2, List.foldl_append]
 rfl
set_option maxRecDepth 100000 in
set_option maxHeartbeats 4000000 in
theorem numbers_any {B b : Nat} {T : TypeId} (zs : List Int) (hz : Small64 zs) (hn : zs.length ≤ 100) (q : Nat) (w : World) (v : Value) (s : St) (h : WR B b T w v s) (hB : B ≤ w.heap.size) (hE : EnvAt B w)
  (hqb : q ≠ b) (hqv : v.ownBlock ≠ some q) (hq : Blk w q 3 (intCells zs)) :
  Calls Tryz.prog 40 #[.pointer (some ⟨b, 0, none⟩), .slice (some ⟨q, 0, none⟩) zs.length zs.length] w fun e w' => e = .returned (.tuple #[]) ∧ Step B b T w v (numbersS zs s) w' := by
 have HW := hid h; have HQ := hid hq; have HZ := hid hz; have HQB := hid hqb; have HQV := hid hqv; have HBW := hid hB; have HE := hid hE
 obtain ⟨n, hnn⟩ : ∃ n, zs.length = n := ⟨_, rfl⟩
 have HN := hid hnn
 rw [hnn] at hn ⊢
 clear h hq hz hqb hqv hB hE hnn
 go_enter Tryz.func40, Tryz.ntmps40
 go_wp2
 go_loopw [8] (fun i wr => ∃ (k : Nat) (vo : Value), i = .int .i64 k ∧ k ≤ n ∧ Hid (WR B b T wr vo ((zs.take k).foldl (fun s n => numberS n s) s)) ∧ Hid (Wrote b w v wr vo)) (fun i _ => n - (intOf i).toNat)
 case atStart => exact ⟨0, v, rfl, Nat.zero_le _, HW, hid (Wrote.refl _ _ _)⟩
 case round =>
  obtain ⟨k, vo, rfl, hk, HV, HR⟩ := hrel
  by_cases hkn : k < n
  ·obtain ⟨z, hz⟩ : ∃ z, zs[k]? = some z := ⟨_, List.getElem?_eq_getElem (by have := HN.out; omega)⟩
   have hzb := HZ.out z (List.mem_of_getElem? hz)
   have hst := take_fold (fun s n => numberS n s) zs s hz
   obtain ⟨hk1, hk2, hk3⟩ := HR.out.kept HQ.out.lt HQB.out HQV.out
   have dq : wr.cell? ⟨q, k, none⟩ = some (.int .i64 z) := Blk.cell (b := q) (hk1.trans HQ.out) (by unfold intCells; simp [hz])
   obtain ⟨t, ht⟩ : ∃ t, (zs.take k).foldl (fun s n => numberS n s) s = t := ⟨_, rfl⟩
   rw [ht] at hst HV
   have hbw := HW.out.wrote HBW.out HR.out
   have H1 := hid (digits_any z hzb wr vo t HV.out (Nat.le_trans HBW.out HR.out.kp.size) (HE.out.below hbw))
   have hki : (0 : Int) ≤ k ∧ (k : Int) < n := by omega
   have HST := hid hst
   have HZB := hid (itoa_short z hzb)
   clear hz hzb hst hk1 hk2 hk3 ht hbw
   go_wp2_with fail
   refine H1.out.mono ?_; rintro e w1 ⟨rfl, v1, k1, k2⟩
   have H2 := hid (word_any (Go.Lib.itoa z) HZB.out w1 v1 _ k1 (Nat.le_trans HBW.out (Nat.le_trans HR.out.kp.size k2.kp.size)))
   have K2 := hid (HR.out.trans k2)
   clear k1 k2
   go_wp2_with fail
   refine H2.out.mono ?_; rintro e w2 ⟨rfl, v2, k3, k4⟩
   have K3 := hid k3; have K4 := hid (K2.out.trans k4)
   clear k3 k4 dq
   go_wp2
   go_roundw
   case rel => exact ⟨k + 1, v2, by go_num, by omega, by rw [HST.out]; exact K3, K4⟩
   case measure => simp [intOf]; omega
  ·have hkn2 : k = n := by omega
   subst hkn2
   have ht : zs.take k = zs := List.take_of_length_le (by have := HN.out; omega)
   rw [ht] at HV
   go_wp2
   go_end0
   exact ⟨rfl, vo, HV.out, HR.out⟩
def strCells' (ws : List (List UInt8)) : List Value := ws.map fun l => .string ⟨l.toArray⟩
set_option maxRecDepth 100000 in
set_option maxHeartbeats 4000000 in
theorem oneOf_any {B b : Nat} {T : TypeId} (ws : List (List UInt8)) (hws : ∀ l ∈ ws, l.length ≤ 90) (k : Int) (hk : -9223372036854775808 ≤ k ∧ k ≤ 9223372036854775807) (q : Nat) (Tq : TypeId) (w : World) (v : Value) (s : St) (h : WR B b T w v s) (hB : B ≤ w.heap.size)
  (hqb : q ≠ b) (hqv : v.ownBlock ≠ some q) (hq : Blk w q Tq (strCells' ws)) :
  Calls Tryz.prog 78 #[.pointer (some ⟨b, 0, none⟩), .slice (some ⟨q, 0, none⟩) ws.length ws.length, .int .i64 k] w fun e w' => e = .returned (.tuple #[]) ∧ Step B b T w v (oneOfS ws k s) w' := by
 obtain ⟨n, hnn⟩ : ∃ n, ws.length = n := ⟨_, rfl⟩
 by_cases hc : 0 < k ∧ k < n
 ·obtain ⟨k1, k2⟩ := requireS_step h true
  have H1 := hid (require_any true w v s h)
  have hq2 := (k2.kept hq.lt hqb hqv).1.trans hq
  generalize w.setCell ⟨b, 2, none⟩ (.bool (s.refused || !true)) = w1 at *
  have e1 : requireS true s = s := by simp [requireS]
  rw [e1] at k1
  obtain ⟨m, hm⟩ : ∃ m : Nat, k = m := ⟨k.toNat, by omega⟩
  subst hm
  obtain ⟨x, hx⟩ : ∃ x, ws[m]? = some x := ⟨_, List.getElem?_eq_getElem (by omega)⟩
  have hxl := hws x (List.mem_of_getElem? hx)
  have H2 := hid (word_any x hxl w1 v s k1 (Nat.le_trans hB k2.kp.size))
  have dq : w1.cell? ⟨q, m, none⟩ = some (.string ⟨x.toArray⟩) := Blk.cell (b := q) hq2 (by unfold strCells'; simp [hx])
  have HS : Hid (oneOfS ws m s = wordS x s) := hid (by
   unfold oneOfS
   rw [if_pos ⟨hc.1, by rw [hnn]; exact hc.2⟩]
   simp [List.getD_eq_getElem?_getD, hx])
  have K2 := hid k2
  have hd1 : decide ((0 : Int) < (m : Int)) = true := decide_eq_true hc.1
  have hd2 : decide ((m : Int) < (n : Int)) = true := decide_eq_true hc.2
  have hi1 := hc.1; have hi2 := hc.2
  rw [hnn]
  clear h k1 k2 e1 hx hxl hc hq hq2 hws
  go_enter Tryz.func78, Tryz.ntmps78
  go_wp2_with fail
  refine H1.out.mono ?_; rintro e w2 ⟨rfl, rfl⟩
  go_wp2_with fail
  refine H2.out.mono ?_; rintro e w3 ⟨rfl, v3, k3, k4⟩
  have K3 := hid k3; have K4 := hid (K2.out.trans k4)
  clear k3 k4 dq
  go_wp2
  go_end0
  exact ⟨rfl, v3, by rw [HS.out]; exact K3.out, K4.out⟩
 ·obtain ⟨k1, k2⟩ := requireS_step h false
  have H1 := hid (require_any false w v s h)
  generalize w.setCell ⟨b, 2, none⟩ (.bool (s.refused || !false)) = w1 at *
  have HS : Hid (oneOfS ws k s = requireS false s) := hid (by unfold oneOfS; rw [if_neg (fun hh => hc ⟨hh.1, by rw [← hnn]; exact hh.2⟩)])
  have K1 := hid k1; have K2 := hid k2
  rw [hnn]
  clear h k1 k2 hq hws
  by_cases h0 : 0 < k
  ·have hd1 : decide ((0 : Int) < k) = true := decide_eq_true h0
   have hd2 : decide (k < (n : Int)) = false := decide_eq_false fun hh => hc ⟨h0, hh⟩
   clear hc
   go_enter Tryz.func78, Tryz.ntmps78
   go_wp2_with fail
   refine H1.out.mono ?_; rintro e w2 ⟨rfl, rfl⟩
   go_wp2
   go_end0
   exact ⟨rfl, v, by rw [HS.out]; exact K1.out, K2.out⟩
  ·have hd1 : decide ((0 : Int) < k) = false := decide_eq_false h0
   clear hc
   go_enter Tryz.func78, Tryz.ntmps78
   go_wp2_with fail
   refine H1.out.mono ?_; rintro e w2 ⟨rfl, rfl⟩
   go_wp2
   go_end0
   exact ⟨rfl, v, by rw [HS.out]; exact K1.out, K2.out⟩
end Go.Proofs.YtilfpnkcgjonhaaGreatDoor.Pr
