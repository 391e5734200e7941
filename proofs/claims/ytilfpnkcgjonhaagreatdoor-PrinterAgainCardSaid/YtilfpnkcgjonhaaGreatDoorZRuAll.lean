/-
  The walks of what takes the next token.
  Maps of strings that a call makes, written out.
  The walks of what a rule has between its name and its conditions: ratios, limits, prices.
  The walk of a test.
  The walks of lists: tests, lists of tests, rules.
  The walk of a rule.
  The walk of a rule.
  The walks of rules, and of the parsing of tokens, whose failure is recovered.
  The walk of Parse.
-/
import Derived.Test.YtilfpnkcgjonhaaGreatDoorZRuMath
import Derived.Test.YtilfpnkcgjonhaaGreatDoorZMixBase
import Derived.Test.YtilfpnkcgjonhaaGreatDoorZHeap
import Derived.Shelf.Abstract
import Derived.Maps.Keyed
import Derived.Carry
import Derived.Test.YtilfpnkcgjonhaaGreatDoorZRound
import Derived.Defers
import Derived.Recover
import Derived.Test.YtilfpnkcgjonhaaGreatDoorZWalkLex
namespace Go.Proofs.YtilfpnkcgjonhaaGreatDoor.Ru
open Go.RowKit Go.Sort Foyer.Rule
abbrev TokP := Foyer.Lexer.Tok
theorem beq_dec {α : Type} [BEq α] [LawfulBEq α] [DecidableEq α] (a b : α) : (a == b) = decide (a = b) := by
 by_cases h : a = b <;> simp [h]
def tkV (t : TokP) : Value := .agg #[.int .i64 (t.kind : Nat), .string ⟨t.text.toArray⟩, .int .i64 (t.val : Nat), .int .i64 (t.pos : Nat)]
def At (w : World) (bp L : Nat) (ts : List TokP) : Prop :=
 ∃ p cap, Blk w bp 134 [.slice p ts.length cap, .int .i64 (L : Nat)] ∧ (ts = [] ∨ ∃ b off, p = some ⟨b, off, none⟩ ∧ b < bp ∧ ∀ j t, ts[j]? = some t → TokAt w b (off + j * 4) t) ∧ ts.length ≤ cap ∧ cap ≤ maxLen ∧ (p = none → cap = 0) ∧ ∀ t ∈ ts, t.text.length ≤ 1000000
theorem At.short {w : World} {bp L : Nat} {ts : List TokP} (h : At w bp L ts) : ∀ t ∈ ts, t.text.length ≤ 1000000 := let ⟨_, _, _, _, _, _, _, h⟩ := h; h
theorem At.lt {w : World} {bp L : Nat} {ts : List TokP} (h : At w bp L ts) : bp < w.heap.size := let ⟨_, _, h, _⟩ := h; h.lt
theorem At.kept {E : Nat → Prop} {w w' : World} {bp L : Nat} {ts : List TokP} (h : At w bp L ts) (k : Kp E w w') (hE : ∀ k, E k → bp < k) : At w' bp L ts := by
 obtain ⟨p, cap, hB, hr, hc⟩ := h
 refine ⟨p, cap, hB.kept k (fun he => by have := hE _ he; omega), hr.imp id ?_, hc⟩
 rintro ⟨b, off, rfl, hb, ht⟩
 exact ⟨b, off, rfl, hb, fun j t hj => (ht j t hj).kept k (fun he => by have := hE _ he; omega)⟩
def failP (c : Nat) (r : List TokP) (L : Nat) : Ending := .panicked [{ v := .iface 130 (.agg #[.int .i64 ((failAt c L r).1 : Nat), .int .i64 ((failAt c L r).2 : Nat)]), recovered := false }]
def Gives {α : Type} (bp L : Nat) (E : Nat → Prop) (w : World) (x : Res α) (V : α → Ending → World → Prop) (e : Ending) (w' : World) : Prop :=
 (∃ a r, x = .ok a r ∧ V a e w' ∧ At w' bp L r ∧ Kp E w w') ∨ ∃ c r, x = .bad c r ∧ e = failP c r L ∧ Kp E w w'
theorem gives_ok {α : Type} {bp L : Nat} {E : Nat → Prop} {w w' : World} {x : Res α} {V : α → Ending → World → Prop} {e : Ending} (a : α) (r : List TokP) (h : x = .ok a r) (h1 : V a e w') (h2 : At w' bp L r) (h3 : Kp E w w') : Gives bp L E w x V e w' := Or.inl ⟨a, r, h, h1, h2, h3⟩
theorem gives_bad {α : Type} {bp L : Nat} {E : Nat → Prop} {w w' : World} {x : Res α} {V : α → Ending → World → Prop} (c : Nat) (r : List TokP) (h : x = .bad c r) (h1 : Kp E w w') : Gives bp L E w x V (failP c r L) w' := Or.inr ⟨c, r, h, rfl, h1⟩
set_option maxRecDepth 100000 in
theorem left_any (bp L : Nat) (ts : List TokP) (w : World) (h : At w bp L ts) (y : Bool) (hy : decide (ts ≠ []) = y) : Calls Tryz.prog 91 #[.pointer (some ⟨bp, 0, none⟩)] w fun e w' => e = .returned (.bool y) ∧ w' = w := by
 subst hy
 obtain ⟨p, cap, hB, hr, hc, hm, hn⟩ := h
 have h0 := hB.cell (i := 0) rfl
 cases ts with
 | nil =>
  go_enter Tryz.func91, Tryz.ntmps91
  go_wp2
  exact bodyPost_ret (results_tmp rfl _ _ _) rfl ⟨rfl, rfl⟩
 | cons t r =>
  have hpos : (0 : Int) < (r.length : Int) + 1 := by omega
  go_enter Tryz.func91, Tryz.ntmps91
  go_wp2
  exact bodyPost_ret (results_tmp rfl _ _ _) rfl ⟨by simp, rfl⟩
set_option maxRecDepth 100000 in
theorem fail_any (bp L : Nat) (ts : List TokP) (c : Nat) (w : World) (h : At w bp L ts) : Calls Tryz.prog 119 #[.pointer (some ⟨bp, 0, none⟩), .int .i64 (c : Nat)] w fun e w' => e = failP c ts L ∧ w' = w := by
 have HA := hid h
 obtain ⟨p, cap, hB, hr, hc, hm, hn⟩ := h
 have h0 := hB.cell (i := 0) rfl
 have h1 := hB.cell (i := 1) rfl
 cases ts with
 | nil =>
  go_enter Tryz.func119, Tryz.ntmps119
  go_wp2_with fail
  refine (left_any bp L [] _ HA.out false rfl).mono ?_
  rintro e w1 ⟨rfl, rfl⟩
  go_wp2
  exact ⟨rfl, rfl, rfl⟩
 | cons t r =>
  rcases hr with hr | ⟨b, off, rfl, hb, ht⟩
  ·cases hr
  have h3 := (ht 0 t rfl).pos
  rw [Nat.zero_mul, Nat.add_zero] at h3
  have hpos : (0 : Int) < (r.length : Int) + 1 := by omega
  go_enter Tryz.func119, Tryz.ntmps119
  go_wp2_with fail
  refine (left_any bp L (t :: r) _ HA.out true (by simp)).mono ?_
  rintro e w1 ⟨rfl, rfl⟩
  go_wp2
  exact ⟨rfl, rfl, rfl⟩
def Asks (f : Nat) (caps : Array Value) (q : TokP → Bool) (E : Nat → Prop) (w : World) : Prop :=
 ∀ w1 t, Kp E w w1 → Calls Tryz.prog f (#[tkV t] ++ caps) w1 fun e w2 => e = .returned (.bool (q t)) ∧ Kp (fun _ => False) w1 w2
set_option maxRecDepth 100000 in
theorem wordC_asks (s : List UInt8) (b : Nat) (E : Nat → Prop) (w : World) (hb : Blk w b 9 [.string ⟨s.toArray⟩]) (hE : ¬ E b) : Asks 157 #[.pointer (some ⟨b, 0, none⟩)] (fun t => decide (t.text = s)) E w := by
 intro w1 t k
 have hB := hb.kept k hE
 have hlt := hB.lt
 have h0 : (w1.alloc (.cells #[.int .i64 (t.kind : Nat), .string ⟨t.text.toArray⟩, .int .i64 (t.val : Nat), .int .i64 (t.pos : Nat)] 119)).cell? ⟨b, 0, none⟩ = some (.string ⟨s.toArray⟩) := (hB.alloc _).cell rfl
 show Calls Tryz.prog 157 #[.agg #[.int .i64 (t.kind : Nat), .string ⟨t.text.toArray⟩, .int .i64 (t.val : Nat), .int .i64 (t.pos : Nat)], .pointer (some ⟨b, 0, none⟩)] w1 _
 go_enter Tryz.func157, Tryz.ntmps157
 go_wp2
 exact bodyPost_ret (results_tmp rfl _ _ _) rfl ⟨by rw [beq_dec]; rfl, (Kp.refl _ _).alloc _⟩
set_option maxRecDepth 100000 in
theorem nameC_asks (E : Nat → Prop) (w : World) : Asks 153 #[] (fun t => decide (t.kind = 1)) E w := by
 intro w1 t k
 show Calls Tryz.prog 153 #[.agg #[.int .i64 (t.kind : Nat), .string ⟨t.text.toArray⟩, .int .i64 (t.val : Nat), .int .i64 (t.pos : Nat)]] w1 _
 have e : (((t.kind : Nat) : Int) == 1) = decide (t.kind = 1) := by
  rw [beq_dec]
  exact decide_eq_decide.2 ⟨fun h => by omega, fun h => by omega⟩
 clear k
 go_enter Tryz.func153, Tryz.ntmps153
 go_wp2
 exact bodyPost_ret (results_tmp rfl _ _ _) rfl ⟨rfl, (Kp.refl _ _).alloc _⟩
set_option maxRecDepth 100000 in
theorem numbersC_asks (E : Nat → Prop) (w : World) : Asks 185 #[] (fun t => decide (t.kind = 2)) E w := by
 intro w1 t k
 show Calls Tryz.prog 185 #[.agg #[.int .i64 (t.kind : Nat), .string ⟨t.text.toArray⟩, .int .i64 (t.val : Nat), .int .i64 (t.pos : Nat)]] w1 _
 have e : (((t.kind : Nat) : Int) == 2) = decide (t.kind = 2) := by
  rw [beq_dec]
  exact decide_eq_decide.2 ⟨fun h => by omega, fun h => by omega⟩
 clear k
 go_enter Tryz.func185, Tryz.ntmps185
 go_wp2
 exact bodyPost_ret (results_tmp rfl _ _ _) rfl ⟨rfl, (Kp.refl _ _).alloc _⟩
def onlyB (b : Nat) : Nat → Prop := fun k => k = b
def TakeV (t : TokP) (e : Ending) (_ : World) : Prop := e = .returned (tkV t)
set_option maxRecDepth 100000 in
set_option maxHeartbeats 1000000 in
theorem take_any (bp L : Nat) (ts : List TokP) (f : Nat) (hent : ∀ args w, (callFunc f args).run Tryz.prog w = .ok (.enter f args) w) (caps : Array Value) (q : TokP → Bool) (w : World) (h : At w bp L ts) (hq : Asks f caps q (fun _ => False) w) :
  Calls Tryz.prog 121 #[.pointer (some ⟨bp, 0, none⟩), .func (.func f) #[] caps] w (Gives bp L (onlyB bp) w (takeP q ts) TakeV) := by
 have hlt := h.lt
 have HA := hid h; have HQ := hid hq
 obtain ⟨p, cap, hB, hr, hc, hm, hn⟩ := h
 have b0 := (hB.alloc (.cells #[.int .i64 0, .string ⟨#[]⟩, .int .i64 0, .int .i64 0] 119))
 have h0 := b0.cell (i := 0) rfl
 cases ts with
 | nil =>
  clear hB hr hq b0
  go_enter Tryz.func121, Tryz.ntmps121
  go_wp2_with fail
  refine (left_any bp L [] _ (HA.out.kept ((Kp.refl (fun _ => False) _).alloc _) (fun _ h => h.elim)) false rfl).mono ?_
  rintro e w1 ⟨rfl, rfl⟩
  go_wp2_with fail
  refine (fail_any bp L [] 4 _ (HA.out.kept ((Kp.refl (fun _ => False) _).alloc _) (fun _ h => h.elim))).mono ?_
  rintro e w1 ⟨rfl, rfl⟩
  unfold failP
  go_wp2
  exact ⟨rfl, gives_bad 4 [] rfl ((Kp.refl _ _).alloc _)⟩
 | cons t r =>
  rcases hr with hr | ⟨b, off, rfl, hb, ht⟩
  ·cases hr
  have k0 : Kp (fun _ => False) w (w.alloc (.cells #[.int .i64 0, .string ⟨#[]⟩, .int .i64 0, .int .i64 0] 119)) := (Kp.refl _ _).alloc _
  have t0 := (ht 0 t rfl).kept k0 (fun h => h)
  rw [Nat.zero_mul, Nat.add_zero] at t0
  obtain ⟨c0, c1, c2, c3⟩ := t0
  have hlen : ((r.length : Int) + 1 == 0) = false := by simp; omega
  have hpos : (0 : Int) < (r.length : Int) + 1 := by omega
  have K0 := hid k0; have HT := hid ht; have HB := hid hB
  clear ht hB b0 hq k0
  have AA := hid (HA.out.kept K0.out (fun _ h => h.elim))
  go_enter Tryz.func121, Tryz.ntmps121
  go_wp2_with fail
  refine (left_any bp L (t :: r) _ AA.out true (by simp)).mono ?_
  rintro e w1 ⟨rfl, rfl⟩
  clear AA
  go_wp2_with fail
  refine (HQ.out _ t K0.out).mono ?_
  rintro e w1 ⟨rfl, hk1⟩
  have k1 := K0.out.call hk1 (fun _ h => Or.inl h)
  have bR1 := ((Blk.new w 119 [.int .i64 0, .string ⟨#[]⟩, .int .i64 0, .int .i64 0]).kept hk1 (fun h => h))
  have a1 := HA.out.kept k1 (fun _ h => h.elim)
  have hB1 := HB.out.kept k1 (fun h => h)
  have t1 := (HT.out 0 t rfl).kept k1 (fun h => h)
  rw [Nat.zero_mul, Nat.add_zero] at t1
  obtain ⟨d0, d1, d2, d3⟩ := t1
  have g0 := hB1.cell (i := 0) rfl
  have gf := hB1.free 0
  have hs1 := k1.size
  clear h0 c0 c1 c2 c3 hent
  by_cases hqt : q t = true
  ·rw [hqt]
   have HTP := hid (takeP_pos (r := r) hqt)
   have K1 := hid k1; have A1 := hid a1; have B1 := hid hB1; have BR := hid bR1
   have hcap1 : ¬ (cap : Int) < 1 := by simp at hc; omega
   clear K0 HQ HA
   go_upto_region 4 with fail
   clear g0 gf d0 d1 d2 d3
   have b3 := B1.out.alloc (.cells #[.int .i64 (t.kind : Nat), .string ⟨t.text.toArray⟩, .int .i64 (t.val : Nat), .int .i64 (t.pos : Nat)] 119)
   have r3 := BR.out.alloc (.cells #[.int .i64 (t.kind : Nat), .string ⟨t.text.toArray⟩, .int .i64 (t.val : Nat), .int .i64 (t.pos : Nat)] 119)
   have x3 := Blk.new w1 119 [.int .i64 (t.kind : Nat), .string ⟨t.text.toArray⟩, .int .i64 (t.val : Nat), .int .i64 (t.pos : Nat)]
   have k3 := K1.out.alloc (.cells #[.int .i64 (t.kind : Nat), .string ⟨t.text.toArray⟩, .int .i64 (t.val : Nat), .int .i64 (t.pos : Nat)] 119)
   generalize w1.alloc (.cells #[.int .i64 (t.kind : Nat), .string ⟨t.text.toArray⟩, .int .i64 (t.val : Nat), .int .i64 (t.pos : Nat)] 119) = W3 at *
   have hs3 := k3.size
   have g3 := b3.cell (i := 0) rfl
   have f3 := b3.free 0
   by_cases hc1 : cap = 1
   ·subst hc1
    have B3 := hid b3; have R3 := hid r3; have X3 := hid x3; have K3 := hid k3
    clear b3 r3 x3 k3 B1 BR K1 A1
    go_upto_region 5 with fail
    have b4 := B3.out.set 0 (.slice (some ⟨b, off, none⟩) r.length 0)
    have r4 := R3.out.other (p := ⟨bp, 0, none⟩) (by show ¬ bp = w.heap.size; omega) (.slice (some ⟨b, off, none⟩) r.length 0)
    have x4 := X3.out.other (p := ⟨bp, 0, none⟩) (by show ¬ bp = w1.heap.size; omega) (.slice (some ⟨b, off, none⟩) r.length 0)
    have k4 : Kp (onlyB bp) w (W3.setCell ⟨bp, 0, none⟩ (.slice (some ⟨b, off, none⟩) r.length 0)) := (K3.out.mono (E' := onlyB bp) fun _ h => h.elim).setOld bp 0 rfl _
    have a4 : At (W3.setCell ⟨bp, 0, none⟩ (.slice (some ⟨b, off, none⟩) r.length 0)) bp L r := ⟨some ⟨b, off, none⟩, 0, b4, Or.inl (by simpa using hc), by rw [show r = [] by simpa using hc]; exact Nat.le_refl _, Nat.zero_le _, fun h => (by cases h), fun u hu => hn.2 u (List.mem_cons_of_mem _ hu)⟩
    generalize W3.setCell ⟨bp, 0, none⟩ (.slice (some ⟨b, off, none⟩) r.length 0) = W4 at *
    have l1 := x4.lt
    have y0 := x4.cell (i := 0) rfl
    have y1 := x4.cell (i := 1) rfl
    have y2 := x4.cell (i := 2) rfl
    have y3 := x4.cell (i := 3) rfl
    have z0 := r4.cell (i := 0) rfl
    have z1 := r4.cell (i := 1) rfl
    have z2 := r4.cell (i := 2) rfl
    have z3 := r4.cell (i := 3) rfl
    have zf := r4.free
    have R4 := hid r4; have K4 := hid k4; have A4 := hid a4
    clear b4 r4 x4 k4 a4 g3 f3 B3 R3 X3 K3
    go_wp2
    have r5 := (((R4.out.set 0 (.int .i64 (t.kind : Nat))).set 1 (.string ⟨t.text.toArray⟩)).set 2 (.int .i64 (t.val : Nat))).set 3 (.int .i64 (t.pos : Nat))
    exact bodyPost_ret (results_cell_mid rfl _ _ w.heap.size [.int .i64 (t.kind : Nat), .string ⟨t.text.toArray⟩, .int .i64 (t.val : Nat), .int .i64 (t.pos : Nat)] _ rfl r5.range Tryz.underlying119 rfl (by kernel_rfl)) rfl
     (gives_ok t r HTP.out rfl (A4.out.kept (Kp.setRes W4 w.heap.size _ _ _ _) (fun k hk => by have : k = w.heap.size := hk; omega)) (K4.out.call (Kp.setRes W4 w.heap.size _ _ _ _) (fun k hk => Or.inr (by have : k = w.heap.size := hk; omega))))
   ·have B3 := hid b3; have R3 := hid r3; have X3 := hid x3; have K3 := hid k3
    clear b3 r3 x3 k3 B1 BR K1 A1
    go_upto_region 5 with fail
    have b4 := B3.out.set 0 (.slice (some ⟨b, off + 4, none⟩) r.length (cap - 1))
    have r4 := R3.out.other (p := ⟨bp, 0, none⟩) (by show ¬ bp = w.heap.size; omega) (.slice (some ⟨b, off + 4, none⟩) r.length (cap - 1))
    have x4 := X3.out.other (p := ⟨bp, 0, none⟩) (by show ¬ bp = w1.heap.size; omega) (.slice (some ⟨b, off + 4, none⟩) r.length (cap - 1))
    have k4 : Kp (onlyB bp) w (W3.setCell ⟨bp, 0, none⟩ (.slice (some ⟨b, off + 4, none⟩) r.length (cap - 1))) := (K3.out.mono (E' := onlyB bp) fun _ h => h.elim).setOld bp 0 rfl _
    have a4 : At (W3.setCell ⟨bp, 0, none⟩ (.slice (some ⟨b, off + 4, none⟩) r.length (cap - 1))) bp L r := ⟨some ⟨b, off + 4, none⟩, cap - 1, b4, Or.inr ⟨b, off + 4, rfl, hb, fun j u hj => by
              have h5 := (HT.out (j + 1) u (by simpa using hj)).kept k4 (fun h => by have : b = bp := h; omega)
              rwa [show off + (j + 1) * 4 = off + 4 + j * 4 by omega] at h5⟩, by simp at hc; omega, by omega, fun h => (by cases h), fun u hu => hn.2 u (List.mem_cons_of_mem _ hu)⟩
    generalize W3.setCell ⟨bp, 0, none⟩ (.slice (some ⟨b, off + 4, none⟩) r.length (cap - 1)) = W4 at *
    have l1 := x4.lt
    have y0 := x4.cell (i := 0) rfl
    have y1 := x4.cell (i := 1) rfl
    have y2 := x4.cell (i := 2) rfl
    have y3 := x4.cell (i := 3) rfl
    have z0 := r4.cell (i := 0) rfl
    have z1 := r4.cell (i := 1) rfl
    have z2 := r4.cell (i := 2) rfl
    have z3 := r4.cell (i := 3) rfl
    have zf := r4.free
    have R4 := hid r4; have K4 := hid k4; have A4 := hid a4
    clear b4 r4 x4 k4 a4 g3 f3 B3 R3 X3 K3
    go_wp2
    have r5 := (((R4.out.set 0 (.int .i64 (t.kind : Nat))).set 1 (.string ⟨t.text.toArray⟩)).set 2 (.int .i64 (t.val : Nat))).set 3 (.int .i64 (t.pos : Nat))
    exact bodyPost_ret (results_cell_mid rfl _ _ w.heap.size [.int .i64 (t.kind : Nat), .string ⟨t.text.toArray⟩, .int .i64 (t.val : Nat), .int .i64 (t.pos : Nat)] _ rfl r5.range Tryz.underlying119 rfl (by kernel_rfl)) rfl
     (gives_ok t r HTP.out rfl (A4.out.kept (Kp.setRes W4 w.heap.size _ _ _ _) (fun k hk => by have : k = w.heap.size := hk; omega)) (K4.out.call (Kp.setRes W4 w.heap.size _ _ _ _) (fun k hk => Or.inr (by have : k = w.heap.size := hk; omega))))
  ·have hqf : q t = false := by simpa using hqt
   rw [hqf]
   have HTP := hid (takeP_neg (r := r) hqt)
   have K1 := hid k1; have A1 := hid a1
   clear k1 a1 hB1 bR1 hk1 hqt hqf
   go_wp2_with fail
   refine (fail_any bp L (t :: r) 4 _ A1.out).mono ?_
   rintro e w2 ⟨rfl, rfl⟩
   unfold failP
   go_wp2
   exact ⟨rfl, gives_bad _ _ HTP.out (K1.out.mono fun _ h => h.elim)⟩
end Go.Proofs.YtilfpnkcgjonhaaGreatDoor.Ru
namespace Go.Proofs.YtilfpnkcgjonhaaGreatDoor.Ru
open Go.RowKit Go.Sort Go.Shelf Foyer.Rule
theorem wordC_ent (args : Array Value) (w : World) : (callFunc 157 args).run Tryz.prog w = .ok (.enter 157 args) w := enters_of Tryz.func157 (by kernel_rfl) rfl args w
theorem nameC_ent (args : Array Value) (w : World) : (callFunc 153 args).run Tryz.prog w = .ok (.enter 153 args) w := enters_of Tryz.func153 (by kernel_rfl) rfl args w
theorem numbersC_ent (args : Array Value) (w : World) : (callFunc 185 args).run Tryz.prog w = .ok (.enter 185 args) w := enters_of Tryz.func185 (by kernel_rfl) rfl args w
theorem makes_func (fn : Fn) (first cap : Array Value) (w : World) : (Instr.makeFunc fn first cap).run Tryz.prog w = .ok (.func fn first cap) w := rfl
theorem tok_field1 (a b c d : Value) (w : World) : (Instr.field 119 (.agg #[a, b, c, d]) 1).run Tryz.prog w = .ok b w := by kernel_rfl
theorem tok_field2 (a b c d : Value) (w : World) : (Instr.field 119 (.agg #[a, b, c, d]) 2).run Tryz.prog w = .ok c w := by kernel_rfl
theorem tok_field3 (a b c d : Value) (w : World) : (Instr.field 119 (.agg #[a, b, c, d]) 3).run Tryz.prog w = .ok d w := by kernel_rfl
def IntV (n : Nat) (e : Ending) (_ : World) : Prop := e = .returned (.int .i64 (n : Nat))
def UnitV {α : Type} (_ : α) (e : Ending) (_ : World) : Prop := e = .returned (.tuple #[])
set_option maxRecDepth 100000 in
theorem word_any (bp L : Nat) (ts : List TokP) (s : List UInt8) (w : World) (h : At w bp L ts) :
  Calls Tryz.prog 128 #[.pointer (some ⟨bp, 0, none⟩), .string ⟨s.toArray⟩] w (Gives bp L (onlyB bp) w (word s ts) UnitV) := by
 have hmf := makes_func
 have HA := hid h
 have k0 : Kp (fun _ => False) w (w.alloc (.cells #[.string ⟨s.toArray⟩] 9)) := (Kp.refl _ _).alloc _
 have b0 : Blk (w.alloc (.cells #[.string ⟨s.toArray⟩] 9)) w.heap.size 9 [.string ⟨s.toArray⟩] := Blk.new w _ _
 have K0 := hid k0; have B0 := hid b0
 clear h k0 b0
 go_enter Tryz.func128, Tryz.ntmps128
 go_wp2_with fail
 refine (take_any bp L ts 157 wordC_ent #[.pointer (some ⟨w.heap.size, 0, none⟩)] _ _ (HA.out.kept K0.out (fun _ h => h.elim)) (wordC_asks s _ _ _ B0.out (fun h => h))).mono ?_
 rintro e w1 (⟨t, r, h1, rfl, ha, hk⟩ | ⟨c, r, h1, rfl, hk⟩)
 ·have HH := hid h1; have HA1 := hid ha; have HK := hid hk
  clear h1 ha hk
  unfold tkV
  go_wp2
  go_end0
  exact gives_ok t r HH.out rfl HA1.out ((K0.out.mono fun _ h => h.elim).trans HK.out)
 ·have HH := hid h1; have HK := hid hk
  clear h1 hk
  unfold failP
  go_wp2
  exact ⟨rfl, gives_bad c r HH.out ((K0.out.mono fun _ h => h.elim).trans HK.out)⟩
set_option maxRecDepth 100000 in
theorem number_any (bp L : Nat) (ts : List TokP) (w : World) (h : At w bp L ts) :
  Calls Tryz.prog 167 #[.pointer (some ⟨bp, 0, none⟩)] w (Gives bp L (onlyB bp) w (num ts) IntV) := by
 have hfd := tok_field2
 have HA := hid h
 clear h
 go_enter Tryz.func167, Tryz.ntmps167
 go_wp2_with fail
 refine (take_any bp L ts 185 numbersC_ent #[] _ _ HA.out (numbersC_asks _ _)).mono ?_
 rintro e w1 (⟨t, r, h1, rfl, ha, hk⟩ | ⟨c, r, h1, rfl, hk⟩)
 ·have HH := hid h1; have HA1 := hid ha; have HK := hid hk
  clear h1 ha hk
  unfold tkV
  go_wp2
  refine bodyPost_ret (results_tmp rfl _ _ _) rfl ?_
  exact gives_ok t.val r (show num ts = _ from then_of HH.out) rfl HA1.out HK.out
 ·have HH := hid h1; have HK := hid hk
  clear h1 hk
  unfold failP
  go_wp2
  exact ⟨rfl, gives_bad c r (show num ts = _ from then_bad HH.out) HK.out⟩
set_option maxRecDepth 100000 in
theorem name_any (bp L : Nat) (ts : List TokP) (w : World) (h : At w bp L ts) :
  Calls Tryz.prog 123 #[.pointer (some ⟨bp, 0, none⟩)] w (Gives bp L (onlyB bp) w (nameT ts) TakeV) := by
 have HA := hid (h.kept (E := fun _ => False) ((Kp.refl _ _).alloc (.cells #[.int .i64 0, .string ⟨#[]⟩, .int .i64 0, .int .i64 0] 119)) (fun _ h => h.elim))
 have R0 := hid (Blk.new w 119 [.int .i64 0, .string ⟨#[]⟩, .int .i64 0, .int .i64 0])
 have hlt := h.lt
 clear h
 go_enter Tryz.func123, Tryz.ntmps123
 go_wp2_with fail
 refine (take_any bp L ts 153 nameC_ent #[] _ _ HA.out (nameC_asks _ _)).mono ?_
 rintro e w1 (⟨t, r, h1, rfl, ha, hk⟩ | ⟨c, r, h1, rfl, hk⟩)
 ·have HH := hid h1; have HA1 := hid ha; have HK := hid (((Kp.refl (onlyB bp) w).alloc (.cells #[.int .i64 0, .string ⟨#[]⟩, .int .i64 0, .int .i64 0] 119)).trans hk)
  have R1 := hid (R0.out.kept hk (fun h => by have : w.heap.size = bp := h; omega))
  have z0 := R1.out.cell (i := 0) rfl
  have z1 := R1.out.cell (i := 1) rfl
  have z2 := R1.out.cell (i := 2) rfl
  have z3 := R1.out.cell (i := 3) rfl
  have zf := R1.out.free
  clear h1 ha hk R0
  unfold tkV
  go_wp2
  have r5 := (((R1.out.set 0 (.int .i64 (t.kind : Nat))).set 1 (.string ⟨t.text.toArray⟩)).set 2 (.int .i64 (t.val : Nat))).set 3 (.int .i64 (t.pos : Nat))
  exact bodyPost_ret (results_cell_mid rfl _ _ w.heap.size [.int .i64 (t.kind : Nat), .string ⟨t.text.toArray⟩, .int .i64 (t.val : Nat), .int .i64 (t.pos : Nat)] _ rfl r5.range Tryz.underlying119 rfl (by kernel_rfl)) rfl
   (gives_ok t r HH.out rfl (HA1.out.kept (Kp.setRes w1 w.heap.size _ _ _ _) (fun k hk => by have : k = w.heap.size := hk; omega)) (HK.out.call (Kp.setRes w1 w.heap.size _ _ _ _) (fun k hk => Or.inr (by have : k = w.heap.size := hk; omega))))
 ·have HH := hid h1; have HK := hid (((Kp.refl (onlyB bp) w).alloc (.cells #[.int .i64 0, .string ⟨#[]⟩, .int .i64 0, .int .i64 0] 119)).trans hk)
  clear h1 hk
  unfold failP
  go_wp2
  exact ⟨rfl, gives_bad c r HH.out HK.out⟩
set_option maxRecDepth 100000 in
theorem skip_any (bp L : Nat) (ts : List TokP) (s : List UInt8) (w : World) (h : At w bp L ts) :
  Calls Tryz.prog 124 #[.pointer (some ⟨bp, 0, none⟩), .string ⟨s.toArray⟩] w fun e w' => ((∃ r, sepW s ts = some r ∧ e = .returned (.bool true) ∧ At w' bp L r) ∨ (sepW s ts = none ∧ e = .returned (.bool false) ∧ At w' bp L ts)) ∧ Kp (onlyB bp) w w' := by
 have HA := hid h
 obtain ⟨p, cap, hB, hr, hc, hm, hn⟩ := h
 have h0 := hB.cell (i := 0) rfl
 cases ts with
 | nil =>
  clear hr
  go_enter Tryz.func124, Tryz.ntmps124
  go_wp2_with fail
  refine (left_any bp L [] _ HA.out false rfl).mono ?_
  rintro e w1 ⟨rfl, rfl⟩
  go_wp2
  exact bodyPost_ret (results_tmp rfl _ _ _) rfl ⟨Or.inr ⟨rfl, rfl, HA.out⟩, Kp.refl _ _⟩
 | cons t r =>
  rcases hr with hr | ⟨b, off, rfl, hb, ht⟩
  ·cases hr
  have h3 := (ht 0 t rfl).text
  rw [Nat.zero_mul, Nat.add_zero] at h3
  have hpos : (0 : Int) < (r.length : Int) + 1 := by omega
  clear ht hB
  by_cases hs : t.text = s
  ·have hq : (t.text == s) = true := by simp [hs]
   have HW := hid hs
   clear hs
   go_enter Tryz.func124, Tryz.ntmps124
   go_wp2_with fail
   refine (left_any bp L (t :: r) _ HA.out true (by simp)).mono ?_
   rintro e w1 ⟨rfl, rfl⟩
   go_wp2_with fail
   refine (word_any bp L (t :: r) s _ HA.out).mono ?_
   have hw : word s (t :: r) = .ok t r := takeP_pos (decide_eq_true HW.out)
   rintro e w2 (⟨u, r2, h1, rfl, ha, hk⟩ | ⟨c, r2, h1, rfl, hk⟩)
   ·rw [hw] at h1
    cases h1
    have HA1 := hid ha; have HK := hid hk
    clear ha hk hw h0 h3 hq
    go_wp2
    exact bodyPost_ret (results_tmp rfl _ _ _) rfl ⟨Or.inl ⟨r, sepW_pos HW.out, rfl, HA1.out⟩, HK.out⟩
   ·rw [hw] at h1; cases h1
  ·have hq : (t.text == s) = false := by simp [hs]
   have HW := hid hs
   clear hs
   go_enter Tryz.func124, Tryz.ntmps124
   go_wp2_with fail
   refine (left_any bp L (t :: r) _ HA.out true (by simp)).mono ?_
   rintro e w1 ⟨rfl, rfl⟩
   go_wp2
   exact bodyPost_ret (results_tmp rfl _ _ _) rfl ⟨Or.inr ⟨sepW_neg HW.out, rfl, HA.out⟩, Kp.refl _ _⟩
end Go.Proofs.YtilfpnkcgjonhaaGreatDoor.Ru
namespace Go.Proofs.YtilfpnkcgjonhaaGreatDoor.Ru
open Go.RowKit Go.Sort Foyer.Rule
theorem ba_beq (a b : List UInt8) : ((⟨a.toArray⟩ : ByteArray) == ⟨b.toArray⟩) = decide (a = b) := by
 show (a.toArray == b.toArray) = _
 by_cases h : a = b <;> simp [h]
def entryAt (s : List UInt8) : List (List UInt8 × Value) → Option Value
 | [] => none
 | (k, v) :: r => if s = k then some v else entryAt s r
def entriesOf : Nat → List (List UInt8 × Value) → List MapEntry
 | _, [] => []
 | i, (k, v) :: r => { key := .string ⟨k.toArray⟩, val := v, born := i } :: entriesOf (i + 1) r
theorem findNow_at (s : List UInt8) : ∀ (l : List (List UInt8 × Value)) (j i : Nat), ∃ n, Instr.findNow .string (.string ⟨s.toArray⟩) (entriesOf j l) i = some ((entryAt s l).map fun v => (n, v))
 | [], _, _ => ⟨0, rfl⟩
 | (k, v) :: r, j, i => by
  unfold entriesOf Instr.findNow entryAt
  simp only [Instr.sameNow, ba_beq]
  by_cases h : s = k
  ·rw [if_pos h, decide_eq_true h]
   exact ⟨i, rfl⟩
  ·rw [if_neg h, decide_eq_false h]
   exact findNow_at s r (j + 1) (i + 1)
def MapB (w : World) (b : Nat) (l : List (List UInt8 × Value)) (c : Nat) : Prop := w.heap[b]? = some (.map (entriesOf 0 l).toArray c)
theorem MapB.lt {w : World} {b c : Nat} {l : List (List UInt8 × Value)} (h : MapB w b l c) : b < w.heap.size := (Array.getElem?_eq_some_iff.1 h).1
theorem MapB.kept {E : Nat → Prop} {w w' : World} {b c : Nat} {l : List (List UInt8 × Value)} (h : MapB w b l c) (k : Kp E w w') (hE : ¬ E b) : MapB w' b l c := (k.block b h.lt hE).trans h
theorem map_lookup {t K : TypeId} {E : TypeId} (ht : Tryz.prog.underlying t = some (.map K E)) (hK : Tryz.prog.underlying K = some .string) {z : Value} (w : World) (hz : (zeroValue E).run Tryz.prog w = .ok z w) {b c : Nat} {l : List (List UInt8 × Value)} (h : MapB w b l c) (s : List UInt8) :
  (Instr.lookup t (.map (some b)) (.string ⟨s.toArray⟩) false).run Tryz.prog w = .ok ((entryAt s l).getD z) w := by
 obtain ⟨n, hn⟩ := findNow_at s l 0 0
 have hk := MapKept.run_findKey (w := w) (kt := K) hK hn
 have hck : ∀ em, (Instr.checkKey em 10000 K (.string ⟨s.toArray⟩)).run Tryz.prog w = .ok () w := fun em => by
  rw [show (10000 : Nat) = 9999 + 1 from rfl]
  rw [Instr.checkKey]
  simp only [Sem.run_bind, run_underlying hK, Result.andThen_ok, Sem.run_pure]
 cases he : entryAt s l with
 | none => rw [he] at hk; simp [Instr.lookup, run_underlying ht, MapKept.run_getObj_map h, hck, hk, hz, Result.andThen]
 | some v => rw [he] at hk; simp [Instr.lookup, run_underlying ht, MapKept.run_getObj_map h, hck, hk, Result.andThen]
theorem map_insert {t K : TypeId} {E : TypeId} (ht : Tryz.prog.underlying t = some (.map K E)) (hK : Tryz.prog.underlying K = some .string) (w : World) (l : List (List UInt8 × Value)) (s : List UInt8) (v : Value) (hs : entryAt s l = none) (n : Nat) (hn : l.length = n) (b : Nat) (hb : b = w.heap.size) :
  (Instr.mapUpdate t (.map (some b)) (.string ⟨s.toArray⟩) v).run Tryz.prog (w.alloc (.map (entriesOf 0 l).toArray n)) = .ok () (w.alloc (.map (entriesOf 0 (l ++ [(s, v)])).toArray (n + 1))) := by
 subst hb
 obtain ⟨m, hm⟩ := findNow_at s l 0 0
 rw [hs] at hm
 have hk := MapKept.run_findKey (w := w.alloc (.map (entriesOf 0 l).toArray n)) (kt := K) hK hm
 have hck : ∀ em, (Instr.checkKey em 10000 K (.string ⟨s.toArray⟩)).run Tryz.prog (w.alloc (.map (entriesOf 0 l).toArray n)) = .ok () (w.alloc (.map (entriesOf 0 l).toArray n)) := fun em => by
  rw [show (10000 : Nat) = 9999 + 1 from rfl]
  rw [Instr.checkKey]
  simp only [Sem.run_bind, run_underlying hK, Result.andThen_ok, Sem.run_pure]
 have hh : (w.alloc (.map (entriesOf 0 l).toArray n)).heap[w.heap.size]? = some (.map (entriesOf 0 l).toArray n) := (MapKept.heap_alloc w _).1
 have he : ∀ (l : List (List UInt8 × Value)) (j : Nat), entriesOf j (l ++ [(s, v)]) = entriesOf j l ++ [{ key := .string ⟨s.toArray⟩, val := v, born := j + l.length }] := by
  intro l
  induction l with
  | nil => intro j; rfl
  | cons x r ih => intro j; rw [List.cons_append, entriesOf, entriesOf, ih, List.cons_append, List.length_cons, show j + 1 + r.length = j + (r.length + 1) by omega]
 rw [he l 0, hn, Nat.zero_add]
 have hset : ∀ (o : Obj), (setObj w.heap.size o).run Tryz.prog (w.alloc (.map (entriesOf 0 l).toArray n)) = .ok () (w.alloc o) := fun o => by
  rw [MapKept.run_setObj_map o hh]
  have e : (w.alloc (.map (entriesOf 0 l).toArray n)).heap.setIfInBounds w.heap.size o = (w.alloc o).heap := by
   show (w.heap.push _).setIfInBounds w.heap.size o = w.heap.push o
   apply Array.ext_getElem?
   intro i
   rw [Array.getElem?_setIfInBounds, Array.getElem?_push, Array.getElem?_push]
   by_cases hi : w.heap.size = i
   ·subst hi; simp
   ·rw [if_neg hi, if_neg (fun h => hi h.symm), if_neg (fun h => hi h.symm)]
  rw [e]; rfl
 simp [Instr.mapUpdate, run_underlying ht, MapKept.run_getObj_map hh, hck, hk, hset, Result.andThen]
end Go.Proofs.YtilfpnkcgjonhaaGreatDoor.Ru
namespace Go.Proofs.YtilfpnkcgjonhaaGreatDoor.Ru
open Go.RowKit Go.Sort Foyer.Rule
structure Kind (α : Type) where
 is : World → (Nat → Prop) → List Value → α → Prop
 size : Nat
 kept : ∀ {W W' F c a}, is W F c a → (∀ k, F k → k < W.heap.size → W'.heap[k]? = W.heap[k]?) → is W' F c a
 mono : ∀ {W F F' c a}, is W F c a → (∀ k, F k → k < W.heap.size → F' k) → is W F' c a
 len : ∀ {W F c a}, is W F c a → c.length = size
 one : ∀ {W F c a}, is W F c a → ∀ u ∈ c, u.oneCell' = true
section
variable {α : Type}
theorem All2.imp {β : Type} {R S : β → α → Prop} {bs : List β} {xs : List α} (h : All2 R bs xs) (hi : ∀ b x, R b x → S b x) : All2 S bs xs := by
 induction h with
 | nil => exact .nil
 | cons h _ ih => exact .cons (hi _ _ h) ih
theorem All2.snoc {β : Type} {R : β → α → Prop} {bs : List β} {xs : List α} (h : All2 R bs xs) {b : β} {x : α} (hb : R b x) : All2 R (bs ++ [b]) (xs ++ [x]) := by
 induction h with
 | nil => exact .cons hb .nil
 | cons h _ ih => exact .cons h ih
theorem All2.length {β : Type} {R : β → α → Prop} {bs : List β} {xs : List α} (h : All2 R bs xs) : bs.length = xs.length := by
 induction h with
 | nil => rfl
 | cons _ _ ih => simp [ih]
theorem All2.at {β : Type} {R : β → α → Prop} {bs : List β} {xs : List α} (h : All2 R bs xs) : ∀ {i : Nat} {x : α}, xs[i]? = some x → ∃ b, bs[i]? = some b ∧ R b x := by
 induction h with
 | nil => intro i x hx; simp at hx
 | cons h _ ih =>
  intro i x hx
  cases i with
  | zero => simp only [List.getElem?_cons_zero, Option.some.injEq] at hx; subst hx; exact ⟨_, rfl, h⟩
  | succ i => exact ih (by simpa using hx)
def IsList (K : Kind α) (W : World) (F : Nat → Prop) (T : TypeId) (v : Value) (xs : List α) : Prop :=
 ∃ css, Con W 0 T K.size v css ∧ (∀ k, v.ownBlock = some k → F k) ∧ All2 (K.is W F) css xs
theorem IsList.kept {K : Kind α} {W W' : World} {F : Nat → Prop} {T : TypeId} {v : Value} {xs : List α} (h : IsList K W F T v xs) (hk : ∀ k, F k → k < W.heap.size → W'.heap[k]? = W.heap[k]?) : IsList K W' F T v xs := by
 obtain ⟨css, h1, h2, h3⟩ := h
 exact ⟨css, h1.of_block fun k hv => hk k (h2 k hv) (own_lt h1.own hv).2, h2, All2.imp h3 fun _ _ h => K.kept h hk⟩
theorem IsList.mono {K : Kind α} {W : World} {F F' : Nat → Prop} {T : TypeId} {v : Value} {xs : List α} (h : IsList K W F T v xs) (hk : ∀ k, F k → k < W.heap.size → F' k) : IsList K W F' T v xs := by
 obtain ⟨css, h1, h2, h3⟩ := h
 exact ⟨css, h1, fun k hv => hk k (h2 k hv) (own_lt h1.own hv).2, All2.imp h3 fun _ _ h => K.mono h hk⟩
theorem IsList.one {K : Kind α} {W : World} {F : Nat → Prop} {T : TypeId} {v : Value} {xs : List α} (h : IsList K W F T v xs) : v.oneCell' = true := by
 obtain ⟨css, h1, _⟩ := h
 rcases h1.form with ⟨rfl, _⟩ | ⟨g, cap, cur, rfl, _⟩ <;> rfl
theorem IsList.slice {K : Kind α} {W : World} {F : Nat → Prop} {T : TypeId} {v : Value} {xs : List α} (h : IsList K W F T v xs) : ∃ a n c, v = .slice a n c := by
 obtain ⟨css, h1, _⟩ := h
 rcases h1.form with ⟨rfl, _⟩ | ⟨g, cap, cur, rfl, _⟩ <;> exact ⟨_, _, _, rfl⟩
def Building (K : Kind α) (W : World) (F : Nat → Prop) (B : Nat) (T : TypeId) (v : Value) (xs : List α) : Prop := ∃ css, Con W B T K.size v css ∧ All2 (K.is W F) css xs
theorem building_nil (K : Kind α) (W : World) (F : Nat → Prop) (B : Nat) (T : TypeId) : Building K W F B T (.slice none 0 0) [] := ⟨[], con_nil W B T K.size, .nil⟩
theorem Kind.moved (K : Kind α) {W W' : World} {F F' : Nat → Prop} {c : List Value} {a : α} (h : K.is W F c a) (hk : ∀ k, F k → k < W.heap.size → W'.heap[k]? = W.heap[k]?) (hF : ∀ k, F k → k < W.heap.size → F' k) : K.is W' F' c a := by
 have h1 := K.mono (F' := fun k => F k ∧ k < W.heap.size) h fun k h1 h2 => ⟨h1, h2⟩
 have h2 := K.kept (W' := W') h1 fun k h3 h4 => hk k h3.1 h4
 exact K.mono h2 fun k h3 _ => hF k h3.1 h3.2
theorem Building.kept {K : Kind α} {W W' : World} {F F' : Nat → Prop} {B : Nat} {T : TypeId} {v : Value} {xs : List α} (h : Building K W F B T v xs) (hv : ∀ k, v.ownBlock = some k → W'.heap[k]? = W.heap[k]?) (hk : ∀ k, F k → k < W.heap.size → W'.heap[k]? = W.heap[k]?) (hF : ∀ k, F k → k < W.heap.size → F' k) : Building K W' F' B T v xs := by
 obtain ⟨css, h1, h3⟩ := h
 exact ⟨css, h1.of_block hv, All2.imp h3 fun _ _ h => K.moved h hk hF⟩
theorem Building.lt {K : Kind α} {W : World} {F : Nat → Prop} {B : Nat} {T : TypeId} {v : Value} {xs : List α} (h : Building K W F B T v xs) {k : Nat} (hk : v.ownBlock = some k) : B ≤ k ∧ k < W.heap.size := let ⟨_, h1, _⟩ := h; own_lt h1.own hk
theorem Building.one {K : Kind α} {W : World} {F : Nat → Prop} {B : Nat} {T : TypeId} {v : Value} {xs : List α} (h : Building K W F B T v xs) : v.oneCell' = true := by
 obtain ⟨css, h1, _⟩ := h
 rcases h1.form with ⟨rfl, _⟩ | ⟨g, cap, cur, rfl, _⟩ <;> rfl
theorem Building.done {K : Kind α} {W : World} {F F' : Nat → Prop} {B : Nat} {T : TypeId} {v : Value} {xs : List α} (h : Building K W F B T v xs) (hF : ∀ k, F k → k < W.heap.size → F' k) (hv : ∀ k, B ≤ k → F' k) : IsList K W F' T v xs := by
 obtain ⟨css, h1, h3⟩ := h
 exact ⟨css, h1.base (Nat.zero_le _), fun k hk => hv k (own_lt h1.own hk).1, All2.imp h3 fun _ _ h => K.mono h hF⟩
end
def plainK {α : Type} (C : α → List Value) (n : Nat) (hn : ∀ a, (C a).length = n) (h1 : ∀ a, ∀ u ∈ C a, u.oneCell' = true) : Kind α where
 is _ _ c a := c = C a
 size := n
 kept h _ := h
 mono h _ := h
 len h := by subst h; exact hn _
 one h := by subst h; exact h1 _
def testCl (t : TestP) : List Value := [.string ⟨t.attr.toArray⟩, .int .i64 (t.op : Nat), .string ⟨t.name.toArray⟩, .int .i64 (t.n : Nat), .int .i64 (t.pos : Nat)]
def testK : Kind TestP := plainK testCl 5 (fun _ => rfl) (fun a u hu => by simp only [testCl, List.mem_cons, List.not_mem_nil, or_false] at hu; rcases hu with rfl | rfl | rfl | rfl | rfl <;> rfl)
def testsK : Kind (List TestP) where
 is W F c l := ∃ v, c = [v] ∧ IsList testK W F 68 v l
 size := 1
 kept h hk := let ⟨v, h1, h2⟩ := h; ⟨v, h1, h2.kept hk⟩
 mono h hk := let ⟨v, h1, h2⟩ := h; ⟨v, h1, h2.mono hk⟩
 len h := by obtain ⟨v, rfl, _⟩ := h; rfl
 one h := by
  obtain ⟨v, rfl, h⟩ := h
  intro u hu
  rw [List.mem_singleton] at hu
  subst hu
  exact h.one
def itemCl (kd : Nat) (nm : List UInt8) (v : Value) (h : HeadP) (pos : Nat) : List Value := [.int .i64 (kd : Nat), .string ⟨nm.toArray⟩, v, .int .i64 (h.n : Nat), .int .i64 (h.rn : Nat), .int .i64 (h.rd : Nat), .int .i64 (h.sn : Nat), .int .i64 (h.sd : Nat), .int .i64 (pos : Nat)]
def itemK : Kind ItemP where
 is W F c x := ∃ v, c = itemCl x.kind x.name v x.head x.pos ∧ IsList testsK W F 69 v x.conds
 size := 9
 kept h hk := let ⟨v, h1, h2⟩ := h; ⟨v, h1, h2.kept hk⟩
 mono h hk := let ⟨v, h1, h2⟩ := h; ⟨v, h1, h2.mono hk⟩
 len h := by obtain ⟨v, rfl, _⟩ := h; rfl
 one h := by
  obtain ⟨v, rfl, h⟩ := h
  intro u hu
  simp only [itemCl, List.mem_cons, List.not_mem_nil, or_false] at hu
  rcases hu with rfl | rfl | rfl | rfl | rfl | rfl | rfl | rfl | rfl <;> first | rfl | exact h.one
def KindV {α : Type} (K : Kind α) (n : Nat) (a : α) (e : Ending) (w' : World) : Prop := ∃ c, e = .returned (.agg c.toArray) ∧ K.is w' (fun k => n ≤ k) c a
def ListV {α : Type} (K : Kind α) (T : TypeId) (n : Nat) (xs : List α) (e : Ending) (w' : World) : Prop := ∃ v, e = .returned v ∧ IsList K w' (fun k => n ≤ k) T v xs
theorem info_parts' {P : Program} {T : TypeId} {z : Option Value} {m b : Nat} (h : (P.info? T).map (fun i => (i.zero, i.size, i.bytes)) = some (z, m, b)) : ∃ i, P.info? T = some i ∧ i.zero = z ∧ i.size = m ∧ i.bytes = b := by
 cases hi : P.info? T with
 | none => rw [hi] at h; cases h
 | some i => rw [hi] at h; simp only [Option.map_some, Option.some.injEq, Prod.mk.injEq] at h; exact ⟨i, rfl, h.1, h.2.1, h.2.2⟩
theorem con_one {W : World} {B T m b : Nat} {c : List Value} (h : Blk W b T c) (hB : B ≤ b) (hc : c.length = m) : Con W B T m (.slice (some ⟨b, 0, none⟩) 1 1) [c] := by
 refine ⟨⟨by simp [hc], Or.inr ⟨b, 1, c.toArray, rfl, hB, h, Nat.le_refl _, by unfold maxLen; omega, by simp [hc], ?_⟩⟩, fun cs hcs => ?_⟩
 ·rw [← hc]; simp
 ·rw [List.mem_singleton] at hcs; subst hcs; exact hc
theorem Building.len {α : Type} {K : Kind α} {W : World} {F : Nat → Prop} {B : Nat} {T : TypeId} {v : Value} {xs : List α} (h : Building K W F B T v xs) : ∃ a cap, v = .slice a xs.length cap := by
 obtain ⟨css, h1, h3⟩ := h
 have hl := All2.length h3
 rcases h1.form with ⟨rfl, hn⟩ | ⟨g, cap, cur, rfl, _⟩
 ·rw [hn] at hl; exact ⟨none, 0, by rw [← hl]; rfl⟩
 ·exact ⟨_, cap, by rw [hl]⟩
theorem wpList_append_con {w : World} {B T t m bytes : Nat} {i0 : TypeInfo} {z : Value} (ht : Tryz.prog.underlying t = some (.slice T)) (hi : Tryz.prog.info? T = some i0) (hz0 : i0.zero = some z) (hz1 : i0.size = m) (hz2 : i0.bytes = bytes) (hzs : z.cells.size = m) (hm : 0 < m) (hby : bytes ≤ 200)
  {ops : Array Oper} {rest : List Oper} {o : Oper} {a : Act} {Q : Exit → Act → World → Prop} (hgd : o.guard = none) (s x : Operand)
  (hop : o.op = Op.call { callee := Callee.builtin Builtin.append, args := #[s, x], argTypes := #[t, t] })
  (v : Value) (css : List (List Value)) (c : List Value) (hs : a.eval s = v) (hown : Con w B T m v css) (b : Nat) (hx : a.eval x = .slice (some ⟨b, 0, none⟩) 1 1)
  (hc : Blk w b T c) (hcl : c.length = m) (h1 : ∀ u ∈ c, u.oneCell' = true) (hlen : css.length + 1 ≤ 1000000) (hB : B ≤ w.heap.size)
  (hK : ∀ v' w', Con w' B T m v' (css ++ [c]) → w.grownBy w' v.ownBlock → (v'.ownBlock = v.ownBlock ∨ v'.ownBlock = some w.heap.size) → v'.oneCell' = true → wpList Tryz.prog ops Q rest (a.put o.dst v') w') : wpList Tryz.prog ops Q (o :: rest) a w := by
 refine wpList_plain hgd fun K hK' => ?_
 exact con_append ht hi hz0 hz1 hz2 hzs hm hby s x hop v css c hs hown b hx hc hcl h1 hlen hB fun v' w' h2 h3 h4 h5 => hK' _ _ (hK v' w' h2 h3 h4 h5)
theorem IsList.at {α : Type} {K : Kind α} {W : World} {F : Nat → Prop} {T : TypeId} {v : Value} {xs : List α} (h : IsList K W F T v xs) {i : Nat} {x : α} (hx : xs[i]? = some x) :
  ∃ g cap c, v = .slice (some ⟨g, 0, none⟩) xs.length cap ∧ xs.length ≤ cap ∧ cap ≤ maxLen ∧ F g ∧ g < W.heap.size ∧ K.is W F c x ∧ ∀ j u, c[j]? = some u → W.cell? ⟨g, i * K.size + j, none⟩ = some u := by
 obtain ⟨css, h1, h2, h3⟩ := h
 obtain ⟨c, hc, hcx⟩ := All2.at h3 hx
 have hl := All2.length h3
 rcases h1.form with ⟨rfl, hn⟩ | ⟨g, cap, cur, rfl, hB, hg, hh, hcap, hm, hcell⟩
 ·rw [hn] at hc; simp at hc
 ·exact ⟨g, cap, c, by rw [hl], by omega, hm, h2 g rfl, hg, hcx, fun j u hj => hcell i c j u hc hj⟩
theorem IsList.len {α : Type} {K : Kind α} {W : World} {F : Nat → Prop} {T : TypeId} {v : Value} {xs : List α} (h : IsList K W F T v xs) : ∃ a cap, v = .slice a xs.length cap := by
 obtain ⟨css, h1, h2, h3⟩ := h
 have hl := All2.length h3
 rcases h1.form with ⟨rfl, hn⟩ | ⟨g, cap, cur, rfl, hB, hg, hh, hcap, hm, hcell⟩
 ·rw [hn] at hl; exact ⟨none, 0, by rw [← hl]; rfl⟩
 ·exact ⟨_, cap, by rw [hl]⟩
end Go.Proofs.YtilfpnkcgjonhaaGreatDoor.Ru
namespace Go.Proofs.YtilfpnkcgjonhaaGreatDoor.Ru
open Go.RowKit Go.Sort Go.Shelf Foyer.Rule
def twoB (b c : Nat) : Nat → Prop := fun k => k = b ∨ k = c
theorem _root_.Go.Proofs.YtilfpnkcgjonhaaGreatDoor.Kp.callB {E : Nat → Prop} {a b c : World} {bp : Nat} (h : Kp E a b) (k : Kp (onlyB bp) b c) (hE : E bp) : Kp E a c := h.call k (fun j hj => Or.inl (by have e : j = bp := hj; rw [e]; exact hE))
theorem setCells_two (w : World) (b : Nat) (v0 v1 : Value) : (w.setCell ⟨b, 0, none⟩ v0).setCell ⟨b, 1, none⟩ v1 = w.setCells b 0 [v0, v1] := rfl
theorem setCells_five (w : World) (b : Nat) (v0 v1 v2 v3 v4 : Value) : ((((w.setCell ⟨b, 0, none⟩ v0).setCell ⟨b, 1, none⟩ v1).setCell ⟨b, 2, none⟩ v2).setCell ⟨b, 3, none⟩ v3).setCell ⟨b, 4, none⟩ v4 = w.setCells b 0 [v0, v1, v2, v3, v4] := rfl
theorem setCells_nine (w : World) (b : Nat) (v0 v1 v2 v3 v4 v5 v6 v7 v8 : Value) : ((((((((w.setCell ⟨b, 0, none⟩ v0).setCell ⟨b, 1, none⟩ v1).setCell ⟨b, 2, none⟩ v2).setCell ⟨b, 3, none⟩ v3).setCell ⟨b, 4, none⟩ v4).setCell ⟨b, 5, none⟩ v5).setCell ⟨b, 6, none⟩ v6).setCell ⟨b, 7, none⟩ v7).setCell ⟨b, 8, none⟩ v8 = w.setCells b 0 [v0, v1, v2, v3, v4, v5, v6, v7, v8] := rfl
theorem At.result {W : World} {bp L b : Nat} {ts : List TokP} (h : At W bp L ts) (hb : bp < b) (vs : List Value) : At (W.setCells b 0 vs) bp L ts :=
 h.kept (Kp.setCells (E := fun k => k = b) (Or.inl rfl) vs 0 W (Kp.refl _ _)) fun k hk => by have : k = b := hk; omega
def ratioC (r : Nat × Nat) : List Value := [.int .i64 (r.1 : Nat), .int .i64 (r.2 : Nat)]
def AggV {α : Type} (C : α → List Value) (a : α) (e : Ending) (_ : World) : Prop := e = .returned (.agg (C a).toArray)
set_option maxRecDepth 100000 in
set_option maxHeartbeats 2000000 in
theorem ratio_any (bp L : Nat) (ts : List TokP) (w : World) (h : At w bp L ts) : Calls Tryz.prog 169 #[.pointer (some ⟨bp, 0, none⟩)] w (Gives bp L (onlyB bp) w (ratioP ts) (AggV ratioC)) := by
 have hlt := h.lt
 have R0 := Blk.new w 64 [.int .i64 0, .int .i64 0]
 have K0 : Kp (onlyB bp) w (w.alloc (.cells #[.int .i64 0, .int .i64 0] 64)) := (Kp.refl _ _).alloc _
 have A0 := h.kept (E := fun _ => False) ((Kp.refl _ w).alloc (.cells #[.int .i64 0, .int .i64 0] 64)) (fun _ h => h.elim)
 have hs0 : w.heap.size < (w.alloc (.cells #[.int .i64 0, .int .i64 0] 64)).heap.size := by simp
 clear h
 go_enter Tryz.func169, Tryz.ntmps169
 go_upto_region 1 with fail
 generalize w.alloc (.cells #[.int .i64 0, .int .i64 0] 64) = W0 at *
 have R0 := hid R0; have K0 := hid K0; have A0 := hid A0
 go_wp2_with fail
 refine (number_any bp L ts _ A0.out).mono ?_
 rintro e W1 (⟨a, r1, h1, rfl, a1, k1⟩ | ⟨c1, r1, h1, rfl, k1⟩)
 rotate_left
 ·have KK := hid (K0.out.callB k1 (rfl)); have HB := hid h1
  clear h1 k1
  unfold failP
  go_wp2
  refine ⟨rfl, gives_bad _ _ ?_ KK.out⟩
  show ratioP ts = _
  unfold ratioP
  rw [then_bad HB.out]
 have R1 := hid (R0.out.kept k1 (fun h => by have : w.heap.size = bp := h; omega))
 have K1 := hid (K0.out.callB k1 (rfl)); have A1 := hid a1; have H1 := hid h1; have hs1 := k1.size
 clear h1 a1 k1  R0  K0 A0
 go_wp2_with fail
 refine (word_any bp L r1 wSlash _ A1.out).mono ?_
 rintro e W2 (⟨u, r2, h2, rfl, a2, k2⟩ | ⟨c2, r2, h2, rfl, k2⟩)
 rotate_left
 ·have KK := hid (K1.out.callB k2 (rfl)); have HB := hid h2
  clear h2 k2
  unfold failP
  go_wp2
  refine ⟨rfl, gives_bad _ _ ?_ KK.out⟩
  show ratioP ts = _
  unfold ratioP
  rw [then_of H1.out, then_bad HB.out]
 have R2 := hid (R1.out.kept k2 (fun h => by have : w.heap.size = bp := h; omega))
 have K2 := hid (K1.out.callB k2 (rfl)); have A2 := hid a2; have H2 := hid h2; have hs2 := k2.size
 clear h2 a2 k2  R1  K1 A1
 go_wp2_with fail
 refine (number_any bp L r2 _ A2.out).mono ?_
 rintro e W3 (⟨b, r3, h3, rfl, a3, k3⟩ | ⟨c3, r3, h3, rfl, k3⟩)
 rotate_left
 ·have KK := hid (K2.out.callB k3 (rfl)); have HB := hid h3
  clear h3 k3
  unfold failP
  go_wp2
  refine ⟨rfl, gives_bad _ _ ?_ KK.out⟩
  show ratioP ts = _
  unfold ratioP
  rw [then_of H1.out, then_of H2.out, then_bad HB.out]
 have R3 := hid (R2.out.kept k3 (fun h => by have : w.heap.size = bp := h; omega))
 have K3 := hid (K2.out.callB k3 (rfl)); have A3 := hid a3; have H3 := hid h3; have hs3 := k3.size
 clear h3 a3 k3  R2  K2 A2
 have z0 := R3.out.cell (i := 0) rfl
 have z1 := R3.out.cell (i := 1) rfl
 have zf := R3.out.free
 go_wp2
 rw [setCells_two]
 refine bodyPost_ret (results_cell_mid rfl _ _ w.heap.size [.int .i64 (a : Nat), .int .i64 (b : Nat)] _ rfl (R3.out.whole (vs := [.int .i64 (a : Nat), .int .i64 (b : Nat)]) rfl).range Tryz.underlying64 rfl (by kernel_rfl)) rfl ?_
 refine gives_ok ((a, b)) r3 ?_ rfl (A3.out.result (by omega) _) (K3.out.result (by omega) _)
 show ratioP ts = _
 unfold ratioP
 rw [then_of H1.out, then_of H2.out, then_of H3.out]
 rfl
set_option maxRecDepth 100000 in
set_option maxHeartbeats 2000000 in
theorem ratioIf_any (bp L : Nat) (s : List UInt8) (ts : List TokP) (w : World) (h : At w bp L ts) : Calls Tryz.prog 168 #[.pointer (some ⟨bp, 0, none⟩), .string ⟨s.toArray⟩] w (Gives bp L (onlyB bp) w (ratioIf s ts) (AggV ratioC)) := by
 have hlt := h.lt
 have R0 := Blk.new w 64 [.int .i64 0, .int .i64 0]
 have K0 : Kp (onlyB bp) w (w.alloc (.cells #[.int .i64 0, .int .i64 0] 64)) := (Kp.refl _ _).alloc _
 have A0 := h.kept (E := fun _ => False) ((Kp.refl _ w).alloc (.cells #[.int .i64 0, .int .i64 0] 64)) (fun _ h => h.elim)
 have hs0 : w.heap.size < (w.alloc (.cells #[.int .i64 0, .int .i64 0] 64)).heap.size := by simp
 clear h
 go_enter Tryz.func168, Tryz.ntmps168
 go_upto_region 1 with fail
 generalize w.alloc (.cells #[.int .i64 0, .int .i64 0] 64) = W0 at *
 have R0 := hid R0; have K0 := hid K0; have A0 := hid A0
 go_wp2_with fail
 refine (skip_any bp L ts s _ A0.out).mono ?_
 rintro e W1 ⟨⟨r1, h1, rfl, a1⟩ | ⟨h1, rfl, a1⟩, k1⟩
 ·have R1 := hid (R0.out.kept k1 (fun h => by have : w.heap.size = bp := h; omega))
  have K1 := hid (K0.out.callB k1 (rfl)); have A1 := hid a1; have H1 := hid h1; have hs1 := k1.size
  clear h1 a1 k1  R0  K0 A0
  go_wp2_with fail
  refine (ratio_any bp L r1 _ A1.out).mono ?_
  rintro e W2 (⟨⟨a, b⟩, r2, h2, rfl, a2, k2⟩ | ⟨c2, r2, h2, rfl, k2⟩)
  rotate_left
  ·have KK := hid (K1.out.callB k2 (rfl)); have HB := hid h2
   clear h2 k2
   unfold failP
   go_wp2
   refine ⟨rfl, gives_bad _ _ ?_ KK.out⟩
   show ratioIf s ts = _
   unfold ratioIf
   rw [ifSep_some H1.out, HB.out]
  have R2 := hid (R1.out.kept k2 (fun h => by have : w.heap.size = bp := h; omega))
  have K2 := hid (K1.out.callB k2 (rfl)); have A2 := hid a2; have H2 := hid h2; have hs2 := k2.size
  clear h2 a2 k2  R1  K1 A1
  have z0 := R2.out.cell (i := 0) rfl
  have z1 := R2.out.cell (i := 1) rfl
  have zf := R2.out.free
  unfold ratioC
  go_wp2
  rw [setCells_two]
  refine bodyPost_ret (results_cell_mid rfl _ _ w.heap.size [.int .i64 (a : Nat), .int .i64 (b : Nat)] _ rfl (R2.out.whole (vs := [.int .i64 (a : Nat), .int .i64 (b : Nat)]) rfl).range Tryz.underlying64 rfl (by kernel_rfl)) rfl ?_
  refine gives_ok (a, b) r2 ?_ rfl (A2.out.result (by omega) _) (K2.out.result (by omega) _)
  show ratioIf s ts = _
  unfold ratioIf
  rw [ifSep_some H1.out, H2.out]
 ·have R1 := hid (R0.out.kept k1 (fun h => by have : w.heap.size = bp := h; omega))
  have K1 := hid (K0.out.callB k1 (rfl)); have A1 := hid a1; have H1 := hid h1; have hs1 := k1.size
  clear h1 a1 k1  R0  K0 A0
  have z0 := R1.out.cell (i := 0) rfl
  have z1 := R1.out.cell (i := 1) rfl
  have zf := R1.out.free
  go_wp2
  rw [setCells_two]
  refine bodyPost_ret (results_cell_mid rfl _ _ w.heap.size [.int .i64 0, .int .i64 1] _ rfl (R1.out.whole (vs := [.int .i64 0, .int .i64 1]) rfl).range Tryz.underlying64 rfl (by kernel_rfl)) rfl ?_
  refine gives_ok ((0, 1)) ts ?_ rfl (A1.out.result (by omega) _) (K1.out.result (by omega) _)
  show ratioIf s ts = _
  unfold ratioIf
  rw [ifSep_none H1.out]
  rfl
set_option maxRecDepth 100000 in
set_option maxHeartbeats 2000000 in
theorem limit_any (bp L ib kd pos : Nat) (nm : List UInt8) (v : Value) (ts : List TokP) (w : World) (h : At w bp L ts) (hI : Blk w ib 66 (itemCl kd nm v ⟨0, 0, 0, 0, 0⟩ pos)) (hb : bp < ib) : Calls Tryz.prog 148 #[.pointer (some ⟨bp, 0, none⟩), .pointer (some ⟨ib, 0, none⟩)] w (Gives bp L (twoB bp ib) w (limitH ts) (fun h e w' => e = .returned (.tuple #[]) ∧ Blk w' ib 66 (itemCl kd nm v h pos))) := by
 have K0 : Hid (Kp (twoB bp ib) w w) := hid (Kp.refl _ _)
 have A0 := hid h
 have V0 : Hid (Blk w ib 66 [.int .i64 (kd : Nat), .string ⟨nm.toArray⟩, v, .int .i64 0, .int .i64 0, .int .i64 0, .int .i64 0, .int .i64 0, .int .i64 (pos : Nat)]) := hid hI
 have hlt := hI.lt
 clear h hI
 go_enter Tryz.func148, Tryz.ntmps148
 go_wp2_with fail
 refine (skip_any bp L ts wLimit _ A0.out).mono ?_
 rintro e W1 ⟨⟨r1, h1, rfl, a1⟩ | ⟨h1, rfl, a1⟩, k1⟩
 ·have V1 := hid (V0.out.kept k1 (fun h => by have : ib = bp := h; omega))
  have K1 := hid (K0.out.callB k1 (Or.inl rfl)); have A1 := hid a1; have H1 := hid h1; have hs1 := k1.size
  clear h1 a1 k1  V0  K0 A0
  go_wp2_with fail
  refine (number_any bp L r1 _ A1.out).mono ?_
  rintro e W2 (⟨n, r2, h2, rfl, a2, k2⟩ | ⟨c2, r2, h2, rfl, k2⟩)
  rotate_left
  ·have KK := hid (K1.out.callB k2 (Or.inl rfl)); have HB := hid h2
   clear h2 k2
   unfold failP
   go_wp2
   refine ⟨rfl, gives_bad _ _ ?_ KK.out⟩
   show limitH ts = _
   unfold limitH
   rw [ifSep_some H1.out, then_bad HB.out]
  have V2 := hid (V1.out.kept k2 (fun h => by have : ib = bp := h; omega))
  have K2 := hid (K1.out.callB k2 (Or.inl rfl)); have A2 := hid a2; have H2 := hid h2; have hs2 := k2.size
  clear h2 a2 k2  V1  K1 A1
  have cs0 := V2.out.cell (i := 3) rfl
  have cf := V2.out.free
  go_wp2
  go_end0
  refine gives_ok (⟨n, 0, 0, 0, 0⟩) r2 ?_ ⟨rfl, (V2.out.set 3 (.int .i64 (n : Nat)))⟩ (A2.out.kept ((Kp.refl (onlyB ib) _).setOld ib 3 rfl (.int .i64 (n : Nat))) (fun k hk => by have : k = ib := hk; omega)) (K2.out.setOld ib 3 (Or.inr rfl) (.int .i64 (n : Nat)))
  show limitH ts = _
  unfold limitH
  rw [ifSep_some H1.out, then_of H2.out]
  rfl
 ·have V1 := hid (V0.out.kept k1 (fun h => by have : ib = bp := h; omega))
  have K1 := hid (K0.out.callB k1 (Or.inl rfl)); have A1 := hid a1; have H1 := hid h1; have hs1 := k1.size
  clear h1 a1 k1  V0  K0 A0
  go_wp2
  go_end0
  refine gives_ok (⟨0, 0, 0, 0, 0⟩) ts ?_ ⟨rfl, V1.out⟩ A1.out K1.out
  show limitH ts = _
  unfold limitH
  rw [ifSep_none H1.out]
  rfl
set_option maxRecDepth 100000 in
set_option maxHeartbeats 2000000 in
theorem nothing_any (bp L ib kd pos : Nat) (nm : List UInt8) (v : Value) (ts : List TokP) (w : World) (h : At w bp L ts) (hI : Blk w ib 66 (itemCl kd nm v ⟨0, 0, 0, 0, 0⟩ pos)) (_hb : bp < ib) : Calls Tryz.prog 149 #[.pointer (some ⟨bp, 0, none⟩), .pointer (some ⟨ib, 0, none⟩)] w (Gives bp L (twoB bp ib) w (nothingH ts) (fun h e w' => e = .returned (.tuple #[]) ∧ Blk w' ib 66 (itemCl kd nm v h pos))) := by
 have K0 : Hid (Kp (twoB bp ib) w w) := hid (Kp.refl _ _)
 have A0 := hid h
 have V0 : Hid (Blk w ib 66 [.int .i64 (kd : Nat), .string ⟨nm.toArray⟩, v, .int .i64 0, .int .i64 0, .int .i64 0, .int .i64 0, .int .i64 0, .int .i64 (pos : Nat)]) := hid hI
 have hlt := hI.lt
 clear h hI
 go_enter Tryz.func149, Tryz.ntmps149
 go_wp2
 go_end0
 exact gives_ok (⟨0, 0, 0, 0, 0⟩ : HeadP) ts rfl ⟨rfl, V0.out⟩ A0.out K0.out
set_option maxRecDepth 100000 in
set_option maxHeartbeats 2000000 in
theorem refund_any (bp L ib kd pos : Nat) (nm : List UInt8) (v : Value) (ts : List TokP) (w : World) (h : At w bp L ts) (hI : Blk w ib 66 (itemCl kd nm v ⟨0, 0, 0, 0, 0⟩ pos)) (hb : bp < ib) : Calls Tryz.prog 152 #[.pointer (some ⟨bp, 0, none⟩), .pointer (some ⟨ib, 0, none⟩)] w (Gives bp L (twoB bp ib) w (refundH ts) (fun h e w' => e = .returned (.tuple #[]) ∧ Blk w' ib 66 (itemCl kd nm v h pos))) := by
 have K0 : Hid (Kp (twoB bp ib) w w) := hid (Kp.refl _ _)
 have A0 := hid h
 have V0 : Hid (Blk w ib 66 [.int .i64 (kd : Nat), .string ⟨nm.toArray⟩, v, .int .i64 0, .int .i64 0, .int .i64 0, .int .i64 0, .int .i64 0, .int .i64 (pos : Nat)]) := hid hI
 have hlt := hI.lt
 clear h hI
 go_enter Tryz.func152, Tryz.ntmps152
 go_wp2_with fail
 refine (ratio_any bp L ts _ A0.out).mono ?_
 rintro e W1 (⟨⟨a, b⟩, r1, h1, rfl, a1, k1⟩ | ⟨c1, r1, h1, rfl, k1⟩)
 rotate_left
 ·have KK := hid (K0.out.callB k1 (Or.inl rfl)); have HB := hid h1
  clear h1 k1
  unfold failP
  go_wp2
  refine ⟨rfl, gives_bad _ _ ?_ KK.out⟩
  show refundH ts = _
  unfold refundH
  rw [then_bad HB.out]
 have V1 := hid (V0.out.kept k1 (fun h => by have : ib = bp := h; omega))
 have K1 := hid (K0.out.callB k1 (Or.inl rfl)); have A1 := hid a1; have H1 := hid h1; have hs1 := k1.size
 unfold ratioC
 clear h1 a1 k1  V0  K0 A0
 have cs0 := V1.out.cell (i := 4) rfl
 have cs1 := V1.out.cell (i := 5) rfl
 have cf := V1.out.free
 go_wp2
 go_end0
 refine gives_ok (⟨0, a, b, 0, 0⟩) r1 ?_ ⟨rfl, ((V1.out.set 4 (.int .i64 (a : Nat))).set 5 (.int .i64 (b : Nat)))⟩ (A1.out.kept (((Kp.refl (onlyB ib) _).setOld ib 4 rfl (.int .i64 (a : Nat))).setOld ib 5 rfl (.int .i64 (b : Nat))) (fun k hk => by have : k = ib := hk; omega)) ((K1.out.setOld ib 4 (Or.inr rfl) (.int .i64 (a : Nat))).setOld ib 5 (Or.inr rfl) (.int .i64 (b : Nat)))
 show refundH ts = _
 unfold refundH
 rw [then_of H1.out]
 rfl
set_option maxRecDepth 100000 in
set_option maxHeartbeats 2000000 in
theorem resale_any (bp L ib kd pos : Nat) (nm : List UInt8) (v : Value) (ts : List TokP) (w : World) (h : At w bp L ts) (hI : Blk w ib 66 (itemCl kd nm v ⟨0, 0, 0, 0, 0⟩ pos)) (hb : bp < ib) : Calls Tryz.prog 151 #[.pointer (some ⟨bp, 0, none⟩), .pointer (some ⟨ib, 0, none⟩)] w (Gives bp L (twoB bp ib) w (resaleH ts) (fun h e w' => e = .returned (.tuple #[]) ∧ Blk w' ib 66 (itemCl kd nm v h pos))) := by
 have K0 : Hid (Kp (twoB bp ib) w w) := hid (Kp.refl _ _)
 have A0 := hid h
 have V0 : Hid (Blk w ib 66 [.int .i64 (kd : Nat), .string ⟨nm.toArray⟩, v, .int .i64 0, .int .i64 0, .int .i64 0, .int .i64 0, .int .i64 0, .int .i64 (pos : Nat)]) := hid hI
 have hlt := hI.lt
 clear h hI
 go_enter Tryz.func151, Tryz.ntmps151
 go_wp2_with fail
 refine (word_any bp L ts wCap _ A0.out).mono ?_
 rintro e W1 (⟨u, r1, h1, rfl, a1, k1⟩ | ⟨c1, r1, h1, rfl, k1⟩)
 rotate_left
 ·have KK := hid (K0.out.callB k1 (Or.inl rfl)); have HB := hid h1
  clear h1 k1
  unfold failP
  go_wp2
  refine ⟨rfl, gives_bad _ _ ?_ KK.out⟩
  show resaleH ts = _
  unfold resaleH
  rw [then_bad HB.out]
 have V1 := hid (V0.out.kept k1 (fun h => by have : ib = bp := h; omega))
 have K1 := hid (K0.out.callB k1 (Or.inl rfl)); have A1 := hid a1; have H1 := hid h1; have hs1 := k1.size
 clear h1 a1 k1  V0  K0 A0
 go_wp2_with fail
 refine (ratio_any bp L r1 _ A1.out).mono ?_
 rintro e W2 (⟨⟨a, b⟩, r2, h2, rfl, a2, k2⟩ | ⟨c2, r2, h2, rfl, k2⟩)
 rotate_left
 ·have KK := hid (K1.out.callB k2 (Or.inl rfl)); have HB := hid h2
  clear h2 k2
  unfold failP
  go_wp2
  refine ⟨rfl, gives_bad _ _ ?_ KK.out⟩
  show resaleH ts = _
  unfold resaleH
  rw [then_of H1.out, then_bad HB.out]
 have V2 := hid (V1.out.kept k2 (fun h => by have : ib = bp := h; omega))
 have K2 := hid (K1.out.callB k2 (Or.inl rfl)); have A2 := hid a2; have H2 := hid h2; have hs2 := k2.size
 unfold ratioC
 clear h2 a2 k2  V1  K1 A1
 have cs0 := V2.out.cell (i := 4) rfl
 have cs1 := V2.out.cell (i := 5) rfl
 have cf := V2.out.free
 go_upto_region 2 with fail
 have V3 : Blk ((W2.setCell ⟨ib, 4, none⟩ (.int .i64 (a : Nat))).setCell ⟨ib, 5, none⟩ (.int .i64 (b : Nat))) ib 66 [.int .i64 (kd : Nat), .string ⟨nm.toArray⟩, v, .int .i64 0, .int .i64 (a : Nat), .int .i64 (b : Nat), .int .i64 0, .int .i64 0, .int .i64 (pos : Nat)] := ((V2.out.set 4 (.int .i64 (a : Nat))).set 5 (.int .i64 (b : Nat)))
 have K3 := ((K2.out.setOld ib 4 (Or.inr rfl) (.int .i64 (a : Nat))).setOld ib 5 (Or.inr rfl) (.int .i64 (b : Nat)))
 have A3 := A2.out.kept (E := onlyB ib) (((Kp.refl (onlyB ib) W2).setOld ib 4 rfl (.int .i64 (a : Nat))).setOld ib 5 rfl (.int .i64 (b : Nat))) (fun k hk => by have : k = ib := hk; omega)
 have hs3 : W2.heap.size ≤ ((W2.setCell ⟨ib, 4, none⟩ (.int .i64 (a : Nat))).setCell ⟨ib, 5, none⟩ (.int .i64 (b : Nat))).heap.size := by simp
 generalize (W2.setCell ⟨ib, 4, none⟩ (.int .i64 (a : Nat))).setCell ⟨ib, 5, none⟩ (.int .i64 (b : Nat)) = W3 at *
 have V3 := hid V3
 have K3 := hid K3; have A3 := hid A3
 clear cf cs0 cs1 V2  K2 A2
 go_wp2_with fail
 refine (word_any bp L r2 wShare _ A3.out).mono ?_
 rintro e W4 (⟨u, r4, h4, rfl, a4, k4⟩ | ⟨c4, r4, h4, rfl, k4⟩)
 rotate_left
 ·have KK := hid (K3.out.callB k4 (Or.inl rfl)); have HB := hid h4
  clear h4 k4
  unfold failP
  go_wp2
  refine ⟨rfl, gives_bad _ _ ?_ KK.out⟩
  show resaleH ts = _
  unfold resaleH
  rw [then_of H1.out, then_of H2.out, then_bad HB.out]
 have V4 := hid (V3.out.kept k4 (fun h => by have : ib = bp := h; omega))
 have K4 := hid (K3.out.callB k4 (Or.inl rfl)); have A4 := hid a4; have H4 := hid h4; have hs4 := k4.size
 clear h4 a4 k4  V3  K3 A3
 go_wp2_with fail
 refine (ratio_any bp L r4 _ A4.out).mono ?_
 rintro e W5 (⟨⟨c, d⟩, r5, h5, rfl, a5, k5⟩ | ⟨c5, r5, h5, rfl, k5⟩)
 rotate_left
 ·have KK := hid (K4.out.callB k5 (Or.inl rfl)); have HB := hid h5
  clear h5 k5
  unfold failP
  go_wp2
  refine ⟨rfl, gives_bad _ _ ?_ KK.out⟩
  show resaleH ts = _
  unfold resaleH
  rw [then_of H1.out, then_of H2.out, then_of H4.out, then_bad HB.out]
 have V5 := hid (V4.out.kept k5 (fun h => by have : ib = bp := h; omega))
 have K5 := hid (K4.out.callB k5 (Or.inl rfl)); have A5 := hid a5; have H5 := hid h5; have hs5 := k5.size
 unfold ratioC
 clear h5 a5 k5  V4  K4 A4
 have cs0 := V5.out.cell (i := 6) rfl
 have cs1 := V5.out.cell (i := 7) rfl
 have cf := V5.out.free
 go_wp2
 go_end0
 refine gives_ok (⟨0, a, b, c, d⟩) r5 ?_ ⟨rfl, ((V5.out.set 6 (.int .i64 (c : Nat))).set 7 (.int .i64 (d : Nat)))⟩ (A5.out.kept (((Kp.refl (onlyB ib) _).setOld ib 6 rfl (.int .i64 (c : Nat))).setOld ib 7 rfl (.int .i64 (d : Nat))) (fun k hk => by have : k = ib := hk; omega)) ((K5.out.setOld ib 6 (Or.inr rfl) (.int .i64 (c : Nat))).setOld ib 7 (Or.inr rfl) (.int .i64 (d : Nat)))
 show resaleH ts = _
 unfold resaleH
 rw [then_of H1.out, then_of H2.out, then_of H4.out, then_of H5.out]
 rfl
set_option maxRecDepth 100000 in
set_option maxHeartbeats 2000000 in
theorem price_any (bp L ib kd pos : Nat) (nm : List UInt8) (v : Value) (ts : List TokP) (w : World) (h : At w bp L ts) (hI : Blk w ib 66 (itemCl kd nm v ⟨0, 0, 0, 0, 0⟩ pos)) (hb : bp < ib) : Calls Tryz.prog 150 #[.pointer (some ⟨bp, 0, none⟩), .pointer (some ⟨ib, 0, none⟩)] w (Gives bp L (twoB bp ib) w (priceH ts) (fun h e w' => e = .returned (.tuple #[]) ∧ Blk w' ib 66 (itemCl kd nm v h pos))) := by
 have K0 : Hid (Kp (twoB bp ib) w w) := hid (Kp.refl _ _)
 have A0 := hid h
 have V0 : Hid (Blk w ib 66 [.int .i64 (kd : Nat), .string ⟨nm.toArray⟩, v, .int .i64 0, .int .i64 0, .int .i64 0, .int .i64 0, .int .i64 0, .int .i64 (pos : Nat)]) := hid hI
 have hlt := hI.lt
 clear h hI
 go_enter Tryz.func150, Tryz.ntmps150
 go_wp2_with fail
 refine (number_any bp L ts _ A0.out).mono ?_
 rintro e W1 (⟨n, r1, h1, rfl, a1, k1⟩ | ⟨c1, r1, h1, rfl, k1⟩)
 rotate_left
 ·have KK := hid (K0.out.callB k1 (Or.inl rfl)); have HB := hid h1
  clear h1 k1
  unfold failP
  go_wp2
  refine ⟨rfl, gives_bad _ _ ?_ KK.out⟩
  show priceH ts = _
  unfold priceH
  rw [then_bad HB.out]
 have V1 := hid (V0.out.kept k1 (fun h => by have : ib = bp := h; omega))
 have K1 := hid (K0.out.callB k1 (Or.inl rfl)); have A1 := hid a1; have H1 := hid h1; have hs1 := k1.size
 clear h1 a1 k1  V0  K0 A0
 have cs0 := V1.out.cell (i := 3) rfl
 have cf := V1.out.free
 go_upto_region 1 with fail
 have V2 : Blk (W1.setCell ⟨ib, 3, none⟩ (.int .i64 (n : Nat))) ib 66 [.int .i64 (kd : Nat), .string ⟨nm.toArray⟩, v, .int .i64 (n : Nat), .int .i64 0, .int .i64 0, .int .i64 0, .int .i64 0, .int .i64 (pos : Nat)] := (V1.out.set 3 (.int .i64 (n : Nat)))
 have K2 := (K1.out.setOld ib 3 (Or.inr rfl) (.int .i64 (n : Nat)))
 have A2 := A1.out.kept (E := onlyB ib) ((Kp.refl (onlyB ib) W1).setOld ib 3 rfl (.int .i64 (n : Nat))) (fun k hk => by have : k = ib := hk; omega)
 have hs2 : W1.heap.size ≤ (W1.setCell ⟨ib, 3, none⟩ (.int .i64 (n : Nat))).heap.size := by simp
 generalize W1.setCell ⟨ib, 3, none⟩ (.int .i64 (n : Nat)) = W2 at *
 have V2 := hid V2
 have K2 := hid K2; have A2 := hid A2
 clear cf cs0 V1  K1 A1
 go_wp2_with fail
 refine (ratioIf_any bp L wFee r1 _ A2.out).mono ?_
 rintro e W3 (⟨⟨a, b⟩, r3, h3, rfl, a3, k3⟩ | ⟨c3, r3, h3, rfl, k3⟩)
 rotate_left
 ·have KK := hid (K2.out.callB k3 (Or.inl rfl)); have HB := hid h3
  clear h3 k3
  unfold failP
  go_wp2
  refine ⟨rfl, gives_bad _ _ ?_ KK.out⟩
  show priceH ts = _
  unfold priceH
  rw [then_of H1.out, then_bad HB.out]
 have V3 := hid (V2.out.kept k3 (fun h => by have : ib = bp := h; omega))
 have K3 := hid (K2.out.callB k3 (Or.inl rfl)); have A3 := hid a3; have H3 := hid h3; have hs3 := k3.size
 unfold ratioC
 clear h3 a3 k3  V2  K2 A2
 have cs0 := V3.out.cell (i := 4) rfl
 have cs1 := V3.out.cell (i := 5) rfl
 have cf := V3.out.free
 go_upto_region 2 with fail
 have V4 : Blk ((W3.setCell ⟨ib, 4, none⟩ (.int .i64 (a : Nat))).setCell ⟨ib, 5, none⟩ (.int .i64 (b : Nat))) ib 66 [.int .i64 (kd : Nat), .string ⟨nm.toArray⟩, v, .int .i64 (n : Nat), .int .i64 (a : Nat), .int .i64 (b : Nat), .int .i64 0, .int .i64 0, .int .i64 (pos : Nat)] := ((V3.out.set 4 (.int .i64 (a : Nat))).set 5 (.int .i64 (b : Nat)))
 have K4 := ((K3.out.setOld ib 4 (Or.inr rfl) (.int .i64 (a : Nat))).setOld ib 5 (Or.inr rfl) (.int .i64 (b : Nat)))
 have A4 := A3.out.kept (E := onlyB ib) (((Kp.refl (onlyB ib) W3).setOld ib 4 rfl (.int .i64 (a : Nat))).setOld ib 5 rfl (.int .i64 (b : Nat))) (fun k hk => by have : k = ib := hk; omega)
 have hs4 : W3.heap.size ≤ ((W3.setCell ⟨ib, 4, none⟩ (.int .i64 (a : Nat))).setCell ⟨ib, 5, none⟩ (.int .i64 (b : Nat))).heap.size := by simp
 generalize (W3.setCell ⟨ib, 4, none⟩ (.int .i64 (a : Nat))).setCell ⟨ib, 5, none⟩ (.int .i64 (b : Nat)) = W4 at *
 have V4 := hid V4
 have K4 := hid K4; have A4 := hid A4
 clear cf cs0 cs1 V3  K3 A3
 go_wp2_with fail
 refine (ratioIf_any bp L wTax r3 _ A4.out).mono ?_
 rintro e W5 (⟨⟨c, d⟩, r5, h5, rfl, a5, k5⟩ | ⟨c5, r5, h5, rfl, k5⟩)
 rotate_left
 ·have KK := hid (K4.out.callB k5 (Or.inl rfl)); have HB := hid h5
  clear h5 k5
  unfold failP
  go_wp2
  refine ⟨rfl, gives_bad _ _ ?_ KK.out⟩
  show priceH ts = _
  unfold priceH
  rw [then_of H1.out, then_of H3.out, then_bad HB.out]
 have V5 := hid (V4.out.kept k5 (fun h => by have : ib = bp := h; omega))
 have K5 := hid (K4.out.callB k5 (Or.inl rfl)); have A5 := hid a5; have H5 := hid h5; have hs5 := k5.size
 unfold ratioC
 clear h5 a5 k5  V4  K4 A4
 have cs0 := V5.out.cell (i := 6) rfl
 have cs1 := V5.out.cell (i := 7) rfl
 have cf := V5.out.free
 go_wp2
 go_end0
 refine gives_ok (⟨n, a, b, c, d⟩) r5 ?_ ⟨rfl, ((V5.out.set 6 (.int .i64 (c : Nat))).set 7 (.int .i64 (d : Nat)))⟩ (A5.out.kept (((Kp.refl (onlyB ib) _).setOld ib 6 rfl (.int .i64 (c : Nat))).setOld ib 7 rfl (.int .i64 (d : Nat))) (fun k hk => by have : k = ib := hk; omega)) ((K5.out.setOld ib 6 (Or.inr rfl) (.int .i64 (c : Nat))).setOld ib 7 (Or.inr rfl) (.int .i64 (d : Nat)))
 show priceH ts = _
 unfold priceH
 rw [then_of H1.out, then_of H3.out, then_of H5.out]
 rfl
end Go.Proofs.YtilfpnkcgjonhaaGreatDoor.Ru
namespace Go.Proofs.YtilfpnkcgjonhaaGreatDoor.Ru
open Go.RowKit Go.Sort Go.Shelf Foyer.Rule Foyer.Round
def opsL : List (List UInt8 × Value) := [(wEq, .int .i64 1), (wNe, .int .i64 2), (wLt, .int .i64 3), (wLe, .int .i64 4), (wGt, .int .i64 5), (wGe, .int .i64 6)]
theorem ops_at (s : List UInt8) : (entryAt s opsL).getD (.int .i64 0) = .int .i64 (opOf s : Nat) := by
 unfold opsL opOf
 repeat' (unfold entryAt; split; rfl)
 rfl
theorem ops_look (w : World) {b c : Nat} (h : MapB w b opsL c) (s : List UInt8) : (Instr.lookup 232 (.map (some b)) (.string ⟨s.toArray⟩) false).run Tryz.prog w = .ok (.int .i64 (opOf s : Nat)) w := by
 rw [map_lookup Tryz.underlying232 Tryz.underlying9 w (z := .int .i64 0) (by kernel_rfl) h, ops_at]
theorem testO_ent (args : Array Value) (w : World) : (callFunc 170 args).run Tryz.prog w = .ok (.enter 170 args) w := enters_of Tryz.func170 (by kernel_rfl) rfl args w
theorem testV_ent (args : Array Value) (w : World) : (callFunc 171 args).run Tryz.prog w = .ok (.enter 171 args) w := enters_of Tryz.func171 (by kernel_rfl) rfl args w
set_option maxRecDepth 100000 in
theorem testV_asks (E : Nat → Prop) (w : World) : Asks 171 #[] (fun t => decide (t.kind ≠ 3)) E w := by
 intro w1 t k
 show Calls Tryz.prog 171 #[.agg #[.int .i64 (t.kind : Nat), .string ⟨t.text.toArray⟩, .int .i64 (t.val : Nat), .int .i64 (t.pos : Nat)]] w1 _
 have e : (((t.kind : Nat) : Int) != 3) = decide (t.kind ≠ 3) := by
  by_cases h : t.kind = 3
  ·simp [h]
  ·have : ¬ ((t.kind : Nat) : Int) = 3 := by omega
   simp [h, this]
 have HE := hid e
 clear k e
 go_enter Tryz.func171, Tryz.ntmps171
 go_wp2
 refine bodyPost_ret (results_tmp rfl _ _ _) rfl ⟨?_, (Kp.refl _ _).alloc _⟩
 show Ending.returned (.bool (((t.kind : Nat) : Int) != 3)) = _
 rw [HE.out]
set_option maxRecDepth 100000 in
theorem testO_asks (kb mb c : Nat) (E : Nat → Prop) (w : World) (hk : Blk w kb 232 [.map (some mb)]) (hm : MapB w mb opsL c) (h1 : ¬ E kb) (h2 : ¬ E mb) : Asks 170 #[.pointer (some ⟨kb, 0, none⟩)] (fun t => decide (opOf t.text ≠ 0)) E w := by
 intro w1 t k
 have hB := (hk.kept k h1).alloc (.cells #[.int .i64 (t.kind : Nat), .string ⟨t.text.toArray⟩, .int .i64 (t.val : Nat), .int .i64 (t.pos : Nat)] 119)
 have hM := (hm.kept k h2).kept (E := fun _ => False) ((Kp.refl _ _).alloc (.cells #[.int .i64 (t.kind : Nat), .string ⟨t.text.toArray⟩, .int .i64 (t.val : Nat), .int .i64 (t.pos : Nat)] 119)) (fun h => h)
 have h0 := hB.cell (i := 0) rfl
 have hl := ops_look _ hM t.text
 have e : (((opOf t.text : Nat) : Int) != 0) = decide (opOf t.text ≠ 0) := by
  by_cases h : opOf t.text = 0 <;> simp [h]
 show Calls Tryz.prog 170 #[.agg #[.int .i64 (t.kind : Nat), .string ⟨t.text.toArray⟩, .int .i64 (t.val : Nat), .int .i64 (t.pos : Nat)], .pointer (some ⟨kb, 0, none⟩)] w1 _
 have HE := hid e
 clear hB hM k hk hm h1 h2 e
 obtain ⟨m, hmk⟩ : ∃ m, opOf t.text = m := ⟨_, rfl⟩
 rw [hmk] at HE hl
 have HMK := hid hmk
 clear hmk
 go_enter Tryz.func170, Tryz.ntmps170
 go_wp2
 refine bodyPost_ret (results_tmp rfl _ _ _) rfl ⟨?_, (Kp.refl _ _).alloc _⟩
 show Ending.returned (.bool (((m : Nat) : Int) != 0)) = Ending.returned (.bool (decide (opOf t.text ≠ 0)))
 rw [HMK.out, HE.out]
def AggK {α : Type} (K : Kind α) (n : Nat) (a : α) (e : Ending) (w' : World) : Prop := KindV K n a e w'
set_option linter.unusedSimpArgs false in
set_option maxRecDepth 100000 in
set_option maxHeartbeats 4000000 in
theorem test_any (bp L : Nat) (ts : List TokP) (w : World) (h : At w bp L ts) : Calls Tryz.prog 155 #[.pointer (some ⟨bp, 0, none⟩)] w (Gives bp L (onlyB bp) w (testP ts) (KindV testK w.heap.size)) := by
 have hlt := h.lt
 have hmf := makes_func
 have HA := hid h
 obtain ⟨w1, hw1⟩ : ∃ w1, w.alloc (.cells #[.string ⟨#[]⟩, .int .i64 0, .string ⟨#[]⟩, .int .i64 0, .int .i64 0] 68) = w1 := ⟨_, rfl⟩
 have hsz : w1.heap.size = w.heap.size + 1 := by rw [← hw1]; simp
 have i0 : (Instr.mapUpdate 232 (.map (some (w.heap.size + 1))) (.string ⟨#[61]⟩) (.int .i64 1)).run Tryz.prog (w1.alloc (.map #[] 0)) = .ok () (w1.alloc (.map (entriesOf 0 [(wEq, .int .i64 1)]).toArray 1)) :=
  map_insert Tryz.underlying232 Tryz.underlying9 w1 [] wEq (.int .i64 1) rfl 0 rfl _ hsz.symm
 have i1 : (Instr.mapUpdate 232 (.map (some (w.heap.size + 1))) (.string ⟨#[33, 61]⟩) (.int .i64 2)).run Tryz.prog (w1.alloc (.map (entriesOf 0 [(wEq, .int .i64 1)]).toArray 1)) = .ok () (w1.alloc (.map (entriesOf 0 [(wEq, .int .i64 1), (wNe, .int .i64 2)]).toArray 2)) :=
  map_insert Tryz.underlying232 Tryz.underlying9 w1 [(wEq, .int .i64 1)] wNe (.int .i64 2) rfl 1 rfl _ hsz.symm
 have i2 : (Instr.mapUpdate 232 (.map (some (w.heap.size + 1))) (.string ⟨#[60]⟩) (.int .i64 3)).run Tryz.prog (w1.alloc (.map (entriesOf 0 [(wEq, .int .i64 1), (wNe, .int .i64 2)]).toArray 2)) = .ok () (w1.alloc (.map (entriesOf 0 [(wEq, .int .i64 1), (wNe, .int .i64 2), (wLt, .int .i64 3)]).toArray 3)) :=
  map_insert Tryz.underlying232 Tryz.underlying9 w1 [(wEq, .int .i64 1), (wNe, .int .i64 2)] wLt (.int .i64 3) rfl 2 rfl _ hsz.symm
 have i3 : (Instr.mapUpdate 232 (.map (some (w.heap.size + 1))) (.string ⟨#[60, 61]⟩) (.int .i64 4)).run Tryz.prog (w1.alloc (.map (entriesOf 0 [(wEq, .int .i64 1), (wNe, .int .i64 2), (wLt, .int .i64 3)]).toArray 3)) = .ok () (w1.alloc (.map (entriesOf 0 [(wEq, .int .i64 1), (wNe, .int .i64 2), (wLt, .int .i64 3), (wLe, .int .i64 4)]).toArray 4)) :=
  map_insert Tryz.underlying232 Tryz.underlying9 w1 [(wEq, .int .i64 1), (wNe, .int .i64 2), (wLt, .int .i64 3)] wLe (.int .i64 4) rfl 3 rfl _ hsz.symm
 have i4 : (Instr.mapUpdate 232 (.map (some (w.heap.size + 1))) (.string ⟨#[62]⟩) (.int .i64 5)).run Tryz.prog (w1.alloc (.map (entriesOf 0 [(wEq, .int .i64 1), (wNe, .int .i64 2), (wLt, .int .i64 3), (wLe, .int .i64 4)]).toArray 4)) = .ok () (w1.alloc (.map (entriesOf 0 [(wEq, .int .i64 1), (wNe, .int .i64 2), (wLt, .int .i64 3), (wLe, .int .i64 4), (wGt, .int .i64 5)]).toArray 5)) :=
  map_insert Tryz.underlying232 Tryz.underlying9 w1 [(wEq, .int .i64 1), (wNe, .int .i64 2), (wLt, .int .i64 3), (wLe, .int .i64 4)] wGt (.int .i64 5) rfl 4 rfl _ hsz.symm
 have i5 : (Instr.mapUpdate 232 (.map (some (w.heap.size + 1))) (.string ⟨#[62, 61]⟩) (.int .i64 6)).run Tryz.prog (w1.alloc (.map (entriesOf 0 [(wEq, .int .i64 1), (wNe, .int .i64 2), (wLt, .int .i64 3), (wLe, .int .i64 4), (wGt, .int .i64 5)]).toArray 5)) = .ok () (w1.alloc (.map (entriesOf 0 opsL).toArray 6)) :=
  map_insert Tryz.underlying232 Tryz.underlying9 w1 [(wEq, .int .i64 1), (wNe, .int .i64 2), (wLt, .int .i64 3), (wLe, .int .i64 4), (wGt, .int .i64 5)] wGe (.int .i64 6) rfl 5 rfl _ hsz.symm
 clear h
 go_enter Tryz.func155, Tryz.ntmps155
 have hmm : (Instr.makeMap 232 none).run Tryz.prog w1 = .ok (.map (some w1.heap.size)) (w1.alloc (.map #[] 0)) := run_makeMap _ _
 have R0 := ((Blk.new w 68 [.string ⟨#[]⟩, .int .i64 0, .string ⟨#[]⟩, .int .i64 0, .int .i64 0]).alloc (.map (entriesOf 0 opsL).toArray 6)).alloc (.cells #[.map (some (w.heap.size + 1))] 232)
 have D0 := Blk.new (w1.alloc (.map (entriesOf 0 opsL).toArray 6)) 232 [.map (some (w.heap.size + 1))]
 have M0 : MapB ((w1.alloc (.map (entriesOf 0 opsL).toArray 6)).alloc (.cells #[.map (some (w.heap.size + 1))] 232)) (w.heap.size + 1) opsL 6 := by
  have : MapB (w1.alloc (.map (entriesOf 0 opsL).toArray 6)) (w.heap.size + 1) opsL 6 := by rw [← hsz]; exact (MapKept.heap_alloc w1 _).1
  exact this.kept (E := fun _ => False) ((Kp.refl _ _).alloc _) (fun h => h)
 have K0 := (((Kp.refl (onlyB bp) w).alloc (.cells #[.string ⟨#[]⟩, .int .i64 0, .string ⟨#[]⟩, .int .i64 0, .int .i64 0] 68)).alloc (.map (entriesOf 0 opsL).toArray 6)).alloc (.cells #[.map (some (w.heap.size + 1))] 232)
 have A0 := HA.out.kept (E := fun _ => False) ((((Kp.refl _ w).alloc (.cells #[.string ⟨#[]⟩, .int .i64 0, .string ⟨#[]⟩, .int .i64 0, .int .i64 0] 68)).alloc (.map (entriesOf 0 opsL).toArray 6)).alloc (.cells #[.map (some (w.heap.size + 1))] 232)) (fun _ h => h.elim)
 rw [hw1] at R0 K0 A0
 have hs0 : w.heap.size + 3 ≤ ((w1.alloc (.map (entriesOf 0 opsL).toArray 6)).alloc (.cells #[.map (some (w.heap.size + 1))] 232)).heap.size := by simp [hsz]
 have hdn : (w1.alloc (.map (entriesOf 0 opsL).toArray 6)).heap.size = w.heap.size + 2 := by simp [hsz]
 rw [hdn] at D0
 clear HA
 go_upto_region 2 with fail
 clear i0 i1 i2 i3 i4 i5 hmm hdn
 generalize (w1.alloc (.map (entriesOf 0 opsL).toArray 6)).alloc (.cells #[.map (some (w.heap.size + 1))] 232) = W0 at *
 clear hsz hw1 w1
 have R0 := hid R0; have K0 := hid K0; have A0 := hid A0; have D0 := hid D0; have M0 := hid M0
 go_wp2_with fail
 refine (name_any bp L ts _ A0.out).mono ?_
 rintro e W1 (⟨a, r1, h1, rfl, a1, k1⟩ | ⟨c1, r1, h1, rfl, k1⟩)
 rotate_left
 ·have KK := hid (K0.out.callB k1 (rfl)); have HB := hid h1
  clear h1 k1
  unfold failP
  go_wp2
  refine ⟨rfl, gives_bad _ _ ?_ KK.out⟩
  show testP ts = _
  unfold testP
  rw [then_bad HB.out]
 have R1 := hid (R0.out.kept k1 (fun h => by have : w.heap.size = bp := h; omega))
 have D1 := hid (D0.out.kept k1 (fun h => by have : (w.heap.size + 2) = bp := h; omega))
 have M1 := hid (M0.out.kept k1 (fun h => by have : w.heap.size + 1 = bp := h; omega))
 have K1 := hid (K0.out.callB k1 (rfl)); have A1 := hid a1; have H1 := hid h1; have hs1 := k1.size
 clear h1 a1 k1  R0 D0 M0 K0 A0
 unfold tkV
 go_upto_region 3 with fail
 have X2 := Blk.new W1 119 [.int .i64 (a.kind : Nat), .string ⟨a.text.toArray⟩, .int .i64 (a.val : Nat), .int .i64 (a.pos : Nat)]
 have R2 := R1.out.alloc (.cells #[.int .i64 (a.kind : Nat), .string ⟨a.text.toArray⟩, .int .i64 (a.val : Nat), .int .i64 (a.pos : Nat)] 119)
 have D2 := D1.out.alloc (.cells #[.int .i64 (a.kind : Nat), .string ⟨a.text.toArray⟩, .int .i64 (a.val : Nat), .int .i64 (a.pos : Nat)] 119)
 have M2 := M1.out.kept (E := fun _ => False) ((Kp.refl _ _).alloc (.cells #[.int .i64 (a.kind : Nat), .string ⟨a.text.toArray⟩, .int .i64 (a.val : Nat), .int .i64 (a.pos : Nat)] 119)) (fun h => h)
 have K2 := K1.out.alloc (.cells #[.int .i64 (a.kind : Nat), .string ⟨a.text.toArray⟩, .int .i64 (a.val : Nat), .int .i64 (a.pos : Nat)] 119)
 have A2 := A1.out.kept (E := fun _ => False) ((Kp.refl _ _).alloc (.cells #[.int .i64 (a.kind : Nat), .string ⟨a.text.toArray⟩, .int .i64 (a.val : Nat), .int .i64 (a.pos : Nat)] 119)) (fun _ h => h.elim)
 have hs2 : W1.heap.size < (W1.alloc (.cells #[.int .i64 (a.kind : Nat), .string ⟨a.text.toArray⟩, .int .i64 (a.val : Nat), .int .i64 (a.pos : Nat)] 119)).heap.size := by simp
 generalize W1.alloc (.cells #[.int .i64 (a.kind : Nat), .string ⟨a.text.toArray⟩, .int .i64 (a.val : Nat), .int .i64 (a.pos : Nat)] 119) = W2 at *
 generalize W1.heap.size = xb at *
 have R2 := hid R2
 have D2 := hid D2
 have X2 := hid X2
 have M2 := hid M2
 have K2 := hid K2; have A2 := hid A2
 clear R1 D1 M1 K1 A1
 go_wp2_with fail
 refine (take_any bp L r1 170 testO_ent #[.pointer (some ⟨w.heap.size + 2, 0, none⟩)] (fun t => decide (opOf t.text ≠ 0)) _ A2.out (testO_asks (w.heap.size + 2) (w.heap.size + 1) 6 _ _ D2.out M2.out (fun h => h) (fun h => h))).mono ?_
 rintro e W3 (⟨o, r3, h3, rfl, a3, k3⟩ | ⟨c3, r3, h3, rfl, k3⟩)
 rotate_left
 ·have KK := hid (K2.out.callB k3 (rfl)); have HB := hid h3
  clear h3 k3
  unfold failP
  go_wp2
  refine ⟨rfl, gives_bad _ _ ?_ KK.out⟩
  show testP ts = _
  unfold testP
  rw [then_of H1.out, then_bad HB.out]
 have R3 := hid (R2.out.kept k3 (fun h => by have : w.heap.size = bp := h; omega))
 have D3 := hid (D2.out.kept k3 (fun h => by have : (w.heap.size + 2) = bp := h; omega))
 have X3 := hid (X2.out.kept k3 (fun h => by have : xb = bp := h; omega))
 have M3 := hid (M2.out.kept k3 (fun h => by have : w.heap.size + 1 = bp := h; omega))
 have K3 := hid (K2.out.callB k3 (rfl)); have A3 := hid a3; have H3 := hid h3; have hs3 := k3.size
 clear h3 a3 k3  R2 D2 X2 M2 K2 A2
 unfold tkV
 go_upto_region 4 with fail
 have Y4 := Blk.new W3 119 [.int .i64 (o.kind : Nat), .string ⟨o.text.toArray⟩, .int .i64 (o.val : Nat), .int .i64 (o.pos : Nat)]
 have R4 := R3.out.alloc (.cells #[.int .i64 (o.kind : Nat), .string ⟨o.text.toArray⟩, .int .i64 (o.val : Nat), .int .i64 (o.pos : Nat)] 119)
 have D4 := D3.out.alloc (.cells #[.int .i64 (o.kind : Nat), .string ⟨o.text.toArray⟩, .int .i64 (o.val : Nat), .int .i64 (o.pos : Nat)] 119)
 have X4 := X3.out.alloc (.cells #[.int .i64 (o.kind : Nat), .string ⟨o.text.toArray⟩, .int .i64 (o.val : Nat), .int .i64 (o.pos : Nat)] 119)
 have M4 := M3.out.kept (E := fun _ => False) ((Kp.refl _ _).alloc (.cells #[.int .i64 (o.kind : Nat), .string ⟨o.text.toArray⟩, .int .i64 (o.val : Nat), .int .i64 (o.pos : Nat)] 119)) (fun h => h)
 have K4 := K3.out.alloc (.cells #[.int .i64 (o.kind : Nat), .string ⟨o.text.toArray⟩, .int .i64 (o.val : Nat), .int .i64 (o.pos : Nat)] 119)
 have A4 := A3.out.kept (E := fun _ => False) ((Kp.refl _ _).alloc (.cells #[.int .i64 (o.kind : Nat), .string ⟨o.text.toArray⟩, .int .i64 (o.val : Nat), .int .i64 (o.pos : Nat)] 119)) (fun _ h => h.elim)
 have hs4 : W3.heap.size < (W3.alloc (.cells #[.int .i64 (o.kind : Nat), .string ⟨o.text.toArray⟩, .int .i64 (o.val : Nat), .int .i64 (o.pos : Nat)] 119)).heap.size := by simp
 generalize W3.alloc (.cells #[.int .i64 (o.kind : Nat), .string ⟨o.text.toArray⟩, .int .i64 (o.val : Nat), .int .i64 (o.pos : Nat)] 119) = W4 at *
 generalize W3.heap.size = yb at *
 have R4 := hid R4
 have D4 := hid D4
 have X4 := hid X4
 have Y4 := hid Y4
 have M4 := hid M4
 have K4 := hid K4; have A4 := hid A4
 clear R3 D3 X3 M3 K3 A3
 have ml := ops_look _ M4.out o.text
 obtain ⟨kd, hkd⟩ : ∃ kd, opOf o.text = kd := ⟨_, rfl⟩
 rw [hkd] at ml
 have HKD := hid hkd
 clear hkd M4
 have cX := X4.out.cell (i := 1) rfl
 have cX3 := X4.out.cell (i := 3) rfl
 have cD := D4.out.cell (i := 0) rfl
 have cY := Y4.out.cell (i := 1) rfl
 go_upto_region 5 with fail
 clear cX cX3 cD cY ml
 have V5 := Blk.new W4 68 [.string ⟨a.text.toArray⟩, .int .i64 (kd : Nat), .string ⟨#[]⟩, .int .i64 0, .int .i64 (a.pos : Nat)]
 have R5 := R4.out.alloc (.cells #[.string ⟨a.text.toArray⟩, .int .i64 (kd : Nat), .string ⟨#[]⟩, .int .i64 0, .int .i64 (a.pos : Nat)] 68)
 have D5 := D4.out.alloc (.cells #[.string ⟨a.text.toArray⟩, .int .i64 (kd : Nat), .string ⟨#[]⟩, .int .i64 0, .int .i64 (a.pos : Nat)] 68)
 have X5 := X4.out.alloc (.cells #[.string ⟨a.text.toArray⟩, .int .i64 (kd : Nat), .string ⟨#[]⟩, .int .i64 0, .int .i64 (a.pos : Nat)] 68)
 have Y5 := Y4.out.alloc (.cells #[.string ⟨a.text.toArray⟩, .int .i64 (kd : Nat), .string ⟨#[]⟩, .int .i64 0, .int .i64 (a.pos : Nat)] 68)
 have K5 := K4.out.alloc (.cells #[.string ⟨a.text.toArray⟩, .int .i64 (kd : Nat), .string ⟨#[]⟩, .int .i64 0, .int .i64 (a.pos : Nat)] 68)
 have A5 := A4.out.kept (E := fun _ => False) ((Kp.refl _ _).alloc (.cells #[.string ⟨a.text.toArray⟩, .int .i64 (kd : Nat), .string ⟨#[]⟩, .int .i64 0, .int .i64 (a.pos : Nat)] 68)) (fun _ h => h.elim)
 have hs5 : W4.heap.size < (W4.alloc (.cells #[.string ⟨a.text.toArray⟩, .int .i64 (kd : Nat), .string ⟨#[]⟩, .int .i64 0, .int .i64 (a.pos : Nat)] 68)).heap.size := by simp
 generalize W4.alloc (.cells #[.string ⟨a.text.toArray⟩, .int .i64 (kd : Nat), .string ⟨#[]⟩, .int .i64 0, .int .i64 (a.pos : Nat)] 68) = W5 at *
 generalize W4.heap.size = vb at *
 have R5 := hid R5
 have D5 := hid D5
 have X5 := hid X5
 have Y5 := hid Y5
 have V5 := hid V5
 have K5 := hid K5; have A5 := hid A5
 clear R4 D4 X4 Y4  K4 A4
 have HSV := hid A5.out.short
 go_wp2_with fail
 refine (take_any bp L r3 171 testV_ent #[] (fun t => decide (t.kind ≠ 3)) _ A5.out (testV_asks _ _)).mono ?_
 rintro e W6 (⟨v, r6, h6, rfl, a6, k6⟩ | ⟨c6, r6, h6, rfl, k6⟩)
 rotate_left
 ·have KK := hid (K5.out.callB k6 (rfl)); have HB := hid h6
  clear h6 k6
  unfold failP
  go_wp2
  refine ⟨rfl, gives_bad _ _ ?_ KK.out⟩
  show testP ts = _
  unfold testP
  rw [then_of H1.out, then_of H3.out, then_bad HB.out]
 have R6 := hid (R5.out.kept k6 (fun h => by have : w.heap.size = bp := h; omega))
 have D6 := hid (D5.out.kept k6 (fun h => by have : (w.heap.size + 2) = bp := h; omega))
 have X6 := hid (X5.out.kept k6 (fun h => by have : xb = bp := h; omega))
 have Y6 := hid (Y5.out.kept k6 (fun h => by have : yb = bp := h; omega))
 have V6 := hid (V5.out.kept k6 (fun h => by have : vb = bp := h; omega))
 have K6 := hid (K5.out.callB k6 (rfl)); have A6 := hid a6; have H6 := hid h6; have hs6 := k6.size
 clear h6 a6 k6  R5 D5 X5 Y5 V5  K5 A5
 unfold tkV
 go_upto_region 6 with fail
 have Z7 := Blk.new W6 119 [.int .i64 (v.kind : Nat), .string ⟨v.text.toArray⟩, .int .i64 (v.val : Nat), .int .i64 (v.pos : Nat)]
 have R7 := R6.out.alloc (.cells #[.int .i64 (v.kind : Nat), .string ⟨v.text.toArray⟩, .int .i64 (v.val : Nat), .int .i64 (v.pos : Nat)] 119)
 have D7 := D6.out.alloc (.cells #[.int .i64 (v.kind : Nat), .string ⟨v.text.toArray⟩, .int .i64 (v.val : Nat), .int .i64 (v.pos : Nat)] 119)
 have X7 := X6.out.alloc (.cells #[.int .i64 (v.kind : Nat), .string ⟨v.text.toArray⟩, .int .i64 (v.val : Nat), .int .i64 (v.pos : Nat)] 119)
 have Y7 := Y6.out.alloc (.cells #[.int .i64 (v.kind : Nat), .string ⟨v.text.toArray⟩, .int .i64 (v.val : Nat), .int .i64 (v.pos : Nat)] 119)
 have V7 := V6.out.alloc (.cells #[.int .i64 (v.kind : Nat), .string ⟨v.text.toArray⟩, .int .i64 (v.val : Nat), .int .i64 (v.pos : Nat)] 119)
 have K7 := K6.out.alloc (.cells #[.int .i64 (v.kind : Nat), .string ⟨v.text.toArray⟩, .int .i64 (v.val : Nat), .int .i64 (v.pos : Nat)] 119)
 have A7 := A6.out.kept (E := fun _ => False) ((Kp.refl _ _).alloc (.cells #[.int .i64 (v.kind : Nat), .string ⟨v.text.toArray⟩, .int .i64 (v.val : Nat), .int .i64 (v.pos : Nat)] 119)) (fun _ h => h.elim)
 have hs7 : W6.heap.size < (W6.alloc (.cells #[.int .i64 (v.kind : Nat), .string ⟨v.text.toArray⟩, .int .i64 (v.val : Nat), .int .i64 (v.pos : Nat)] 119)).heap.size := by simp
 generalize W6.alloc (.cells #[.int .i64 (v.kind : Nat), .string ⟨v.text.toArray⟩, .int .i64 (v.val : Nat), .int .i64 (v.pos : Nat)] 119) = W7 at *
 generalize W6.heap.size = zb at *
 have R7 := hid R7
 have D7 := hid D7
 have X7 := hid X7
 have Y7 := hid Y7
 have V7 := hid V7
 have Z7 := hid Z7
 have K7 := hid K7; have A7 := hid A7
 clear R6 D6 X6 Y6 V6  K6 A6
 have hlv : v.text.length ≤ 1000000 := by
  obtain ⟨e, _⟩ := takeP_ok H6.out
  exact HSV.out v (by rw [e]; exact List.mem_cons_self)
 clear HSV
 have cZ0 := Z7.out.cell (i := 0) rfl
 by_cases hk2 : v.kind = 2
 ·have e4 : (((v.kind : Nat) : Int) == 2) = true := by simp [hk2]
  have HQ := hid hk2
  clear hk2
  have cZ2 := Z7.out.cell (i := 2) rfl
  have cs0 := V7.out.cell (i := 3) rfl
  have cf := V7.out.free
  go_upto_region 8 with fail
  have R8 := (R7.out.other (p := ⟨vb, 3, none⟩) (by show ¬ vb = w.heap.size; omega) (.int .i64 (v.val : Nat)))
  have D8 := (D7.out.other (p := ⟨vb, 3, none⟩) (by show ¬ vb = (w.heap.size + 2); omega) (.int .i64 (v.val : Nat)))
  have X8 := (X7.out.other (p := ⟨vb, 3, none⟩) (by show ¬ vb = xb; omega) (.int .i64 (v.val : Nat)))
  have Y8 := (Y7.out.other (p := ⟨vb, 3, none⟩) (by show ¬ vb = yb; omega) (.int .i64 (v.val : Nat)))
  have V8 : Blk (W7.setCell ⟨vb, 3, none⟩ (.int .i64 (v.val : Nat))) vb 68 [.string ⟨a.text.toArray⟩, .int .i64 (kd : Nat), .string ⟨#[]⟩, .int .i64 (v.val : Nat), .int .i64 (a.pos : Nat)] := (V7.out.set 3 (.int .i64 (v.val : Nat)))
  have Z8 := (Z7.out.other (p := ⟨vb, 3, none⟩) (by show ¬ vb = zb; omega) (.int .i64 (v.val : Nat)))
  have K8 := (K7.out.setNew vb 3 (by omega) (.int .i64 (v.val : Nat)))
  have A8 := A7.out.kept (E := onlyB vb) ((Kp.refl (onlyB vb) W7).setOld vb 3 rfl (.int .i64 (v.val : Nat))) (fun k hk => by have : k = vb := hk; omega)
  have hs8 : W7.heap.size ≤ (W7.setCell ⟨vb, 3, none⟩ (.int .i64 (v.val : Nat))).heap.size := by simp
  generalize W7.setCell ⟨vb, 3, none⟩ (.int .i64 (v.val : Nat)) = W8 at *
  have R8 := hid R8
  have D8 := hid D8
  have X8 := hid X8
  have Y8 := hid Y8
  have V8 := hid V8
  have Z8 := hid Z8
  have K8 := hid K8; have A8 := hid A8
  clear cf cs0 R7 D7 X7 Y7 V7 Z7  K7 A7
  clear cZ0 cZ2 e4
  have x0 := V8.out.cell (i := 0) rfl
  have x1 := V8.out.cell (i := 1) rfl
  have x2 := V8.out.cell (i := 2) rfl
  have x3 := V8.out.cell (i := 3) rfl
  have x4 := V8.out.cell (i := 4) rfl
  have z0 := R8.out.cell (i := 0) rfl
  have z1 := R8.out.cell (i := 1) rfl
  have z2 := R8.out.cell (i := 2) rfl
  have z3 := R8.out.cell (i := 3) rfl
  have z4 := R8.out.cell (i := 4) rfl
  have zf := R8.out.free
  go_wp2
  rw [setCells_five]
  refine bodyPost_ret (results_cell_mid rfl _ _ w.heap.size [.string ⟨a.text.toArray⟩, .int .i64 (kd : Nat), .string ⟨#[]⟩, .int .i64 (v.val : Nat), .int .i64 (a.pos : Nat)] _ rfl (R8.out.whole (vs := [.string ⟨a.text.toArray⟩, .int .i64 (kd : Nat), .string ⟨#[]⟩, .int .i64 (v.val : Nat), .int .i64 (a.pos : Nat)]) rfl).range Tryz.underlying68 rfl (by kernel_rfl)) rfl ?_
  refine gives_ok (⟨a.text, kd, [], v.val, a.pos⟩) r6 ?_ ⟨_, rfl, rfl⟩ (A8.out.result (by omega) _) (K8.out.result (by omega) _)
  show testP ts = _
  unfold testP
  rw [then_of H1.out, then_of H3.out, then_of H6.out]
  unfold valueTail
  rw [if_pos HQ.out, HKD.out]
  rfl
 ·have e4 : (((v.kind : Nat) : Int) == 2) = false := by simp; omega
  have HQ := hid hk2
  clear hk2
  have cZ1 := Z7.out.cell (i := 1) rfl
  have cs0 := V7.out.cell (i := 2) rfl
  have cf := V7.out.free
  go_upto_region 10 with fail
  have R8 := (R7.out.other (p := ⟨vb, 2, none⟩) (by show ¬ vb = w.heap.size; omega) (.string ⟨v.text.toArray⟩))
  have D8 := (D7.out.other (p := ⟨vb, 2, none⟩) (by show ¬ vb = (w.heap.size + 2); omega) (.string ⟨v.text.toArray⟩))
  have X8 := (X7.out.other (p := ⟨vb, 2, none⟩) (by show ¬ vb = xb; omega) (.string ⟨v.text.toArray⟩))
  have Y8 := (Y7.out.other (p := ⟨vb, 2, none⟩) (by show ¬ vb = yb; omega) (.string ⟨v.text.toArray⟩))
  have V8 : Blk (W7.setCell ⟨vb, 2, none⟩ (.string ⟨v.text.toArray⟩)) vb 68 [.string ⟨a.text.toArray⟩, .int .i64 (kd : Nat), .string ⟨v.text.toArray⟩, .int .i64 0, .int .i64 (a.pos : Nat)] := (V7.out.set 2 (.string ⟨v.text.toArray⟩))
  have Z8 := (Z7.out.other (p := ⟨vb, 2, none⟩) (by show ¬ vb = zb; omega) (.string ⟨v.text.toArray⟩))
  have K8 := (K7.out.setNew vb 2 (by omega) (.string ⟨v.text.toArray⟩))
  have A8 := A7.out.kept (E := onlyB vb) ((Kp.refl (onlyB vb) W7).setOld vb 2 rfl (.string ⟨v.text.toArray⟩)) (fun k hk => by have : k = vb := hk; omega)
  have hs8 : W7.heap.size ≤ (W7.setCell ⟨vb, 2, none⟩ (.string ⟨v.text.toArray⟩)).heap.size := by simp
  generalize W7.setCell ⟨vb, 2, none⟩ (.string ⟨v.text.toArray⟩) = W8 at *
  have R8 := hid R8
  have D8 := hid D8
  have X8 := hid X8
  have Y8 := hid Y8
  have V8 := hid V8
  have Z8 := hid Z8
  have K8 := hid K8; have A8 := hid A8
  clear cf cs0 R7 D7 X7 Y7 V7 Z7  K7 A7
  clear cZ0 cZ1 e4
  go_wp2_with fail
  refine (skip_any bp L r6 wDot _ A8.out).mono ?_
  rintro e W9 ⟨⟨r9, h9, rfl, a9⟩ | ⟨h9, rfl, a9⟩, k9⟩
  ·have R9 := hid (R8.out.kept k9 (fun h => by have : w.heap.size = bp := h; omega))
   have D9 := hid (D8.out.kept k9 (fun h => by have : (w.heap.size + 2) = bp := h; omega))
   have X9 := hid (X8.out.kept k9 (fun h => by have : xb = bp := h; omega))
   have Y9 := hid (Y8.out.kept k9 (fun h => by have : yb = bp := h; omega))
   have V9 := hid (V8.out.kept k9 (fun h => by have : vb = bp := h; omega))
   have Z9 := hid (Z8.out.kept k9 (fun h => by have : zb = bp := h; omega))
   have K9 := hid (K8.out.callB k9 (rfl)); have A9 := hid a9; have H9 := hid h9; have hs9 := k9.size
   clear h9 a9 k9  R8 D8 X8 Y8 V8 Z8  K8 A8
   go_upto_region 11 with fail
   refine wp_region_any (by kernel_rfl) ?_
   refine any_of_held (S := fun W => Blk W vb 68 [.string ⟨a.text.toArray⟩, .int .i64 (kd : Nat), .string ⟨v.text.toArray⟩, .int .i64 0, .int .i64 (a.pos : Nat)]) (N := [8]) _ _ _ _ ?_
   have HSH9 := hid A9.out.short
   have hS0 : Blk W9.drew vb 68 [.string ⟨a.text.toArray⟩, .int .i64 (kd : Nat), .string ⟨v.text.toArray⟩, .int .i64 0, .int .i64 (a.pos : Nat)] := V9.out
   have R9d : Hid (Blk W9.drew w.heap.size 68 [.string ⟨#[]⟩, .int .i64 0, .string ⟨#[]⟩, .int .i64 0, .int .i64 0]) := hid R9.out
   have A9d : Hid (At W9.drew bp L r9) := hid (A9.out.kept (E := fun _ => False) (Kp.refl _ _).drew (fun _ h => h.elim))
   have K9d : Hid (Kp (onlyB bp) w W9.drew) := hid K9.out.drew
   have hsd : W9.drew.heap.size = W9.heap.size := rfl
   change held _ _ _ _ _ _ _ _ _ W9.drew
   generalize W9.drew = wd at *
   clear R9 V9 A9 K9 X9 Y9 Z9 D9
   refine held_take [1, 6, 7, 8] (i := 0) (v := .pointer (some ⟨vb, 2, none⟩)) rfl (by kernel_rfl) (fun _ _ _ h => h) (Or.inl ⟨by rfl, fun w' hS => by go_simp⟩) hS0 ?_
   try simp only [Act.put, aA, aB, aC]
   refine held_take [6, 7, 8] (i := 1) (v := .string ⟨v.text.toArray⟩) rfl (by kernel_rfl) (fun _ _ _ h => h) (Or.inl ⟨by rfl, fun w' hS => by have hc := hS.cell (i := 2) rfl; go_simp⟩) hS0 ?_
   try simp only [Act.put, aA, aB, aC]
   refine held_take [3, 4, 5, 6, 7, 8] (i := 2) (v := .pointer (some ⟨bp, 0, none⟩)) rfl (by kernel_rfl) (fun _ _ _ h => h) (Or.inl ⟨by rfl, fun w' hS => by go_simp⟩) hS0 ?_
   try simp only [Act.put, aA, aB, aC]
   refine held_one (i := 3) rfl (by kernel_rfl) (fun K hK => ?_)
   go_simp
   refine (name_any bp L r9 _ A9d.out).mono ?_
   rintro e W10 (⟨x, r10, h10, rfl, a10, k10⟩ | ⟨c10, r10, h10, rfl, k10⟩)
   rotate_left
   ·have KK := hid (K9d.out.callB k10 (rfl)); have HB := hid h10
    clear h10 k10
    unfold failP
    refine ⟨rfl, gives_bad _ _ ?_ KK.out⟩
    show testP ts = _
    unfold testP
    rw [then_of H1.out, then_of H3.out, then_of H6.out]
    unfold valueTail
    rw [if_neg HQ.out, ifSep_some H9.out, then_bad HB.out]
   have hS1 : Blk W10 vb 68 [.string ⟨a.text.toArray⟩, .int .i64 (kd : Nat), .string ⟨v.text.toArray⟩, .int .i64 0, .int .i64 (a.pos : Nat)] := hS0.kept k10 (fun h => by have : vb = bp := h; omega)
   have R10 := hid (R9d.out.kept k10 (fun h => by have : w.heap.size = bp := h; omega))
   have K10 := hid (K9d.out.callB k10 (rfl)); have A10 := hid a10; have H10 := hid h10; have hs10 := k10.size
   clear h10 a10 k10 R9d K9d A9d
   refine hK.out _ _ (fun _ => hS1) ?_
   clear hK K
   try simp only [Act.put, aA, aB, aC]
   unfold tkV
   have happ := str_append [46] x.text
   have hfd := tok_field1
   have hlx : x.text.length ≤ 1000000 := by
    obtain ⟨e, _⟩ := takeP_ok H10.out
    exact HSH9.out x (by rw [e]; exact List.mem_cons_self)
   have happ2 := str_append v.text ([46] ++ x.text)
   refine held_take [5, 6, 7, 8] (i := 4) (v := .string ⟨x.text.toArray⟩) rfl (by kernel_rfl) (fun _ _ _ h => h) (Or.inl ⟨by rfl, fun w' hS => by go_simp⟩) hS1 ?_
   try simp only [Act.put, aA, aB, aC]
   refine held_take [6, 7, 8] (i := 5) (v := .string ⟨([46] ++ x.text).toArray⟩) rfl (by kernel_rfl) (fun _ _ _ h => h) (Or.inl ⟨by rfl, fun w' hS => by go_simp; omega⟩) hS1 ?_
   try simp only [Act.put, aA, aB, aC]
   refine held_take [7, 8] (i := 6) (v := .string ⟨(v.text ++ ([46] ++ x.text)).toArray⟩) rfl (by kernel_rfl) (fun _ _ _ h => h) (Or.inl ⟨by rfl, fun w' hS => by go_simp; rw [if_neg (by omega)]; rw [show v.text ++ 46 :: x.text = v.text ++ ([46] ++ x.text) from rfl, ← happ2]; rfl⟩) hS1 ?_
   try simp only [Act.put, aA, aB, aC]
   refine held_take [8] (i := 7) (v := .pointer (some ⟨vb, 2, none⟩)) rfl (by kernel_rfl) (fun _ _ _ h => h) (Or.inl ⟨by rfl, fun w' hS => by go_simp⟩) hS1 ?_
   try simp only [Act.put, aA, aB, aC]
   have hc2 := hS1.cell (i := 2) rfl
   have hf2 := hS1.free 2
   refine held_one (i := 8) rfl (by kernel_rfl) (fun K hK => ?_)
   go_simp
   refine hK.out _ _ (fun h => absurd (by decide) h) ?_
   clear hK K
   try simp only [Act.put, aA, aB, aC]
   refine held_done (by kernel_rfl) ?_ _
   rename_i KK hKK
   refine hKK _ _ ?_
   clear hKK KK hc2 hf2
   have v2 : Blk (W10.setCell ⟨vb, 2, none⟩ (.string ⟨(v.text ++ 46 :: x.text).toArray⟩)) vb 68 [.string ⟨a.text.toArray⟩, .int .i64 (kd : Nat), .string ⟨(v.text ++ 46 :: x.text).toArray⟩, .int .i64 0, .int .i64 (a.pos : Nat)] := hS1.set 2 (.string ⟨(v.text ++ 46 :: x.text).toArray⟩)
   have r2 := R10.out.other (p := ⟨vb, 2, none⟩) (by show ¬ vb = w.heap.size; omega) (.string ⟨(v.text ++ 46 :: x.text).toArray⟩)
   have k2 := K10.out.setNew vb 2 (by omega) (.string ⟨(v.text ++ 46 :: x.text).toArray⟩)
   have a2 := A10.out.kept (E := onlyB vb) ((Kp.refl (onlyB vb) W10).setOld vb 2 rfl (.string ⟨(v.text ++ 46 :: x.text).toArray⟩)) (fun k hk => by have : k = vb := hk; omega)
   have V11 := hid v2; have R11 := hid r2; have K11 := hid k2; have A11 := hid a2
   have hs11 : W10.heap.size ≤ (W10.setCell ⟨vb, 2, none⟩ (.string ⟨(v.text ++ 46 :: x.text).toArray⟩)).heap.size := by simp
   clear v2 r2 k2 a2 hS0 hS1 R10 K10 A10
   generalize W10.setCell ⟨vb, 2, none⟩ (.string ⟨(v.text ++ 46 :: x.text).toArray⟩) = W11 at *
   have x0 := V11.out.cell (i := 0) rfl
   have x1 := V11.out.cell (i := 1) rfl
   have x2 := V11.out.cell (i := 2) rfl
   have x3 := V11.out.cell (i := 3) rfl
   have x4 := V11.out.cell (i := 4) rfl
   have z0 := R11.out.cell (i := 0) rfl
   have z1 := R11.out.cell (i := 1) rfl
   have z2 := R11.out.cell (i := 2) rfl
   have z3 := R11.out.cell (i := 3) rfl
   have z4 := R11.out.cell (i := 4) rfl
   have zf := R11.out.free
   go_wp2
   rw [setCells_five]
   refine bodyPost_ret (results_cell_mid rfl _ _ w.heap.size [.string ⟨a.text.toArray⟩, .int .i64 (kd : Nat), .string ⟨(v.text ++ 46 :: x.text).toArray⟩, .int .i64 0, .int .i64 (a.pos : Nat)] _ rfl (R11.out.whole (vs := [.string ⟨a.text.toArray⟩, .int .i64 (kd : Nat), .string ⟨(v.text ++ 46 :: x.text).toArray⟩, .int .i64 0, .int .i64 (a.pos : Nat)]) rfl).range Tryz.underlying68 rfl (by kernel_rfl)) rfl ?_
   refine gives_ok (⟨a.text, kd, v.text ++ 46 :: x.text, 0, a.pos⟩) r10 ?_ ⟨_, rfl, rfl⟩ (A11.out.result (by omega) _) (K11.out.result (by omega) _)
   show testP ts = _
   unfold testP
   rw [then_of H1.out, then_of H3.out, then_of H6.out]
   unfold valueTail
   rw [if_neg HQ.out, HKD.out, ifSep_some H9.out, then_of H10.out]
   rfl
  ·have R9 := hid (R8.out.kept k9 (fun h => by have : w.heap.size = bp := h; omega))
   have D9 := hid (D8.out.kept k9 (fun h => by have : (w.heap.size + 2) = bp := h; omega))
   have X9 := hid (X8.out.kept k9 (fun h => by have : xb = bp := h; omega))
   have Y9 := hid (Y8.out.kept k9 (fun h => by have : yb = bp := h; omega))
   have V9 := hid (V8.out.kept k9 (fun h => by have : vb = bp := h; omega))
   have Z9 := hid (Z8.out.kept k9 (fun h => by have : zb = bp := h; omega))
   have K9 := hid (K8.out.callB k9 (rfl)); have A9 := hid a9; have H9 := hid h9; have hs9 := k9.size
   clear h9 a9 k9  R8 D8 X8 Y8 V8 Z8  K8 A8
   have x0 := V9.out.cell (i := 0) rfl
   have x1 := V9.out.cell (i := 1) rfl
   have x2 := V9.out.cell (i := 2) rfl
   have x3 := V9.out.cell (i := 3) rfl
   have x4 := V9.out.cell (i := 4) rfl
   have z0 := R9.out.cell (i := 0) rfl
   have z1 := R9.out.cell (i := 1) rfl
   have z2 := R9.out.cell (i := 2) rfl
   have z3 := R9.out.cell (i := 3) rfl
   have z4 := R9.out.cell (i := 4) rfl
   have zf := R9.out.free
   go_wp2
   rw [setCells_five]
   refine bodyPost_ret (results_cell_mid rfl _ _ w.heap.size [.string ⟨a.text.toArray⟩, .int .i64 (kd : Nat), .string ⟨v.text.toArray⟩, .int .i64 0, .int .i64 (a.pos : Nat)] _ rfl (R9.out.whole (vs := [.string ⟨a.text.toArray⟩, .int .i64 (kd : Nat), .string ⟨v.text.toArray⟩, .int .i64 0, .int .i64 (a.pos : Nat)]) rfl).range Tryz.underlying68 rfl (by kernel_rfl)) rfl ?_
   refine gives_ok (⟨a.text, kd, v.text, 0, a.pos⟩) r6 ?_ ⟨_, rfl, rfl⟩ (A9.out.result (by omega) _) (K9.out.result (by omega) _)
   show testP ts = _
   unfold testP
   rw [then_of H1.out, then_of H3.out, then_of H6.out]
   unfold valueTail
   rw [if_neg HQ.out, HKD.out, ifSep_none H9.out]
   rfl
end Go.Proofs.YtilfpnkcgjonhaaGreatDoor.Ru
namespace Go.Proofs.YtilfpnkcgjonhaaGreatDoor.Ru
open Go.RowKit Go.Sort Go.Shelf Foyer.Rule Foyer.Round
def lenOf : Value → Nat
 | .slice _ n _ => n
 | _ => 0
theorem building_one {α : Type} {K : Kind α} {W : World} {B : Nat} {T : TypeId} {c : List Value} {x : α} (hc : K.is W (fun k => B ≤ k) c x) (hB : B ≤ W.heap.size) :
  Building K (W.alloc (.cells c.toArray T)) (fun k => B ≤ k ∧ (Value.slice (some ⟨W.heap.size, 0, none⟩) 1 1).ownBlock ≠ some k) B T (.slice (some ⟨W.heap.size, 0, none⟩) 1 1) [x] :=
 ⟨[c], con_one (Blk.new W T c) hB (K.len hc), .cons (K.moved hc (fun k _ hlt => Below.heap_alloc _ _ _ hlt) (fun k hk hlt => ⟨hk, fun e => by
  have e' : W.heap.size = k := by simpa [Value.ownBlock] using e
  omega⟩)) .nil⟩
theorem building_snoc {α : Type} {K : Kind α} {W1 W2 : World} {B N : Nat} {T : TypeId} {v v' : Value} {css : List (List Value)} {xs : List α} {c : List Value} {x : α} {o : Obj}
  (hall : All2 (K.is W1 (fun k => B ≤ k ∧ v.ownBlock ≠ some k)) css xs) (hc : K.is W1 (fun k => N ≤ k) c x) (hN : B ≤ N) (hown : ∀ k, v.ownBlock = some k → k < N)
  (hcon' : Con W2 B T K.size v' (css ++ [c])) (hg : (W1.alloc o).grownBy W2 v.ownBlock) (hat : v'.ownBlock = v.ownBlock ∨ v'.ownBlock = some (W1.alloc o).heap.size) : Building K W2 (fun k => B ≤ k ∧ v'.ownBlock ≠ some k) B T v' (xs ++ [x]) := by
 have hgr : ∀ k, k < W1.heap.size → v.ownBlock ≠ some k → W2.heap[k]? = W1.heap[k]? := fun k hk hn => (hg.block k (by rw [World.size_alloc]; omega) (fun h => hn h.symm)).trans (Below.heap_alloc _ _ _ hk)
 have hv : ∀ k, k < W1.heap.size → v.ownBlock ≠ some k → v'.ownBlock ≠ some k := fun k hk hn e => by
  rcases hat with h | h
  ·exact hn (h ▸ e)
  ·rw [h, World.size_alloc] at e
   have e' := Option.some.inj e
   omega
 refine ⟨_, hcon', All2.snoc (All2.imp hall fun b y h => K.moved h (fun k hk hlt => hgr k hlt hk.2) (fun k hk hlt => ⟨hk.1, hv k hlt hk.2⟩)) (K.moved hc (fun k hk hlt => hgr k hlt (fun e => ?_)) (fun k hk hlt => ⟨Nat.le_trans hN hk, hv k hlt (fun e => ?_)⟩))⟩
 ·have h1 := hown k e; have h2 : N ≤ k := hk; omega
 ·have h1 := hown k e; have h2 : N ≤ k := hk; omega
theorem Building.later {α : Type} {K : Kind α} {W W' : World} {B bp : Nat} {T : TypeId} {v : Value} {xs : List α} (h : Building K W (fun k => B ≤ k ∧ v.ownBlock ≠ some k) B T v xs) (k : Kp (onlyB bp) W W') (hb : bp < B) : Building K W' (fun k => B ≤ k ∧ v.ownBlock ≠ some k) B T v xs :=
 h.kept (fun j hj => k.block j (h.lt hj).2 (fun e => by have h1 := (h.lt hj).1; have e' : j = bp := e; omega)) (fun j hj hlt => k.block j hlt (fun e => by have h1 := hj.1; have e' : j = bp := e; omega)) (fun _ h _ => h)
theorem sepL_any (bp L : Nat) (ts : List TokP) (w : World) (h : At w bp L ts) : Calls Tryz.prog 91 #[.pointer (some ⟨bp, 0, none⟩)] w fun e w' => ((∃ r, sepL ts = some r ∧ e = .returned (.bool true) ∧ At w' bp L r) ∨ (sepL ts = none ∧ e = .returned (.bool false) ∧ At w' bp L ts)) ∧ Kp (onlyB bp) w w' := by
 refine (left_any bp L ts w h _ rfl).mono ?_
 rintro e w' ⟨rfl, rfl⟩
 refine ⟨?_, Kp.refl _ _⟩
 cases ts with
 | nil => exact Or.inr ⟨rfl, rfl, h⟩
 | cons t r => exact Or.inl ⟨t :: r, rfl, by simp, h⟩
theorem testsC_ent (args : Array Value) (w : World) : (callFunc 156 args).run Tryz.prog w = .ok (.enter 156 args) w := enters_of Tryz.func156 (by kernel_rfl) rfl args w
set_option maxRecDepth 100000 in
theorem testsC_any (bp L bx : Nat) (ts : List TokP) (w : World) (h : At w bp L ts) (hx : Blk w bx 132 [.pointer (some ⟨bp, 0, none⟩)]) : Calls Tryz.prog 156 #[.pointer (some ⟨bx, 0, none⟩)] w fun e w' => ((∃ r, sepW wAnd ts = some r ∧ e = .returned (.bool true) ∧ At w' bp L r) ∨ (sepW wAnd ts = none ∧ e = .returned (.bool false) ∧ At w' bp L ts)) ∧ Kp (onlyB bp) w w' := by
 have HA := hid h
 have hc := hx.cell (i := 0) rfl
 clear h hx
 go_enter Tryz.func156, Tryz.ntmps156
 go_wp2_with fail
 refine (skip_any bp L ts wAnd _ HA.out).mono ?_
 rintro e w1 ⟨⟨r, h1, rfl, a1⟩ | ⟨h1, rfl, a1⟩, k1⟩
 ·have H1 := hid h1; have A1 := hid a1; have K1 := hid k1
  clear h1 a1 k1 hc
  go_wp2
  exact bodyPost_ret (results_tmp rfl _ _ _) rfl ⟨Or.inl ⟨r, H1.out, rfl, A1.out⟩, K1.out⟩
 ·have H1 := hid h1; have A1 := hid a1; have K1 := hid k1
  clear h1 a1 k1 hc
  go_wp2
  exact bodyPost_ret (results_tmp rfl _ _ _) rfl ⟨Or.inr ⟨H1.out, rfl, A1.out⟩, K1.out⟩
theorem itemC_ent (args : Array Value) (w : World) : (callFunc 127 args).run Tryz.prog w = .ok (.enter 127 args) w := enters_of Tryz.func127 (by kernel_rfl) rfl args w
set_option maxRecDepth 100000 in
theorem itemC_any (bp L bx : Nat) (ts : List TokP) (w : World) (h : At w bp L ts) (hx : Blk w bx 132 [.pointer (some ⟨bp, 0, none⟩)]) : Calls Tryz.prog 127 #[.pointer (some ⟨bx, 0, none⟩)] w fun e w' => ((∃ r, sepW wOr ts = some r ∧ e = .returned (.bool true) ∧ At w' bp L r) ∨ (sepW wOr ts = none ∧ e = .returned (.bool false) ∧ At w' bp L ts)) ∧ Kp (onlyB bp) w w' := by
 have HA := hid h
 have hc := hx.cell (i := 0) rfl
 clear h hx
 go_enter Tryz.func127, Tryz.ntmps127
 go_wp2_with fail
 refine (skip_any bp L ts wOr _ HA.out).mono ?_
 rintro e w1 ⟨⟨r, h1, rfl, a1⟩ | ⟨h1, rfl, a1⟩, k1⟩
 ·have H1 := hid h1; have A1 := hid a1; have K1 := hid k1
  clear h1 a1 k1 hc
  go_wp2
  exact bodyPost_ret (results_tmp rfl _ _ _) rfl ⟨Or.inl ⟨r, H1.out, rfl, A1.out⟩, K1.out⟩
 ·have H1 := hid h1; have A1 := hid a1; have K1 := hid k1
  clear h1 a1 k1 hc
  go_wp2
  exact bodyPost_ret (results_tmp rfl _ _ _) rfl ⟨Or.inr ⟨H1.out, rfl, A1.out⟩, K1.out⟩
theorem testF_ent (args : Array Value) (w : World) : (callFunc 155 args).run Tryz.prog w = .ok (.enter 155 args) w := enters_of Tryz.func155 (by kernel_rfl) rfl args w
theorem listTest_info : (Tryz.prog.info? 68).map (fun i => (i.zero, i.size, i.bytes)) = some (some (.agg #[.string ⟨#[]⟩, .int .i64 0, .string ⟨#[]⟩, .int .i64 0, .int .i64 0]), testK.size, 56) := by kernel_rfl
set_option linter.unusedSimpArgs false in
set_option maxRecDepth 100000 in
set_option maxHeartbeats 4000000 in
theorem listTest_any (bp L bx : Nat) (ts : List TokP) (w : World) (h : At w bp L ts) (hx : Blk w bx 132 [.pointer (some ⟨bp, 0, none⟩)]) (hbx : bx ≠ bp) :
  Calls Tryz.prog 154 #[.pointer (some ⟨bp, 0, none⟩), .int .i64 12, .func (.func 155) #[.pointer (some ⟨bp, 0, none⟩)] #[], .func (.func 156) #[] #[.pointer (some ⟨bx, 0, none⟩)]] w (Gives bp L (onlyB bp) w (testsP ts) (ListV testK 68 w.heap.size)) := by
 have hent := testF_ent
 have hent2 := testsC_ent
 have hlt := h.lt
 have HA := hid h
 have HX := hid hx
 clear hx
 clear h
 go_enter Tryz.func154, Tryz.ntmps154
 go_wp2_with fail
 refine (test_any bp L ts w HA.out).mono ?_
 rintro e w1 (⟨x, r1, h1, ⟨c, rfl, hc⟩, a1, k1⟩ | ⟨c1, r1, h1, rfl, k1⟩)
 rotate_left
 ·have KK := hid k1; have HB := hid h1
  clear h1 k1
  unfold failP
  go_wp2
  exact ⟨rfl, gives_bad _ _ (show listP (sepW wAnd) 11 testP ts = _ from then_bad HB.out) KK.out⟩
 obtain rfl : c = [.string ⟨x.attr.toArray⟩, .int .i64 (x.op : Nat), .string ⟨x.name.toArray⟩, .int .i64 (x.n : Nat), .int .i64 (x.pos : Nat)] := hc
 have hc : testK.is w1 (fun k => w.heap.size ≤ k) [.string ⟨x.attr.toArray⟩, .int .i64 (x.op : Nat), .string ⟨x.name.toArray⟩, .int .i64 (x.n : Nat), .int .i64 (x.pos : Nat)] x := rfl
 have hb1 := building_one (T := 68) hc k1.size
 have A1 := hid (a1.kept (E := fun _ => False) ((Kp.refl _ _).alloc (.cells #[.string ⟨x.attr.toArray⟩, .int .i64 (x.op : Nat), .string ⟨x.name.toArray⟩, .int .i64 (x.n : Nat), .int .i64 (x.pos : Nat)] 68)) (fun _ h => h.elim)); have K1 := hid (k1.alloc (.cells #[.string ⟨x.attr.toArray⟩, .int .i64 (x.op : Nat), .string ⟨x.name.toArray⟩, .int .i64 (x.n : Nat), .int .i64 (x.pos : Nat)] 68)); have H1 := hid h1; have HB1 := hid hb1
 clear a1 k1 h1 hb1 hc HA
 go_upto_region 2 with fail
 have HB1 : Hid (Building testK (w1.alloc (.cells #[.string ⟨x.attr.toArray⟩, .int .i64 (x.op : Nat), .string ⟨x.name.toArray⟩, .int .i64 (x.n : Nat), .int .i64 (x.pos : Nat)] 68)) (fun k => w.heap.size ≤ k ∧ (Value.slice (some ⟨w1.heap.size, 0, none⟩) 1 1).ownBlock ≠ some k) w.heap.size 68 (.slice (some ⟨w1.heap.size, 0, none⟩) 1 1) [x]) := HB1
 generalize w1.alloc (.cells #[.string ⟨x.attr.toArray⟩, .int .i64 (x.op : Nat), .string ⟨x.name.toArray⟩, .int .i64 (x.n : Nat), .int .i64 (x.pos : Nat)] 68) = W1 at *
 generalize w1.heap.size = g1 at *
 go_loopw [9] (fun v wr => ∃ (k : Nat) (xs : List TestP) (us : List TokP), Hid (xs.length + k = 12) ∧ Hid (testsP ts = andThen (rest (sepW wAnd) testP k) (fun bs => give (xs ++ bs)) us) ∧ Hid (At wr bp L us) ∧ Hid (Kp (onlyB bp) w wr) ∧ Hid (Building testK wr (fun k => w.heap.size ≤ k ∧ v.ownBlock ≠ some k) w.heap.size 68 v xs)) (fun v _ => 12 - lenOf v)
 case atStart => exact ⟨11, [x], r1, hid rfl, hid (show listP (sepW wAnd) 11 testP ts = _ from then_of H1.out), A1, K1, HB1⟩
 case round =>
  clear HB1 A1 K1 H1
  obtain ⟨k, xs, us, HN, HM, HA, HK, HB⟩ := hrel
  obtain ⟨ga, gc, rfl⟩ := HB.out.len
  go_wp2_with fail
  refine (testsC_any bp L bx us wr HA.out (HX.out.kept HK.out (fun h => hbx h))).mono ?_
  rintro e w2 ⟨⟨r2, h2, rfl, a2⟩ | ⟨h2, rfl, a2⟩, k2⟩
  ·have A2 := hid a2; have H2 := hid h2; have K2 := hid (HK.out.trans k2); have B2 := hid (HB.out.later k2 hlt)
   clear a2 h2 k2 HA HK HB
   by_cases hk0 : k = 0
   ·have e1 : (((xs.length : Nat) : Int) == 12) = true := by have := HN.out; simp; omega
    have HK0 := hid hk0
    clear hk0
    go_wp2_with fail
    refine (fail_any bp L r2 3 _ A2.out).mono ?_
    rintro e w3 ⟨rfl, rfl⟩
    unfold failP
    go_wp2
    refine ⟨rfl, gives_bad 3 r2 ?_ K2.out⟩
    rw [HM.out, HK0.out, then_bad (rest_full H2.out)]
   ·obtain ⟨k, rfl⟩ : ∃ k', k = k' + 1 := ⟨k - 1, by omega⟩
    have e1 : (((xs.length : Nat) : Int) == 12) = false := by have := HN.out; simp; omega
    clear hk0
    go_wp2_with fail
    refine (test_any bp L r2 w2 A2.out).mono ?_
    rintro e w3 (⟨x, r3, h3, ⟨c, rfl, hc⟩, a3, k3⟩ | ⟨c3, r3, h3, rfl, k3⟩)
    rotate_left
    ·have KK := hid (K2.out.trans k3); have HBD := hid h3
     clear h3 k3
     unfold failP
     go_wp2
     refine ⟨rfl, gives_bad _ _ ?_ KK.out⟩
     rw [HM.out, then_bad ((rest_some H2.out _).trans (then_bad HBD.out))]
    obtain rfl : c = [.string ⟨x.attr.toArray⟩, .int .i64 (x.op : Nat), .string ⟨x.name.toArray⟩, .int .i64 (x.n : Nat), .int .i64 (x.pos : Nat)] := hc
    have hc : testK.is w3 (fun k => w2.heap.size ≤ k) [.string ⟨x.attr.toArray⟩, .int .i64 (x.op : Nat), .string ⟨x.name.toArray⟩, .int .i64 (x.n : Nat), .int .i64 (x.pos : Nat)] x := rfl
    obtain ⟨i0, hi, hz0, hz1, hz2⟩ := info_parts' listTest_info
    obtain ⟨css, hcon, hall⟩ := B2.out.later k3 hlt
    have hown : ∀ k, (Value.slice ga xs.length gc).ownBlock = some k → k < w2.heap.size := fun k hk => (B2.out.lt hk).2
    have hbs : w.heap.size ≤ w2.heap.size := K2.out.size
    have K3 := hid (K2.out.trans k3); have A3 := hid a3; have H3 := hid h3; have hs3 := k3.size
    have HI := hid hi; have HZ0 := hid hz0; have HZ1 := hid hz1; have HZ2 := hid hz2
    have HCON := hid hcon; have HALL := hid hall; have HOW := hid hown; have HC := hid hc
    have HXL : Hid (css.length + 1 ≤ 1000000) := hid (by rw [All2.length HALL.out]; have := HN.out; omega)
    clear k3 a3 h3 hi hz0 hz1 hz2 hcon hall hown hc B2 K2 A2
    go_wp2_with (refine wpList_append_con (t := 69) (T := 68) (m := testK.size) (B := w.heap.size) Tryz.underlying69 HI.out HZ0.out HZ1.out HZ2.out rfl (by decide) (by decide) rfl (.tmp 21) (.tmp 24) rfl _ css [.string ⟨x.attr.toArray⟩, .int .i64 (x.op : Nat), .string ⟨x.name.toArray⟩, .int .i64 (x.n : Nat), .int .i64 (x.pos : Nat)] rfl (HCON.out.of_block (fun k hk => Below.heap_alloc _ _ _ (by have := HOW.out k hk; omega))) w3.heap.size rfl (Blk.new w3 68 [.string ⟨x.attr.toArray⟩, .int .i64 (x.op : Nat), .string ⟨x.name.toArray⟩, .int .i64 (x.n : Nat), .int .i64 (x.pos : Nat)]) (testK.len HC.out) (testK.one HC.out) HXL.out (by rw [World.size_alloc]; omega) ?_; intro v' W4 hcon' hg hat hone; have BN := hid (building_snoc HALL.out HC.out hbs HOW.out hcon' hg hat); have KN := hid ((K3.out.alloc (.cells ([.string ⟨x.attr.toArray⟩, .int .i64 (x.op : Nat), .string ⟨x.name.toArray⟩, .int .i64 (x.n : Nat), .int .i64 (x.pos : Nat)] : List Value).toArray 68)).grown hg (fun k hk => Or.inr (own_lt HCON.out.own hk).1)); have AN := hid (A3.out.kept (E := fun k => w.heap.size ≤ k) (((Kp.refl _ w3).alloc (.cells ([.string ⟨x.attr.toArray⟩, .int .i64 (x.op : Nat), .string ⟨x.name.toArray⟩, .int .i64 (x.n : Nat), .int .i64 (x.pos : Nat)] : List Value).toArray 68)).grown hg (fun k hk => Or.inl (own_lt HCON.out.own hk).1)) (fun k hk => by have : w.heap.size ≤ k := hk; omega)); clear hcon' hg hat)
    obtain ⟨ga', gc', hv'⟩ := BN.out.len
    refine ⟨⟨k, xs ++ [x], r3, hid (by have := HN.out; simp only [List.length_append, List.length_cons, List.length_nil]; omega), hid ?_, AN, KN, BN⟩, ?_⟩
    ·rw [HM.out]
     unfold andThen give
     rw [rest_some H2.out, then_of H3.out]
     unfold andThen give
     cases rest (sepW wAnd) testP k r3 with
     | bad c z => rfl
     | ok zs z => simp
    ·rw [hv']
     have := HN.out
     simp only [lenOf, List.length_append, List.length_cons, List.length_nil]
     omega
  ·have A2 := hid a2; have H2 := hid h2; have K2 := hid (HK.out.trans k2); have B2 := hid (HB.out.later k2 hlt)
   clear a2 h2 k2 HA HK HB
   go_wp2
   refine bodyPost_ret (results_tmp rfl _ _ _) rfl (gives_ok xs us ?_ ⟨.slice ga xs.length gc, rfl, B2.out.done (fun k hk _ => hk.1) (fun k hk => hk)⟩ A2.out K2.out)
   rw [HM.out, then_of (rest_none H2.out k), List.append_nil]
   rfl
set_option maxRecDepth 100000 in
theorem tests_any (bp L : Nat) (ts : List TokP) (w : World) (h : At w bp L ts) : Calls Tryz.prog 126 #[.pointer (some ⟨bp, 0, none⟩)] w (Gives bp L (onlyB bp) w (testsP ts) (ListV testK 68 w.heap.size)) := by
 have hmf := makes_func
 have hlt := h.lt
 have P0 := hid (Blk.new w 132 [.pointer (some ⟨bp, 0, none⟩)])
 have K0 := hid ((Kp.refl (onlyB bp) w).alloc (.cells #[.pointer (some ⟨bp, 0, none⟩)] 132))
 have A0 := hid (h.kept (E := fun _ => False) ((Kp.refl _ w).alloc (.cells #[.pointer (some ⟨bp, 0, none⟩)] 132)) (fun _ h => h.elim))
 have hs0 : w.heap.size ≤ (w.alloc (.cells #[.pointer (some ⟨bp, 0, none⟩)] 132)).heap.size := by simp
 clear h
 have c0 := P0.out.cell (i := 0) rfl
 go_enter Tryz.func126, Tryz.ntmps126
 go_wp2_with fail
 refine (listTest_any bp L w.heap.size ts _ A0.out P0.out (by omega)).mono ?_
 rintro e w1 (⟨xs, r, h1, ⟨v, rfl, hv⟩, a1, k1⟩ | ⟨c, r, h1, rfl, k1⟩)
 ·have H1 := hid h1; have A1 := hid a1; have K1 := hid (K0.out.trans k1); have HV := hid (hv.mono (F' := fun k => w.heap.size ≤ k) (fun k hk _ => Nat.le_trans hs0 hk))
  clear h1 a1 k1 hv c0 hs0
  go_wp2
  exact bodyPost_ret (results_tmp rfl _ _ _) rfl (gives_ok xs r H1.out ⟨v, rfl, HV.out⟩ A1.out K1.out)
 ·have H1 := hid h1; have K1 := hid (K0.out.trans k1)
  clear h1 k1 c0 hs0
  unfold failP
  go_wp2
  exact ⟨rfl, gives_bad _ _ H1.out K1.out⟩
theorem testsF_ent (args : Array Value) (w : World) : (callFunc 126 args).run Tryz.prog w = .ok (.enter 126 args) w := enters_of Tryz.func126 (by kernel_rfl) rfl args w
theorem listTests_info : (Tryz.prog.info? 69).map (fun i => (i.zero, i.size, i.bytes)) = some (some (.slice none 0 0), testsK.size, 24) := by kernel_rfl
set_option linter.unusedSimpArgs false in
set_option maxRecDepth 100000 in
set_option maxHeartbeats 4000000 in
theorem listTests_any (bp L bx : Nat) (ts : List TokP) (w : World) (h : At w bp L ts) (hx : Blk w bx 132 [.pointer (some ⟨bp, 0, none⟩)]) (hbx : bx ≠ bp) :
  Calls Tryz.prog 125 #[.pointer (some ⟨bp, 0, none⟩), .int .i64 12, .func (.func 126) #[.pointer (some ⟨bp, 0, none⟩)] #[], .func (.func 127) #[] #[.pointer (some ⟨bx, 0, none⟩)]] w (Gives bp L (onlyB bp) w (listsP ts) (ListV testsK 69 w.heap.size)) := by
 have hent := testsF_ent
 have hent2 := itemC_ent
 have hlt := h.lt
 have HA := hid h
 have HX := hid hx
 clear hx
 clear h
 go_enter Tryz.func125, Tryz.ntmps125
 go_wp2_with fail
 refine (tests_any bp L ts w HA.out).mono ?_
 rintro e w1 (⟨x, r1, h1, ⟨y, rfl, hv⟩, a1, k1⟩ | ⟨c1, r1, h1, rfl, k1⟩)
 rotate_left
 ·have KK := hid k1; have HB := hid h1
  clear h1 k1
  unfold failP
  go_wp2
  exact ⟨rfl, gives_bad _ _ (show listP (sepW wOr) 11 testsP ts = _ from then_bad HB.out) KK.out⟩
 obtain ⟨sa, sn, sc, rfl⟩ := hv.slice
 have hc : testsK.is w1 (fun k => w.heap.size ≤ k) [.slice sa sn sc] x := ⟨_, rfl, hv⟩
 clear hv
 have hb1 := building_one (T := 69) hc k1.size
 have A1 := hid (a1.kept (E := fun _ => False) ((Kp.refl _ _).alloc (.cells #[.slice sa sn sc] 69)) (fun _ h => h.elim)); have K1 := hid (k1.alloc (.cells #[.slice sa sn sc] 69)); have H1 := hid h1; have HB1 := hid hb1
 clear a1 k1 h1 hb1 hc HA
 go_upto_region 2 with fail
 have HB1 : Hid (Building testsK (w1.alloc (.cells #[.slice sa sn sc] 69)) (fun k => w.heap.size ≤ k ∧ (Value.slice (some ⟨w1.heap.size, 0, none⟩) 1 1).ownBlock ≠ some k) w.heap.size 69 (.slice (some ⟨w1.heap.size, 0, none⟩) 1 1) [x]) := HB1
 generalize w1.alloc (.cells #[.slice sa sn sc] 69) = W1 at *
 generalize w1.heap.size = g1 at *
 go_loopw [9] (fun v wr => ∃ (k : Nat) (xs : List (List TestP)) (us : List TokP), Hid (xs.length + k = 12) ∧ Hid (listsP ts = andThen (rest (sepW wOr) testsP k) (fun bs => give (xs ++ bs)) us) ∧ Hid (At wr bp L us) ∧ Hid (Kp (onlyB bp) w wr) ∧ Hid (Building testsK wr (fun k => w.heap.size ≤ k ∧ v.ownBlock ≠ some k) w.heap.size 69 v xs)) (fun v _ => 12 - lenOf v)
 case atStart => exact ⟨11, [x], r1, hid rfl, hid (show listP (sepW wOr) 11 testsP ts = _ from then_of H1.out), A1, K1, HB1⟩
 case round =>
  clear HB1 A1 K1 H1
  obtain ⟨k, xs, us, HN, HM, HA, HK, HB⟩ := hrel
  obtain ⟨ga, gc, rfl⟩ := HB.out.len
  go_wp2_with fail
  refine (itemC_any bp L bx us wr HA.out (HX.out.kept HK.out (fun h => hbx h))).mono ?_
  rintro e w2 ⟨⟨r2, h2, rfl, a2⟩ | ⟨h2, rfl, a2⟩, k2⟩
  ·have A2 := hid a2; have H2 := hid h2; have K2 := hid (HK.out.trans k2); have B2 := hid (HB.out.later k2 hlt)
   clear a2 h2 k2 HA HK HB
   by_cases hk0 : k = 0
   ·have e1 : (((xs.length : Nat) : Int) == 12) = true := by have := HN.out; simp; omega
    have HK0 := hid hk0
    clear hk0
    go_wp2_with fail
    refine (fail_any bp L r2 3 _ A2.out).mono ?_
    rintro e w3 ⟨rfl, rfl⟩
    unfold failP
    go_wp2
    refine ⟨rfl, gives_bad 3 r2 ?_ K2.out⟩
    rw [HM.out, HK0.out, then_bad (rest_full H2.out)]
   ·obtain ⟨k, rfl⟩ : ∃ k', k = k' + 1 := ⟨k - 1, by omega⟩
    have e1 : (((xs.length : Nat) : Int) == 12) = false := by have := HN.out; simp; omega
    clear hk0
    go_wp2_with fail
    refine (tests_any bp L r2 w2 A2.out).mono ?_
    rintro e w3 (⟨x, r3, h3, ⟨y, rfl, hv⟩, a3, k3⟩ | ⟨c3, r3, h3, rfl, k3⟩)
    rotate_left
    ·have KK := hid (K2.out.trans k3); have HBD := hid h3
     clear h3 k3
     unfold failP
     go_wp2
     refine ⟨rfl, gives_bad _ _ ?_ KK.out⟩
     rw [HM.out, then_bad ((rest_some H2.out _).trans (then_bad HBD.out))]
    obtain ⟨sa, sn, sc, rfl⟩ := hv.slice
    have hc : testsK.is w3 (fun k => w2.heap.size ≤ k) [.slice sa sn sc] x := ⟨_, rfl, hv⟩
    clear hv
    obtain ⟨i0, hi, hz0, hz1, hz2⟩ := info_parts' listTests_info
    obtain ⟨css, hcon, hall⟩ := B2.out.later k3 hlt
    have hown : ∀ k, (Value.slice ga xs.length gc).ownBlock = some k → k < w2.heap.size := fun k hk => (B2.out.lt hk).2
    have hbs : w.heap.size ≤ w2.heap.size := K2.out.size
    have K3 := hid (K2.out.trans k3); have A3 := hid a3; have H3 := hid h3; have hs3 := k3.size
    have HI := hid hi; have HZ0 := hid hz0; have HZ1 := hid hz1; have HZ2 := hid hz2
    have HCON := hid hcon; have HALL := hid hall; have HOW := hid hown; have HC := hid hc
    have HXL : Hid (css.length + 1 ≤ 1000000) := hid (by rw [All2.length HALL.out]; have := HN.out; omega)
    clear k3 a3 h3 hi hz0 hz1 hz2 hcon hall hown hc B2 K2 A2
    go_wp2_with (refine wpList_append_con (t := 62) (T := 69) (m := testsK.size) (B := w.heap.size) Tryz.underlying62 HI.out HZ0.out HZ1.out HZ2.out rfl (by decide) (by decide) rfl (.tmp 21) (.tmp 24) rfl _ css [.slice sa sn sc] rfl (HCON.out.of_block (fun k hk => Below.heap_alloc _ _ _ (by have := HOW.out k hk; omega))) w3.heap.size rfl (Blk.new w3 69 [.slice sa sn sc]) (testsK.len HC.out) (testsK.one HC.out) HXL.out (by rw [World.size_alloc]; omega) ?_; intro v' W4 hcon' hg hat hone; have BN := hid (building_snoc HALL.out HC.out hbs HOW.out hcon' hg hat); have KN := hid ((K3.out.alloc (.cells ([.slice sa sn sc] : List Value).toArray 69)).grown hg (fun k hk => Or.inr (own_lt HCON.out.own hk).1)); have AN := hid (A3.out.kept (E := fun k => w.heap.size ≤ k) (((Kp.refl _ w3).alloc (.cells ([.slice sa sn sc] : List Value).toArray 69)).grown hg (fun k hk => Or.inl (own_lt HCON.out.own hk).1)) (fun k hk => by have : w.heap.size ≤ k := hk; omega)); clear hcon' hg hat)
    obtain ⟨ga', gc', hv'⟩ := BN.out.len
    refine ⟨⟨k, xs ++ [x], r3, hid (by have := HN.out; simp only [List.length_append, List.length_cons, List.length_nil]; omega), hid ?_, AN, KN, BN⟩, ?_⟩
    ·rw [HM.out]
     unfold andThen give
     rw [rest_some H2.out, then_of H3.out]
     unfold andThen give
     cases rest (sepW wOr) testsP k r3 with
     | bad c z => rfl
     | ok zs z => simp
    ·rw [hv']
     have := HN.out
     simp only [lenOf, List.length_append, List.length_cons, List.length_nil]
     omega
  ·have A2 := hid a2; have H2 := hid h2; have K2 := hid (HK.out.trans k2); have B2 := hid (HB.out.later k2 hlt)
   clear a2 h2 k2 HA HK HB
   go_wp2
   refine bodyPost_ret (results_tmp rfl _ _ _) rfl (gives_ok xs us ?_ ⟨.slice ga xs.length gc, rfl, B2.out.done (fun k hk _ => hk.1) (fun k hk => hk)⟩ A2.out K2.out)
   rw [HM.out, then_of (rest_none H2.out k), List.append_nil]
   rfl
end Go.Proofs.YtilfpnkcgjonhaaGreatDoor.Ru
namespace Go.Proofs.YtilfpnkcgjonhaaGreatDoor.Ru
open Go.RowKit Go.Sort Go.Shelf Foyer.Rule Foyer.Round
def headF (f bp : Nat) : Value := .func (.func f) #[.pointer (some ⟨bp, 0, none⟩)] #[]
def headV (k f bp : Nat) : Value := .agg #[.int .i64 (k : Nat), headF f bp]
def headsL (bp : Nat) : List (List UInt8 × Value) := [(wAllow, headV 1 148 bp), (wDeny, headV 2 149 bp), (wPrice, headV 3 150 bp), (wResale, headV 4 151 bp), (wRefund, headV 5 152 bp), (wTogether, headV 6 149 bp), (wSingle, headV 7 149 bp)]
def headAt (k bp : Nat) : Value := if k = 1 then headF 148 bp else if k = 2 then headF 149 bp else if k = 3 then headF 150 bp else if k = 4 then headF 151 bp else if k = 5 then headF 152 bp else if k = 6 then headF 149 bp else if k = 7 then headF 149 bp else .nilFunc
theorem heads_at (s : List UInt8) (bp : Nat) : (entryAt s (headsL bp)).getD (.agg #[.int .i64 0, .nilFunc]) = .agg #[.int .i64 (headKind s : Nat), headAt (headKind s) bp] := by
 unfold headsL headKind
 repeat' (unfold entryAt; split; rfl)
 rfl
theorem heads_look (w : World) {b c bp : Nat} (h : MapB w b (headsL bp) c) (s : List UInt8) : (Instr.lookup 195 (.map (some b)) (.string ⟨s.toArray⟩) false).run Tryz.prog w = .ok (.agg #[.int .i64 (headKind s : Nat), headAt (headKind s) bp]) w := by
 rw [map_lookup Tryz.underlying195 Tryz.underlying9 w (z := .agg #[.int .i64 0, .nilFunc]) (by kernel_rfl) h, heads_at]
theorem head_field0 (a b : Value) (w : World) : (Instr.field 199 (.agg #[a, b]) 0).run Tryz.prog w = .ok a w := by kernel_rfl
theorem headKind_le (s : List UInt8) : headKind s ≤ 7 := by
 unfold headKind
 repeat' (split; decide)
 decide
theorem limitF_ent (args : Array Value) (w : World) : (callFunc 148 args).run Tryz.prog w = .ok (.enter 148 args) w := enters_of Tryz.func148 (by kernel_rfl) rfl args w
theorem nothingF_ent (args : Array Value) (w : World) : (callFunc 149 args).run Tryz.prog w = .ok (.enter 149 args) w := enters_of Tryz.func149 (by kernel_rfl) rfl args w
theorem priceF_ent (args : Array Value) (w : World) : (callFunc 150 args).run Tryz.prog w = .ok (.enter 150 args) w := enters_of Tryz.func150 (by kernel_rfl) rfl args w
theorem resaleF_ent (args : Array Value) (w : World) : (callFunc 151 args).run Tryz.prog w = .ok (.enter 151 args) w := enters_of Tryz.func151 (by kernel_rfl) rfl args w
theorem refundF_ent (args : Array Value) (w : World) : (callFunc 152 args).run Tryz.prog w = .ok (.enter 152 args) w := enters_of Tryz.func152 (by kernel_rfl) rfl args w
structure HeadOk (bp f k : Nat) : Prop where
 ent : ∀ args w, (callFunc f args).run Tryz.prog w = .ok (.enter f args) w
 calls : ∀ (L ib kd pos : Nat) (nm : List UInt8) (v : Value) (ts : List TokP) (w : World), At w bp L ts → Blk w ib 66 (itemCl kd nm v ⟨0, 0, 0, 0, 0⟩ pos) → bp < ib →
  Calls Tryz.prog f #[.pointer (some ⟨bp, 0, none⟩), .pointer (some ⟨ib, 0, none⟩)] w (Gives bp L (twoB bp ib) w (headRest k ts) (fun h e w' => e = .returned (.tuple #[]) ∧ Blk w' ib 66 (itemCl kd nm v h pos)))
theorem head_ok (bp : Nat) {k : Nat} (hk : k ≠ 0) (h7 : k ≤ 7) : ∃ f, headAt k bp = headF f bp ∧ HeadOk bp f k := by
 obtain rfl | rfl | rfl | rfl | rfl | rfl | rfl : k = 1 ∨ k = 2 ∨ k = 3 ∨ k = 4 ∨ k = 5 ∨ k = 6 ∨ k = 7 := by omega
 ·exact ⟨148, rfl, limitF_ent, fun L ib kd pos nm v ts w h1 h2 h3 => limit_any bp L ib kd pos nm v ts w h1 h2 h3⟩
 ·exact ⟨149, rfl, nothingF_ent, fun L ib kd pos nm v ts w h1 h2 h3 => nothing_any bp L ib kd pos nm v ts w h1 h2 h3⟩
 ·exact ⟨150, rfl, priceF_ent, fun L ib kd pos nm v ts w h1 h2 h3 => price_any bp L ib kd pos nm v ts w h1 h2 h3⟩
 ·exact ⟨151, rfl, resaleF_ent, fun L ib kd pos nm v ts w h1 h2 h3 => resale_any bp L ib kd pos nm v ts w h1 h2 h3⟩
 ·exact ⟨152, rfl, refundF_ent, fun L ib kd pos nm v ts w h1 h2 h3 => refund_any bp L ib kd pos nm v ts w h1 h2 h3⟩
 ·exact ⟨149, rfl, nothingF_ent, fun L ib kd pos nm v ts w h1 h2 h3 => nothing_any bp L ib kd pos nm v ts w h1 h2 h3⟩
 ·exact ⟨149, rfl, nothingF_ent, fun L ib kd pos nm v ts w h1 h2 h3 => nothing_any bp L ib kd pos nm v ts w h1 h2 h3⟩
set_option maxRecDepth 100000 in
set_option maxHeartbeats 2000000 in
theorem heads_any (bp : Nat) (w : World) : Calls Tryz.prog 120 #[.pointer (some ⟨bp, 0, none⟩)] w fun e w' => e = .returned (.map (some w.heap.size)) ∧ w' = w.alloc (.map (entriesOf 0 (headsL bp)).toArray 7) := by
 have hmf := makes_func
 have i0 : (Instr.mapUpdate 195 (.map (some w.heap.size)) (.string ⟨#[97, 108, 108, 111, 119]⟩) (.agg #[.int .i64 1, .func (.func 148) #[.pointer (some ⟨bp, 0, none⟩)] #[]])).run Tryz.prog (w.alloc (.map #[] 0)) = .ok () (w.alloc (.map (entriesOf 0 [(wAllow, headV 1 148 bp)]).toArray 1)) :=
  map_insert Tryz.underlying195 Tryz.underlying9 w [] wAllow (headV 1 148 bp) rfl 0 rfl _ rfl
 have i1 : (Instr.mapUpdate 195 (.map (some w.heap.size)) (.string ⟨#[100, 101, 110, 121]⟩) (.agg #[.int .i64 2, .func (.func 149) #[.pointer (some ⟨bp, 0, none⟩)] #[]])).run Tryz.prog (w.alloc (.map (entriesOf 0 [(wAllow, headV 1 148 bp)]).toArray 1)) = .ok () (w.alloc (.map (entriesOf 0 [(wAllow, headV 1 148 bp), (wDeny, headV 2 149 bp)]).toArray 2)) :=
  map_insert Tryz.underlying195 Tryz.underlying9 w [(wAllow, headV 1 148 bp)] wDeny (headV 2 149 bp) rfl 1 rfl _ rfl
 have i2 : (Instr.mapUpdate 195 (.map (some w.heap.size)) (.string ⟨#[112, 114, 105, 99, 101]⟩) (.agg #[.int .i64 3, .func (.func 150) #[.pointer (some ⟨bp, 0, none⟩)] #[]])).run Tryz.prog (w.alloc (.map (entriesOf 0 [(wAllow, headV 1 148 bp), (wDeny, headV 2 149 bp)]).toArray 2)) = .ok () (w.alloc (.map (entriesOf 0 [(wAllow, headV 1 148 bp), (wDeny, headV 2 149 bp), (wPrice, headV 3 150 bp)]).toArray 3)) :=
  map_insert Tryz.underlying195 Tryz.underlying9 w [(wAllow, headV 1 148 bp), (wDeny, headV 2 149 bp)] wPrice (headV 3 150 bp) rfl 2 rfl _ rfl
 have i3 : (Instr.mapUpdate 195 (.map (some w.heap.size)) (.string ⟨#[114, 101, 115, 97, 108, 101]⟩) (.agg #[.int .i64 4, .func (.func 151) #[.pointer (some ⟨bp, 0, none⟩)] #[]])).run Tryz.prog (w.alloc (.map (entriesOf 0 [(wAllow, headV 1 148 bp), (wDeny, headV 2 149 bp), (wPrice, headV 3 150 bp)]).toArray 3)) = .ok () (w.alloc (.map (entriesOf 0 [(wAllow, headV 1 148 bp), (wDeny, headV 2 149 bp), (wPrice, headV 3 150 bp), (wResale, headV 4 151 bp)]).toArray 4)) :=
  map_insert Tryz.underlying195 Tryz.underlying9 w [(wAllow, headV 1 148 bp), (wDeny, headV 2 149 bp), (wPrice, headV 3 150 bp)] wResale (headV 4 151 bp) rfl 3 rfl _ rfl
 have i4 : (Instr.mapUpdate 195 (.map (some w.heap.size)) (.string ⟨#[114, 101, 102, 117, 110, 100]⟩) (.agg #[.int .i64 5, .func (.func 152) #[.pointer (some ⟨bp, 0, none⟩)] #[]])).run Tryz.prog (w.alloc (.map (entriesOf 0 [(wAllow, headV 1 148 bp), (wDeny, headV 2 149 bp), (wPrice, headV 3 150 bp), (wResale, headV 4 151 bp)]).toArray 4)) = .ok () (w.alloc (.map (entriesOf 0 [(wAllow, headV 1 148 bp), (wDeny, headV 2 149 bp), (wPrice, headV 3 150 bp), (wResale, headV 4 151 bp), (wRefund, headV 5 152 bp)]).toArray 5)) :=
  map_insert Tryz.underlying195 Tryz.underlying9 w [(wAllow, headV 1 148 bp), (wDeny, headV 2 149 bp), (wPrice, headV 3 150 bp), (wResale, headV 4 151 bp)] wRefund (headV 5 152 bp) rfl 4 rfl _ rfl
 have i5 : (Instr.mapUpdate 195 (.map (some w.heap.size)) (.string ⟨#[116, 111, 103, 101, 116, 104, 101, 114]⟩) (.agg #[.int .i64 6, .func (.func 149) #[.pointer (some ⟨bp, 0, none⟩)] #[]])).run Tryz.prog (w.alloc (.map (entriesOf 0 [(wAllow, headV 1 148 bp), (wDeny, headV 2 149 bp), (wPrice, headV 3 150 bp), (wResale, headV 4 151 bp), (wRefund, headV 5 152 bp)]).toArray 5)) = .ok () (w.alloc (.map (entriesOf 0 [(wAllow, headV 1 148 bp), (wDeny, headV 2 149 bp), (wPrice, headV 3 150 bp), (wResale, headV 4 151 bp), (wRefund, headV 5 152 bp), (wTogether, headV 6 149 bp)]).toArray 6)) :=
  map_insert Tryz.underlying195 Tryz.underlying9 w [(wAllow, headV 1 148 bp), (wDeny, headV 2 149 bp), (wPrice, headV 3 150 bp), (wResale, headV 4 151 bp), (wRefund, headV 5 152 bp)] wTogether (headV 6 149 bp) rfl 5 rfl _ rfl
 have i6 : (Instr.mapUpdate 195 (.map (some w.heap.size)) (.string ⟨#[115, 105, 110, 103, 108, 101]⟩) (.agg #[.int .i64 7, .func (.func 149) #[.pointer (some ⟨bp, 0, none⟩)] #[]])).run Tryz.prog (w.alloc (.map (entriesOf 0 [(wAllow, headV 1 148 bp), (wDeny, headV 2 149 bp), (wPrice, headV 3 150 bp), (wResale, headV 4 151 bp), (wRefund, headV 5 152 bp), (wTogether, headV 6 149 bp)]).toArray 6)) = .ok () (w.alloc (.map (entriesOf 0 (headsL bp)).toArray 7)) :=
  map_insert Tryz.underlying195 Tryz.underlying9 w [(wAllow, headV 1 148 bp), (wDeny, headV 2 149 bp), (wPrice, headV 3 150 bp), (wResale, headV 4 151 bp), (wRefund, headV 5 152 bp), (wTogether, headV 6 149 bp)] wSingle (headV 7 149 bp) rfl 6 rfl _ rfl
 have hmm : (Instr.makeMap 195 none).run Tryz.prog w = .ok (.map (some w.heap.size)) (w.alloc (.map #[] 0)) := run_makeMap _ _
 go_enter Tryz.func120, Tryz.ntmps120
 go_wp2
 exact bodyPost_ret (results_tmp rfl _ _ _) rfl ⟨rfl, rfl⟩
theorem itemT_ent (args : Array Value) (w : World) : (callFunc 122 args).run Tryz.prog w = .ok (.enter 122 args) w := enters_of Tryz.func122 (by kernel_rfl) rfl args w
set_option maxRecDepth 100000 in
theorem itemT_asks (kb mb c bp : Nat) (E : Nat → Prop) (w : World) (hk : Blk w kb 195 [.map (some mb)]) (hm : MapB w mb (headsL bp) c) (h1 : ¬ E kb) (h2 : ¬ E mb) : Asks 122 #[.pointer (some ⟨kb, 0, none⟩)] (fun t => decide (headKind t.text ≠ 0)) E w := by
 intro w1 t k
 have hB := (hk.kept k h1).alloc (.cells #[.int .i64 (t.kind : Nat), .string ⟨t.text.toArray⟩, .int .i64 (t.val : Nat), .int .i64 (t.pos : Nat)] 119)
 have hM := (hm.kept k h2).kept (E := fun _ => False) ((Kp.refl _ _).alloc (.cells #[.int .i64 (t.kind : Nat), .string ⟨t.text.toArray⟩, .int .i64 (t.val : Nat), .int .i64 (t.pos : Nat)] 119)) (fun h => h)
 have h0 := hB.cell (i := 0) rfl
 have hl := heads_look _ hM t.text
 have hf := head_field0
 have e : (((headKind t.text : Nat) : Int) != 0) = decide (headKind t.text ≠ 0) := by
  by_cases h : headKind t.text = 0 <;> simp [h]
 show Calls Tryz.prog 122 #[.agg #[.int .i64 (t.kind : Nat), .string ⟨t.text.toArray⟩, .int .i64 (t.val : Nat), .int .i64 (t.pos : Nat)], .pointer (some ⟨kb, 0, none⟩)] w1 _
 have HE := hid e
 clear hB hM k hk hm h1 h2 e
 obtain ⟨m, hmk⟩ : ∃ m, headKind t.text = m := ⟨_, rfl⟩
 rw [hmk] at HE hl
 have HMK := hid hmk
 clear hmk
 obtain ⟨fv, hfv⟩ : ∃ fv, headAt m bp = fv := ⟨_, rfl⟩
 rw [hfv] at hl
 clear hfv
 go_enter Tryz.func122, Tryz.ntmps122
 go_wp2
 refine bodyPost_ret (results_tmp rfl _ _ _) rfl ⟨?_, (Kp.refl _ _).alloc _⟩
 show Ending.returned (.bool (((m : Nat) : Int) != 0)) = Ending.returned (.bool (decide (headKind t.text ≠ 0)))
 rw [HMK.out, HE.out]
end Go.Proofs.YtilfpnkcgjonhaaGreatDoor.Ru
namespace Go.Proofs.YtilfpnkcgjonhaaGreatDoor.Ru
open Go.RowKit Go.Sort Go.Shelf Foyer.Rule Foyer.Round
section
variable {P : Program} {ops : Array Oper} {md : Region.Mode} {Q : Exit → Act → World → Prop} {S : World → Prop} {N : List Nat}
theorem held_two {i j : Nat} {o o' : Oper} {f : Nat} {listed : Array Bool} {a : Act} {w : World} (hi : ops[i]? = some o) (hj : ops[j]? = some o') (hr : Region.ready md ops listed = [i, j])
  (h : ∀ K' : Act → World → Prop, RowKit.Hid (∀ a' w', (i ∉ N → S w') → held P md ops Q S N f (listed.setIfInBounds i true) a' w' → K' a' w') → if Region.wanted o (yielded ops a.tmps) = true then Oper.wp P o a w K' Q else K' (a.put o.dst undef) w)
  (h' : ∀ K' : Act → World → Prop, RowKit.Hid (∀ a' w', (j ∉ N → S w') → held P md ops Q S N f (listed.setIfInBounds j true) a' w' → K' a' w') → if Region.wanted o' (yielded ops a.tmps) = true then Oper.wp P o' a w K' Q else K' (a.put o'.dst undef) w) : held P md ops Q S N (f + 1) listed a w := by
 refine ⟨fun h0 => (by rw [hr] at h0; cases h0), fun k hk => ?_⟩
 rw [hr] at hk
 simp only [List.mem_cons, List.not_mem_nil, or_false] at hk
 rcases hk with rfl | rfl
 ·exact wpOp_step hi fun K' hK => h K' (hid fun a' w' h1 h2 => hK a' w' ⟨h1, h2⟩)
 ·exact wpOp_step hj fun K' hK => h' K' (hid fun a' w' h1 h2 => hK a' w' ⟨h1, h2⟩)
end
theorem store_func (w : World) (a : Addr) (fn : Fn) (f c : Array Value) (m : Mode) : (store a (.func fn f c) m).run Tryz.prog w = stored Tryz.prog w a (.func fn f c) m := run_store Tryz.prog w a _ m rfl
set_option linter.unusedSimpArgs false in
set_option maxRecDepth 100000 in
set_option maxHeartbeats 8000000 in
theorem item_any (bp L : Nat) (ts : List TokP) (w : World) (h : At w bp L ts) : Calls Tryz.prog 93 #[.pointer (some ⟨bp, 0, none⟩)] w (Gives bp L (onlyB bp) w (itemP ts) (KindV itemK w.heap.size)) := by
 have hlt := h.lt
 have hmf := makes_func
 have hst := store_func
 have P0 := (Blk.new w 132 [.pointer (some ⟨bp, 0, none⟩)]).alloc (.cells #[.int .i64 0, .string ⟨#[]⟩, .slice none 0 0, .int .i64 0, .int .i64 0, .int .i64 0, .int .i64 0, .int .i64 0, .int .i64 0] 66)
 have R0 := Blk.new (w.alloc (.cells #[.pointer (some ⟨bp, 0, none⟩)] 132)) 66 [.int .i64 0, .string ⟨#[]⟩, .slice none 0 0, .int .i64 0, .int .i64 0, .int .i64 0, .int .i64 0, .int .i64 0, .int .i64 0]
 rw [show (w.alloc (.cells #[.pointer (some ⟨bp, 0, none⟩)] 132)).heap.size = w.heap.size + 1 by simp] at R0
 have K0 : Kp (onlyB bp) w ((w.alloc (.cells #[.pointer (some ⟨bp, 0, none⟩)] 132)).alloc (.cells #[.int .i64 0, .string ⟨#[]⟩, .slice none 0 0, .int .i64 0, .int .i64 0, .int .i64 0, .int .i64 0, .int .i64 0, .int .i64 0] 66)) := ((Kp.refl _ _).alloc _).alloc _
 have A0 := h.kept (E := fun _ => False) (((Kp.refl _ w).alloc (.cells #[.pointer (some ⟨bp, 0, none⟩)] 132)).alloc (.cells #[.int .i64 0, .string ⟨#[]⟩, .slice none 0 0, .int .i64 0, .int .i64 0, .int .i64 0, .int .i64 0, .int .i64 0, .int .i64 0] 66)) (fun _ h => h.elim)
 have hs0 : w.heap.size + 2 ≤ ((w.alloc (.cells #[.pointer (some ⟨bp, 0, none⟩)] 132)).alloc (.cells #[.int .i64 0, .string ⟨#[]⟩, .slice none 0 0, .int .i64 0, .int .i64 0, .int .i64 0, .int .i64 0, .int .i64 0, .int .i64 0] 66)).heap.size := by simp
 clear h
 go_enter Tryz.func93, Tryz.ntmps93
 go_upto_region 1 with fail
 generalize (w.alloc (.cells #[.pointer (some ⟨bp, 0, none⟩)] 132)).alloc (.cells #[.int .i64 0, .string ⟨#[]⟩, .slice none 0 0, .int .i64 0, .int .i64 0, .int .i64 0, .int .i64 0, .int .i64 0, .int .i64 0] 66) = W0 at *
 have P0 := hid P0; have R0 := hid R0; have K0 := hid K0; have A0 := hid A0
 have cP0 := P0.out.cell (i := 0) rfl
 go_wp2_with fail
 refine (heads_any bp W0).mono ?_
 rintro e w1 ⟨rfl, rfl⟩
 go_upto_region 2 with fail
 have P1 := (P0.out.alloc (.map (entriesOf 0 (headsL bp)).toArray 7)).alloc (.cells #[.map (some W0.heap.size)] 195)
 have R1 := (R0.out.alloc (.map (entriesOf 0 (headsL bp)).toArray 7)).alloc (.cells #[.map (some W0.heap.size)] 195)
 have D1 := Blk.new (W0.alloc (.map (entriesOf 0 (headsL bp)).toArray 7)) 195 [.map (some W0.heap.size)]
 rw [show (W0.alloc (.map (entriesOf 0 (headsL bp)).toArray 7)).heap.size = W0.heap.size + 1 by simp] at D1
 have M1 : MapB ((W0.alloc (.map (entriesOf 0 (headsL bp)).toArray 7)).alloc (.cells #[.map (some W0.heap.size)] 195)) W0.heap.size (headsL bp) 7 := by
  have : MapB (W0.alloc (.map (entriesOf 0 (headsL bp)).toArray 7)) W0.heap.size (headsL bp) 7 := (MapKept.heap_alloc W0 _).1
  exact this.kept (E := fun _ => False) ((Kp.refl _ _).alloc _) (fun h => h)
 have K1 := (K0.out.alloc (.map (entriesOf 0 (headsL bp)).toArray 7)).alloc (.cells #[.map (some W0.heap.size)] 195)
 have A1 := A0.out.kept (E := fun _ => False) (((Kp.refl _ W0).alloc (.map (entriesOf 0 (headsL bp)).toArray 7)).alloc (.cells #[.map (some W0.heap.size)] 195)) (fun _ h => h.elim)
 have hs1 : W0.heap.size + 2 ≤ ((W0.alloc (.map (entriesOf 0 (headsL bp)).toArray 7)).alloc (.cells #[.map (some W0.heap.size)] 195)).heap.size := by simp
 clear P0 R0 K0 A0 cP0
 generalize (W0.alloc (.map (entriesOf 0 (headsL bp)).toArray 7)).alloc (.cells #[.map (some W0.heap.size)] 195) = W1 at *
 generalize W0.heap.size = mb at *
 have P1 := hid P1; have R1 := hid R1; have K1 := hid K1; have A1 := hid A1; have D1 := hid D1; have M1 := hid M1
 have cP0 := P1.out.cell (i := 0) rfl
 go_wp2_with fail
 refine (take_any bp L ts 122 itemT_ent #[.pointer (some ⟨mb + 1, 0, none⟩)] (fun t => decide (headKind t.text ≠ 0)) _ A1.out (itemT_asks (mb + 1) mb 7 bp _ _ D1.out M1.out (fun h => h) (fun h => h))).mono ?_
 rintro e W2 (⟨t, r2, h2, rfl, a2, k2⟩ | ⟨c2, r2, h2, rfl, k2⟩)
 rotate_left
 ·have KK := hid (K1.out.callB k2 (rfl)); have HB := hid h2
  clear h2 k2
  unfold failP
  go_wp2
  refine ⟨rfl, gives_bad _ _ ?_ KK.out⟩
  exact (then_bad (then_bad HB.out) : itemP ts = _)
 have P2 := hid (P1.out.kept k2 (fun h => by have : w.heap.size = bp := h; omega))
 have R2 := hid (R1.out.kept k2 (fun h => by have : (w.heap.size + 1) = bp := h; omega))
 have D2 := hid (D1.out.kept k2 (fun h => by have : (mb + 1) = bp := h; omega))
 have M2 := hid (M1.out.kept k2 (fun h => by have : mb = bp := h; omega))
 have K2 := hid (K1.out.callB k2 (rfl)); have A2 := hid a2; have H2 := hid h2; have hs2 := k2.size
 clear h2 a2 k2 cP0 P1 R1 D1 M1 K1 A1
 unfold tkV
 go_upto_region 3 with fail
 have X3 := Blk.new W2 119 [.int .i64 (t.kind : Nat), .string ⟨t.text.toArray⟩, .int .i64 (t.val : Nat), .int .i64 (t.pos : Nat)]
 have P3 := P2.out.alloc (.cells #[.int .i64 (t.kind : Nat), .string ⟨t.text.toArray⟩, .int .i64 (t.val : Nat), .int .i64 (t.pos : Nat)] 119)
 have R3 := R2.out.alloc (.cells #[.int .i64 (t.kind : Nat), .string ⟨t.text.toArray⟩, .int .i64 (t.val : Nat), .int .i64 (t.pos : Nat)] 119)
 have D3 := D2.out.alloc (.cells #[.int .i64 (t.kind : Nat), .string ⟨t.text.toArray⟩, .int .i64 (t.val : Nat), .int .i64 (t.pos : Nat)] 119)
 have M3 := M2.out.kept (E := fun _ => False) ((Kp.refl _ _).alloc (.cells #[.int .i64 (t.kind : Nat), .string ⟨t.text.toArray⟩, .int .i64 (t.val : Nat), .int .i64 (t.pos : Nat)] 119)) (fun h => h)
 have K3 := K2.out.alloc (.cells #[.int .i64 (t.kind : Nat), .string ⟨t.text.toArray⟩, .int .i64 (t.val : Nat), .int .i64 (t.pos : Nat)] 119)
 have A3 := A2.out.kept (E := fun _ => False) ((Kp.refl _ _).alloc (.cells #[.int .i64 (t.kind : Nat), .string ⟨t.text.toArray⟩, .int .i64 (t.val : Nat), .int .i64 (t.pos : Nat)] 119)) (fun _ h => h.elim)
 have hs3 : W2.heap.size < (W2.alloc (.cells #[.int .i64 (t.kind : Nat), .string ⟨t.text.toArray⟩, .int .i64 (t.val : Nat), .int .i64 (t.pos : Nat)] 119)).heap.size := by simp
 generalize W2.alloc (.cells #[.int .i64 (t.kind : Nat), .string ⟨t.text.toArray⟩, .int .i64 (t.val : Nat), .int .i64 (t.pos : Nat)] 119) = W3 at *
 generalize W2.heap.size = xb at *
 have P3 := hid P3
 have R3 := hid R3
 have D3 := hid D3
 have X3 := hid X3
 have M3 := hid M3
 have K3 := hid K3; have A3 := hid A3
 clear P2 R2 D2 M2 K2 A2
 have ml := heads_look _ M3.out t.text
 have hk0 : headKind t.text ≠ 0 := of_decide_eq_true (takeP_ok H2.out).2
 obtain ⟨f, hf, HOK⟩ := head_ok bp hk0 (headKind_le t.text)
 rw [hf] at ml
 unfold headF at ml
 obtain ⟨kd, hkd⟩ : ∃ kd, headKind t.text = kd := ⟨_, rfl⟩
 rw [hkd] at ml HOK
 have HKD := hid hkd; have HOK := hid HOK
 clear hkd hf hk0 M3
 have cX := X3.out.cell (i := 1) rfl
 have cD := D3.out.cell (i := 0) rfl
 go_upto_region 4 with fail
 clear cX cD ml
 have Q4 := Blk.new W3 199 [.int .i64 (kd : Nat), .func (.func f) #[.pointer (some ⟨bp, 0, none⟩)] #[]]
 have P4 := P3.out.alloc (.cells #[.int .i64 (kd : Nat), .func (.func f) #[.pointer (some ⟨bp, 0, none⟩)] #[]] 199)
 have R4 := R3.out.alloc (.cells #[.int .i64 (kd : Nat), .func (.func f) #[.pointer (some ⟨bp, 0, none⟩)] #[]] 199)
 have D4 := D3.out.alloc (.cells #[.int .i64 (kd : Nat), .func (.func f) #[.pointer (some ⟨bp, 0, none⟩)] #[]] 199)
 have X4 := X3.out.alloc (.cells #[.int .i64 (kd : Nat), .func (.func f) #[.pointer (some ⟨bp, 0, none⟩)] #[]] 199)
 have K4 := K3.out.alloc (.cells #[.int .i64 (kd : Nat), .func (.func f) #[.pointer (some ⟨bp, 0, none⟩)] #[]] 199)
 have A4 := A3.out.kept (E := fun _ => False) ((Kp.refl _ _).alloc (.cells #[.int .i64 (kd : Nat), .func (.func f) #[.pointer (some ⟨bp, 0, none⟩)] #[]] 199)) (fun _ h => h.elim)
 have hs4 : W3.heap.size < (W3.alloc (.cells #[.int .i64 (kd : Nat), .func (.func f) #[.pointer (some ⟨bp, 0, none⟩)] #[]] 199)).heap.size := by simp
 generalize W3.alloc (.cells #[.int .i64 (kd : Nat), .func (.func f) #[.pointer (some ⟨bp, 0, none⟩)] #[]] 199) = W4 at *
 generalize W3.heap.size = hb at *
 have P4 := hid P4
 have R4 := hid R4
 have D4 := hid D4
 have X4 := hid X4
 have Q4 := hid Q4
 have K4 := hid K4; have A4 := hid A4
 clear P3 R3 D3 X3  K3 A3
 go_cut [6] from 16 (fun v wx => ∃ (ib : Nat) (n : TokP) (r' : List TokP), v = .pointer (some ⟨ib, 0, none⟩) ∧ W4.heap.size ≤ ib ∧ Hid (nameT r2 = .ok n r') ∧ Hid (At wx bp L r') ∧ Hid (Kp (onlyB bp) w wx) ∧ Hid (Blk wx ib 66 [.int .i64 (kd : Nat), .string ⟨n.text.toArray⟩, .slice none 0 0, .int .i64 0, .int .i64 0, .int .i64 0, .int .i64 0, .int .i64 0, .int .i64 (t.pos : Nat)]) ∧ Hid (Blk wx w.heap.size 132 [.pointer (some ⟨bp, 0, none⟩)]) ∧ Hid (Blk wx hb 199 [.int .i64 (kd : Nat), .func (.func f) #[.pointer (some ⟨bp, 0, none⟩)] #[]]) ∧ Hid (Blk wx (w.heap.size + 1) 66 [.int .i64 0, .string ⟨#[]⟩, .slice none 0 0, .int .i64 0, .int .i64 0, .int .i64 0, .int .i64 0, .int .i64 0, .int .i64 0]) ∧ W4.heap.size ≤ wx.heap.size)
 case first =>
  rename_i J KM hRJ hMK
  refine wp_region_any (by kernel_rfl) ?_
  refine any_of_held (S := fun W => Blk W hb 199 [.int .i64 (kd : Nat), .func (.func f) #[.pointer (some ⟨bp, 0, none⟩)] #[]] ∧ Blk W w.heap.size 132 [.pointer (some ⟨bp, 0, none⟩)] ∧ Blk W xb 119 [.int .i64 (t.kind : Nat), .string ⟨t.text.toArray⟩, .int .i64 (t.val : Nat), .int .i64 (t.pos : Nat)]) (N := [9]) _ _ _ _ ?_
  have hS0 : Blk W4.drew hb 199 [.int .i64 (kd : Nat), .func (.func f) #[.pointer (some ⟨bp, 0, none⟩)] #[]] ∧ Blk W4.drew w.heap.size 132 [.pointer (some ⟨bp, 0, none⟩)] ∧ Blk W4.drew xb 119 [.int .i64 (t.kind : Nat), .string ⟨t.text.toArray⟩, .int .i64 (t.val : Nat), .int .i64 (t.pos : Nat)] := ⟨Q4.out, P4.out, X4.out⟩
  have RZ : Hid (Blk W4.drew (w.heap.size + 1) 66 [.int .i64 0, .string ⟨#[]⟩, .slice none 0 0, .int .i64 0, .int .i64 0, .int .i64 0, .int .i64 0, .int .i64 0, .int .i64 0]) := hid R4.out
  have AZ : Hid (At W4.drew bp L r2) := hid (A4.out.kept (E := fun _ => False) (Kp.refl _ _).drew (fun _ h => h.elim))
  have KZ : Hid (Kp (onlyB bp) w W4.drew) := hid K4.out.drew
  have HSD : Hid (W4.drew.heap.size = W4.heap.size) := hid rfl
  have hfd := tok_field1
  change held _ _ _ _ _ _ _ _ _ W4.drew
  generalize W4.drew = wd at *
  clear R4 A4 K4 X4 Q4 P4 D4
  refine held_take [1, 7, 9] (i := 0) (v := .pointer (some ⟨hb, 0, none⟩)) rfl (by kernel_rfl) (fun _ _ _ h => h) (Or.inl ⟨by rfl, fun w' hS => by go_simp⟩) hS0 ?_
  try simp only [Act.put, aA, aB, aC]
  refine held_take [7, 9] (i := 1) (v := .int .i64 (kd : Nat)) rfl (by kernel_rfl) (fun _ _ _ h => h) (Or.inl ⟨by rfl, fun w' hS => by have hc := hS.1.cell (i := 0) rfl; go_simp⟩) hS0 ?_
  try simp only [Act.put, aA, aB, aC]
  refine held_take [3, 4, 7, 9] (i := 2) (v := .pointer (some ⟨bp, 0, none⟩)) rfl (by kernel_rfl) (fun _ _ _ h => h) (Or.inl ⟨by rfl, fun w' hS => by have hc := hS.2.1.cell (i := 0) rfl; go_simp⟩) hS0 ?_
  try simp only [Act.put, aA, aB, aC]
  refine held_take [6, 7, 9] (i := 5) (v := .pointer (some ⟨xb, 3, none⟩)) rfl (by kernel_rfl) (fun _ _ _ h => h) (Or.inl ⟨by rfl, fun w' hS => by go_simp⟩) hS0 ?_
  try simp only [Act.put, aA, aB, aC]
  refine held_take [7, 9] (i := 6) (v := .int .i64 (t.pos : Nat)) rfl (by kernel_rfl) (fun _ _ _ h => h) (Or.inl ⟨by rfl, fun w' hS => by have hc := hS.2.2.cell (i := 3) rfl; go_simp⟩) hS0 ?_
  try simp only [Act.put, aA, aB, aC]
  refine held_two (i := 3) (j := 8) rfl rfl (by kernel_rfl) (fun K hK => ?_) (fun K hK => ?_)
  ·go_simp
   refine (name_any bp L r2 _ AZ.out).mono ?_
   rintro e w9 (⟨n, r9, h9, rfl, a9, k9⟩ | ⟨c9, r9, h9, rfl, k9⟩)
   rotate_left
   ·have KK := hid (KZ.out.callB k9 (rfl)); have HB := hid h9
    clear h9 k9
    unfold failP
    refine ⟨rfl, gives_bad _ _ ?_ KK.out⟩
    exact (then_bad ((then_of H2.out).trans (then_bad HB.out)) : itemP ts = _)
   have hS1 : Blk w9 hb 199 [.int .i64 (kd : Nat), .func (.func f) #[.pointer (some ⟨bp, 0, none⟩)] #[]] ∧ Blk w9 w.heap.size 132 [.pointer (some ⟨bp, 0, none⟩)] ∧ Blk w9 xb 119 [.int .i64 (t.kind : Nat), .string ⟨t.text.toArray⟩, .int .i64 (t.val : Nat), .int .i64 (t.pos : Nat)] := ⟨hS0.1.kept k9 (fun h => by have : hb = bp := h; omega), hS0.2.1.kept k9 (fun h => by have : w.heap.size = bp := h; omega), hS0.2.2.kept k9 (fun h => by have : xb = bp := h; omega)⟩
   have RY := hid (RZ.out.kept k9 (fun h => by have : w.heap.size + 1 = bp := h; omega))
   have KY := hid (KZ.out.callB k9 (rfl)); have AY := hid a9; have HY := hid h9; have hs9 := k9.size
   clear h9 a9 k9 RZ KZ AZ hS0
   refine hK.out _ _ (fun _ => hS1) ?_
   clear hK K
   try simp only [Act.put, aA, aB, aC]
   unfold tkV
   refine held_take [7, 9] (i := 4) (v := .string ⟨n.text.toArray⟩) rfl (by kernel_rfl) (fun _ _ _ h => h) (Or.inl ⟨by rfl, fun w' hS => by go_simp⟩) hS1 ?_
   try simp only [Act.put, aA, aB, aC]
   refine held_take [9] (i := 7) (v := .agg #[.int .i64 (kd : Nat), .string ⟨n.text.toArray⟩, .slice none 0 0, .int .i64 0, .int .i64 0, .int .i64 0, .int .i64 0, .int .i64 0, .int .i64 (t.pos : Nat)]) rfl (by kernel_rfl) (fun _ _ _ h => h) (Or.inl ⟨by rfl, fun w' hS => by go_simp⟩) hS1 ?_
   try simp only [Act.put, aA, aB, aC]
   refine held_one (i := 8) rfl (by kernel_rfl) (fun K hK => ?_)
   go_simp
   refine hK.out _ _ (fun _ => ⟨hS1.1.alloc _, hS1.2.1.alloc _, hS1.2.2.alloc _⟩) ?_
   clear hK K
   try simp only [Act.put, aA, aB, aC]
   refine held_one (i := 9) rfl (by kernel_rfl) (fun K hK => ?_)
   go_simp
   refine hK.out _ _ (fun h => absurd (by decide) h) ?_
   clear hK K
   try simp only [Act.put, aA, aB, aC]
   refine held_done (by kernel_rfl) ?_ _
   refine hMK _ _ (Met.intro (hRJ _ _ ?_))
   (repeat apply Exists.intro)
   refine ⟨?rel, rfl⟩
   have hsd := HSD.out
   refine ⟨_, n, r9, rfl, ?_, HY, ?_, ?_, ?_, ?_, ?_, ?_, ?_⟩
   ·omega
   ·exact hid (AY.out.kept (E := fun _ => False) ((Kp.refl _ _).alloc _) (fun _ h => h.elim))
   ·exact hid (KY.out.alloc _)
   ·exact hid (Blk.new w9 66 [.int .i64 (kd : Nat), .string ⟨n.text.toArray⟩, .slice none 0 0, .int .i64 0, .int .i64 0, .int .i64 0, .int .i64 0, .int .i64 0, .int .i64 (t.pos : Nat)])
   ·exact hid (hS1.2.1.alloc _)
   ·exact hid (hS1.1.alloc _)
   ·exact hid (RY.out.alloc _)
   ·rw [World.size_alloc]; omega
  ·go_simp
   have hZ : Blk (wd.alloc (.cells #[.int .i64 0, .string ⟨#[]⟩, .slice none 0 0, .int .i64 0, .int .i64 0, .int .i64 0, .int .i64 0, .int .i64 0, .int .i64 0] 66)) wd.heap.size 66 [.int .i64 0, .string ⟨#[]⟩, .slice none 0 0, .int .i64 0, .int .i64 0, .int .i64 0, .int .i64 0, .int .i64 0, .int .i64 0] := Blk.new wd 66 [.int .i64 0, .string ⟨#[]⟩, .slice none 0 0, .int .i64 0, .int .i64 0, .int .i64 0, .int .i64 0, .int .i64 0, .int .i64 0]
   have hS2 : Blk (wd.alloc (.cells #[.int .i64 0, .string ⟨#[]⟩, .slice none 0 0, .int .i64 0, .int .i64 0, .int .i64 0, .int .i64 0, .int .i64 0, .int .i64 0] 66)) hb 199 [.int .i64 (kd : Nat), .func (.func f) #[.pointer (some ⟨bp, 0, none⟩)] #[]] ∧ Blk (wd.alloc (.cells #[.int .i64 0, .string ⟨#[]⟩, .slice none 0 0, .int .i64 0, .int .i64 0, .int .i64 0, .int .i64 0, .int .i64 0, .int .i64 0] 66)) w.heap.size 132 [.pointer (some ⟨bp, 0, none⟩)] ∧ Blk (wd.alloc (.cells #[.int .i64 0, .string ⟨#[]⟩, .slice none 0 0, .int .i64 0, .int .i64 0, .int .i64 0, .int .i64 0, .int .i64 0, .int .i64 0] 66)) xb 119 [.int .i64 (t.kind : Nat), .string ⟨t.text.toArray⟩, .int .i64 (t.val : Nat), .int .i64 (t.pos : Nat)] := ⟨hS0.1.alloc _, hS0.2.1.alloc _, hS0.2.2.alloc _⟩
   have RX := hid (RZ.out.alloc (.cells #[.int .i64 0, .string ⟨#[]⟩, .slice none 0 0, .int .i64 0, .int .i64 0, .int .i64 0, .int .i64 0, .int .i64 0, .int .i64 0] 66))
   have KX := hid (KZ.out.alloc (.cells #[.int .i64 0, .string ⟨#[]⟩, .slice none 0 0, .int .i64 0, .int .i64 0, .int .i64 0, .int .i64 0, .int .i64 0, .int .i64 0] 66))
   have AX := hid (AZ.out.kept (E := fun _ => False) ((Kp.refl _ _).alloc (.cells #[.int .i64 0, .string ⟨#[]⟩, .slice none 0 0, .int .i64 0, .int .i64 0, .int .i64 0, .int .i64 0, .int .i64 0, .int .i64 0] 66)) (fun _ h => h.elim))
   have hsx : (wd.alloc (.cells #[.int .i64 0, .string ⟨#[]⟩, .slice none 0 0, .int .i64 0, .int .i64 0, .int .i64 0, .int .i64 0, .int .i64 0, .int .i64 0] 66)).heap.size = wd.heap.size + 1 := by simp
   clear RZ KZ AZ hS0
   refine hK.out _ _ (fun _ => hS2) ?_
   clear hK K
   try simp only [Act.put, aA, aB, aC]
   have HZ := hid hZ
   clear hZ
   generalize wd.alloc (.cells #[.int .i64 0, .string ⟨#[]⟩, .slice none 0 0, .int .i64 0, .int .i64 0, .int .i64 0, .int .i64 0, .int .i64 0, .int .i64 0] 66) = wa at *
   generalize wd.heap.size = ib at *
   refine held_one (i := 3) rfl (by kernel_rfl) (fun K hK => ?_)
   go_simp
   refine (name_any bp L r2 _ AX.out).mono ?_
   rintro e w9 (⟨n, r9, h9, rfl, a9, k9⟩ | ⟨c9, r9, h9, rfl, k9⟩)
   rotate_left
   ·have KK := hid (KX.out.callB k9 (rfl)); have HB := hid h9
    clear h9 k9
    unfold failP
    refine ⟨rfl, gives_bad _ _ ?_ KK.out⟩
    exact (then_bad ((then_of H2.out).trans (then_bad HB.out)) : itemP ts = _)
   have hS1 : Blk w9 hb 199 [.int .i64 (kd : Nat), .func (.func f) #[.pointer (some ⟨bp, 0, none⟩)] #[]] ∧ Blk w9 w.heap.size 132 [.pointer (some ⟨bp, 0, none⟩)] ∧ Blk w9 xb 119 [.int .i64 (t.kind : Nat), .string ⟨t.text.toArray⟩, .int .i64 (t.val : Nat), .int .i64 (t.pos : Nat)] := ⟨hS2.1.kept k9 (fun h => by have : hb = bp := h; omega), hS2.2.1.kept k9 (fun h => by have : w.heap.size = bp := h; omega), hS2.2.2.kept k9 (fun h => by have : xb = bp := h; omega)⟩
   have RY := hid (RX.out.kept k9 (fun h => by have : w.heap.size + 1 = bp := h; omega))
   have ZY := hid (HZ.out.kept k9 (fun h => by have h1 : ib = bp := h; have h2 := HSD.out; omega))
   have KY := hid (KX.out.callB k9 (rfl)); have AY := hid a9; have HY := hid h9; have hs9 := k9.size
   clear h9 a9 k9 RX KX AX HZ hS2
   refine hK.out _ _ (fun _ => hS1) ?_
   clear hK K
   try simp only [Act.put, aA, aB, aC]
   unfold tkV
   refine held_take [7, 9] (i := 4) (v := .string ⟨n.text.toArray⟩) rfl (by kernel_rfl) (fun _ _ _ h => h) (Or.inl ⟨by rfl, fun w' hS => by go_simp⟩) hS1 ?_
   try simp only [Act.put, aA, aB, aC]
   refine held_take [9] (i := 7) (v := .agg #[.int .i64 (kd : Nat), .string ⟨n.text.toArray⟩, .slice none 0 0, .int .i64 0, .int .i64 0, .int .i64 0, .int .i64 0, .int .i64 0, .int .i64 (t.pos : Nat)]) rfl (by kernel_rfl) (fun _ _ _ h => h) (Or.inl ⟨by rfl, fun w' hS => by go_simp⟩) hS1 ?_
   try simp only [Act.put, aA, aB, aC]
   have z0 := ZY.out.cell (i := 0) rfl
   have z1 := ZY.out.cell (i := 1) rfl
   have z2 := ZY.out.cell (i := 2) rfl
   have z3 := ZY.out.cell (i := 3) rfl
   have z4 := ZY.out.cell (i := 4) rfl
   have z5 := ZY.out.cell (i := 5) rfl
   have z6 := ZY.out.cell (i := 6) rfl
   have z7 := ZY.out.cell (i := 7) rfl
   have z8 := ZY.out.cell (i := 8) rfl
   have zf := ZY.out.free
   refine held_one (i := 9) rfl (by kernel_rfl) (fun K hK => ?_)
   go_simp
   refine hK.out _ _ (fun h => absurd (by decide) h) ?_
   clear hK K z0 z1 z2 z3 z4 z5 z6 z7 z8 zf
   try simp only [Act.put, aA, aB, aC]
   refine held_done (by kernel_rfl) ?_ _
   refine hMK _ _ (Met.intro (hRJ _ _ ?_))
   (repeat apply Exists.intro)
   refine ⟨?rel2, rfl⟩
   rw [setCells_nine]
   have kr := Kp.setCells (E := fun k => k = ib) (p := ib) (Or.inl rfl) [.int .i64 (kd : Nat), .string ⟨n.text.toArray⟩, .slice none 0 0, .int .i64 0, .int .i64 0, .int .i64 0, .int .i64 0, .int .i64 0, .int .i64 (t.pos : Nat)] 0 w9 (Kp.refl _ _)
   have hsd := HSD.out
   refine ⟨ib, n, r9, rfl, ?_, HY, ?_, ?_, ?_, ?_, ?_, ?_, ?_⟩
   ·omega
   ·exact hid (AY.out.result (by omega) _)
   ·exact hid (KY.out.result (by omega) _)
   ·exact hid (ZY.out.whole (vs := [.int .i64 (kd : Nat), .string ⟨n.text.toArray⟩, .slice none 0 0, .int .i64 0, .int .i64 0, .int .i64 0, .int .i64 0, .int .i64 0, .int .i64 (t.pos : Nat)]) rfl)
   ·exact hid (hS1.2.1.kept kr (fun h => by have : w.heap.size = ib := h; omega))
   ·exact hid (hS1.1.kept kr (fun h => by have : hb = ib := h; omega))
   ·exact hid (RY.out.kept kr (fun h => by have : w.heap.size + 1 = ib := h; omega))
   ·exact Nat.le_trans (by omega) kr.size
 case rest =>
  obtain ⟨ib, n, r5, rfl, hle, HN, A5, K5, V5, P5, Q5, R5, hs5⟩ := hcut
  clear P4 Q4 R4 X4 D4 K4 A4
  have hent := HOK.out.ent
  have cQ := Q5.out.cell (i := 1) rfl
  go_wp2_with fail
  refine (HOK.out.calls L ib kd t.pos n.text (.slice none 0 0) r5 _ A5.out V5.out (by omega)).mono ?_
  rintro e W6 (⟨hd, r6, h6, ⟨rfl, v6⟩, a6, k6⟩ | ⟨c6, r6, h6, rfl, k6⟩)
  rotate_left
  ·have KK := hid (K5.out.call k6 (fun k hk => hk.elim (fun h => Or.inl h) (fun h => Or.inr (by have : k = ib := h; omega)))); have HB := hid h6
   clear h6 k6
   unfold failP
   go_wp2
   refine ⟨rfl, gives_bad _ _ ?_ KK.out⟩
   exact (then_bad ((then_of H2.out).trans ((then_of HN.out).trans (by rw [HKD.out]; exact then_bad HB.out))) : itemP ts = _)
  have HF : Hid (frontP ts = .ok (t, n, hd) r6) := hid ((then_of H2.out).trans ((then_of HN.out).trans (by rw [HKD.out]; exact then_of h6)))
  have V6 : Hid (Blk W6 ib 66 [.int .i64 (kd : Nat), .string ⟨n.text.toArray⟩, .slice none 0 0, .int .i64 (hd.n : Nat), .int .i64 (hd.rn : Nat), .int .i64 (hd.rd : Nat), .int .i64 (hd.sn : Nat), .int .i64 (hd.sd : Nat), .int .i64 (t.pos : Nat)]) := hid v6
  have P6 := hid (P5.out.kept k6 (fun h => h.elim (fun h => by have : w.heap.size = bp := h; omega) (fun h => by have : w.heap.size = ib := h; omega)))
  have R6 := hid (R5.out.kept k6 (fun h => h.elim (fun h => by have : w.heap.size + 1 = bp := h; omega) (fun h => by have : w.heap.size + 1 = ib := h; omega)))
  have K6 := hid (K5.out.call k6 (fun k hk => hk.elim (fun h => Or.inl h) (fun h => Or.inr (by have : k = ib := h; omega)))); have A6 := hid a6; have hs6 := k6.size
  have hib : ib < W6.heap.size := V6.out.lt
  clear h6 v6 a6 k6 P5 Q5 R5 K5 A5 V5 HN H2 hent cQ HOK
  have cP := P6.out.cell (i := 0) rfl
  go_wp2_with fail
  refine (skip_any bp L r6 wWhen _ A6.out).mono ?_
  rintro e W7 ⟨⟨r7, h7, rfl, a7⟩ | ⟨h7, rfl, a7⟩, k7⟩
  ·have V7 := hid (V6.out.kept k7 (fun h => by have : ib = bp := h; omega))
   have P7 := hid (P6.out.kept k7 (fun h => by have : w.heap.size = bp := h; omega))
   have R7 := hid (R6.out.kept k7 (fun h => by have : w.heap.size + 1 = bp := h; omega))
   have K7 := hid (K6.out.callB k7 rfl); have A7 := hid a7; have hs7 := k7.size
   have H7 := hid h7
   clear h7 a7 k7 cP V6 P6 R6 K6 A6
   have hmf := makes_func
   have cP := P7.out.cell (i := 0) rfl
   go_wp2_with fail
   refine (listTests_any bp L w.heap.size r7 _ A7.out P7.out (by omega)).mono ?_
   rintro e W8 (⟨cs, r8, h8, ⟨lv, rfl, hlv⟩, a8, k8⟩ | ⟨c8, r8, h8, rfl, k8⟩)
   rotate_left
   ·have KK := hid (K7.out.callB k8 rfl); have HB := hid h8
    clear h8 k8
    unfold failP
    go_wp2
    refine ⟨rfl, gives_bad _ _ ?_ KK.out⟩
    exact ((then_of HF.out).trans (then_bad ((ifSep_some H7.out).trans HB.out)) : itemP ts = _)
   obtain ⟨sa, sn, sc, rfl⟩ := hlv.slice
   have V8 := hid (V7.out.kept k8 (fun h => by have : ib = bp := h; omega))
   have P8 := hid (P7.out.kept k8 (fun h => by have : w.heap.size = bp := h; omega))
   have R8 := hid (R7.out.kept k8 (fun h => by have : w.heap.size + 1 = bp := h; omega))
   have K8 := hid (K7.out.callB k8 rfl); have A8 := hid a8; have hs8 := k8.size
   have HCS : Hid (condsP r6 = .ok cs r8) := hid ((ifSep_some H7.out).trans h8)
   have LV8 := hid hlv
   clear h8 a8 k8 hlv cP V7 P7 R7 K7 A7
   have cs2 := V8.out.cell (i := 2) rfl
   have cf2 := V8.out.free 2
   go_upto_region 8 with fail
   have v9 : Blk (W8.setCell ⟨ib, 2, none⟩ (.slice sa sn sc)) ib 66 [.int .i64 (kd : Nat), .string ⟨n.text.toArray⟩, .slice sa sn sc, .int .i64 (hd.n : Nat), .int .i64 (hd.rn : Nat), .int .i64 (hd.rd : Nat), .int .i64 (hd.sn : Nat), .int .i64 (hd.sd : Nat), .int .i64 (t.pos : Nat)] := V8.out.set 2 (.slice sa sn sc)
   have p9 := P8.out.other (p := ⟨ib, 2, none⟩) (by show ¬ ib = w.heap.size; omega) (.slice sa sn sc)
   have q9 := R8.out.other (p := ⟨ib, 2, none⟩) (by show ¬ ib = w.heap.size + 1; omega) (.slice sa sn sc)
   have k9 := K8.out.setNew ib 2 (by omega) (.slice sa sn sc)
   have ks := (Kp.refl (onlyB ib) W8).setOld ib 2 rfl (.slice sa sn sc)
   have a9 := A8.out.kept (E := onlyB ib) ks (fun k hk => by have : k = ib := hk; omega)
   have l9 := LV8.out.kept (W' := W8.setCell ⟨ib, 2, none⟩ (.slice sa sn sc)) (fun q hq hlt => ks.block q hlt (fun h => by have h1 : q = ib := h; have h2 : W7.heap.size ≤ q := hq; omega))
   have hs9 : W8.heap.size ≤ (W8.setCell ⟨ib, 2, none⟩ (.slice sa sn sc)).heap.size := by simp
   clear cs2 cf2 ks V8 P8 R8 K8 A8 LV8
   generalize W8.setCell ⟨ib, 2, none⟩ (.slice sa sn sc) = W9 at *
   have V9 := hid v9; have P9 := hid p9; have R9 := hid q9; have K9 := hid k9; have A9 := hid a9; have LV9 := hid l9
   clear v9 p9 q9 k9 a9 l9
   have cP := P9.out.cell (i := 0) rfl
   go_wp2_with fail
   refine (word_any bp L r8 wSemi _ A9.out).mono ?_
   rintro e W10 (⟨u, r10, h10, rfl, a10, k10⟩ | ⟨c10, r10, h10, rfl, k10⟩)
   rotate_left
   ·have KK := hid (K9.out.callB k10 rfl); have HB := hid h10
    clear h10 k10
    unfold failP
    go_wp2
    refine ⟨rfl, gives_bad _ _ ?_ KK.out⟩
    exact ((then_of HF.out).trans ((then_of HCS.out).trans (then_bad HB.out)) : itemP ts = _)
   have V10 := hid (V9.out.kept k10 (fun h => by have : ib = bp := h; omega))
   have P10 := hid (P9.out.kept k10 (fun h => by have : w.heap.size = bp := h; omega))
   have R10 := hid (R9.out.kept k10 (fun h => by have : w.heap.size + 1 = bp := h; omega))
   have K10 := hid (K9.out.callB k10 rfl); have A10 := hid a10; have hs10 := k10.size
   have LV10 := hid (LV9.out.kept (W' := W10) (fun q hq hlt => k10.block q hlt (fun h => by have h1 : q = bp := h; have h2 : W7.heap.size ≤ q := hq; omega)))
   have H10 := hid h10
   clear h10 a10 k10 cP V9 P9 R9 K9 A9
   have x0 := V10.out.cell (i := 0) rfl
   have x1 := V10.out.cell (i := 1) rfl
   have x2 := V10.out.cell (i := 2) rfl
   have x3 := V10.out.cell (i := 3) rfl
   have x4 := V10.out.cell (i := 4) rfl
   have x5 := V10.out.cell (i := 5) rfl
   have x6 := V10.out.cell (i := 6) rfl
   have x7 := V10.out.cell (i := 7) rfl
   have x8 := V10.out.cell (i := 8) rfl
   have z0 := R10.out.cell (i := 0) rfl
   have z1 := R10.out.cell (i := 1) rfl
   have z2 := R10.out.cell (i := 2) rfl
   have z3 := R10.out.cell (i := 3) rfl
   have z4 := R10.out.cell (i := 4) rfl
   have z5 := R10.out.cell (i := 5) rfl
   have z6 := R10.out.cell (i := 6) rfl
   have z7 := R10.out.cell (i := 7) rfl
   have z8 := R10.out.cell (i := 8) rfl
   have zf := R10.out.free
   go_wp2
   rw [setCells_nine]
   have kr := Kp.setCells (E := fun q => q = w.heap.size + 1) (p := w.heap.size + 1) (Or.inl rfl) [.int .i64 (kd : Nat), .string ⟨n.text.toArray⟩, .slice sa sn sc, .int .i64 (hd.n : Nat), .int .i64 (hd.rn : Nat), .int .i64 (hd.rd : Nat), .int .i64 (hd.sn : Nat), .int .i64 (hd.sd : Nat), .int .i64 (t.pos : Nat)] 0 W10 (Kp.refl _ _)
   refine bodyPost_ret (results_cell_mid rfl _ _ (w.heap.size + 1) [.int .i64 (kd : Nat), .string ⟨n.text.toArray⟩, .slice sa sn sc, .int .i64 (hd.n : Nat), .int .i64 (hd.rn : Nat), .int .i64 (hd.rd : Nat), .int .i64 (hd.sn : Nat), .int .i64 (hd.sd : Nat), .int .i64 (t.pos : Nat)] _ rfl (R10.out.whole (vs := [.int .i64 (kd : Nat), .string ⟨n.text.toArray⟩, .slice sa sn sc, .int .i64 (hd.n : Nat), .int .i64 (hd.rn : Nat), .int .i64 (hd.rd : Nat), .int .i64 (hd.sn : Nat), .int .i64 (hd.sd : Nat), .int .i64 (t.pos : Nat)]) rfl).range Tryz.underlying66 rfl (by kernel_rfl)) rfl ?_
   refine gives_ok ⟨kd, n.text, cs, hd, t.pos⟩ r10 ?_ ⟨_, rfl, ⟨.slice sa sn sc, rfl, (LV10.out.kept (fun q hq hlt => kr.block q hlt (fun h => by have h1 : q = w.heap.size + 1 := h; have h2 : W7.heap.size ≤ q := hq; omega))).mono (fun q hq _ => by have h2 : W7.heap.size ≤ q := hq; show w.heap.size ≤ q; omega)⟩⟩ (A10.out.result (by omega) _) (K10.out.result (by omega) _)
   refine ((then_of HF.out).trans ((then_of HCS.out).trans (then_of H10.out)) : itemP ts = _).trans ?_
   show Res.ok (⟨headKind t.text, n.text, cs, hd, t.pos⟩ : ItemP) r10 = _
   rw [HKD.out]
  ·have V7 := hid (V6.out.kept k7 (fun h => by have : ib = bp := h; omega))
   have P7 := hid (P6.out.kept k7 (fun h => by have : w.heap.size = bp := h; omega))
   have R7 := hid (R6.out.kept k7 (fun h => by have : w.heap.size + 1 = bp := h; omega))
   have K7 := hid (K6.out.callB k7 rfl); have A7 := hid a7; have hs7 := k7.size
   have HCS : Hid (condsP r6 = .ok [] r6) := hid (ifSep_none h7)
   clear h7 a7 k7 cP V6 P6 R6 K6 A6
   have cP := P7.out.cell (i := 0) rfl
   go_wp2_with fail
   refine (word_any bp L r6 wSemi _ A7.out).mono ?_
   rintro e W8 (⟨u, r8, h8, rfl, a8, k8⟩ | ⟨c8, r8, h8, rfl, k8⟩)
   rotate_left
   ·have KK := hid (K7.out.callB k8 rfl); have HB := hid h8
    clear h8 k8
    unfold failP
    go_wp2
    refine ⟨rfl, gives_bad _ _ ?_ KK.out⟩
    exact ((then_of HF.out).trans ((then_of HCS.out).trans (then_bad HB.out)) : itemP ts = _)
   have V8 := hid (V7.out.kept k8 (fun h => by have : ib = bp := h; omega))
   have P8 := hid (P7.out.kept k8 (fun h => by have : w.heap.size = bp := h; omega))
   have R8 := hid (R7.out.kept k8 (fun h => by have : w.heap.size + 1 = bp := h; omega))
   have K8 := hid (K7.out.callB k8 rfl); have A8 := hid a8; have hs8 := k8.size
   have H8 := hid h8
   clear h8 a8 k8 cP V7 P7 R7 K7 A7
   have x0 := V8.out.cell (i := 0) rfl
   have x1 := V8.out.cell (i := 1) rfl
   have x2 := V8.out.cell (i := 2) rfl
   have x3 := V8.out.cell (i := 3) rfl
   have x4 := V8.out.cell (i := 4) rfl
   have x5 := V8.out.cell (i := 5) rfl
   have x6 := V8.out.cell (i := 6) rfl
   have x7 := V8.out.cell (i := 7) rfl
   have x8 := V8.out.cell (i := 8) rfl
   have z0 := R8.out.cell (i := 0) rfl
   have z1 := R8.out.cell (i := 1) rfl
   have z2 := R8.out.cell (i := 2) rfl
   have z3 := R8.out.cell (i := 3) rfl
   have z4 := R8.out.cell (i := 4) rfl
   have z5 := R8.out.cell (i := 5) rfl
   have z6 := R8.out.cell (i := 6) rfl
   have z7 := R8.out.cell (i := 7) rfl
   have z8 := R8.out.cell (i := 8) rfl
   have zf := R8.out.free
   go_wp2
   rw [setCells_nine]
   have kr := Kp.setCells (E := fun q => q = w.heap.size + 1) (p := w.heap.size + 1) (Or.inl rfl) [.int .i64 (kd : Nat), .string ⟨n.text.toArray⟩, .slice none 0 0, .int .i64 (hd.n : Nat), .int .i64 (hd.rn : Nat), .int .i64 (hd.rd : Nat), .int .i64 (hd.sn : Nat), .int .i64 (hd.sd : Nat), .int .i64 (t.pos : Nat)] 0 W8 (Kp.refl _ _)
   refine bodyPost_ret (results_cell_mid rfl _ _ (w.heap.size + 1) [.int .i64 (kd : Nat), .string ⟨n.text.toArray⟩, .slice none 0 0, .int .i64 (hd.n : Nat), .int .i64 (hd.rn : Nat), .int .i64 (hd.rd : Nat), .int .i64 (hd.sn : Nat), .int .i64 (hd.sd : Nat), .int .i64 (t.pos : Nat)] _ rfl (R8.out.whole (vs := [.int .i64 (kd : Nat), .string ⟨n.text.toArray⟩, .slice none 0 0, .int .i64 (hd.n : Nat), .int .i64 (hd.rn : Nat), .int .i64 (hd.rd : Nat), .int .i64 (hd.sn : Nat), .int .i64 (hd.sd : Nat), .int .i64 (t.pos : Nat)]) rfl).range Tryz.underlying66 rfl (by kernel_rfl)) rfl ?_
   refine gives_ok ⟨kd, n.text, [], hd, t.pos⟩ r8 ?_ ⟨_, rfl, ⟨.slice none 0 0, rfl, ⟨[], con_nil _ _ _ _, fun q hq => (by cases hq), .nil⟩⟩⟩ (A8.out.result (by omega) _) (K8.out.result (by omega) _)
   refine ((then_of HF.out).trans ((then_of HCS.out).trans (then_of H8.out)) : itemP ts = _).trans ?_
   show Res.ok (⟨headKind t.text, n.text, [], hd, t.pos⟩ : ItemP) r8 = _
   rw [HKD.out]
end Go.Proofs.YtilfpnkcgjonhaaGreatDoor.Ru
namespace Go.Proofs.YtilfpnkcgjonhaaGreatDoor.Ru
open Go.RowKit Go.Sort Go.Shelf Foyer.Rule Foyer.Round
theorem leftF_ent (args : Array Value) (w : World) : (callFunc 91 args).run Tryz.prog w = .ok (.enter 91 args) w := enters_of Tryz.func91 (by kernel_rfl) rfl args w
theorem itemF_ent (args : Array Value) (w : World) : (callFunc 93 args).run Tryz.prog w = .ok (.enter 93 args) w := enters_of Tryz.func93 (by kernel_rfl) rfl args w
theorem listItem_info : (Tryz.prog.info? 66).map (fun i => (i.zero, i.size, i.bytes)) = some (some (.agg #[.int .i64 0, .string ⟨#[]⟩, .slice none 0 0, .int .i64 0, .int .i64 0, .int .i64 0, .int .i64 0, .int .i64 0, .int .i64 0]), itemK.size, 96) := by kernel_rfl
set_option linter.unusedSimpArgs false in
set_option maxRecDepth 100000 in
set_option maxHeartbeats 4000000 in
theorem listItem_any (bp L : Nat) (ts : List TokP) (w : World) (h : At w bp L ts) :
  Calls Tryz.prog 92 #[.pointer (some ⟨bp, 0, none⟩), .int .i64 200, .func (.func 93) #[.pointer (some ⟨bp, 0, none⟩)] #[], .func (.func 91) #[.pointer (some ⟨bp, 0, none⟩)] #[]] w (Gives bp L (onlyB bp) w (listP sepL 199 itemP ts) (ListV itemK 66 w.heap.size)) := by
 have hent := itemF_ent
 have hent2 := leftF_ent
 have hlt := h.lt
 have HA := hid h
 clear h
 go_enter Tryz.func92, Tryz.ntmps92
 go_wp2_with fail
 refine (item_any bp L ts w HA.out).mono ?_
 rintro e w1 (⟨x, r1, h1, ⟨c, rfl, hc⟩, a1, k1⟩ | ⟨c1, r1, h1, rfl, k1⟩)
 rotate_left
 ·have KK := hid k1; have HB := hid h1
  clear h1 k1
  unfold failP
  go_wp2
  exact ⟨rfl, gives_bad _ _ (show listP sepL 199 itemP ts = _ from then_bad HB.out) KK.out⟩
 obtain ⟨vw, hcc, hw⟩ := hc
 obtain ⟨sa, sn, sc, rfl⟩ := hw.slice
 obtain rfl : c = [.int .i64 (x.kind : Nat), .string ⟨x.name.toArray⟩, .slice sa sn sc, .int .i64 (x.head.n : Nat), .int .i64 (x.head.rn : Nat), .int .i64 (x.head.rd : Nat), .int .i64 (x.head.sn : Nat), .int .i64 (x.head.sd : Nat), .int .i64 (x.pos : Nat)] := hcc
 have hc : itemK.is w1 (fun k => w.heap.size ≤ k) [.int .i64 (x.kind : Nat), .string ⟨x.name.toArray⟩, .slice sa sn sc, .int .i64 (x.head.n : Nat), .int .i64 (x.head.rn : Nat), .int .i64 (x.head.rd : Nat), .int .i64 (x.head.sn : Nat), .int .i64 (x.head.sd : Nat), .int .i64 (x.pos : Nat)] x := ⟨_, rfl, hw⟩
 clear hw
 have hb1 := building_one (T := 66) hc k1.size
 have A1 := hid (a1.kept (E := fun _ => False) ((Kp.refl _ _).alloc (.cells #[.int .i64 (x.kind : Nat), .string ⟨x.name.toArray⟩, .slice sa sn sc, .int .i64 (x.head.n : Nat), .int .i64 (x.head.rn : Nat), .int .i64 (x.head.rd : Nat), .int .i64 (x.head.sn : Nat), .int .i64 (x.head.sd : Nat), .int .i64 (x.pos : Nat)] 66)) (fun _ h => h.elim)); have K1 := hid (k1.alloc (.cells #[.int .i64 (x.kind : Nat), .string ⟨x.name.toArray⟩, .slice sa sn sc, .int .i64 (x.head.n : Nat), .int .i64 (x.head.rn : Nat), .int .i64 (x.head.rd : Nat), .int .i64 (x.head.sn : Nat), .int .i64 (x.head.sd : Nat), .int .i64 (x.pos : Nat)] 66)); have H1 := hid h1; have HB1 := hid hb1
 clear a1 k1 h1 hb1 hc HA
 go_upto_region 2 with fail
 have HB1 : Hid (Building itemK (w1.alloc (.cells #[.int .i64 (x.kind : Nat), .string ⟨x.name.toArray⟩, .slice sa sn sc, .int .i64 (x.head.n : Nat), .int .i64 (x.head.rn : Nat), .int .i64 (x.head.rd : Nat), .int .i64 (x.head.sn : Nat), .int .i64 (x.head.sd : Nat), .int .i64 (x.pos : Nat)] 66)) (fun k => w.heap.size ≤ k ∧ (Value.slice (some ⟨w1.heap.size, 0, none⟩) 1 1).ownBlock ≠ some k) w.heap.size 66 (.slice (some ⟨w1.heap.size, 0, none⟩) 1 1) [x]) := HB1
 generalize w1.alloc (.cells #[.int .i64 (x.kind : Nat), .string ⟨x.name.toArray⟩, .slice sa sn sc, .int .i64 (x.head.n : Nat), .int .i64 (x.head.rn : Nat), .int .i64 (x.head.rd : Nat), .int .i64 (x.head.sn : Nat), .int .i64 (x.head.sd : Nat), .int .i64 (x.pos : Nat)] 66) = W1 at *
 generalize w1.heap.size = g1 at *
 go_loopw [9] (fun v wr => ∃ (k : Nat) (xs : List ItemP) (us : List TokP), Hid (xs.length + k = 200) ∧ Hid (listP sepL 199 itemP ts = andThen (rest sepL itemP k) (fun bs => give (xs ++ bs)) us) ∧ Hid (At wr bp L us) ∧ Hid (Kp (onlyB bp) w wr) ∧ Hid (Building itemK wr (fun k => w.heap.size ≤ k ∧ v.ownBlock ≠ some k) w.heap.size 66 v xs)) (fun v _ => 200 - lenOf v)
 case atStart => exact ⟨199, [x], r1, hid rfl, hid (show listP sepL 199 itemP ts = _ from then_of H1.out), A1, K1, HB1⟩
 case round =>
  clear HB1 A1 K1 H1
  obtain ⟨k, xs, us, HN, HM, HA, HK, HB⟩ := hrel
  obtain ⟨ga, gc, rfl⟩ := HB.out.len
  go_wp2_with fail
  refine (sepL_any bp L us wr HA.out).mono ?_
  rintro e w2 ⟨⟨r2, h2, rfl, a2⟩ | ⟨h2, rfl, a2⟩, k2⟩
  ·have A2 := hid a2; have H2 := hid h2; have K2 := hid (HK.out.trans k2); have B2 := hid (HB.out.later k2 hlt)
   clear a2 h2 k2 HA HK HB
   by_cases hk0 : k = 0
   ·have e1 : (((xs.length : Nat) : Int) == 200) = true := by have := HN.out; simp; omega
    have HK0 := hid hk0
    clear hk0
    go_wp2_with fail
    refine (fail_any bp L r2 3 _ A2.out).mono ?_
    rintro e w3 ⟨rfl, rfl⟩
    unfold failP
    go_wp2
    refine ⟨rfl, gives_bad 3 r2 ?_ K2.out⟩
    rw [HM.out, HK0.out, then_bad (rest_full H2.out)]
   ·obtain ⟨k, rfl⟩ : ∃ k', k = k' + 1 := ⟨k - 1, by omega⟩
    have e1 : (((xs.length : Nat) : Int) == 200) = false := by have := HN.out; simp; omega
    clear hk0
    go_wp2_with fail
    refine (item_any bp L r2 w2 A2.out).mono ?_
    rintro e w3 (⟨x, r3, h3, ⟨c, rfl, hc⟩, a3, k3⟩ | ⟨c3, r3, h3, rfl, k3⟩)
    rotate_left
    ·have KK := hid (K2.out.trans k3); have HBD := hid h3
     clear h3 k3
     unfold failP
     go_wp2
     refine ⟨rfl, gives_bad _ _ ?_ KK.out⟩
     rw [HM.out, then_bad ((rest_some H2.out _).trans (then_bad HBD.out))]
    obtain ⟨vw, hcc, hw⟩ := hc
    obtain ⟨sa, sn, sc, rfl⟩ := hw.slice
    obtain rfl : c = [.int .i64 (x.kind : Nat), .string ⟨x.name.toArray⟩, .slice sa sn sc, .int .i64 (x.head.n : Nat), .int .i64 (x.head.rn : Nat), .int .i64 (x.head.rd : Nat), .int .i64 (x.head.sn : Nat), .int .i64 (x.head.sd : Nat), .int .i64 (x.pos : Nat)] := hcc
    have hc : itemK.is w3 (fun k => w2.heap.size ≤ k) [.int .i64 (x.kind : Nat), .string ⟨x.name.toArray⟩, .slice sa sn sc, .int .i64 (x.head.n : Nat), .int .i64 (x.head.rn : Nat), .int .i64 (x.head.rd : Nat), .int .i64 (x.head.sn : Nat), .int .i64 (x.head.sd : Nat), .int .i64 (x.pos : Nat)] x := ⟨_, rfl, hw⟩
    clear hw
    obtain ⟨i0, hi, hz0, hz1, hz2⟩ := info_parts' listItem_info
    obtain ⟨css, hcon, hall⟩ := B2.out.later k3 hlt
    have hown : ∀ k, (Value.slice ga xs.length gc).ownBlock = some k → k < w2.heap.size := fun k hk => (B2.out.lt hk).2
    have hbs : w.heap.size ≤ w2.heap.size := K2.out.size
    have K3 := hid (K2.out.trans k3); have A3 := hid a3; have H3 := hid h3; have hs3 := k3.size
    have HI := hid hi; have HZ0 := hid hz0; have HZ1 := hid hz1; have HZ2 := hid hz2
    have HCON := hid hcon; have HALL := hid hall; have HOW := hid hown; have HC := hid hc
    have HXL : Hid (css.length + 1 ≤ 1000000) := hid (by rw [All2.length HALL.out]; have := HN.out; omega)
    clear k3 a3 h3 hi hz0 hz1 hz2 hcon hall hown hc B2 K2 A2
    go_wp2_with (refine wpList_append_con (t := 27) (T := 66) (m := itemK.size) (B := w.heap.size) Tryz.underlying27 HI.out HZ0.out HZ1.out HZ2.out rfl (by decide) (by decide) rfl (.tmp 21) (.tmp 24) rfl _ css [.int .i64 (x.kind : Nat), .string ⟨x.name.toArray⟩, .slice sa sn sc, .int .i64 (x.head.n : Nat), .int .i64 (x.head.rn : Nat), .int .i64 (x.head.rd : Nat), .int .i64 (x.head.sn : Nat), .int .i64 (x.head.sd : Nat), .int .i64 (x.pos : Nat)] rfl (HCON.out.of_block (fun k hk => Below.heap_alloc _ _ _ (by have := HOW.out k hk; omega))) w3.heap.size rfl (Blk.new w3 66 [.int .i64 (x.kind : Nat), .string ⟨x.name.toArray⟩, .slice sa sn sc, .int .i64 (x.head.n : Nat), .int .i64 (x.head.rn : Nat), .int .i64 (x.head.rd : Nat), .int .i64 (x.head.sn : Nat), .int .i64 (x.head.sd : Nat), .int .i64 (x.pos : Nat)]) (itemK.len HC.out) (itemK.one HC.out) HXL.out (by rw [World.size_alloc]; omega) ?_; intro v' W4 hcon' hg hat hone; have BN := hid (building_snoc HALL.out HC.out hbs HOW.out hcon' hg hat); have KN := hid ((K3.out.alloc (.cells ([.int .i64 (x.kind : Nat), .string ⟨x.name.toArray⟩, .slice sa sn sc, .int .i64 (x.head.n : Nat), .int .i64 (x.head.rn : Nat), .int .i64 (x.head.rd : Nat), .int .i64 (x.head.sn : Nat), .int .i64 (x.head.sd : Nat), .int .i64 (x.pos : Nat)] : List Value).toArray 66)).grown hg (fun k hk => Or.inr (own_lt HCON.out.own hk).1)); have AN := hid (A3.out.kept (E := fun k => w.heap.size ≤ k) (((Kp.refl _ w3).alloc (.cells ([.int .i64 (x.kind : Nat), .string ⟨x.name.toArray⟩, .slice sa sn sc, .int .i64 (x.head.n : Nat), .int .i64 (x.head.rn : Nat), .int .i64 (x.head.rd : Nat), .int .i64 (x.head.sn : Nat), .int .i64 (x.head.sd : Nat), .int .i64 (x.pos : Nat)] : List Value).toArray 66)).grown hg (fun k hk => Or.inl (own_lt HCON.out.own hk).1)) (fun k hk => by have : w.heap.size ≤ k := hk; omega)); clear hcon' hg hat)
    obtain ⟨ga', gc', hv'⟩ := BN.out.len
    refine ⟨⟨k, xs ++ [x], r3, hid (by have := HN.out; simp only [List.length_append, List.length_cons, List.length_nil]; omega), hid ?_, AN, KN, BN⟩, ?_⟩
    ·rw [HM.out]
     unfold andThen give
     rw [rest_some H2.out, then_of H3.out]
     unfold andThen give
     cases rest sepL itemP k r3 with
     | bad c z => rfl
     | ok zs z => simp
    ·rw [hv']
     have := HN.out
     simp only [lenOf, List.length_append, List.length_cons, List.length_nil]
     omega
  ·have A2 := hid a2; have H2 := hid h2; have K2 := hid (HK.out.trans k2); have B2 := hid (HB.out.later k2 hlt)
   clear a2 h2 k2 HA HK HB
   go_wp2
   refine bodyPost_ret (results_tmp rfl _ _ _) rfl (gives_ok xs us ?_ ⟨.slice ga xs.length gc, rfl, B2.out.done (fun k hk _ => hk.1) (fun k hk => hk)⟩ A2.out K2.out)
   rw [HM.out, then_of (rest_none H2.out k), List.append_nil]
   rfl
def ItemsV (n : Nat) (xs : List ItemP) (e : Ending) (w' : World) : Prop := ∃ v, e = .returned (.agg #[v]) ∧ IsList itemK w' (fun k => n ≤ k) 66 v xs
theorem nil_is {α : Type} (K : Kind α) (W : World) (F : Nat → Prop) (T : TypeId) : IsList K W F T (.slice none 0 0) [] := ⟨[], con_nil _ _ _ _, fun q hq => (by cases hq), .nil⟩
theorem setCells_one (w : World) (b : Nat) (v0 : Value) : w.setCell ⟨b, 0, none⟩ v0 = w.setCells b 0 [v0] := rfl
set_option maxRecDepth 100000 in
set_option maxHeartbeats 2000000 in
theorem rules_any (bp L : Nat) (ts : List TokP) (w : World) (h : At w bp L ts) : Calls Tryz.prog 62 #[.pointer (some ⟨bp, 0, none⟩)] w (Gives bp L (onlyB bp) w (rulesP ts) (ItemsV w.heap.size)) := by
 have hmf := makes_func
 have hlt := h.lt
 have R0 := (Blk.new w 29 [.slice none 0 0]).alloc (.cells #[.slice none 0 0] 29)
 have V0 := Blk.new (w.alloc (.cells #[.slice none 0 0] 29)) 29 [.slice none 0 0]
 rw [show (w.alloc (.cells #[.slice none 0 0] 29)).heap.size = w.heap.size + 1 by simp] at V0
 have K0 : Kp (onlyB bp) w ((w.alloc (.cells #[.slice none 0 0] 29)).alloc (.cells #[.slice none 0 0] 29)) := ((Kp.refl _ _).alloc _).alloc _
 have A0 := h.kept (E := fun _ => False) (((Kp.refl _ w).alloc (.cells #[.slice none 0 0] 29)).alloc (.cells #[.slice none 0 0] 29)) (fun _ h => h.elim)
 have hs0 : w.heap.size + 2 ≤ ((w.alloc (.cells #[.slice none 0 0] 29)).alloc (.cells #[.slice none 0 0] 29)).heap.size := by simp
 clear h
 go_enter Tryz.func62, Tryz.ntmps62
 go_upto_region 2 with fail
 generalize (w.alloc (.cells #[.slice none 0 0] 29)).alloc (.cells #[.slice none 0 0] 29) = W0 at *
 have R0 := hid R0; have V0 := hid V0; have K0 := hid K0; have A0 := hid A0
 go_wp2_with fail
 refine (left_any bp L ts _ A0.out _ rfl).mono ?_
 rintro e w1 ⟨rfl, rfl⟩
 cases ts with
 | nil =>
  have x0 := V0.out.cell (i := 0) rfl
  have z0 := R0.out.cell (i := 0) rfl
  have zf := R0.out.free
  go_wp2
  rw [setCells_one]
  refine bodyPost_ret (results_cell_mid rfl _ _ w.heap.size [.slice none 0 0] _ rfl (R0.out.whole (vs := [.slice none 0 0]) rfl).range Tryz.underlying29 rfl (by kernel_rfl)) rfl ?_
  exact gives_ok [] [] rfl ⟨_, rfl, nil_is _ _ _ _⟩ (A0.out.result (by omega) _) (K0.out.result (by omega) _)
 | cons t r =>
  have e1 : decide (t :: r ≠ []) = true := by simp
  rw [e1]
  clear e1
  go_wp2_with fail
  refine (listItem_any bp L (t :: r) _ A0.out).mono ?_
  rintro e w2 (⟨xs, r2, h2, ⟨v, rfl, hv⟩, a2, k2⟩ | ⟨c2, r2, h2, rfl, k2⟩)
  rotate_left
  ·have KK := hid (K0.out.trans k2); have HB := hid h2
   clear h2 k2
   unfold failP
   go_wp2
   exact ⟨rfl, gives_bad _ _ (((rest_some (sep := sepL) rfl 199).trans HB.out) : rulesP (t :: r) = _) KK.out⟩
  obtain ⟨sa, sn, sc, rfl⟩ := hv.slice
  have R2 := hid (R0.out.kept k2 (fun h => by have : w.heap.size = bp := h; omega))
  have V2 := hid (V0.out.kept k2 (fun h => by have : w.heap.size + 1 = bp := h; omega))
  have K2 := hid (K0.out.trans k2); have A2 := hid a2; have H2 := hid h2; have HV := hid hv; have hs2 := k2.size
  clear h2 a2 k2 hv R0 V0 K0 A0
  have x0 := V2.out.cell (i := 0) rfl
  have xf := V2.out.free 0
  go_upto_region 4 with fail
  have v3 : Blk (w2.setCell ⟨w.heap.size + 1, 0, none⟩ (.slice sa sn sc)) (w.heap.size + 1) 29 [.slice sa sn sc] := V2.out.set 0 (.slice sa sn sc)
  have r3 := R2.out.other (p := ⟨w.heap.size + 1, 0, none⟩) (by show ¬ w.heap.size + 1 = w.heap.size; omega) (.slice sa sn sc)
  have ks := (Kp.refl (onlyB (w.heap.size + 1)) w2).setOld (w.heap.size + 1) 0 rfl (.slice sa sn sc)
  have k3 := K2.out.setNew (w.heap.size + 1) 0 (by omega) (.slice sa sn sc)
  have a3 := A2.out.kept (E := onlyB (w.heap.size + 1)) ks (fun k hk => by have : k = w.heap.size + 1 := hk; omega)
  have l3 := HV.out.kept (W' := w2.setCell ⟨w.heap.size + 1, 0, none⟩ (.slice sa sn sc)) (fun q hq hlt => ks.block q hlt (fun h => by have h1 : q = w.heap.size + 1 := h; have h2 : w1.heap.size ≤ q := hq; omega))
  clear x0 xf ks R2 V2 K2 A2 HV
  generalize w2.setCell ⟨w.heap.size + 1, 0, none⟩ (.slice sa sn sc) = W3 at *
  have y0 := v3.cell (i := 0) rfl
  have z0 := r3.cell (i := 0) rfl
  have zf := r3.free
  have R3 := hid r3; have K3 := hid k3; have A3 := hid a3; have L3 := hid l3
  clear v3 r3 k3 a3 l3
  go_wp2
  rw [setCells_one]
  have kr := Kp.setCells (E := fun q => q = w.heap.size) (p := w.heap.size) (Or.inl rfl) [.slice sa sn sc] 0 W3 (Kp.refl _ _)
  refine bodyPost_ret (results_cell_mid rfl _ _ w.heap.size [.slice sa sn sc] _ rfl (R3.out.whole (vs := [.slice sa sn sc]) rfl).range Tryz.underlying29 rfl (by kernel_rfl)) rfl ?_
  refine gives_ok xs r2 (((rest_some (sep := sepL) rfl 199).trans H2.out) : rulesP (t :: r) = _) ⟨_, rfl, ?_⟩ (A3.out.result (by omega) _) (K3.out.result (by omega) _)
  exact (L3.out.kept (fun q hq hlt => kr.block q hlt (fun h => by have h1 : q = w.heap.size := h; have h2 : w1.heap.size ≤ q := hq; omega))).mono (fun q hq _ => by have h2 : w1.heap.size ≤ q := hq; show w.heap.size ≤ q; omega)
end Go.Proofs.YtilfpnkcgjonhaaGreatDoor.Ru
namespace Go.Proofs.YtilfpnkcgjonhaaGreatDoor.Ru
open Go.RowKit Go.Sort Go.Shelf Foyer.Rule Foyer.Round
theorem assert_nil (w : World) : (Instr.typeAssert .nilIface 20 130 true).run Tryz.prog w = .ok (.tuple #[.agg #[.int .i64 0, .int .i64 0], .bool false]) w := by kernel_rfl
theorem assert_failure (v : Value) (w : World) : (Instr.typeAssert (.iface 130 v) 20 130 true).run Tryz.prog w = .ok (.tuple #[v, .bool true]) w := by kernel_rfl
set_option maxRecDepth 100000 in
theorem parseC_idle (hb eb ab : Nat) (w : World) :
  CallsD Tryz.prog 61 #[.pointer (some ⟨hb, 0, none⟩), .pointer (some ⟨eb, 0, none⟩), .pointer (some ⟨ab, 0, none⟩)] .returning w fun e u' w' =>
   e = .returned (.tuple #[]) ∧ u' = .returning ∧ w' = w.alloc (.cells #[.int .i64 0, .int .i64 0] 130) := by
 have h1 := assert_nil
 refine callsD_of_wpS Tryz.func61 rfl fun c₀ cs hu => ?_
 apply wpS_seq
 apply wpS_region
 simp [wpOpsS, go_sem, recoverD, hu, Tryz.ntmps61, Exit.thenS, h1]
 apply wpS_seq
 apply wpS_region
 simp [wpOpsS, go_sem, Exit.thenS]
 refine wpS_cond (t := false) (by simp [Act.eval]) ?_
 simp only [Bool.false_eq_true, if_false]
 refine wpS_of_wp (wp_skip ?_)
 cases c₀
 simp_all [bodyPostS, results, Tryz.results61]
set_option linter.unusedSimpArgs false in
set_option maxRecDepth 100000 in
set_option maxHeartbeats 2000000 in
theorem parseC_failed (hb eb ab E A : Nat) (w : World) (c0 d0 d1 : Value) (hh : Blk w hb 29 [c0]) (he : Blk w eb 33 [d0]) (ha : Blk w ab 3 [d1]) (h12 : hb < eb) (h23 : eb < ab) :
  CallsD Tryz.prog 61 #[.pointer (some ⟨hb, 0, none⟩), .pointer (some ⟨eb, 0, none⟩), .pointer (some ⟨ab, 0, none⟩)] (.panicking [{ v := .iface 130 (.agg #[.int .i64 (E : Nat), .int .i64 (A : Nat)]), recovered := false }]) w fun e u' w' =>
   e = .returned (.tuple #[]) ∧ u' = .panicking [{ v := .iface 130 (.agg #[.int .i64 (E : Nat), .int .i64 (A : Nat)]), recovered := true }] ∧
    Blk w' hb 29 [.slice none 0 0] ∧ Blk w' eb 33 [.int .i64 (E : Nat)] ∧ Blk w' ab 3 [.int .i64 (A : Nat)] ∧ Kp (fun k => k = hb ∨ k = eb ∨ k = ab) w w' := by
 have h1 := assert_failure
 refine callsD_of_wpS Tryz.func61 rfl fun c₀ cs hu => ?_
 apply wpS_seq
 apply wpS_region
 simp [wpOpsS, go_sem, recoverD, hu, Tryz.ntmps61, Exit.thenS, h1]
 have hh2 := hh.alloc (.cells #[.int .i64 (E : Nat), .int .i64 (A : Nat)] 130)
 have he2 := he.alloc (.cells #[.int .i64 (E : Nat), .int .i64 (A : Nat)] 130)
 have ha2 := ha.alloc (.cells #[.int .i64 (E : Nat), .int .i64 (A : Nat)] 130)
 have hx2 := Blk.new w 130 [.int .i64 (E : Nat), .int .i64 (A : Nat)]
 have hk2 := (Kp.refl (fun k => k = hb ∨ k = eb ∨ k = ab) w).alloc (.cells #[.int .i64 (E : Nat), .int .i64 (A : Nat)] 130)
 apply wpS_seq
 apply wpS_region
 simp [wpOpsS, go_sem, Exit.thenS]
 refine wpS_cond (t := true) (by simp [Act.eval]) ?_
 simp only [if_true]
 have hw := ha.lt
 refine wpS_of_wp ?_
 obtain ⟨W, hW⟩ : ∃ W, w.alloc (.cells #[.int .i64 (E : Nat), .int .i64 (A : Nat)] 130) = W := ⟨_, rfl⟩
 rw [hW] at hh2 he2 ha2 hx2 hk2 ⊢
 refine wp_region_any (by kernel_rfl) ?_
 have hl := hx2.lt
 have hS0 : Blk W.drew w.heap.size 130 [.int .i64 (E : Nat), .int .i64 (A : Nat)] := hx2
 have hh0 : Blk W.drew hb 29 [c0] := hh2
 have he0 : Blk W.drew eb 33 [d0] := he2
 have ha0 : Blk W.drew ab 3 [d1] := ha2
 have hk0 : Kp (fun k => k = hb ∨ k = eb ∨ k = ab) w W.drew := hk2.drew
 refine any_of_held (S := fun V => Blk V w.heap.size 130 [.int .i64 (E : Nat), .int .i64 (A : Nat)]) (N := []) _ _ _ _ ?_
 change held _ _ _ _ _ _ _ _ _ W.drew
 obtain ⟨wa, hwa⟩ : ∃ wa, W.drew = wa := ⟨_, rfl⟩
 rw [hwa] at hS0 hh0 he0 ha0 hk0 ⊢
 have z0 := hh0.cell (i := 0) rfl
 have zf := hh0.free
 have HK := hid hk0; have HH := hid hh0; have HE := hid he0; have HA := hid ha0
 clear hwa hh2 he2 ha2 hx2 hk2 hW hh he ha hh0 he0 ha0 hk0
 refine held_take [] (i := 0) (v := .agg #[.slice none 0 0]) rfl (by kernel_rfl) (fun _ _ _ h => h) (Or.inl ⟨by rfl, fun w' hS => by go_simp⟩) hS0 ?_
 try simp only [Act.put, aA, aB, aC]
 refine held_take [] (i := 1) (v := .pointer (some ⟨w.heap.size, 0, none⟩)) rfl (by kernel_rfl) (fun _ _ _ h => h) (Or.inl ⟨by rfl, fun w' hS => by go_simp⟩) hS0 ?_
 try simp only [Act.put, aA, aB, aC]
 refine held_take [] (i := 2) (v := .int .i64 (E : Nat)) rfl (by kernel_rfl) (fun _ _ _ h => h) (Or.inl ⟨by rfl, fun w' hS => by have hc := hS.cell (i := 0) rfl; go_simp⟩) hS0 ?_
 try simp only [Act.put, aA, aB, aC]
 refine held_take [] (i := 3) (v := .pointer (some ⟨w.heap.size, 1, none⟩)) rfl (by kernel_rfl) (fun _ _ _ h => h) (Or.inl ⟨by rfl, fun w' hS => by go_simp⟩) hS0 ?_
 try simp only [Act.put, aA, aB, aC]
 refine held_take [] (i := 4) (v := .int .i64 (A : Nat)) rfl (by kernel_rfl) (fun _ _ _ h => h) (Or.inl ⟨by rfl, fun w' hS => by have hc := hS.cell (i := 1) rfl; go_simp⟩) hS0 ?_
 try simp only [Act.put, aA, aB, aC]
 refine held_one (i := 5) rfl (by kernel_rfl) (fun K hK => ?_)
 go_simp
 rw [setCells_one]
 have K1 := Kp.setCells (E := onlyB hb) (p := hb) (Or.inl rfl) [.slice none 0 0] 0 wa (Kp.refl _ _)
 have S1 := hS0.kept K1 (fun h => by have : w.heap.size = hb := h; omega)
 have E1 := HE.out.kept K1 (fun h => by have : eb = hb := h; omega)
 have A1 := HA.out.kept K1 (fun h => by have : ab = hb := h; omega)
 have H1 := HH.out.whole (vs := [.slice none 0 0]) rfl
 have KK1 := HK.out.call K1 (fun k hk => Or.inl (Or.inl hk))
 refine hK.out _ _ (fun _ => S1) ?_
 clear hK K z0 zf K1
 generalize wa.setCells hb 0 [.slice none 0 0] = wb at *
 try simp only [Act.put, aA, aB, aC]
 have e0 := E1.cell (i := 0) rfl
 have ef := E1.free 0
 refine held_one (i := 6) rfl (by kernel_rfl) (fun K hK => ?_)
 go_simp
 have S2 := S1.other (p := ⟨eb, 0, none⟩) (by show ¬ eb = w.heap.size; omega) (.int .i64 (E : Nat))
 have E2 := E1.set 0 (.int .i64 (E : Nat))
 have A2 := A1.other (p := ⟨eb, 0, none⟩) (by show ¬ eb = ab; omega) (.int .i64 (E : Nat))
 have H2 := H1.other (p := ⟨eb, 0, none⟩) (by show ¬ eb = hb; omega) (.int .i64 (E : Nat))
 have KK2 := KK1.setOld eb 0 (Or.inr (Or.inl rfl)) (.int .i64 (E : Nat))
 refine hK.out _ _ (fun _ => S2) ?_
 clear hK K e0 ef
 generalize wb.setCell ⟨eb, 0, none⟩ (.int .i64 (E : Nat)) = wc at *
 try simp only [Act.put, aA, aB, aC]
 have a0 := A2.cell (i := 0) rfl
 have af := A2.free 0
 refine held_one (i := 7) rfl (by kernel_rfl) (fun K hK => ?_)
 go_simp
 have S3 := S2.other (p := ⟨ab, 0, none⟩) (by show ¬ ab = w.heap.size; omega) (.int .i64 (A : Nat))
 have E3 := E2.other (p := ⟨ab, 0, none⟩) (by show ¬ ab = eb; omega) (.int .i64 (A : Nat))
 have A3 := A2.set 0 (.int .i64 (A : Nat))
 have H3 := H2.other (p := ⟨ab, 0, none⟩) (by show ¬ ab = hb; omega) (.int .i64 (A : Nat))
 have KK3 := KK2.setOld ab 0 (Or.inr (Or.inr rfl)) (.int .i64 (A : Nat))
 refine hK.out _ _ (fun _ => S3) ?_
 clear hK K a0 af
 generalize wc.setCell ⟨ab, 0, none⟩ (.int .i64 (A : Nat)) = wd at *
 try simp only [Act.put, aA, aB, aC]
 refine held_done (by kernel_rfl) ?_ _
 exact ⟨rfl, _, rfl, _, by simp [results, Tryz.results61], rfl, rfl, H3, E3, A3, KK3⟩
def ToksV (n : Nat) (x : List ItemP × Nat × Nat) (e : Ending) (w' : World) : Prop := ∃ v, e = .returned (.tuple #[.agg #[v], .int .i64 (x.2.1 : Nat), .int .i64 (x.2.2 : Nat)]) ∧ IsList itemK w' (fun k => n ≤ k) 66 v x.1
theorem parse_fail {ts r : List TokP} {c : Nat} (h : rulesP ts = .bad c r) (n : Nat) : parseToks ts n = ([], failAt c n r) := by unfold parseToks; rw [h]
theorem parse_ok {ts r : List TokP} {xs : List ItemP} (h : rulesP ts = .ok xs r) (n : Nat) : parseToks ts n = (xs, 0, 0) := by unfold parseToks; rw [h]
set_option maxRecDepth 100000 in
set_option maxHeartbeats 4000000 in
theorem toks_any (ts : List TokP) (p : Option Addr) (n cap L : Nat) (w : World) (hr : RdT w p ts) (hn : ts.length = n) (hc : n ≤ cap) (hm : cap ≤ maxLen) (hp : p = none → cap = 0) (hsh : ∀ t ∈ ts, t.text.length ≤ 1000000) :
  Calls Tryz.prog 37 #[.slice p n cap, .int .i64 (L : Nat)] w fun e w' => ToksV w.heap.size (parseToks ts L) e w' ∧ Kp (fun _ => False) w w' := by
 have hmf := makes_func
 subst hn
 have x1 := (((Blk.new w 29 [.slice none 0 0]).alloc (.cells #[.int .i64 0] 33)).alloc (.cells #[.int .i64 0] 3)).alloc (.cells #[.slice p ts.length cap, .int .i64 (L : Nat)] 134)
 have x2 := ((Blk.new (w.alloc (.cells #[.slice none 0 0] 29)) 33 [.int .i64 0]).alloc (.cells #[.int .i64 0] 3)).alloc (.cells #[.slice p ts.length cap, .int .i64 (L : Nat)] 134)
 have x3 := (Blk.new ((w.alloc (.cells #[.slice none 0 0] 29)).alloc (.cells #[.int .i64 0] 33)) 3 [.int .i64 0]).alloc (.cells #[.slice p ts.length cap, .int .i64 (L : Nat)] 134)
 have x4 := Blk.new (((w.alloc (.cells #[.slice none 0 0] 29)).alloc (.cells #[.int .i64 0] 33)).alloc (.cells #[.int .i64 0] 3)) 134 [.slice p ts.length cap, .int .i64 (L : Nat)]
 have k0 := ((((Kp.refl (fun _ => False) w).alloc (.cells #[.slice none 0 0] 29)).alloc (.cells #[.int .i64 0] 33)).alloc (.cells #[.int .i64 0] 3)).alloc (.cells #[.slice p ts.length cap, .int .i64 (L : Nat)] 134)
 have hs0 : w.heap.size + 4 ≤ ((((w.alloc (.cells #[.slice none 0 0] 29)).alloc (.cells #[.int .i64 0] 33)).alloc (.cells #[.int .i64 0] 3)).alloc (.cells #[.slice p ts.length cap, .int .i64 (L : Nat)] 134)).heap.size := by simp
 simp only [World.size_alloc] at x2 x3 x4
 go_enter_defers Tryz.func37, Tryz.ntmps37
 go_upto_region 3 with fail
 generalize ((((w.alloc (.cells #[.slice none 0 0] 29)).alloc (.cells #[.int .i64 0] 33)).alloc (.cells #[.int .i64 0] 3)).alloc (.cells #[.slice p ts.length cap, .int .i64 (L : Nat)] 134)) = W0 at *
 have a0 : At W0 (w.heap.size + 1 + 1 + 1) L ts := by
  refine ⟨p, cap, x4, hr.imp id ?_, hc, hm, hp, hsh⟩
  rintro ⟨b, off, rfl, hb, ht⟩
  exact ⟨b, off, rfl, by omega, fun j t hj => (ht j t hj).kept k0 (fun h => h)⟩
 have X1 := hid x1; have X2 := hid x2; have X3 := hid x3; have K0 := hid k0; have A0 := hid a0
 clear x1 x2 x3 x4 k0 a0 hr hp hm hc hsh
 have i1 : w.heap.size < w.heap.size + 1 := by omega
 have i2 : w.heap.size + 1 < w.heap.size + 1 + 1 := by omega
 have i3 : w.heap.size + 1 + 1 < w.heap.size + 1 + 1 + 1 := by omega
 have i4 : w.heap.size + 1 + 1 + 1 < W0.heap.size := by omega
 clear hs0
 generalize w.heap.size + 1 + 1 + 1 = bp at *
 generalize w.heap.size + 1 + 1 = ab at *
 generalize w.heap.size + 1 = eb at *
 go_wp2_with fail
 refine (rules_any bp L ts W0 A0.out).mono ?_
 rintro e W1 (⟨xs, r, h1, ⟨v, rfl, hv⟩, a1, k1⟩ | ⟨c, r, h1, rfl, k1⟩)
 rotate_left
 ·have Y1 := hid (X1.out.kept k1 (fun h => by have : w.heap.size = bp := h; omega)); have Y2 := hid (X2.out.kept k1 (fun h => by have : eb = bp := h; omega)); have Y3 := hid (X3.out.kept k1 (fun h => by have : ab = bp := h; omega))
  have KK := hid (K0.out.call k1 (fun k hk => Or.inr (by have : k = bp := hk; omega))); have H1 := hid h1
  clear h1 k1 X1 X2 X3 K0 A0
  unfold failP
  go_wp2
  refine leaves_cons (f := 61) (args := #[.pointer (some ⟨w.heap.size, 0, none⟩), .pointer (some ⟨eb, 0, none⟩), .pointer (some ⟨ab, 0, none⟩)]) (by simp) (by simp [go_sem]) ?_
  refine (parseC_failed w.heap.size eb ab _ _ _ _ _ _ Y1.out Y2.out Y3.out (by omega) (by omega)).mono ?_
  rintro e u' w'' ⟨rfl, rfl, hH, hE, hA, hk⟩
  have c0 := hH.cell (i := 0) rfl
  have c4 := hE.cell (i := 0) rfl
  have c5 := hA.cell (i := 0) rfl
  have kk : Kp (fun _ => False) w w'' := KK.out.call hk (fun k hk => Or.inr (by rcases hk with h | h | h <;> omega))
  clear hH hE hA hk
  simp [Leaves, settle, results, Tryz.results37, c0, c4, c5, go_sem]
  exact ⟨⟨_, by rw [parse_fail H1.out], by rw [parse_fail H1.out]; exact nil_is _ _ _ _⟩, kk⟩
 obtain ⟨sa, sn, sc, rfl⟩ := hv.slice
 have Z1 := hid (X1.out.kept k1 (fun h => by have : w.heap.size = bp := h; omega)); have Z2 := hid (X2.out.kept k1 (fun h => by have : eb = bp := h; omega)); have Z3 := hid (X3.out.kept k1 (fun h => by have : ab = bp := h; omega))
 have KK := hid (K0.out.call k1 (fun k hk => Or.inr (by have : k = bp := hk; omega))); have H1 := hid h1; have HV := hid hv; have hz := k1.size
 clear h1 k1 a1 hv X1 X2 X3 K0 A0
 have c0 := Z1.out.cell (i := 0) rfl
 have cf := Z1.out.free
 have c4 := Z2.out.cell (i := 0) rfl
 have cf4 := Z2.out.free
 have c5 := Z3.out.cell (i := 0) rfl
 have cf5 := Z3.out.free
 have hne1 : ¬ w.heap.size = eb := by omega
 have hne2 : ¬ w.heap.size = ab := by omega
 have hne3 : ¬ eb = ab := by omega
 go_wp2
 refine leaves_cons (f := 61) (args := #[.pointer (some ⟨w.heap.size, 0, none⟩), .pointer (some ⟨eb, 0, none⟩), .pointer (some ⟨ab, 0, none⟩)]) (by simp) (by simp [go_sem]) ?_
 refine (parseC_idle w.heap.size eb ab _).mono ?_
 rintro e u' w'' ⟨rfl, rfl, rfl⟩
 have f1 : Blk ((((W1.setCell ⟨w.heap.size, 0, none⟩ (.slice sa sn sc)).setCell ⟨eb, 0, none⟩ (.int .i64 0)).setCell ⟨ab, 0, none⟩ (.int .i64 0)).alloc (.cells #[.int .i64 0, .int .i64 0] 130)) w.heap.size 29 [.slice sa sn sc] := (((Z1.out.set 0 (.slice sa sn sc)).other (p := ⟨eb, 0, none⟩) (by show ¬ eb = w.heap.size; omega) (.int .i64 0)).other (p := ⟨ab, 0, none⟩) (by show ¬ ab = w.heap.size; omega) (.int .i64 0)).alloc (.cells #[.int .i64 0, .int .i64 0] 130)
 have f2 : Blk ((((W1.setCell ⟨w.heap.size, 0, none⟩ (.slice sa sn sc)).setCell ⟨eb, 0, none⟩ (.int .i64 0)).setCell ⟨ab, 0, none⟩ (.int .i64 0)).alloc (.cells #[.int .i64 0, .int .i64 0] 130)) eb 33 [.int .i64 0] := (((Z2.out.other (p := ⟨w.heap.size, 0, none⟩) (by show ¬ w.heap.size = eb; omega) (.slice sa sn sc)).set 0 (.int .i64 0)).other (p := ⟨ab, 0, none⟩) (by show ¬ ab = eb; omega) (.int .i64 0)).alloc (.cells #[.int .i64 0, .int .i64 0] 130)
 have f3 : Blk ((((W1.setCell ⟨w.heap.size, 0, none⟩ (.slice sa sn sc)).setCell ⟨eb, 0, none⟩ (.int .i64 0)).setCell ⟨ab, 0, none⟩ (.int .i64 0)).alloc (.cells #[.int .i64 0, .int .i64 0] 130)) ab 3 [.int .i64 0] := (((Z3.out.other (p := ⟨w.heap.size, 0, none⟩) (by show ¬ w.heap.size = ab; omega) (.slice sa sn sc)).other (p := ⟨eb, 0, none⟩) (by show ¬ eb = ab; omega) (.int .i64 0)).set 0 (.int .i64 0)).alloc (.cells #[.int .i64 0, .int .i64 0] 130)
 have kf := (((KK.out.setNew w.heap.size 0 (by omega) (.slice sa sn sc)).setNew eb 0 (by omega) (.int .i64 0)).setNew ab 0 (by omega) (.int .i64 0)).alloc (.cells #[.int .i64 0, .int .i64 0] 130)
 have k2 := ((((Kp.refl (fun k => k = w.heap.size ∨ k = eb ∨ k = ab) W1).setOld w.heap.size 0 (Or.inl rfl) (.slice sa sn sc)).setOld eb 0 (Or.inr (Or.inl rfl)) (.int .i64 0)).setOld ab 0 (Or.inr (Or.inr rfl)) (.int .i64 0)).alloc (.cells #[.int .i64 0, .int .i64 0] 130)
 have hl3 : IsList itemK ((((W1.setCell ⟨w.heap.size, 0, none⟩ (.slice sa sn sc)).setCell ⟨eb, 0, none⟩ (.int .i64 0)).setCell ⟨ab, 0, none⟩ (.int .i64 0)).alloc (.cells #[.int .i64 0, .int .i64 0] 130)) (fun k => W0.heap.size ≤ k) 66 (.slice sa sn sc) xs := HV.out.kept (fun k hk hlt => k2.block k hlt (fun h => by have : W0.heap.size ≤ k := hk; omega))
 generalize (((W1.setCell ⟨w.heap.size, 0, none⟩ (.slice sa sn sc)).setCell ⟨eb, 0, none⟩ (.int .i64 0)).setCell ⟨ab, 0, none⟩ (.int .i64 0)).alloc (.cells #[.int .i64 0, .int .i64 0] 130) = Wf at *
 have e0 := f1.cell (i := 0) rfl
 have e4 := f2.cell (i := 0) rfl
 have e5 := f3.cell (i := 0) rfl
 clear f1 f2 f3 k2 c0 cf c4 cf4 c5 cf5
 simp [Leaves, settle, results, Tryz.results37, e0, e4, e5, go_sem]
 refine ⟨⟨_, by rw [parse_ok H1.out]; rfl, ?_⟩, kf⟩
 rw [parse_ok H1.out]
 exact hl3.mono (fun k hk _ => by have : W0.heap.size ≤ k := hk; omega)
end Go.Proofs.YtilfpnkcgjonhaaGreatDoor.Ru
namespace Go.Proofs.YtilfpnkcgjonhaaGreatDoor.Ru
open Go.RowKit Go.Sort Go.Shelf Foyer.Rule Foyer.Round
def RuleV (n : Nat) (x : List ItemP × Nat × Int) (e : Ending) (w' : World) : Prop := ∃ v, e = .returned (.tuple #[.agg #[v], .int .i64 (x.2.1 : Nat), .int .i64 x.2.2]) ∧ IsList itemK w' (fun k => n ≤ k) 66 v x.1
theorem parseAll_ok {l : List UInt8} (h : (Foyer.Lexer.lexAll l).2.1 = 0) : parseAll l = ((parseToks (Foyer.Lexer.lexAll l).1 l.length).1, (parseToks (Foyer.Lexer.lexAll l).1 l.length).2.1, (((parseToks (Foyer.Lexer.lexAll l).1 l.length).2.2 : Nat) : Int)) := by unfold parseAll; rw [if_pos h]
theorem results_rule (tmps : Array Value) (W : World) (hb : Nat) (c0 : Value) (h : Blk W hb 29 [c0]) (h2 : tmps.getD 2 undef = .pointer (some ⟨hb, 0, none⟩)) :
  (results Tryz.f20 tmps).run Tryz.prog W = .ok (.tuple #[.agg #[c0], tmps.getD 3 undef, tmps.getD 4 undef]) W := by
 have e0 := h.cell (i := 0) rfl
 have h2' : tmps[2]?.getD undef = .pointer (some ⟨hb, 0, none⟩) := by simpa using h2
 simp [results, Tryz.results20, h2', e0, go_sem]
theorem setCells_heap (W : World) (b : Nat) (vs : List Value) {k : Nat} (hlt : k < W.heap.size) (hk : k ≠ b) : (W.setCells b 0 vs).heap[k]? = W.heap[k]? :=
 (Kp.setCells (E := fun j => j = b) (p := b) (Or.inl rfl) vs 0 W (Kp.refl _ _)).block k hlt hk
set_option maxRecDepth 100000 in
set_option maxHeartbeats 2000000 in
theorem rule_any (t : ByteArray) (ht : t.size ≤ 1000000) (w : World) : Calls Tryz.prog 20 #[.string t] w fun e w' => RuleV w.heap.size (parseAll t.data.toList) e w' ∧ Below w.heap.size w w' := by
 have hsh : ∀ u ∈ (Foyer.Lexer.lexAll t.data.toList).1, u.text.length ≤ 1000000 := fun u hu => Nat.le_trans (lexAll_short _ u hu).1 (by decide)
 have R0 := hid (Blk.new w 29 [.slice none 0 0])
 have hsz : t.size = t.data.toList.length := by rw [Array.length_toList]; rfl
 have B0 : Hid (Kp (fun _ => False) w (w.alloc (.cells #[.slice none 0 0] 29))) := hid ((Kp.refl _ _).alloc _)
 have hs0 : w.heap.size < (w.alloc (.cells #[.slice none 0 0] 29)).heap.size := by simp
 have HSZ := hid hsz
 clear hsz
 go_enter Tryz.func20, Tryz.ntmps20
 go_wp2_with fail
 refine (lex_any t ht _).mono ?_
 rintro e w1 ⟨p, cap, rfl, hr, hc, hm, hb1⟩
 have kb : Kp (fun _ => False) _ w1 := Kp.of_below hb1
 have R1 := hid (R0.out.kept kb (fun h => h)); have B1 := hid (B0.out.trans kb); have hs1 := Nat.lt_of_lt_of_le hs0 hb1.size
 have z0 := R1.out.cell (i := 0) rfl
 have zf := R1.out.free
 have HR := hid hr; have HC := hid hc; have HM := hid hm; have HSH := hid hsh
 obtain ⟨ts, hts⟩ : ∃ ts, (Foyer.Lexer.lexAll t.data.toList).1 = ts := ⟨_, rfl⟩
 obtain ⟨E, hE⟩ : ∃ E, (Foyer.Lexer.lexAll t.data.toList).2.1 = E := ⟨_, rfl⟩
 obtain ⟨O, hO⟩ : ∃ O, (Foyer.Lexer.lexAll t.data.toList).2.2 = O := ⟨_, rfl⟩
 clear hr hc hm hb1 kb R0 B0 hs0 hsh
 by_cases h0 : E = 0
 ·have hp := parseAll_ok (hE.trans h0)
  rw [hts] at hp
  have HP := hid hp; have hne : (((E : Nat) : Int) != 0) = false := by simp [h0]
  rw [hts] at HR HC HSH
  rw [hts, hE, hO]
  clear hts hE hO hp h0
  rw [← HSZ.out] at HP
  go_wp2_with fail
  refine (toks_any ts p ts.length cap t.size w1 HR.out rfl HC.out HM.out.1 HM.out.2 HSH.out).mono ?_
  rintro e w2 ⟨⟨v, rfl, hv⟩, hk⟩
  obtain ⟨sa, sn, sc, rfl⟩ := hv.slice
  have hz2 := hk.size
  have r2 := R1.out.kept hk (fun h => h)
  have y0 := r2.cell (i := 0) rfl
  have yf := r2.free
  have R2 := hid r2; have HV := hid hv; have B2 := hid (B1.out.trans hk)
  clear z0 zf HR HC HM R1 B1 r2 hv hk HSH
  go_wp2
  rw [setCells_one]
  refine bodyPost_ret (results_rule _ _ w.heap.size _ (R2.out.whole (vs := [.slice sa sn sc]) rfl) rfl) rfl ?_
  refine ⟨?_, (B2.out.result (b := w.heap.size) (Nat.le_refl _) _).below (Nat.le_refl _) (fun k hk => hk.elim)⟩
  rw [HP.out]
  refine ⟨_, rfl, ?_⟩
  exact (HV.out.kept (fun k hk hlt => setCells_heap w2 w.heap.size _ hlt (by have : w1.heap.size ≤ k := hk; omega))).mono (fun k hk _ => by have : w1.heap.size ≤ k := hk; omega)
 ·have hp := lex_code (fun h => h0 (hE.symm.trans h))
  rw [hE, hO] at hp
  have HP := hid hp; have hne : (((E : Nat) : Int) != 0) = true := by simp [h0]
  rw [hts, hE, hO]
  clear hts hE hO hp h0
  go_wp2
  rw [setCells_one]
  refine bodyPost_ret (results_rule _ _ w.heap.size _ (R1.out.whole (vs := [.slice none 0 0]) rfl) rfl) rfl ?_
  refine ⟨?_, (B1.out.result (b := w.heap.size) (Nat.le_refl _) _).below (Nat.le_refl _) (fun k hk => hk.elim)⟩
  rw [HP.out]
  exact ⟨_, rfl, nil_is _ _ _ _⟩
theorem rule_c (t : ByteArray) (ht : t.size ≤ 1000000) (xs : List ItemP) (E : Nat) (O : Int) (h : parseAll t.data.toList = (xs, E, O)) (w : World) :
  Calls Tryz.prog 20 #[.string t] w fun e w' => ∃ v, e = .returned (.tuple #[.agg #[v], .int .i64 (E : Nat), .int .i64 O]) ∧ IsList itemK w' (fun k => w.heap.size ≤ k) 66 v xs ∧ Below w.heap.size w w' := by
 refine (rule_any t ht w).mono ?_
 rintro e w' ⟨⟨v, rfl, hv⟩, hb⟩
 rw [h] at hv ⊢
 exact ⟨v, rfl, hv, hb⟩
end Go.Proofs.YtilfpnkcgjonhaaGreatDoor.Ru
