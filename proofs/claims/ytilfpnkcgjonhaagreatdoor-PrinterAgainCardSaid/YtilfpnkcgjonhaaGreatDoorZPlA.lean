/-
  The walks of what takes the next token.
  Maps of strings that a call makes, written out.
  The walk of areas.
  The walk of marks.
  The walk of rows.
-/
import Derived.Test.YtilfpnkcgjonhaaGreatDoorZMixBase
import Derived.Test.YtilfpnkcgjonhaaGreatDoorZHeap
import Derived.Test.YtilfpnkcgjonhaaGreatDoorZPlMathPlan
import Derived.Shelf.Abstract
import Derived.Maps.Keyed
import Derived.Carry
import Derived.Test.YtilfpnkcgjonhaaGreatDoorZRound
namespace Go.Proofs.YtilfpnkcgjonhaaGreatDoor.Pl
open Go.RowKit Go.Sort Foyer.Plan
abbrev TokP := Foyer.Lexer.Tok
theorem beq_dec {α : Type} [BEq α] [LawfulBEq α] [DecidableEq α] (a b : α) : (a == b) = decide (a = b) := by
 by_cases h : a = b <;> simp [h]
def tkV (t : TokP) : Value := .agg #[.int .i64 (t.kind : Nat), .string ⟨t.text.toArray⟩, .int .i64 (t.val : Nat), .int .i64 (t.pos : Nat)]
def At (w : World) (bp L : Nat) (ts : List TokP) : Prop :=
 ∃ p cap, Blk w bp 125 [.slice p ts.length cap, .int .i64 (L : Nat)] ∧ (ts = [] ∨ ∃ b off, p = some ⟨b, off, none⟩ ∧ b < bp ∧ ∀ j t, ts[j]? = some t → TokAt w b (off + j * 4) t) ∧ ts.length ≤ cap ∧ cap ≤ maxLen ∧ (p = none → cap = 0)
theorem At.lt {w : World} {bp L : Nat} {ts : List TokP} (h : At w bp L ts) : bp < w.heap.size := let ⟨_, _, h, _⟩ := h; h.lt
theorem At.kept {E : Nat → Prop} {w w' : World} {bp L : Nat} {ts : List TokP} (h : At w bp L ts) (k : Kp E w w') (hE : ∀ k, E k → bp < k) : At w' bp L ts := by
 obtain ⟨p, cap, hB, hr, hc⟩ := h
 refine ⟨p, cap, hB.kept k (fun he => by have := hE _ he; omega), hr.imp id ?_, hc⟩
 rintro ⟨b, off, rfl, hb, ht⟩
 exact ⟨b, off, rfl, hb, fun j t hj => (ht j t hj).kept k (fun he => by have := hE _ he; omega)⟩
def failP (r : List TokP) (L : Nat) : Ending := .panicked [{ v := .iface 121 (.agg #[.int .i64 ((failAt L r).1 : Nat), .int .i64 ((failAt L r).2 : Nat)]), recovered := false }]
def Gives {α : Type} (bp L : Nat) (E : Nat → Prop) (w : World) (x : Res α) (V : α → Ending → World → Prop) (e : Ending) (w' : World) : Prop :=
 (∃ a r, x = .ok a r ∧ V a e w' ∧ At w' bp L r ∧ Kp E w w') ∨ ∃ r, x = .bad r ∧ e = failP r L ∧ Kp E w w'
theorem gives_ok {α : Type} {bp L : Nat} {E : Nat → Prop} {w w' : World} {x : Res α} {V : α → Ending → World → Prop} {e : Ending} (a : α) (r : List TokP) (h : x = .ok a r) (h1 : V a e w') (h2 : At w' bp L r) (h3 : Kp E w w') : Gives bp L E w x V e w' := Or.inl ⟨a, r, h, h1, h2, h3⟩
theorem gives_bad {α : Type} {bp L : Nat} {E : Nat → Prop} {w w' : World} {x : Res α} {V : α → Ending → World → Prop} (r : List TokP) (h : x = .bad r) (h1 : Kp E w w') : Gives bp L E w x V (failP r L) w' := Or.inr ⟨r, h, rfl, h1⟩
set_option maxRecDepth 100000 in
theorem fail_any (bp L : Nat) (ts : List TokP) (w : World) (h : At w bp L ts) : Calls Tryz.prog 58 #[.pointer (some ⟨bp, 0, none⟩)] w fun e w' => e = failP ts L ∧ w' = w := by
 obtain ⟨p, cap, hB, hr, hc, hm, hn⟩ := h
 have h0 := hB.cell (i := 0) rfl
 have h1 := hB.cell (i := 1) rfl
 cases ts with
 | nil =>
  go_enter Tryz.func58, Tryz.ntmps58
  go_wp2
  exact ⟨rfl, rfl, rfl⟩
 | cons t r =>
  rcases hr with hr | ⟨b, off, rfl, hb, ht⟩
  ·cases hr
  have h3 := (ht 0 t rfl).pos
  rw [Nat.zero_mul, Nat.add_zero] at h3
  have hlen : ((r.length : Int) + 1 == 0) = false := by simp; omega
  have hpos : (0 : Int) < (r.length : Int) + 1 := by omega
  go_enter Tryz.func58, Tryz.ntmps58
  go_wp2
  exact ⟨rfl, rfl, rfl⟩
def Asks (f : Nat) (caps : Array Value) (q : TokP → Bool) (E : Nat → Prop) (w : World) : Prop :=
 ∀ w1 t, Kp E w w1 → Calls Tryz.prog f (#[tkV t] ++ caps) w1 fun e w2 => e = .returned (.bool (q t)) ∧ Kp (fun _ => False) w1 w2
set_option maxRecDepth 100000 in
theorem wordC_asks (s : List UInt8) (b : Nat) (E : Nat → Prop) (w : World) (hb : Blk w b 9 [.string ⟨s.toArray⟩]) (hE : ¬ E b) : Asks 113 #[.pointer (some ⟨b, 0, none⟩)] (fun t => decide (t.text = s)) E w := by
 intro w1 t k
 have hB := hb.kept k hE
 have hlt := hB.lt
 have h0 : (w1.alloc (.cells #[.int .i64 (t.kind : Nat), .string ⟨t.text.toArray⟩, .int .i64 (t.val : Nat), .int .i64 (t.pos : Nat)] 119)).cell? ⟨b, 0, none⟩ = some (.string ⟨s.toArray⟩) := (hB.alloc _).cell rfl
 show Calls Tryz.prog 113 #[.agg #[.int .i64 (t.kind : Nat), .string ⟨t.text.toArray⟩, .int .i64 (t.val : Nat), .int .i64 (t.pos : Nat)], .pointer (some ⟨b, 0, none⟩)] w1 _
 go_enter Tryz.func113, Tryz.ntmps113
 go_wp2
 exact bodyPost_ret (results_tmp rfl _ _ _) rfl ⟨by rw [beq_dec]; rfl, (Kp.refl _ _).alloc _⟩
set_option maxRecDepth 100000 in
theorem nameC_asks (E : Nat → Prop) (w : World) : Asks 114 #[] (fun t => decide (t.kind = 1)) E w := by
 intro w1 t k
 show Calls Tryz.prog 114 #[.agg #[.int .i64 (t.kind : Nat), .string ⟨t.text.toArray⟩, .int .i64 (t.val : Nat), .int .i64 (t.pos : Nat)]] w1 _
 have e : (((t.kind : Nat) : Int) == 1) = decide (t.kind = 1) := by
  rw [beq_dec]
  exact decide_eq_decide.2 ⟨fun h => by omega, fun h => by omega⟩
 clear k
 go_enter Tryz.func114, Tryz.ntmps114
 go_wp2
 exact bodyPost_ret (results_tmp rfl _ _ _) rfl ⟨rfl, (Kp.refl _ _).alloc _⟩
set_option maxRecDepth 100000 in
theorem numbersC_asks (E : Nat → Prop) (w : World) : Asks 115 #[] (fun t => decide (t.kind = 2)) E w := by
 intro w1 t k
 show Calls Tryz.prog 115 #[.agg #[.int .i64 (t.kind : Nat), .string ⟨t.text.toArray⟩, .int .i64 (t.val : Nat), .int .i64 (t.pos : Nat)]] w1 _
 have e : (((t.kind : Nat) : Int) == 2) = decide (t.kind = 2) := by
  rw [beq_dec]
  exact decide_eq_decide.2 ⟨fun h => by omega, fun h => by omega⟩
 clear k
 go_enter Tryz.func115, Tryz.ntmps115
 go_wp2
 exact bodyPost_ret (results_tmp rfl _ _ _) rfl ⟨rfl, (Kp.refl _ _).alloc _⟩
def onlyB (b : Nat) : Nat → Prop := fun k => k = b
def TakeV (t : TokP) (e : Ending) (_ : World) : Prop := e = .returned (tkV t)
set_option maxRecDepth 100000 in
set_option maxHeartbeats 1000000 in
theorem take_any (bp L : Nat) (ts : List TokP) (f : Nat) (hent : ∀ args w, (callFunc f args).run Tryz.prog w = .ok (.enter f args) w) (caps : Array Value) (q : TokP → Bool) (w : World) (h : At w bp L ts) (hq : Asks f caps q (fun _ => False) w) :
  Calls Tryz.prog 112 #[.pointer (some ⟨bp, 0, none⟩), .func (.func f) #[] caps] w (Gives bp L (onlyB bp) w (takeP q ts) TakeV) := by
 have hlt := h.lt
 have HA := hid h; have HQ := hid hq
 obtain ⟨p, cap, hB, hr, hc, hm, hn⟩ := h
 have b0 := (hB.alloc (.cells #[.int .i64 0, .string ⟨#[]⟩, .int .i64 0, .int .i64 0] 119))
 have h0 := b0.cell (i := 0) rfl
 cases ts with
 | nil =>
  clear hB hr hq b0
  go_enter Tryz.func112, Tryz.ntmps112
  go_wp2_with fail
  refine (fail_any bp L [] _ (HA.out.kept ((Kp.refl (fun _ => False) _).alloc _) (fun _ h => h.elim))).mono ?_
  rintro e w1 ⟨rfl, rfl⟩
  unfold failP
  go_wp2
  exact ⟨rfl, gives_bad [] rfl ((Kp.refl _ _).alloc _)⟩
 | cons t r =>
  rcases hr with hr | ⟨b, off, rfl, hb, ht⟩
  ·cases hr
  have k0 : Kp (fun _ => False) w (w.alloc (.cells #[.int .i64 0, .string ⟨#[]⟩, .int .i64 0, .int .i64 0] 119)) := (Kp.refl _ _).alloc _
  have t0 := (ht 0 t rfl).kept k0 (fun h => h)
  rw [Nat.zero_mul, Nat.add_zero] at t0
  obtain ⟨c0, c1, c2, c3⟩ := t0
  have hlen : ((r.length : Int) + 1 == 0) = false := by simp; omega
  have hpos : (0 : Int) < (r.length : Int) + 1 := by omega
  have K0 := hid k0; have HT := hid ht; have HB := hid hB
  clear ht hB b0 hq k0
  go_enter Tryz.func112, Tryz.ntmps112
  go_wp2_with fail
  refine (HQ.out _ t K0.out).mono ?_
  rintro e w1 ⟨rfl, hk1⟩
  have k1 := K0.out.call hk1 (fun _ h => Or.inl h)
  have bR1 := ((Blk.new w 119 [.int .i64 0, .string ⟨#[]⟩, .int .i64 0, .int .i64 0]).kept hk1 (fun h => h))
  have a1 := HA.out.kept k1 (fun _ h => h.elim)
  have hB1 := HB.out.kept k1 (fun h => h)
  have t1 := (HT.out 0 t rfl).kept k1 (fun h => h)
  rw [Nat.zero_mul, Nat.add_zero] at t1
  obtain ⟨d0, d1, d2, d3⟩ := t1
  have g0 := hB1.cell (i := 0) rfl
  have gf := hB1.free 0
  have hs1 := k1.size
  clear h0 c0 c1 c2 c3 hent
  by_cases hqt : q t = true
  ·rw [hqt]
   have HTP := hid (takeP_pos (r := r) hqt)
   have K1 := hid k1; have A1 := hid a1; have B1 := hid hB1; have BR := hid bR1
   have hcap1 : ¬ (cap : Int) < 1 := by simp at hc; omega
   clear K0 HQ HA
   go_upto_region 4 with fail
   clear g0 gf d0 d1 d2 d3
   have b3 := B1.out.alloc (.cells #[.int .i64 (t.kind : Nat), .string ⟨t.text.toArray⟩, .int .i64 (t.val : Nat), .int .i64 (t.pos : Nat)] 119)
   have r3 := BR.out.alloc (.cells #[.int .i64 (t.kind : Nat), .string ⟨t.text.toArray⟩, .int .i64 (t.val : Nat), .int .i64 (t.pos : Nat)] 119)
   have x3 := Blk.new w1 119 [.int .i64 (t.kind : Nat), .string ⟨t.text.toArray⟩, .int .i64 (t.val : Nat), .int .i64 (t.pos : Nat)]
   have k3 := K1.out.alloc (.cells #[.int .i64 (t.kind : Nat), .string ⟨t.text.toArray⟩, .int .i64 (t.val : Nat), .int .i64 (t.pos : Nat)] 119)
   generalize w1.alloc (.cells #[.int .i64 (t.kind : Nat), .string ⟨t.text.toArray⟩, .int .i64 (t.val : Nat), .int .i64 (t.pos : Nat)] 119) = W3 at *
   have hs3 := k3.size
   have g3 := b3.cell (i := 0) rfl
   have f3 := b3.free 0
   by_cases hc1 : cap = 1
   ·subst hc1
    have B3 := hid b3; have R3 := hid r3; have X3 := hid x3; have K3 := hid k3
    clear b3 r3 x3 k3 B1 BR K1 A1
    go_upto_region 5 with fail
    have b4 := B3.out.set 0 (.slice (some ⟨b, off, none⟩) r.length 0)
    have r4 := R3.out.other (p := ⟨bp, 0, none⟩) (by show ¬ bp = w.heap.size; omega) (.slice (some ⟨b, off, none⟩) r.length 0)
    have x4 := X3.out.other (p := ⟨bp, 0, none⟩) (by show ¬ bp = w1.heap.size; omega) (.slice (some ⟨b, off, none⟩) r.length 0)
    have k4 : Kp (onlyB bp) w (W3.setCell ⟨bp, 0, none⟩ (.slice (some ⟨b, off, none⟩) r.length 0)) := (K3.out.mono (E' := onlyB bp) fun _ h => h.elim).setOld bp 0 rfl _
    have a4 : At (W3.setCell ⟨bp, 0, none⟩ (.slice (some ⟨b, off, none⟩) r.length 0)) bp L r := ⟨some ⟨b, off, none⟩, 0, b4, Or.inl (by simpa using hc), by rw [show r = [] by simpa using hc]; exact Nat.le_refl _, Nat.zero_le _, fun h => by cases h⟩
    generalize W3.setCell ⟨bp, 0, none⟩ (.slice (some ⟨b, off, none⟩) r.length 0) = W4 at *
    have l1 := x4.lt
    have y0 := x4.cell (i := 0) rfl
    have y1 := x4.cell (i := 1) rfl
    have y2 := x4.cell (i := 2) rfl
    have y3 := x4.cell (i := 3) rfl
    have z0 := r4.cell (i := 0) rfl
    have z1 := r4.cell (i := 1) rfl
    have z2 := r4.cell (i := 2) rfl
    have z3 := r4.cell (i := 3) rfl
    have zf := r4.free
    have R4 := hid r4; have K4 := hid k4; have A4 := hid a4
    clear b4 r4 x4 k4 a4 g3 f3 B3 R3 X3 K3
    go_wp2
    have r5 := (((R4.out.set 0 (.int .i64 (t.kind : Nat))).set 1 (.string ⟨t.text.toArray⟩)).set 2 (.int .i64 (t.val : Nat))).set 3 (.int .i64 (t.pos : Nat))
    exact bodyPost_ret (results_cell_mid rfl _ _ w.heap.size [.int .i64 (t.kind : Nat), .string ⟨t.text.toArray⟩, .int .i64 (t.val : Nat), .int .i64 (t.pos : Nat)] _ rfl r5.range Tryz.underlying119 rfl (by kernel_rfl)) rfl
     (gives_ok t r HTP.out rfl (A4.out.kept (Kp.setRes W4 w.heap.size _ _ _ _) (fun k hk => by have : k = w.heap.size := hk; omega)) (K4.out.call (Kp.setRes W4 w.heap.size _ _ _ _) (fun k hk => Or.inr (by have : k = w.heap.size := hk; omega))))
   ·have B3 := hid b3; have R3 := hid r3; have X3 := hid x3; have K3 := hid k3
    clear b3 r3 x3 k3 B1 BR K1 A1
    go_upto_region 5 with fail
    have b4 := B3.out.set 0 (.slice (some ⟨b, off + 4, none⟩) r.length (cap - 1))
    have r4 := R3.out.other (p := ⟨bp, 0, none⟩) (by show ¬ bp = w.heap.size; omega) (.slice (some ⟨b, off + 4, none⟩) r.length (cap - 1))
    have x4 := X3.out.other (p := ⟨bp, 0, none⟩) (by show ¬ bp = w1.heap.size; omega) (.slice (some ⟨b, off + 4, none⟩) r.length (cap - 1))
    have k4 : Kp (onlyB bp) w (W3.setCell ⟨bp, 0, none⟩ (.slice (some ⟨b, off + 4, none⟩) r.length (cap - 1))) := (K3.out.mono (E' := onlyB bp) fun _ h => h.elim).setOld bp 0 rfl _
    have a4 : At (W3.setCell ⟨bp, 0, none⟩ (.slice (some ⟨b, off + 4, none⟩) r.length (cap - 1))) bp L r := ⟨some ⟨b, off + 4, none⟩, cap - 1, b4, Or.inr ⟨b, off + 4, rfl, hb, fun j u hj => by
              have h5 := (HT.out (j + 1) u (by simpa using hj)).kept k4 (fun h => by have : b = bp := h; omega)
              rwa [show off + (j + 1) * 4 = off + 4 + j * 4 by omega] at h5⟩, by simp at hc; omega, by omega, fun h => by cases h⟩
    generalize W3.setCell ⟨bp, 0, none⟩ (.slice (some ⟨b, off + 4, none⟩) r.length (cap - 1)) = W4 at *
    have l1 := x4.lt
    have y0 := x4.cell (i := 0) rfl
    have y1 := x4.cell (i := 1) rfl
    have y2 := x4.cell (i := 2) rfl
    have y3 := x4.cell (i := 3) rfl
    have z0 := r4.cell (i := 0) rfl
    have z1 := r4.cell (i := 1) rfl
    have z2 := r4.cell (i := 2) rfl
    have z3 := r4.cell (i := 3) rfl
    have zf := r4.free
    have R4 := hid r4; have K4 := hid k4; have A4 := hid a4
    clear b4 r4 x4 k4 a4 g3 f3 B3 R3 X3 K3
    go_wp2
    have r5 := (((R4.out.set 0 (.int .i64 (t.kind : Nat))).set 1 (.string ⟨t.text.toArray⟩)).set 2 (.int .i64 (t.val : Nat))).set 3 (.int .i64 (t.pos : Nat))
    exact bodyPost_ret (results_cell_mid rfl _ _ w.heap.size [.int .i64 (t.kind : Nat), .string ⟨t.text.toArray⟩, .int .i64 (t.val : Nat), .int .i64 (t.pos : Nat)] _ rfl r5.range Tryz.underlying119 rfl (by kernel_rfl)) rfl
     (gives_ok t r HTP.out rfl (A4.out.kept (Kp.setRes W4 w.heap.size _ _ _ _) (fun k hk => by have : k = w.heap.size := hk; omega)) (K4.out.call (Kp.setRes W4 w.heap.size _ _ _ _) (fun k hk => Or.inr (by have : k = w.heap.size := hk; omega))))
  ·have hqf : q t = false := by simpa using hqt
   rw [hqf]
   have HTP := hid (takeP_neg (r := r) hqt)
   have K1 := hid k1; have A1 := hid a1
   clear k1 a1 hB1 bR1 hk1 hqt hqf
   go_wp2_with fail
   refine (fail_any bp L (t :: r) _ A1.out).mono ?_
   rintro e w2 ⟨rfl, rfl⟩
   unfold failP
   go_wp2
   exact ⟨rfl, gives_bad _ HTP.out (K1.out.mono fun _ h => h.elim)⟩
end Go.Proofs.YtilfpnkcgjonhaaGreatDoor.Pl
namespace Go.Proofs.YtilfpnkcgjonhaaGreatDoor.Pl
open Go.RowKit Go.Sort Go.Shelf Foyer.Plan
theorem wordC_ent (args : Array Value) (w : World) : (callFunc 113 args).run Tryz.prog w = .ok (.enter 113 args) w := enters_of Tryz.func113 (by kernel_rfl) rfl args w
theorem nameC_ent (args : Array Value) (w : World) : (callFunc 114 args).run Tryz.prog w = .ok (.enter 114 args) w := enters_of Tryz.func114 (by kernel_rfl) rfl args w
theorem numbersC_ent (args : Array Value) (w : World) : (callFunc 115 args).run Tryz.prog w = .ok (.enter 115 args) w := enters_of Tryz.func115 (by kernel_rfl) rfl args w
theorem makes_func (fn : Fn) (first cap : Array Value) (w : World) : (Instr.makeFunc fn first cap).run Tryz.prog w = .ok (.func fn first cap) w := rfl
theorem tok_field1 (a b c d : Value) (w : World) : (Instr.field 119 (.agg #[a, b, c, d]) 1).run Tryz.prog w = .ok b w := by kernel_rfl
theorem tok_field2 (a b c d : Value) (w : World) : (Instr.field 119 (.agg #[a, b, c, d]) 2).run Tryz.prog w = .ok c w := by kernel_rfl
theorem tok_field3 (a b c d : Value) (w : World) : (Instr.field 119 (.agg #[a, b, c, d]) 3).run Tryz.prog w = .ok d w := by kernel_rfl
def IntV (n : Nat) (e : Ending) (_ : World) : Prop := e = .returned (.int .i64 (n : Nat))
def StrV (s : List UInt8) (e : Ending) (_ : World) : Prop := e = .returned (.string ⟨s.toArray⟩)
set_option maxRecDepth 100000 in
theorem word_any (bp L : Nat) (ts : List TokP) (s : List UInt8) (w : World) (h : At w bp L ts) :
  Calls Tryz.prog 85 #[.pointer (some ⟨bp, 0, none⟩), .string ⟨s.toArray⟩] w (Gives bp L (onlyB bp) w (word s ts) IntV) := by
 have hmf := makes_func
 have hfd := tok_field3
 have HA := hid h
 have k0 : Kp (fun _ => False) w (w.alloc (.cells #[.string ⟨s.toArray⟩] 9)) := (Kp.refl _ _).alloc _
 have b0 : Blk (w.alloc (.cells #[.string ⟨s.toArray⟩] 9)) w.heap.size 9 [.string ⟨s.toArray⟩] := Blk.new w _ _
 have K0 := hid k0; have B0 := hid b0
 clear h k0 b0
 go_enter Tryz.func85, Tryz.ntmps85
 go_wp2_with fail
 refine (take_any bp L ts 113 wordC_ent #[.pointer (some ⟨w.heap.size, 0, none⟩)] _ _ (HA.out.kept K0.out (fun _ h => h.elim)) (wordC_asks s _ _ _ B0.out (fun h => h))).mono ?_
 rintro e w1 (⟨t, r, h1, rfl, ha, hk⟩ | ⟨r, h1, rfl, hk⟩)
 ·have HH := hid h1; have HA1 := hid ha; have HK := hid hk
  clear h1 ha hk
  unfold tkV
  go_wp2
  refine bodyPost_ret (results_tmp rfl _ _ _) rfl ?_
  exact gives_ok t.pos r (show word s ts = _ from then_of HH.out) rfl HA1.out ((K0.out.mono fun _ h => h.elim).trans HK.out)
 ·have HH := hid h1; have HK := hid hk
  clear h1 hk
  unfold failP
  go_wp2
  exact ⟨rfl, gives_bad r (show word s ts = _ from then_bad HH.out) ((K0.out.mono fun _ h => h.elim).trans HK.out)⟩
set_option maxRecDepth 100000 in
theorem name_any (bp L : Nat) (ts : List TokP) (w : World) (h : At w bp L ts) :
  Calls Tryz.prog 86 #[.pointer (some ⟨bp, 0, none⟩)] w (Gives bp L (onlyB bp) w (nameP ts) StrV) := by
 have hfd := tok_field1
 have HA := hid h
 clear h
 go_enter Tryz.func86, Tryz.ntmps86
 go_wp2_with fail
 refine (take_any bp L ts 114 nameC_ent #[] _ _ HA.out (nameC_asks _ _)).mono ?_
 rintro e w1 (⟨t, r, h1, rfl, ha, hk⟩ | ⟨r, h1, rfl, hk⟩)
 ·have HH := hid h1; have HA1 := hid ha; have HK := hid hk
  clear h1 ha hk
  unfold tkV
  go_wp2
  refine bodyPost_ret (results_tmp rfl _ _ _) rfl ?_
  exact gives_ok t.text r (show nameP ts = _ from then_of HH.out) rfl HA1.out HK.out
 ·have HH := hid h1; have HK := hid hk
  clear h1 hk
  unfold failP
  go_wp2
  exact ⟨rfl, gives_bad r (show nameP ts = _ from then_bad HH.out) HK.out⟩
theorem take_num (bp L : Nat) (ts : List TokP) (w : World) (h : At w bp L ts) :
  Calls Tryz.prog 112 #[.pointer (some ⟨bp, 0, none⟩), .func (.func 115) #[] #[]] w fun e w' =>
   (∃ t r, num ts = .ok t.val r ∧ e = .returned (tkV t) ∧ At w' bp L r ∧ Kp (onlyB bp) w w') ∨ ∃ r, num ts = .bad r ∧ e = failP r L ∧ Kp (onlyB bp) w w' := by
 refine (take_any bp L ts 115 numbersC_ent #[] _ _ h (numbersC_asks _ _)).mono ?_
 rintro e w1 (⟨t, r, h1, rfl, ha, hk⟩ | ⟨r, h1, rfl, hk⟩)
 ·exact Or.inl ⟨t, r, show num ts = _ from then_of h1, rfl, ha, hk⟩
 ·exact Or.inr ⟨r, show num ts = _ from then_bad h1, rfl, hk⟩
end Go.Proofs.YtilfpnkcgjonhaaGreatDoor.Pl
namespace Go.Proofs.YtilfpnkcgjonhaaGreatDoor.Pl
open Go.RowKit Go.Sort Foyer.Plan
def numsP : Nat → Par (List Nat)
 | 0 => give []
 | n + 1 => andThen (numsP n) fun xs => andThen num fun x => give (xs ++ [x])
theorem nums_next {n : Nat} {ts r s : List TokP} {xs : List Nat} {x : Nat} (h : numsP n ts = .ok xs r) (h1 : num r = .ok x s) : numsP (n + 1) ts = .ok (xs ++ [x]) s :=
 (then_of h : numsP (n + 1) ts = _).trans (then_of h1)
theorem nums_bad {n : Nat} {ts r s : List TokP} {xs : List Nat} (h : numsP n ts = .ok xs r) (h1 : num r = .bad s) : ∀ k, numsP (n + 1 + k) ts = .bad s
 | 0 => (then_of h : numsP (n + 1) ts = _).trans (then_bad h1)
 | k + 1 => (then_bad (nums_bad h h1 k) : numsP (n + 1 + k + 1) ts = _)
theorem nums_length : ∀ {n : Nat} {ts r : List TokP} {xs : List Nat}, numsP n ts = .ok xs r → xs.length = n
 | 0, _, _, _, h => by cases h; rfl
 | n + 1, _, _, _, h => by
  obtain ⟨ys, s, h1, h2⟩ := Foyer.Plan.then_ok h
  obtain ⟨x, s2, h3, h4⟩ := Foyer.Plan.then_ok h2
  cases h4
  rw [List.length_append, nums_length h1]; rfl
def fillC : List Value → List Nat → List Nat → List Value
 | cs, o :: os, x :: xs => fillC (cs.set o (.int .i64 (x : Nat))) os xs
 | cs, _, _ => cs
theorem fillC_snoc : ∀ (cs : List Value) (os xs : List Nat) (o x : Nat), os.length = xs.length → fillC cs (os ++ [o]) (xs ++ [x]) = (fillC cs os xs).set o (.int .i64 (x : Nat))
 | _, [], [], _, _, _ => rfl
 | cs, a :: os, b :: xs, o, x, h => fillC_snoc (cs.set a (.int .i64 (b : Nat))) os xs o x (by simpa using h)
 | _, [], _ :: _, _, _, h => by simp at h
 | _, _ :: _, [], _, _, h => by simp at h
theorem fillC_length : ∀ (cs : List Value) (os xs : List Nat), (fillC cs os xs).length = cs.length
 | cs, a :: os, b :: xs => by rw [fillC, fillC_length, List.length_set]
 | _, [], _ => by rw [fillC]; intros; simp_all
 | _, _ :: _, [] => by rw [fillC]; intros; simp_all
def twoB (b c : Nat) : Nat → Prop := fun k => k = b ∨ k = c
def NumsV (B : Nat) (T : TypeId) (cs : List Value) (os : List Nat) (xs : List Nat) (e : Ending) (w' : World) : Prop := e = .returned (.tuple #[]) ∧ Blk w' B T (fillC cs os xs)
set_option maxRecDepth 100000 in
set_option maxHeartbeats 1000000 in
theorem numbers_any (bp L : Nat) (ts : List TokP) (os : List Nat) (n : Nat) (hn : os.length = n) (hn4 : n ≤ 4) (vb B : Nat) (T T' : TypeId) (cs : List Value) (w : World) (h : At w bp L ts) (hv : Blk w vb T' (os.map fun o => .pointer (some ⟨B, o, none⟩)))
  (hB : Blk w B T cs) (ho : ∀ o ∈ os, o < cs.length) (hb1 : bp < B) (hb2 : vb ≠ B) (hb3 : vb ≠ bp) :
  Calls Tryz.prog 87 #[.pointer (some ⟨bp, 0, none⟩), .slice (some ⟨vb, 0, none⟩) n n] w (Gives bp L (twoB bp B) w (numsP n ts) (NumsV B T cs os)) := by
 have HA := hid h; have HV := hid hv; have HB := hid hB; have HO := hid ho
 have hfd := tok_field2
 clear h hv hB ho
 go_enter Tryz.func87, Tryz.ntmps87
 go_wp2
 go_loopw [8] (fun i wr => ∃ k : Nat, i = .int .i64 k ∧ k ≤ n ∧ ∃ xs r, Hid (numsP k ts = .ok xs r) ∧ Hid (Blk wr B T (fillC cs (os.take k) xs)) ∧ Hid (At wr bp L r) ∧ Hid (Kp (twoB bp B) w wr)) (fun i _ => n - (intOf i).toNat)
 case atStart => exact ⟨0, rfl, by omega, [], ts, hid rfl, HB, HA, hid (Kp.refl _ _)⟩
 case round =>
  clear HA HB
  obtain ⟨k, rfl, hk, xs, r, HN, HB, HA, HK⟩ := hrel
  by_cases hk2 : k < n
  ·obtain ⟨o, hko⟩ : ∃ o, os[k]? = some o := ⟨_, List.getElem?_eq_getElem (by omega)⟩
   have hol := HO.out o (List.mem_of_getElem? hko)
   have v1 := HV.out.kept HK.out (fun h => h.elim (fun h => hb3 h) (fun h => hb2 h))
   have c1 := v1.cell (i := k) (v := .pointer (some ⟨B, o, none⟩)) (by simp [hko])
   have hki : (0 : Int) ≤ k ∧ (k : Int) < n := by omega
   have hlt := v1.lt
   have V1 := hid v1
   clear v1
   have HT := hid (List.take_add_one (l := os) (i := k))
   have HKO := hid hko
   clear hko
   go_wp2_with fail
   refine (take_num bp L r _ HA.out).mono ?_
   rintro e w1 (⟨t, s, h1, rfl, ha, hkp⟩ | ⟨s, h1, rfl, hkp⟩)
   ·have b1 := HB.out.kept hkp (fun h => by have : B = bp := h; omega)
    obtain ⟨v, hv⟩ : ∃ v, (fillC cs (os.take k) xs)[o]? = some v := ⟨_, List.getElem?_eq_getElem (by rw [fillC_length]; exact hol)⟩
    have c2 := b1.cell hv
    have f2 := b1.free o
    have B1 := hid b1; have A1 := hid ha; have K1 := hid (HK.out.call hkp (fun k h => Or.inl (Or.inl h))); have N1 := hid h1
    clear b1 ha hkp h1 hv
    unfold tkV
    go_wp2
    refine ⟨⟨k + 1, by go_num, by omega, xs ++ [t.val], s, hid (nums_next HN.out N1.out), hid ?_, hid ?_, hid ?_⟩, ?_⟩
    ·rw [HT.out, HKO.out]
     show Blk _ _ _ (fillC cs (os.take k ++ [o]) _)
     rw [fillC_snoc _ _ _ _ _ (by rw [List.length_take, nums_length HN.out]; omega)]
     exact B1.out.set o _
    ·exact A1.out.kept ((Kp.refl (fun k => k = B) _).setOld B o rfl _) (fun k hk => by have : k = B := hk; omega)
    ·exact K1.out.setOld B o (Or.inr rfl) _
    ·simp [intOf]; omega
   ·have N1 := hid h1; have K1 := hid (HK.out.call hkp (fun k h => Or.inl (Or.inl h)))
    clear h1 hkp
    unfold failP
    go_wp2
    refine ⟨rfl, gives_bad s ?_ K1.out⟩
    have := nums_bad HN.out N1.out (n - (k + 1))
    rwa [show k + 1 + (n - (k + 1)) = n by omega] at this
  ·obtain rfl : k = n := by omega
   go_wp2
   go_end0
   refine gives_ok xs r HN.out ⟨rfl, ?_⟩ HA.out HK.out
   have := HB.out
   rwa [List.take_of_length_le (by omega)] at this
end Go.Proofs.YtilfpnkcgjonhaaGreatDoor.Pl
namespace Go.Proofs.YtilfpnkcgjonhaaGreatDoor.Pl
open Go.RowKit Go.Sort Foyer.Plan
def leftIn (bp : Nat) (w : World) : Nat := match w.cell? ⟨bp, 0, none⟩ with | some (.slice _ n _) => n | _ => 0
theorem At.left {w : World} {bp L : Nat} {ts : List TokP} (h : At w bp L ts) : leftIn bp w = ts.length := by
 obtain ⟨p, cap, hB, _⟩ := h
 unfold leftIn
 rw [hB.cell (i := 0) rfl]
def Lists {α : Type} (bp L : Nat) (Inv : List α → World → Prop) (Fin : World → Prop) (xs : List α) (x : Res (List α)) (e : Ending) (w' : World) : Prop :=
 (∃ bs r, x = .ok bs r ∧ e = .returned (.tuple #[]) ∧ Inv (xs ++ bs) w' ∧ At w' bp L r) ∨ ∃ r, x = .bad r ∧ e = failP r L ∧ Fin w'
section
variable {α : Type} (bp L : Nat) (c : List UInt8) (p : Par α) (he : Eats p) (g : Nat) (hent : ∀ args w, (callFunc g args).run Tryz.prog w = .ok (.enter g args) w) (caps : Array Value)
 (Inv : List α → World → Prop) (Fin : World → Prop) (hkeep : ∀ xs w1 w2, Inv xs w1 → Kp (onlyB bp) w1 w2 → Inv xs w2) (hfin : ∀ xs w1 w2, Inv xs w1 → Kp (onlyB bp) w1 w2 → Fin w2)
 (N : Nat) (hstep : ∀ xs w1 ts, Inv xs w1 → At w1 bp L ts → xs.length + ts.length ≤ N → Calls Tryz.prog g caps w1 fun e w2 => (∃ a r, p ts = .ok a r ∧ e = .returned (.tuple #[]) ∧ Inv (xs ++ [a]) w2 ∧ At w2 bp L r) ∨ ∃ r, p ts = .bad r ∧ e = failP r L ∧ Fin w2)
include he hent hkeep hfin hstep in
set_option maxRecDepth 100000 in
set_option maxHeartbeats 1000000 in
theorem until_any (n : Nat) (ts : List TokP) (hn : ts.length < n) (xs : List α) (hN : xs.length + ts.length ≤ N) (w : World) (hI : Inv xs w) (hA : At w bp L ts) :
  Calls Tryz.prog 88 #[.pointer (some ⟨bp, 0, none⟩), .string ⟨c.toArray⟩, .func (.func g) #[] caps] w (Lists bp L Inv Fin xs (many c p n ts)) := by
 have HE := hid he; have HK := hid hkeep; have HF := hid hfin; have HS := hid hstep; have HI := hid hI; have HA := hid hA
 clear he hkeep hfin hstep hI hA
 go_enter Tryz.func88, Tryz.ntmps88
 go_wp2
 go_loopw [] (fun wr => ∃ (k : Nat) (bs : List α) (us : List TokP), us.length < k ∧ (xs ++ bs).length + us.length ≤ N ∧ Hid (Inv (xs ++ bs) wr) ∧ Hid (At wr bp L us) ∧ Hid (many c p n ts = andThen (many c p k) (fun ds => give (bs ++ ds)) us)) (fun wr => leftIn bp wr)
 case atStart => exact ⟨n, [], ts, hn, by rw [List.append_nil]; exact hN, hid (by rw [List.append_nil]; exact HI.out), HA, hid (by
  unfold andThen give
  cases many c p n ts <;> rfl)⟩
 case round =>
  clear HI HA
  obtain ⟨k, bs, us, hk, hNk, HI, HA, HM⟩ := hrel
  have HNK := hid hNk
  clear hNk
  have hleft := HA.out.left
  obtain ⟨q, cap, hB, hr, hc⟩ := HA.out
  have c0 := hB.cell (i := 0) rfl
  obtain ⟨k, rfl⟩ : ∃ k', k = k' + 1 := ⟨k - 1, by omega⟩
  cases us with
  | nil =>
   have HN : Hid (∀ t r, ([] : List TokP) = t :: r → t.text ≠ c) := hid (fun t r h => by cases h)
   clear hB hr hc
   go_wp2_with fail
   refine (HS.out _ wr [] HI.out HA.out HNK.out).mono ?_
   rintro e w1 (⟨a, s, h1, rfl, hi, ha⟩ | ⟨s, h1, rfl, hf⟩)
   ·have HL := hid hleft; have HI1 := hid hi; have HA1 := hid ha; have H1 := hid h1
    clear hi ha h1 hleft
    go_wp2
    have hlt := HE.out _ _ _ H1.out
    refine ⟨⟨k, bs ++ [a], s, by omega, by have := HNK.out; simp only [List.length_append, List.length_cons, List.length_nil] at this hlt ⊢; omega, hid (by have := HI1.out; rwa [List.append_assoc] at this), HA1, hid ?_⟩, by rw [HA1.out.left, HL.out]; exact hlt⟩
    rw [HM.out]
    unfold andThen give
    rw [many_go HN.out]
    unfold andThen give
    rw [H1.out]
    dsimp only
    cases many c p k s with
    | bad z => rfl
    | ok zs z => simp
   ·have HF1 := hid hf; have H1 := hid h1
    clear hf h1 hleft
    unfold failP
    go_wp2
    refine ⟨rfl, Or.inr ⟨s, ?_, rfl, HF1.out⟩⟩
    rw [HM.out]
    unfold andThen give
    rw [many_go HN.out]
    unfold andThen give
    rw [H1.out]
  | cons t r =>
   rcases hr with hr | ⟨b, off, rfl, hb, ht⟩
   ·cases hr
   have t0 := ht 0 t rfl
   rw [Nat.zero_mul, Nat.add_zero] at t0
   obtain ⟨d0, d1, d2, d3⟩ := t0
   have hlen : ((r.length : Int) + 1 == 0) = false := by simp; omega
   have hpos : (0 : Int) < (r.length : Int) + 1 := by omega
   by_cases htc : t.text = c
   ·have e1 : (t.text == c) = true := by simp [htc]
    have e2 : (t.text != c) = false := by simp [htc]
    have HW := hid (word_pos (r := r) htc); have HC := hid (many_close (p := p) (n := k) (r := r) htc)
    clear hB ht hc htc hleft
    go_wp2_with fail
    refine (word_any bp L (t :: r) c _ HA.out).mono ?_
    rintro e w1 (⟨a, s, h1, rfl, ha, hkp⟩ | ⟨s, h1, _, _⟩)
    ·have hrs : s = r := by rw [HW.out] at h1; cases h1; rfl
     subst hrs
     have HA1 := hid ha; have HI1 := hid (HK.out _ _ _ HI.out hkp)
     clear ha hkp h1
     go_wp2
     go_end0
     refine Or.inl ⟨bs, s, ?_, rfl, HI1.out, HA1.out⟩
     rw [HM.out]
     unfold andThen give
     rw [HC.out]
     simp
    ·rw [HW.out] at h1; cases h1
   ·have e1 : (t.text == c) = false := by simp [htc]
    have e2 : (t.text != c) = true := by simp [htc]
    have HN : Hid (∀ u q, t :: r = u :: q → u.text ≠ c) := hid (fun u q h => by cases h; exact htc)
    clear hB ht hc htc
    go_wp2_with fail
    refine (HS.out _ wr (t :: r) HI.out HA.out HNK.out).mono ?_
    rintro e w1 (⟨a, s, h1, rfl, hi, ha⟩ | ⟨s, h1, rfl, hf⟩)
    ·have HL := hid hleft; have HI1 := hid hi; have HA1 := hid ha; have H1 := hid h1
     clear hi ha h1 hleft
     go_wp2
     have hlt := HE.out _ _ _ H1.out
     refine ⟨⟨k, bs ++ [a], s, by omega, by have := HNK.out; simp only [List.length_append, List.length_cons, List.length_nil] at this hlt ⊢; omega, hid (by have := HI1.out; rwa [List.append_assoc] at this), HA1, hid ?_⟩, by rw [HA1.out.left, HL.out]; exact hlt⟩
     rw [HM.out]
     unfold andThen give
     rw [many_go HN.out]
     unfold andThen give
     rw [H1.out]
     dsimp only
     cases many c p k s with
     | bad z => rfl
     | ok zs z => simp
    ·have HF1 := hid hf; have H1 := hid h1
     clear hf h1 hleft
     unfold failP
     go_wp2
     refine ⟨rfl, Or.inr ⟨s, ?_, rfl, HF1.out⟩⟩
     rw [HM.out]
     unfold andThen give
     rw [many_go HN.out]
     unfold andThen give
     rw [H1.out]
end
end Go.Proofs.YtilfpnkcgjonhaaGreatDoor.Pl
namespace Go.Proofs.YtilfpnkcgjonhaaGreatDoor.Pl
open Go.RowKit Go.Sort Foyer.Plan
theorem point_then {γ : Type} {ts r : List TokP} {x y : Nat} {k : Nat → Nat → Par γ} (h : pointP ts = .ok (x, y) r) : andThen num (fun x => andThen num fun y => k x y) ts = k x y r := by
 obtain ⟨a, s, h1, h2⟩ := Foyer.Plan.then_ok h
 obtain ⟨b, s2, h3, h4⟩ := Foyer.Plan.then_ok h2
 cases h4
 rw [then_of h1, then_of h3]
theorem point_bad {γ : Type} {ts r : List TokP} {k : Nat → Nat → Par γ} (h : pointP ts = .bad r) : andThen num (fun x => andThen num fun y => k x y) ts = .bad r := by
 unfold pointP andThen give at h
 unfold andThen
 cases h1 : num ts with
 | bad s => rw [h1] at h; cases h; rfl
 | ok a s =>
  rw [h1] at h
  dsimp only at h ⊢
  cases h2 : num s with
  | bad s2 => rw [h2] at h; cases h; rfl
  | ok b s2 => rw [h2] at h; cases h
theorem nums_one (ts : List TokP) : numsP 1 ts = andThen num (fun x => give [x]) ts := rfl
theorem nums_two (ts : List TokP) : numsP 2 ts = andThen pointP (fun p => give [p.1, p.2]) ts := by
 unfold pointP numsP andThen
 rw [nums_one]
 unfold andThen give
 cases num ts with
 | bad s => rfl
 | ok a s => dsimp only; cases num s <;> rfl
theorem nums_four (ts : List TokP) : numsP 4 ts = andThen boxP (fun b => give [b.x, b.y, b.x2, b.y2]) ts := by
 show andThen (andThen (numsP 2) _) _ ts = _
 unfold andThen
 rw [nums_two]
 unfold boxP pointP andThen give
 cases num ts with
 | bad s => rfl
 | ok a s =>
  dsimp only
  cases num s with
  | bad s => rfl
  | ok b s =>
   dsimp only
   cases num s with
   | bad s => rfl
   | ok c s => dsimp only; cases num s <;> rfl
section
variable (bp L : Nat) (ts : List TokP) (vb B : Nat) (T T' : TypeId) (cs : List Value) (w : World) (h : At w bp L ts) (hB : Blk w B T cs) (hb1 : bp < B) (hb2 : vb ≠ B) (hb3 : vb ≠ bp)
include h hB hb1 hb2 hb3
theorem numbers1_any (o : Nat) (ho : o < cs.length) (hv : Blk w vb T' [.pointer (some ⟨B, o, none⟩)]) :
  Calls Tryz.prog 87 #[.pointer (some ⟨bp, 0, none⟩), .slice (some ⟨vb, 0, none⟩) 1 1] w (Gives bp L (twoB bp B) w (num ts) fun x e w' => e = .returned (.tuple #[]) ∧ Blk w' B T (cs.set o (.int .i64 (x : Nat)))) := by
 refine (numbers_any bp L ts [o] 1 rfl (by decide) vb B T T' cs w h hv hB (fun q hq => by rw [List.mem_singleton] at hq; subst hq; exact ho) hb1 hb2 hb3).mono ?_
 rintro e w' (⟨xs, r, h1, ⟨rfl, h2⟩, h3, h4⟩ | ⟨r, h1, rfl, h4⟩)
 ·rw [nums_one] at h1
  obtain ⟨x, s, k1, k2⟩ := Foyer.Plan.then_ok h1
  cases k2
  exact gives_ok x r k1 ⟨rfl, h2⟩ h3 h4
 ·rw [nums_one] at h1
  cases hn : num ts with
  | ok x s => rw [then_of hn] at h1; cases h1
  | bad s => rw [then_bad hn] at h1; cases h1; exact gives_bad _ rfl h4
theorem numbers2_any (o1 o2 : Nat) (ho1 : o1 < cs.length) (ho2 : o2 < cs.length) (hv : Blk w vb T' [.pointer (some ⟨B, o1, none⟩), .pointer (some ⟨B, o2, none⟩)]) :
  Calls Tryz.prog 87 #[.pointer (some ⟨bp, 0, none⟩), .slice (some ⟨vb, 0, none⟩) 2 2] w (Gives bp L (twoB bp B) w (pointP ts) fun p e w' => e = .returned (.tuple #[]) ∧ Blk w' B T ((cs.set o1 (.int .i64 (p.1 : Nat))).set o2 (.int .i64 (p.2 : Nat)))) := by
 refine (numbers_any bp L ts [o1, o2] 2 rfl (by decide) vb B T T' cs w h hv hB (fun q hq => by
  rcases List.mem_cons.1 hq with rfl | hq
  ·exact ho1
  ·rw [List.mem_singleton] at hq; subst hq; exact ho2) hb1 hb2 hb3).mono ?_
 rintro e w' (⟨xs, r, h1, ⟨rfl, h2⟩, h3, h4⟩ | ⟨r, h1, rfl, h4⟩)
 ·rw [nums_two] at h1
  obtain ⟨x, s, k1, k2⟩ := Foyer.Plan.then_ok h1
  cases k2
  exact gives_ok x r k1 ⟨rfl, h2⟩ h3 h4
 ·rw [nums_two] at h1
  cases hn : pointP ts with
  | ok x s => rw [then_of hn] at h1; cases h1
  | bad s => rw [then_bad hn] at h1; cases h1; exact gives_bad _ rfl h4
theorem numbers4_any (h4 : 4 ≤ cs.length) (hv : Blk w vb T' [.pointer (some ⟨B, 0, none⟩), .pointer (some ⟨B, 1, none⟩), .pointer (some ⟨B, 2, none⟩), .pointer (some ⟨B, 3, none⟩)]) :
  Calls Tryz.prog 87 #[.pointer (some ⟨bp, 0, none⟩), .slice (some ⟨vb, 0, none⟩) 4 4] w (Gives bp L (twoB bp B) w (boxP ts) fun p e w' => e = .returned (.tuple #[]) ∧ Blk w' B T ((((cs.set 0 (.int .i64 (p.x : Nat))).set 1 (.int .i64 (p.y : Nat))).set 2 (.int .i64 (p.x2 : Nat))).set 3 (.int .i64 (p.y2 : Nat)))) := by
 refine (numbers_any bp L ts [0, 1, 2, 3] 4 rfl (by decide) vb B T T' cs w h hv hB (fun q hq => by
  simp only [List.mem_cons, List.not_mem_nil, or_false] at hq
  omega) hb1 hb2 hb3).mono ?_
 rintro e w' (⟨xs, r, h1, ⟨rfl, h2⟩, h3, h4⟩ | ⟨r, h1, rfl, h4⟩)
 ·rw [nums_four] at h1
  obtain ⟨x, s, k1, k2⟩ := Foyer.Plan.then_ok h1
  cases k2
  exact gives_ok x r k1 ⟨rfl, h2⟩ h3 h4
 ·rw [nums_four] at h1
  cases hn : boxP ts with
  | ok x s => rw [then_of hn] at h1; cases h1
  | bad s => rw [then_bad hn] at h1; cases h1; exact gives_bad _ rfl h4
end
theorem setCells_two (w : World) (b : Nat) (v0 v1 : Value) : (w.setCell ⟨b, 0, none⟩ v0).setCell ⟨b, 1, none⟩ v1 = w.setCells b 0 [v0, v1] := rfl
theorem setCells_three (w : World) (b : Nat) (v0 v1 v2 : Value) : ((w.setCell ⟨b, 0, none⟩ v0).setCell ⟨b, 1, none⟩ v1).setCell ⟨b, 2, none⟩ v2 = w.setCells b 0 [v0, v1, v2] := rfl
theorem setCells_four (w : World) (b : Nat) (v0 v1 v2 v3 : Value) : (((w.setCell ⟨b, 0, none⟩ v0).setCell ⟨b, 1, none⟩ v1).setCell ⟨b, 2, none⟩ v2).setCell ⟨b, 3, none⟩ v3 = w.setCells b 0 [v0, v1, v2, v3] := rfl
theorem setCells_seven (w : World) (b : Nat) (v0 v1 v2 v3 v4 v5 v6 : Value) : ((((((w.setCell ⟨b, 0, none⟩ v0).setCell ⟨b, 1, none⟩ v1).setCell ⟨b, 2, none⟩ v2).setCell ⟨b, 3, none⟩ v3).setCell ⟨b, 4, none⟩ v4).setCell ⟨b, 5, none⟩ v5).setCell ⟨b, 6, none⟩ v6 = w.setCells b 0 [v0, v1, v2, v3, v4, v5, v6] := rfl
theorem setCells_eight (w : World) (b : Nat) (v0 v1 v2 v3 v4 v5 v6 v7 : Value) : (((((((w.setCell ⟨b, 0, none⟩ v0).setCell ⟨b, 1, none⟩ v1).setCell ⟨b, 2, none⟩ v2).setCell ⟨b, 3, none⟩ v3).setCell ⟨b, 4, none⟩ v4).setCell ⟨b, 5, none⟩ v5).setCell ⟨b, 6, none⟩ v6).setCell ⟨b, 7, none⟩ v7 = w.setCells b 0 [v0, v1, v2, v3, v4, v5, v6, v7] := rfl
def pointC (p : Nat × Nat) : List Value := [.int .i64 (p.1 : Nat), .int .i64 (p.2 : Nat)]
def boxC (b : BoxP) : List Value := [.int .i64 (b.x : Nat), .int .i64 (b.y : Nat), .int .i64 (b.x2 : Nat), .int .i64 (b.y2 : Nat)]
def AggV {α : Type} (C : α → List Value) (a : α) (e : Ending) (_ : World) : Prop := e = .returned (.agg (C a).toArray)
theorem At.result {W : World} {bp L b : Nat} {ts : List TokP} (h : At W bp L ts) (hb : bp < b) (vs : List Value) : At (W.setCells b 0 vs) bp L ts :=
 h.kept (Kp.setCells (E := fun k => k = b) (Or.inl rfl) vs 0 W (Kp.refl _ _)) fun k hk => by have : k = b := hk; omega
set_option maxRecDepth 100000 in
theorem point_any (bp L : Nat) (ts : List TokP) (w : World) (h : At w bp L ts) : Calls Tryz.prog 147 #[.pointer (some ⟨bp, 0, none⟩)] w (Gives bp L (onlyB bp) w (pointP ts) (AggV pointC)) := by
 have hlt := h.lt
 have R0 := hid ((Blk.new w 23 [.int .i64 0, .int .i64 0]).alloc (.cells #[.int .i64 0, .int .i64 0] 23))
 have V0 := Blk.new (w.alloc (.cells #[.int .i64 0, .int .i64 0] 23)) 23 [.int .i64 0, .int .i64 0]
 have K0 : Hid (Kp (onlyB bp) w ((w.alloc (.cells #[.int .i64 0, .int .i64 0] 23)).alloc (.cells #[.int .i64 0, .int .i64 0] 23))) := hid (((Kp.refl _ _).alloc _).alloc _)
 have A0 : Hid (At ((w.alloc (.cells #[.int .i64 0, .int .i64 0] 23)).alloc (.cells #[.int .i64 0, .int .i64 0] 23)) bp L ts) := hid (h.kept (E := fun _ => False) (((Kp.refl _ _).alloc _).alloc _) (fun _ h => h.elim))
 clear h
 go_enter Tryz.func147, Tryz.ntmps147
 go_upto_region 2 with fail
 have hs0 : w.heap.size + 2 ≤ ((w.alloc (.cells #[.int .i64 0, .int .i64 0] 23)).alloc (.cells #[.int .i64 0, .int .i64 0] 23)).heap.size := by simp
 have hv : (w.alloc (.cells #[.int .i64 0, .int .i64 0] 23)).heap.size = w.heap.size + 1 := by simp
 rw [hv] at V0
 have V0 := hid V0
 generalize (w.alloc (.cells #[.int .i64 0, .int .i64 0] 23)).alloc (.cells #[.int .i64 0, .int .i64 0] 23) = W0 at *
 clear hv
 go_wp2_with fail
 refine (numbers2_any bp L ts W0.heap.size (w.heap.size + 1) _ 162 [.int .i64 0, .int .i64 0] _ (A0.out.kept (E := fun _ => False) ((Kp.refl _ _).alloc _) (fun _ h => h.elim)) (V0.out.alloc _) (by omega) (by omega) (by omega) 0 1 (by decide) (by decide) (Blk.new W0 _ [.pointer (some ⟨w.heap.size + 1, 0, none⟩), .pointer (some ⟨w.heap.size + 1, 1, none⟩)])).mono ?_
 rintro e w1 (⟨p, r, h1, ⟨rfl, v1⟩, a1, k1⟩ | ⟨r, h1, rfl, k1⟩)
 ·have kk : Kp (onlyB bp) w w1 := ((K0.out.alloc _).call k1 (fun k hk => hk.elim (fun h => Or.inl h) (fun h => Or.inr (by have : k = w.heap.size + 1 := h; omega))))
  have r1 := (R0.out.alloc (.cells #[.pointer (some ⟨w.heap.size + 1, 0, none⟩), .pointer (some ⟨w.heap.size + 1, 1, none⟩)] 162)).kept k1 (fun h => h.elim (fun h => by omega) (fun h => by omega))
  have c0 := v1.cell (i := 0) rfl
  have c1 := v1.cell (i := 1) rfl
  have z0 := r1.cell (i := 0) rfl
  have z1 := r1.cell (i := 1) rfl
  have zf := r1.free
  have R1 := hid r1; have A1 := hid a1; have KK := hid kk; have H1 := hid h1
  clear r1 a1 kk h1 v1 k1 R0 V0 K0 A0
  go_wp2
  rw [setCells_two]
  exact bodyPost_ret (results_cell_mid rfl _ _ w.heap.size (pointC p) _ rfl (R1.out.whole (vs := pointC p) rfl).range Tryz.underlying23 rfl (by kernel_rfl)) rfl
   (gives_ok p r H1.out rfl (A1.out.result hlt _) (KK.out.result (Nat.le_refl _) _))
 ·have kk : Kp (onlyB bp) w w1 := ((K0.out.alloc _).call k1 (fun k hk => hk.elim (fun h => Or.inl h) (fun h => Or.inr (by have : k = w.heap.size + 1 := h; omega))))
  have KK := hid kk; have H1 := hid h1
  clear h1 k1 kk R0 V0 K0 A0
  unfold failP
  go_wp2
  exact ⟨rfl, gives_bad r H1.out KK.out⟩
set_option maxRecDepth 100000 in
theorem box_any (bp L : Nat) (ts : List TokP) (w : World) (h : At w bp L ts) : Calls Tryz.prog 144 #[.pointer (some ⟨bp, 0, none⟩)] w (Gives bp L (onlyB bp) w (boxP ts) (AggV boxC)) := by
 have hlt := h.lt
 have R0 := hid ((Blk.new w 74 [.int .i64 0, .int .i64 0, .int .i64 0, .int .i64 0]).alloc (.cells #[.int .i64 0, .int .i64 0, .int .i64 0, .int .i64 0] 74))
 have V0 := Blk.new (w.alloc (.cells #[.int .i64 0, .int .i64 0, .int .i64 0, .int .i64 0] 74)) 74 [.int .i64 0, .int .i64 0, .int .i64 0, .int .i64 0]
 have K0 : Hid (Kp (onlyB bp) w ((w.alloc (.cells #[.int .i64 0, .int .i64 0, .int .i64 0, .int .i64 0] 74)).alloc (.cells #[.int .i64 0, .int .i64 0, .int .i64 0, .int .i64 0] 74))) := hid (((Kp.refl _ _).alloc _).alloc _)
 have A0 : Hid (At ((w.alloc (.cells #[.int .i64 0, .int .i64 0, .int .i64 0, .int .i64 0] 74)).alloc (.cells #[.int .i64 0, .int .i64 0, .int .i64 0, .int .i64 0] 74)) bp L ts) := hid (h.kept (E := fun _ => False) (((Kp.refl _ _).alloc _).alloc _) (fun _ h => h.elim))
 clear h
 go_enter Tryz.func144, Tryz.ntmps144
 go_upto_region 2 with fail
 have hs0 : w.heap.size + 2 ≤ ((w.alloc (.cells #[.int .i64 0, .int .i64 0, .int .i64 0, .int .i64 0] 74)).alloc (.cells #[.int .i64 0, .int .i64 0, .int .i64 0, .int .i64 0] 74)).heap.size := by simp
 have hv : (w.alloc (.cells #[.int .i64 0, .int .i64 0, .int .i64 0, .int .i64 0] 74)).heap.size = w.heap.size + 1 := by simp
 rw [hv] at V0
 have V0 := hid V0
 generalize (w.alloc (.cells #[.int .i64 0, .int .i64 0, .int .i64 0, .int .i64 0] 74)).alloc (.cells #[.int .i64 0, .int .i64 0, .int .i64 0, .int .i64 0] 74) = W0 at *
 clear hv
 go_wp2_with fail
 refine (numbers4_any bp L ts W0.heap.size (w.heap.size + 1) _ 162 [.int .i64 0, .int .i64 0, .int .i64 0, .int .i64 0] _ (A0.out.kept (E := fun _ => False) ((Kp.refl _ _).alloc _) (fun _ h => h.elim)) (V0.out.alloc _) (by omega) (by omega) (by omega) (by decide) (Blk.new W0 _ [.pointer (some ⟨w.heap.size + 1, 0, none⟩), .pointer (some ⟨w.heap.size + 1, 1, none⟩), .pointer (some ⟨w.heap.size + 1, 2, none⟩), .pointer (some ⟨w.heap.size + 1, 3, none⟩)])).mono ?_
 rintro e w1 (⟨p, r, h1, ⟨rfl, v1⟩, a1, k1⟩ | ⟨r, h1, rfl, k1⟩)
 ·have kk : Kp (onlyB bp) w w1 := ((K0.out.alloc _).call k1 (fun k hk => hk.elim (fun h => Or.inl h) (fun h => Or.inr (by have : k = w.heap.size + 1 := h; omega))))
  have r1 := (R0.out.alloc (.cells #[.pointer (some ⟨w.heap.size + 1, 0, none⟩), .pointer (some ⟨w.heap.size + 1, 1, none⟩), .pointer (some ⟨w.heap.size + 1, 2, none⟩), .pointer (some ⟨w.heap.size + 1, 3, none⟩)] 162)).kept k1 (fun h => h.elim (fun h => by omega) (fun h => by omega))
  have c0 := v1.cell (i := 0) rfl
  have c1 := v1.cell (i := 1) rfl
  have c2 := v1.cell (i := 2) rfl
  have c3 := v1.cell (i := 3) rfl
  have z0 := r1.cell (i := 0) rfl
  have z1 := r1.cell (i := 1) rfl
  have z2 := r1.cell (i := 2) rfl
  have z3 := r1.cell (i := 3) rfl
  have zf := r1.free
  have R1 := hid r1; have A1 := hid a1; have KK := hid kk; have H1 := hid h1
  clear r1 a1 kk h1 v1 k1 R0 V0 K0 A0
  go_wp2
  rw [setCells_four]
  exact bodyPost_ret (results_cell_mid rfl _ _ w.heap.size (boxC p) _ rfl (R1.out.whole (vs := boxC p) rfl).range Tryz.underlying74 rfl (by kernel_rfl)) rfl
   (gives_ok p r H1.out rfl (A1.out.result hlt _) (KK.out.result (Nat.le_refl _) _))
 ·have kk : Kp (onlyB bp) w w1 := ((K0.out.alloc _).call k1 (fun k hk => hk.elim (fun h => Or.inl h) (fun h => Or.inr (by have : k = w.heap.size + 1 := h; omega))))
  have KK := hid kk; have H1 := hid h1
  clear h1 k1 kk R0 V0 K0 A0
  unfold failP
  go_wp2
  exact ⟨rfl, gives_bad r H1.out KK.out⟩
end Go.Proofs.YtilfpnkcgjonhaaGreatDoor.Pl
namespace Go.Proofs.YtilfpnkcgjonhaaGreatDoor.Pl
open Go.RowKit Go.Sort Foyer.Plan
theorem ba_beq (a b : List UInt8) : ((⟨a.toArray⟩ : ByteArray) == ⟨b.toArray⟩) = decide (a = b) := by
 show (a.toArray == b.toArray) = _
 by_cases h : a = b <;> simp [h]
def entryAt (s : List UInt8) : List (List UInt8 × Value) → Option Value
 | [] => none
 | (k, v) :: r => if s = k then some v else entryAt s r
def entriesOf : Nat → List (List UInt8 × Value) → List MapEntry
 | _, [] => []
 | i, (k, v) :: r => { key := .string ⟨k.toArray⟩, val := v, born := i } :: entriesOf (i + 1) r
theorem findNow_at (s : List UInt8) : ∀ (l : List (List UInt8 × Value)) (j i : Nat), ∃ n, Instr.findNow .string (.string ⟨s.toArray⟩) (entriesOf j l) i = some ((entryAt s l).map fun v => (n, v))
 | [], _, _ => ⟨0, rfl⟩
 | (k, v) :: r, j, i => by
  unfold entriesOf Instr.findNow entryAt
  simp only [Instr.sameNow, ba_beq]
  by_cases h : s = k
  ·rw [if_pos h, decide_eq_true h]
   exact ⟨i, rfl⟩
  ·rw [if_neg h, decide_eq_false h]
   exact findNow_at s r (j + 1) (i + 1)
def MapB (w : World) (b : Nat) (l : List (List UInt8 × Value)) (c : Nat) : Prop := w.heap[b]? = some (.map (entriesOf 0 l).toArray c)
theorem MapB.lt {w : World} {b c : Nat} {l : List (List UInt8 × Value)} (h : MapB w b l c) : b < w.heap.size := (Array.getElem?_eq_some_iff.1 h).1
theorem MapB.kept {E : Nat → Prop} {w w' : World} {b c : Nat} {l : List (List UInt8 × Value)} (h : MapB w b l c) (k : Kp E w w') (hE : ¬ E b) : MapB w' b l c := (k.block b h.lt hE).trans h
theorem map_lookup {t K : TypeId} {E : TypeId} (ht : Tryz.prog.underlying t = some (.map K E)) (hK : Tryz.prog.underlying K = some .string) {z : Value} (w : World) (hz : (zeroValue E).run Tryz.prog w = .ok z w) {b c : Nat} {l : List (List UInt8 × Value)} (h : MapB w b l c) (s : List UInt8) :
  (Instr.lookup t (.map (some b)) (.string ⟨s.toArray⟩) false).run Tryz.prog w = .ok ((entryAt s l).getD z) w := by
 obtain ⟨n, hn⟩ := findNow_at s l 0 0
 have hk := MapKept.run_findKey (w := w) (kt := K) hK hn
 have hck : ∀ em, (Instr.checkKey em 10000 K (.string ⟨s.toArray⟩)).run Tryz.prog w = .ok () w := fun em => by
  rw [show (10000 : Nat) = 9999 + 1 from rfl]
  rw [Instr.checkKey]
  simp only [Sem.run_bind, run_underlying hK, Result.andThen_ok, Sem.run_pure]
 cases he : entryAt s l with
 | none => rw [he] at hk; simp [Instr.lookup, run_underlying ht, MapKept.run_getObj_map h, hck, hk, hz, Result.andThen]
 | some v => rw [he] at hk; simp [Instr.lookup, run_underlying ht, MapKept.run_getObj_map h, hck, hk, Result.andThen]
theorem map_insert {t K : TypeId} {E : TypeId} (ht : Tryz.prog.underlying t = some (.map K E)) (hK : Tryz.prog.underlying K = some .string) (w : World) (l : List (List UInt8 × Value)) (s : List UInt8) (v : Value) (hs : entryAt s l = none) (n : Nat) (hn : l.length = n) (b : Nat) (hb : b = w.heap.size) :
  (Instr.mapUpdate t (.map (some b)) (.string ⟨s.toArray⟩) v).run Tryz.prog (w.alloc (.map (entriesOf 0 l).toArray n)) = .ok () (w.alloc (.map (entriesOf 0 (l ++ [(s, v)])).toArray (n + 1))) := by
 subst hb
 obtain ⟨m, hm⟩ := findNow_at s l 0 0
 rw [hs] at hm
 have hk := MapKept.run_findKey (w := w.alloc (.map (entriesOf 0 l).toArray n)) (kt := K) hK hm
 have hck : ∀ em, (Instr.checkKey em 10000 K (.string ⟨s.toArray⟩)).run Tryz.prog (w.alloc (.map (entriesOf 0 l).toArray n)) = .ok () (w.alloc (.map (entriesOf 0 l).toArray n)) := fun em => by
  rw [show (10000 : Nat) = 9999 + 1 from rfl]
  rw [Instr.checkKey]
  simp only [Sem.run_bind, run_underlying hK, Result.andThen_ok, Sem.run_pure]
 have hh : (w.alloc (.map (entriesOf 0 l).toArray n)).heap[w.heap.size]? = some (.map (entriesOf 0 l).toArray n) := (MapKept.heap_alloc w _).1
 have he : ∀ (l : List (List UInt8 × Value)) (j : Nat), entriesOf j (l ++ [(s, v)]) = entriesOf j l ++ [{ key := .string ⟨s.toArray⟩, val := v, born := j + l.length }] := by
  intro l
  induction l with
  | nil => intro j; rfl
  | cons x r ih => intro j; rw [List.cons_append, entriesOf, entriesOf, ih, List.cons_append, List.length_cons, show j + 1 + r.length = j + (r.length + 1) by omega]
 rw [he l 0, hn, Nat.zero_add]
 have hset : ∀ (o : Obj), (setObj w.heap.size o).run Tryz.prog (w.alloc (.map (entriesOf 0 l).toArray n)) = .ok () (w.alloc o) := fun o => by
  rw [MapKept.run_setObj_map o hh]
  have e : (w.alloc (.map (entriesOf 0 l).toArray n)).heap.setIfInBounds w.heap.size o = (w.alloc o).heap := by
   show (w.heap.push _).setIfInBounds w.heap.size o = w.heap.push o
   apply Array.ext_getElem?
   intro i
   rw [Array.getElem?_setIfInBounds, Array.getElem?_push, Array.getElem?_push]
   by_cases hi : w.heap.size = i
   ·subst hi; simp
   ·rw [if_neg hi, if_neg (fun h => hi h.symm), if_neg (fun h => hi h.symm)]
  rw [e]; rfl
 simp [Instr.mapUpdate, run_underlying ht, MapKept.run_getObj_map hh, hck, hk, hset, Result.andThen]
end Go.Proofs.YtilfpnkcgjonhaaGreatDoor.Pl
namespace Go.Proofs.YtilfpnkcgjonhaaGreatDoor.Pl
open Go.RowKit Go.Sort Foyer.Plan
structure Kind (α : Type) where
 is : World → (Nat → Prop) → List Value → α → Prop
 size : Nat
 kept : ∀ {W W' F c a}, is W F c a → (∀ k, F k → k < W.heap.size → W'.heap[k]? = W.heap[k]?) → is W' F c a
 mono : ∀ {W F F' c a}, is W F c a → (∀ k, F k → k < W.heap.size → F' k) → is W F' c a
 len : ∀ {W F c a}, is W F c a → c.length = size
 one : ∀ {W F c a}, is W F c a → ∀ u ∈ c, u.oneCell' = true
section
variable {α : Type}
theorem All2.imp {β : Type} {R S : β → α → Prop} {bs : List β} {xs : List α} (h : All2 R bs xs) (hi : ∀ b x, R b x → S b x) : All2 S bs xs := by
 induction h with
 | nil => exact .nil
 | cons h _ ih => exact .cons (hi _ _ h) ih
theorem All2.snoc {β : Type} {R : β → α → Prop} {bs : List β} {xs : List α} (h : All2 R bs xs) {b : β} {x : α} (hb : R b x) : All2 R (bs ++ [b]) (xs ++ [x]) := by
 induction h with
 | nil => exact .cons hb .nil
 | cons h _ ih => exact .cons h ih
theorem All2.length {β : Type} {R : β → α → Prop} {bs : List β} {xs : List α} (h : All2 R bs xs) : bs.length = xs.length := by
 induction h with
 | nil => rfl
 | cons _ _ ih => simp [ih]
theorem All2.at {β : Type} {R : β → α → Prop} {bs : List β} {xs : List α} (h : All2 R bs xs) : ∀ {i : Nat} {x : α}, xs[i]? = some x → ∃ b, bs[i]? = some b ∧ R b x := by
 induction h with
 | nil => intro i x hx; simp at hx
 | cons h _ ih =>
  intro i x hx
  cases i with
  | zero => simp only [List.getElem?_cons_zero, Option.some.injEq] at hx; subst hx; exact ⟨_, rfl, h⟩
  | succ i => exact ih (by simpa using hx)
def IsList (K : Kind α) (W : World) (F : Nat → Prop) (T : TypeId) (v : Value) (xs : List α) : Prop :=
 ∃ css, Con W 0 T K.size v css ∧ (∀ k, v.ownBlock = some k → F k) ∧ All2 (K.is W F) css xs
theorem IsList.kept {K : Kind α} {W W' : World} {F : Nat → Prop} {T : TypeId} {v : Value} {xs : List α} (h : IsList K W F T v xs) (hk : ∀ k, F k → k < W.heap.size → W'.heap[k]? = W.heap[k]?) : IsList K W' F T v xs := by
 obtain ⟨css, h1, h2, h3⟩ := h
 exact ⟨css, h1.of_block fun k hv => hk k (h2 k hv) (own_lt h1.own hv).2, h2, All2.imp h3 fun _ _ h => K.kept h hk⟩
theorem IsList.mono {K : Kind α} {W : World} {F F' : Nat → Prop} {T : TypeId} {v : Value} {xs : List α} (h : IsList K W F T v xs) (hk : ∀ k, F k → k < W.heap.size → F' k) : IsList K W F' T v xs := by
 obtain ⟨css, h1, h2, h3⟩ := h
 exact ⟨css, h1, fun k hv => hk k (h2 k hv) (own_lt h1.own hv).2, All2.imp h3 fun _ _ h => K.mono h hk⟩
theorem IsList.one {K : Kind α} {W : World} {F : Nat → Prop} {T : TypeId} {v : Value} {xs : List α} (h : IsList K W F T v xs) : v.oneCell' = true := by
 obtain ⟨css, h1, _⟩ := h
 rcases h1.form with ⟨rfl, _⟩ | ⟨g, cap, cur, rfl, _⟩ <;> rfl
theorem IsList.slice {K : Kind α} {W : World} {F : Nat → Prop} {T : TypeId} {v : Value} {xs : List α} (h : IsList K W F T v xs) : ∃ a n c, v = .slice a n c := by
 obtain ⟨css, h1, _⟩ := h
 rcases h1.form with ⟨rfl, _⟩ | ⟨g, cap, cur, rfl, _⟩ <;> exact ⟨_, _, _, rfl⟩
def Building (K : Kind α) (W : World) (F : Nat → Prop) (B : Nat) (T : TypeId) (v : Value) (xs : List α) : Prop := ∃ css, Con W B T K.size v css ∧ All2 (K.is W F) css xs
theorem building_nil (K : Kind α) (W : World) (F : Nat → Prop) (B : Nat) (T : TypeId) : Building K W F B T (.slice none 0 0) [] := ⟨[], con_nil W B T K.size, .nil⟩
theorem Kind.moved (K : Kind α) {W W' : World} {F F' : Nat → Prop} {c : List Value} {a : α} (h : K.is W F c a) (hk : ∀ k, F k → k < W.heap.size → W'.heap[k]? = W.heap[k]?) (hF : ∀ k, F k → k < W.heap.size → F' k) : K.is W' F' c a := by
 have h1 := K.mono (F' := fun k => F k ∧ k < W.heap.size) h fun k h1 h2 => ⟨h1, h2⟩
 have h2 := K.kept (W' := W') h1 fun k h3 h4 => hk k h3.1 h4
 exact K.mono h2 fun k h3 _ => hF k h3.1 h3.2
theorem Building.kept {K : Kind α} {W W' : World} {F F' : Nat → Prop} {B : Nat} {T : TypeId} {v : Value} {xs : List α} (h : Building K W F B T v xs) (hv : ∀ k, v.ownBlock = some k → W'.heap[k]? = W.heap[k]?) (hk : ∀ k, F k → k < W.heap.size → W'.heap[k]? = W.heap[k]?) (hF : ∀ k, F k → k < W.heap.size → F' k) : Building K W' F' B T v xs := by
 obtain ⟨css, h1, h3⟩ := h
 exact ⟨css, h1.of_block hv, All2.imp h3 fun _ _ h => K.moved h hk hF⟩
theorem Building.lt {K : Kind α} {W : World} {F : Nat → Prop} {B : Nat} {T : TypeId} {v : Value} {xs : List α} (h : Building K W F B T v xs) {k : Nat} (hk : v.ownBlock = some k) : B ≤ k ∧ k < W.heap.size := let ⟨_, h1, _⟩ := h; own_lt h1.own hk
theorem Building.one {K : Kind α} {W : World} {F : Nat → Prop} {B : Nat} {T : TypeId} {v : Value} {xs : List α} (h : Building K W F B T v xs) : v.oneCell' = true := by
 obtain ⟨css, h1, _⟩ := h
 rcases h1.form with ⟨rfl, _⟩ | ⟨g, cap, cur, rfl, _⟩ <;> rfl
theorem Building.done {K : Kind α} {W : World} {F F' : Nat → Prop} {B : Nat} {T : TypeId} {v : Value} {xs : List α} (h : Building K W F B T v xs) (hF : ∀ k, F k → k < W.heap.size → F' k) (hv : ∀ k, B ≤ k → F' k) : IsList K W F' T v xs := by
 obtain ⟨css, h1, h3⟩ := h
 exact ⟨css, h1.base (Nat.zero_le _), fun k hk => hv k (own_lt h1.own hk).1, All2.imp h3 fun _ _ h => K.mono h hF⟩
end
def markCl (m : MarkP) : List Value := [.int .i64 (m.kind : Nat), .int .i64 (m.seat : Nat), .int .i64 (m.other : Nat)]
def areaC (a : AreaP) : List Value := [.string ⟨a.name.toArray⟩, .int .i64 (a.box.x : Nat), .int .i64 (a.box.y : Nat), .int .i64 (a.box.x2 : Nat), .int .i64 (a.box.y2 : Nat), .int .i64 (a.holds : Nat), .int .i64 (a.pos : Nat)]
def plainK {α : Type} (C : α → List Value) (n : Nat) (hn : ∀ a, (C a).length = n) (h1 : ∀ a, ∀ u ∈ C a, u.oneCell' = true) : Kind α where
 is _ _ c a := c = C a
 size := n
 kept h _ := h
 mono h _ := h
 len h := by subst h; exact hn _
 one h := by subst h; exact h1 _
def markK : Kind MarkP := plainK markCl 3 (fun _ => rfl) (fun a u hu => by simp only [markCl, List.mem_cons, List.not_mem_nil, or_false] at hu; rcases hu with rfl | rfl | rfl <;> rfl)
def areaK : Kind AreaP := plainK areaC 7 (fun _ => rfl) (fun a u hu => by simp only [areaC, List.mem_cons, List.not_mem_nil, or_false] at hu; rcases hu with rfl | rfl | rfl | rfl | rfl | rfl | rfl <;> rfl)
def boxK : Kind BoxP := plainK boxC 4 (fun _ => rfl) (fun a u hu => by simp only [boxC, List.mem_cons, List.not_mem_nil, or_false] at hu; rcases hu with rfl | rfl | rfl | rfl <;> rfl)
def pointK : Kind (Nat × Nat) := plainK pointC 2 (fun _ => rfl) (fun a u hu => by simp only [pointC, List.mem_cons, List.not_mem_nil, or_false] at hu; rcases hu with rfl | rfl <;> rfl)
def rowC (r : RowP) (v : Value) : List Value := [.string ⟨r.name.toArray⟩, .int .i64 (r.x : Nat), .int .i64 (r.y : Nat), .int .i64 (r.first : Nat), .int .i64 (r.last : Nat), .int .i64 (r.step : Nat), v, .int .i64 (r.pos : Nat)]
def rowK : Kind RowP where
 is W F c r := ∃ v, c = rowC r v ∧ IsList markK W F 72 v r.marks
 size := 8
 kept h hk := let ⟨v, h1, h2⟩ := h; ⟨v, h1, h2.kept hk⟩
 mono h hk := let ⟨v, h1, h2⟩ := h; ⟨v, h1, h2.mono hk⟩
 len h := by obtain ⟨v, rfl, _⟩ := h; rfl
 one h := by
  obtain ⟨v, rfl, h⟩ := h
  intro u hu
  simp only [rowC, List.mem_cons, List.not_mem_nil, or_false] at hu
  rcases hu with rfl | rfl | rfl | rfl | rfl | rfl | rfl | rfl <;> first | rfl | exact h.one
def blockCl (b : BlockP) (v : Value) : List Value := [.string ⟨b.name.toArray⟩, v, .int .i64 (b.pos : Nat)]
def blockK : Kind BlockP where
 is W F c b := ∃ v, c = blockCl b v ∧ IsList rowK W F 40 v b.rows
 size := 3
 kept h hk := let ⟨v, h1, h2⟩ := h; ⟨v, h1, h2.kept hk⟩
 mono h hk := let ⟨v, h1, h2⟩ := h; ⟨v, h1, h2.mono hk⟩
 len h := by obtain ⟨v, rfl, _⟩ := h; rfl
 one h := by
  obtain ⟨v, rfl, h⟩ := h
  intro u hu
  simp only [blockCl, List.mem_cons, List.not_mem_nil, or_false] at hu
  rcases hu with rfl | rfl | rfl <;> first | rfl | exact h.one
def levelCl (l : LevelP) (v1 v2 v3 v4 v5 : Value) : List Value := [.string ⟨l.name.toArray⟩, .int .i64 (l.height : Nat), v1, v2, v3, v4, v5, .int .i64 (l.pos : Nat)]
structure LevelIs (W : World) (F : Nat → Prop) (c : List Value) (l : LevelP) (v1 v2 v3 v4 v5 : Value) : Prop where
 cells : c = levelCl l v1 v2 v3 v4 v5
 blocks : IsList blockK W F 44 v1 l.blocks
 areas : IsList areaK W F 76 v2 l.areas
 aisles : IsList boxK W F 74 v3 l.aisles
 pillars : IsList boxK W F 74 v4 l.pillars
 doors : IsList pointK W F 23 v5 l.doors
def levelK : Kind LevelP where
 is W F c l := ∃ v1 v2 v3 v4 v5, LevelIs W F c l v1 v2 v3 v4 v5
 size := 8
 kept h hk := let ⟨v1, v2, v3, v4, v5, h⟩ := h; ⟨v1, v2, v3, v4, v5, h.cells, h.blocks.kept hk, h.areas.kept hk, h.aisles.kept hk, h.pillars.kept hk, h.doors.kept hk⟩
 mono h hk := let ⟨v1, v2, v3, v4, v5, h⟩ := h; ⟨v1, v2, v3, v4, v5, h.cells, h.blocks.mono hk, h.areas.mono hk, h.aisles.mono hk, h.pillars.mono hk, h.doors.mono hk⟩
 len h := by obtain ⟨v1, v2, v3, v4, v5, h⟩ := h; rw [h.cells]; rfl
 one h := by
  obtain ⟨v1, v2, v3, v4, v5, h⟩ := h
  rw [h.cells]
  intro u hu
  simp only [levelCl, List.mem_cons, List.not_mem_nil, or_false] at hu
  rcases hu with rfl | rfl | rfl | rfl | rfl | rfl | rfl | rfl
  ·rfl
  ·rfl
  ·exact h.blocks.one
  ·exact h.areas.one
  ·exact h.aisles.one
  ·exact h.pillars.one
  ·exact h.doors.one
  ·rfl
def hallCl (h : HallP) (v : Value) : List Value := [.string ⟨h.name.toArray⟩, .int .i64 (h.sx : Nat), .int .i64 (h.sy : Nat), v]
def hallK : Kind HallP where
 is W F c h := ∃ v, c = hallCl h v ∧ IsList levelK W F 50 v h.levels
 size := 4
 kept h hk := let ⟨v, h1, h2⟩ := h; ⟨v, h1, h2.kept hk⟩
 mono h hk := let ⟨v, h1, h2⟩ := h; ⟨v, h1, h2.mono hk⟩
 len h := by obtain ⟨v, rfl, _⟩ := h; rfl
 one h := by
  obtain ⟨v, rfl, h⟩ := h
  intro u hu
  simp only [hallCl, List.mem_cons, List.not_mem_nil, or_false] at hu
  rcases hu with rfl | rfl | rfl | rfl <;> first | rfl | exact h.one
theorem setCells_heap (W : World) (b : Nat) (vs : List Value) {k : Nat} (hk : k < W.heap.size) (hb : k ≠ b) : (W.setCells b 0 vs).heap[k]? = W.heap[k]? :=
 (Kp.setCells (E := onlyB b) (Or.inl rfl) vs 0 W (Kp.refl _ _)).block k hk (fun h => hb h)
theorem Building.slice {α : Type} {K : Kind α} {W : World} {F : Nat → Prop} {B : Nat} {T : TypeId} {v : Value} {xs : List α} (h : Building K W F B T v xs) : ∃ a n c, v = .slice a n c := by
 obtain ⟨css, h1, _⟩ := h
 rcases h1.form with ⟨rfl, _⟩ | ⟨g, cap, cur, rfl, _⟩ <;> exact ⟨_, _, _, rfl⟩
theorem shrink {α : Type} {p : Par α} (hp : Det p) {ts r : List TokP} {a : α} (h : p ts = .ok a r) : r.length ≤ ts.length := by
 obtain ⟨pre, rfl, _⟩ := hp.ok _ _ _ h
 simp
theorem Building.result {α : Type} {K : Kind α} {W : World} {B : Nat} {T : TypeId} {v : Value} {xs : List α} (h : Building K W (fun k => B ≤ k ∧ v.ownBlock ≠ some k) B T v xs) {b n : Nat} (hb : b < B) (hn : n ≤ B) (vs : List Value) : IsList K (W.setCells b 0 vs) (fun k => n ≤ k) T v xs := by
 have h2 : Building K (W.setCells b 0 vs) (fun k => B ≤ k) B T v xs := h.kept (fun k hk => setCells_heap W b vs (h.lt hk).2 (by have := (h.lt hk).1; omega)) (fun k hk hlt => setCells_heap W b vs hlt (by have := hk.1; omega)) (fun k hk _ => hk.1)
 exact h2.done (fun k hk _ => Nat.le_trans hn hk) (fun k hk => Nat.le_trans hn hk)
def KindV {α : Type} (K : Kind α) (n : Nat) (a : α) (e : Ending) (w' : World) : Prop := ∃ c, e = .returned (.agg c.toArray) ∧ K.is w' (fun k => n ≤ k) c a
end Go.Proofs.YtilfpnkcgjonhaaGreatDoor.Pl
namespace Go.Proofs.YtilfpnkcgjonhaaGreatDoor.Pl
open Go.RowKit Go.Sort Go.Shelf Foyer.Plan
set_option maxRecDepth 100000 in
set_option maxHeartbeats 1000000 in
theorem area_any (bp L at_ : Nat) (ts : List TokP) (w : World) (h : At w bp L ts) : Calls Tryz.prog 142 #[.pointer (some ⟨bp, 0, none⟩), .int .i64 (at_ : Nat)] w (Gives bp L (onlyB bp) w (areaP at_ ts) (KindV areaK w.heap.size)) := by
 have hlt := h.lt
 have R0 := Blk.new w 76 [.string ⟨#[]⟩, .int .i64 0, .int .i64 0, .int .i64 0, .int .i64 0, .int .i64 0, .int .i64 0]
 have K0 : Kp (onlyB bp) w (w.alloc (.cells #[.string ⟨#[]⟩, .int .i64 0, .int .i64 0, .int .i64 0, .int .i64 0, .int .i64 0, .int .i64 0] 76)) := (Kp.refl _ _).alloc _
 have A0 := h.kept (E := fun _ => False) ((Kp.refl _ _).alloc (.cells #[.string ⟨#[]⟩, .int .i64 0, .int .i64 0, .int .i64 0, .int .i64 0, .int .i64 0, .int .i64 0] 76)) (fun _ h => h.elim)
 have hs0 : w.heap.size < (w.alloc (.cells #[.string ⟨#[]⟩, .int .i64 0, .int .i64 0, .int .i64 0, .int .i64 0, .int .i64 0, .int .i64 0] 76)).heap.size := by simp
 clear h
 go_enter Tryz.func142, Tryz.ntmps142
 go_upto_region 1 with fail
 generalize w.alloc (.cells #[.string ⟨#[]⟩, .int .i64 0, .int .i64 0, .int .i64 0, .int .i64 0, .int .i64 0, .int .i64 0] 76) = W0 at *
 have R0 := hid R0; have K0 := hid K0; have A0 := hid A0
 go_wp2_with fail
 refine (name_any bp L ts _ A0.out).mono ?_
 rintro e W1 (⟨n, r1, h1, rfl, a1, k1⟩ | ⟨r1, h1, rfl, k1⟩)
 rotate_left
 ·have KK := hid (K0.out.trans k1); have HB := hid h1
  clear h1 k1
  unfold failP
  go_wp2
  refine ⟨rfl, gives_bad _ ?_ KK.out⟩
  show areaP at_ ts = _
  unfold areaP
  rw [then_bad HB.out]
 have R1 := hid (R0.out.kept k1 (fun h => by have : w.heap.size = bp := h; omega))
 have K1 := hid (K0.out.trans k1); have A1 := hid a1; have H1 := hid h1; have hs1 := k1.size
 clear h1 a1 k1  R0 K0 A0
 go_wp2_with fail
 refine (box_any bp L r1 _ A1.out).mono ?_
 rintro e W2 (⟨b, r2, h2, rfl, a2, k2⟩ | ⟨r2, h2, rfl, k2⟩)
 rotate_left
 ·have KK := hid (K1.out.trans k2); have HB := hid h2
  clear h2 k2
  unfold failP
  go_wp2
  refine ⟨rfl, gives_bad _ ?_ KK.out⟩
  show areaP at_ ts = _
  unfold areaP
  rw [then_of H1.out, then_bad HB.out]
 have R2 := hid (R1.out.kept k2 (fun h => by have : w.heap.size = bp := h; omega))
 have K2 := hid (K1.out.trans k2); have A2 := hid a2; have H2 := hid h2; have hs2 := k2.size
 clear h2 a2 k2  R1 K1 A1
 unfold boxC
 go_upto_region 2 with fail
 have V3 := Blk.new W2 76 [.string ⟨n.toArray⟩, .int .i64 (b.x : Nat), .int .i64 (b.y : Nat), .int .i64 (b.x2 : Nat), .int .i64 (b.y2 : Nat), .int .i64 0, .int .i64 (at_ : Nat)]
 have R3 := R2.out.alloc (.cells #[.string ⟨n.toArray⟩, .int .i64 (b.x : Nat), .int .i64 (b.y : Nat), .int .i64 (b.x2 : Nat), .int .i64 (b.y2 : Nat), .int .i64 0, .int .i64 (at_ : Nat)] 76)
 have K3 := K2.out.alloc (.cells #[.string ⟨n.toArray⟩, .int .i64 (b.x : Nat), .int .i64 (b.y : Nat), .int .i64 (b.x2 : Nat), .int .i64 (b.y2 : Nat), .int .i64 0, .int .i64 (at_ : Nat)] 76)
 have A3 := A2.out.kept (E := fun _ => False) ((Kp.refl _ _).alloc (.cells #[.string ⟨n.toArray⟩, .int .i64 (b.x : Nat), .int .i64 (b.y : Nat), .int .i64 (b.x2 : Nat), .int .i64 (b.y2 : Nat), .int .i64 0, .int .i64 (at_ : Nat)] 76)) (fun _ h => h.elim)
 have hs3 : W2.heap.size < (W2.alloc (.cells #[.string ⟨n.toArray⟩, .int .i64 (b.x : Nat), .int .i64 (b.y : Nat), .int .i64 (b.x2 : Nat), .int .i64 (b.y2 : Nat), .int .i64 0, .int .i64 (at_ : Nat)] 76)).heap.size := by simp
 generalize W2.alloc (.cells #[.string ⟨n.toArray⟩, .int .i64 (b.x : Nat), .int .i64 (b.y : Nat), .int .i64 (b.x2 : Nat), .int .i64 (b.y2 : Nat), .int .i64 0, .int .i64 (at_ : Nat)] 76) = W3 at *
 generalize W2.heap.size = vb at *
 have R3 := hid R3
 have V3 := hid V3
 have K3 := hid K3; have A3 := hid A3
 clear R2 K2 A2
 go_wp2_with fail
 refine (word_any bp L r2 wHolds _ A3.out).mono ?_
 rintro e W4 (⟨x3, r4, h4, rfl, a4, k4⟩ | ⟨r4, h4, rfl, k4⟩)
 rotate_left
 ·have KK := hid (K3.out.trans k4); have HB := hid h4
  clear h4 k4
  unfold failP
  go_wp2
  refine ⟨rfl, gives_bad _ ?_ KK.out⟩
  show areaP at_ ts = _
  unfold areaP
  rw [then_of H1.out, then_of H2.out, then_bad HB.out]
 have R4 := hid (R3.out.kept k4 (fun h => by have : w.heap.size = bp := h; omega))
 have V4 := hid (V3.out.kept k4 (fun h => by have : vb = bp := h; omega))
 have K4 := hid (K3.out.trans k4); have A4 := hid a4; have H4 := hid h4; have hs4 := k4.size
 clear h4 a4 k4  R3 V3 K3 A3
 go_wp2_with fail
 refine (numbers1_any bp L r4 W4.heap.size vb 76 162 [.string ⟨n.toArray⟩, .int .i64 (b.x : Nat), .int .i64 (b.y : Nat), .int .i64 (b.x2 : Nat), .int .i64 (b.y2 : Nat), .int .i64 0, .int .i64 (at_ : Nat)] _ (A4.out.kept (E := fun _ => False) ((Kp.refl _ _).alloc _) (fun _ h => h.elim)) (V4.out.alloc _) (by omega) (by have := V4.out.lt; omega) (by have := A4.out.lt; omega) 5 (by simp) (Blk.new W4 _ [.pointer (some ⟨vb, 5, none⟩)])).mono ?_
 rintro e W5 (⟨hn, r5, h5, ⟨rfl, v5⟩, a5, k5⟩ | ⟨r5, h5, rfl, k5⟩)
 rotate_left
 ·have KK := hid ((K4.out.alloc _).call k5 (fun k hk => hk.elim (fun h => Or.inl h) (fun h => Or.inr (by have : k = vb := h; omega)))); have HB := hid h5
  clear h5 k5
  unfold failP
  go_wp2
  refine ⟨rfl, gives_bad _ ?_ KK.out⟩
  show areaP at_ ts = _
  unfold areaP
  rw [then_of H1.out, then_of H2.out, then_of H4.out, then_bad HB.out]
 have R5 := hid ((R4.out.alloc (.cells #[.pointer (some ⟨vb, 5, none⟩)] 162)).kept k5 (fun h => h.elim (fun h => by have : w.heap.size = bp := h; omega) (fun h => by have : w.heap.size = vb := h; omega)))
 have V5 : Hid (Blk W5 vb 76 [.string ⟨n.toArray⟩, .int .i64 (b.x : Nat), .int .i64 (b.y : Nat), .int .i64 (b.x2 : Nat), .int .i64 (b.y2 : Nat), .int .i64 (hn : Nat), .int .i64 (at_ : Nat)]) := hid v5
 have K5 := hid ((K4.out.alloc _).call k5 (fun k hk => hk.elim (fun h => Or.inl h) (fun h => Or.inr (by have : k = vb := h; omega)))); have A5 := hid a5; have H5 := hid h5
 have hs5 : W4.heap.size ≤ W5.heap.size := Nat.le_trans (by simp) k5.size
 clear h5 a5 k5 v5  R4 V4 K4 A4
 go_wp2_with fail
 refine (word_any bp L r5 wSemi _ A5.out).mono ?_
 rintro e W6 (⟨x5, r6, h6, rfl, a6, k6⟩ | ⟨r6, h6, rfl, k6⟩)
 rotate_left
 ·have KK := hid (K5.out.trans k6); have HB := hid h6
  clear h6 k6
  unfold failP
  go_wp2
  refine ⟨rfl, gives_bad _ ?_ KK.out⟩
  show areaP at_ ts = _
  unfold areaP
  rw [then_of H1.out, then_of H2.out, then_of H4.out, then_of H5.out, then_bad HB.out]
 have R6 := hid (R5.out.kept k6 (fun h => by have : w.heap.size = bp := h; omega))
 have V6 := hid (V5.out.kept k6 (fun h => by have : vb = bp := h; omega))
 have K6 := hid (K5.out.trans k6); have A6 := hid a6; have H6 := hid h6; have hs6 := k6.size
 clear h6 a6 k6  R5 V5 K5 A5
 have x0 := V6.out.cell (i := 0) rfl
 have x1 := V6.out.cell (i := 1) rfl
 have x2 := V6.out.cell (i := 2) rfl
 have x3 := V6.out.cell (i := 3) rfl
 have x4 := V6.out.cell (i := 4) rfl
 have x5 := V6.out.cell (i := 5) rfl
 have x6 := V6.out.cell (i := 6) rfl
 have z0 := R6.out.cell (i := 0) rfl
 have z1 := R6.out.cell (i := 1) rfl
 have z2 := R6.out.cell (i := 2) rfl
 have z3 := R6.out.cell (i := 3) rfl
 have z4 := R6.out.cell (i := 4) rfl
 have z5 := R6.out.cell (i := 5) rfl
 have z6 := R6.out.cell (i := 6) rfl
 have zf := R6.out.free
 go_wp2
 rw [setCells_seven]
 refine bodyPost_ret (results_cell_mid rfl _ _ (w.heap.size) [.string ⟨n.toArray⟩, .int .i64 (b.x : Nat), .int .i64 (b.y : Nat), .int .i64 (b.x2 : Nat), .int .i64 (b.y2 : Nat), .int .i64 (hn : Nat), .int .i64 (at_ : Nat)] _ rfl (R6.out.whole (vs := [.string ⟨n.toArray⟩, .int .i64 (b.x : Nat), .int .i64 (b.y : Nat), .int .i64 (b.x2 : Nat), .int .i64 (b.y2 : Nat), .int .i64 (hn : Nat), .int .i64 (at_ : Nat)]) rfl).range Tryz.underlying76 rfl (by kernel_rfl)) rfl ?_
 refine gives_ok (⟨n, b, hn, at_⟩) r6 ?_ ?_ (A6.out.result (by omega) _) (K6.out.result (by omega) _)
 ·show areaP at_ ts = _
  unfold areaP
  rw [then_of H1.out, then_of H2.out, then_of H4.out, then_of H5.out, then_of H6.out]
  rfl
 ·exact ⟨_, rfl, rfl⟩
end Go.Proofs.YtilfpnkcgjonhaaGreatDoor.Pl
namespace Go.Proofs.YtilfpnkcgjonhaaGreatDoor.Pl
open Go.RowKit Go.Sort Go.Shelf Foyer.Plan
def marksL : List (List UInt8 × Value) := [(wGap, .int .i64 1), (wWheel, .int .i64 2), (wHidden, .int .i64 3), (wBeside, .int .i64 4)]
theorem marks_at (s : List UInt8) : (entryAt s marksL).getD (.int .i64 0) = .int .i64 (markKind s : Nat) := by
 unfold marksL entryAt markKind
 split
 ·rfl
 ·unfold entryAt
  split
  ·rfl
  ·unfold entryAt
   split
   ·rfl
   ·unfold entryAt
    split
    ·rfl
    ·rfl
theorem marks_look (w : World) {b c : Nat} (h : MapB w b marksL c) (s : List UInt8) : (Instr.lookup 232 (.map (some b)) (.string ⟨s.toArray⟩) false).run Tryz.prog w = .ok (.int .i64 (markKind s : Nat)) w := by
 rw [map_lookup Tryz.underlying232 Tryz.underlying9 w (z := .int .i64 0) (by kernel_rfl) h, marks_at]
theorem markC_ent (args : Array Value) (w : World) : (callFunc 197 args).run Tryz.prog w = .ok (.enter 197 args) w := enters_of Tryz.func197 (by kernel_rfl) rfl args w
set_option maxRecDepth 100000 in
theorem markC_asks (kb mb c : Nat) (E : Nat → Prop) (w : World) (hk : Blk w kb 232 [.map (some mb)]) (hm : MapB w mb marksL c) (h1 : ¬ E kb) (h2 : ¬ E mb) : Asks 197 #[.pointer (some ⟨kb, 0, none⟩)] (fun t => decide (markKind t.text ≠ 0)) E w := by
 intro w1 t k
 have hB := (hk.kept k h1).alloc (.cells #[.int .i64 (t.kind : Nat), .string ⟨t.text.toArray⟩, .int .i64 (t.val : Nat), .int .i64 (t.pos : Nat)] 119)
 have hM := (hm.kept k h2).kept (E := fun _ => False) ((Kp.refl _ _).alloc (.cells #[.int .i64 (t.kind : Nat), .string ⟨t.text.toArray⟩, .int .i64 (t.val : Nat), .int .i64 (t.pos : Nat)] 119)) (fun h => h)
 have h0 := hB.cell (i := 0) rfl
 have hl := marks_look _ hM t.text
 have e : (((markKind t.text : Nat) : Int) != 0) = decide (markKind t.text ≠ 0) := by
  by_cases h : markKind t.text = 0 <;> simp [h]
 show Calls Tryz.prog 197 #[.agg #[.int .i64 (t.kind : Nat), .string ⟨t.text.toArray⟩, .int .i64 (t.val : Nat), .int .i64 (t.pos : Nat)], .pointer (some ⟨kb, 0, none⟩)] w1 _
 have HE := hid e
 clear hB hM k hk hm h1 h2 e
 obtain ⟨m, hmk⟩ : ∃ m, markKind t.text = m := ⟨_, rfl⟩
 rw [hmk] at HE hl
 have HMK := hid hmk
 clear hmk
 go_enter Tryz.func197, Tryz.ntmps197
 go_wp2
 refine bodyPost_ret (results_tmp rfl _ _ _) rfl ⟨?_, (Kp.refl _ _).alloc _⟩
 show Ending.returned (.bool (((m : Nat) : Int) != 0)) = Ending.returned (.bool (decide (markKind t.text ≠ 0)))
 rw [HMK.out, HE.out]
set_option maxRecDepth 100000 in
set_option maxHeartbeats 2000000 in
theorem markp_any (bp L : Nat) (ts : List TokP) (w : World) (h : At w bp L ts) : Calls Tryz.prog 184 #[.pointer (some ⟨bp, 0, none⟩)] w (Gives bp L (onlyB bp) w (markP ts) (KindV markK w.heap.size)) := by
 have hlt := h.lt
 have hmf := makes_func
 have HA := hid h
 obtain ⟨w1, hw1⟩ : ∃ w1, w.alloc (.cells #[.int .i64 0, .int .i64 0, .int .i64 0] 72) = w1 := ⟨_, rfl⟩
 have hsz : w1.heap.size = w.heap.size + 1 := by rw [← hw1]; simp
 have i0 : (Instr.mapUpdate 232 (.map (some (w.heap.size + 1))) (.string ⟨#[103, 97, 112]⟩) (.int .i64 1)).run Tryz.prog (w1.alloc (.map #[] 0)) = .ok () (w1.alloc (.map (entriesOf 0 [(wGap, .int .i64 1)]).toArray 1)) :=
  map_insert Tryz.underlying232 Tryz.underlying9 w1 [] wGap (.int .i64 1) rfl 0 rfl _ hsz.symm
 have i1 : (Instr.mapUpdate 232 (.map (some (w.heap.size + 1))) (.string ⟨#[119, 104, 101, 101, 108]⟩) (.int .i64 2)).run Tryz.prog (w1.alloc (.map (entriesOf 0 [(wGap, .int .i64 1)]).toArray 1)) = .ok () (w1.alloc (.map (entriesOf 0 [(wGap, .int .i64 1), (wWheel, .int .i64 2)]).toArray 2)) :=
  map_insert Tryz.underlying232 Tryz.underlying9 w1 [(wGap, .int .i64 1)] wWheel (.int .i64 2) rfl 1 rfl _ hsz.symm
 have i2 : (Instr.mapUpdate 232 (.map (some (w.heap.size + 1))) (.string ⟨#[104, 105, 100, 100, 101, 110]⟩) (.int .i64 3)).run Tryz.prog (w1.alloc (.map (entriesOf 0 [(wGap, .int .i64 1), (wWheel, .int .i64 2)]).toArray 2)) = .ok () (w1.alloc (.map (entriesOf 0 [(wGap, .int .i64 1), (wWheel, .int .i64 2), (wHidden, .int .i64 3)]).toArray 3)) :=
  map_insert Tryz.underlying232 Tryz.underlying9 w1 [(wGap, .int .i64 1), (wWheel, .int .i64 2)] wHidden (.int .i64 3) rfl 2 rfl _ hsz.symm
 have i3 : (Instr.mapUpdate 232 (.map (some (w.heap.size + 1))) (.string ⟨#[98, 101, 115, 105, 100, 101]⟩) (.int .i64 4)).run Tryz.prog (w1.alloc (.map (entriesOf 0 [(wGap, .int .i64 1), (wWheel, .int .i64 2), (wHidden, .int .i64 3)]).toArray 3)) = .ok () (w1.alloc (.map (entriesOf 0 marksL).toArray 4)) :=
  map_insert Tryz.underlying232 Tryz.underlying9 w1 [(wGap, .int .i64 1), (wWheel, .int .i64 2), (wHidden, .int .i64 3)] wBeside (.int .i64 4) rfl 3 rfl _ hsz.symm
 clear h
 go_enter Tryz.func184, Tryz.ntmps184
 have hmm : (Instr.makeMap 232 none).run Tryz.prog w1 = .ok (.map (some w1.heap.size)) (w1.alloc (.map #[] 0)) := run_makeMap _ _
 have R0 := ((Blk.new w 72 [.int .i64 0, .int .i64 0, .int .i64 0]).alloc (.map (entriesOf 0 marksL).toArray 4)).alloc (.cells #[.map (some (w.heap.size + 1))] 232)
 have D0 := Blk.new (w1.alloc (.map (entriesOf 0 marksL).toArray 4)) 232 [.map (some (w.heap.size + 1))]
 have M0 : MapB ((w1.alloc (.map (entriesOf 0 marksL).toArray 4)).alloc (.cells #[.map (some (w.heap.size + 1))] 232)) (w.heap.size + 1) marksL 4 := by
  have : MapB (w1.alloc (.map (entriesOf 0 marksL).toArray 4)) (w.heap.size + 1) marksL 4 := by rw [← hsz]; exact (MapKept.heap_alloc w1 _).1
  exact this.kept (E := fun _ => False) ((Kp.refl _ _).alloc _) (fun h => h)
 have K0 := (((Kp.refl (onlyB bp) w).alloc (.cells #[.int .i64 0, .int .i64 0, .int .i64 0] 72)).alloc (.map (entriesOf 0 marksL).toArray 4)).alloc (.cells #[.map (some (w.heap.size + 1))] 232)
 have A0 := HA.out.kept (E := fun _ => False) ((((Kp.refl _ w).alloc (.cells #[.int .i64 0, .int .i64 0, .int .i64 0] 72)).alloc (.map (entriesOf 0 marksL).toArray 4)).alloc (.cells #[.map (some (w.heap.size + 1))] 232)) (fun _ h => h.elim)
 rw [hw1] at R0 K0 A0
 have hs0 : w.heap.size + 3 ≤ ((w1.alloc (.map (entriesOf 0 marksL).toArray 4)).alloc (.cells #[.map (some (w.heap.size + 1))] 232)).heap.size := by simp [hsz]
 have hdn : (w1.alloc (.map (entriesOf 0 marksL).toArray 4)).heap.size = w.heap.size + 2 := by simp [hsz]
 rw [hdn] at D0
 clear HA
 go_upto_region 2 with fail
 clear i0 i1 i2 i3 hmm hdn
 generalize (w1.alloc (.map (entriesOf 0 marksL).toArray 4)).alloc (.cells #[.map (some (w.heap.size + 1))] 232) = W0 at *
 clear hsz hw1 w1
 have R0 := hid R0; have K0 := hid K0; have A0 := hid A0; have D0 := hid D0; have M0 := hid M0
 go_wp2_with fail
 refine (take_any bp L ts 197 markC_ent #[.pointer (some ⟨w.heap.size + 2, 0, none⟩)] (fun t => decide (markKind t.text ≠ 0)) _ A0.out (markC_asks (w.heap.size + 2) (w.heap.size + 1) 4 _ _ D0.out M0.out (fun h => h) (fun h => h))).mono ?_
 rintro e W1 (⟨t, r1, h1, rfl, a1, k1⟩ | ⟨r1, h1, rfl, k1⟩)
 rotate_left
 ·have KK := hid (K0.out.trans k1); have HB := hid h1
  clear h1 k1
  unfold failP
  go_wp2
  refine ⟨rfl, gives_bad _ ?_ KK.out⟩
  show markP ts = _
  unfold markP
  rw [then_bad HB.out]
 have R1 := hid (R0.out.kept k1 (fun h => by have : w.heap.size = bp := h; omega))
 have D1 := hid (D0.out.kept k1 (fun h => by have : (w.heap.size + 2) = bp := h; omega))
 have K1 := hid (K0.out.trans k1); have A1 := hid a1; have H1 := hid h1; have hs1 := k1.size
 have M1 := hid (M0.out.kept k1 (fun h => by have : w.heap.size + 1 = bp := h; omega)); clear M0
 clear h1 a1 k1  R0 D0 K0 A0
 obtain ⟨kd, hkd⟩ : ∃ kd, markKind t.text = kd := ⟨_, rfl⟩
 have ml := marks_look _ (M1.out.kept (E := fun _ => False) ((Kp.refl _ _).alloc (.cells #[.int .i64 (t.kind : Nat), .string ⟨t.text.toArray⟩, .int .i64 (t.val : Nat), .int .i64 (t.pos : Nat)] 119)) (fun h => h)) t.text
 rw [hkd] at ml
 have ML := hid ml; have HKD := hid hkd
 clear ml hkd M1
 unfold tkV
 go_upto_region 3 with fail
 have X2 := Blk.new W1 119 [.int .i64 (t.kind : Nat), .string ⟨t.text.toArray⟩, .int .i64 (t.val : Nat), .int .i64 (t.pos : Nat)]
 have R2 := R1.out.alloc (.cells #[.int .i64 (t.kind : Nat), .string ⟨t.text.toArray⟩, .int .i64 (t.val : Nat), .int .i64 (t.pos : Nat)] 119)
 have D2 := D1.out.alloc (.cells #[.int .i64 (t.kind : Nat), .string ⟨t.text.toArray⟩, .int .i64 (t.val : Nat), .int .i64 (t.pos : Nat)] 119)
 have K2 := K1.out.alloc (.cells #[.int .i64 (t.kind : Nat), .string ⟨t.text.toArray⟩, .int .i64 (t.val : Nat), .int .i64 (t.pos : Nat)] 119)
 have A2 := A1.out.kept (E := fun _ => False) ((Kp.refl _ _).alloc (.cells #[.int .i64 (t.kind : Nat), .string ⟨t.text.toArray⟩, .int .i64 (t.val : Nat), .int .i64 (t.pos : Nat)] 119)) (fun _ h => h.elim)
 have hs2 : W1.heap.size < (W1.alloc (.cells #[.int .i64 (t.kind : Nat), .string ⟨t.text.toArray⟩, .int .i64 (t.val : Nat), .int .i64 (t.pos : Nat)] 119)).heap.size := by simp
 generalize W1.alloc (.cells #[.int .i64 (t.kind : Nat), .string ⟨t.text.toArray⟩, .int .i64 (t.val : Nat), .int .i64 (t.pos : Nat)] 119) = W2 at *
 generalize W1.heap.size = xb at *
 have R2 := hid R2
 have D2 := hid D2
 have X2 := hid X2
 have K2 := hid K2; have A2 := hid A2
 clear R1 D1 K1 A1
 have cD := D2.out.cell (i := 0) rfl
 have cX := X2.out.cell (i := 1) rfl
 have ml := ML.out
 clear ML
 go_upto_region 4 with fail
 clear cD cX ml
 have V3 := Blk.new W2 72 [.int .i64 (kd : Nat), .int .i64 0, .int .i64 0]
 have R3 := R2.out.alloc (.cells #[.int .i64 (kd : Nat), .int .i64 0, .int .i64 0] 72)
 have D3 := D2.out.alloc (.cells #[.int .i64 (kd : Nat), .int .i64 0, .int .i64 0] 72)
 have X3 := X2.out.alloc (.cells #[.int .i64 (kd : Nat), .int .i64 0, .int .i64 0] 72)
 have K3 := K2.out.alloc (.cells #[.int .i64 (kd : Nat), .int .i64 0, .int .i64 0] 72)
 have A3 := A2.out.kept (E := fun _ => False) ((Kp.refl _ _).alloc (.cells #[.int .i64 (kd : Nat), .int .i64 0, .int .i64 0] 72)) (fun _ h => h.elim)
 have hs3 : W2.heap.size < (W2.alloc (.cells #[.int .i64 (kd : Nat), .int .i64 0, .int .i64 0] 72)).heap.size := by simp
 generalize W2.alloc (.cells #[.int .i64 (kd : Nat), .int .i64 0, .int .i64 0] 72) = W3 at *
 generalize W2.heap.size = vb at *
 have R3 := hid R3
 have D3 := hid D3
 have X3 := hid X3
 have V3 := hid V3
 have K3 := hid K3; have A3 := hid A3
 clear R2 D2 X2 K2 A2
 go_wp2_with fail
 refine (numbers1_any bp L r1 W3.heap.size vb 72 162 [.int .i64 (kd : Nat), .int .i64 0, .int .i64 0] _ (A3.out.kept (E := fun _ => False) ((Kp.refl _ _).alloc _) (fun _ h => h.elim)) (V3.out.alloc _) (by omega) (by have := V3.out.lt; omega) (by have := A3.out.lt; omega) 1 (by simp) (Blk.new W3 _ [.pointer (some ⟨vb, 1, none⟩)])).mono ?_
 rintro e W4 (⟨st, r4, h4, ⟨rfl, v4⟩, a4, k4⟩ | ⟨r4, h4, rfl, k4⟩)
 rotate_left
 ·have KK := hid ((K3.out.alloc _).call k4 (fun k hk => hk.elim (fun h => Or.inl h) (fun h => Or.inr (by have : k = vb := h; omega)))); have HB := hid h4
  clear h4 k4
  unfold failP
  go_wp2
  refine ⟨rfl, gives_bad _ ?_ KK.out⟩
  show markP ts = _
  unfold markP
  rw [then_of H1.out, then_bad HB.out]
 have R4 := hid ((R3.out.alloc (.cells #[.pointer (some ⟨vb, 1, none⟩)] 162)).kept k4 (fun h => h.elim (fun h => by have : w.heap.size = bp := h; omega) (fun h => by have : w.heap.size = vb := h; omega)))
 have D4 := hid ((D3.out.alloc (.cells #[.pointer (some ⟨vb, 1, none⟩)] 162)).kept k4 (fun h => h.elim (fun h => by have : (w.heap.size + 2) = bp := h; omega) (fun h => by have : (w.heap.size + 2) = vb := h; omega)))
 have X4 := hid ((X3.out.alloc (.cells #[.pointer (some ⟨vb, 1, none⟩)] 162)).kept k4 (fun h => h.elim (fun h => by have : xb = bp := h; omega) (fun h => by have : xb = vb := h; omega)))
 have V4 : Hid (Blk W4 vb 72 [.int .i64 (kd : Nat), .int .i64 (st : Nat), .int .i64 0]) := hid v4
 have K4 := hid ((K3.out.alloc _).call k4 (fun k hk => hk.elim (fun h => Or.inl h) (fun h => Or.inr (by have : k = vb := h; omega)))); have A4 := hid a4; have H4 := hid h4
 have hs4 : W3.heap.size ≤ W4.heap.size := Nat.le_trans (by simp) k4.size
 clear h4 a4 k4 v4  R3 D3 X3 V3 K3 A3
 have cV := V4.out.cell (i := 0) rfl
 by_cases h4 : kd = 4
 ·have e4 : (((kd : Nat) : Int) == 4) = true := by simp [h4]
  have HQ := hid h4
  clear h4
  go_wp2_with fail
  refine (word_any bp L r4 wOf _ A4.out).mono ?_
  rintro e W5 (⟨x3, r5, h5, rfl, a5, k5⟩ | ⟨r5, h5, rfl, k5⟩)
  rotate_left
  ·have KK := hid (K4.out.trans k5); have HB := hid h5
   clear h5 k5
   unfold failP
   go_wp2
   refine ⟨rfl, gives_bad _ ?_ KK.out⟩
   show markP ts = _
   unfold markP
   rw [then_of H1.out, then_of H4.out, HKD.out, if_pos HQ.out, then_bad HB.out]
  have R5 := hid (R4.out.kept k5 (fun h => by have : w.heap.size = bp := h; omega))
  have D5 := hid (D4.out.kept k5 (fun h => by have : (w.heap.size + 2) = bp := h; omega))
  have X5 := hid (X4.out.kept k5 (fun h => by have : xb = bp := h; omega))
  have V5 := hid (V4.out.kept k5 (fun h => by have : vb = bp := h; omega))
  have K5 := hid (K4.out.trans k5); have A5 := hid a5; have H5 := hid h5; have hs5 := k5.size
  clear h5 a5 k5  R4 D4 X4 V4 K4 A4
  go_wp2_with fail
  refine (numbers1_any bp L r5 W5.heap.size vb 72 162 [.int .i64 (kd : Nat), .int .i64 (st : Nat), .int .i64 0] _ (A5.out.kept (E := fun _ => False) ((Kp.refl _ _).alloc _) (fun _ h => h.elim)) (V5.out.alloc _) (by omega) (by have := V5.out.lt; omega) (by have := A5.out.lt; omega) 2 (by simp) (Blk.new W5 _ [.pointer (some ⟨vb, 2, none⟩)])).mono ?_
  rintro e W6 (⟨ot, r6, h6, ⟨rfl, v6⟩, a6, k6⟩ | ⟨r6, h6, rfl, k6⟩)
  rotate_left
  ·have KK := hid ((K5.out.alloc _).call k6 (fun k hk => hk.elim (fun h => Or.inl h) (fun h => Or.inr (by have : k = vb := h; omega)))); have HB := hid h6
   clear h6 k6
   unfold failP
   go_wp2
   refine ⟨rfl, gives_bad _ ?_ KK.out⟩
   show markP ts = _
   unfold markP
   rw [then_of H1.out, then_of H4.out, HKD.out, if_pos HQ.out, then_of H5.out, then_bad HB.out]
  have R6 := hid ((R5.out.alloc (.cells #[.pointer (some ⟨vb, 2, none⟩)] 162)).kept k6 (fun h => h.elim (fun h => by have : w.heap.size = bp := h; omega) (fun h => by have : w.heap.size = vb := h; omega)))
  have D6 := hid ((D5.out.alloc (.cells #[.pointer (some ⟨vb, 2, none⟩)] 162)).kept k6 (fun h => h.elim (fun h => by have : (w.heap.size + 2) = bp := h; omega) (fun h => by have : (w.heap.size + 2) = vb := h; omega)))
  have X6 := hid ((X5.out.alloc (.cells #[.pointer (some ⟨vb, 2, none⟩)] 162)).kept k6 (fun h => h.elim (fun h => by have : xb = bp := h; omega) (fun h => by have : xb = vb := h; omega)))
  have V6 : Hid (Blk W6 vb 72 [.int .i64 (kd : Nat), .int .i64 (st : Nat), .int .i64 (ot : Nat)]) := hid v6
  have K6 := hid ((K5.out.alloc _).call k6 (fun k hk => hk.elim (fun h => Or.inl h) (fun h => Or.inr (by have : k = vb := h; omega)))); have A6 := hid a6; have H6 := hid h6
  have hs6 : W5.heap.size ≤ W6.heap.size := Nat.le_trans (by simp) k6.size
  clear h6 a6 k6 v6  R5 D5 X5 V5 K5 A5
  have x0 := V6.out.cell (i := 0) rfl
  have x1 := V6.out.cell (i := 1) rfl
  have x2 := V6.out.cell (i := 2) rfl
  have z0 := R6.out.cell (i := 0) rfl
  have z1 := R6.out.cell (i := 1) rfl
  have z2 := R6.out.cell (i := 2) rfl
  have zf := R6.out.free
  go_wp2
  rw [setCells_three]
  refine bodyPost_ret (results_cell_mid rfl _ _ (w.heap.size) [.int .i64 (kd : Nat), .int .i64 (st : Nat), .int .i64 (ot : Nat)] _ rfl (R6.out.whole (vs := [.int .i64 (kd : Nat), .int .i64 (st : Nat), .int .i64 (ot : Nat)]) rfl).range Tryz.underlying72 rfl (by kernel_rfl)) rfl ?_
  refine gives_ok (⟨4, st, ot⟩) r6 ?_ ?_ (A6.out.result (by omega) _) (K6.out.result (by omega) _)
  ·show markP ts = _
   unfold markP
   rw [then_of H1.out, then_of H4.out, HKD.out, if_pos HQ.out, then_of H5.out, then_of H6.out]
   rfl
  ·refine ⟨_, rfl, ?_⟩
   show _ = markCl _
   rw [HQ.out]; rfl
 ·have e4 : (((kd : Nat) : Int) == 4) = false := by simp; omega
  have HQ := hid h4
  clear h4
  have x0 := V4.out.cell (i := 0) rfl
  have x1 := V4.out.cell (i := 1) rfl
  have x2 := V4.out.cell (i := 2) rfl
  have z0 := R4.out.cell (i := 0) rfl
  have z1 := R4.out.cell (i := 1) rfl
  have z2 := R4.out.cell (i := 2) rfl
  have zf := R4.out.free
  go_wp2
  rw [setCells_three]
  refine bodyPost_ret (results_cell_mid rfl _ _ (w.heap.size) [.int .i64 (kd : Nat), .int .i64 (st : Nat), .int .i64 0] _ rfl (R4.out.whole (vs := [.int .i64 (kd : Nat), .int .i64 (st : Nat), .int .i64 0]) rfl).range Tryz.underlying72 rfl (by kernel_rfl)) rfl ?_
  refine gives_ok (⟨kd, st, 0⟩) r4 ?_ ?_ (A4.out.result (by omega) _) (K4.out.result (by omega) _)
  ·show markP ts = _
   unfold markP
   rw [then_of H1.out, then_of H4.out, HKD.out, if_neg HQ.out]
   rfl
  ·exact ⟨_, rfl, rfl⟩
end Go.Proofs.YtilfpnkcgjonhaaGreatDoor.Pl
namespace Go.Proofs.YtilfpnkcgjonhaaGreatDoor.Pl
open Go.RowKit Go.Sort Go.Shelf Foyer.Plan Foyer.Round
theorem rowC_ent (args : Array Value) (w : World) : (callFunc 183 args).run Tryz.prog w = .ok (.enter 183 args) w := enters_of Tryz.func183 (by kernel_rfl) rfl args w
theorem rowC_info : (Tryz.prog.info? 72).map (fun i => (i.zero, i.size, i.bytes)) = some (some (.agg #[.int .i64 0, .int .i64 0, .int .i64 0]), markK.size, 24) := by kernel_rfl
set_option linter.unusedSimpArgs false in
set_option maxRecDepth 100000 in
set_option maxHeartbeats 2000000 in
theorem rowC_any (bp L vb pb base : Nat) (ts : List TokP) (nm x y f l s at_ v : Value) (ms : List MarkP) (w : World) (hA : At w bp L ts) (hV : Blk w vb 40 [nm, x, y, f, l, s, v, at_]) (hP : Blk w pb 123 [.pointer (some ⟨bp, 0, none⟩)])
  (hB : Building markK w (fun k => base ≤ k ∧ v.ownBlock ≠ some k) base 72 v ms) (hbw : base ≤ w.heap.size) (hvb : vb < base) (hpb : pb < base) (hbp : bp < base) (hbv : bp < vb) (hbpb : bp ≠ pb) (hlen : ms.length + 1 ≤ 1000000) :
  Calls Tryz.prog 183 #[.pointer (some ⟨vb, 0, none⟩), .pointer (some ⟨pb, 0, none⟩)] w fun e w' =>
   (∃ m r, markP ts = .ok m r ∧ e = .returned (.tuple #[]) ∧ (∃ v', Blk w' vb 40 [nm, x, y, f, l, s, v', at_] ∧ Building markK w' (fun k => base ≤ k ∧ v'.ownBlock ≠ some k) base 72 v' (ms ++ [m])) ∧ At w' bp L r ∧ Kp (fun k => k = bp ∨ k = vb ∨ base ≤ k) w w') ∨ ∃ r, markP ts = .bad r ∧ e = failP r L ∧ Kp (fun k => k = bp ∨ k = vb ∨ base ≤ k) w w' := by
 have HA := hid hA; have HB := hid hB; have HV := hid hV; have HP := hid hP
 clear hA hB hV hP
 go_enter Tryz.func183, Tryz.ntmps183
 refine wp_region_any (by kernel_rfl) ?_
 have hS0 : Blk w.drew vb 40 [nm, x, y, f, l, s, v, at_] ∧ Blk w.drew pb 123 [.pointer (some ⟨bp, 0, none⟩)] := ⟨HV.out, HP.out⟩
 have hA0 : At w.drew bp L ts := HA.out.kept (E := fun _ => False) (Kp.refl _ _).drew (fun _ h => h.elim)
 have hK0 : Kp (fun k => k = bp ∨ k = vb ∨ base ≤ k) w w.drew := (Kp.refl _ _).drew
 have hB0 : Building markK w.drew (fun k => base ≤ k ∧ v.ownBlock ≠ some k) base 72 v ms := HB.out.kept (fun _ _ => rfl) (fun _ _ _ => rfl) (fun _ h _ => h)
 have hz0 : base ≤ w.drew.heap.size := hbw
 refine any_of_held (S := fun W => Blk W vb 40 [nm, x, y, f, l, s, v, at_] ∧ Blk W pb 123 [.pointer (some ⟨bp, 0, none⟩)]) (N := [5, 6, 7]) _ _ _ _ ?_
 change held _ _ _ _ _ _ _ _ _ w.drew
 obtain ⟨wa, hwa⟩ : ∃ wa, w.drew = wa := ⟨_, rfl⟩
 rw [hwa] at hS0 hA0 hK0 hB0 hz0 ⊢
 have HK0 := hid hK0; have HA0 := hid hA0; have HB0 := hid hB0
 clear hK0 hA0 hB0 hwa HA HB HV HP
 refine held_take [1, 5, 6, 7] (i := 0) (v := .pointer (some ⟨vb, 6, none⟩)) rfl (by kernel_rfl) (fun _ _ _ h => h) (Or.inl ⟨by rfl, fun w' hS => by go_simp⟩) hS0 ?_
 try simp only [Act.put, aA, aB, aC]
 refine held_take [5, 6, 7] (i := 1) (v := v) rfl (by kernel_rfl) (fun _ _ _ h => h) (Or.inl ⟨by rfl, fun w' hS => by have hc := hS.1.cell (i := 6) rfl; go_simp⟩) hS0 ?_
 try simp only [Act.put, aA, aB, aC]
 refine held_take [3, 4, 5, 6, 7] (i := 2) (v := .pointer (some ⟨bp, 0, none⟩)) rfl (by kernel_rfl) (fun _ _ _ h => h) (Or.inl ⟨by rfl, fun w' hS => by have hc := hS.2.cell (i := 0) rfl; go_simp⟩) hS0 ?_
 try simp only [Act.put, aA, aB, aC]
 refine held_one (i := 3) rfl (by kernel_rfl) (fun K hK => ?_)
 go_simp
 refine (markp_any bp L ts wa HA0.out).mono ?_
 rintro e W1 (⟨m, r, h1, ⟨c, rfl, hc⟩, a1, k1⟩ | ⟨r, h1, rfl, k1⟩)
 rotate_left
 ·unfold failP
  exact ⟨rfl, Or.inr ⟨r, h1, rfl, HK0.out.call k1 (fun k hk => Or.inl (Or.inl hk))⟩⟩
 have hS1 : Blk W1 vb 40 [nm, x, y, f, l, s, v, at_] ∧ Blk W1 pb 123 [.pointer (some ⟨bp, 0, none⟩)] := ⟨hS0.1.kept k1 (fun h => by have : vb = bp := h; omega), hS0.2.kept k1 (fun h => hbpb h.symm)⟩
 have hz1' : base ≤ W1.heap.size := Nat.le_trans hz0 k1.size
 have hb1 : Building markK W1 (fun k => base ≤ k ∧ v.ownBlock ≠ some k) base 72 v ms := HB0.out.kept (fun k hk => k1.block k (HB0.out.lt hk).2 (fun h => by have h2 := (HB0.out.lt hk).1; have : k = bp := h; omega)) (fun k hk hlt => k1.block k hlt (fun h => by have h2 := hk.1; have : k = bp := h; omega)) (fun _ h _ => h)
 have hsz1 := k1.size
 have hown : ∀ k, v.ownBlock = some k → k < wa.heap.size := fun k hk => (HB0.out.lt hk).2
 have K1 := hid (HK0.out.call k1 (fun k hk => Or.inl (Or.inl hk))); have A1 := hid a1; have H1 := hid h1; have HB1 := hid hb1; have HOW := hid hown
 clear a1 k1 h1 hb1 hown HB0 HK0 HA0
 obtain rfl : c = markCl m := hc
 unfold markCl
 have hc : markK.is W1 (fun k => wa.heap.size ≤ k) (markCl m) m := rfl
 refine hK.out _ _ (fun _ => hS1) ?_
 clear hK K
 try simp only [Act.put, aA, aB, aC]
 refine held_one (i := 4) rfl (by kernel_rfl) (fun K hK => ?_)
 go_simp
 refine hK.out _ _ (fun _ => ⟨hS1.1.alloc _, hS1.2.alloc _⟩) ?_
 clear hK K
 try simp only [Act.put, aA, aB, aC]
 refine held_one (i := 5) rfl (by kernel_rfl) (fun K hK => ?_)
 rw [if_pos (by kernel_rfl)]
 obtain ⟨i0, hi, hz0', hz1, hz2⟩ := info_parts rowC_info
 obtain ⟨css, hcon, hall⟩ := HB1.out
 refine con_append (t := 38) (T := 72) (m := markK.size) (B := base) Tryz.underlying38 hi hz0' hz1 hz2 rfl (by decide) (by decide) (.tmp 3) (.tmp 6) rfl v css (markCl m) rfl (hcon.of_block (fun k hk => Below.heap_alloc _ _ _ (by have := HOW.out k hk; omega))) W1.heap.size rfl (Blk.new W1 72 (markCl m)) (markK.len hc) (markK.one hc) (by rw [All2.length hall]; exact hlen) (by rw [World.size_alloc]; omega) ?_
 intro v' W2 hcon' hg hat hone
 obtain ⟨g, cap, cur, rfl, hgb, hgl, _⟩ : ∃ g cap cur, v' = .slice (some ⟨g, 0, none⟩) (css ++ [(markCl m)]).length cap ∧ base ≤ g ∧ g < W2.heap.size ∧ W2.heap[g]? = some (.cells cur 72 (0, 0)) := by
  rcases hcon'.form with ⟨_, h⟩ | ⟨g, cap, cur, h1, h2, h3, h4, _⟩
  ·simp at h
  ·exact ⟨g, cap, cur, h1, h2, h3, h4⟩
 have hgr : ∀ k, k < W1.heap.size → v.ownBlock ≠ some k → W2.heap[k]? = W1.heap[k]? := fun k hk hn => (hg.block k (by rw [World.size_alloc]; omega) (fun h => hn h.symm)).trans (Below.heap_alloc _ _ _ hk)
 have hnv : v.ownBlock ≠ some vb := fun h => by have := (own_lt hcon.own h).1; omega
 have hnp : v.ownBlock ≠ some pb := fun h => by have := (own_lt hcon.own h).1; omega
 have hnb : v.ownBlock ≠ some bp := fun h => by have := (own_lt hcon.own h).1; omega
 have hS2 : Blk W2 vb 40 [nm, x, y, f, l, s, v, at_] := (hgr vb (by omega) hnv).trans hS1.1
 have K2 : Kp (fun k => k = bp ∨ k = vb ∨ base ≤ k) w W2 := (K1.out.alloc (.cells ((markCl m)).toArray 72)).grown hg (fun k hk => Or.inl (Or.inr (Or.inr (own_lt hcon.own hk).1)))
 have A2 : At W2 bp L r := A1.out.kept (E := fun k => base ≤ k) (((Kp.refl _ W1).alloc (.cells ((markCl m)).toArray 72)).grown hg (fun k hk => Or.inl (own_lt hcon.own hk).1)) (fun k hk => by have : base ≤ k := hk; omega)
 have hg' : v.ownBlock = some g ∨ g = W1.heap.size + 1 := by
  rcases hat with h | h
  ·exact Or.inl h.symm
  ·exact Or.inr (by simpa [Value.ownBlock] using h)
 have hall2 : All2 (markK.is W2 (fun k => base ≤ k ∧ (Value.slice (some ⟨g, 0, none⟩) (css ++ [(markCl m)]).length cap).ownBlock ≠ some k)) (css ++ [(markCl m)]) (ms ++ [m]) := by
  refine All2.snoc (All2.imp hall fun b x h => markK.moved h (fun k hk hlt => hgr k hlt hk.2) (fun k hk hlt => ⟨hk.1, fun e => ?_⟩)) (markK.moved hc (fun k hk hlt => hgr k hlt (fun e => by have := HOW.out k e; have : wa.heap.size ≤ k := hk; omega)) (fun k hk hlt => ⟨by have : wa.heap.size ≤ k := hk; omega, fun e => ?_⟩))
  ·have e' : g = k := by simpa [Value.ownBlock] using e
   subst e'
   rcases hg' with h | h
   ·have := HOW.out g h; have : wa.heap.size ≤ g := hk; omega
   ·omega
  ·have e' : g = k := by simpa [Value.ownBlock] using e
   subst e'
   rcases hg' with h | h
   ·exact hk.2 h
   ·omega
 have HS2 := hid hS2; have HK2 := hid K2; have HA2 := hid A2; have HC2 := hid hcon'; have HALL := hid hall2
 have hc2 := hS2.cell (i := 6) rfl
 have hf2 := hS2.free 6
 clear hS2 K2 A2 hcon' hall2 hgr hg hat hg' hcon hall hc hS0 hS1
 generalize (css ++ [(markCl m)]).length = n2 at *
 refine hK.out _ _ (fun h => absurd (by decide) h) ?_
 clear hK K
 try simp only [Act.put, aA, aB, aC]
 refine held_one (i := 6) rfl (by kernel_rfl) (fun K hK => ?_)
 go_simp
 refine hK.out _ _ (fun h => absurd (by decide) h) ?_
 clear hK K
 try simp only [Act.put, aA, aB, aC]
 refine held_one (i := 7) rfl (by kernel_rfl) (fun K hK => ?_)
 go_simp
 refine hK.out _ _ (fun h => absurd (by decide) h) ?_
 clear hK K
 try simp only [Act.put, aA, aB, aC]
 refine held_done (by kernel_rfl) ?_ _
 go_end0
 refine Or.inl ⟨m, r, H1.out, rfl, ⟨_, HS2.out.set 6 (.slice (some ⟨g, 0, none⟩) n2 cap), ?_⟩, ?_, HK2.out.setOld vb 6 (Or.inr (Or.inl rfl)) _⟩
 rotate_left
 ·exact HA2.out.kept (E := onlyB vb) ((Kp.refl (onlyB vb) W2).setOld vb 6 rfl _) (fun k hk => by have : k = vb := hk; omega)
 have hne : ∀ k, base ≤ k → (W2.setCell ⟨vb, 6, none⟩ (.slice (some ⟨g, 0, none⟩) n2 cap)).heap[k]? = W2.heap[k]? := fun k hk => Below.heap_setCell _ _ _ _ (by show k ≠ vb; omega)
 have hbu : Building markK W2 (fun k => base ≤ k ∧ (Value.slice (some ⟨g, 0, none⟩) n2 cap).ownBlock ≠ some k) base 72 (.slice (some ⟨g, 0, none⟩) n2 cap) (ms ++ [m]) := ⟨_, HC2.out, HALL.out⟩
 exact hbu.kept (fun k hk => hne k (own_lt HC2.out.own hk).1) (fun k hk _ => hne k hk.1) (fun _ h _ => h)
set_option maxRecDepth 100000 in
set_option maxHeartbeats 4000000 in
theorem row_any (bp L : Nat) (ts : List TokP) (w : World) (hts : ts.length ≤ 5000) (h : At w bp L ts) : Calls Tryz.prog 166 #[.pointer (some ⟨bp, 0, none⟩)] w (Gives bp L (onlyB bp) w (rowP ts) (KindV rowK w.heap.size)) := by
 have hlt := h.lt
 have hmf := makes_func
 have P0 := (Blk.new w 123 [.pointer (some ⟨bp, 0, none⟩)]).alloc (.cells #[.string ⟨#[]⟩, .int .i64 0, .int .i64 0, .int .i64 0, .int .i64 0, .int .i64 0, .slice none 0 0, .int .i64 0] 40)
 have R0 := Blk.new (w.alloc (.cells #[.pointer (some ⟨bp, 0, none⟩)] 123)) 40 [.string ⟨#[]⟩, .int .i64 0, .int .i64 0, .int .i64 0, .int .i64 0, .int .i64 0, .slice none 0 0, .int .i64 0]
 rw [show (w.alloc (.cells #[.pointer (some ⟨bp, 0, none⟩)] 123)).heap.size = w.heap.size + 1 by simp] at R0
 have K0 : Kp (onlyB bp) w ((w.alloc (.cells #[.pointer (some ⟨bp, 0, none⟩)] 123)).alloc (.cells #[.string ⟨#[]⟩, .int .i64 0, .int .i64 0, .int .i64 0, .int .i64 0, .int .i64 0, .slice none 0 0, .int .i64 0] 40)) := ((Kp.refl _ _).alloc _).alloc _
 have A0 := h.kept (E := fun _ => False) (((Kp.refl _ w).alloc (.cells #[.pointer (some ⟨bp, 0, none⟩)] 123)).alloc (.cells #[.string ⟨#[]⟩, .int .i64 0, .int .i64 0, .int .i64 0, .int .i64 0, .int .i64 0, .slice none 0 0, .int .i64 0] 40)) (fun _ h => h.elim)
 have hs0 : w.heap.size + 2 ≤ ((w.alloc (.cells #[.pointer (some ⟨bp, 0, none⟩)] 123)).alloc (.cells #[.string ⟨#[]⟩, .int .i64 0, .int .i64 0, .int .i64 0, .int .i64 0, .int .i64 0, .slice none 0 0, .int .i64 0] 40)).heap.size := by simp
 clear h
 go_enter Tryz.func166, Tryz.ntmps166
 go_upto_region 1 with fail
 generalize (w.alloc (.cells #[.pointer (some ⟨bp, 0, none⟩)] 123)).alloc (.cells #[.string ⟨#[]⟩, .int .i64 0, .int .i64 0, .int .i64 0, .int .i64 0, .int .i64 0, .slice none 0 0, .int .i64 0] 40) = W0 at *
 have P0 := hid P0; have R0 := hid R0; have K0 := hid K0; have A0 := hid A0
 have cP0 := P0.out.cell (i := 0) rfl
 go_wp2_with fail
 refine (word_any bp L ts wRow _ A0.out).mono ?_
 rintro e W1 (⟨at_, r1, h1, rfl, a1, k1⟩ | ⟨r1, h1, rfl, k1⟩)
 rotate_left
 ·have KK := hid (K0.out.trans k1); have HB := hid h1
  clear h1 k1
  unfold failP
  go_wp2
  refine ⟨rfl, gives_bad _ ?_ KK.out⟩
  show rowP ts = _
  unfold rowP
  rw [then_bad HB.out]
 have P1 := hid (P0.out.kept k1 (fun h => by have : w.heap.size = bp := h; omega))
 have R1 := hid (R0.out.kept k1 (fun h => by have : (w.heap.size + 1) = bp := h; omega))
 have K1 := hid (K0.out.trans k1); have A1 := hid a1; have H1 := hid h1; have hs1 := k1.size
 clear h1 a1 k1 cP0 P0 R0 K0 A0
 go_upto_region 2 with fail
 have V2 := Blk.new W1 40 [.string ⟨#[]⟩, .int .i64 0, .int .i64 0, .int .i64 0, .int .i64 0, .int .i64 0, .slice none 0 0, .int .i64 (at_ : Nat)]
 have P2 := P1.out.alloc (.cells #[.string ⟨#[]⟩, .int .i64 0, .int .i64 0, .int .i64 0, .int .i64 0, .int .i64 0, .slice none 0 0, .int .i64 (at_ : Nat)] 40)
 have R2 := R1.out.alloc (.cells #[.string ⟨#[]⟩, .int .i64 0, .int .i64 0, .int .i64 0, .int .i64 0, .int .i64 0, .slice none 0 0, .int .i64 (at_ : Nat)] 40)
 have K2 := K1.out.alloc (.cells #[.string ⟨#[]⟩, .int .i64 0, .int .i64 0, .int .i64 0, .int .i64 0, .int .i64 0, .slice none 0 0, .int .i64 (at_ : Nat)] 40)
 have A2 := A1.out.kept (E := fun _ => False) ((Kp.refl _ _).alloc (.cells #[.string ⟨#[]⟩, .int .i64 0, .int .i64 0, .int .i64 0, .int .i64 0, .int .i64 0, .slice none 0 0, .int .i64 (at_ : Nat)] 40)) (fun _ h => h.elim)
 have hs2 : W1.heap.size < (W1.alloc (.cells #[.string ⟨#[]⟩, .int .i64 0, .int .i64 0, .int .i64 0, .int .i64 0, .int .i64 0, .slice none 0 0, .int .i64 (at_ : Nat)] 40)).heap.size := by simp
 generalize W1.alloc (.cells #[.string ⟨#[]⟩, .int .i64 0, .int .i64 0, .int .i64 0, .int .i64 0, .int .i64 0, .slice none 0 0, .int .i64 (at_ : Nat)] 40) = W2 at *
 generalize W1.heap.size = vb at *
 have P2 := hid P2
 have R2 := hid R2
 have V2 := hid V2
 have K2 := hid K2; have A2 := hid A2
 clear P1 R1 K1 A1
 have cP0 := P2.out.cell (i := 0) rfl
 go_wp2_with fail
 refine (name_any bp L r1 _ A2.out).mono ?_
 rintro e W3 (⟨nm, r3, h3, rfl, a3, k3⟩ | ⟨r3, h3, rfl, k3⟩)
 rotate_left
 ·have KK := hid (K2.out.trans k3); have HB := hid h3
  clear h3 k3
  unfold failP
  go_wp2
  refine ⟨rfl, gives_bad _ ?_ KK.out⟩
  show rowP ts = _
  unfold rowP
  rw [then_of H1.out, then_bad HB.out]
 have P3 := hid (P2.out.kept k3 (fun h => by have : w.heap.size = bp := h; omega))
 have R3 := hid (R2.out.kept k3 (fun h => by have : (w.heap.size + 1) = bp := h; omega))
 have V3 := hid (V2.out.kept k3 (fun h => by have : vb = bp := h; omega))
 have K3 := hid (K2.out.trans k3); have A3 := hid a3; have H3 := hid h3; have hs3 := k3.size
 clear h3 a3 k3 cP0 P2 R2 V2 K2 A2
 have cs := V3.out.cell (i := 0) rfl
 have cf := V3.out.free 0
 go_upto_region 3 with fail
 have P4 := P3.out.other (p := ⟨vb, 0, none⟩) (by show ¬ vb = w.heap.size; omega) (.string ⟨nm.toArray⟩)
 have R4 := R3.out.other (p := ⟨vb, 0, none⟩) (by show ¬ vb = (w.heap.size + 1); omega) (.string ⟨nm.toArray⟩)
 have V4 : Blk (W3.setCell ⟨vb, 0, none⟩ (.string ⟨nm.toArray⟩)) vb 40 [.string ⟨nm.toArray⟩, .int .i64 0, .int .i64 0, .int .i64 0, .int .i64 0, .int .i64 0, .slice none 0 0, .int .i64 (at_ : Nat)] := V3.out.set 0 (.string ⟨nm.toArray⟩)
 have K4 := K3.out.setNew vb 0 (by omega) (.string ⟨nm.toArray⟩)
 have A4 := A3.out.kept (E := onlyB vb) ((Kp.refl (onlyB vb) W3).setOld vb 0 rfl (.string ⟨nm.toArray⟩)) (fun k hk => by have : k = vb := hk; omega)
 have hs4 : W3.heap.size ≤ (W3.setCell ⟨vb, 0, none⟩ (.string ⟨nm.toArray⟩)).heap.size := by simp
 generalize W3.setCell ⟨vb, 0, none⟩ (.string ⟨nm.toArray⟩) = W4 at *
 have P4 := hid P4
 have R4 := hid R4
 have V4 := hid V4
 have K4 := hid K4; have A4 := hid A4
 clear cs cf P3 R3 V3 K3 A3
 have cP0 := P4.out.cell (i := 0) rfl
 go_wp2_with fail
 refine (word_any bp L r3 wAt _ A4.out).mono ?_
 rintro e W5 (⟨y1, r5, h5, rfl, a5, k5⟩ | ⟨r5, h5, rfl, k5⟩)
 rotate_left
 ·have KK := hid (K4.out.trans k5); have HB := hid h5
  clear h5 k5
  unfold failP
  go_wp2
  refine ⟨rfl, gives_bad _ ?_ KK.out⟩
  show rowP ts = _
  unfold rowP
  rw [then_of H1.out, then_of H3.out, then_bad HB.out]
 have P5 := hid (P4.out.kept k5 (fun h => by have : w.heap.size = bp := h; omega))
 have R5 := hid (R4.out.kept k5 (fun h => by have : (w.heap.size + 1) = bp := h; omega))
 have V5 := hid (V4.out.kept k5 (fun h => by have : vb = bp := h; omega))
 have K5 := hid (K4.out.trans k5); have A5 := hid a5; have H5 := hid h5; have hs5 := k5.size
 clear h5 a5 k5 cP0 P4 R4 V4 K4 A4
 have cP0 := P5.out.cell (i := 0) rfl
 go_wp2_with fail
 refine (numbers2_any bp L r5 W5.heap.size vb 40 162 [.string ⟨nm.toArray⟩, .int .i64 0, .int .i64 0, .int .i64 0, .int .i64 0, .int .i64 0, .slice none 0 0, .int .i64 (at_ : Nat)] _ (A5.out.kept (E := fun _ => False) ((Kp.refl _ _).alloc _) (fun _ h => h.elim)) (V5.out.alloc _) (by omega) (by have := V5.out.lt; omega) (by have := A5.out.lt; omega) 1 2 (by simp) (by simp) (Blk.new W5 _ [.pointer (some ⟨vb, 1, none⟩), .pointer (some ⟨vb, 2, none⟩)])).mono ?_
 rintro e W6 (⟨xy, r6, h6, ⟨rfl, v6⟩, a6, k6⟩ | ⟨r6, h6, rfl, k6⟩)
 rotate_left
 ·have KK := hid ((K5.out.alloc _).call k6 (fun k hk => hk.elim (fun h => Or.inl h) (fun h => Or.inr (by have : k = vb := h; omega)))); have HB := hid h6
  clear h6 k6
  unfold failP
  go_wp2
  refine ⟨rfl, gives_bad _ ?_ KK.out⟩
  show rowP ts = _
  unfold rowP
  rw [then_of H1.out, then_of H3.out, then_of H5.out, point_bad HB.out]
 have P6 := hid ((P5.out.alloc (.cells #[.pointer (some ⟨vb, 1, none⟩), .pointer (some ⟨vb, 2, none⟩)] 162)).kept k6 (fun h => h.elim (fun h => by have : w.heap.size = bp := h; omega) (fun h => by have : w.heap.size = vb := h; omega)))
 have R6 := hid ((R5.out.alloc (.cells #[.pointer (some ⟨vb, 1, none⟩), .pointer (some ⟨vb, 2, none⟩)] 162)).kept k6 (fun h => h.elim (fun h => by have : (w.heap.size + 1) = bp := h; omega) (fun h => by have : (w.heap.size + 1) = vb := h; omega)))
 have V6 : Hid (Blk W6 vb 40 [.string ⟨nm.toArray⟩, .int .i64 (xy.1 : Nat), .int .i64 (xy.2 : Nat), .int .i64 0, .int .i64 0, .int .i64 0, .slice none 0 0, .int .i64 (at_ : Nat)]) := hid v6
 have K6 := hid ((K5.out.alloc _).call k6 (fun k hk => hk.elim (fun h => Or.inl h) (fun h => Or.inr (by have : k = vb := h; omega)))); have A6 := hid a6; have H6 := hid h6
 have hs6 : W5.heap.size ≤ W6.heap.size := Nat.le_trans (by simp) k6.size
 clear h6 a6 k6 v6 cP0 P5 R5 V5 K5 A5
 have cP0 := P6.out.cell (i := 0) rfl
 go_wp2_with fail
 refine (word_any bp L r6 wSeats _ A6.out).mono ?_
 rintro e W7 (⟨y2, r7, h7, rfl, a7, k7⟩ | ⟨r7, h7, rfl, k7⟩)
 rotate_left
 ·have KK := hid (K6.out.trans k7); have HB := hid h7
  clear h7 k7
  unfold failP
  go_wp2
  refine ⟨rfl, gives_bad _ ?_ KK.out⟩
  show rowP ts = _
  unfold rowP
  rw [then_of H1.out, then_of H3.out, then_of H5.out, point_then H6.out, then_bad HB.out]
 have P7 := hid (P6.out.kept k7 (fun h => by have : w.heap.size = bp := h; omega))
 have R7 := hid (R6.out.kept k7 (fun h => by have : (w.heap.size + 1) = bp := h; omega))
 have V7 := hid (V6.out.kept k7 (fun h => by have : vb = bp := h; omega))
 have K7 := hid (K6.out.trans k7); have A7 := hid a7; have H7 := hid h7; have hs7 := k7.size
 clear h7 a7 k7 cP0 P6 R6 V6 K6 A6
 have cP0 := P7.out.cell (i := 0) rfl
 go_wp2_with fail
 refine (numbers1_any bp L r7 W7.heap.size vb 40 162 [.string ⟨nm.toArray⟩, .int .i64 (xy.1 : Nat), .int .i64 (xy.2 : Nat), .int .i64 0, .int .i64 0, .int .i64 0, .slice none 0 0, .int .i64 (at_ : Nat)] _ (A7.out.kept (E := fun _ => False) ((Kp.refl _ _).alloc _) (fun _ h => h.elim)) (V7.out.alloc _) (by omega) (by have := V7.out.lt; omega) (by have := A7.out.lt; omega) 3 (by simp) (Blk.new W7 _ [.pointer (some ⟨vb, 3, none⟩)])).mono ?_
 rintro e W8 (⟨fi, r8, h8, ⟨rfl, v8⟩, a8, k8⟩ | ⟨r8, h8, rfl, k8⟩)
 rotate_left
 ·have KK := hid ((K7.out.alloc _).call k8 (fun k hk => hk.elim (fun h => Or.inl h) (fun h => Or.inr (by have : k = vb := h; omega)))); have HB := hid h8
  clear h8 k8
  unfold failP
  go_wp2
  refine ⟨rfl, gives_bad _ ?_ KK.out⟩
  show rowP ts = _
  unfold rowP
  rw [then_of H1.out, then_of H3.out, then_of H5.out, point_then H6.out, then_of H7.out, then_bad HB.out]
 have P8 := hid ((P7.out.alloc (.cells #[.pointer (some ⟨vb, 3, none⟩)] 162)).kept k8 (fun h => h.elim (fun h => by have : w.heap.size = bp := h; omega) (fun h => by have : w.heap.size = vb := h; omega)))
 have R8 := hid ((R7.out.alloc (.cells #[.pointer (some ⟨vb, 3, none⟩)] 162)).kept k8 (fun h => h.elim (fun h => by have : (w.heap.size + 1) = bp := h; omega) (fun h => by have : (w.heap.size + 1) = vb := h; omega)))
 have V8 : Hid (Blk W8 vb 40 [.string ⟨nm.toArray⟩, .int .i64 (xy.1 : Nat), .int .i64 (xy.2 : Nat), .int .i64 (fi : Nat), .int .i64 0, .int .i64 0, .slice none 0 0, .int .i64 (at_ : Nat)]) := hid v8
 have K8 := hid ((K7.out.alloc _).call k8 (fun k hk => hk.elim (fun h => Or.inl h) (fun h => Or.inr (by have : k = vb := h; omega)))); have A8 := hid a8; have H8 := hid h8
 have hs8 : W7.heap.size ≤ W8.heap.size := Nat.le_trans (by simp) k8.size
 clear h8 a8 k8 v8 cP0 P7 R7 V7 K7 A7
 have cP0 := P8.out.cell (i := 0) rfl
 go_wp2_with fail
 refine (word_any bp L r8 wTo _ A8.out).mono ?_
 rintro e W9 (⟨y3, r9, h9, rfl, a9, k9⟩ | ⟨r9, h9, rfl, k9⟩)
 rotate_left
 ·have KK := hid (K8.out.trans k9); have HB := hid h9
  clear h9 k9
  unfold failP
  go_wp2
  refine ⟨rfl, gives_bad _ ?_ KK.out⟩
  show rowP ts = _
  unfold rowP
  rw [then_of H1.out, then_of H3.out, then_of H5.out, point_then H6.out, then_of H7.out, then_of H8.out, then_bad HB.out]
 have P9 := hid (P8.out.kept k9 (fun h => by have : w.heap.size = bp := h; omega))
 have R9 := hid (R8.out.kept k9 (fun h => by have : (w.heap.size + 1) = bp := h; omega))
 have V9 := hid (V8.out.kept k9 (fun h => by have : vb = bp := h; omega))
 have K9 := hid (K8.out.trans k9); have A9 := hid a9; have H9 := hid h9; have hs9 := k9.size
 clear h9 a9 k9 cP0 P8 R8 V8 K8 A8
 have cP0 := P9.out.cell (i := 0) rfl
 go_wp2_with fail
 refine (numbers1_any bp L r9 W9.heap.size vb 40 162 [.string ⟨nm.toArray⟩, .int .i64 (xy.1 : Nat), .int .i64 (xy.2 : Nat), .int .i64 (fi : Nat), .int .i64 0, .int .i64 0, .slice none 0 0, .int .i64 (at_ : Nat)] _ (A9.out.kept (E := fun _ => False) ((Kp.refl _ _).alloc _) (fun _ h => h.elim)) (V9.out.alloc _) (by omega) (by have := V9.out.lt; omega) (by have := A9.out.lt; omega) 4 (by simp) (Blk.new W9 _ [.pointer (some ⟨vb, 4, none⟩)])).mono ?_
 rintro e W10 (⟨la, r10, h10, ⟨rfl, v10⟩, a10, k10⟩ | ⟨r10, h10, rfl, k10⟩)
 rotate_left
 ·have KK := hid ((K9.out.alloc _).call k10 (fun k hk => hk.elim (fun h => Or.inl h) (fun h => Or.inr (by have : k = vb := h; omega)))); have HB := hid h10
  clear h10 k10
  unfold failP
  go_wp2
  refine ⟨rfl, gives_bad _ ?_ KK.out⟩
  show rowP ts = _
  unfold rowP
  rw [then_of H1.out, then_of H3.out, then_of H5.out, point_then H6.out, then_of H7.out, then_of H8.out, then_of H9.out, then_bad HB.out]
 have P10 := hid ((P9.out.alloc (.cells #[.pointer (some ⟨vb, 4, none⟩)] 162)).kept k10 (fun h => h.elim (fun h => by have : w.heap.size = bp := h; omega) (fun h => by have : w.heap.size = vb := h; omega)))
 have R10 := hid ((R9.out.alloc (.cells #[.pointer (some ⟨vb, 4, none⟩)] 162)).kept k10 (fun h => h.elim (fun h => by have : (w.heap.size + 1) = bp := h; omega) (fun h => by have : (w.heap.size + 1) = vb := h; omega)))
 have V10 : Hid (Blk W10 vb 40 [.string ⟨nm.toArray⟩, .int .i64 (xy.1 : Nat), .int .i64 (xy.2 : Nat), .int .i64 (fi : Nat), .int .i64 (la : Nat), .int .i64 0, .slice none 0 0, .int .i64 (at_ : Nat)]) := hid v10
 have K10 := hid ((K9.out.alloc _).call k10 (fun k hk => hk.elim (fun h => Or.inl h) (fun h => Or.inr (by have : k = vb := h; omega)))); have A10 := hid a10; have H10 := hid h10
 have hs10 : W9.heap.size ≤ W10.heap.size := Nat.le_trans (by simp) k10.size
 clear h10 a10 k10 v10 cP0 P9 R9 V9 K9 A9
 have cP0 := P10.out.cell (i := 0) rfl
 go_wp2_with fail
 refine (word_any bp L r10 wStep _ A10.out).mono ?_
 rintro e W11 (⟨y4, r11, h11, rfl, a11, k11⟩ | ⟨r11, h11, rfl, k11⟩)
 rotate_left
 ·have KK := hid (K10.out.trans k11); have HB := hid h11
  clear h11 k11
  unfold failP
  go_wp2
  refine ⟨rfl, gives_bad _ ?_ KK.out⟩
  show rowP ts = _
  unfold rowP
  rw [then_of H1.out, then_of H3.out, then_of H5.out, point_then H6.out, then_of H7.out, then_of H8.out, then_of H9.out, then_of H10.out, then_bad HB.out]
 have P11 := hid (P10.out.kept k11 (fun h => by have : w.heap.size = bp := h; omega))
 have R11 := hid (R10.out.kept k11 (fun h => by have : (w.heap.size + 1) = bp := h; omega))
 have V11 := hid (V10.out.kept k11 (fun h => by have : vb = bp := h; omega))
 have K11 := hid (K10.out.trans k11); have A11 := hid a11; have H11 := hid h11; have hs11 := k11.size
 clear h11 a11 k11 cP0 P10 R10 V10 K10 A10
 have cP0 := P11.out.cell (i := 0) rfl
 go_wp2_with fail
 refine (numbers1_any bp L r11 W11.heap.size vb 40 162 [.string ⟨nm.toArray⟩, .int .i64 (xy.1 : Nat), .int .i64 (xy.2 : Nat), .int .i64 (fi : Nat), .int .i64 (la : Nat), .int .i64 0, .slice none 0 0, .int .i64 (at_ : Nat)] _ (A11.out.kept (E := fun _ => False) ((Kp.refl _ _).alloc _) (fun _ h => h.elim)) (V11.out.alloc _) (by omega) (by have := V11.out.lt; omega) (by have := A11.out.lt; omega) 5 (by simp) (Blk.new W11 _ [.pointer (some ⟨vb, 5, none⟩)])).mono ?_
 rintro e W12 (⟨stp, r12, h12, ⟨rfl, v12⟩, a12, k12⟩ | ⟨r12, h12, rfl, k12⟩)
 rotate_left
 ·have KK := hid ((K11.out.alloc _).call k12 (fun k hk => hk.elim (fun h => Or.inl h) (fun h => Or.inr (by have : k = vb := h; omega)))); have HB := hid h12
  clear h12 k12
  unfold failP
  go_wp2
  refine ⟨rfl, gives_bad _ ?_ KK.out⟩
  show rowP ts = _
  unfold rowP
  rw [then_of H1.out, then_of H3.out, then_of H5.out, point_then H6.out, then_of H7.out, then_of H8.out, then_of H9.out, then_of H10.out, then_of H11.out, then_bad HB.out]
 have P12 := hid ((P11.out.alloc (.cells #[.pointer (some ⟨vb, 5, none⟩)] 162)).kept k12 (fun h => h.elim (fun h => by have : w.heap.size = bp := h; omega) (fun h => by have : w.heap.size = vb := h; omega)))
 have R12 := hid ((R11.out.alloc (.cells #[.pointer (some ⟨vb, 5, none⟩)] 162)).kept k12 (fun h => h.elim (fun h => by have : (w.heap.size + 1) = bp := h; omega) (fun h => by have : (w.heap.size + 1) = vb := h; omega)))
 have V12 : Hid (Blk W12 vb 40 [.string ⟨nm.toArray⟩, .int .i64 (xy.1 : Nat), .int .i64 (xy.2 : Nat), .int .i64 (fi : Nat), .int .i64 (la : Nat), .int .i64 (stp : Nat), .slice none 0 0, .int .i64 (at_ : Nat)]) := hid v12
 have K12 := hid ((K11.out.alloc _).call k12 (fun k hk => hk.elim (fun h => Or.inl h) (fun h => Or.inr (by have : k = vb := h; omega)))); have A12 := hid a12; have H12 := hid h12
 have hs12 : W11.heap.size ≤ W12.heap.size := Nat.le_trans (by simp) k12.size
 clear h12 a12 k12 v12 cP0 P11 R11 V11 K11 A11
 have hln : r12.length ≤ 5000 := by
   have l0 := shrink (det_word _) H1.out
   have l1 := shrink det_name H3.out
   have l2 := shrink (det_word _) H5.out
   have l3 := shrink det_point H6.out
   have l4 := shrink (det_word _) H7.out
   have l5 := shrink det_num H8.out
   have l6 := shrink (det_word _) H9.out
   have l7 := shrink det_num H10.out
   have l8 := shrink (det_word _) H11.out
   have l9 := shrink det_num H12.out
   omega
 have hpl := P12.out.lt; have hvl := V12.out.lt; have hbl := A12.out.lt
 have cP := P12.out.cell (i := 0) rfl
 go_wp2_with fail
 refine (until_any bp L wSemi markP eats_mark 183 rowC_ent #[.pointer (some ⟨vb, 0, none⟩), .pointer (some ⟨w.heap.size, 0, none⟩)]
  (fun ms W => ∃ v, Blk W vb 40 [.string ⟨nm.toArray⟩, .int .i64 (xy.1 : Nat), .int .i64 (xy.2 : Nat), .int .i64 (fi : Nat), .int .i64 (la : Nat), .int .i64 (stp : Nat), v, .int .i64 (at_ : Nat)] ∧ Building markK W (fun k => W12.heap.size ≤ k ∧ v.ownBlock ≠ some k) W12.heap.size 72 v ms ∧ Kp (fun k => k = bp ∨ k = vb ∨ W12.heap.size ≤ k) W12 W)
  (fun W => Kp (fun k => k = bp ∨ k = vb ∨ W12.heap.size ≤ k) W12 W) ?keep ?fin 5000 ?step fuel r12 (by unfold fuel; omega) [] (by simpa using hln) W12 ⟨_, V12.out, building_nil _ _ _ _ _, Kp.refl _ _⟩ A12.out).mono ?_
 case keep =>
  rintro ms W W' ⟨v, h1, h2, h3⟩ hk
  exact ⟨v, h1.kept hk (fun h => by have : vb = bp := h; omega), h2.kept (fun k hk' => hk.block k (h2.lt hk').2 (fun h => by have := (h2.lt hk').1; have : k = bp := h; omega)) (fun k hk' hlt => hk.block k hlt (fun h => by have := hk'.1; have : k = bp := h; omega)) (fun _ h _ => h), h3.call hk (fun k h => Or.inl (Or.inl h))⟩
 case fin =>
  rintro ms W W' ⟨v, h1, h2, h3⟩ hk
  exact h3.call hk (fun k h => Or.inl (Or.inl h))
 case step =>
  rintro ms W us ⟨v, h1, h2, h3⟩ hA hN
  refine (rowC_any bp L vb w.heap.size W12.heap.size us (.string ⟨nm.toArray⟩) (.int .i64 (xy.1 : Nat)) (.int .i64 (xy.2 : Nat)) (.int .i64 (fi : Nat)) (.int .i64 (la : Nat)) (.int .i64 (stp : Nat)) (.int .i64 (at_ : Nat)) v ms W hA h1 (P12.out.kept h3 (fun h => by omega)) h2 h3.size (by omega) (by omega) (by omega) (by omega) (by omega) (by omega)).mono ?_
  rintro e W2 (⟨m, q, k1, rfl, ⟨v', k2, k3⟩, k4, k5⟩ | ⟨q, k1, rfl, k5⟩)
  ·exact Or.inl ⟨m, q, k1, rfl, ⟨v', k2, k3, h3.trans k5⟩, k4⟩
  ·exact Or.inr ⟨q, k1, rfl, h3.trans k5⟩
 rintro e W13 (⟨ms, r13, h13, rfl, ⟨v, v13, b13, k13⟩, a13⟩ | ⟨r13, h13, rfl, k13⟩)
 rotate_left
 ·have KK := hid (K12.out.call k13 (fun k hk => by rcases hk with h | h | h; exact Or.inl h; exact Or.inr (by omega); exact Or.inr (by omega))); have HB := hid h13
  clear h13 k13
  unfold failP
  go_wp2
  refine ⟨rfl, gives_bad _ ?_ KK.out⟩
  show rowP ts = _
  unfold rowP
  rw [then_of H1.out, then_of H3.out, then_of H5.out, point_then H6.out, then_of H7.out, then_of H8.out, then_of H9.out, then_of H10.out, then_of H11.out, then_of H12.out, then_bad HB.out]
 obtain ⟨sa, sn, sc, rfl⟩ := b13.slice
 have P13 := hid (P12.out.kept k13 (fun h => by omega))
 have R13 := hid (R12.out.kept k13 (fun h => by omega))
 have V13 := hid v13
 have K13 := hid (K12.out.call k13 (fun k hk => by rcases hk with h | h | h; exact Or.inl h; exact Or.inr (by omega); exact Or.inr (by omega))); have A13 := hid a13; have H13 := hid h13; have HBU := hid b13; have hs13 := k13.size
 clear h13 a13 k13 v13 b13 cP hln P12 R12 V12 K12 A12
 have x0 := V13.out.cell (i := 0) rfl
 have x1 := V13.out.cell (i := 1) rfl
 have x2 := V13.out.cell (i := 2) rfl
 have x3 := V13.out.cell (i := 3) rfl
 have x4 := V13.out.cell (i := 4) rfl
 have x5 := V13.out.cell (i := 5) rfl
 have x6 := V13.out.cell (i := 6) rfl
 have x7 := V13.out.cell (i := 7) rfl
 have z0 := R13.out.cell (i := 0) rfl
 have z1 := R13.out.cell (i := 1) rfl
 have z2 := R13.out.cell (i := 2) rfl
 have z3 := R13.out.cell (i := 3) rfl
 have z4 := R13.out.cell (i := 4) rfl
 have z5 := R13.out.cell (i := 5) rfl
 have z6 := R13.out.cell (i := 6) rfl
 have z7 := R13.out.cell (i := 7) rfl
 have zf := R13.out.free
 go_wp2
 rw [setCells_eight]
 refine bodyPost_ret (results_cell_mid rfl _ _ ((w.heap.size + 1)) [.string ⟨nm.toArray⟩, .int .i64 (xy.1 : Nat), .int .i64 (xy.2 : Nat), .int .i64 (fi : Nat), .int .i64 (la : Nat), .int .i64 (stp : Nat), .slice sa sn sc, .int .i64 (at_ : Nat)] _ rfl (R13.out.whole (vs := [.string ⟨nm.toArray⟩, .int .i64 (xy.1 : Nat), .int .i64 (xy.2 : Nat), .int .i64 (fi : Nat), .int .i64 (la : Nat), .int .i64 (stp : Nat), .slice sa sn sc, .int .i64 (at_ : Nat)]) rfl).range Tryz.underlying40 rfl (by kernel_rfl)) rfl ?_
 refine gives_ok (⟨nm, xy.1, xy.2, fi, la, stp, ms, at_⟩) r13 ?_ ?_ (A13.out.result (by omega) _) (K13.out.result (by omega) _)
 ·show rowP ts = _
  unfold rowP
  rw [then_of H1.out, then_of H3.out, then_of H5.out, point_then H6.out, then_of H7.out, then_of H8.out, then_of H9.out, then_of H10.out, then_of H11.out, then_of H12.out, then_of H13.out]
  rfl
 ·exact ⟨_, rfl, _, rfl, HBU.out.result (by omega) (by omega) _⟩
end Go.Proofs.YtilfpnkcgjonhaaGreatDoor.Pl
