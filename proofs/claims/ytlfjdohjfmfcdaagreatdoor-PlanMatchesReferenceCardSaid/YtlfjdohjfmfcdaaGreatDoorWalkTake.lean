/-
  The walks of what takes the next token.
-/
import Derived.Test.YtlfjdohjfmfcdaaGreatDoorHeap
import Derived.Test.YtlfjdohjfmfcdaaGreatDoorMathPlan
import Derived.Shelf.Abstract

/-! ## The walks of what takes the next token. -/
namespace Go.Proofs.YtlfjdohjfmfcdaaGreatDoor
open Go.RowKit Go.Sort Foyer.Plan
abbrev TokP := Foyer.Lexer.Tok

theorem beq_dec {α : Type} [BEq α] [LawfulBEq α] [DecidableEq α] (a b : α) : (a == b) = decide (a = b) := by
  by_cases h : a = b <;> simp [h]
/-- A token's value. -/
def tkV (t : TokP) : Value := .agg #[.int .i64 (t.kind : Nat), .string ⟨t.text.toArray⟩, .int .i64 (t.val : Nat), .int .i64 (t.pos : Nat)]
/-- The parser: the tokens that are left, and the text's length. -/
def At (w : World) (bp L : Nat) (ts : List TokP) : Prop :=
  ∃ p cap, Blk w bp 73 [.slice p ts.length cap, .int .i64 (L : Nat)] ∧ (ts = [] ∨ ∃ b off, p = some ⟨b, off, none⟩ ∧ b < bp ∧ ∀ j t, ts[j]? = some t → TokAt w b (off + j * 4) t) ∧ ts.length ≤ cap ∧ cap ≤ maxLen ∧ (p = none → cap = 0)
theorem TokAt.kept {E : Nat → Prop} {w w' : World} {b o : Nat} {t : TokP} (h : TokAt w b o t) (k : Kp E w w') (hE : ¬ E b) : TokAt w' b o t := by
  have hb := lt_of_cell h.kind
  have e : ∀ i, w'.cell? ⟨b, i, none⟩ = w.cell? ⟨b, i, none⟩ := fun i => World.cell?_of_block (w := w) (k.block b hb hE)
  exact ⟨by rw [e]; exact h.kind, by rw [e]; exact h.text, by rw [e]; exact h.val, by rw [e]; exact h.pos⟩
theorem At.lt {w : World} {bp L : Nat} {ts : List TokP} (h : At w bp L ts) : bp < w.heap.size := let ⟨_, _, h, _⟩ := h; h.lt
theorem At.kept {E : Nat → Prop} {w w' : World} {bp L : Nat} {ts : List TokP} (h : At w bp L ts) (k : Kp E w w') (hE : ∀ k, E k → bp < k) : At w' bp L ts := by
  obtain ⟨p, cap, hB, hr, hc⟩ := h
  refine ⟨p, cap, hB.kept k (fun he => by have := hE _ he; omega), hr.imp id ?_, hc⟩
  rintro ⟨b, off, rfl, hb, ht⟩
  exact ⟨b, off, rfl, hb, fun j t hj => (ht j t hj).kept k (fun he => by have := hE _ he; omega)⟩
/-- What a failure panics with. -/
def failP (r : List TokP) (L : Nat) : Ending := .panicked [{ v := .iface 69 (.agg #[.int .i64 ((failAt L r).1 : Nat), .int .i64 ((failAt L r).2 : Nat)]), recovered := false }]
/-- What a piece of the parser returns, or panics with. -/
def Gives {α : Type} (bp L : Nat) (E : Nat → Prop) (w : World) (x : Res α) (V : α → Ending → World → Prop) (e : Ending) (w' : World) : Prop :=
  (∃ a r, x = .ok a r ∧ V a e w' ∧ At w' bp L r ∧ Kp E w w') ∨ ∃ r, x = .bad r ∧ e = failP r L ∧ Kp E w w'
theorem gives_ok {α : Type} {bp L : Nat} {E : Nat → Prop} {w w' : World} {x : Res α} {V : α → Ending → World → Prop} {e : Ending} (a : α) (r : List TokP) (h : x = .ok a r) (h1 : V a e w') (h2 : At w' bp L r) (h3 : Kp E w w') : Gives bp L E w x V e w' := Or.inl ⟨a, r, h, h1, h2, h3⟩
theorem gives_bad {α : Type} {bp L : Nat} {E : Nat → Prop} {w w' : World} {x : Res α} {V : α → Ending → World → Prop} (r : List TokP) (h : x = .bad r) (h1 : Kp E w w') : Gives bp L E w x V (failP r L) w' := Or.inr ⟨r, h, rfl, h1⟩

set_option maxRecDepth 100000 in
theorem fail_any (bp L : Nat) (ts : List TokP) (w : World) (h : At w bp L ts) : Calls Tryz.prog 21 #[.pointer (some ⟨bp, 0, none⟩)] w fun e w' => e = failP ts L ∧ w' = w := by
  obtain ⟨p, cap, hB, hr, hc, hm, hn⟩ := h
  have h0 := hB.cell (i := 0) rfl
  have h1 := hB.cell (i := 1) rfl
  cases ts with
  | nil =>
    go_enter Tryz.func21, Tryz.ntmps21
    go_wp2
    exact ⟨rfl, rfl, rfl⟩
  | cons t r =>
    rcases hr with hr | ⟨b, off, rfl, hb, ht⟩
    · cases hr
    have h3 := (ht 0 t rfl).pos
    rw [Nat.zero_mul, Nat.add_zero] at h3
    have hlen : ((r.length : Int) + 1 == 0) = false := by simp; omega
    have hpos : (0 : Int) < (r.length : Int) + 1 := by omega
    go_enter Tryz.func21, Tryz.ntmps21
    go_wp2
    exact ⟨rfl, rfl, rfl⟩

/-! ### What a token is asked -/
/-- A function value that asks a token something, and turns nothing. -/
def Asks (f : Nat) (caps : Array Value) (q : TokP → Bool) (E : Nat → Prop) (w : World) : Prop :=
  ∀ w1 t, Kp E w w1 → Calls Tryz.prog f (#[tkV t] ++ caps) w1 fun e w2 => e = .returned (.bool (q t)) ∧ Kp (fun _ => False) w1 w2
set_option maxRecDepth 100000 in
theorem wordC_asks (s : List UInt8) (b : Nat) (E : Nat → Prop) (w : World) (hb : Blk w b 9 [.string ⟨s.toArray⟩]) (hE : ¬ E b) : Asks 52 #[.pointer (some ⟨b, 0, none⟩)] (fun t => decide (t.text = s)) E w := by
  intro w1 t k
  have hB := hb.kept k hE
  have hlt := hB.lt
  have h0 : (w1.alloc (.cells #[.int .i64 (t.kind : Nat), .string ⟨t.text.toArray⟩, .int .i64 (t.val : Nat), .int .i64 (t.pos : Nat)] 67)).cell? ⟨b, 0, none⟩ = some (.string ⟨s.toArray⟩) := (hB.alloc _).cell rfl
  show Calls Tryz.prog 52 #[.agg #[.int .i64 (t.kind : Nat), .string ⟨t.text.toArray⟩, .int .i64 (t.val : Nat), .int .i64 (t.pos : Nat)], .pointer (some ⟨b, 0, none⟩)] w1 _
  go_enter Tryz.func52, Tryz.ntmps52
  go_wp2
  exact bodyPost_ret (results_tmp rfl _ _ _) rfl ⟨by rw [beq_dec]; rfl, (Kp.refl _ _).alloc _⟩
set_option maxRecDepth 100000 in
theorem nameC_asks (E : Nat → Prop) (w : World) : Asks 53 #[] (fun t => decide (t.kind = 1)) E w := by
  intro w1 t k
  show Calls Tryz.prog 53 #[.agg #[.int .i64 (t.kind : Nat), .string ⟨t.text.toArray⟩, .int .i64 (t.val : Nat), .int .i64 (t.pos : Nat)]] w1 _
  have e : (((t.kind : Nat) : Int) == 1) = decide (t.kind = 1) := by
    rw [beq_dec]
    exact decide_eq_decide.2 ⟨fun h => by omega, fun h => by omega⟩
  clear k
  go_enter Tryz.func53, Tryz.ntmps53
  go_wp2
  exact bodyPost_ret (results_tmp rfl _ _ _) rfl ⟨rfl, (Kp.refl _ _).alloc _⟩
set_option maxRecDepth 100000 in
theorem numbersC_asks (E : Nat → Prop) (w : World) : Asks 54 #[] (fun t => decide (t.kind = 2)) E w := by
  intro w1 t k
  show Calls Tryz.prog 54 #[.agg #[.int .i64 (t.kind : Nat), .string ⟨t.text.toArray⟩, .int .i64 (t.val : Nat), .int .i64 (t.pos : Nat)]] w1 _
  have e : (((t.kind : Nat) : Int) == 2) = decide (t.kind = 2) := by
    rw [beq_dec]
    exact decide_eq_decide.2 ⟨fun h => by omega, fun h => by omega⟩
  clear k
  go_enter Tryz.func54, Tryz.ntmps54
  go_wp2
  exact bodyPost_ret (results_tmp rfl _ _ _) rfl ⟨rfl, (Kp.refl _ _).alloc _⟩

/-- Four cells written into a result's variable. -/
theorem Kp.setRes (W : World) (b : Nat) (v0 v1 v2 v3 : Value) : Kp (fun k => k = b) W ((((W.setCell ⟨b, 0, none⟩ v0).setCell ⟨b, 1, none⟩ v1).setCell ⟨b, 2, none⟩ v2).setCell ⟨b, 3, none⟩ v3) :=
  ((((Kp.refl (fun k => k = b) W).setOld b 0 rfl v0).setOld b 1 rfl v1).setOld b 2 rfl v2).setOld b 3 rfl v3
/-! ### The next token, which must fit -/
def onlyB (b : Nat) : Nat → Prop := fun k => k = b
def TakeV (t : TokP) (e : Ending) (_ : World) : Prop := e = .returned (tkV t)
set_option maxRecDepth 100000 in
set_option maxHeartbeats 1000000 in
theorem take_any (bp L : Nat) (ts : List TokP) (f : Nat) (hent : ∀ args w, (callFunc f args).run Tryz.prog w = .ok (.enter f args) w) (caps : Array Value) (q : TokP → Bool) (w : World) (h : At w bp L ts) (hq : Asks f caps q (fun _ => False) w) :
    Calls Tryz.prog 51 #[.pointer (some ⟨bp, 0, none⟩), .func (.func f) #[] caps] w (Gives bp L (onlyB bp) w (takeP q ts) TakeV) := by
  have hlt := h.lt
  have HA := Lib.hid h; have HQ := Lib.hid hq
  obtain ⟨p, cap, hB, hr, hc, hm, hn⟩ := h
  have b0 := (hB.alloc (.cells #[.int .i64 0, .string ⟨#[]⟩, .int .i64 0, .int .i64 0] 67))
  have h0 := b0.cell (i := 0) rfl
  cases ts with
  | nil =>
    clear hB hr hq b0
    go_enter Tryz.func51, Tryz.ntmps51
    go_wp2_with fail
    refine (fail_any bp L [] _ (HA.out.kept ((Kp.refl (fun _ => False) _).alloc _) (fun _ h => h.elim))).mono ?_
    rintro e w1 ⟨rfl, rfl⟩
    unfold failP
    go_wp2
    exact ⟨rfl, gives_bad [] rfl ((Kp.refl _ _).alloc _)⟩
  | cons t r =>
    rcases hr with hr | ⟨b, off, rfl, hb, ht⟩
    · cases hr
    have k0 : Kp (fun _ => False) w (w.alloc (.cells #[.int .i64 0, .string ⟨#[]⟩, .int .i64 0, .int .i64 0] 67)) := (Kp.refl _ _).alloc _
    have t0 := (ht 0 t rfl).kept k0 (fun h => h)
    rw [Nat.zero_mul, Nat.add_zero] at t0
    obtain ⟨c0, c1, c2, c3⟩ := t0
    have hlen : ((r.length : Int) + 1 == 0) = false := by simp; omega
    have hpos : (0 : Int) < (r.length : Int) + 1 := by omega
    have K0 := Lib.hid k0; have HT := Lib.hid ht; have HB := Lib.hid hB
    clear ht hB b0 hq k0
    go_enter Tryz.func51, Tryz.ntmps51
    go_wp2_with fail
    refine (HQ.out _ t K0.out).mono ?_
    rintro e w1 ⟨rfl, hk1⟩
    have k1 := K0.out.call hk1 (fun _ h => Or.inl h)
    have bR1 := ((Blk.new w 67 [.int .i64 0, .string ⟨#[]⟩, .int .i64 0, .int .i64 0]).kept hk1 (fun h => h))
    have a1 := HA.out.kept k1 (fun _ h => h.elim)
    have hB1 := HB.out.kept k1 (fun h => h)
    have t1 := (HT.out 0 t rfl).kept k1 (fun h => h)
    rw [Nat.zero_mul, Nat.add_zero] at t1
    obtain ⟨d0, d1, d2, d3⟩ := t1
    have g0 := hB1.cell (i := 0) rfl
    have gf := hB1.free 0
    have hs1 := k1.size
    clear h0 c0 c1 c2 c3 hent
    by_cases hqt : q t = true
    · rw [hqt]
      have HTP := Lib.hid (takeP_pos (r := r) hqt)
      have K1 := Lib.hid k1; have A1 := Lib.hid a1; have B1 := Lib.hid hB1; have BR := Lib.hid bR1
      have hcap1 : ¬ (cap : Int) < 1 := by simp at hc; omega
      clear K0 HQ HA
      go_upto_region 4 with fail
      clear g0 gf d0 d1 d2 d3
      have b3 := B1.out.alloc (.cells #[.int .i64 (t.kind : Nat), .string ⟨t.text.toArray⟩, .int .i64 (t.val : Nat), .int .i64 (t.pos : Nat)] 67)
      have r3 := BR.out.alloc (.cells #[.int .i64 (t.kind : Nat), .string ⟨t.text.toArray⟩, .int .i64 (t.val : Nat), .int .i64 (t.pos : Nat)] 67)
      have x3 := Blk.new w1 67 [.int .i64 (t.kind : Nat), .string ⟨t.text.toArray⟩, .int .i64 (t.val : Nat), .int .i64 (t.pos : Nat)]
      have k3 := K1.out.alloc (.cells #[.int .i64 (t.kind : Nat), .string ⟨t.text.toArray⟩, .int .i64 (t.val : Nat), .int .i64 (t.pos : Nat)] 67)
      generalize w1.alloc (.cells #[.int .i64 (t.kind : Nat), .string ⟨t.text.toArray⟩, .int .i64 (t.val : Nat), .int .i64 (t.pos : Nat)] 67) = W3 at *
      have hs3 := k3.size
      have g3 := b3.cell (i := 0) rfl
      have f3 := b3.free 0
      by_cases hc1 : cap = 1
      · subst hc1
        have B3 := Lib.hid b3; have R3 := Lib.hid r3; have X3 := Lib.hid x3; have K3 := Lib.hid k3
        clear b3 r3 x3 k3 B1 BR K1 A1
        go_upto_region 5 with fail
        have b4 := B3.out.set 0 (.slice (some ⟨b, off, none⟩) r.length 0)
        have r4 := R3.out.other (p := ⟨bp, 0, none⟩) (by show ¬ bp = w.heap.size; omega) (.slice (some ⟨b, off, none⟩) r.length 0)
        have x4 := X3.out.other (p := ⟨bp, 0, none⟩) (by show ¬ bp = w1.heap.size; omega) (.slice (some ⟨b, off, none⟩) r.length 0)
        have k4 : Kp (onlyB bp) w (W3.setCell ⟨bp, 0, none⟩ (.slice (some ⟨b, off, none⟩) r.length 0)) := (K3.out.mono (E' := onlyB bp) fun _ h => h.elim).setOld bp 0 rfl _
        have a4 : At (W3.setCell ⟨bp, 0, none⟩ (.slice (some ⟨b, off, none⟩) r.length 0)) bp L r := ⟨some ⟨b, off, none⟩, 0, b4, Or.inl (by simpa using hc), by rw [show r = [] by simpa using hc]; exact Nat.le_refl _, Nat.zero_le _, fun h => by cases h⟩
        generalize W3.setCell ⟨bp, 0, none⟩ (.slice (some ⟨b, off, none⟩) r.length 0) = W4 at *
        have l1 := x4.lt
        have y0 := x4.cell (i := 0) rfl
        have y1 := x4.cell (i := 1) rfl
        have y2 := x4.cell (i := 2) rfl
        have y3 := x4.cell (i := 3) rfl
        have z0 := r4.cell (i := 0) rfl
        have z1 := r4.cell (i := 1) rfl
        have z2 := r4.cell (i := 2) rfl
        have z3 := r4.cell (i := 3) rfl
        have zf := r4.free
        have R4 := Lib.hid r4; have K4 := Lib.hid k4; have A4 := Lib.hid a4
        clear b4 r4 x4 k4 a4 g3 f3 B3 R3 X3 K3
        go_wp2
        have r5 := (((R4.out.set 0 (.int .i64 (t.kind : Nat))).set 1 (.string ⟨t.text.toArray⟩)).set 2 (.int .i64 (t.val : Nat))).set 3 (.int .i64 (t.pos : Nat))
        exact bodyPost_ret (results_cell_mid rfl _ _ w.heap.size [.int .i64 (t.kind : Nat), .string ⟨t.text.toArray⟩, .int .i64 (t.val : Nat), .int .i64 (t.pos : Nat)] _ rfl r5.range Tryz.underlying67 rfl (by kernel_rfl)) rfl
          (gives_ok t r HTP.out rfl (A4.out.kept (Kp.setRes W4 w.heap.size _ _ _ _) (fun k hk => by have : k = w.heap.size := hk; omega)) (K4.out.call (Kp.setRes W4 w.heap.size _ _ _ _) (fun k hk => Or.inr (by have : k = w.heap.size := hk; omega))))
      · have B3 := Lib.hid b3; have R3 := Lib.hid r3; have X3 := Lib.hid x3; have K3 := Lib.hid k3
        clear b3 r3 x3 k3 B1 BR K1 A1
        go_upto_region 5 with fail
        have b4 := B3.out.set 0 (.slice (some ⟨b, off + 4, none⟩) r.length (cap - 1))
        have r4 := R3.out.other (p := ⟨bp, 0, none⟩) (by show ¬ bp = w.heap.size; omega) (.slice (some ⟨b, off + 4, none⟩) r.length (cap - 1))
        have x4 := X3.out.other (p := ⟨bp, 0, none⟩) (by show ¬ bp = w1.heap.size; omega) (.slice (some ⟨b, off + 4, none⟩) r.length (cap - 1))
        have k4 : Kp (onlyB bp) w (W3.setCell ⟨bp, 0, none⟩ (.slice (some ⟨b, off + 4, none⟩) r.length (cap - 1))) := (K3.out.mono (E' := onlyB bp) fun _ h => h.elim).setOld bp 0 rfl _
        have a4 : At (W3.setCell ⟨bp, 0, none⟩ (.slice (some ⟨b, off + 4, none⟩) r.length (cap - 1))) bp L r := ⟨some ⟨b, off + 4, none⟩, cap - 1, b4, Or.inr ⟨b, off + 4, rfl, hb, fun j u hj => by
                  have h5 := (HT.out (j + 1) u (by simpa using hj)).kept k4 (fun h => by have : b = bp := h; omega)
                  rwa [show off + (j + 1) * 4 = off + 4 + j * 4 by omega] at h5⟩, by simp at hc; omega, by omega, fun h => by cases h⟩
        generalize W3.setCell ⟨bp, 0, none⟩ (.slice (some ⟨b, off + 4, none⟩) r.length (cap - 1)) = W4 at *
        have l1 := x4.lt
        have y0 := x4.cell (i := 0) rfl
        have y1 := x4.cell (i := 1) rfl
        have y2 := x4.cell (i := 2) rfl
        have y3 := x4.cell (i := 3) rfl
        have z0 := r4.cell (i := 0) rfl
        have z1 := r4.cell (i := 1) rfl
        have z2 := r4.cell (i := 2) rfl
        have z3 := r4.cell (i := 3) rfl
        have zf := r4.free
        have R4 := Lib.hid r4; have K4 := Lib.hid k4; have A4 := Lib.hid a4
        clear b4 r4 x4 k4 a4 g3 f3 B3 R3 X3 K3
        go_wp2
        have r5 := (((R4.out.set 0 (.int .i64 (t.kind : Nat))).set 1 (.string ⟨t.text.toArray⟩)).set 2 (.int .i64 (t.val : Nat))).set 3 (.int .i64 (t.pos : Nat))
        exact bodyPost_ret (results_cell_mid rfl _ _ w.heap.size [.int .i64 (t.kind : Nat), .string ⟨t.text.toArray⟩, .int .i64 (t.val : Nat), .int .i64 (t.pos : Nat)] _ rfl r5.range Tryz.underlying67 rfl (by kernel_rfl)) rfl
          (gives_ok t r HTP.out rfl (A4.out.kept (Kp.setRes W4 w.heap.size _ _ _ _) (fun k hk => by have : k = w.heap.size := hk; omega)) (K4.out.call (Kp.setRes W4 w.heap.size _ _ _ _) (fun k hk => Or.inr (by have : k = w.heap.size := hk; omega))))
    · have hqf : q t = false := by simpa using hqt
      rw [hqf]
      have HTP := Lib.hid (takeP_neg (r := r) hqt)
      have K1 := Lib.hid k1; have A1 := Lib.hid a1
      clear k1 a1 hB1 bR1 hk1 hqt hqf
      go_wp2_with fail
      refine (fail_any bp L (t :: r) _ A1.out).mono ?_
      rintro e w2 ⟨rfl, rfl⟩
      unfold failP
      go_wp2
      exact ⟨rfl, gives_bad _ HTP.out (K1.out.mono fun _ h => h.elim)⟩
end Go.Proofs.YtlfjdohjfmfcdaaGreatDoor

/-! ## The walks of single tokens: words, names, numbers. -/
namespace Go.Proofs.YtlfjdohjfmfcdaaGreatDoor
open Go.RowKit Go.Sort Go.Shelf Foyer.Plan

theorem wordC_ent (args : Array Value) (w : World) : (callFunc 52 args).run Tryz.prog w = .ok (.enter 52 args) w := enters_of Tryz.func52 (by kernel_rfl) rfl args w
theorem nameC_ent (args : Array Value) (w : World) : (callFunc 53 args).run Tryz.prog w = .ok (.enter 53 args) w := enters_of Tryz.func53 (by kernel_rfl) rfl args w
theorem numbersC_ent (args : Array Value) (w : World) : (callFunc 54 args).run Tryz.prog w = .ok (.enter 54 args) w := enters_of Tryz.func54 (by kernel_rfl) rfl args w
theorem makes_func (fn : Fn) (first cap : Array Value) (w : World) : (Instr.makeFunc fn first cap).run Tryz.prog w = .ok (.func fn first cap) w := rfl
theorem tok_field1 (a b c d : Value) (w : World) : (Instr.field 67 (.agg #[a, b, c, d]) 1).run Tryz.prog w = .ok b w := by kernel_rfl
theorem tok_field2 (a b c d : Value) (w : World) : (Instr.field 67 (.agg #[a, b, c, d]) 2).run Tryz.prog w = .ok c w := by kernel_rfl
theorem tok_field3 (a b c d : Value) (w : World) : (Instr.field 67 (.agg #[a, b, c, d]) 3).run Tryz.prog w = .ok d w := by kernel_rfl
def IntV (n : Nat) (e : Ending) (_ : World) : Prop := e = .returned (.int .i64 (n : Nat))
def StrV (s : List UInt8) (e : Ending) (_ : World) : Prop := e = .returned (.string ⟨s.toArray⟩)
set_option maxRecDepth 100000 in
theorem word_any (bp L : Nat) (ts : List TokP) (s : List UInt8) (w : World) (h : At w bp L ts) :
    Calls Tryz.prog 33 #[.pointer (some ⟨bp, 0, none⟩), .string ⟨s.toArray⟩] w (Gives bp L (onlyB bp) w (word s ts) IntV) := by
  have hmf := makes_func
  have hfd := tok_field3
  have HA := Lib.hid h
  have k0 : Kp (fun _ => False) w (w.alloc (.cells #[.string ⟨s.toArray⟩] 9)) := (Kp.refl _ _).alloc _
  have b0 : Blk (w.alloc (.cells #[.string ⟨s.toArray⟩] 9)) w.heap.size 9 [.string ⟨s.toArray⟩] := Blk.new w _ _
  have K0 := Lib.hid k0; have B0 := Lib.hid b0
  clear h k0 b0
  go_enter Tryz.func33, Tryz.ntmps33
  go_wp2_with fail
  refine (take_any bp L ts 52 wordC_ent #[.pointer (some ⟨w.heap.size, 0, none⟩)] _ _ (HA.out.kept K0.out (fun _ h => h.elim)) (wordC_asks s _ _ _ B0.out (fun h => h))).mono ?_
  rintro e w1 (⟨t, r, h1, rfl, ha, hk⟩ | ⟨r, h1, rfl, hk⟩)
  · have HH := Lib.hid h1; have HA1 := Lib.hid ha; have HK := Lib.hid hk
    clear h1 ha hk
    unfold tkV
    go_wp2
    refine bodyPost_ret (results_tmp rfl _ _ _) rfl ?_
    exact gives_ok t.pos r (show word s ts = _ from then_of HH.out) rfl HA1.out ((K0.out.mono fun _ h => h.elim).trans HK.out)
  · have HH := Lib.hid h1; have HK := Lib.hid hk
    clear h1 hk
    unfold failP
    go_wp2
    exact ⟨rfl, gives_bad r (show word s ts = _ from then_bad HH.out) ((K0.out.mono fun _ h => h.elim).trans HK.out)⟩

set_option maxRecDepth 100000 in
theorem name_any (bp L : Nat) (ts : List TokP) (w : World) (h : At w bp L ts) :
    Calls Tryz.prog 34 #[.pointer (some ⟨bp, 0, none⟩)] w (Gives bp L (onlyB bp) w (nameP ts) StrV) := by
  have hfd := tok_field1
  have HA := Lib.hid h
  clear h
  go_enter Tryz.func34, Tryz.ntmps34
  go_wp2_with fail
  refine (take_any bp L ts 53 nameC_ent #[] _ _ HA.out (nameC_asks _ _)).mono ?_
  rintro e w1 (⟨t, r, h1, rfl, ha, hk⟩ | ⟨r, h1, rfl, hk⟩)
  · have HH := Lib.hid h1; have HA1 := Lib.hid ha; have HK := Lib.hid hk
    clear h1 ha hk
    unfold tkV
    go_wp2
    refine bodyPost_ret (results_tmp rfl _ _ _) rfl ?_
    exact gives_ok t.text r (show nameP ts = _ from then_of HH.out) rfl HA1.out HK.out
  · have HH := Lib.hid h1; have HK := Lib.hid hk
    clear h1 hk
    unfold failP
    go_wp2
    exact ⟨rfl, gives_bad r (show nameP ts = _ from then_bad HH.out) HK.out⟩
/-- The next number, by itself. -/
theorem take_num (bp L : Nat) (ts : List TokP) (w : World) (h : At w bp L ts) :
    Calls Tryz.prog 51 #[.pointer (some ⟨bp, 0, none⟩), .func (.func 54) #[] #[]] w fun e w' =>
      (∃ t r, num ts = .ok t.val r ∧ e = .returned (tkV t) ∧ At w' bp L r ∧ Kp (onlyB bp) w w') ∨ ∃ r, num ts = .bad r ∧ e = failP r L ∧ Kp (onlyB bp) w w' := by
  refine (take_any bp L ts 54 numbersC_ent #[] _ _ h (numbersC_asks _ _)).mono ?_
  rintro e w1 (⟨t, r, h1, rfl, ha, hk⟩ | ⟨r, h1, rfl, hk⟩)
  · exact Or.inl ⟨t, r, show num ts = _ from then_of h1, rfl, ha, hk⟩
  · exact Or.inr ⟨r, show num ts = _ from then_bad h1, rfl, hk⟩
end Go.Proofs.YtlfjdohjfmfcdaaGreatDoor

/-! ## The walk of several numbers, each written into a variable. -/
namespace Go.Proofs.YtlfjdohjfmfcdaaGreatDoor
open Go.RowKit Go.Sort Foyer.Plan

def numsP : Nat → Par (List Nat)
  | 0 => give []
  | n + 1 => andThen (numsP n) fun xs => andThen num fun x => give (xs ++ [x])
theorem nums_next {n : Nat} {ts r s : List TokP} {xs : List Nat} {x : Nat} (h : numsP n ts = .ok xs r) (h1 : num r = .ok x s) : numsP (n + 1) ts = .ok (xs ++ [x]) s :=
  (then_of h : numsP (n + 1) ts = _).trans (then_of h1)
theorem nums_bad {n : Nat} {ts r s : List TokP} {xs : List Nat} (h : numsP n ts = .ok xs r) (h1 : num r = .bad s) : ∀ k, numsP (n + 1 + k) ts = .bad s
  | 0 => (then_of h : numsP (n + 1) ts = _).trans (then_bad h1)
  | k + 1 => (then_bad (nums_bad h h1 k) : numsP (n + 1 + k + 1) ts = _)
theorem nums_length : ∀ {n : Nat} {ts r : List TokP} {xs : List Nat}, numsP n ts = .ok xs r → xs.length = n
  | 0, _, _, _, h => by cases h; rfl
  | n + 1, _, _, _, h => by
    obtain ⟨ys, s, h1, h2⟩ := Foyer.Plan.then_ok h
    obtain ⟨x, s2, h3, h4⟩ := Foyer.Plan.then_ok h2
    cases h4
    rw [List.length_append, nums_length h1]; rfl
/-- Cells into which numbers are written. -/
def fillC : List Value → List Nat → List Nat → List Value
  | cs, o :: os, x :: xs => fillC (cs.set o (.int .i64 (x : Nat))) os xs
  | cs, _, _ => cs
theorem fillC_snoc : ∀ (cs : List Value) (os xs : List Nat) (o x : Nat), os.length = xs.length → fillC cs (os ++ [o]) (xs ++ [x]) = (fillC cs os xs).set o (.int .i64 (x : Nat))
  | _, [], [], _, _, _ => rfl
  | cs, a :: os, b :: xs, o, x, h => fillC_snoc (cs.set a (.int .i64 (b : Nat))) os xs o x (by simpa using h)
  | _, [], _ :: _, _, _, h => by simp at h
  | _, _ :: _, [], _, _, h => by simp at h
theorem fillC_length : ∀ (cs : List Value) (os xs : List Nat), (fillC cs os xs).length = cs.length
  | cs, a :: os, b :: xs => by rw [fillC, fillC_length, List.length_set]
  | _, [], _ => by rw [fillC]; intros; simp_all
  | _, _ :: _, [] => by rw [fillC]; intros; simp_all
def twoB (b c : Nat) : Nat → Prop := fun k => k = b ∨ k = c
def NumsV (B : Nat) (T : TypeId) (cs : List Value) (os : List Nat) (xs : List Nat) (e : Ending) (w' : World) : Prop := e = .returned (.tuple #[]) ∧ Blk w' B T (fillC cs os xs)

set_option maxRecDepth 100000 in
set_option maxHeartbeats 1000000 in
theorem numbers_any (bp L : Nat) (ts : List TokP) (os : List Nat) (n : Nat) (hn : os.length = n) (hn4 : n ≤ 4) (vb B : Nat) (T T' : TypeId) (cs : List Value) (w : World) (h : At w bp L ts) (hv : Blk w vb T' (os.map fun o => .pointer (some ⟨B, o, none⟩)))
    (hB : Blk w B T cs) (ho : ∀ o ∈ os, o < cs.length) (hb1 : bp < B) (hb2 : vb ≠ B) (hb3 : vb ≠ bp) :
    Calls Tryz.prog 35 #[.pointer (some ⟨bp, 0, none⟩), .slice (some ⟨vb, 0, none⟩) n n] w (Gives bp L (twoB bp B) w (numsP n ts) (NumsV B T cs os)) := by
  have HA := Lib.hid h; have HV := Lib.hid hv; have HB := Lib.hid hB; have HO := Lib.hid ho
  have hfd := tok_field2
  clear h hv hB ho
  go_enter Tryz.func35, Tryz.ntmps35
  go_wp2
  go_loopw [8] (fun i wr => ∃ k : Nat, i = .int .i64 k ∧ k ≤ n ∧ ∃ xs r, Hid (numsP k ts = .ok xs r) ∧ Hid (Blk wr B T (fillC cs (os.take k) xs)) ∧ Hid (At wr bp L r) ∧ Hid (Kp (twoB bp B) w wr)) (fun i _ => n - (intOf i).toNat)
  case atStart => exact ⟨0, rfl, by omega, [], ts, Lib.hid rfl, HB, HA, Lib.hid (Kp.refl _ _)⟩
  case round =>
    clear HA HB
    obtain ⟨k, rfl, hk, xs, r, HN, HB, HA, HK⟩ := hrel
    by_cases hk2 : k < n
    · obtain ⟨o, hko⟩ : ∃ o, os[k]? = some o := ⟨_, List.getElem?_eq_getElem (by omega)⟩
      have hol := HO.out o (List.mem_of_getElem? hko)
      have v1 := HV.out.kept HK.out (fun h => h.elim (fun h => hb3 h) (fun h => hb2 h))
      have c1 := v1.cell (i := k) (v := .pointer (some ⟨B, o, none⟩)) (by simp [hko])
      have hki : (0 : Int) ≤ k ∧ (k : Int) < n := by omega
      have hlt := v1.lt
      have V1 := Lib.hid v1
      clear v1
      have HT := Lib.hid (List.take_add_one (l := os) (i := k))
      have HKO := Lib.hid hko
      clear hko
      go_wp2_with fail
      refine (take_num bp L r _ HA.out).mono ?_
      rintro e w1 (⟨t, s, h1, rfl, ha, hkp⟩ | ⟨s, h1, rfl, hkp⟩)
      · have b1 := HB.out.kept hkp (fun h => by have : B = bp := h; omega)
        obtain ⟨v, hv⟩ : ∃ v, (fillC cs (os.take k) xs)[o]? = some v := ⟨_, List.getElem?_eq_getElem (by rw [fillC_length]; exact hol)⟩
        have c2 := b1.cell hv
        have f2 := b1.free o
        have B1 := Lib.hid b1; have A1 := Lib.hid ha; have K1 := Lib.hid (HK.out.call hkp (fun k h => Or.inl (Or.inl h))); have N1 := Lib.hid h1
        clear b1 ha hkp h1 hv
        unfold tkV
        go_wp2
        refine ⟨⟨k + 1, by go_num, by omega, xs ++ [t.val], s, Lib.hid (nums_next HN.out N1.out), Lib.hid ?_, Lib.hid ?_, Lib.hid ?_⟩, ?_⟩
        · rw [HT.out, HKO.out]
          show Blk _ _ _ (fillC cs (os.take k ++ [o]) _)
          rw [fillC_snoc _ _ _ _ _ (by rw [List.length_take, nums_length HN.out]; omega)]
          exact B1.out.set o _
        · exact A1.out.kept ((Kp.refl (fun k => k = B) _).setOld B o rfl _) (fun k hk => by have : k = B := hk; omega)
        · exact K1.out.setOld B o (Or.inr rfl) _
        · simp [intOf]; omega
      · have N1 := Lib.hid h1; have K1 := Lib.hid (HK.out.call hkp (fun k h => Or.inl (Or.inl h)))
        clear h1 hkp
        unfold failP
        go_wp2
        refine ⟨rfl, gives_bad s ?_ K1.out⟩
        have := nums_bad HN.out N1.out (n - (k + 1))
        rwa [show k + 1 + (n - (k + 1)) = n by omega] at this
    · obtain rfl : k = n := by omega
      go_wp2
      go_end0
      refine gives_ok xs r HN.out ⟨rfl, ?_⟩ HA.out HK.out
      have := HB.out
      rwa [List.take_of_length_le (by omega)] at this
end Go.Proofs.YtlfjdohjfmfcdaaGreatDoor

/-! ## The walk of what repeats a function until a closing token comes. -/
namespace Go.Proofs.YtlfjdohjfmfcdaaGreatDoor
open Go.RowKit Go.Sort Foyer.Plan

/-- How many tokens are left. -/
def leftIn (bp : Nat) (w : World) : Nat := match w.cell? ⟨bp, 0, none⟩ with | some (.slice _ n _) => n | _ => 0
theorem At.left {w : World} {bp L : Nat} {ts : List TokP} (h : At w bp L ts) : leftIn bp w = ts.length := by
  obtain ⟨p, cap, hB, _⟩ := h
  unfold leftIn
  rw [hB.cell (i := 0) rfl]
/-- What a list of pieces returns, or panics with. -/
def Lists {α : Type} (bp L : Nat) (Inv : List α → World → Prop) (Fin : World → Prop) (xs : List α) (x : Res (List α)) (e : Ending) (w' : World) : Prop :=
  (∃ bs r, x = .ok bs r ∧ e = .returned (.tuple #[]) ∧ Inv (xs ++ bs) w' ∧ At w' bp L r) ∨ ∃ r, x = .bad r ∧ e = failP r L ∧ Fin w'
section
variable {α : Type} (bp L : Nat) (c : List UInt8) (p : Par α) (he : Eats p) (g : Nat) (hent : ∀ args w, (callFunc g args).run Tryz.prog w = .ok (.enter g args) w) (caps : Array Value)
  (Inv : List α → World → Prop) (Fin : World → Prop) (hkeep : ∀ xs w1 w2, Inv xs w1 → Kp (onlyB bp) w1 w2 → Inv xs w2) (hfin : ∀ xs w1 w2, Inv xs w1 → Kp (onlyB bp) w1 w2 → Fin w2)
  (N : Nat) (hstep : ∀ xs w1 ts, Inv xs w1 → At w1 bp L ts → xs.length + ts.length ≤ N → Calls Tryz.prog g caps w1 fun e w2 => (∃ a r, p ts = .ok a r ∧ e = .returned (.tuple #[]) ∧ Inv (xs ++ [a]) w2 ∧ At w2 bp L r) ∨ ∃ r, p ts = .bad r ∧ e = failP r L ∧ Fin w2)

include he hent hkeep hfin hstep in
set_option maxRecDepth 100000 in
set_option maxHeartbeats 1000000 in
theorem until_any (n : Nat) (ts : List TokP) (hn : ts.length < n) (xs : List α) (hN : xs.length + ts.length ≤ N) (w : World) (hI : Inv xs w) (hA : At w bp L ts) :
    Calls Tryz.prog 36 #[.pointer (some ⟨bp, 0, none⟩), .string ⟨c.toArray⟩, .func (.func g) #[] caps] w (Lists bp L Inv Fin xs (many c p n ts)) := by
  have HE := Lib.hid he; have HK := Lib.hid hkeep; have HF := Lib.hid hfin; have HS := Lib.hid hstep; have HI := Lib.hid hI; have HA := Lib.hid hA
  clear he hkeep hfin hstep hI hA
  go_enter Tryz.func36, Tryz.ntmps36
  go_wp2
  go_loopw [] (fun wr => ∃ (k : Nat) (bs : List α) (us : List TokP), us.length < k ∧ (xs ++ bs).length + us.length ≤ N ∧ Hid (Inv (xs ++ bs) wr) ∧ Hid (At wr bp L us) ∧ Hid (many c p n ts = andThen (many c p k) (fun ds => give (bs ++ ds)) us)) (fun wr => leftIn bp wr)
  case atStart => exact ⟨n, [], ts, hn, by rw [List.append_nil]; exact hN, Lib.hid (by rw [List.append_nil]; exact HI.out), HA, Lib.hid (by
    unfold andThen give
    cases many c p n ts <;> rfl)⟩
  case round =>
    clear HI HA
    obtain ⟨k, bs, us, hk, hNk, HI, HA, HM⟩ := hrel
    have HNK := Lib.hid hNk
    clear hNk
    have hleft := HA.out.left
    obtain ⟨q, cap, hB, hr, hc⟩ := HA.out
    have c0 := hB.cell (i := 0) rfl
    obtain ⟨k, rfl⟩ : ∃ k', k = k' + 1 := ⟨k - 1, by omega⟩
    cases us with
    | nil =>
      have HN : Hid (∀ t r, ([] : List TokP) = t :: r → t.text ≠ c) := Lib.hid (fun t r h => by cases h)
      clear hB hr hc
      go_wp2_with fail
      refine (HS.out _ wr [] HI.out HA.out HNK.out).mono ?_
      rintro e w1 (⟨a, s, h1, rfl, hi, ha⟩ | ⟨s, h1, rfl, hf⟩)
      · have HL := Lib.hid hleft; have HI1 := Lib.hid hi; have HA1 := Lib.hid ha; have H1 := Lib.hid h1
        clear hi ha h1 hleft
        go_wp2
        have hlt := HE.out _ _ _ H1.out
        refine ⟨⟨k, bs ++ [a], s, by omega, by have := HNK.out; simp only [List.length_append, List.length_cons, List.length_nil] at this hlt ⊢; omega, Lib.hid (by have := HI1.out; rwa [List.append_assoc] at this), HA1, Lib.hid ?_⟩, by rw [HA1.out.left, HL.out]; exact hlt⟩
        rw [HM.out]
        unfold andThen give
        rw [many_go HN.out]
        unfold andThen give
        rw [H1.out]
        dsimp only
        cases many c p k s with
        | bad z => rfl
        | ok zs z => simp
      · have HF1 := Lib.hid hf; have H1 := Lib.hid h1
        clear hf h1 hleft
        unfold failP
        go_wp2
        refine ⟨rfl, Or.inr ⟨s, ?_, rfl, HF1.out⟩⟩
        rw [HM.out]
        unfold andThen give
        rw [many_go HN.out]
        unfold andThen give
        rw [H1.out]
    | cons t r =>
      rcases hr with hr | ⟨b, off, rfl, hb, ht⟩
      · cases hr
      have t0 := ht 0 t rfl
      rw [Nat.zero_mul, Nat.add_zero] at t0
      obtain ⟨d0, d1, d2, d3⟩ := t0
      have hlen : ((r.length : Int) + 1 == 0) = false := by simp; omega
      have hpos : (0 : Int) < (r.length : Int) + 1 := by omega
      by_cases htc : t.text = c
      · have e1 : (t.text == c) = true := by simp [htc]
        have e2 : (t.text != c) = false := by simp [htc]
        have HW := Lib.hid (word_pos (r := r) htc); have HC := Lib.hid (many_close (p := p) (n := k) (r := r) htc)
        clear hB ht hc htc hleft
        go_wp2_with fail
        refine (word_any bp L (t :: r) c _ HA.out).mono ?_
        rintro e w1 (⟨a, s, h1, rfl, ha, hkp⟩ | ⟨s, h1, _, _⟩)
        · have hrs : s = r := by rw [HW.out] at h1; cases h1; rfl
          subst hrs
          have HA1 := Lib.hid ha; have HI1 := Lib.hid (HK.out _ _ _ HI.out hkp)
          clear ha hkp h1
          go_wp2
          go_end0
          refine Or.inl ⟨bs, s, ?_, rfl, HI1.out, HA1.out⟩
          rw [HM.out]
          unfold andThen give
          rw [HC.out]
          simp
        · rw [HW.out] at h1; cases h1
      · have e1 : (t.text == c) = false := by simp [htc]
        have e2 : (t.text != c) = true := by simp [htc]
        have HN : Hid (∀ u q, t :: r = u :: q → u.text ≠ c) := Lib.hid (fun u q h => by cases h; exact htc)
        clear hB ht hc htc
        go_wp2_with fail
        refine (HS.out _ wr (t :: r) HI.out HA.out HNK.out).mono ?_
        rintro e w1 (⟨a, s, h1, rfl, hi, ha⟩ | ⟨s, h1, rfl, hf⟩)
        · have HL := Lib.hid hleft; have HI1 := Lib.hid hi; have HA1 := Lib.hid ha; have H1 := Lib.hid h1
          clear hi ha h1 hleft
          go_wp2
          have hlt := HE.out _ _ _ H1.out
          refine ⟨⟨k, bs ++ [a], s, by omega, by have := HNK.out; simp only [List.length_append, List.length_cons, List.length_nil] at this hlt ⊢; omega, Lib.hid (by have := HI1.out; rwa [List.append_assoc] at this), HA1, Lib.hid ?_⟩, by rw [HA1.out.left, HL.out]; exact hlt⟩
          rw [HM.out]
          unfold andThen give
          rw [many_go HN.out]
          unfold andThen give
          rw [H1.out]
          dsimp only
          cases many c p k s with
          | bad z => rfl
          | ok zs z => simp
        · have HF1 := Lib.hid hf; have H1 := Lib.hid h1
          clear hf h1 hleft
          unfold failP
          go_wp2
          refine ⟨rfl, Or.inr ⟨s, ?_, rfl, HF1.out⟩⟩
          rw [HM.out]
          unfold andThen give
          rw [many_go HN.out]
          unfold andThen give
          rw [H1.out]
end
end Go.Proofs.YtlfjdohjfmfcdaaGreatDoor

/-! ## Numbers by ones, twos and fours; points and boxes. -/
namespace Go.Proofs.YtlfjdohjfmfcdaaGreatDoor
open Go.RowKit Go.Sort Foyer.Plan

theorem point_then {γ : Type} {ts r : List TokP} {x y : Nat} {k : Nat → Nat → Par γ} (h : pointP ts = .ok (x, y) r) : andThen num (fun x => andThen num fun y => k x y) ts = k x y r := by
  obtain ⟨a, s, h1, h2⟩ := Foyer.Plan.then_ok h
  obtain ⟨b, s2, h3, h4⟩ := Foyer.Plan.then_ok h2
  cases h4
  rw [then_of h1, then_of h3]
theorem point_bad {γ : Type} {ts r : List TokP} {k : Nat → Nat → Par γ} (h : pointP ts = .bad r) : andThen num (fun x => andThen num fun y => k x y) ts = .bad r := by
  unfold pointP andThen give at h
  unfold andThen
  cases h1 : num ts with
  | bad s => rw [h1] at h; cases h; rfl
  | ok a s =>
    rw [h1] at h
    dsimp only at h ⊢
    cases h2 : num s with
    | bad s2 => rw [h2] at h; cases h; rfl
    | ok b s2 => rw [h2] at h; cases h
theorem nums_one (ts : List TokP) : numsP 1 ts = andThen num (fun x => give [x]) ts := rfl
theorem nums_two (ts : List TokP) : numsP 2 ts = andThen pointP (fun p => give [p.1, p.2]) ts := by
  unfold pointP numsP andThen
  rw [nums_one]
  unfold andThen give
  cases num ts with
  | bad s => rfl
  | ok a s => dsimp only; cases num s <;> rfl
theorem nums_four (ts : List TokP) : numsP 4 ts = andThen boxP (fun b => give [b.x, b.y, b.x2, b.y2]) ts := by
  show andThen (andThen (numsP 2) _) _ ts = _
  unfold andThen
  rw [nums_two]
  unfold boxP pointP andThen give
  cases num ts with
  | bad s => rfl
  | ok a s =>
    dsimp only
    cases num s with
    | bad s => rfl
    | ok b s =>
      dsimp only
      cases num s with
      | bad s => rfl
      | ok c s => dsimp only; cases num s <;> rfl
section
variable (bp L : Nat) (ts : List TokP) (vb B : Nat) (T T' : TypeId) (cs : List Value) (w : World) (h : At w bp L ts) (hB : Blk w B T cs) (hb1 : bp < B) (hb2 : vb ≠ B) (hb3 : vb ≠ bp)
include h hB hb1 hb2 hb3
theorem numbers1_any (o : Nat) (ho : o < cs.length) (hv : Blk w vb T' [.pointer (some ⟨B, o, none⟩)]) :
    Calls Tryz.prog 35 #[.pointer (some ⟨bp, 0, none⟩), .slice (some ⟨vb, 0, none⟩) 1 1] w (Gives bp L (twoB bp B) w (num ts) fun x e w' => e = .returned (.tuple #[]) ∧ Blk w' B T (cs.set o (.int .i64 (x : Nat)))) := by
  refine (numbers_any bp L ts [o] 1 rfl (by decide) vb B T T' cs w h hv hB (fun q hq => by rw [List.mem_singleton] at hq; subst hq; exact ho) hb1 hb2 hb3).mono ?_
  rintro e w' (⟨xs, r, h1, ⟨rfl, h2⟩, h3, h4⟩ | ⟨r, h1, rfl, h4⟩)
  · rw [nums_one] at h1
    obtain ⟨x, s, k1, k2⟩ := Foyer.Plan.then_ok h1
    cases k2
    exact gives_ok x r k1 ⟨rfl, h2⟩ h3 h4
  · rw [nums_one] at h1
    cases hn : num ts with
    | ok x s => rw [then_of hn] at h1; cases h1
    | bad s => rw [then_bad hn] at h1; cases h1; exact gives_bad _ rfl h4
theorem numbers2_any (o1 o2 : Nat) (ho1 : o1 < cs.length) (ho2 : o2 < cs.length) (hv : Blk w vb T' [.pointer (some ⟨B, o1, none⟩), .pointer (some ⟨B, o2, none⟩)]) :
    Calls Tryz.prog 35 #[.pointer (some ⟨bp, 0, none⟩), .slice (some ⟨vb, 0, none⟩) 2 2] w (Gives bp L (twoB bp B) w (pointP ts) fun p e w' => e = .returned (.tuple #[]) ∧ Blk w' B T ((cs.set o1 (.int .i64 (p.1 : Nat))).set o2 (.int .i64 (p.2 : Nat)))) := by
  refine (numbers_any bp L ts [o1, o2] 2 rfl (by decide) vb B T T' cs w h hv hB (fun q hq => by
    rcases List.mem_cons.1 hq with rfl | hq
    · exact ho1
    · rw [List.mem_singleton] at hq; subst hq; exact ho2) hb1 hb2 hb3).mono ?_
  rintro e w' (⟨xs, r, h1, ⟨rfl, h2⟩, h3, h4⟩ | ⟨r, h1, rfl, h4⟩)
  · rw [nums_two] at h1
    obtain ⟨x, s, k1, k2⟩ := Foyer.Plan.then_ok h1
    cases k2
    exact gives_ok x r k1 ⟨rfl, h2⟩ h3 h4
  · rw [nums_two] at h1
    cases hn : pointP ts with
    | ok x s => rw [then_of hn] at h1; cases h1
    | bad s => rw [then_bad hn] at h1; cases h1; exact gives_bad _ rfl h4
theorem numbers4_any (h4 : 4 ≤ cs.length) (hv : Blk w vb T' [.pointer (some ⟨B, 0, none⟩), .pointer (some ⟨B, 1, none⟩), .pointer (some ⟨B, 2, none⟩), .pointer (some ⟨B, 3, none⟩)]) :
    Calls Tryz.prog 35 #[.pointer (some ⟨bp, 0, none⟩), .slice (some ⟨vb, 0, none⟩) 4 4] w (Gives bp L (twoB bp B) w (boxP ts) fun p e w' => e = .returned (.tuple #[]) ∧ Blk w' B T ((((cs.set 0 (.int .i64 (p.x : Nat))).set 1 (.int .i64 (p.y : Nat))).set 2 (.int .i64 (p.x2 : Nat))).set 3 (.int .i64 (p.y2 : Nat)))) := by
  refine (numbers_any bp L ts [0, 1, 2, 3] 4 rfl (by decide) vb B T T' cs w h hv hB (fun q hq => by
    simp only [List.mem_cons, List.not_mem_nil, or_false] at hq
    omega) hb1 hb2 hb3).mono ?_
  rintro e w' (⟨xs, r, h1, ⟨rfl, h2⟩, h3, h4⟩ | ⟨r, h1, rfl, h4⟩)
  · rw [nums_four] at h1
    obtain ⟨x, s, k1, k2⟩ := Foyer.Plan.then_ok h1
    cases k2
    exact gives_ok x r k1 ⟨rfl, h2⟩ h3 h4
  · rw [nums_four] at h1
    cases hn : boxP ts with
    | ok x s => rw [then_of hn] at h1; cases h1
    | bad s => rw [then_bad hn] at h1; cases h1; exact gives_bad _ rfl h4
end
/-! ### A result's cells, written one by one -/
theorem setCells_two (w : World) (b : Nat) (v0 v1 : Value) : (w.setCell ⟨b, 0, none⟩ v0).setCell ⟨b, 1, none⟩ v1 = w.setCells b 0 [v0, v1] := rfl
theorem setCells_three (w : World) (b : Nat) (v0 v1 v2 : Value) : ((w.setCell ⟨b, 0, none⟩ v0).setCell ⟨b, 1, none⟩ v1).setCell ⟨b, 2, none⟩ v2 = w.setCells b 0 [v0, v1, v2] := rfl
theorem setCells_four (w : World) (b : Nat) (v0 v1 v2 v3 : Value) : (((w.setCell ⟨b, 0, none⟩ v0).setCell ⟨b, 1, none⟩ v1).setCell ⟨b, 2, none⟩ v2).setCell ⟨b, 3, none⟩ v3 = w.setCells b 0 [v0, v1, v2, v3] := rfl
theorem setCells_seven (w : World) (b : Nat) (v0 v1 v2 v3 v4 v5 v6 : Value) : ((((((w.setCell ⟨b, 0, none⟩ v0).setCell ⟨b, 1, none⟩ v1).setCell ⟨b, 2, none⟩ v2).setCell ⟨b, 3, none⟩ v3).setCell ⟨b, 4, none⟩ v4).setCell ⟨b, 5, none⟩ v5).setCell ⟨b, 6, none⟩ v6 = w.setCells b 0 [v0, v1, v2, v3, v4, v5, v6] := rfl
theorem setCells_eight (w : World) (b : Nat) (v0 v1 v2 v3 v4 v5 v6 v7 : Value) : (((((((w.setCell ⟨b, 0, none⟩ v0).setCell ⟨b, 1, none⟩ v1).setCell ⟨b, 2, none⟩ v2).setCell ⟨b, 3, none⟩ v3).setCell ⟨b, 4, none⟩ v4).setCell ⟨b, 5, none⟩ v5).setCell ⟨b, 6, none⟩ v6).setCell ⟨b, 7, none⟩ v7 = w.setCells b 0 [v0, v1, v2, v3, v4, v5, v6, v7] := rfl
def pointC (p : Nat × Nat) : List Value := [.int .i64 (p.1 : Nat), .int .i64 (p.2 : Nat)]
def boxC (b : BoxP) : List Value := [.int .i64 (b.x : Nat), .int .i64 (b.y : Nat), .int .i64 (b.x2 : Nat), .int .i64 (b.y2 : Nat)]
def AggV {α : Type} (C : α → List Value) (a : α) (e : Ending) (_ : World) : Prop := e = .returned (.agg (C a).toArray)
/-- What writing a whole block leaves. -/
theorem Kp.result {E : Nat → Prop} {a W : World} {b : Nat} (h : Kp E a W) (hb : a.heap.size ≤ b) (vs : List Value) : Kp E a (W.setCells b 0 vs) := Kp.setCells (Or.inr hb) vs 0 W h
theorem At.result {W : World} {bp L b : Nat} {ts : List TokP} (h : At W bp L ts) (hb : bp < b) (vs : List Value) : At (W.setCells b 0 vs) bp L ts :=
  h.kept (Kp.setCells (E := fun k => k = b) (Or.inl rfl) vs 0 W (Kp.refl _ _)) fun k hk => by have : k = b := hk; omega

set_option maxRecDepth 100000 in
theorem point_any (bp L : Nat) (ts : List TokP) (w : World) (h : At w bp L ts) : Calls Tryz.prog 68 #[.pointer (some ⟨bp, 0, none⟩)] w (Gives bp L (onlyB bp) w (pointP ts) (AggV pointC)) := by
  have hlt := h.lt
  have R0 := Lib.hid ((Blk.new w 24 [.int .i64 0, .int .i64 0]).alloc (.cells #[.int .i64 0, .int .i64 0] 24))
  have V0 := Blk.new (w.alloc (.cells #[.int .i64 0, .int .i64 0] 24)) 24 [.int .i64 0, .int .i64 0]
  have K0 : Hid (Kp (onlyB bp) w ((w.alloc (.cells #[.int .i64 0, .int .i64 0] 24)).alloc (.cells #[.int .i64 0, .int .i64 0] 24))) := Lib.hid (((Kp.refl _ _).alloc _).alloc _)
  have A0 : Hid (At ((w.alloc (.cells #[.int .i64 0, .int .i64 0] 24)).alloc (.cells #[.int .i64 0, .int .i64 0] 24)) bp L ts) := Lib.hid (h.kept (E := fun _ => False) (((Kp.refl _ _).alloc _).alloc _) (fun _ h => h.elim))
  clear h
  go_enter Tryz.func68, Tryz.ntmps68
  go_upto_region 2 with fail
  have hs0 : w.heap.size + 2 ≤ ((w.alloc (.cells #[.int .i64 0, .int .i64 0] 24)).alloc (.cells #[.int .i64 0, .int .i64 0] 24)).heap.size := by simp
  have hv : (w.alloc (.cells #[.int .i64 0, .int .i64 0] 24)).heap.size = w.heap.size + 1 := by simp
  rw [hv] at V0
  have V0 := Lib.hid V0
  generalize (w.alloc (.cells #[.int .i64 0, .int .i64 0] 24)).alloc (.cells #[.int .i64 0, .int .i64 0] 24) = W0 at *
  clear hv
  go_wp2_with fail
  refine (numbers2_any bp L ts W0.heap.size (w.heap.size + 1) _ 92 [.int .i64 0, .int .i64 0] _ (A0.out.kept (E := fun _ => False) ((Kp.refl _ _).alloc _) (fun _ h => h.elim)) (V0.out.alloc _) (by omega) (by omega) (by omega) 0 1 (by decide) (by decide) (Blk.new W0 _ [.pointer (some ⟨w.heap.size + 1, 0, none⟩), .pointer (some ⟨w.heap.size + 1, 1, none⟩)])).mono ?_
  rintro e w1 (⟨p, r, h1, ⟨rfl, v1⟩, a1, k1⟩ | ⟨r, h1, rfl, k1⟩)
  · have kk : Kp (onlyB bp) w w1 := ((K0.out.alloc _).call k1 (fun k hk => hk.elim (fun h => Or.inl h) (fun h => Or.inr (by have : k = w.heap.size + 1 := h; omega))))
    have r1 := (R0.out.alloc (.cells #[.pointer (some ⟨w.heap.size + 1, 0, none⟩), .pointer (some ⟨w.heap.size + 1, 1, none⟩)] 92)).kept k1 (fun h => h.elim (fun h => by omega) (fun h => by omega))
    have c0 := v1.cell (i := 0) rfl
    have c1 := v1.cell (i := 1) rfl
    have z0 := r1.cell (i := 0) rfl
    have z1 := r1.cell (i := 1) rfl
    have zf := r1.free
    have R1 := Lib.hid r1; have A1 := Lib.hid a1; have KK := Lib.hid kk; have H1 := Lib.hid h1
    clear r1 a1 kk h1 v1 k1 R0 V0 K0 A0
    go_wp2
    rw [setCells_two]
    exact bodyPost_ret (results_cell_mid rfl _ _ w.heap.size (pointC p) _ rfl (R1.out.whole (vs := pointC p) rfl).range Tryz.underlying24 rfl (by kernel_rfl)) rfl
      (gives_ok p r H1.out rfl (A1.out.result hlt _) (KK.out.result (Nat.le_refl _) _))
  · have kk : Kp (onlyB bp) w w1 := ((K0.out.alloc _).call k1 (fun k hk => hk.elim (fun h => Or.inl h) (fun h => Or.inr (by have : k = w.heap.size + 1 := h; omega))))
    have KK := Lib.hid kk; have H1 := Lib.hid h1
    clear h1 k1 kk R0 V0 K0 A0
    unfold failP
    go_wp2
    exact ⟨rfl, gives_bad r H1.out KK.out⟩
set_option maxRecDepth 100000 in
theorem box_any (bp L : Nat) (ts : List TokP) (w : World) (h : At w bp L ts) : Calls Tryz.prog 65 #[.pointer (some ⟨bp, 0, none⟩)] w (Gives bp L (onlyB bp) w (boxP ts) (AggV boxC)) := by
  have hlt := h.lt
  have R0 := Lib.hid ((Blk.new w 48 [.int .i64 0, .int .i64 0, .int .i64 0, .int .i64 0]).alloc (.cells #[.int .i64 0, .int .i64 0, .int .i64 0, .int .i64 0] 48))
  have V0 := Blk.new (w.alloc (.cells #[.int .i64 0, .int .i64 0, .int .i64 0, .int .i64 0] 48)) 48 [.int .i64 0, .int .i64 0, .int .i64 0, .int .i64 0]
  have K0 : Hid (Kp (onlyB bp) w ((w.alloc (.cells #[.int .i64 0, .int .i64 0, .int .i64 0, .int .i64 0] 48)).alloc (.cells #[.int .i64 0, .int .i64 0, .int .i64 0, .int .i64 0] 48))) := Lib.hid (((Kp.refl _ _).alloc _).alloc _)
  have A0 : Hid (At ((w.alloc (.cells #[.int .i64 0, .int .i64 0, .int .i64 0, .int .i64 0] 48)).alloc (.cells #[.int .i64 0, .int .i64 0, .int .i64 0, .int .i64 0] 48)) bp L ts) := Lib.hid (h.kept (E := fun _ => False) (((Kp.refl _ _).alloc _).alloc _) (fun _ h => h.elim))
  clear h
  go_enter Tryz.func65, Tryz.ntmps65
  go_upto_region 2 with fail
  have hs0 : w.heap.size + 2 ≤ ((w.alloc (.cells #[.int .i64 0, .int .i64 0, .int .i64 0, .int .i64 0] 48)).alloc (.cells #[.int .i64 0, .int .i64 0, .int .i64 0, .int .i64 0] 48)).heap.size := by simp
  have hv : (w.alloc (.cells #[.int .i64 0, .int .i64 0, .int .i64 0, .int .i64 0] 48)).heap.size = w.heap.size + 1 := by simp
  rw [hv] at V0
  have V0 := Lib.hid V0
  generalize (w.alloc (.cells #[.int .i64 0, .int .i64 0, .int .i64 0, .int .i64 0] 48)).alloc (.cells #[.int .i64 0, .int .i64 0, .int .i64 0, .int .i64 0] 48) = W0 at *
  clear hv
  go_wp2_with fail
  refine (numbers4_any bp L ts W0.heap.size (w.heap.size + 1) _ 92 [.int .i64 0, .int .i64 0, .int .i64 0, .int .i64 0] _ (A0.out.kept (E := fun _ => False) ((Kp.refl _ _).alloc _) (fun _ h => h.elim)) (V0.out.alloc _) (by omega) (by omega) (by omega) (by decide) (Blk.new W0 _ [.pointer (some ⟨w.heap.size + 1, 0, none⟩), .pointer (some ⟨w.heap.size + 1, 1, none⟩), .pointer (some ⟨w.heap.size + 1, 2, none⟩), .pointer (some ⟨w.heap.size + 1, 3, none⟩)])).mono ?_
  rintro e w1 (⟨p, r, h1, ⟨rfl, v1⟩, a1, k1⟩ | ⟨r, h1, rfl, k1⟩)
  · have kk : Kp (onlyB bp) w w1 := ((K0.out.alloc _).call k1 (fun k hk => hk.elim (fun h => Or.inl h) (fun h => Or.inr (by have : k = w.heap.size + 1 := h; omega))))
    have r1 := (R0.out.alloc (.cells #[.pointer (some ⟨w.heap.size + 1, 0, none⟩), .pointer (some ⟨w.heap.size + 1, 1, none⟩), .pointer (some ⟨w.heap.size + 1, 2, none⟩), .pointer (some ⟨w.heap.size + 1, 3, none⟩)] 92)).kept k1 (fun h => h.elim (fun h => by omega) (fun h => by omega))
    have c0 := v1.cell (i := 0) rfl
    have c1 := v1.cell (i := 1) rfl
    have c2 := v1.cell (i := 2) rfl
    have c3 := v1.cell (i := 3) rfl
    have z0 := r1.cell (i := 0) rfl
    have z1 := r1.cell (i := 1) rfl
    have z2 := r1.cell (i := 2) rfl
    have z3 := r1.cell (i := 3) rfl
    have zf := r1.free
    have R1 := Lib.hid r1; have A1 := Lib.hid a1; have KK := Lib.hid kk; have H1 := Lib.hid h1
    clear r1 a1 kk h1 v1 k1 R0 V0 K0 A0
    go_wp2
    rw [setCells_four]
    exact bodyPost_ret (results_cell_mid rfl _ _ w.heap.size (boxC p) _ rfl (R1.out.whole (vs := boxC p) rfl).range Tryz.underlying48 rfl (by kernel_rfl)) rfl
      (gives_ok p r H1.out rfl (A1.out.result hlt _) (KK.out.result (Nat.le_refl _) _))
  · have kk : Kp (onlyB bp) w w1 := ((K0.out.alloc _).call k1 (fun k hk => hk.elim (fun h => Or.inl h) (fun h => Or.inr (by have : k = w.heap.size + 1 := h; omega))))
    have KK := Lib.hid kk; have H1 := Lib.hid h1
    clear h1 k1 kk R0 V0 K0 A0
    unfold failP
    go_wp2
    exact ⟨rfl, gives_bad r H1.out KK.out⟩
end Go.Proofs.YtlfjdohjfmfcdaaGreatDoor
