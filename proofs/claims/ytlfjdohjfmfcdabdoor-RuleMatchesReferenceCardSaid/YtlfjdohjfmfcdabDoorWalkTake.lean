/-
  The walks of what takes the next token.
-/
import Derived.Test.YtlfjdohjfmfcdabDoorHeap
import Derived.Test.YtlfjdohjfmfcdabDoorMathRule
import Derived.Shelf.Abstract

/-! ## The walks of what takes the next token. -/
namespace Go.Proofs.YtlfjdohjfmfcdabDoor
open Go.RowKit Go.Sort Foyer.Rule
abbrev TokP := Foyer.Lexer.Tok

theorem beq_dec {α : Type} [BEq α] [LawfulBEq α] [DecidableEq α] (a b : α) : (a == b) = decide (a = b) := by
  by_cases h : a = b <;> simp [h]
/-- A token's value. -/
def tkV (t : TokP) : Value := .agg #[.int .i64 (t.kind : Nat), .string ⟨t.text.toArray⟩, .int .i64 (t.val : Nat), .int .i64 (t.pos : Nat)]
/-- The parser: the tokens that are left, and the text's length. -/
def At (w : World) (bp L : Nat) (ts : List TokP) : Prop :=
  ∃ p cap, Blk w bp 60 [.slice p ts.length cap, .int .i64 (L : Nat)] ∧ (ts = [] ∨ ∃ b off, p = some ⟨b, off, none⟩ ∧ b < bp ∧ ∀ j t, ts[j]? = some t → TokAt w b (off + j * 4) t) ∧ ts.length ≤ cap ∧ cap ≤ maxLen ∧ (p = none → cap = 0) ∧ ∀ t ∈ ts, t.text.length ≤ 1000000
theorem TokAt.kept {E : Nat → Prop} {w w' : World} {b o : Nat} {t : TokP} (h : TokAt w b o t) (k : Kp E w w') (hE : ¬ E b) : TokAt w' b o t := by
  have hb := lt_of_cell h.kind
  have e : ∀ i, w'.cell? ⟨b, i, none⟩ = w.cell? ⟨b, i, none⟩ := fun i => World.cell?_of_block (w := w) (k.block b hb hE)
  exact ⟨by rw [e]; exact h.kind, by rw [e]; exact h.text, by rw [e]; exact h.val, by rw [e]; exact h.pos⟩
theorem At.short {w : World} {bp L : Nat} {ts : List TokP} (h : At w bp L ts) : ∀ t ∈ ts, t.text.length ≤ 1000000 := let ⟨_, _, _, _, _, _, _, h⟩ := h; h
theorem At.lt {w : World} {bp L : Nat} {ts : List TokP} (h : At w bp L ts) : bp < w.heap.size := let ⟨_, _, h, _⟩ := h; h.lt
theorem At.kept {E : Nat → Prop} {w w' : World} {bp L : Nat} {ts : List TokP} (h : At w bp L ts) (k : Kp E w w') (hE : ∀ k, E k → bp < k) : At w' bp L ts := by
  obtain ⟨p, cap, hB, hr, hc⟩ := h
  refine ⟨p, cap, hB.kept k (fun he => by have := hE _ he; omega), hr.imp id ?_, hc⟩
  rintro ⟨b, off, rfl, hb, ht⟩
  exact ⟨b, off, rfl, hb, fun j t hj => (ht j t hj).kept k (fun he => by have := hE _ he; omega)⟩
/-- What a failure panics with. -/
def failP (c : Nat) (r : List TokP) (L : Nat) : Ending := .panicked [{ v := .iface 56 (.agg #[.int .i64 ((failAt c L r).1 : Nat), .int .i64 ((failAt c L r).2 : Nat)]), recovered := false }]
/-- What a piece of the parser returns, or panics with. -/
def Gives {α : Type} (bp L : Nat) (E : Nat → Prop) (w : World) (x : Res α) (V : α → Ending → World → Prop) (e : Ending) (w' : World) : Prop :=
  (∃ a r, x = .ok a r ∧ V a e w' ∧ At w' bp L r ∧ Kp E w w') ∨ ∃ c r, x = .bad c r ∧ e = failP c r L ∧ Kp E w w'
theorem gives_ok {α : Type} {bp L : Nat} {E : Nat → Prop} {w w' : World} {x : Res α} {V : α → Ending → World → Prop} {e : Ending} (a : α) (r : List TokP) (h : x = .ok a r) (h1 : V a e w') (h2 : At w' bp L r) (h3 : Kp E w w') : Gives bp L E w x V e w' := Or.inl ⟨a, r, h, h1, h2, h3⟩
theorem gives_bad {α : Type} {bp L : Nat} {E : Nat → Prop} {w w' : World} {x : Res α} {V : α → Ending → World → Prop} (c : Nat) (r : List TokP) (h : x = .bad c r) (h1 : Kp E w w') : Gives bp L E w x V (failP c r L) w' := Or.inr ⟨c, r, h, rfl, h1⟩

set_option maxRecDepth 100000 in
theorem left_any (bp L : Nat) (ts : List TokP) (w : World) (h : At w bp L ts) (y : Bool) (hy : decide (ts ≠ []) = y) : Calls Tryd.prog 30 #[.pointer (some ⟨bp, 0, none⟩)] w fun e w' => e = .returned (.bool y) ∧ w' = w := by
  subst hy
  obtain ⟨p, cap, hB, hr, hc, hm, hn⟩ := h
  have h0 := hB.cell (i := 0) rfl
  cases ts with
  | nil =>
    go_enter Tryd.func30, Tryd.ntmps30
    go_wp2
    exact bodyPost_ret (results_tmp rfl _ _ _) rfl ⟨rfl, rfl⟩
  | cons t r =>
    have hpos : (0 : Int) < (r.length : Int) + 1 := by omega
    go_enter Tryd.func30, Tryd.ntmps30
    go_wp2
    exact bodyPost_ret (results_tmp rfl _ _ _) rfl ⟨by simp, rfl⟩
set_option maxRecDepth 100000 in
theorem fail_any (bp L : Nat) (ts : List TokP) (c : Nat) (w : World) (h : At w bp L ts) : Calls Tryd.prog 44 #[.pointer (some ⟨bp, 0, none⟩), .int .i64 (c : Nat)] w fun e w' => e = failP c ts L ∧ w' = w := by
  have HA := Lib.hid h
  obtain ⟨p, cap, hB, hr, hc, hm, hn⟩ := h
  have h0 := hB.cell (i := 0) rfl
  have h1 := hB.cell (i := 1) rfl
  cases ts with
  | nil =>
    go_enter Tryd.func44, Tryd.ntmps44
    go_wp2_with fail
    refine (left_any bp L [] _ HA.out false rfl).mono ?_
    rintro e w1 ⟨rfl, rfl⟩
    go_wp2
    exact ⟨rfl, rfl, rfl⟩
  | cons t r =>
    rcases hr with hr | ⟨b, off, rfl, hb, ht⟩
    · cases hr
    have h3 := (ht 0 t rfl).pos
    rw [Nat.zero_mul, Nat.add_zero] at h3
    have hpos : (0 : Int) < (r.length : Int) + 1 := by omega
    go_enter Tryd.func44, Tryd.ntmps44
    go_wp2_with fail
    refine (left_any bp L (t :: r) _ HA.out true (by simp)).mono ?_
    rintro e w1 ⟨rfl, rfl⟩
    go_wp2
    exact ⟨rfl, rfl, rfl⟩

/-! ### What a token is asked -/
/-- A function value that asks a token something, and turns nothing. -/
def Asks (f : Nat) (caps : Array Value) (q : TokP → Bool) (E : Nat → Prop) (w : World) : Prop :=
  ∀ w1 t, Kp E w w1 → Calls Tryd.prog f (#[tkV t] ++ caps) w1 fun e w2 => e = .returned (.bool (q t)) ∧ Kp (fun _ => False) w1 w2
set_option maxRecDepth 100000 in
theorem wordC_asks (s : List UInt8) (b : Nat) (E : Nat → Prop) (w : World) (hb : Blk w b 9 [.string ⟨s.toArray⟩]) (hE : ¬ E b) : Asks 65 #[.pointer (some ⟨b, 0, none⟩)] (fun t => decide (t.text = s)) E w := by
  intro w1 t k
  have hB := hb.kept k hE
  have hlt := hB.lt
  have h0 : (w1.alloc (.cells #[.int .i64 (t.kind : Nat), .string ⟨t.text.toArray⟩, .int .i64 (t.val : Nat), .int .i64 (t.pos : Nat)] 54)).cell? ⟨b, 0, none⟩ = some (.string ⟨s.toArray⟩) := (hB.alloc _).cell rfl
  show Calls Tryd.prog 65 #[.agg #[.int .i64 (t.kind : Nat), .string ⟨t.text.toArray⟩, .int .i64 (t.val : Nat), .int .i64 (t.pos : Nat)], .pointer (some ⟨b, 0, none⟩)] w1 _
  go_enter Tryd.func65, Tryd.ntmps65
  go_wp2
  exact bodyPost_ret (results_tmp rfl _ _ _) rfl ⟨by rw [beq_dec]; rfl, (Kp.refl _ _).alloc _⟩
set_option maxRecDepth 100000 in
theorem nameC_asks (E : Nat → Prop) (w : World) : Asks 61 #[] (fun t => decide (t.kind = 1)) E w := by
  intro w1 t k
  show Calls Tryd.prog 61 #[.agg #[.int .i64 (t.kind : Nat), .string ⟨t.text.toArray⟩, .int .i64 (t.val : Nat), .int .i64 (t.pos : Nat)]] w1 _
  have e : (((t.kind : Nat) : Int) == 1) = decide (t.kind = 1) := by
    rw [beq_dec]
    exact decide_eq_decide.2 ⟨fun h => by omega, fun h => by omega⟩
  clear k
  go_enter Tryd.func61, Tryd.ntmps61
  go_wp2
  exact bodyPost_ret (results_tmp rfl _ _ _) rfl ⟨rfl, (Kp.refl _ _).alloc _⟩
set_option maxRecDepth 100000 in
theorem numbersC_asks (E : Nat → Prop) (w : World) : Asks 80 #[] (fun t => decide (t.kind = 2)) E w := by
  intro w1 t k
  show Calls Tryd.prog 80 #[.agg #[.int .i64 (t.kind : Nat), .string ⟨t.text.toArray⟩, .int .i64 (t.val : Nat), .int .i64 (t.pos : Nat)]] w1 _
  have e : (((t.kind : Nat) : Int) == 2) = decide (t.kind = 2) := by
    rw [beq_dec]
    exact decide_eq_decide.2 ⟨fun h => by omega, fun h => by omega⟩
  clear k
  go_enter Tryd.func80, Tryd.ntmps80
  go_wp2
  exact bodyPost_ret (results_tmp rfl _ _ _) rfl ⟨rfl, (Kp.refl _ _).alloc _⟩

/-- Four cells written into a result's variable. -/
theorem Kp.setRes (W : World) (b : Nat) (v0 v1 v2 v3 : Value) : Kp (fun k => k = b) W ((((W.setCell ⟨b, 0, none⟩ v0).setCell ⟨b, 1, none⟩ v1).setCell ⟨b, 2, none⟩ v2).setCell ⟨b, 3, none⟩ v3) :=
  ((((Kp.refl (fun k => k = b) W).setOld b 0 rfl v0).setOld b 1 rfl v1).setOld b 2 rfl v2).setOld b 3 rfl v3
/-! ### The next token, which must fit -/
def onlyB (b : Nat) : Nat → Prop := fun k => k = b
def TakeV (t : TokP) (e : Ending) (_ : World) : Prop := e = .returned (tkV t)
set_option maxRecDepth 100000 in
set_option maxHeartbeats 1000000 in
theorem take_any (bp L : Nat) (ts : List TokP) (f : Nat) (hent : ∀ args w, (callFunc f args).run Tryd.prog w = .ok (.enter f args) w) (caps : Array Value) (q : TokP → Bool) (w : World) (h : At w bp L ts) (hq : Asks f caps q (fun _ => False) w) :
    Calls Tryd.prog 46 #[.pointer (some ⟨bp, 0, none⟩), .func (.func f) #[] caps] w (Gives bp L (onlyB bp) w (takeP q ts) TakeV) := by
  have hlt := h.lt
  have HA := Lib.hid h; have HQ := Lib.hid hq
  obtain ⟨p, cap, hB, hr, hc, hm, hn⟩ := h
  have b0 := (hB.alloc (.cells #[.int .i64 0, .string ⟨#[]⟩, .int .i64 0, .int .i64 0] 54))
  have h0 := b0.cell (i := 0) rfl
  cases ts with
  | nil =>
    clear hB hr hq b0
    go_enter Tryd.func46, Tryd.ntmps46
    go_wp2_with fail
    refine (left_any bp L [] _ (HA.out.kept ((Kp.refl (fun _ => False) _).alloc _) (fun _ h => h.elim)) false rfl).mono ?_
    rintro e w1 ⟨rfl, rfl⟩
    go_wp2_with fail
    refine (fail_any bp L [] 4 _ (HA.out.kept ((Kp.refl (fun _ => False) _).alloc _) (fun _ h => h.elim))).mono ?_
    rintro e w1 ⟨rfl, rfl⟩
    unfold failP
    go_wp2
    exact ⟨rfl, gives_bad 4 [] rfl ((Kp.refl _ _).alloc _)⟩
  | cons t r =>
    rcases hr with hr | ⟨b, off, rfl, hb, ht⟩
    · cases hr
    have k0 : Kp (fun _ => False) w (w.alloc (.cells #[.int .i64 0, .string ⟨#[]⟩, .int .i64 0, .int .i64 0] 54)) := (Kp.refl _ _).alloc _
    have t0 := (ht 0 t rfl).kept k0 (fun h => h)
    rw [Nat.zero_mul, Nat.add_zero] at t0
    obtain ⟨c0, c1, c2, c3⟩ := t0
    have hlen : ((r.length : Int) + 1 == 0) = false := by simp; omega
    have hpos : (0 : Int) < (r.length : Int) + 1 := by omega
    have K0 := Lib.hid k0; have HT := Lib.hid ht; have HB := Lib.hid hB
    clear ht hB b0 hq k0
    have AA := Lib.hid (HA.out.kept K0.out (fun _ h => h.elim))
    go_enter Tryd.func46, Tryd.ntmps46
    go_wp2_with fail
    refine (left_any bp L (t :: r) _ AA.out true (by simp)).mono ?_
    rintro e w1 ⟨rfl, rfl⟩
    clear AA
    go_wp2_with fail
    refine (HQ.out _ t K0.out).mono ?_
    rintro e w1 ⟨rfl, hk1⟩
    have k1 := K0.out.call hk1 (fun _ h => Or.inl h)
    have bR1 := ((Blk.new w 54 [.int .i64 0, .string ⟨#[]⟩, .int .i64 0, .int .i64 0]).kept hk1 (fun h => h))
    have a1 := HA.out.kept k1 (fun _ h => h.elim)
    have hB1 := HB.out.kept k1 (fun h => h)
    have t1 := (HT.out 0 t rfl).kept k1 (fun h => h)
    rw [Nat.zero_mul, Nat.add_zero] at t1
    obtain ⟨d0, d1, d2, d3⟩ := t1
    have g0 := hB1.cell (i := 0) rfl
    have gf := hB1.free 0
    have hs1 := k1.size
    clear h0 c0 c1 c2 c3 hent
    by_cases hqt : q t = true
    · rw [hqt]
      have HTP := Lib.hid (takeP_pos (r := r) hqt)
      have K1 := Lib.hid k1; have A1 := Lib.hid a1; have B1 := Lib.hid hB1; have BR := Lib.hid bR1
      have hcap1 : ¬ (cap : Int) < 1 := by simp at hc; omega
      clear K0 HQ HA
      go_upto_region 4 with fail
      clear g0 gf d0 d1 d2 d3
      have b3 := B1.out.alloc (.cells #[.int .i64 (t.kind : Nat), .string ⟨t.text.toArray⟩, .int .i64 (t.val : Nat), .int .i64 (t.pos : Nat)] 54)
      have r3 := BR.out.alloc (.cells #[.int .i64 (t.kind : Nat), .string ⟨t.text.toArray⟩, .int .i64 (t.val : Nat), .int .i64 (t.pos : Nat)] 54)
      have x3 := Blk.new w1 54 [.int .i64 (t.kind : Nat), .string ⟨t.text.toArray⟩, .int .i64 (t.val : Nat), .int .i64 (t.pos : Nat)]
      have k3 := K1.out.alloc (.cells #[.int .i64 (t.kind : Nat), .string ⟨t.text.toArray⟩, .int .i64 (t.val : Nat), .int .i64 (t.pos : Nat)] 54)
      generalize w1.alloc (.cells #[.int .i64 (t.kind : Nat), .string ⟨t.text.toArray⟩, .int .i64 (t.val : Nat), .int .i64 (t.pos : Nat)] 54) = W3 at *
      have hs3 := k3.size
      have g3 := b3.cell (i := 0) rfl
      have f3 := b3.free 0
      by_cases hc1 : cap = 1
      · subst hc1
        have B3 := Lib.hid b3; have R3 := Lib.hid r3; have X3 := Lib.hid x3; have K3 := Lib.hid k3
        clear b3 r3 x3 k3 B1 BR K1 A1
        go_upto_region 5 with fail
        have b4 := B3.out.set 0 (.slice (some ⟨b, off, none⟩) r.length 0)
        have r4 := R3.out.other (p := ⟨bp, 0, none⟩) (by show ¬ bp = w.heap.size; omega) (.slice (some ⟨b, off, none⟩) r.length 0)
        have x4 := X3.out.other (p := ⟨bp, 0, none⟩) (by show ¬ bp = w1.heap.size; omega) (.slice (some ⟨b, off, none⟩) r.length 0)
        have k4 : Kp (onlyB bp) w (W3.setCell ⟨bp, 0, none⟩ (.slice (some ⟨b, off, none⟩) r.length 0)) := (K3.out.mono (E' := onlyB bp) fun _ h => h.elim).setOld bp 0 rfl _
        have a4 : At (W3.setCell ⟨bp, 0, none⟩ (.slice (some ⟨b, off, none⟩) r.length 0)) bp L r := ⟨some ⟨b, off, none⟩, 0, b4, Or.inl (by simpa using hc), by rw [show r = [] by simpa using hc]; exact Nat.le_refl _, Nat.zero_le _, fun h => (by cases h), fun u hu => hn.2 u (List.mem_cons_of_mem _ hu)⟩
        generalize W3.setCell ⟨bp, 0, none⟩ (.slice (some ⟨b, off, none⟩) r.length 0) = W4 at *
        have l1 := x4.lt
        have y0 := x4.cell (i := 0) rfl
        have y1 := x4.cell (i := 1) rfl
        have y2 := x4.cell (i := 2) rfl
        have y3 := x4.cell (i := 3) rfl
        have z0 := r4.cell (i := 0) rfl
        have z1 := r4.cell (i := 1) rfl
        have z2 := r4.cell (i := 2) rfl
        have z3 := r4.cell (i := 3) rfl
        have zf := r4.free
        have R4 := Lib.hid r4; have K4 := Lib.hid k4; have A4 := Lib.hid a4
        clear b4 r4 x4 k4 a4 g3 f3 B3 R3 X3 K3
        go_wp2
        have r5 := (((R4.out.set 0 (.int .i64 (t.kind : Nat))).set 1 (.string ⟨t.text.toArray⟩)).set 2 (.int .i64 (t.val : Nat))).set 3 (.int .i64 (t.pos : Nat))
        exact bodyPost_ret (results_cell_mid rfl _ _ w.heap.size [.int .i64 (t.kind : Nat), .string ⟨t.text.toArray⟩, .int .i64 (t.val : Nat), .int .i64 (t.pos : Nat)] _ rfl r5.range Tryd.underlying54 rfl (by kernel_rfl)) rfl
          (gives_ok t r HTP.out rfl (A4.out.kept (Kp.setRes W4 w.heap.size _ _ _ _) (fun k hk => by have : k = w.heap.size := hk; omega)) (K4.out.call (Kp.setRes W4 w.heap.size _ _ _ _) (fun k hk => Or.inr (by have : k = w.heap.size := hk; omega))))
      · have B3 := Lib.hid b3; have R3 := Lib.hid r3; have X3 := Lib.hid x3; have K3 := Lib.hid k3
        clear b3 r3 x3 k3 B1 BR K1 A1
        go_upto_region 5 with fail
        have b4 := B3.out.set 0 (.slice (some ⟨b, off + 4, none⟩) r.length (cap - 1))
        have r4 := R3.out.other (p := ⟨bp, 0, none⟩) (by show ¬ bp = w.heap.size; omega) (.slice (some ⟨b, off + 4, none⟩) r.length (cap - 1))
        have x4 := X3.out.other (p := ⟨bp, 0, none⟩) (by show ¬ bp = w1.heap.size; omega) (.slice (some ⟨b, off + 4, none⟩) r.length (cap - 1))
        have k4 : Kp (onlyB bp) w (W3.setCell ⟨bp, 0, none⟩ (.slice (some ⟨b, off + 4, none⟩) r.length (cap - 1))) := (K3.out.mono (E' := onlyB bp) fun _ h => h.elim).setOld bp 0 rfl _
        have a4 : At (W3.setCell ⟨bp, 0, none⟩ (.slice (some ⟨b, off + 4, none⟩) r.length (cap - 1))) bp L r := ⟨some ⟨b, off + 4, none⟩, cap - 1, b4, Or.inr ⟨b, off + 4, rfl, hb, fun j u hj => by
                  have h5 := (HT.out (j + 1) u (by simpa using hj)).kept k4 (fun h => by have : b = bp := h; omega)
                  rwa [show off + (j + 1) * 4 = off + 4 + j * 4 by omega] at h5⟩, by simp at hc; omega, by omega, fun h => (by cases h), fun u hu => hn.2 u (List.mem_cons_of_mem _ hu)⟩
        generalize W3.setCell ⟨bp, 0, none⟩ (.slice (some ⟨b, off + 4, none⟩) r.length (cap - 1)) = W4 at *
        have l1 := x4.lt
        have y0 := x4.cell (i := 0) rfl
        have y1 := x4.cell (i := 1) rfl
        have y2 := x4.cell (i := 2) rfl
        have y3 := x4.cell (i := 3) rfl
        have z0 := r4.cell (i := 0) rfl
        have z1 := r4.cell (i := 1) rfl
        have z2 := r4.cell (i := 2) rfl
        have z3 := r4.cell (i := 3) rfl
        have zf := r4.free
        have R4 := Lib.hid r4; have K4 := Lib.hid k4; have A4 := Lib.hid a4
        clear b4 r4 x4 k4 a4 g3 f3 B3 R3 X3 K3
        go_wp2
        have r5 := (((R4.out.set 0 (.int .i64 (t.kind : Nat))).set 1 (.string ⟨t.text.toArray⟩)).set 2 (.int .i64 (t.val : Nat))).set 3 (.int .i64 (t.pos : Nat))
        exact bodyPost_ret (results_cell_mid rfl _ _ w.heap.size [.int .i64 (t.kind : Nat), .string ⟨t.text.toArray⟩, .int .i64 (t.val : Nat), .int .i64 (t.pos : Nat)] _ rfl r5.range Tryd.underlying54 rfl (by kernel_rfl)) rfl
          (gives_ok t r HTP.out rfl (A4.out.kept (Kp.setRes W4 w.heap.size _ _ _ _) (fun k hk => by have : k = w.heap.size := hk; omega)) (K4.out.call (Kp.setRes W4 w.heap.size _ _ _ _) (fun k hk => Or.inr (by have : k = w.heap.size := hk; omega))))
    · have hqf : q t = false := by simpa using hqt
      rw [hqf]
      have HTP := Lib.hid (takeP_neg (r := r) hqt)
      have K1 := Lib.hid k1; have A1 := Lib.hid a1
      clear k1 a1 hB1 bR1 hk1 hqt hqf
      go_wp2_with fail
      refine (fail_any bp L (t :: r) 4 _ A1.out).mono ?_
      rintro e w2 ⟨rfl, rfl⟩
      unfold failP
      go_wp2
      exact ⟨rfl, gives_bad _ _ HTP.out (K1.out.mono fun _ h => h.elim)⟩
end Go.Proofs.YtlfjdohjfmfcdabDoor

/-! ## The walks of single tokens: words, names, numbers. -/
namespace Go.Proofs.YtlfjdohjfmfcdabDoor
open Go.RowKit Go.Sort Go.Shelf Foyer.Rule

theorem wordC_ent (args : Array Value) (w : World) : (callFunc 65 args).run Tryd.prog w = .ok (.enter 65 args) w := enters_of Tryd.func65 (by kernel_rfl) rfl args w
theorem nameC_ent (args : Array Value) (w : World) : (callFunc 61 args).run Tryd.prog w = .ok (.enter 61 args) w := enters_of Tryd.func61 (by kernel_rfl) rfl args w
theorem numbersC_ent (args : Array Value) (w : World) : (callFunc 80 args).run Tryd.prog w = .ok (.enter 80 args) w := enters_of Tryd.func80 (by kernel_rfl) rfl args w
theorem makes_func (fn : Fn) (first cap : Array Value) (w : World) : (Instr.makeFunc fn first cap).run Tryd.prog w = .ok (.func fn first cap) w := rfl
theorem tok_field1 (a b c d : Value) (w : World) : (Instr.field 54 (.agg #[a, b, c, d]) 1).run Tryd.prog w = .ok b w := by kernel_rfl
theorem tok_field2 (a b c d : Value) (w : World) : (Instr.field 54 (.agg #[a, b, c, d]) 2).run Tryd.prog w = .ok c w := by kernel_rfl
theorem tok_field3 (a b c d : Value) (w : World) : (Instr.field 54 (.agg #[a, b, c, d]) 3).run Tryd.prog w = .ok d w := by kernel_rfl
def IntV (n : Nat) (e : Ending) (_ : World) : Prop := e = .returned (.int .i64 (n : Nat))
def UnitV {α : Type} (_ : α) (e : Ending) (_ : World) : Prop := e = .returned (.tuple #[])
set_option maxRecDepth 100000 in
theorem word_any (bp L : Nat) (ts : List TokP) (s : List UInt8) (w : World) (h : At w bp L ts) :
    Calls Tryd.prog 53 #[.pointer (some ⟨bp, 0, none⟩), .string ⟨s.toArray⟩] w (Gives bp L (onlyB bp) w (word s ts) UnitV) := by
  have hmf := makes_func
  have HA := Lib.hid h
  have k0 : Kp (fun _ => False) w (w.alloc (.cells #[.string ⟨s.toArray⟩] 9)) := (Kp.refl _ _).alloc _
  have b0 : Blk (w.alloc (.cells #[.string ⟨s.toArray⟩] 9)) w.heap.size 9 [.string ⟨s.toArray⟩] := Blk.new w _ _
  have K0 := Lib.hid k0; have B0 := Lib.hid b0
  clear h k0 b0
  go_enter Tryd.func53, Tryd.ntmps53
  go_wp2_with fail
  refine (take_any bp L ts 65 wordC_ent #[.pointer (some ⟨w.heap.size, 0, none⟩)] _ _ (HA.out.kept K0.out (fun _ h => h.elim)) (wordC_asks s _ _ _ B0.out (fun h => h))).mono ?_
  rintro e w1 (⟨t, r, h1, rfl, ha, hk⟩ | ⟨c, r, h1, rfl, hk⟩)
  · have HH := Lib.hid h1; have HA1 := Lib.hid ha; have HK := Lib.hid hk
    clear h1 ha hk
    unfold tkV
    go_wp2
    go_end0
    exact gives_ok t r HH.out rfl HA1.out ((K0.out.mono fun _ h => h.elim).trans HK.out)
  · have HH := Lib.hid h1; have HK := Lib.hid hk
    clear h1 hk
    unfold failP
    go_wp2
    exact ⟨rfl, gives_bad c r HH.out ((K0.out.mono fun _ h => h.elim).trans HK.out)⟩
set_option maxRecDepth 100000 in
theorem number_any (bp L : Nat) (ts : List TokP) (w : World) (h : At w bp L ts) :
    Calls Tryd.prog 69 #[.pointer (some ⟨bp, 0, none⟩)] w (Gives bp L (onlyB bp) w (num ts) IntV) := by
  have hfd := tok_field2
  have HA := Lib.hid h
  clear h
  go_enter Tryd.func69, Tryd.ntmps69
  go_wp2_with fail
  refine (take_any bp L ts 80 numbersC_ent #[] _ _ HA.out (numbersC_asks _ _)).mono ?_
  rintro e w1 (⟨t, r, h1, rfl, ha, hk⟩ | ⟨c, r, h1, rfl, hk⟩)
  · have HH := Lib.hid h1; have HA1 := Lib.hid ha; have HK := Lib.hid hk
    clear h1 ha hk
    unfold tkV
    go_wp2
    refine bodyPost_ret (results_tmp rfl _ _ _) rfl ?_
    exact gives_ok t.val r (show num ts = _ from then_of HH.out) rfl HA1.out HK.out
  · have HH := Lib.hid h1; have HK := Lib.hid hk
    clear h1 hk
    unfold failP
    go_wp2
    exact ⟨rfl, gives_bad c r (show num ts = _ from then_bad HH.out) HK.out⟩
set_option maxRecDepth 100000 in
theorem name_any (bp L : Nat) (ts : List TokP) (w : World) (h : At w bp L ts) :
    Calls Tryd.prog 48 #[.pointer (some ⟨bp, 0, none⟩)] w (Gives bp L (onlyB bp) w (nameT ts) TakeV) := by
  have HA := Lib.hid (h.kept (E := fun _ => False) ((Kp.refl _ _).alloc (.cells #[.int .i64 0, .string ⟨#[]⟩, .int .i64 0, .int .i64 0] 54)) (fun _ h => h.elim))
  have R0 := Lib.hid (Blk.new w 54 [.int .i64 0, .string ⟨#[]⟩, .int .i64 0, .int .i64 0])
  have hlt := h.lt
  clear h
  go_enter Tryd.func48, Tryd.ntmps48
  go_wp2_with fail
  refine (take_any bp L ts 61 nameC_ent #[] _ _ HA.out (nameC_asks _ _)).mono ?_
  rintro e w1 (⟨t, r, h1, rfl, ha, hk⟩ | ⟨c, r, h1, rfl, hk⟩)
  · have HH := Lib.hid h1; have HA1 := Lib.hid ha; have HK := Lib.hid (((Kp.refl (onlyB bp) w).alloc (.cells #[.int .i64 0, .string ⟨#[]⟩, .int .i64 0, .int .i64 0] 54)).trans hk)
    have R1 := Lib.hid (R0.out.kept hk (fun h => by have : w.heap.size = bp := h; omega))
    have z0 := R1.out.cell (i := 0) rfl
    have z1 := R1.out.cell (i := 1) rfl
    have z2 := R1.out.cell (i := 2) rfl
    have z3 := R1.out.cell (i := 3) rfl
    have zf := R1.out.free
    clear h1 ha hk R0
    unfold tkV
    go_wp2
    have r5 := (((R1.out.set 0 (.int .i64 (t.kind : Nat))).set 1 (.string ⟨t.text.toArray⟩)).set 2 (.int .i64 (t.val : Nat))).set 3 (.int .i64 (t.pos : Nat))
    exact bodyPost_ret (results_cell_mid rfl _ _ w.heap.size [.int .i64 (t.kind : Nat), .string ⟨t.text.toArray⟩, .int .i64 (t.val : Nat), .int .i64 (t.pos : Nat)] _ rfl r5.range Tryd.underlying54 rfl (by kernel_rfl)) rfl
      (gives_ok t r HH.out rfl (HA1.out.kept (Kp.setRes w1 w.heap.size _ _ _ _) (fun k hk => by have : k = w.heap.size := hk; omega)) (HK.out.call (Kp.setRes w1 w.heap.size _ _ _ _) (fun k hk => Or.inr (by have : k = w.heap.size := hk; omega))))
  · have HH := Lib.hid h1; have HK := Lib.hid (((Kp.refl (onlyB bp) w).alloc (.cells #[.int .i64 0, .string ⟨#[]⟩, .int .i64 0, .int .i64 0] 54)).trans hk)
    clear h1 hk
    unfold failP
    go_wp2
    exact ⟨rfl, gives_bad c r HH.out HK.out⟩
set_option maxRecDepth 100000 in
/-- A word, if it comes next. -/
theorem skip_any (bp L : Nat) (ts : List TokP) (s : List UInt8) (w : World) (h : At w bp L ts) :
    Calls Tryd.prog 49 #[.pointer (some ⟨bp, 0, none⟩), .string ⟨s.toArray⟩] w fun e w' => ((∃ r, sepW s ts = some r ∧ e = .returned (.bool true) ∧ At w' bp L r) ∨ (sepW s ts = none ∧ e = .returned (.bool false) ∧ At w' bp L ts)) ∧ Kp (onlyB bp) w w' := by
  have HA := Lib.hid h
  obtain ⟨p, cap, hB, hr, hc, hm, hn⟩ := h
  have h0 := hB.cell (i := 0) rfl
  cases ts with
  | nil =>
    clear hr
    go_enter Tryd.func49, Tryd.ntmps49
    go_wp2_with fail
    refine (left_any bp L [] _ HA.out false rfl).mono ?_
    rintro e w1 ⟨rfl, rfl⟩
    go_wp2
    exact bodyPost_ret (results_tmp rfl _ _ _) rfl ⟨Or.inr ⟨rfl, rfl, HA.out⟩, Kp.refl _ _⟩
  | cons t r =>
    rcases hr with hr | ⟨b, off, rfl, hb, ht⟩
    · cases hr
    have h3 := (ht 0 t rfl).text
    rw [Nat.zero_mul, Nat.add_zero] at h3
    have hpos : (0 : Int) < (r.length : Int) + 1 := by omega
    clear ht hB
    by_cases hs : t.text = s
    · have hq : (t.text == s) = true := by simp [hs]
      have HW := Lib.hid hs
      clear hs
      go_enter Tryd.func49, Tryd.ntmps49
      go_wp2_with fail
      refine (left_any bp L (t :: r) _ HA.out true (by simp)).mono ?_
      rintro e w1 ⟨rfl, rfl⟩
      go_wp2_with fail
      refine (word_any bp L (t :: r) s _ HA.out).mono ?_
      have hw : word s (t :: r) = .ok t r := takeP_pos (decide_eq_true HW.out)
      rintro e w2 (⟨u, r2, h1, rfl, ha, hk⟩ | ⟨c, r2, h1, rfl, hk⟩)
      · rw [hw] at h1
        cases h1
        have HA1 := Lib.hid ha; have HK := Lib.hid hk
        clear ha hk hw h0 h3 hq
        go_wp2
        exact bodyPost_ret (results_tmp rfl _ _ _) rfl ⟨Or.inl ⟨r, sepW_pos HW.out, rfl, HA1.out⟩, HK.out⟩
      · rw [hw] at h1; cases h1
    · have hq : (t.text == s) = false := by simp [hs]
      have HW := Lib.hid hs
      clear hs
      go_enter Tryd.func49, Tryd.ntmps49
      go_wp2_with fail
      refine (left_any bp L (t :: r) _ HA.out true (by simp)).mono ?_
      rintro e w1 ⟨rfl, rfl⟩
      go_wp2
      exact bodyPost_ret (results_tmp rfl _ _ _) rfl ⟨Or.inr ⟨sepW_neg HW.out, rfl, HA.out⟩, Kp.refl _ _⟩
end Go.Proofs.YtlfjdohjfmfcdabDoor
