/-
  The walk of the parsing of tokens, whose failure is recovered.
-/
import Derived.Test.YtlfjdohjfmfcdaaGreatDoorWalkHall
import Derived.Defers
import Derived.Recover
import Derived.Test.YtlfjdohjfmfcdaaGreatDoorWalkLex

/-! ## The walk of the parsing of tokens, whose failure is recovered. -/
namespace Go.Proofs.YtlfjdohjfmfcdaaGreatDoor
open Go.RowKit Go.Sort Go.Shelf Foyer.Plan Foyer.Round

theorem assert_nil (w : World) : (Instr.typeAssert .nilIface 20 69 true).run Tryz.prog w = .ok (.tuple #[.agg #[.int .i64 0, .int .i64 0], .bool false]) w := by kernel_rfl
theorem assert_failure (v : Value) (w : World) : (Instr.typeAssert (.iface 69 v) 20 69 true).run Tryz.prog w = .ok (.tuple #[v, .bool true]) w := by kernel_rfl
set_option maxRecDepth 100000 in
theorem parseC_idle (hb eb ab : Nat) (w : World) :
    CallsD Tryz.prog 19 #[.pointer (some ⟨hb, 0, none⟩), .pointer (some ⟨eb, 0, none⟩), .pointer (some ⟨ab, 0, none⟩)] .returning w fun e u' w' =>
      e = .returned (.tuple #[]) ∧ u' = .returning ∧ w' = w.alloc (.cells #[.int .i64 0, .int .i64 0] 69) := by
  have h1 := assert_nil
  refine callsD_of_wpS Tryz.func19 rfl fun c₀ cs hu => ?_
  apply wpS_seq
  apply wpS_region
  simp [wpOpsS, go_sem, recoverD, hu, Tryz.ntmps19, Exit.thenS, h1]
  apply wpS_seq
  apply wpS_region
  simp [wpOpsS, go_sem, Exit.thenS]
  refine wpS_cond (t := false) (by simp [Act.eval]) ?_
  simp only [Bool.false_eq_true, if_false]
  refine wpS_of_wp (wp_skip ?_)
  cases c₀
  simp_all [bodyPostS, results, Tryz.results19]
set_option linter.unusedSimpArgs false in
set_option maxRecDepth 100000 in
set_option maxHeartbeats 2000000 in
theorem parseC_failed (hb eb ab E A : Nat) (w : World) (c0 c1 c2 c3 d0 d1 : Value) (hh : Blk w hb 27 [c0, c1, c2, c3]) (he : Blk w eb 28 [d0]) (ha : Blk w ab 3 [d1]) (h12 : hb < eb) (h23 : eb < ab) :
    CallsD Tryz.prog 19 #[.pointer (some ⟨hb, 0, none⟩), .pointer (some ⟨eb, 0, none⟩), .pointer (some ⟨ab, 0, none⟩)] (.panicking [{ v := .iface 69 (.agg #[.int .i64 (E : Nat), .int .i64 (A : Nat)]), recovered := false }]) w fun e u' w' =>
      e = .returned (.tuple #[]) ∧ u' = .panicking [{ v := .iface 69 (.agg #[.int .i64 (E : Nat), .int .i64 (A : Nat)]), recovered := true }] ∧
        Blk w' hb 27 [.string ⟨#[]⟩, .int .i64 0, .int .i64 0, .slice none 0 0] ∧ Blk w' eb 28 [.int .i64 (E : Nat)] ∧ Blk w' ab 3 [.int .i64 (A : Nat)] ∧ Kp (fun k => k = hb ∨ k = eb ∨ k = ab) w w' := by
  have h1 := assert_failure
  refine callsD_of_wpS Tryz.func19 rfl fun c₀ cs hu => ?_
  apply wpS_seq
  apply wpS_region
  simp [wpOpsS, go_sem, recoverD, hu, Tryz.ntmps19, Exit.thenS, h1]
  have hh2 := hh.alloc (.cells #[.int .i64 (E : Nat), .int .i64 (A : Nat)] 69)
  have he2 := he.alloc (.cells #[.int .i64 (E : Nat), .int .i64 (A : Nat)] 69)
  have ha2 := ha.alloc (.cells #[.int .i64 (E : Nat), .int .i64 (A : Nat)] 69)
  have hx2 := Blk.new w 69 [.int .i64 (E : Nat), .int .i64 (A : Nat)]
  have hk2 := (Kp.refl (fun k => k = hb ∨ k = eb ∨ k = ab) w).alloc (.cells #[.int .i64 (E : Nat), .int .i64 (A : Nat)] 69)
  apply wpS_seq
  apply wpS_region
  simp [wpOpsS, go_sem, Exit.thenS]
  refine wpS_cond (t := true) (by simp [Act.eval]) ?_
  simp only [if_true]
  have hw := ha.lt
  refine wpS_of_wp ?_
  obtain ⟨W, hW⟩ : ∃ W, w.alloc (.cells #[.int .i64 (E : Nat), .int .i64 (A : Nat)] 69) = W := ⟨_, rfl⟩
  rw [hW] at hh2 he2 ha2 hx2 hk2 ⊢
  refine wp_region_any (by kernel_rfl) ?_
  have hl := hx2.lt
  have hS0 : Blk W.drew w.heap.size 69 [.int .i64 (E : Nat), .int .i64 (A : Nat)] := hx2
  have hh0 : Blk W.drew hb 27 [c0, c1, c2, c3] := hh2
  have he0 : Blk W.drew eb 28 [d0] := he2
  have ha0 : Blk W.drew ab 3 [d1] := ha2
  have hk0 : Kp (fun k => k = hb ∨ k = eb ∨ k = ab) w W.drew := hk2.drew
  refine any_of_held (S := fun V => Blk V w.heap.size 69 [.int .i64 (E : Nat), .int .i64 (A : Nat)]) (N := []) _ _ _ _ ?_
  change held _ _ _ _ _ _ _ _ _ W.drew
  obtain ⟨wa, hwa⟩ : ∃ wa, W.drew = wa := ⟨_, rfl⟩
  rw [hwa] at hS0 hh0 he0 ha0 hk0 ⊢
  have z0 := hh0.cell (i := 0) rfl
  have z1 := hh0.cell (i := 1) rfl
  have z2 := hh0.cell (i := 2) rfl
  have z3 := hh0.cell (i := 3) rfl
  have zf := hh0.free
  have HK := Lib.hid hk0; have HH := Lib.hid hh0; have HE := Lib.hid he0; have HA := Lib.hid ha0
  clear hwa hh2 he2 ha2 hx2 hk2 hW hh he ha hh0 he0 ha0 hk0
  refine held_take [] (i := 0) (v := .agg #[.string ⟨#[]⟩, .int .i64 0, .int .i64 0, .slice none 0 0]) rfl (by kernel_rfl) (fun _ _ _ h => h) (Or.inl ⟨by rfl, fun w' hS => by go_simp⟩) hS0 ?_
  try simp only [Act.put, List.setIfInBounds_toArray, List.set_cons_zero, List.set_cons_succ]
  refine held_take [] (i := 1) (v := .pointer (some ⟨w.heap.size, 0, none⟩)) rfl (by kernel_rfl) (fun _ _ _ h => h) (Or.inl ⟨by rfl, fun w' hS => by go_simp⟩) hS0 ?_
  try simp only [Act.put, List.setIfInBounds_toArray, List.set_cons_zero, List.set_cons_succ]
  refine held_take [] (i := 2) (v := .int .i64 (E : Nat)) rfl (by kernel_rfl) (fun _ _ _ h => h) (Or.inl ⟨by rfl, fun w' hS => by have hc := hS.cell (i := 0) rfl; go_simp⟩) hS0 ?_
  try simp only [Act.put, List.setIfInBounds_toArray, List.set_cons_zero, List.set_cons_succ]
  refine held_take [] (i := 3) (v := .pointer (some ⟨w.heap.size, 1, none⟩)) rfl (by kernel_rfl) (fun _ _ _ h => h) (Or.inl ⟨by rfl, fun w' hS => by go_simp⟩) hS0 ?_
  try simp only [Act.put, List.setIfInBounds_toArray, List.set_cons_zero, List.set_cons_succ]
  refine held_take [] (i := 4) (v := .int .i64 (A : Nat)) rfl (by kernel_rfl) (fun _ _ _ h => h) (Or.inl ⟨by rfl, fun w' hS => by have hc := hS.cell (i := 1) rfl; go_simp⟩) hS0 ?_
  try simp only [Act.put, List.setIfInBounds_toArray, List.set_cons_zero, List.set_cons_succ]
  refine held_one (i := 5) rfl (by kernel_rfl) (fun K hK => ?_)
  go_simp
  rw [setCells_four]
  have K1 := Kp.setCells (E := onlyB hb) (p := hb) (Or.inl rfl) [.string ⟨#[]⟩, .int .i64 0, .int .i64 0, .slice none 0 0] 0 wa (Kp.refl _ _)
  have S1 := hS0.kept K1 (fun h => by have : w.heap.size = hb := h; omega)
  have E1 := HE.out.kept K1 (fun h => by have : eb = hb := h; omega)
  have A1 := HA.out.kept K1 (fun h => by have : ab = hb := h; omega)
  have H1 := HH.out.whole (vs := [.string ⟨#[]⟩, .int .i64 0, .int .i64 0, .slice none 0 0]) rfl
  have KK1 := HK.out.call K1 (fun k hk => Or.inl (Or.inl hk))
  refine hK.out _ _ (fun _ => S1) ?_
  clear hK K z0 z1 z2 z3 zf K1
  generalize wa.setCells hb 0 [.string ⟨#[]⟩, .int .i64 0, .int .i64 0, .slice none 0 0] = wb at *
  try simp only [Act.put, List.setIfInBounds_toArray, List.set_cons_zero, List.set_cons_succ]
  have e0 := E1.cell (i := 0) rfl
  have ef := E1.free 0
  refine held_one (i := 6) rfl (by kernel_rfl) (fun K hK => ?_)
  go_simp
  have S2 := S1.other (p := ⟨eb, 0, none⟩) (by show ¬ eb = w.heap.size; omega) (.int .i64 (E : Nat))
  have E2 := E1.set 0 (.int .i64 (E : Nat))
  have A2 := A1.other (p := ⟨eb, 0, none⟩) (by show ¬ eb = ab; omega) (.int .i64 (E : Nat))
  have H2 := H1.other (p := ⟨eb, 0, none⟩) (by show ¬ eb = hb; omega) (.int .i64 (E : Nat))
  have KK2 := KK1.setOld eb 0 (Or.inr (Or.inl rfl)) (.int .i64 (E : Nat))
  refine hK.out _ _ (fun _ => S2) ?_
  clear hK K e0 ef
  generalize wb.setCell ⟨eb, 0, none⟩ (.int .i64 (E : Nat)) = wc at *
  try simp only [Act.put, List.setIfInBounds_toArray, List.set_cons_zero, List.set_cons_succ]
  have a0 := A2.cell (i := 0) rfl
  have af := A2.free 0
  refine held_one (i := 7) rfl (by kernel_rfl) (fun K hK => ?_)
  go_simp
  have S3 := S2.other (p := ⟨ab, 0, none⟩) (by show ¬ ab = w.heap.size; omega) (.int .i64 (A : Nat))
  have E3 := E2.other (p := ⟨ab, 0, none⟩) (by show ¬ ab = eb; omega) (.int .i64 (A : Nat))
  have A3 := A2.set 0 (.int .i64 (A : Nat))
  have H3 := H2.other (p := ⟨ab, 0, none⟩) (by show ¬ ab = hb; omega) (.int .i64 (A : Nat))
  have KK3 := KK2.setOld ab 0 (Or.inr (Or.inr rfl)) (.int .i64 (A : Nat))
  refine hK.out _ _ (fun _ => S3) ?_
  clear hK K a0 af
  generalize wc.setCell ⟨ab, 0, none⟩ (.int .i64 (A : Nat)) = wd at *
  try simp only [Act.put, List.setIfInBounds_toArray, List.set_cons_zero, List.set_cons_succ]
  refine held_done (by kernel_rfl) ?_ _
  exact ⟨rfl, _, rfl, _, by simp [results, Tryz.results19], rfl, rfl, H3, E3, A3, KK3⟩
end Go.Proofs.YtlfjdohjfmfcdaaGreatDoor

/-! ## The walk of the parsing of tokens: a hall, or the failure that was recovered. -/
namespace Go.Proofs.YtlfjdohjfmfcdaaGreatDoor
open Go.RowKit Go.Sort Go.Shelf Foyer.Plan Foyer.Round

/-- What a parsing returns. -/
def HallV (n : Nat) (x : HallP × Nat × Nat) (e : Ending) (w' : World) : Prop := ∃ c, e = .returned (.tuple #[.agg c.toArray, .int .i64 (x.2.1 : Nat), .int .i64 (x.2.2 : Nat)]) ∧ hallK.is w' (fun k => n ≤ k) c x.1
theorem noHall_is (W : World) (F : Nat → Prop) : hallK.is W F [.string ⟨#[]⟩, .int .i64 0, .int .i64 0, .slice none 0 0] noHall :=
  ⟨.slice none 0 0, rfl, [], con_nil W 0 _ _, (fun k h => by cases h), All2.nil⟩
theorem parse_fail {ts r : List TokP} (h : hallP ts = .bad r) (n : Nat) : parseToks ts n = (noHall, failAt n r) := by unfold parseToks; rw [h]
theorem parse_left {ts r : List TokP} {t : TokP} {a : HallP} (h : hallP ts = .ok a (t :: r)) (n : Nat) : parseToks ts n = (noHall, failAt n (t :: r)) := by unfold parseToks; rw [h]
set_option maxRecDepth 100000 in
set_option maxHeartbeats 4000000 in
theorem toks_any (ts : List TokP) (p : Option Addr) (n cap L : Nat) (w : World) (hr : RdT w p ts) (hn : ts.length = n) (hc : n ≤ cap) (hm : cap ≤ maxLen) (hp : p = none → cap = 0) (h5 : ts.length ≤ 5000) :
    Calls Tryz.prog 9 #[.slice p n cap, .int .i64 (L : Nat)] w fun e w' => HallV w.heap.size (parseToks ts L) e w' ∧ Kp (fun _ => False) w w' := by
  have hmf := makes_func
  subst hn
  have x1 := (((Blk.new w 27 [.string ⟨#[]⟩, .int .i64 0, .int .i64 0, .slice none 0 0]).alloc (.cells #[.int .i64 0] 28)).alloc (.cells #[.int .i64 0] 3)).alloc (.cells #[.slice p ts.length cap, .int .i64 (L : Nat)] 73)
  have x2 := ((Blk.new (w.alloc (.cells #[.string ⟨#[]⟩, .int .i64 0, .int .i64 0, .slice none 0 0] 27)) 28 [.int .i64 0]).alloc (.cells #[.int .i64 0] 3)).alloc (.cells #[.slice p ts.length cap, .int .i64 (L : Nat)] 73)
  have x3 := (Blk.new ((w.alloc (.cells #[.string ⟨#[]⟩, .int .i64 0, .int .i64 0, .slice none 0 0] 27)).alloc (.cells #[.int .i64 0] 28)) 3 [.int .i64 0]).alloc (.cells #[.slice p ts.length cap, .int .i64 (L : Nat)] 73)
  have x4 := Blk.new (((w.alloc (.cells #[.string ⟨#[]⟩, .int .i64 0, .int .i64 0, .slice none 0 0] 27)).alloc (.cells #[.int .i64 0] 28)).alloc (.cells #[.int .i64 0] 3)) 73 [.slice p ts.length cap, .int .i64 (L : Nat)]
  have k0 := ((((Kp.refl (fun _ => False) w).alloc (.cells #[.string ⟨#[]⟩, .int .i64 0, .int .i64 0, .slice none 0 0] 27)).alloc (.cells #[.int .i64 0] 28)).alloc (.cells #[.int .i64 0] 3)).alloc (.cells #[.slice p ts.length cap, .int .i64 (L : Nat)] 73)
  have hs0 : w.heap.size + 4 ≤ ((((w.alloc (.cells #[.string ⟨#[]⟩, .int .i64 0, .int .i64 0, .slice none 0 0] 27)).alloc (.cells #[.int .i64 0] 28)).alloc (.cells #[.int .i64 0] 3)).alloc (.cells #[.slice p ts.length cap, .int .i64 (L : Nat)] 73)).heap.size := by simp
  simp only [World.size_alloc] at x2 x3 x4
  go_enter_defers Tryz.func9, Tryz.ntmps9
  go_upto_region 3 with fail
  generalize ((((w.alloc (.cells #[.string ⟨#[]⟩, .int .i64 0, .int .i64 0, .slice none 0 0] 27)).alloc (.cells #[.int .i64 0] 28)).alloc (.cells #[.int .i64 0] 3)).alloc (.cells #[.slice p ts.length cap, .int .i64 (L : Nat)] 73)) = W0 at *
  have a0 : At W0 (w.heap.size + 1 + 1 + 1) L ts := by
    refine ⟨p, cap, x4, hr.imp id ?_, hc, hm, hp⟩
    rintro ⟨b, off, rfl, hb, ht⟩
    exact ⟨b, off, rfl, by omega, fun j t hj => (ht j t hj).kept k0 (fun h => h)⟩
  have X1 := Lib.hid x1; have X2 := Lib.hid x2; have X3 := Lib.hid x3; have K0 := Lib.hid k0; have A0 := Lib.hid a0
  clear x1 x2 x3 x4 k0 a0 hr hp hm hc
  have i1 : w.heap.size < w.heap.size + 1 := by omega
  have i2 : w.heap.size + 1 < w.heap.size + 1 + 1 := by omega
  have i3 : w.heap.size + 1 + 1 < w.heap.size + 1 + 1 + 1 := by omega
  have i4 : w.heap.size + 1 + 1 + 1 < W0.heap.size := by omega
  clear hs0
  generalize w.heap.size + 1 + 1 + 1 = bp at *
  generalize w.heap.size + 1 + 1 = ab at *
  generalize w.heap.size + 1 = eb at *
  go_wp2_with fail
  refine (hall_any bp L ts W0 h5 A0.out).mono ?_
  rintro e W1 (⟨h, r, h1, ⟨c, rfl, hc⟩, a1, k1⟩ | ⟨r, h1, rfl, k1⟩)
  rotate_left
  · have Y1 := Lib.hid (X1.out.kept k1 (fun h => by have : w.heap.size = bp := h; omega)); have Y2 := Lib.hid (X2.out.kept k1 (fun h => by have : eb = bp := h; omega)); have Y3 := Lib.hid (X3.out.kept k1 (fun h => by have : ab = bp := h; omega))
    have KK := Lib.hid (K0.out.call k1 (fun k hk => Or.inr (by have : k = bp := hk; omega))); have H1 := Lib.hid h1
    clear h1 k1 X1 X2 X3 K0 A0
    unfold failP
    go_wp2
    refine leaves_cons (f := 19) (args := #[.pointer (some ⟨w.heap.size, 0, none⟩), .pointer (some ⟨eb, 0, none⟩), .pointer (some ⟨ab, 0, none⟩)]) (by simp) (by simp [go_sem]) ?_
    refine (parseC_failed w.heap.size eb ab _ _ _ _ _ _ _ _ _ Y1.out Y2.out Y3.out (by omega) (by omega)).mono ?_
    rintro e u' w'' ⟨rfl, rfl, hH, hE, hA, hk⟩
    have c0 := hH.cell (i := 0) rfl
    have c1 := hH.cell (i := 1) rfl
    have c2 := hH.cell (i := 2) rfl
    have c3 := hH.cell (i := 3) rfl
    have c4 := hE.cell (i := 0) rfl
    have c5 := hA.cell (i := 0) rfl
    have kk : Kp (fun _ => False) w w'' := KK.out.call hk (fun k hk => Or.inr (by rcases hk with h | h | h <;> omega))
    clear hH hE hA hk
    simp [Leaves, settle, results, Tryz.results9, c0, c1, c2, c3, c4, c5, go_sem]
    exact ⟨⟨_, by rw [parse_fail H1.out], by rw [parse_fail H1.out]; exact noHall_is _ _⟩, kk⟩
  obtain ⟨v, rfl, hl⟩ := hc
  obtain ⟨sa, sn, sc, rfl⟩ := hl.slice
  have y1 := X1.out.kept k1 (fun h => by have : w.heap.size = bp := h; omega)
  have z0 := y1.cell (i := 0) rfl
  have z1 := y1.cell (i := 1) rfl
  have z2 := y1.cell (i := 2) rfl
  have z3 := y1.cell (i := 3) rfl
  have zf := y1.free
  have Y1 := Lib.hid y1; have Y2 := Lib.hid (X2.out.kept k1 (fun h => by have : eb = bp := h; omega)); have Y3 := Lib.hid (X3.out.kept k1 (fun h => by have : ab = bp := h; omega))
  have K1 := Lib.hid (K0.out.call k1 (fun k hk => Or.inr (by have : k = bp := hk; omega))); have H1 := Lib.hid h1; have A1 := Lib.hid a1; have HL := Lib.hid hl
  have hz := k1.size
  clear h1 k1 X1 X2 X3 K0 A0 a1 hl y1
  unfold hallCl
  go_upto_region 4 with fail
  rw [setCells_four]
  clear z0 z1 z2 z3 zf
  have R2 := Kp.setCells (E := onlyB w.heap.size) (p := w.heap.size) (Or.inl rfl) [.string ⟨h.name.toArray⟩, .int .i64 (h.sx : Nat), .int .i64 (h.sy : Nat), .slice sa sn sc] 0 W1 (Kp.refl _ _)
  have Z1 := Lib.hid (Y1.out.whole (vs := [.string ⟨h.name.toArray⟩, .int .i64 (h.sx : Nat), .int .i64 (h.sy : Nat), .slice sa sn sc]) rfl)
  have Z2 := Lib.hid (Y2.out.kept R2 (fun h => by have : eb = w.heap.size := h; omega))
  have Z3 := Lib.hid (Y3.out.kept R2 (fun h => by have : ab = w.heap.size := h; omega))
  have KK := Lib.hid (K1.out.call R2 (fun k hk => Or.inr (by have : k = w.heap.size := hk; omega)))
  have a2 : At (W1.setCells w.heap.size 0 [.string ⟨h.name.toArray⟩, .int .i64 (h.sx : Nat), .int .i64 (h.sy : Nat), .slice sa sn sc]) bp L r := by
    obtain ⟨q, cap', b1, b2, b3⟩ := A1.out
    refine ⟨q, cap', b1.kept R2 (fun h => by have : bp = w.heap.size := h; omega), ?_, b3⟩
    cases r with
    | nil => exact Or.inl rfl
    | cons t r =>
      rcases b2 with b2 | ⟨b, off, rfl, hb, ht⟩
      · cases b2
      · have hne : b ≠ w.heap.size := fun e => by
          subst e
          have hx := (ht 0 t rfl).text
          rw [Nat.zero_mul, Nat.add_zero] at hx
          have hY : ∀ v, ([.string ⟨#[]⟩, .int .i64 0, .int .i64 0, .slice none 0 0] : List Value)[off + 1]? = v → W1.cell? ⟨w.heap.size, off + 1, none⟩ = v := fun v hv => by
            unfold World.cell?
            rw [show W1.heap[(⟨w.heap.size, off + 1, none⟩ : Addr).block]? = _ from Y1.out]
            simpa using hv
          match off, hx, hY with
          | 0, hx, hY => rw [hY _ rfl] at hx; cases hx
          | 1, hx, hY => rw [hY _ rfl] at hx; cases hx
          | 2, hx, hY => rw [hY _ rfl] at hx; cases hx
          | k + 3, hx, hY => rw [hY none rfl] at hx; cases hx
        exact Or.inr ⟨b, off, rfl, hb, fun j u hj => (ht j u hj).kept R2 hne⟩
  have hz2 : W0.heap.size ≤ (W1.setCells w.heap.size 0 [.string ⟨h.name.toArray⟩, .int .i64 (h.sx : Nat), .int .i64 (h.sy : Nat), .slice sa sn sc]).heap.size := Nat.le_trans hz R2.size
  have hl2 : IsList levelK (W1.setCells w.heap.size 0 [.string ⟨h.name.toArray⟩, .int .i64 (h.sx : Nat), .int .i64 (h.sy : Nat), .slice sa sn sc]) (fun k => W0.heap.size ≤ k) 38 (.slice sa sn sc) h.levels := HL.out.kept (fun k hk hlt => setCells_heap W1 w.heap.size _ hlt (by have : W0.heap.size ≤ k := hk; omega))
  have A2 := Lib.hid a2; have HL2 := Lib.hid hl2
  clear R2 a2 hl2 Y1 Y2 Y3 K1 A1 HL hz
  generalize W1.setCells w.heap.size 0 [.string ⟨h.name.toArray⟩, .int .i64 (h.sx : Nat), .int .i64 (h.sy : Nat), .slice sa sn sc] = W2 at *
  obtain ⟨q, cap', hB, _⟩ := A2.out
  have cq := hB.cell (i := 0) rfl
  clear hB
  cases r with
  | nil =>
    have c0 := Z1.out.cell (i := 0) rfl
    have c1 := Z1.out.cell (i := 1) rfl
    have c2 := Z1.out.cell (i := 2) rfl
    have c3 := Z1.out.cell (i := 3) rfl
    have cf := Z1.out.free
    have c4 := Z2.out.cell (i := 0) rfl
    have cf4 := Z2.out.free
    have c5 := Z3.out.cell (i := 0) rfl
    have cf5 := Z3.out.free
    have hne1 : ¬ w.heap.size = eb := by omega
    have hne2 : ¬ w.heap.size = ab := by omega
    have hne3 : ¬ eb = ab := by omega
    go_wp2
    refine leaves_cons (f := 19) (args := #[.pointer (some ⟨w.heap.size, 0, none⟩), .pointer (some ⟨eb, 0, none⟩), .pointer (some ⟨ab, 0, none⟩)]) (by simp) (by simp [go_sem]) ?_
    refine (parseC_idle w.heap.size eb ab _).mono ?_
    rintro e u' w'' ⟨rfl, rfl, rfl⟩
    have f1 : Blk (((((((W2.setCell ⟨w.heap.size, 0, none⟩ (.string ⟨h.name.toArray⟩)).setCell ⟨w.heap.size, 1, none⟩ (.int .i64 (h.sx : Nat))).setCell ⟨w.heap.size, 2, none⟩ (.int .i64 (h.sy : Nat))).setCell ⟨w.heap.size, 3, none⟩ (.slice sa sn sc)).setCell ⟨eb, 0, none⟩ (.int .i64 0)).setCell ⟨ab, 0, none⟩ (.int .i64 0)).alloc (.cells #[.int .i64 0, .int .i64 0] 69)) w.heap.size 27 [.string ⟨h.name.toArray⟩, .int .i64 (h.sx : Nat), .int .i64 (h.sy : Nat), .slice sa sn sc] := ((((((Z1.out.set 0 (.string ⟨h.name.toArray⟩)).set 1 (.int .i64 (h.sx : Nat))).set 2 (.int .i64 (h.sy : Nat))).set 3 (.slice sa sn sc)).other (p := ⟨eb, 0, none⟩) (by show ¬ eb = w.heap.size; omega) (.int .i64 0)).other (p := ⟨ab, 0, none⟩) (by show ¬ ab = w.heap.size; omega) (.int .i64 0)).alloc (.cells #[.int .i64 0, .int .i64 0] 69)
    have f2 : Blk (((((((W2.setCell ⟨w.heap.size, 0, none⟩ (.string ⟨h.name.toArray⟩)).setCell ⟨w.heap.size, 1, none⟩ (.int .i64 (h.sx : Nat))).setCell ⟨w.heap.size, 2, none⟩ (.int .i64 (h.sy : Nat))).setCell ⟨w.heap.size, 3, none⟩ (.slice sa sn sc)).setCell ⟨eb, 0, none⟩ (.int .i64 0)).setCell ⟨ab, 0, none⟩ (.int .i64 0)).alloc (.cells #[.int .i64 0, .int .i64 0] 69)) eb 28 [.int .i64 0] := ((((((Z2.out.other (p := ⟨w.heap.size, 0, none⟩) (by show ¬ w.heap.size = eb; omega) (.string ⟨h.name.toArray⟩)).other (p := ⟨w.heap.size, 1, none⟩) (by show ¬ w.heap.size = eb; omega) (.int .i64 (h.sx : Nat))).other (p := ⟨w.heap.size, 2, none⟩) (by show ¬ w.heap.size = eb; omega) (.int .i64 (h.sy : Nat))).other (p := ⟨w.heap.size, 3, none⟩) (by show ¬ w.heap.size = eb; omega) (.slice sa sn sc)).set 0 (.int .i64 0)).other (p := ⟨ab, 0, none⟩) (by show ¬ ab = eb; omega) (.int .i64 0)).alloc (.cells #[.int .i64 0, .int .i64 0] 69)
    have f3 : Blk (((((((W2.setCell ⟨w.heap.size, 0, none⟩ (.string ⟨h.name.toArray⟩)).setCell ⟨w.heap.size, 1, none⟩ (.int .i64 (h.sx : Nat))).setCell ⟨w.heap.size, 2, none⟩ (.int .i64 (h.sy : Nat))).setCell ⟨w.heap.size, 3, none⟩ (.slice sa sn sc)).setCell ⟨eb, 0, none⟩ (.int .i64 0)).setCell ⟨ab, 0, none⟩ (.int .i64 0)).alloc (.cells #[.int .i64 0, .int .i64 0] 69)) ab 3 [.int .i64 0] := ((((((Z3.out.other (p := ⟨w.heap.size, 0, none⟩) (by show ¬ w.heap.size = ab; omega) (.string ⟨h.name.toArray⟩)).other (p := ⟨w.heap.size, 1, none⟩) (by show ¬ w.heap.size = ab; omega) (.int .i64 (h.sx : Nat))).other (p := ⟨w.heap.size, 2, none⟩) (by show ¬ w.heap.size = ab; omega) (.int .i64 (h.sy : Nat))).other (p := ⟨w.heap.size, 3, none⟩) (by show ¬ w.heap.size = ab; omega) (.slice sa sn sc)).other (p := ⟨eb, 0, none⟩) (by show ¬ eb = ab; omega) (.int .i64 0)).set 0 (.int .i64 0)).alloc (.cells #[.int .i64 0, .int .i64 0] 69)
    have kf := ((((((KK.out.setNew w.heap.size 0 (by omega) (.string ⟨h.name.toArray⟩)).setNew w.heap.size 1 (by omega) (.int .i64 (h.sx : Nat))).setNew w.heap.size 2 (by omega) (.int .i64 (h.sy : Nat))).setNew w.heap.size 3 (by omega) (.slice sa sn sc)).setNew eb 0 (by omega) (.int .i64 0)).setNew ab 0 (by omega) (.int .i64 0)).alloc (.cells #[.int .i64 0, .int .i64 0] 69)
    have k2 := (((((((Kp.refl (fun k => k = w.heap.size ∨ k = eb ∨ k = ab) W2).setOld w.heap.size 0 (Or.inl rfl) (.string ⟨h.name.toArray⟩)).setOld w.heap.size 1 (Or.inl rfl) (.int .i64 (h.sx : Nat))).setOld w.heap.size 2 (Or.inl rfl) (.int .i64 (h.sy : Nat))).setOld w.heap.size 3 (Or.inl rfl) (.slice sa sn sc)).setOld eb 0 (Or.inr (Or.inl rfl)) (.int .i64 0)).setOld ab 0 (Or.inr (Or.inr rfl)) (.int .i64 0)).alloc (.cells #[.int .i64 0, .int .i64 0] 69)
    have hl3 : IsList levelK (((((((W2.setCell ⟨w.heap.size, 0, none⟩ (.string ⟨h.name.toArray⟩)).setCell ⟨w.heap.size, 1, none⟩ (.int .i64 (h.sx : Nat))).setCell ⟨w.heap.size, 2, none⟩ (.int .i64 (h.sy : Nat))).setCell ⟨w.heap.size, 3, none⟩ (.slice sa sn sc)).setCell ⟨eb, 0, none⟩ (.int .i64 0)).setCell ⟨ab, 0, none⟩ (.int .i64 0)).alloc (.cells #[.int .i64 0, .int .i64 0] 69)) (fun k => W0.heap.size ≤ k) 38 (.slice sa sn sc) h.levels := HL2.out.kept (fun k hk hlt => k2.block k hlt (fun h => by have : W0.heap.size ≤ k := hk; omega))
    generalize ((((((W2.setCell ⟨w.heap.size, 0, none⟩ (.string ⟨h.name.toArray⟩)).setCell ⟨w.heap.size, 1, none⟩ (.int .i64 (h.sx : Nat))).setCell ⟨w.heap.size, 2, none⟩ (.int .i64 (h.sy : Nat))).setCell ⟨w.heap.size, 3, none⟩ (.slice sa sn sc)).setCell ⟨eb, 0, none⟩ (.int .i64 0)).setCell ⟨ab, 0, none⟩ (.int .i64 0)).alloc (.cells #[.int .i64 0, .int .i64 0] 69) = Wf at *
    have e0 := f1.cell (i := 0) rfl
    have e1 := f1.cell (i := 1) rfl
    have e2 := f1.cell (i := 2) rfl
    have e3 := f1.cell (i := 3) rfl
    have e4 := f2.cell (i := 0) rfl
    have e5 := f3.cell (i := 0) rfl
    clear f1 f2 f3 k2 c0 c1 c2 c3 cf c4 cf4 c5 cf5
    simp [Leaves, settle, results, Tryz.results9, e0, e1, e2, e3, e4, e5, go_sem]
    refine ⟨⟨hallCl h (.slice sa sn sc), by rw [parse_ok H1.out]; rfl, ?_⟩, kf⟩
    rw [parse_ok H1.out]
    exact ⟨_, rfl, hl3.mono (fun k hk _ => by have : W0.heap.size ≤ k := hk; omega)⟩
  | cons t r =>
    have hpos : (0 : Int) < (r.length : Int) + 1 := by omega
    go_wp2_with fail
    refine (fail_any bp L (t :: r) _ A2.out).mono ?_
    rintro e W3 ⟨rfl, rfl⟩
    clear cq
    unfold failP
    go_wp2
    refine leaves_cons (f := 19) (args := #[.pointer (some ⟨w.heap.size, 0, none⟩), .pointer (some ⟨eb, 0, none⟩), .pointer (some ⟨ab, 0, none⟩)]) (by simp) (by simp [go_sem]) ?_
    refine (parseC_failed w.heap.size eb ab _ _ _ _ _ _ _ _ _ Z1.out Z2.out Z3.out (by omega) (by omega)).mono ?_
    rintro e u' w'' ⟨rfl, rfl, hH, hE, hA, hk⟩
    have c0 := hH.cell (i := 0) rfl
    have c1 := hH.cell (i := 1) rfl
    have c2 := hH.cell (i := 2) rfl
    have c3 := hH.cell (i := 3) rfl
    have c4 := hE.cell (i := 0) rfl
    have c5 := hA.cell (i := 0) rfl
    have kk : Kp (fun _ => False) w w'' := KK.out.call hk (fun k hk => Or.inr (by rcases hk with h | h | h <;> omega))
    clear hH hE hA hk
    simp [Leaves, settle, results, Tryz.results9, c0, c1, c2, c3, c4, c5, go_sem]
    exact ⟨⟨_, by rw [parse_left H1.out], by rw [parse_left H1.out]; exact noHall_is _ _⟩, kk⟩
end Go.Proofs.YtlfjdohjfmfcdaaGreatDoor

/-! ## The walk of Parse. -/
namespace Go.Proofs.YtlfjdohjfmfcdaaGreatDoor
open Go.RowKit Go.Sort Go.Shelf Foyer.Plan Foyer.Round

/-- What Parse returns. -/
def PlanV (n : Nat) (x : HallP × Nat × Int) (e : Ending) (w' : World) : Prop := ∃ c, e = .returned (.tuple #[.agg c.toArray, .int .i64 (x.2.1 : Nat), .int .i64 x.2.2]) ∧ hallK.is w' (fun k => n ≤ k) c x.1
theorem parseAll_bad {l : List UInt8} (h : (Foyer.Lexer.lexAll l).2.1 ≠ 0) : parseAll l = (noHall, (Foyer.Lexer.lexAll l).2.1, (Foyer.Lexer.lexAll l).2.2) := by unfold parseAll; rw [if_neg h]
theorem parseAll_ok {l : List UInt8} (h : (Foyer.Lexer.lexAll l).2.1 = 0) : parseAll l = ((parseToks (Foyer.Lexer.lexAll l).1 l.length).1, (parseToks (Foyer.Lexer.lexAll l).1 l.length).2.1, (((parseToks (Foyer.Lexer.lexAll l).1 l.length).2.2 : Nat) : Int)) := by unfold parseAll; rw [if_pos h]
theorem results_plan (tmps : Array Value) (W : World) (hb : Nat) (c0 c1 c2 c3 : Value) (h : Blk W hb 27 [c0, c1, c2, c3]) (h2 : tmps.getD 2 undef = .pointer (some ⟨hb, 0, none⟩)) :
    (results Tryz.f5 tmps).run Tryz.prog W = .ok (.tuple #[.agg #[c0, c1, c2, c3], tmps.getD 3 undef, tmps.getD 4 undef]) W := by
  have e0 := h.cell (i := 0) rfl
  have e1 := h.cell (i := 1) rfl
  have e2 := h.cell (i := 2) rfl
  have e3 := h.cell (i := 3) rfl
  have h2' : tmps[2]?.getD undef = .pointer (some ⟨hb, 0, none⟩) := by simpa using h2
  simp [results, Tryz.results5, h2', e0, e1, e2, e3, go_sem]
set_option maxRecDepth 100000 in
set_option maxHeartbeats 2000000 in
theorem plan_any (t : ByteArray) (ht : t.size ≤ 1000000) (w : World) : Calls Tryz.prog 5 #[.string t] w fun e w' => PlanV w.heap.size (parseAll t.data.toList) e w' ∧ Below w.heap.size w w' := by
  have hb5 := (Foyer.Lexer.lexAll_bounds t.data.toList).1
  have R0 := Lib.hid (Blk.new w 27 [.string ⟨#[]⟩, .int .i64 0, .int .i64 0, .slice none 0 0])
  have hsz : t.size = t.data.toList.length := by rw [Array.length_toList]; rfl
  have B0 : Hid (Kp (fun _ => False) w (w.alloc (.cells #[.string ⟨#[]⟩, .int .i64 0, .int .i64 0, .slice none 0 0] 27))) := Lib.hid ((Kp.refl _ _).alloc _)
  have hs0 : w.heap.size < (w.alloc (.cells #[.string ⟨#[]⟩, .int .i64 0, .int .i64 0, .slice none 0 0] 27)).heap.size := by simp
  have HSZ := Lib.hid hsz
  clear hsz
  go_enter Tryz.func5, Tryz.ntmps5
  go_wp2_with fail
  refine (lex_any t ht _).mono ?_
  rintro e w1 ⟨p, cap, rfl, hr, hc, hm, hb1⟩
  have kb : Kp (fun _ => False) _ w1 := Kp.of_below hb1
  have R1 := Lib.hid (R0.out.kept kb (fun h => h)); have B1 := Lib.hid (B0.out.trans kb); have hs1 := Nat.lt_of_lt_of_le hs0 hb1.size
  have z0 := R1.out.cell (i := 0) rfl
  have z1 := R1.out.cell (i := 1) rfl
  have z2 := R1.out.cell (i := 2) rfl
  have z3 := R1.out.cell (i := 3) rfl
  have zf := R1.out.free
  have HR := Lib.hid hr; have HC := Lib.hid hc; have HM := Lib.hid hm
  obtain ⟨ts, hts⟩ : ∃ ts, (Foyer.Lexer.lexAll t.data.toList).1 = ts := ⟨_, rfl⟩
  obtain ⟨E, hE⟩ : ∃ E, (Foyer.Lexer.lexAll t.data.toList).2.1 = E := ⟨_, rfl⟩
  obtain ⟨O, hO⟩ : ∃ O, (Foyer.Lexer.lexAll t.data.toList).2.2 = O := ⟨_, rfl⟩
  clear hr hc hm hb1 kb R0 B0 hs0
  by_cases h0 : E = 0
  · have hp := parseAll_ok (hE.trans h0)
    rw [hts] at hp
    have HP := Lib.hid hp; have hne : (((E : Nat) : Int) != 0) = false := by simp [h0]
    rw [hts] at HR HC hb5
    rw [hts, hE, hO]
    clear hts hE hO hp h0
    rw [← HSZ.out] at HP
    go_wp2_with fail
    refine (toks_any ts p ts.length cap t.size w1 HR.out rfl HC.out HM.out.1 HM.out.2 hb5).mono ?_
    rintro e w2 ⟨⟨c, rfl, v, rfl, hv⟩, hk⟩
    obtain ⟨sa, sn, sc, rfl⟩ := hv.slice
    have hz2 := hk.size
    have r2 := R1.out.kept hk (fun h => h)
    have y0 := r2.cell (i := 0) rfl
    have y1 := r2.cell (i := 1) rfl
    have y2 := r2.cell (i := 2) rfl
    have y3 := r2.cell (i := 3) rfl
    have yf := r2.free
    have R2 := Lib.hid r2; have HV := Lib.hid hv; have B2 := Lib.hid (B1.out.trans hk)
    clear z0 z1 z2 z3 zf HR HC HM R1 B1 r2 hv hk hb5
    unfold hallCl
    go_wp2
    rw [setCells_four]
    refine bodyPost_ret (results_plan _ _ w.heap.size _ _ _ _ (R2.out.whole (vs := [.string ⟨(parseToks ts t.size).1.name.toArray⟩, .int .i64 ((parseToks ts t.size).1.sx : Nat), .int .i64 ((parseToks ts t.size).1.sy : Nat), .slice sa sn sc]) rfl) rfl) rfl ?_
    refine ⟨?_, (B2.out.result (b := w.heap.size) (Nat.le_refl _) _).below (Nat.le_refl _) (fun k hk => hk.elim)⟩
    rw [HP.out]
    refine ⟨hallCl (parseToks ts t.size).1 (.slice sa sn sc), rfl, ⟨_, rfl, ?_⟩⟩
    exact (HV.out.kept (fun k hk hlt => setCells_heap w2 w.heap.size _ hlt (by have : w1.heap.size ≤ k := hk; omega))).mono (fun k hk _ => by have : w1.heap.size ≤ k := hk; omega)
  · have hp := parseAll_bad (fun h => h0 (hE.symm.trans h))
    rw [hE, hO] at hp
    have HP := Lib.hid hp; have hne : (((E : Nat) : Int) != 0) = true := by simp [h0]
    rw [hts, hE, hO]
    clear hts hE hO hp h0
    go_wp2
    rw [setCells_four]
    refine bodyPost_ret (results_plan _ _ w.heap.size _ _ _ _ (R1.out.whole (vs := [.string ⟨#[]⟩, .int .i64 0, .int .i64 0, .slice none 0 0]) rfl) rfl) rfl ?_
    refine ⟨?_, (B1.out.result (b := w.heap.size) (Nat.le_refl _) _).below (Nat.le_refl _) (fun k hk => hk.elim)⟩
    rw [HP.out]
    exact ⟨_, rfl, noHall_is _ _⟩
end Go.Proofs.YtlfjdohjfmfcdaaGreatDoor
