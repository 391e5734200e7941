/-
  The walk of Lex.
-/
import Derived.Test.YtlfjdohjfmfcdaaGreatDoorWalkEach
import Derived.Test.YtlfjdohjfmfcdaaGreatDoorOwnToks
import Derived.Test.YtlfjdohjfmfcdaaGreatDoorRound
import Derived.RangeFuncBox
import Derived.RangeFuncNested
namespace Go.Proofs.YtlfjdohjfmfcdaaGreatDoor
open Go.RowKit Go.Sort Foyer.Lexer Foyer.Kept Foyer.Round
attribute [local go_sem] Oper.semAt_some

theorem tokensOf_any (t : ByteArray) (w : World) :
    Calls Tryz.prog 18 #[.string t] w fun e w' => e = .returned (.func (.func 29) #[] #[.pointer (some ⟨w.heap.size, 0, none⟩)]) ∧ w' = w.alloc (.cells #[.string t] 9) := by
  go_enter Tryz.func18, Tryz.ntmps18
  go_wp2
  go_ret
  exact ⟨rfl, rfl⟩
theorem keeps_own (tb : Nat) (t : ByteArray) (b c : Nat) (x : Tok × Nat) : Own (fun (_ : Unit) W => Keeps tb t b c x W) := fun _ _ _ _ ⟨h1, h2, h3⟩ hg hr =>
  ⟨⟨cell_kept h1.text hg hr, fun k => cell_kept (h1.at_ k) hg hr⟩, cell_kept h2 hg hr, cell_kept h3 hg hr⟩
theorem keeps_grown {tb : Nat} {t : ByteArray} {b c : Nat} {x : Tok × Nat} {W W' : World} {row : Option Nat} (h : Keeps tb t b c x W) (hg : W.grownBy W' row) (h1 : row ≠ some b) (h2 : row ≠ some tb) (h3 : row ≠ some c) : Keeps tb t b c x W' := by
  obtain ⟨k1, k2, k3⟩ := h
  have hk : ∀ {a : Addr} {v : Value}, W.cell? a = some v → row ≠ some a.block → W'.cell? a = some v := fun {a v} hc hr =>
    (World.cell?_of_block (hg.block _ (lt_of_cell hc) (Ne.symm hr))).trans hc
  exact ⟨⟨hk k1.text h1, fun k => hk (k1.at_ k) h1⟩, hk k2 h2, hk k3 h3⟩
/-- How Lex leaves. -/
theorem lex_end {R : Ending → World → Prop} {W : World} {D B0 B1 B2 : Nat} {v : Value} {E O : Int} {tmps : Array Value} (hK : W.heap[D]? = some (.deferred (some [])))
    (b0 : Boxed W B0 51 v) (b1 : Boxed W B1 28 (.int .i64 E)) (b2 : Boxed W B2 3 (.int .i64 O))
    (h0 : tmps.getD 2 undef = .pointer (some ⟨B0, 0, none⟩)) (h1 : tmps.getD 3 undef = .pointer (some ⟨B1, 0, none⟩)) (h2 : tmps.getD 4 undef = .pointer (some ⟨B2, 0, none⟩))
    (hR : R (.returned (.tuple #[v, .int .i64 E, .int .i64 O])) (W.putObj D (.deferred none))) :
    bodyPostM Fence.wide 3 Tryz.prog Tryz.f8 R .ret { tmps, defers := [{ target := .collected D, args := #[] }] } W := by
  refine ⟨by simp, .inl ⟨_, _, rfl, run_takeDeferred hK, ?_⟩⟩
  have hx : ∀ {B' : Nat} {ty : TypeId} {u : Value}, Boxed W B' ty u → Boxed (W.putObj D (.deferred none)) B' ty u := fun {B' ty u} hb => by
    have hne : B' ≠ D := fun e => by
      rw [← e, show W.heap[B']? = _ from hb] at hK; cases hK
    exact (World.putObj_heap_other (by omega)).trans hb
  have c0 := (hx b0).cell
  have c1 := (hx b1).cell
  have c2 := (hx b2).cell
  refine ⟨_, ?_, hR⟩
  generalize W.putObj D (.deferred none) = W' at *
  have h0' : tmps[2]?.getD undef = .pointer (some ⟨B0, 0, none⟩) := by simpa using h0
  have h1' : tmps[3]?.getD undef = .pointer (some ⟨B1, 0, none⟩) := by simpa using h1
  have h2' : tmps[4]?.getD undef = .pointer (some ⟨B2, 0, none⟩) := by simpa using h2
  simp [results, Tryz.results8, h0', h1', h2', c0, c1, c2, go_sem]
/-- What comes next out of a text. -/
theorem outs_next {ts : List Tok} {er : Option (Nat × Nat)} {pre post : List (Tok × Nat)} {t : Tok} {d : Nat} (h : outs ts er = pre ++ (t, d) :: post) (he : ∀ d p, er = some (d, p) → d ≠ 0) :
    (d = 0 ∧ ∃ us, ts = pre.map (·.1) ++ t :: us) ∨ (d ≠ 0 ∧ er = some (d, t.pos) ∧ ts = pre.map (·.1)) := by
  unfold outs at h
  rcases Nat.lt_or_ge pre.length ts.length with hl | hl
  · left
    have h1 := congrArg (fun l => l[pre.length]?) h
    simp only [List.getElem?_append_right (Nat.le_refl _), Nat.sub_self, List.getElem?_cons_zero] at h1
    rw [List.getElem?_append_left (by simpa using hl), List.getElem?_map] at h1
    obtain ⟨u, hu, hu2⟩ := Option.map_eq_some_iff.1 h1
    simp only [Prod.mk.injEq] at hu2
    obtain ⟨rfl, rfl⟩ := hu2
    refine ⟨rfl, ts.drop (pre.length + 1), ?_⟩
    have h2 := congrArg (fun l => (l.take pre.length).map (·.1)) h
    simp only [List.take_left] at h2
    rw [List.take_append_of_le_length (by simpa using Nat.le_of_lt hl), ← List.map_take, List.map_map] at h2
    have h3 : (ts.take pre.length).map ((fun x : Tok × Nat => x.1) ∘ fun t => (t, 0)) = ts.take pre.length := by
      conv => rhs; rw [← List.map_id (ts.take pre.length)]
      rfl
    rw [h3] at h2
    rw [← h2]
    have h4 : ts.drop pre.length = u :: ts.drop (pre.length + 1) := by
      rw [List.drop_eq_getElem_cons hl]
      congr 1
      exact (List.getElem?_eq_some_iff.1 hu).2
    rw [← h4, List.take_append_drop]
  · right
    cases er with
    | none =>
      exfalso
      have := congrArg List.length h
      simp at this; omega
    | some x =>
      obtain ⟨d', p⟩ := x
      have hlen := congrArg List.length h
      simp only [List.length_append, List.length_map, List.length_cons, List.length_nil] at hlen
      have hpost : post = [] := List.length_eq_zero_iff.1 (by omega)
      subst hpost
      obtain ⟨h1, h2⟩ := List.append_inj h (by simp; omega)
      simp only [List.cons.injEq, Prod.mk.injEq, and_true] at h2
      obtain ⟨rfl, rfl⟩ := h2
      refine ⟨he _ _ rfl, rfl, ?_⟩
      rw [← h1, List.map_map]
      conv => lhs; rw [← List.map_id ts]
      rfl
theorem outs_all {ts : List Tok} {er : Option (Nat × Nat)} {pre : List (Tok × Nat)} (h : outs ts er = pre) (hz : ∀ x ∈ pre, x.2 = 0) (he : ∀ d p, er = some (d, p) → d ≠ 0) : er = none ∧ ts = pre.map (·.1) := by
  cases er with
  | none =>
    refine ⟨rfl, ?_⟩
    rw [← h]; unfold outs
    simp only [List.append_nil, List.map_map]
    conv => lhs; rw [← List.map_id ts]
    rfl
  | some x =>
    obtain ⟨d, p⟩ := x
    exfalso
    refine he d p rfl (hz (⟨0, [], 0, p⟩, d) ?_)
    rw [← h]; unfold outs; simp

theorem lex_long (t : ByteArray) (ht : t.size ≤ 1000000) (h2 : 20000 < t.size) (w : World) :
    Calls Tryz.prog 8 #[.string t] w (LexPost t.data.toList w) := by
  have hl := lexAll_long (l := t.data.toList) (by simpa using h2)
  have HL := Lib.hid hl
  have HS : Hid (Since w w) := Below.refl _ _
  have hd : decide ((20000 : Int) < (t.size : Int)) = true := by simp; omega
  clear hl
  go_enter Tryz.func8, Tryz.ntmps8
  go_wp2
  refine bodyPost_ret (v := .tuple #[.slice none 0 0, .int .i64 3, .int .i64 (-1)]) (by simp [results, Tryz.results8, go_sem]) rfl ?_
  exact lexPost_of HL.out (ownT_nil _ 0) (((HS.out.alloc _).alloc _).alloc _)

set_option linter.unusedSimpArgs false in
set_option maxRecDepth 100000 in
set_option maxHeartbeats 1000000 in
theorem lex_short (t : ByteArray) (h2 : t.size ≤ 20000) (w : World) :
    Calls Tryz.prog 8 #[.string t] w (LexPost t.data.toList w) := by
  obtain ⟨ts, er, hlx⟩ := lx_some 0 t.data.toList
  have her : ∀ d p, er = some (d, p) → d ≠ 0 := fun d p e => by have := (lx_err hlx d p e).1; omega
  have hlen : t.data.toList.length ≤ 20000 := by simpa using h2
  have HS : Hid (Since w w) := Below.refl _ _
  have hd : decide ((20000 : Int) < (t.size : Int)) = false := by simp; omega
  refine (callsIn_wide (n := 3)).1 ?_
  refine callsIn_of_wp_marks Tryz.func8 rfl trivial ?_ rfl
  simp only [Tryz.ntmps8, List.size_toArray, List.length_cons, List.length_nil, Nat.reduceAdd, Nat.reduceSub, Array.replicate_succ, Array.replicate_zero, List.push_toArray, List.append_toArray, List.nil_append, List.cons_append]
  have HLX := Lib.hid hlx; have HER := Lib.hid her; have HLEN := Lib.hid hlen
  clear hlx her hlen
  gi_wp2_with (refine ⟨trivial, ?_⟩; gi_at_call 18; refine (callsIn_wide.2 (tokensOf_any _ _)).mono ?_; rintro e W2 ⟨rfl, rfl⟩)
  have bR := ((((Boxed.new w 51 (.slice none 0 0)).alloc (.cells #[.int .i64 0] 28)).alloc (.cells #[.int .i64 0] 3)).alloc (.cells #[.slice none 0 0] 51)).alloc (.cells #[.string t] 9)
  have bE := (((Boxed.new (w.alloc (.cells #[.slice none 0 0] 51)) 28 (.int .i64 0)).alloc (.cells #[.int .i64 0] 3)).alloc (.cells #[.slice none 0 0] 51)).alloc (.cells #[.string t] 9)
  have bO := ((Boxed.new ((w.alloc (.cells #[.slice none 0 0] 51)).alloc (.cells #[.int .i64 0] 28)) 3 (.int .i64 0)).alloc (.cells #[.slice none 0 0] 51)).alloc (.cells #[.string t] 9)
  have bV := (Boxed.new (((w.alloc (.cells #[.slice none 0 0] 51)).alloc (.cells #[.int .i64 0] 28)).alloc (.cells #[.int .i64 0] 3)) 51 (.slice none 0 0)).alloc (.cells #[.string t] 9)
  have bT := Boxed.new ((((w.alloc (.cells #[.slice none 0 0] 51)).alloc (.cells #[.int .i64 0] 28)).alloc (.cells #[.int .i64 0] 3)).alloc (.cells #[.slice none 0 0] 51)) 9 (.string t)
  have hB0 : Below w.heap.size w (((((w.alloc (.cells #[.slice none 0 0] 51)).alloc (.cells #[.int .i64 0] 28)).alloc (.cells #[.int .i64 0] 3)).alloc (.cells #[.slice none 0 0] 51)).alloc (.cells #[.string t] 9)) := ((((HS.out.alloc _).alloc _).alloc _).alloc _).alloc _
  have hsz : (((((w.alloc (.cells #[.slice none 0 0] 51)).alloc (.cells #[.int .i64 0] 28)).alloc (.cells #[.int .i64 0] 3)).alloc (.cells #[.slice none 0 0] 51)).alloc (.cells #[.string t] 9)).heap.size = w.heap.size + 5 := by simp
  simp only [World.size_alloc] at bE bO bV bT
  generalize ((((w.alloc (.cells #[.slice none 0 0] 51)).alloc (.cells #[.int .i64 0] 28)).alloc (.cells #[.int .i64 0] 3)).alloc (.cells #[.slice none 0 0] 51)).alloc (.cells #[.string t] 9) = W0 at *
  refine wpIn_rangeFunc_kept (by omega) (gf := 29) (lb := #[.pointer (some ⟨w.heap.size + 1 + 1 + 1 + 1, 0, none⟩)]) rfl (enters_of Tryz.func29 (by kernel_rfl) rfl)
    (each_kept t (by omega) (w.heap.size + 1 + 1 + 1 + 1) W0 bT.cell ts er HLX.out) (Below.refl _ _) (fun _ => rfl) (fun b c x => Own.from (keeps_own _ t b c x) _)
    (fun L H pre W => (∃ v, Boxed W (w.heap.size + 1 + 1 + 1) 51 v ∧ W.ownsRow w.heap.size 67 4 v pre.length (toksC (pre.map (·.1))) ∧ (∀ q, v.ownBlock = some q → L ≤ q ∧ q < H)) ∧ (Boxed W w.heap.size 51 (.slice none 0 0) ∧ Boxed W (w.heap.size + 1) 28 (.int .i64 0) ∧ Boxed W (w.heap.size + 1 + 1) 3 (.int .i64 0)) ∧ (pre.length ≤ 5000 ∧ ∀ x ∈ pre, x.2 = 0) ∧ Below w.heap.size w W)
    (fun L H => OwnFrom.and (Own.from (holdsRow_own w.heap.size (w.heap.size + 1 + 1 + 1) 51 67 4 (fun (pre : List (Tok × Nat)) => pre.length) (fun (pre : List (Tok × Nat)) => toksC (pre.map (·.1))) (fun _ v => ∀ q, v.ownBlock = some q → L ≤ q ∧ q < H)) _) (OwnFrom.and (OwnFrom.and (Own.from (boxed_own w.heap.size 51 (fun (_ : List (Tok × Nat)) => .slice none 0 0)) _) (OwnFrom.and (Own.from (boxed_own (w.heap.size + 1) 28 (fun (_ : List (Tok × Nat)) => .int .i64 0)) _) (Own.from (boxed_own (w.heap.size + 1 + 1) 3 (fun (_ : List (Tok × Nat)) => .int .i64 0)) _))) (OwnFrom.and (ownFrom_pure _ (fun (pre : List (Tok × Nat)) => pre.length ≤ 5000 ∧ ∀ x ∈ pre, x.2 = 0)) (ownFrom_below (Nat.le_refl _) hB0.size))))
    (fun _ W => ∃ (E : Nat) (O : Int), lexAll t.data.toList = ([], E, O) ∧ (Boxed W w.heap.size 51 (.slice none 0 0) ∧ Boxed W (w.heap.size + 1) 28 (.int .i64 (E : Nat)) ∧ Boxed W (w.heap.size + 1 + 1) 3 (.int .i64 O)) ∧ Below w.heap.size w W)
    ?hIx
    (fun L H hL hH => ⟨⟨_, bV, World.ownsRow_nil _ _ _ _, fun q e => by cases e⟩, ⟨bR, bE, bO⟩, ⟨by simp, by simp⟩, hB0⟩)
    (fun x tt => { tmps := #[.string t, undef, .pointer (some ⟨w.heap.size, 0, none⟩), .pointer (some ⟨w.heap.size + 1, 0, none⟩), .pointer (some ⟨w.heap.size + 1 + 1, 0, none⟩), .pointer (some ⟨w.heap.size + 1 + 1 + 1, 0, none⟩), .pointer (some ⟨tt, 0, none⟩), .int .i64 (x.2 : Nat), .string t, .int .i64 t.size, .bool false, .string t, .func (.func 29) #[] #[.pointer (some ⟨w.heap.size + 1 + 1 + 1 + 1, 0, none⟩)], tokV x.1, .int .i64 (x.2 : Nat), undef, undef, undef, undef, undef, undef, undef, undef, undef, undef, undef, undef, undef, undef, undef, undef, undef], defers := [] })
    (fun x => .cells (tokC x.1).toArray 67) ?assign ?body ?done ?stop
  case hIx =>
    rintro c s W W' row ⟨E, O, h1, ⟨h2, h3, h4⟩, h5⟩ hg hr
    exact ⟨E, O, h1, ⟨Own.from (boxed_own w.heap.size 51 (fun (_ : Unit) => .slice none 0 0)) _ () _ _ _ h2 hg hr, Own.from (boxed_own (w.heap.size + 1) 28 (fun (_ : Unit) => .int .i64 (E : Nat))) _ () _ _ _ h3 hg hr, Own.from (boxed_own (w.heap.size + 1 + 1) 3 (fun (_ : Unit) => .int .i64 O)) _ () _ _ _ h4 hg hr⟩, ownFrom_below (Nat.le_refl _) hB0.size () _ _ _ h5 hg hr⟩
  case assign =>
    rintro y ⟨⟨kd, T, vl, ps⟩, d⟩ W K hK
    dsimp only [encT, tokV, tokC, List.toArray] at hK ⊢
    have HK := Lib.hid hK
    clear hK
    gi_wp2
    exact HK.out
  case body =>
    rintro y b L c H tt pre ⟨tk, d⟩ post W hit ⟨⟨v, bv, ov, hq⟩, ⟨b0, b1, b2⟩, ⟨h5, hz⟩, hB⟩ hb hbL hLH hHc hct htt hcx hG
    dsimp only [] at hcx ⊢
    have htb : w.heap.size + 5 ≤ b := by omega
    have hlt0 := bv.lt
    rcases outs_next hit HER.out with ⟨rfl, us, hts⟩ | ⟨hd0, her, hts⟩
    · by_cases h50 : pre.length = 5000
      · have hl := lexAll_many (pre := pre.map (·.1)) (t := tk) (us := us) HLEN.out (by rw [← hts]; exact HLX.out) (by simpa using h50)
        have HL := Lib.hid hl
        have hpos : W.cell? ⟨tt, 3, none⟩ = some (.int .i64 (tk.pos : Nat)) := by simp [World.cell?, hcx, tokC]
        obtain ⟨q, cap, rfl⟩ : ∃ q cap, v = .slice q 5000 cap := by
          rw [h50] at ov
          rcases ov.2 with ⟨_, h⟩ | ⟨g, cap, cur, h, _⟩
          · omega
          · exact ⟨_, _, h⟩
        have hcv := bv.cell
        have htk0 : tt ≠ w.heap.size := by omega
        clear hl hts hit hG hq ov h5 hz h50 HLX HER HLEN bR bE bO bV bT hB0 hb hbL hLH hHc hct hcx
        gi_wp2
        refine region_round (by kernel_rfl) (by kernel_rfl) (fun ⟨_, _, h⟩ => h) ?_
        refine any_of_held (S := fun w' => w'.cell? ⟨tt, 3, none⟩ = some (.int .i64 (tk.pos : Nat))) (N := []) _ _ _ _ ?_
        have hba : Below W.heap.size W W.drew := below_drewN (Below.refl _ _) 1
        have hpa : W.drew.cell? ⟨tt, 3, none⟩ = some (.int .i64 (tk.pos : Nat)) := (hba.cell (p := ⟨tt, 3, none⟩) htt).trans hpos
        have a0 := b0.kept (grown_of_below hba) (fun e => by cases e)
        have a1 := b1.kept (grown_of_below hba) (fun e => by cases e)
        have a2 := b2.kept (grown_of_below hba) (fun e => by cases e)
        have hko : KeepsOthers W W.drew := KeepsOthers.of_grownBy (grown_of_below hba) (fun j o e => by cases e)
        have hbw : Below w.heap.size w W.drew := hB.trans (hba.mono hB.size)
        obtain ⟨wa, hwa⟩ : ∃ wa, W.drew = wa := ⟨_, rfl⟩
        rw [hwa] at hba hpa a0 a1 a2 hko hbw ⊢
        have hne : ∀ k, k < w.heap.size + 5 → ∀ (w' : World) (u : Value), w'.cell? ⟨tt, 3, none⟩ = some (.int .i64 (tk.pos : Nat)) → (w'.setCell ⟨k, 0, none⟩ u).cell? ⟨tt, 3, none⟩ = some (.int .i64 (tk.pos : Nat)) := fun k hk w' u h => by
          rw [World.cell?_setCell_other _ _ _ _ (by intro e; injection e with h1 _; omega)]; exact h
        refine held_take [] (i := 0) (v := .int .i64 3) rfl (by kernel_rfl) (fun _ _ _ h => h) (Or.inl ⟨by rfl, fun w' _ => by go_simp⟩) hpa ?_
        try simp only [Act.put, List.setIfInBounds_toArray, List.set_cons_zero, List.set_cons_succ]
        refine held_take [] (i := 1) (v := .pointer (some ⟨tt, 3, none⟩)) rfl (by kernel_rfl) (fun _ _ _ h => h) (Or.inl ⟨by rfl, fun w' _ => by go_simp⟩) hpa ?_
        try simp only [Act.put, List.setIfInBounds_toArray, List.set_cons_zero, List.set_cons_succ]
        refine held_take [] (i := 2) (v := .int .i64 (tk.pos : Nat)) rfl (by kernel_rfl) (fun _ _ _ h => h) (Or.inl ⟨by rfl, fun w' hS => by go_simp⟩) hpa ?_
        try simp only [Act.put, List.setIfInBounds_toArray, List.set_cons_zero, List.set_cons_succ]
        refine held_one (i := 3) rfl (by kernel_rfl) (fun K hK => ?_)
        have c0 := a0.cell
        have f0 := a0.frozen
        go_simp
        have hpb := hne w.heap.size (by omega) wa (.slice none 0 0) hpa
        refine hK.out _ _ (fun _ => hpb) ?_
        clear hK K c0 f0
        try simp only [Act.put, List.setIfInBounds_toArray, List.set_cons_zero, List.set_cons_succ]
        have d0 := a0.set (.slice none 0 0)
        have d1 := a1.other (B' := w.heap.size) (by omega) (.slice none 0 0)
        have d2 := a2.other (B' := w.heap.size) (by omega) (.slice none 0 0)
        have hko2 := hko.trans (KeepsOthers.setCell wa ⟨w.heap.size, 0, none⟩ (.slice none 0 0))
        have hbw2 := hbw.setCell (p := ⟨w.heap.size, 0, none⟩) (Nat.le_refl _) (.slice none 0 0)
        generalize wa.setCell ⟨w.heap.size, 0, none⟩ (.slice none 0 0) = wb at *
        refine held_one (i := 4) rfl (by kernel_rfl) (fun K hK => ?_)
        have c0 := d1.cell
        have f0 := d1.frozen
        go_simp
        have hpc := hne (w.heap.size + 1) (by omega) wb (.int .i64 3) hpb
        refine hK.out _ _ (fun _ => hpc) ?_
        clear hK K c0 f0
        try simp only [Act.put, List.setIfInBounds_toArray, List.set_cons_zero, List.set_cons_succ]
        have g0 := d0.other (B' := w.heap.size + 1) (by omega) (.int .i64 3)
        have g1 := d1.set (.int .i64 3)
        have g2 := d2.other (B' := w.heap.size + 1) (by omega) (.int .i64 3)
        have hko3 := hko2.trans (KeepsOthers.setCell wb ⟨w.heap.size + 1, 0, none⟩ (.int .i64 3))
        have hbw3 := hbw2.setCell (p := ⟨w.heap.size + 1, 0, none⟩) (Nat.le_succ _) (.int .i64 3)
        generalize wb.setCell ⟨w.heap.size + 1, 0, none⟩ (.int .i64 3) = wc at *
        refine held_one (i := 5) rfl (by kernel_rfl) (fun K hK => ?_)
        have c0 := g2.cell
        have f0 := g2.frozen
        go_simp
        have hpd := hne (w.heap.size + 1 + 1) (by omega) wc (.int .i64 (tk.pos : Nat)) hpc
        refine hK.out _ _ (fun _ => hpd) ?_
        clear hK K c0 f0
        try simp only [Act.put, List.setIfInBounds_toArray, List.set_cons_zero, List.set_cons_succ]
        have j0 := g0.other (B' := w.heap.size + 1 + 1) (by omega) (.int .i64 (tk.pos : Nat))
        have j1 := g1.other (B' := w.heap.size + 1 + 1) (by omega) (.int .i64 (tk.pos : Nat))
        have j2 := g2.set (.int .i64 (tk.pos : Nat))
        have hko4 := hko3.trans (KeepsOthers.setCell wc ⟨w.heap.size + 1 + 1, 0, none⟩ (.int .i64 (tk.pos : Nat)))
        have hbw4 := hbw3.setCell (p := ⟨w.heap.size + 1 + 1, 0, none⟩) (by show w.heap.size ≤ w.heap.size + 1 + 1; omega) (.int .i64 (tk.pos : Nat))
        refine held_done (by kernel_rfl) ?_ _
        gi_wp2
        exact ⟨hko4, 3, (tk.pos : Nat), HL.out, ⟨j0, j1, j2⟩, hbw4⟩
      · have hlt : pre.length < 5000 := by omega
        obtain ⟨k, hk⟩ : ∃ k, pre.length = k := ⟨_, rfl⟩
        obtain ⟨ps, hps⟩ : ∃ ps, pre.map (·.1) = ps := ⟨_, rfl⟩
        have hpk : ps.length = k := by rw [← hps, List.length_map, hk]
        rw [hk, hps] at ov
        rw [hk] at hlt
        obtain ⟨q, cap, rfl⟩ : ∃ q cap, v = .slice q k cap := by
          rcases ov.2 with ⟨h1, h⟩ | ⟨g, cap, cur, h, _⟩
          · exact ⟨none, 0, by rw [h1, h]⟩
          · exact ⟨_, _, h⟩
        have hcv := bv.cell
        have hdk : ((k : Int) == 5000) = false := by simp; omega
        have hdk2 : decide ((k : Int) = 5000) = false := by simp; omega
        obtain ⟨kd, T, vl, po⟩ := tk
        have t0 : W.cell? ⟨tt, 0, none⟩ = some (.int .i64 (kd : Nat)) := by simp [World.cell?, hcx, tokC]
        have t1 : W.cell? ⟨tt, 1, none⟩ = some (.string ⟨T.toArray⟩) := by simp [World.cell?, hcx, tokC]
        have t2 : W.cell? ⟨tt, 2, none⟩ = some (.int .i64 (vl : Nat)) := by simp [World.cell?, hcx, tokC]
        have t3 : W.cell? ⟨tt, 3, none⟩ = some (.int .i64 (po : Nat)) := by simp [World.cell?, hcx, tokC]
        have HB := Lib.hid hB; have HG := Lib.hid hG; have HZ := Lib.hid hz; have HPK := Lib.hid hpk; have HK := Lib.hid hk; have HPS := Lib.hid hps; have HQ := Lib.hid hq
        clear hts hit hB hG hq h5 hz h50 hk hps hpk HLX HER HLEN bR bE bO bV bT hB0
        have hbs := HB.out.size
        gi_wp2_with (refine wpListIn_append_t _ rfl (.tmp 27) (.tmp 29) rfl w.heap.size _ ps k HPK.out rfl (World.ownsRow.alloc ov _) W.heap.size ⟨kd, T, vl, po⟩ rfl (World.alloc_heap_new W _) (by have := HPK.out; omega) (by simp; omega) ?_; intro g cap' w1 hown' hgrow hat; obtain ⟨bx1, bx2, ox2, kx2, hbx2⟩ := bv.appended (by decide) ov hbs (by omega) hown' hgrow; have hcx1 := bx1.cell; have hfx1 := bx1.frozen)
        have hat2 : (some g = (Value.slice q k cap).ownBlock ∨ g = W.heap.size + 1) := by
          rcases hat with h | h
          · exact Or.inl h.symm
          · exact Or.inr (by simpa using h)
        have hw1 := hgrow.size
        rw [World.size_alloc] at hw1
        have hst := grownBy_setCell' w1 (w.heap.size + 1 + 1 + 1) (.slice (some ⟨g, 0, none⟩) (k + 1) cap')
        have hs2 := hst.size
        have hgl : g < w1.heap.size := (World.ownsRow.lt hown' g rfl).2
        have hqn : ∀ z, (z < L ∨ H ≤ z) → (Value.slice q k cap).ownBlock ≠ some z := fun z hz e => by
          have := HQ.out z e; omega
        have hob : ∀ {B' : Nat} {ty : TypeId} {u : Value}, Boxed W B' ty u → ty ≠ 67 → B' ≠ w.heap.size + 1 + 1 + 1 → Boxed (w1.setCell ⟨w.heap.size + 1 + 1 + 1, 0, none⟩ (.slice (some ⟨g, 0, none⟩) (k + 1) cap')) B' ty u := fun {B' ty u} hb ht hn =>
          ((hb.alloc _).kept hgrow (hb.not_row ht ov)).other hn _
        refine ⟨kx2, ⟨(w1.setCell ⟨w.heap.size + 1 + 1 + 1, 0, none⟩ (.slice (some ⟨g, 0, none⟩) (k + 1) cap')).heap.size, by omega, Nat.le_refl _, ⟨_, bx2, ?_, ?_⟩, ⟨hob b0 (by decide) (by omega), hob b1 (by decide) (by omega), hob b2 (by decide) (by omega)⟩, ⟨?_, ?_⟩, HB.out.trans (hbx2.mono (Nat.le_refl _))⟩, ?_⟩
        · rw [List.length_append, HK.out, List.map_append, HPS.out]; exact ox2
        · intro z e
          simp only [Value.ownBlock, Option.some.injEq] at e
          subst e
          refine ⟨?_, by omega⟩
          rcases hat2 with h | h
          · exact (HQ.out _ h.symm).1
          · omega
        · rw [List.length_append, HK.out]; exact hlt
        · intro z hz
          rcases List.mem_append.1 hz with h | h
          · exact HZ.out z h
          · simp only [List.mem_singleton] at h; subst h; rfl
        · refine keeps_grown (keeps_grown ((keeps_own _ t b c _).alloc (s := ()) _ HG.out) hgrow (hqn b (Or.inl hbL)) (hqn _ (Or.inl (by omega))) (hqn c (Or.inr hHc))) hst ?_ ?_ ?_
          · simp only [ne_eq, Option.some.injEq]; omega
          · simp only [ne_eq, Option.some.injEq]; omega
          · simp only [ne_eq, Option.some.injEq]; omega
    · have hl := lexAll_bad (ts := pre.map (·.1)) (d := d) (p := tk.pos) HLEN.out (by rw [← hts, ← her]; exact HLX.out) (by simpa using h5)
      have HL := Lib.hid hl
      have hpos : W.cell? ⟨tt, 3, none⟩ = some (.int .i64 (tk.pos : Nat)) := by simp [World.cell?, hcx, tokC]
      have hdn : ((d : Int) == 0) = false := by simp; omega
      have hdn2 : ((d : Int) != 0) = true := by simp; omega
      clear hl hts her hit hG hq ov h5 hz hd0 HLX HER HLEN bR bE bO bV bT hB0 hb hbL hLH hHc hct hcx
      gi_wp2
      refine region_round (by kernel_rfl) (by kernel_rfl) (fun ⟨_, _, h⟩ => h) ?_
      refine any_of_held (S := fun w' => w'.cell? ⟨tt, 3, none⟩ = some (.int .i64 (tk.pos : Nat))) (N := []) _ _ _ _ ?_
      have hba : Below W.heap.size W W.drew := below_drewN (Below.refl _ _) 1
      have hpa : W.drew.cell? ⟨tt, 3, none⟩ = some (.int .i64 (tk.pos : Nat)) := (hba.cell (p := ⟨tt, 3, none⟩) htt).trans hpos
      have a0 := b0.kept (grown_of_below hba) (fun e => by cases e)
      have a1 := b1.kept (grown_of_below hba) (fun e => by cases e)
      have a2 := b2.kept (grown_of_below hba) (fun e => by cases e)
      have hko : KeepsOthers W W.drew := KeepsOthers.of_grownBy (grown_of_below hba) (fun j o e => by cases e)
      have hbw : Below w.heap.size w W.drew := hB.trans (hba.mono hB.size)
      obtain ⟨wa, hwa⟩ : ∃ wa, W.drew = wa := ⟨_, rfl⟩
      rw [hwa] at hba hpa a0 a1 a2 hko hbw ⊢
      have hne : ∀ k, k < w.heap.size + 5 → ∀ (w' : World) (u : Value), w'.cell? ⟨tt, 3, none⟩ = some (.int .i64 (tk.pos : Nat)) → (w'.setCell ⟨k, 0, none⟩ u).cell? ⟨tt, 3, none⟩ = some (.int .i64 (tk.pos : Nat)) := fun k hk w' u h => by
        rw [World.cell?_setCell_other _ _ _ _ (by intro e; injection e with h1 _; omega)]; exact h
      refine held_take [] (i := 0) (v := .int .i64 (d : Nat)) rfl (by kernel_rfl) (fun _ _ _ h => h) (Or.inl ⟨by rfl, fun w' _ => by go_simp⟩) hpa ?_
      try simp only [Act.put, List.setIfInBounds_toArray, List.set_cons_zero, List.set_cons_succ]
      refine held_take [] (i := 1) (v := .pointer (some ⟨tt, 3, none⟩)) rfl (by kernel_rfl) (fun _ _ _ h => h) (Or.inl ⟨by rfl, fun w' _ => by go_simp⟩) hpa ?_
      try simp only [Act.put, List.setIfInBounds_toArray, List.set_cons_zero, List.set_cons_succ]
      refine held_take [] (i := 2) (v := .int .i64 (tk.pos : Nat)) rfl (by kernel_rfl) (fun _ _ _ h => h) (Or.inl ⟨by rfl, fun w' hS => by go_simp⟩) hpa ?_
      try simp only [Act.put, List.setIfInBounds_toArray, List.set_cons_zero, List.set_cons_succ]
      refine held_one (i := 3) rfl (by kernel_rfl) (fun K hK => ?_)
      have c0 := a0.cell
      have f0 := a0.frozen
      go_simp
      have hpb := hne w.heap.size (by omega) wa (.slice none 0 0) hpa
      refine hK.out _ _ (fun _ => hpb) ?_
      clear hK K c0 f0
      try simp only [Act.put, List.setIfInBounds_toArray, List.set_cons_zero, List.set_cons_succ]
      have d0 := a0.set (.slice none 0 0)
      have d1 := a1.other (B' := w.heap.size) (by omega) (.slice none 0 0)
      have d2 := a2.other (B' := w.heap.size) (by omega) (.slice none 0 0)
      have hko2 := hko.trans (KeepsOthers.setCell wa ⟨w.heap.size, 0, none⟩ (.slice none 0 0))
      have hbw2 := hbw.setCell (p := ⟨w.heap.size, 0, none⟩) (Nat.le_refl _) (.slice none 0 0)
      generalize wa.setCell ⟨w.heap.size, 0, none⟩ (.slice none 0 0) = wb at *
      refine held_one (i := 4) rfl (by kernel_rfl) (fun K hK => ?_)
      have c0 := d1.cell
      have f0 := d1.frozen
      go_simp
      have hpc := hne (w.heap.size + 1) (by omega) wb (.int .i64 (d : Nat)) hpb
      refine hK.out _ _ (fun _ => hpc) ?_
      clear hK K c0 f0
      try simp only [Act.put, List.setIfInBounds_toArray, List.set_cons_zero, List.set_cons_succ]
      have g0 := d0.other (B' := w.heap.size + 1) (by omega) (.int .i64 (d : Nat))
      have g1 := d1.set (.int .i64 (d : Nat))
      have g2 := d2.other (B' := w.heap.size + 1) (by omega) (.int .i64 (d : Nat))
      have hko3 := hko2.trans (KeepsOthers.setCell wb ⟨w.heap.size + 1, 0, none⟩ (.int .i64 (d : Nat)))
      have hbw3 := hbw2.setCell (p := ⟨w.heap.size + 1, 0, none⟩) (Nat.le_succ _) (.int .i64 (d : Nat))
      generalize wb.setCell ⟨w.heap.size + 1, 0, none⟩ (.int .i64 (d : Nat)) = wc at *
      refine held_one (i := 5) rfl (by kernel_rfl) (fun K hK => ?_)
      have c0 := g2.cell
      have f0 := g2.frozen
      go_simp
      have hpd := hne (w.heap.size + 1 + 1) (by omega) wc (.int .i64 (tk.pos : Nat)) hpc
      refine hK.out _ _ (fun _ => hpd) ?_
      clear hK K c0 f0
      try simp only [Act.put, List.setIfInBounds_toArray, List.set_cons_zero, List.set_cons_succ]
      have j0 := g0.other (B' := w.heap.size + 1 + 1) (by omega) (.int .i64 (tk.pos : Nat))
      have j1 := g1.other (B' := w.heap.size + 1 + 1) (by omega) (.int .i64 (tk.pos : Nat))
      have j2 := g2.set (.int .i64 (tk.pos : Nat))
      have hko4 := hko3.trans (KeepsOthers.setCell wc ⟨w.heap.size + 1 + 1, 0, none⟩ (.int .i64 (tk.pos : Nat)))
      have hbw4 := hbw3.setCell (p := ⟨w.heap.size + 1 + 1, 0, none⟩) (by show w.heap.size ≤ w.heap.size + 1 + 1; omega) (.int .i64 (tk.pos : Nat))
      refine held_done (by kernel_rfl) ?_ _
      gi_wp2
      exact ⟨hko4, d, (tk.pos : Nat), HL.out, ⟨j0, j1, j2⟩, hbw4⟩
  case done =>
    rintro D L H W hD ⟨⟨v, bv, ov, hq⟩, ⟨b0, b1, b2⟩, ⟨h5, hz⟩, hB⟩ hK
    obtain ⟨rfl, hts⟩ := outs_all rfl hz HER.out
    have hl := lexAll_done HLEN.out HLX.out (by rw [hts]; simpa using h5)
    obtain ⟨k, hk⟩ : ∃ k, (outs ts none).length = k := ⟨_, rfl⟩
    rw [hk, ← hts] at ov
    have hkt : ts.length = k := by rw [hts, List.length_map, hk]
    obtain ⟨q, cap, rfl⟩ : ∃ q cap, v = .slice q k cap := by
      rcases ov.2 with ⟨h1, h⟩ | ⟨g, cap, cur, h, _⟩
      · exact ⟨none, 0, by rw [h1, h]⟩
      · exact ⟨_, _, h⟩
    have hov : OwnT W w.heap.size (.slice q k cap) ts := by unfold OwnT; rw [hkt]; exact ov
    have HOV := Lib.hid hov; have HL := Lib.hid hl; have HB := Lib.hid hB; have HK := Lib.hid hK
    have cv := bv.cell
    have c0 := b0.cell
    have f0 := b0.frozen
    have c1 := b1.cell
    have f1 := b1.frozen
    have c2 := b2.cell
    have f2 := b2.frozen
    clear hts hl hB hK hov ov hz h5 hk hkt hq HLX HER HLEN bR bE bO bV bT hB0
    gi_wp2
    have d0 := ((b0.set (.slice q k cap)).other (B' := w.heap.size + 1) (by omega) (.int .i64 0)).other (B' := w.heap.size + 1 + 1) (by omega) (.int .i64 0)
    have d1 := ((b1.other (B' := w.heap.size) (by omega) (.slice q k cap)).set (.int .i64 0)).other (B' := w.heap.size + 1 + 1) (by omega) (.int .i64 0)
    have d2 := ((b2.other (B' := w.heap.size) (by omega) (.slice q k cap)).other (B' := w.heap.size + 1) (by omega) (.int .i64 0)).set (.int .i64 0)
    have hK3 := (((KeepsOthers.setCell W ⟨w.heap.size, 0, none⟩ (.slice q k cap)).trans (KeepsOthers.setCell _ ⟨w.heap.size + 1, 0, none⟩ (.int .i64 0))).trans (KeepsOthers.setCell _ ⟨w.heap.size + 1 + 1, 0, none⟩ (.int .i64 0))).same D _ HK.out rfl
    have hB3 := ((HB.out.setCell (p := ⟨w.heap.size, 0, none⟩) (Nat.le_refl _) (.slice q k cap)).setCell (p := ⟨w.heap.size + 1, 0, none⟩) (Nat.le_succ _) (.int .i64 0)).setCell (p := ⟨w.heap.size + 1 + 1, 0, none⟩) (by show w.heap.size ≤ w.heap.size + 1 + 1; omega) (.int .i64 0)
    have o1 := World.ownsRow.kept HOV.out (grownBy_setCell' W w.heap.size (.slice q k cap)) (.inr (b0.not_row (by decide) HOV.out).symm)
    have o2 := World.ownsRow.kept o1 (grownBy_setCell' _ (w.heap.size + 1) (.int .i64 0)) (.inr ((b1.other (B' := w.heap.size) (by omega) (.slice q k cap)).not_row (by decide) o1).symm)
    have o3 := World.ownsRow.kept o2 (grownBy_setCell' _ (w.heap.size + 1 + 1) (.int .i64 0)) (.inr (((b2.other (B' := w.heap.size) (by omega) (.slice q k cap)).other (B' := w.heap.size + 1) (by omega) (.int .i64 0)).not_row (by decide) o2).symm)
    clear c0 c1 c2 f0 f1 f2 cv o1 o2
    generalize ((W.setCell ⟨w.heap.size, 0, none⟩ (.slice q k cap)).setCell ⟨w.heap.size + 1, 0, none⟩ (.int .i64 0)).setCell ⟨w.heap.size + 1 + 1, 0, none⟩ (.int .i64 0) = W3 at *
    exact lex_end hK3 d0 d1 d2 rfl rfl rfl (lexPost_of (E := 0) HL.out (ownsRow_putObj o3 _ hK3 rfl) (hB3.trans (belowK_b (w := w) (Nat.le_refl _) W3 D _ _ (by omega) hK3 rfl rfl)))
  case stop =>
    rintro D W hD ⟨E, O, h1, ⟨b0, b1, b2⟩, hB⟩ hK
    have c0 := b0.cell
    have c1 := b1.cell
    have c2 := b2.cell
    have HL := Lib.hid h1; have HB := Lib.hid hB; have HK := Lib.hid hK
    clear h1 hB hK HLX HER HLEN bR bE bO bV bT hB0
    gi_wp2
    exact lex_end HK.out b0 b1 b2 rfl rfl rfl (lexPost_of HL.out (ownT_nil _ 0) (HB.out.trans (belowK_b (w := w) (Nat.le_refl _) W D _ _ (by omega) HK.out rfl rfl)))
theorem lex_any (t : ByteArray) (ht : t.size ≤ 1000000) (w : World) : Calls Tryz.prog 8 #[.string t] w (LexPost t.data.toList w) := by
  rcases Nat.lt_or_ge 20000 t.size with h | h
  · exact lex_long t ht h w
  · exact lex_short t h w
end Go.Proofs.YtlfjdohjfmfcdaaGreatDoor
