/-
  The document's own reader of rules: what asks for the next token, and what notes an error.
-/
import Derived.Test.YtlfjdohjfmfcdabDoorSteps
import Derived.Test.YtlfjdohjfmfcdabDoorMathRef7
import Derived.Test.YtlfjdohjfmfcdabDoorWalkTake
namespace Go.Proofs.YtlfjdohjfmfcdabDoor
open Go.RowKit Go.Sort Foyer.Rule
set_option linter.unusedSimpArgs false

/-- The tokens that are left, as a slice of a base world. -/
structure IsSt (B : World) (p : Option Addr) (cap : Nat) (l : List Foyer.Lexer.Tok) : Prop where
  at_ : l = [] ∨ ∃ b off, p = some ⟨b, off, none⟩ ∧ b < B.heap.size ∧ ∀ j t, l[j]? = some t → TokAt B b (off + j * 4) t
  le : l.length ≤ cap
  most : cap ≤ maxLen
  nil : p = none → cap = 0
  short : ∀ t ∈ l, t.text.length ≤ 1000000
theorem TokAt.below {B w : World} {b o : Nat} {t : Foyer.Lexer.Tok} (h : TokAt B b o t) (hB : Below B.heap.size B w) : TokAt w b o t := by
  have hb := lt_of_cell h.kind
  exact ⟨(hB.cell (p := ⟨b, o, none⟩) hb).trans h.kind, (hB.cell (p := ⟨b, o + 1, none⟩) hb).trans h.text, (hB.cell (p := ⟨b, o + 2, none⟩) hb).trans h.val, (hB.cell (p := ⟨b, o + 3, none⟩) hb).trans h.pos⟩
theorem IsSt.head {B w : World} {p : Option Addr} {cap : Nat} {t : Foyer.Lexer.Tok} {r : List Foyer.Lexer.Tok} (h : IsSt B p cap (t :: r)) (hB : Below B.heap.size B w) :
    ∃ b off, p = some ⟨b, off, none⟩ ∧ r.length + 1 ≤ cap ∧ cap ≤ maxLen ∧ b < B.heap.size ∧ TokAt w b off t := by
  obtain ⟨hr, hc, hm, hn, _⟩ := h
  rcases hr with hr | ⟨b, off, rfl, hb, ht⟩
  · cases hr
  · have := ht 0 t rfl
    rw [Nat.zero_mul, Nat.add_zero] at this
    exact ⟨b, off, rfl, hc, hm, hb, this.below hB⟩
theorem IsSt.last {B : World} {b off : Nat} {t : Foyer.Lexer.Tok} {r : List Foyer.Lexer.Tok} (h : IsSt B (some ⟨b, off, none⟩) 1 (t :: r)) : r = [] ∧ IsSt B (some ⟨b, off, none⟩) 0 r := by
  have hr : r = [] := by have := h.le; simp only [List.length_cons] at this; exact List.length_eq_zero_iff.1 (by omega)
  exact ⟨hr, Or.inl hr, by rw [hr]; exact Nat.le_refl _, Nat.zero_le _, fun h => (by cases h), fun u hu => h.short u (List.mem_cons_of_mem _ hu)⟩
theorem IsSt.tail {B : World} {b off cap : Nat} {t : Foyer.Lexer.Tok} {r : List Foyer.Lexer.Tok} (h : IsSt B (some ⟨b, off, none⟩) cap (t :: r)) : IsSt B (some ⟨b, off + 4, none⟩) (cap - 1) r := by
  obtain ⟨hr, hc, hm, hn, hs⟩ := h
  rcases hr with hr | ⟨b', off', e1, hb, ht⟩
  · cases hr
  injection e1 with e1
  injection e1 with e1 e4
  subst e1 e4
  simp only [List.length_cons] at hc
  refine ⟨Or.inr ⟨b, off + 4, rfl, hb, fun j u hj => ?_⟩, by omega, by omega, fun h => (by cases h), fun u hu => hs u (List.mem_cons_of_mem _ hu)⟩
  have := ht (j + 1) u (by simpa using hj)
  rwa [show off + (j + 1) * 4 = off + 4 + j * 4 by omega] at this
theorem results_two {P : Program} {fn : Func} {p q : Tmp} {ty tz : TypeId} (h : fn.results = #[.cell p ty, .cell q tz]) (tmps : Array Value) (w : World) (b c : Nat) (cs ds : List Value) (d e : TypeDesc)
    (hp : tmps.getD p undef = .pointer (some ⟨b, 0, none⟩)) (hc : w.rangeAt b 0 cs) (hu : P.underlying ty = some d) (hd : d.isRow = true) (hi : (P.info? ty).map (·.size) = some cs.length)
    (hq : tmps.getD q undef = .pointer (some ⟨c, 0, none⟩)) (hc' : w.rangeAt c 0 ds) (hu' : P.underlying tz = some e) (hd' : e.isRow = true) (hi' : (P.info? tz).map (·.size) = some ds.length) :
    (results fn tmps).run P w = .ok (.tuple #[.agg cs.toArray, .agg ds.toArray]) w := by
  have hp' : tmps[p]?.getD undef = .pointer (some ⟨b, 0, none⟩) := by simpa using hp
  have hq' : tmps[q]?.getD undef = .pointer (some ⟨c, 0, none⟩) := by simpa using hq
  simp [results, h, hp', hq', asAddr, run_loadVar_mid w b 0 ty cs d hc hu hd hi, run_loadVar_mid w c 0 tz ds e hc' hu' hd' hi']
set_option maxRecDepth 100000 in
theorem rfail_any (N : Nat) (s : St) (c : Nat) (B : World) (p : Option Addr) (cap : Nat) (hv : IsSt B p cap s.left) (C : Int) (hC : C = (c : Nat)) (w : World) (hB : Below B.heap.size B w) :
    Calls Tryd.prog 20 #[.agg #[.slice p s.left.length cap, .int .i64 (N : Nat), .int .i64 (s.err : Nat), .int .i64 (s.pos : Nat)], .int .i64 C] w fun e w' =>
      e = .returned (.agg #[.slice p (rFail N s c).left.length cap, .int .i64 (N : Nat), .int .i64 ((rFail N s c).err : Nat), .int .i64 ((rFail N s c).pos : Nat)]) ∧ Below w.heap.size w w' := by
  obtain ⟨l, E, O⟩ := s
  subst hC
  by_cases hE : E = 0
  · subst hE
    cases l with
    | nil =>
      have e1 : rFail N ⟨[], 0, O⟩ c = ⟨[], 7, N⟩ := rfl
      rw [e1]
      dsimp only
      clear hB hv
      go_enter Tryd.func20, Tryd.ntmps20
      go_upto_region 1 with fail
      obtain ⟨W1, hW1, bW1, sW1, k2_s, k2_r⟩ : ∃ x, ((w.alloc (.cells #[.slice p 0 cap, .int .i64 (N : Nat), .int .i64 0, .int .i64 (O : Nat)] 45)).alloc (.cells #[.slice none 0 0, .int .i64 0, .int .i64 0, .int .i64 0] 45)) = x ∧ Since w x ∧ w.heap.size + 1 + 1 ≤ x.heap.size ∧ Blk x (w.heap.size) 45 [.slice p 0 cap, .int .i64 (N : Nat), .int .i64 0, .int .i64 (O : Nat)] ∧ Blk x (w.heap.size + 1) 45 [.slice none 0 0, .int .i64 0, .int .i64 0, .int .i64 0] := ⟨_, rfl, (Since.alloc (Since.alloc (Since.refl w) _) _), by simp only [World.setCell, World.size_alloc, Array.size_modify, Nat.le_refl], (Blk.alloc (Blk.new' _ _ _ (rfl)) _), (Blk.new' _ _ _ (by simp only [World.size_alloc]))⟩
      rw [hW1]
      clear hW1
      have k_s := k2_s
      have k_r := k2_r
      clear k2_s k2_r
      have q_s0 := k_s.cell (i := 0) rfl
      have q_s1 := k_s.cell (i := 1) rfl
      have q_s2 := k_s.cell (i := 2) rfl
      have q_s3 := k_s.cell (i := 3) rfl
      have q_sf := k_s.free
      have q_r0 := k_r.cell (i := 0) rfl
      have q_r1 := k_r.cell (i := 1) rfl
      have q_r2 := k_r.cell (i := 2) rfl
      have q_r3 := k_r.cell (i := 3) rfl
      have q_rf := k_r.free
      go_wp2
      clear q_s0 q_s1 q_s2 q_s3 q_sf q_r0 q_r1 q_r2 q_r3 q_rf
      obtain ⟨W2, hW2, bW2, sW2, k2_s, k2_r⟩ : ∃ x, ((((((W1.setCell ⟨w.heap.size, 2, none⟩ (.int .i64 7)).setCell ⟨w.heap.size, 3, none⟩ (.int .i64 (N : Nat))).setCell ⟨w.heap.size + 1, 0, none⟩ (.slice p 0 cap)).setCell ⟨w.heap.size + 1, 1, none⟩ (.int .i64 (N : Nat))).setCell ⟨w.heap.size + 1, 2, none⟩ (.int .i64 7)).setCell ⟨w.heap.size + 1, 3, none⟩ (.int .i64 (N : Nat))) = x ∧ Since w x ∧ W1.heap.size ≤ x.heap.size ∧ Blk x (w.heap.size) 45 [.slice p 0 cap, .int .i64 (N : Nat), .int .i64 7, .int .i64 (N : Nat)] ∧ Blk x (w.heap.size + 1) 45 [.slice p 0 cap, .int .i64 (N : Nat), .int .i64 7, .int .i64 (N : Nat)] := ⟨_, rfl, (Since.s4 (Since.s2 bW1 (by omega)) (by omega)), by simp only [World.setCell, World.size_alloc, Array.size_modify, Nat.le_refl], (Blk.o4 (Blk.cast (Blk.set (Blk.set k_s 2 _) 3 _) rfl) (by omega)), (Blk.cast (Blk.set (Blk.set (Blk.set (Blk.set (Blk.o2 k_r (by omega)) 0 _) 1 _) 2 _) 3 _) rfl)⟩
      rw [hW2]
      clear hW2 k_s k_r
      have k_s := k2_s
      have k_r := k2_r
      clear k2_s k2_r
      exact bodyPost_ret (results_cell_mid rfl _ _ (w.heap.size + 1) _ _ rfl k_r.range Tryd.underlying45 rfl (by kernel_rfl)) rfl ⟨rfl, bW2⟩
    | cons t r =>
      obtain ⟨b, off, rfl, _, _, hb, ht⟩ := hv.head hB
      have e1 : rFail N ⟨t :: r, 0, O⟩ c = ⟨t :: r, c, t.pos⟩ := rfl
      rw [e1]
      have hl : (t :: r).length = r.length + 1 := rfl
      dsimp only
      have hne : (((r.length : Nat) : Int) + 1 == 0) = false := by simp; omega
      have hpos : (0 : Int) < (r.length : Int) + 1 := by omega
      have hbw : b < w.heap.size := Nat.lt_of_lt_of_le hb hB.size
      clear hB hv
      go_enter Tryd.func20, Tryd.ntmps20
      go_upto_region 1 with fail
      obtain ⟨W1, hW1, bW1, sW1, k2_s, k2_r⟩ : ∃ x, ((w.alloc (.cells #[.slice (some ⟨b, off, none⟩) (r.length + 1) cap, .int .i64 (N : Nat), .int .i64 0, .int .i64 (O : Nat)] 45)).alloc (.cells #[.slice none 0 0, .int .i64 0, .int .i64 0, .int .i64 0] 45)) = x ∧ Since w x ∧ w.heap.size + 1 + 1 ≤ x.heap.size ∧ Blk x (w.heap.size) 45 [.slice (some ⟨b, off, none⟩) (r.length + 1) cap, .int .i64 (N : Nat), .int .i64 0, .int .i64 (O : Nat)] ∧ Blk x (w.heap.size + 1) 45 [.slice none 0 0, .int .i64 0, .int .i64 0, .int .i64 0] := ⟨_, rfl, (Since.alloc (Since.alloc (Since.refl w) _) _), by simp only [World.setCell, World.size_alloc, Array.size_modify, Nat.le_refl], (Blk.alloc (Blk.new' _ _ _ (rfl)) _), (Blk.new' _ _ _ (by simp only [World.size_alloc]))⟩
      rw [hW1]
      clear hW1
      have k_s := k2_s
      have k_r := k2_r
      clear k2_s k2_r
      have q_s0 := k_s.cell (i := 0) rfl
      have q_s1 := k_s.cell (i := 1) rfl
      have q_s2 := k_s.cell (i := 2) rfl
      have q_s3 := k_s.cell (i := 3) rfl
      have q_sf := k_s.free
      have q_r0 := k_r.cell (i := 0) rfl
      have q_r1 := k_r.cell (i := 1) rfl
      have q_r2 := k_r.cell (i := 2) rfl
      have q_r3 := k_r.cell (i := 3) rfl
      have q_rf := k_r.free
      have hp3 := (World.cell?_of_block (w := w) (bW1.block b hbw)).trans ht.pos
      go_upto_region 7 with fail
      clear q_s0 q_s1 q_s2 q_s3 q_sf q_r0 q_r1 q_r2 q_r3 q_rf
      obtain ⟨W2, hW2, bW2, sW2, k2_s, k2_r⟩ : ∃ x, (W1.setCell ⟨w.heap.size, 2, none⟩ (.int .i64 (c : Nat))) = x ∧ Since w x ∧ W1.heap.size ≤ x.heap.size ∧ Blk x (w.heap.size) 45 [.slice (some ⟨b, off, none⟩) (r.length + 1) cap, .int .i64 (N : Nat), .int .i64 (c : Nat), .int .i64 (O : Nat)] ∧ Blk x (w.heap.size + 1) 45 [.slice none 0 0, .int .i64 0, .int .i64 0, .int .i64 0] := ⟨_, rfl, (Since.s1 bW1 (by omega)), by simp only [World.setCell, World.size_alloc, Array.size_modify, Nat.le_refl], (Blk.cast (Blk.set k_s 2 _) rfl), (Blk.o1 k_r (by omega))⟩
      rw [hW2]
      clear hW2 k_s k_r
      have k_s := k2_s
      have k_r := k2_r
      clear k2_s k2_r
      replace hp3 := (World.cell?_of_block (w := w) (bW2.block b hbw)).trans ht.pos
      have q_s0 := k_s.cell (i := 0) rfl
      have q_s1 := k_s.cell (i := 1) rfl
      have q_s2 := k_s.cell (i := 2) rfl
      have q_s3 := k_s.cell (i := 3) rfl
      have q_sf := k_s.free
      have q_r0 := k_r.cell (i := 0) rfl
      have q_r1 := k_r.cell (i := 1) rfl
      have q_r2 := k_r.cell (i := 2) rfl
      have q_r3 := k_r.cell (i := 3) rfl
      have q_rf := k_r.free
      go_wp2
      clear q_s0 q_s1 q_s2 q_s3 q_sf q_r0 q_r1 q_r2 q_r3 q_rf
      obtain ⟨W3, hW3, bW3, sW3, k2_s, k2_r⟩ : ∃ x, (((((W2.setCell ⟨w.heap.size, 3, none⟩ (.int .i64 (t.pos : Nat))).setCell ⟨w.heap.size + 1, 0, none⟩ (.slice (some ⟨b, off, none⟩) (r.length + 1) cap)).setCell ⟨w.heap.size + 1, 1, none⟩ (.int .i64 (N : Nat))).setCell ⟨w.heap.size + 1, 2, none⟩ (.int .i64 (c : Nat))).setCell ⟨w.heap.size + 1, 3, none⟩ (.int .i64 (t.pos : Nat))) = x ∧ Since w x ∧ W2.heap.size ≤ x.heap.size ∧ Blk x (w.heap.size) 45 [.slice (some ⟨b, off, none⟩) (r.length + 1) cap, .int .i64 (N : Nat), .int .i64 (c : Nat), .int .i64 (t.pos : Nat)] ∧ Blk x (w.heap.size + 1) 45 [.slice (some ⟨b, off, none⟩) (r.length + 1) cap, .int .i64 (N : Nat), .int .i64 (c : Nat), .int .i64 (t.pos : Nat)] := ⟨_, rfl, (Since.s4 (Since.s1 bW2 (by omega)) (by omega)), by simp only [World.setCell, World.size_alloc, Array.size_modify, Nat.le_refl], (Blk.o4 (Blk.cast (Blk.set k_s 3 _) rfl) (by omega)), (Blk.cast (Blk.set (Blk.set (Blk.set (Blk.set (Blk.o1 k_r (by omega)) 0 _) 1 _) 2 _) 3 _) rfl)⟩
      rw [hW3]
      clear hW3 k_s k_r
      have k_s := k2_s
      have k_r := k2_r
      clear k2_s k2_r
      exact bodyPost_ret (results_cell_mid rfl _ _ (w.heap.size + 1) _ _ rfl k_r.range Tryd.underlying45 rfl (by kernel_rfl)) rfl ⟨rfl, bW3⟩
  · have e1 : rFail N ⟨l, E, O⟩ c = ⟨l, E, O⟩ := by unfold rFail; rw [if_pos hE]
    rw [e1]
    dsimp only
    have hne : (((E : Nat) : Int) != 0) = true := by simp [hE]
    clear hB hv e1
    go_enter Tryd.func20, Tryd.ntmps20
    go_upto_region 1 with fail
    obtain ⟨W1, hW1, bW1, sW1, k2_s, k2_r⟩ : ∃ x, ((w.alloc (.cells #[.slice p l.length cap, .int .i64 (N : Nat), .int .i64 (E : Nat), .int .i64 (O : Nat)] 45)).alloc (.cells #[.slice none 0 0, .int .i64 0, .int .i64 0, .int .i64 0] 45)) = x ∧ Since w x ∧ w.heap.size + 1 + 1 ≤ x.heap.size ∧ Blk x (w.heap.size) 45 [.slice p l.length cap, .int .i64 (N : Nat), .int .i64 (E : Nat), .int .i64 (O : Nat)] ∧ Blk x (w.heap.size + 1) 45 [.slice none 0 0, .int .i64 0, .int .i64 0, .int .i64 0] := ⟨_, rfl, (Since.alloc (Since.alloc (Since.refl w) _) _), by simp only [World.setCell, World.size_alloc, Array.size_modify, Nat.le_refl], (Blk.alloc (Blk.new' _ _ _ (rfl)) _), (Blk.new' _ _ _ (by simp only [World.size_alloc]))⟩
    rw [hW1]
    clear hW1
    have k_s := k2_s
    have k_r := k2_r
    clear k2_s k2_r
    have q_s0 := k_s.cell (i := 0) rfl
    have q_s1 := k_s.cell (i := 1) rfl
    have q_s2 := k_s.cell (i := 2) rfl
    have q_s3 := k_s.cell (i := 3) rfl
    have q_sf := k_s.free
    have q_r0 := k_r.cell (i := 0) rfl
    have q_r1 := k_r.cell (i := 1) rfl
    have q_r2 := k_r.cell (i := 2) rfl
    have q_r3 := k_r.cell (i := 3) rfl
    have q_rf := k_r.free
    go_wp2
    clear q_s0 q_s1 q_s2 q_s3 q_sf q_r0 q_r1 q_r2 q_r3 q_rf
    obtain ⟨W2, hW2, bW2, sW2, k2_s, k2_r⟩ : ∃ x, ((((W1.setCell ⟨w.heap.size + 1, 0, none⟩ (.slice p l.length cap)).setCell ⟨w.heap.size + 1, 1, none⟩ (.int .i64 (N : Nat))).setCell ⟨w.heap.size + 1, 2, none⟩ (.int .i64 (E : Nat))).setCell ⟨w.heap.size + 1, 3, none⟩ (.int .i64 (O : Nat))) = x ∧ Since w x ∧ W1.heap.size ≤ x.heap.size ∧ Blk x (w.heap.size) 45 [.slice p l.length cap, .int .i64 (N : Nat), .int .i64 (E : Nat), .int .i64 (O : Nat)] ∧ Blk x (w.heap.size + 1) 45 [.slice p l.length cap, .int .i64 (N : Nat), .int .i64 (E : Nat), .int .i64 (O : Nat)] := ⟨_, rfl, (Since.s4 bW1 (by omega)), by simp only [World.setCell, World.size_alloc, Array.size_modify, Nat.le_refl], (Blk.o4 k_s (by omega)), (Blk.cast (Blk.set (Blk.set (Blk.set (Blk.set k_r 0 _) 1 _) 2 _) 3 _) rfl)⟩
    rw [hW2]
    clear hW2 k_s k_r
    have k_s := k2_s
    have k_r := k2_r
    clear k2_s k2_r
    exact bodyPost_ret (results_cell_mid rfl _ _ (w.heap.size + 1) _ _ rfl k_r.range Tryd.underlying45 rfl (by kernel_rfl)) rfl ⟨rfl, bW2⟩

set_option maxRecDepth 100000 in
theorem ris_any (N : Nat) (s : St) (k : Nat) (x : List UInt8) (B : World) (p : Option Addr) (cap : Nat) (hv : IsSt B p cap s.left) (K : Int) (hK : K = (k : Nat)) (w : World) (hB : Below B.heap.size B w) :
    Calls Tryd.prog 21 #[.agg #[.slice p s.left.length cap, .int .i64 (N : Nat), .int .i64 (s.err : Nat), .int .i64 (s.pos : Nat)], .int .i64 K, .string ⟨x.toArray⟩] w fun e w' =>
      e = .returned (.bool (rIs s k x)) ∧ Below w.heap.size w w' := by
  obtain ⟨l, E, O⟩ := s
  subst hK
  by_cases hE : E = 0
  · subst hE
    cases l with
    | nil =>
      have e1 : rIs ⟨[], 0, O⟩ k x = false := rfl
      rw [e1]
      dsimp only
      clear hB hv
      go_enter Tryd.func21, Tryd.ntmps21
      go_upto_region 1 with fail
      obtain ⟨W1, hW1, bW1, sW1, k2_s⟩ : ∃ x, (w.alloc (.cells #[.slice p 0 cap, .int .i64 (N : Nat), .int .i64 0, .int .i64 (O : Nat)] 45)) = x ∧ Since w x ∧ w.heap.size + 1 ≤ x.heap.size ∧ Blk x (w.heap.size) 45 [.slice p 0 cap, .int .i64 (N : Nat), .int .i64 0, .int .i64 (O : Nat)] := ⟨_, rfl, (Since.alloc (Since.refl w) _), by simp only [World.setCell, World.size_alloc, Array.size_modify, Nat.le_refl], (Blk.new' _ _ _ (rfl))⟩
      rw [hW1]
      clear hW1
      have k_s := k2_s
      clear k2_s
      have q_s0 := k_s.cell (i := 0) rfl
      have q_s1 := k_s.cell (i := 1) rfl
      have q_s2 := k_s.cell (i := 2) rfl
      have q_s3 := k_s.cell (i := 3) rfl
      have q_sf := k_s.free
      go_wp2
      exact bodyPost_ret (results_tmp rfl _ _ _) rfl ⟨rfl, bW1⟩
    | cons t r =>
      obtain ⟨b, off, rfl, _, _, hb, ht⟩ := hv.head hB
      have hpos : (0 : Int) < (r.length : Int) + 1 := by omega
      have hbw : b < w.heap.size := Nat.lt_of_lt_of_le hb hB.size
      have hd : (((t.kind : Nat) : Int) == ((k : Nat) : Int)) = decide (t.kind = k) := by
        rw [beq_dec]
        exact decide_eq_decide.2 ⟨fun h => by omega, fun h => by omega⟩
      have hl : (t :: r).length = r.length + 1 := rfl
      have e1 : rIs ⟨t :: r, 0, O⟩ k x = (decide (t.kind = k) && (decide (x = []) || decide (t.text = x))) := rfl
      rw [e1]
      dsimp only
      generalize decide (t.kind = k) = d1 at *
      clear hB hv e1
      cases d1
      · go_enter Tryd.func21, Tryd.ntmps21
        go_upto_region 1 with fail
        obtain ⟨W1, hW1, bW1, sW1, k2_s⟩ : ∃ x, (w.alloc (.cells #[.slice (some ⟨b, off, none⟩) (r.length + 1) cap, .int .i64 (N : Nat), .int .i64 0, .int .i64 (O : Nat)] 45)) = x ∧ Since w x ∧ w.heap.size + 1 ≤ x.heap.size ∧ Blk x (w.heap.size) 45 [.slice (some ⟨b, off, none⟩) (r.length + 1) cap, .int .i64 (N : Nat), .int .i64 0, .int .i64 (O : Nat)] := ⟨_, rfl, (Since.alloc (Since.refl w) _), by simp only [World.setCell, World.size_alloc, Array.size_modify, Nat.le_refl], (Blk.new' _ _ _ (rfl))⟩
        rw [hW1]
        clear hW1
        have k_s := k2_s
        clear k2_s
        have q_s0 := k_s.cell (i := 0) rfl
        have q_s1 := k_s.cell (i := 1) rfl
        have q_s2 := k_s.cell (i := 2) rfl
        have q_s3 := k_s.cell (i := 3) rfl
        have q_sf := k_s.free
        have hp0 := (World.cell?_of_block (w := w) (bW1.block b hbw)).trans ht.kind
        go_wp2
        exact bodyPost_ret (results_tmp rfl _ _ _) rfl ⟨rfl, bW1⟩
      · by_cases hx0 : x = []
        · subst hx0
          go_enter Tryd.func21, Tryd.ntmps21
          go_upto_region 1 with fail
          obtain ⟨W1, hW1, bW1, sW1, k2_s⟩ : ∃ x, (w.alloc (.cells #[.slice (some ⟨b, off, none⟩) (r.length + 1) cap, .int .i64 (N : Nat), .int .i64 0, .int .i64 (O : Nat)] 45)) = x ∧ Since w x ∧ w.heap.size + 1 ≤ x.heap.size ∧ Blk x (w.heap.size) 45 [.slice (some ⟨b, off, none⟩) (r.length + 1) cap, .int .i64 (N : Nat), .int .i64 0, .int .i64 (O : Nat)] := ⟨_, rfl, (Since.alloc (Since.refl w) _), by simp only [World.setCell, World.size_alloc, Array.size_modify, Nat.le_refl], (Blk.new' _ _ _ (rfl))⟩
          rw [hW1]
          clear hW1
          have k_s := k2_s
          clear k2_s
          have q_s0 := k_s.cell (i := 0) rfl
          have q_s1 := k_s.cell (i := 1) rfl
          have q_s2 := k_s.cell (i := 2) rfl
          have q_s3 := k_s.cell (i := 3) rfl
          have q_sf := k_s.free
          have hp0 := (World.cell?_of_block (w := w) (bW1.block b hbw)).trans ht.kind
          go_wp2
          exact bodyPost_ret (results_tmp rfl _ _ _) rfl ⟨rfl, bW1⟩
        · have hx : ((⟨x.toArray⟩ : ByteArray) == ⟨#[]⟩) = false := by
            show (x.toArray == #[]) = _
            simp [hx0]
          have hx9 : ¬ (⟨x.toArray⟩ : ByteArray).toList = [] := by rw [ByteArray.toList_eq]; simpa using hx0
          have hq : ((⟨t.text.toArray⟩ : ByteArray).toList == (⟨x.toArray⟩ : ByteArray).toList) = decide (t.text = x) := by
            rw [ByteArray.toList_eq, ByteArray.toList_eq]
            show (t.text.toArray.toList == x.toArray.toList) = _
            by_cases h : t.text = x <;> simp [h]
          have e2 : (true && (decide (x = []) || decide (t.text = x))) = decide (t.text = x) := by simp [hx0]
          rw [e2]
          generalize decide (t.text = x) = d3 at *
          have HX7 : Hid ((⟨x.toArray⟩ : ByteArray).toList.isEmpty = false) := Lib.hid (by rw [ByteArray.toList_eq]; simpa using hx0)
          have HQ7 : Hid (((⟨t.text.toArray⟩ : ByteArray).toList == (⟨x.toArray⟩ : ByteArray).toList) = d3) := Lib.hid hq
          clear e2 hx0 hq hx
          have ht1 := ht.text
          generalize (⟨t.text.toArray⟩ : ByteArray) = T at *
          generalize (⟨x.toArray⟩ : ByteArray) = X at *
          go_enter Tryd.func21, Tryd.ntmps21
          go_upto_region 1 with fail
          obtain ⟨W1, hW1, bW1, sW1, k2_s⟩ : ∃ x, (w.alloc (.cells #[.slice (some ⟨b, off, none⟩) (r.length + 1) cap, .int .i64 (N : Nat), .int .i64 0, .int .i64 (O : Nat)] 45)) = x ∧ Since w x ∧ w.heap.size + 1 ≤ x.heap.size ∧ Blk x (w.heap.size) 45 [.slice (some ⟨b, off, none⟩) (r.length + 1) cap, .int .i64 (N : Nat), .int .i64 0, .int .i64 (O : Nat)] := ⟨_, rfl, (Since.alloc (Since.refl w) _), by simp only [World.setCell, World.size_alloc, Array.size_modify, Nat.le_refl], (Blk.new' _ _ _ (rfl))⟩
          rw [hW1]
          clear hW1
          have k_s := k2_s
          clear k2_s
          have q_s0 := k_s.cell (i := 0) rfl
          have q_s1 := k_s.cell (i := 1) rfl
          have q_s2 := k_s.cell (i := 2) rfl
          have q_s3 := k_s.cell (i := 3) rfl
          have q_sf := k_s.free
          have hp0 := (World.cell?_of_block (w := w) (bW1.block b hbw)).trans ht.kind
          have hp1 := (World.cell?_of_block (w := w) (bW1.block b hbw)).trans ht1
          go_wp2
          exact bodyPost_ret (results_tmp rfl _ _ _) rfl ⟨by show Ending.returned (.bool (X.toList.isEmpty || T.toList == X.toList)) = _; rw [HX7.out, HQ7.out]; rfl, bW1⟩
  · have e1 : rIs ⟨l, E, O⟩ k x = false := by unfold rIs; simp [hE]
    rw [e1]
    dsimp only
    have hne : (((E : Nat) : Int) == 0) = false := by simp [hE]
    clear hB hv e1
    go_enter Tryd.func21, Tryd.ntmps21
    go_upto_region 1 with fail
    obtain ⟨W1, hW1, bW1, sW1, k2_s⟩ : ∃ x, (w.alloc (.cells #[.slice p l.length cap, .int .i64 (N : Nat), .int .i64 (E : Nat), .int .i64 (O : Nat)] 45)) = x ∧ Since w x ∧ w.heap.size + 1 ≤ x.heap.size ∧ Blk x (w.heap.size) 45 [.slice p l.length cap, .int .i64 (N : Nat), .int .i64 (E : Nat), .int .i64 (O : Nat)] := ⟨_, rfl, (Since.alloc (Since.refl w) _), by simp only [World.setCell, World.size_alloc, Array.size_modify, Nat.le_refl], (Blk.new' _ _ _ (rfl))⟩
    rw [hW1]
    clear hW1
    have k_s := k2_s
    clear k2_s
    have q_s0 := k_s.cell (i := 0) rfl
    have q_s1 := k_s.cell (i := 1) rfl
    have q_s2 := k_s.cell (i := 2) rfl
    have q_s3 := k_s.cell (i := 3) rfl
    have q_sf := k_s.free
    go_wp2
    exact bodyPost_ret (results_tmp rfl _ _ _) rfl ⟨rfl, bW1⟩
end Go.Proofs.YtlfjdohjfmfcdabDoor
