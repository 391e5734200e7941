/-
  The walk of Parse.
-/
import Derived.Test.YtlfjdohjfmfcdabDoorWalkRules
import Derived.Test.YtlfjdohjfmfcdabDoorMathTexts
namespace Go.Proofs.YtlfjdohjfmfcdabDoor
open Go.RowKit Go.Sort Go.Shelf Foyer.Rule Foyer.Round

/-- What Parse returns. -/
def RuleV (n : Nat) (x : List ItemP × Nat × Int) (e : Ending) (w' : World) : Prop := ∃ v, e = .returned (.tuple #[.agg #[v], .int .i64 (x.2.1 : Nat), .int .i64 x.2.2]) ∧ IsList itemK w' (fun k => n ≤ k) 38 v x.1
theorem parseAll_ok {l : List UInt8} (h : (Foyer.Lexer.lexAll l).2.1 = 0) : parseAll l = ((parseToks (Foyer.Lexer.lexAll l).1 l.length).1, (parseToks (Foyer.Lexer.lexAll l).1 l.length).2.1, (((parseToks (Foyer.Lexer.lexAll l).1 l.length).2.2 : Nat) : Int)) := by unfold parseAll; rw [if_pos h]
theorem results_rule (tmps : Array Value) (W : World) (hb : Nat) (c0 : Value) (h : Blk W hb 25 [c0]) (h2 : tmps.getD 2 undef = .pointer (some ⟨hb, 0, none⟩)) :
    (results Tryd.f5 tmps).run Tryd.prog W = .ok (.tuple #[.agg #[c0], tmps.getD 3 undef, tmps.getD 4 undef]) W := by
  have e0 := h.cell (i := 0) rfl
  have h2' : tmps[2]?.getD undef = .pointer (some ⟨hb, 0, none⟩) := by simpa using h2
  simp [results, Tryd.results5, h2', e0, go_sem]
theorem setCells_heap (W : World) (b : Nat) (vs : List Value) {k : Nat} (hlt : k < W.heap.size) (hk : k ≠ b) : (W.setCells b 0 vs).heap[k]? = W.heap[k]? :=
  (Kp.setCells (E := fun j => j = b) (p := b) (Or.inl rfl) vs 0 W (Kp.refl _ _)).block k hlt hk
set_option maxRecDepth 100000 in
set_option maxHeartbeats 2000000 in
theorem rule_any (t : ByteArray) (ht : t.size ≤ 1000000) (w : World) : Calls Tryd.prog 5 #[.string t] w fun e w' => RuleV w.heap.size (parseAll t.data.toList) e w' ∧ Below w.heap.size w w' := by
  have hsh : ∀ u ∈ (Foyer.Lexer.lexAll t.data.toList).1, u.text.length ≤ 1000000 := fun u hu => Nat.le_trans (lexAll_short _ u hu).1 (by decide)
  have R0 := Lib.hid (Blk.new w 25 [.slice none 0 0])
  have hsz : t.size = t.data.toList.length := by rw [Array.length_toList]; rfl
  have B0 : Hid (Kp (fun _ => False) w (w.alloc (.cells #[.slice none 0 0] 25))) := Lib.hid ((Kp.refl _ _).alloc _)
  have hs0 : w.heap.size < (w.alloc (.cells #[.slice none 0 0] 25)).heap.size := by simp
  have HSZ := Lib.hid hsz
  clear hsz
  go_enter Tryd.func5, Tryd.ntmps5
  go_wp2_with fail
  refine (lex_any t ht _).mono ?_
  rintro e w1 ⟨p, cap, rfl, hr, hc, hm, hb1⟩
  have kb : Kp (fun _ => False) _ w1 := Kp.of_below hb1
  have R1 := Lib.hid (R0.out.kept kb (fun h => h)); have B1 := Lib.hid (B0.out.trans kb); have hs1 := Nat.lt_of_lt_of_le hs0 hb1.size
  have z0 := R1.out.cell (i := 0) rfl
  have zf := R1.out.free
  have HR := Lib.hid hr; have HC := Lib.hid hc; have HM := Lib.hid hm; have HSH := Lib.hid hsh
  obtain ⟨ts, hts⟩ : ∃ ts, (Foyer.Lexer.lexAll t.data.toList).1 = ts := ⟨_, rfl⟩
  obtain ⟨E, hE⟩ : ∃ E, (Foyer.Lexer.lexAll t.data.toList).2.1 = E := ⟨_, rfl⟩
  obtain ⟨O, hO⟩ : ∃ O, (Foyer.Lexer.lexAll t.data.toList).2.2 = O := ⟨_, rfl⟩
  clear hr hc hm hb1 kb R0 B0 hs0 hsh
  by_cases h0 : E = 0
  · have hp := parseAll_ok (hE.trans h0)
    rw [hts] at hp
    have HP := Lib.hid hp; have hne : (((E : Nat) : Int) != 0) = false := by simp [h0]
    rw [hts] at HR HC HSH
    rw [hts, hE, hO]
    clear hts hE hO hp h0
    rw [← HSZ.out] at HP
    go_wp2_with fail
    refine (toks_any ts p ts.length cap t.size w1 HR.out rfl HC.out HM.out.1 HM.out.2 HSH.out).mono ?_
    rintro e w2 ⟨⟨v, rfl, hv⟩, hk⟩
    obtain ⟨sa, sn, sc, rfl⟩ := hv.slice
    have hz2 := hk.size
    have r2 := R1.out.kept hk (fun h => h)
    have y0 := r2.cell (i := 0) rfl
    have yf := r2.free
    have R2 := Lib.hid r2; have HV := Lib.hid hv; have B2 := Lib.hid (B1.out.trans hk)
    clear z0 zf HR HC HM R1 B1 r2 hv hk HSH
    go_wp2
    rw [setCells_one]
    refine bodyPost_ret (results_rule _ _ w.heap.size _ (R2.out.whole (vs := [.slice sa sn sc]) rfl) rfl) rfl ?_
    refine ⟨?_, (B2.out.result (b := w.heap.size) (Nat.le_refl _) _).below (Nat.le_refl _) (fun k hk => hk.elim)⟩
    rw [HP.out]
    refine ⟨_, rfl, ?_⟩
    exact (HV.out.kept (fun k hk hlt => setCells_heap w2 w.heap.size _ hlt (by have : w1.heap.size ≤ k := hk; omega))).mono (fun k hk _ => by have : w1.heap.size ≤ k := hk; omega)
  · have hp := lex_code (fun h => h0 (hE.symm.trans h))
    rw [hE, hO] at hp
    have HP := Lib.hid hp; have hne : (((E : Nat) : Int) != 0) = true := by simp [h0]
    rw [hts, hE, hO]
    clear hts hE hO hp h0
    go_wp2
    rw [setCells_one]
    refine bodyPost_ret (results_rule _ _ w.heap.size _ (R1.out.whole (vs := [.slice none 0 0]) rfl) rfl) rfl ?_
    refine ⟨?_, (B1.out.result (b := w.heap.size) (Nat.le_refl _) _).below (Nat.le_refl _) (fun k hk => hk.elim)⟩
    rw [HP.out]
    exact ⟨_, rfl, nil_is _ _ _ _⟩
/-- A text's rules, under names. -/
theorem rule_c (t : ByteArray) (ht : t.size ≤ 1000000) (xs : List ItemP) (E : Nat) (O : Int) (h : parseAll t.data.toList = (xs, E, O)) (w : World) :
    Calls Tryd.prog 5 #[.string t] w fun e w' => ∃ v, e = .returned (.tuple #[.agg #[v], .int .i64 (E : Nat), .int .i64 O]) ∧ IsList itemK w' (fun k => w.heap.size ≤ k) 38 v xs ∧ Below w.heap.size w w' := by
  refine (rule_any t ht w).mono ?_
  rintro e w' ⟨⟨v, rfl, hv⟩, hb⟩
  rw [h] at hv ⊢
  exact ⟨v, rfl, hv, hb⟩
end Go.Proofs.YtlfjdohjfmfcdabDoor
