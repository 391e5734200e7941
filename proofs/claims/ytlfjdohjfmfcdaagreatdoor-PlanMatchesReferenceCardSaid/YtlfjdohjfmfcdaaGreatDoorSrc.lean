/-
  A text with the classes of all bytes, in memory; a text's byte, and the rest from there on.
-/
import Derived.Test.YtlfjdohjfmfcdaaGreatDoorBase
import Derived.Test.YtlfjdohjfmfcdaaGreatDoorMid
import Derived.Laws.ResultCell
import Derived.Laws.IdiomCopy
import Derived.Test.YtlfjdohjfmfcdaaGreatDoorMathLexer
namespace Go.Proofs.YtlfjdohjfmfcdaaGreatDoor
open Go.RowKit Foyer.Lexer

structure Src (w : World) (b : Nat) (t : ByteArray) : Prop where
  text : w.cell? ⟨b, 0, none⟩ = some (.string t)
  at_ : ∀ c : UInt8, w.cell? ⟨b, 1 + c.toNat, none⟩ = some (.int .i64 (cls c : Nat))
theorem Src.lt {w : World} {b : Nat} {t : ByteArray} (h : Src w b t) : b < w.heap.size := lt_of_cell h.text
theorem Src.below {w w' : World} {b B : Nat} {t : ByteArray} (h : Src w b t) (hB : b < B) (hb : Below B w w') : Src w' b t :=
  ⟨by rw [hb.cell hB]; exact h.text, fun c => by rw [hb.cell hB]; exact h.at_ c⟩
theorem Src.since {w w' : World} {b : Nat} {t : ByteArray} (h : Src w b t) (hb : Below w.heap.size w w') : Src w' b t := h.below h.lt hb
theorem Src.drewN {w : World} {b : Nat} {t : ByteArray} (h : Src w b t) (n : Nat) : Src (w.drewN n) b t := ⟨h.text, h.at_⟩

theorem drop_byte (t : ByteArray) (k : Nat) (h : k < t.size) : t.data.toList.drop k = t[k] :: t.data.toList.drop (k + 1) := by
  have hl : k < t.data.toList.length := by simpa using h
  rw [List.drop_eq_getElem_cons hl]; simp [ByteArray.getElem_eq_getElem_data]
theorem drop_end (t : ByteArray) (k : Nat) (h : t.size ≤ k) : t.data.toList.drop k = [] := List.drop_eq_nil_of_le (by simpa using h)
/-! ### A token as a result -/
theorem results_tok {fn : Func} {p : Tmp} (h : fn.results = #[.cell p 67]) (tmps : Array Value) (w : World) (b : Nat) (c0 c1 c2 c3 : Value)
    (hp : tmps.getD p undef = .pointer (some ⟨b, 0, none⟩)) (hc : w.rangeAt b 0 [c0, c1, c2, c3]) :
    (results fn tmps).run Tryz.prog w = .ok (.agg #[c0, c1, c2, c3]) w :=
  results_cell_mid h tmps w b [c0, c1, c2, c3] _ hp hc Tryz.underlying67 rfl (by kernel_rfl)
theorem results_tok2 {fn : Func} {p u : Tmp} (h : fn.results = #[.cell p 67, .tmp u]) (tmps : Array Value) (w : World) (b : Nat) (c0 c1 c2 c3 v : Value)
    (hp : tmps.getD p undef = .pointer (some ⟨b, 0, none⟩)) (hu : tmps.getD u undef = v) (hc : w.rangeAt b 0 [c0, c1, c2, c3]) :
    (results fn tmps).run Tryz.prog w = .ok (.tuple #[.agg #[c0, c1, c2, c3], v]) w := by
  rw [results_cell_tmp h, hp, hu]
  simp only [asAddr, Sem.run_pure, Result.andThen_ok]
  rw [run_loadVar_mid w b 0 67 [c0, c1, c2, c3] _ hc Tryz.underlying67 rfl (by kernel_rfl)]
  rfl
theorem range_four {w : World} {b : Nat} {c0 c1 c2 c3 : Value} (h0 : w.cell? ⟨b, 0, none⟩ = some c0) (h1 : w.cell? ⟨b, 1, none⟩ = some c1) (h2 : w.cell? ⟨b, 2, none⟩ = some c2) (h3 : w.cell? ⟨b, 3, none⟩ = some c3) : w.rangeAt b 0 [c0, c1, c2, c3] := by
  intro j v hv
  match j, hv with
  | 0, hv => simp at hv; rw [← hv]; exact h0
  | 1, hv => simp at hv; rw [← hv]; exact h1
  | 2, hv => simp at hv; rw [← hv]; exact h2
  | 3, hv => simp at hv; rw [← hv]; exact h3
  | j + 4, hv => simp at hv
/-! ### Four cells that may be written -/
structure Four (w : World) (b : Nat) : Prop where
  cell : ∀ j, j < 4 → ∃ c, w.cell? ⟨b, j, none⟩ = some c
  free : ∀ j, j < 4 → w.frozen? ⟨b, j, none⟩ = false
theorem Four.below {w w' : World} {b B : Nat} (h : Four w b) (hB : b < B) (hb : Below B w w') : Four w' b :=
  ⟨fun j hj => by rw [hb.cell hB]; exact h.cell j hj, fun j hj => by rw [hb.frozen hB]; exact h.free j hj⟩
theorem Four.new (w : World) (c0 c1 c2 c3 : Value) (T : TypeId) : Four (w.alloc (.cells #[c0, c1, c2, c3] T)) w.heap.size :=
  ⟨fun j hj => by
    match j, hj with
    | 0, _ => exact ⟨c0, by simp⟩
    | 1, _ => exact ⟨c1, by simp⟩
    | 2, _ => exact ⟨c2, by simp⟩
    | 3, _ => exact ⟨c3, by simp⟩, fun j _ => by simp⟩
theorem Four.facts {w : World} {b : Nat} (h : Four w b) : (∃ d0 d1 d2 d3, w.cell? ⟨b, 0, none⟩ = some d0 ∧ w.cell? ⟨b, 1, none⟩ = some d1 ∧ w.cell? ⟨b, 2, none⟩ = some d2 ∧ w.cell? ⟨b, 3, none⟩ = some d3) ∧ w.frozen? ⟨b, 0, none⟩ = false ∧ w.frozen? ⟨b, 1, none⟩ = false ∧ w.frozen? ⟨b, 2, none⟩ = false ∧ w.frozen? ⟨b, 3, none⟩ = false := by
  obtain ⟨d0, h0⟩ := h.cell 0 (by decide)
  obtain ⟨d1, h1⟩ := h.cell 1 (by decide)
  obtain ⟨d2, h2⟩ := h.cell 2 (by decide)
  obtain ⟨d3, h3⟩ := h.cell 3 (by decide)
  exact ⟨⟨d0, d1, d2, d3, h0, h1, h2, h3⟩, h.free 0 (by decide), h.free 1 (by decide), h.free 2 (by decide), h.free 3 (by decide)⟩
theorem Four.drewN {w : World} {b : Nat} (h : Four w b) (n : Nat) : Four (w.drewN n) b := ⟨h.cell, h.free⟩
theorem Four.set {w : World} {b : Nat} (h : Four w b) (a : Addr) (v : Value) : Four (w.setCell a v) b :=
  ⟨fun j hj => by
    obtain ⟨c, hc⟩ := h.cell j hj
    exact cell?_setCell_some hc, fun j hj => by rw [World.frozen?_setCell]; exact h.free j hj⟩
/-- The four cells, written. -/
abbrev set4 (w : World) (b : Nat) (c0 c1 c2 c3 : Value) : World := (((w.setCell ⟨b, 0, none⟩ c0).setCell ⟨b, 1, none⟩ c1).setCell ⟨b, 2, none⟩ c2).setCell ⟨b, 3, none⟩ c3
theorem Four.range {w : World} {b : Nat} (h : Four w b) (c0 c1 c2 c3 : Value) : (set4 w b c0 c1 c2 c3).rangeAt b 0 [c0, c1, c2, c3] := by
  intro j v hv
  have e := World.cell?_setCells_in b [c0, c1, c2, c3] 0 w (fun j hj => by
    rw [Nat.zero_add]; obtain ⟨c, hc⟩ := h.cell j hj
    rw [hc]; rfl) j (by rcases Nat.lt_or_ge j 4 with h | h
                        · exact h
                        · rw [List.getElem?_eq_none h] at hv; cases hv)
  have hv2 := (List.getElem?_eq_some_iff.1 hv).2
  rw [hv2] at e
  exact e
theorem since_set4 {w w2 : World} {b : Nat} (h : Since w w2) (hb : w.heap.size ≤ b) (c0 c1 c2 c3 : Value) : Since w (set4 w2 b c0 c1 c2 c3) :=
  (((Below.setCell h (p := ⟨b, 0, none⟩) hb c0).setCell (p := ⟨b, 1, none⟩) hb c1).setCell (p := ⟨b, 2, none⟩) hb c2).setCell (p := ⟨b, 3, none⟩) hb c3
end Go.Proofs.YtlfjdohjfmfcdaaGreatDoor
