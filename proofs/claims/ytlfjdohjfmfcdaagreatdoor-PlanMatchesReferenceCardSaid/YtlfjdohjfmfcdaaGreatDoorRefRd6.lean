/-
  The document's own reader of plans: what looks at the next token, and what notes an error.
-/
import Derived.Test.YtlfjdohjfmfcdaaGreatDoorSteps
import Derived.Test.YtlfjdohjfmfcdaaGreatDoorMathRef6
import Derived.Test.YtlfjdohjfmfcdaaGreatDoorWalkTake
import Derived.StillTailTactics
namespace Go.Proofs.YtlfjdohjfmfcdaaGreatDoor
open Go.RowKit Go.Sort Foyer.Plan
set_option linter.unusedSimpArgs false

/-- The tokens of a base world. -/
structure IsLs (B : World) (p : Option Addr) (cap : Nat) (Ls : List Foyer.Lexer.Tok) : Prop where
  at_ : Ls = [] ∨ ∃ b off, p = some ⟨b, off, none⟩ ∧ b < B.heap.size ∧ ∀ j t, Ls[j]? = some t → TokAt B b (off + j * 4) t
  le : Ls.length ≤ cap
  most : cap ≤ maxLen
  short : ∀ t ∈ Ls, t.text.length ≤ 1000000
  few : Ls.length ≤ 5000
theorem IsLs.tok {B w : World} {p : Option Addr} {cap rb : Nat} {Ls : List Foyer.Lexer.Tok} (h : IsLs B p cap Ls) (hB : Below B.heap.size B w) (_ : B.heap.size ≤ rb) {i : Nat} {t : Foyer.Lexer.Tok} {r : List Foyer.Lexer.Tok} (hd : Ls.drop i = t :: r) :
    ∃ b off, p = some ⟨b, off, none⟩ ∧ i < Ls.length ∧ TokAt w b (off + i * 4) t := by
  have hlt : i < Ls.length := by
    rcases Nat.lt_or_ge i Ls.length with h | h
    · exact h
    · rw [List.drop_eq_nil_of_le h] at hd; cases hd
  have ht : Ls[i]? = some t := by
    have := List.drop_eq_getElem_cons hlt
    rw [this] at hd
    cases hd
    exact List.getElem?_eq_getElem hlt
  rcases h.at_ with e | ⟨b, off, rfl, hb, hc⟩
  · subst e; simp at hlt
  · refine ⟨b, off, rfl, hlt, ?_⟩
    exact (hc i t ht).kept (E := fun k => B.heap.size ≤ k) ⟨hB.os, hB.tape, hB.output, hB.size, fun k hk _ => hB.block k hk⟩ (fun e => by have e' : B.heap.size ≤ b := e; omega)
/-- The base world's blocks behind what a reader does. -/
theorem Below.kp {B w W : World} {rb : Nat} (hB : Below B.heap.size B w) (hrb : B.heap.size ≤ rb) (k : Kp (onlyB rb) w W) : Below B.heap.size B W := hB.trans (k.below hB.size (fun j h => by have e : j = rb := h; omega))
def E5 (rb base : Nat) (k : Nat) : Prop := k = rb ∨ base ≤ k
theorem Below.kp5 {B w W : World} {rb base : Nat} (hB : Below B.heap.size B w) (hrb : B.heap.size ≤ rb) (hbs : B.heap.size ≤ base) (k : Kp (E5 rb base) w W) : Below B.heap.size B W := hB.trans (k.below hB.size (fun j h => by rcases h with e | e <;> omega))
theorem drop_nil {Ls : List Foyer.Lexer.Tok} {i : Nat} (h : Ls.drop i = []) (hi : i ≤ Ls.length) : i = Ls.length := by
  have := congrArg List.length h
  rw [List.length_drop] at this
  simp at this; omega
theorem drop_next {Ls r : List Foyer.Lexer.Tok} {i : Nat} {t : Foyer.Lexer.Tok} (h : Ls.drop i = t :: r) : r = Ls.drop (i + 1) := by
  have := congrArg (List.drop 1) h
  rw [List.drop_drop] at this
  exact this.symm
theorem results_none {P : Program} {fn : Func} (h : fn.results = #[]) (tmps : Array Value) (w : World) : (results fn tmps).run P w = .ok (.tuple #[]) w := by
  simp [results, h]
theorem Kp.drewN {E : Nat → Prop} {a b : World} (h : Kp E a b) (n : Nat) : Kp E a (b.drewN n) := ⟨h.os, h.tape, h.output, h.size, h.block⟩
theorem ba_beq6 (a b : List UInt8) : ((⟨a.toArray⟩ : ByteArray) == ⟨b.toArray⟩) = decide (a = b) := by
  show (a.toArray == b.toArray) = _
  by_cases h : a = b <;> simp [h]
set_option maxRecDepth 100000 in
theorem dfail_any (B : World) (N : Nat) (Ls : List Foyer.Lexer.Tok) (p : Option Addr) (cap : Nat) (hL : IsLs B p cap Ls) (rb : Nat) (s : St) (i : Nat) (hI : s.left = Ls.drop i) (hi : i ≤ Ls.length) (w : World) (hB : Below B.heap.size B w) (hrb : B.heap.size ≤ rb) (hR : Blk w rb 57 [.slice p Ls.length cap, .int .i64 (i : Nat), .int .i64 (s.err : Nat), .int .i64 (s.pos : Nat), .int .i64 (N : Nat)]) :
    Calls Tryz.prog 16 #[.pointer (some ⟨rb, 0, none⟩)] w fun e w' => e = .returned (.tuple #[]) ∧ Blk w' rb 57 [.slice p Ls.length cap, .int .i64 (i : Nat), .int .i64 ((rFail N s).err : Nat), .int .i64 ((rFail N s).pos : Nat), .int .i64 (N : Nat)] ∧ (rFail N s).left = Ls.drop i ∧ Kp (onlyB rb) w w' := by
  obtain ⟨l, E, O⟩ := s
  dsimp only at hI hR
  have q0 := hR.cell (i := 0) rfl
  have q1 := hR.cell (i := 1) rfl
  have q2 := hR.cell (i := 2) rfl
  have q3 := hR.cell (i := 3) rfl
  have q4 := hR.cell (i := 4) rfl
  have qf := hR.free
  by_cases hE : E = 0
  · subst hE
    cases l with
    | nil =>
      have e1 : rFail N ⟨[], 0, O⟩ = ⟨[], 7, N⟩ := rfl
      rw [e1]
      dsimp only
      have hi2 := drop_nil hI.symm hi
      subst hi2
      clear hi
      have HR := Lib.hid hR; have HI := Lib.hid hI
      clear hB hR hI
      go_enter Tryz.func16, Tryz.ntmps16
      go_upto_region 1 with fail
      go_quiet (fail)
      go_wp2
      exact bodyPost_end (results_none rfl _ _) rfl ⟨rfl, Blk.cast ((HR.out.set 2 _).set 3 _) rfl, HI.out, (((Kp.refl (onlyB rb) w).drewN _).setOld rb 2 rfl _).setOld rb 3 rfl _⟩
    | cons t r =>
      obtain ⟨b, off, hpe, hlt, ht⟩ := hL.tok hB hrb hI.symm
      subst hpe
      have hix : (0 : Int) ≤ (i : Int) ∧ (i : Int) < (Ls.length : Int) := by omega
      have t_pos := ht.pos
      have e1 : rFail N ⟨t :: r, 0, O⟩ = ⟨t :: r, 4, t.pos⟩ := rfl
      rw [e1]
      dsimp only
      have hil : (i : Int) < (Ls.length : Int) := by omega
      have HR := Lib.hid hR; have HI := Lib.hid hI; have HT := Lib.hid ht; have HB := Lib.hid hB
      have hbr : b ≠ rb := fun e => by
        have h0 := lt_of_cell t_pos
        rcases hL.at_ with h | ⟨b', off', e2, hb, _⟩
        · rw [h] at hlt; simp at hlt
        · cases e2; omega
      clear hB hR hI ht
      go_enter Tryz.func16, Tryz.ntmps16
      go_upto_region 1 with fail
      go_quiet (fail)
      go_upto_region 3 with fail
      have HR2 : Hid (Blk ((w.drewN nq).setCell ⟨rb, 2, none⟩ (.int .i64 4)) rb 57 [.slice (some ⟨b, off, none⟩) Ls.length cap, .int .i64 (i : Nat), .int .i64 4, .int .i64 (O : Nat), .int .i64 (N : Nat)]) := Lib.hid (Blk.cast (Blk.set (show Blk (w.drewN nq) _ _ _ from HR.out) 2 (.int .i64 4)) rfl)
      have HK2 : Hid (Kp (onlyB rb) w ((w.drewN nq).setCell ⟨rb, 2, none⟩ (.int .i64 4))) := Lib.hid (((Kp.refl (onlyB rb) w).drewN nq).setOld rb 2 rfl _)
      have HT2 := Lib.hid (HT.out.kept HK2.out (fun e => hbr e))
      clear q0 q1 q2 q3 q4 qf t_pos
      obtain ⟨w2, hw2⟩ : ∃ x, (w.drewN nq).setCell ⟨rb, 2, none⟩ (.int .i64 4) = x := ⟨_, rfl⟩
      rw [hw2] at HR2 HK2 HT2 ⊢
      clear hw2
      have q0 := HR2.out.cell (i := 0) rfl
      have q1 := HR2.out.cell (i := 1) rfl
      have q3 := HR2.out.cell (i := 3) rfl
      have qf := HR2.out.free
      have t_pos := HT2.out.pos
      go_still_tail 14, (by kernel_rfl)
      change wpList _ _ _ _ _ w2.drew
      have HR3 : Hid (Blk w2.drew rb 57 [.slice (some ⟨b, off, none⟩) Ls.length cap, .int .i64 (i : Nat), .int .i64 4, .int .i64 (O : Nat), .int .i64 (N : Nat)]) := Lib.hid HR2.out
      have HK3 : Hid (Kp (onlyB rb) w w2.drew) := Lib.hid HK2.out.drew
      clear q0 q1 q3 qf t_pos HR2 HK2 HT2
      obtain ⟨w3, hw3⟩ : ∃ x, w2.drew = x := ⟨_, rfl⟩
      rw [hw3] at HR3 HK3 ⊢
      clear hw3
      have q3 := HR3.out.cell (i := 3) rfl
      have qf := HR3.out.free
      go_wp2
      exact bodyPost_end (results_none rfl _ _) rfl ⟨rfl, Blk.cast (HR3.out.set 3 _) rfl, HI.out, HK3.out.setOld rb 3 rfl _⟩
  · have e1 : rFail N ⟨l, E, O⟩ = ⟨l, E, O⟩ := by unfold rFail; rw [if_pos hE]
    rw [e1]
    dsimp only
    have hne : (((E : Nat) : Int) != 0) = true := by simp [hE]
    have HR := Lib.hid hR; have HI := Lib.hid hI
    clear hB hR hI
    go_enter Tryz.func16, Tryz.ntmps16
    go_wp2
    exact bodyPost_ret (results_none rfl _ _) rfl ⟨rfl, HR.out, HI.out, Kp.refl _ _⟩
set_option maxRecDepth 100000 in
theorem dsees_any (x : List UInt8) (B : World) (N : Nat) (Ls : List Foyer.Lexer.Tok) (p : Option Addr) (cap : Nat) (hL : IsLs B p cap Ls) (rb : Nat) (s : St) (i : Nat) (hI : s.left = Ls.drop i) (hi : i ≤ Ls.length) (w : World) (hB : Below B.heap.size B w) (hrb : B.heap.size ≤ rb) (hR : Blk w rb 57 [.slice p Ls.length cap, .int .i64 (i : Nat), .int .i64 (s.err : Nat), .int .i64 (s.pos : Nat), .int .i64 (N : Nat)]) :
    Calls Tryz.prog 14 #[.pointer (some ⟨rb, 0, none⟩), .string ⟨x.toArray⟩] w fun e w' => e = .returned (.bool (rSees s x)) ∧ Below w.heap.size w w' := by
  obtain ⟨l, E, O⟩ := s
  dsimp only at hI hR
  have q0 := hR.cell (i := 0) rfl
  have q1 := hR.cell (i := 1) rfl
  have q2 := hR.cell (i := 2) rfl
  have q3 := hR.cell (i := 3) rfl
  have q4 := hR.cell (i := 4) rfl
  have qf := hR.free
  by_cases hE : E = 0
  · subst hE
    cases l with
    | nil =>
      have e1 : rSees ⟨[], 0, O⟩ x = false := rfl
      rw [e1]
      have hi2 := drop_nil hI.symm hi
      subst hi2
      clear hi hB hR hI
      go_enter Tryz.func14, Tryz.ntmps14
      go_upto_region 1 with fail
      go_quiet (fail)
      go_wp2
      exact bodyPost_ret (results_tmp rfl _ _ _) rfl ⟨rfl, below_drewN (Below.refl _ _) _⟩
    | cons t r =>
      obtain ⟨b, off, hpe, hlt, ht⟩ := hL.tok hB hrb hI.symm
      subst hpe
      have hix : (0 : Int) ≤ (i : Int) ∧ (i : Int) < (Ls.length : Int) := by omega
      have t_kind := ht.kind
      have t_text := ht.text
      have e1 : rSees ⟨t :: r, 0, O⟩ x = (decide (t.kind ≠ 2) && decide (t.text = x)) := rfl
      rw [e1]
      have hd : (((t.kind : Nat) : Int) != 2) = decide (t.kind ≠ 2) := by
        by_cases h : t.kind = 2 <;> simp [h]
        omega
      have hq : ((⟨t.text.toArray⟩ : ByteArray).toList == (⟨x.toArray⟩ : ByteArray).toList) = decide (t.text = x) := by
        rw [ByteArray.toList_eq, ByteArray.toList_eq]
        show (t.text.toArray.toList == x.toArray.toList) = _
        by_cases h : t.text = x <;> simp [h]
      have hq2 : ((⟨t.text.toArray⟩ : ByteArray) == ⟨x.toArray⟩) = decide (t.text = x) := ba_beq6 _ _
      generalize decide (t.text = x) = d3 at *
      generalize decide (t.kind ≠ 2) = d2 at *
      have hil : (i : Int) < (Ls.length : Int) := by omega
      clear hB hR hI ht e1
      generalize (⟨t.text.toArray⟩ : ByteArray) = T at *
      generalize (⟨x.toArray⟩ : ByteArray) = X at *
      cases d2
      · go_enter Tryz.func14, Tryz.ntmps14
        go_upto_region 1 with fail
        go_quiet (fail)
        go_wp2
        exact bodyPost_ret (results_tmp rfl _ _ _) rfl ⟨rfl, below_drewN (Below.refl _ _) _⟩
      · go_enter Tryz.func14, Tryz.ntmps14
        go_upto_region 1 with fail
        go_quiet (fail)
        go_wp2
        exact bodyPost_ret (results_tmp rfl _ _ _) rfl ⟨by simp [hq], below_drewN (Below.refl _ _) _⟩
  · have e1 : rSees ⟨l, E, O⟩ x = false := by unfold rSees; simp [hE]
    rw [e1]
    have hne : (((E : Nat) : Int) == 0) = false := by simp [hE]
    clear hB hR hI
    go_enter Tryz.func14, Tryz.ntmps14
    go_upto_region 1 with fail
    go_quiet (fail)
    go_wp2
    exact bodyPost_ret (results_tmp rfl _ _ _) rfl ⟨rfl, below_drewN (Below.refl _ _) _⟩
end Go.Proofs.YtlfjdohjfmfcdaaGreatDoor
