/-
  The walk of printer.Rules.
-/
import Derived.Test.YtilfpnkcgjonhaaGreatDoorWalkRules
import Derived.Test.YtilfpnkcgjonhaaGreatDoorWalkPrintH
namespace Go.Proofs.YtilfpnkcgjonhaaGreatDoor.Pr
open Go.RowKit Go.Sort Foyer.Printer Foyer.Lexer

set_option linter.unusedSimpArgs false in
set_option maxRecDepth 100000 in
set_option maxHeartbeats 400000 in
theorem printRules_any (l : List ItemZ) (hx : ∀ x ∈ l, ItemZ.Fit x) (p : Option Addr) (n cap : Nat) (w : World) (hE : Env w) (hm : Lk itemL w w.heap.size (.slice p n cap) l) :
    Calls Tryz.prog 16 #[.agg #[.slice p n cap]] w fun e w' =>
      e = .returned (.tuple #[.string ⟨(rulesAll l).1.toArray⟩, .int .i64 ((rulesAll l).2 : Nat)]) ∧ Below w.heap.size w w' := by
  have hb1 : Below w.heap.size w (w.alloc (.cells #[.slice p n cap] 29)) := (Below.refl _ _).alloc (Nat.le_refl _) _
  have hk1 := Blk.new w 29 [.slice p n cap]
  obtain ⟨w1, hw1⟩ : ∃ w1, w.alloc (.cells #[.slice p n cap] 29) = w1 := ⟨_, rfl⟩
  have hs1 : w1.heap.size = w.heap.size + 1 := by rw [← hw1]; simp
  have hb2 : Below w.heap.size w (w1.alloc (.cells #[.slice none 0 0, .int .i64 0, .bool false] 89)) := by rw [hw1] at hb1; exact hb1.alloc (by omega) _
  have hW := fresh_wr w.heap.size 89 w1 (by omega)
  have hk2 : Blk (w1.alloc (.cells #[.slice none 0 0, .int .i64 0, .bool false] 89)) w.heap.size 29 [.slice p n cap] := by
    have : Blk w1 w.heap.size 29 [.slice p n cap] := by rw [← hw1]; exact hk1
    exact this.alloc _
  have HH := Lib.hid (rules_any l hx p n cap _ _ _ hW (by simp; omega) (EnvAt.below ⟨hE, hE.low⟩ hb2) (hm.below hb2))
  unfold rulesAll
  obtain ⟨S, hS⟩ : ∃ S, rulesS l startS = S := ⟨_, rfl⟩
  rw [hS] at HH ⊢
  clear hS
  obtain ⟨rt, hrt⟩ : ∃ rt, (finishS S).1 = rt := ⟨_, rfl⟩
  obtain ⟨re, hre⟩ : ∃ re, (finishS S).2 = re := ⟨_, rfl⟩
  have HFA : Hid (∀ w3 v3, WR w.heap.size (w.heap.size + 1) 89 w3 v3 S → Calls Tryz.prog 24 #[.pointer (some ⟨w.heap.size + 1, 0, none⟩)] w3 fun e w' => e = .returned (.tuple #[.string ⟨rt.toArray⟩, .int .i64 (re : Nat)]) ∧ Below w3.heap.size w3 w') :=
    Lib.hid fun w3 v3 g => by rw [← hrt, ← hre]; exact finish_any w3 v3 S g
  rw [hrt, hre]
  clear hrt hre
  have HB2 := Lib.hid hb2
  have HW := Lib.hid hW
  have k0 := hk2.cell (i := 0) rfl
  rw [hs1] at HH HW
  clear hb1 hk1 hk2 hb2 hW hm hx
  go_enter Tryz.func16, Tryz.ntmps16
  go_wp2_with fail
  refine HH.out.mono ?_; rintro e w3 ⟨rfl, v3, g1, g2⟩
  have HB3 := Lib.hid (HB2.out.trans (HW.out.wrote (by simp; omega) g2))
  have HF := Lib.hid (HFA.out w3 v3 g1)
  clear g1 g2 k0
  go_wp2_with fail
  refine HF.out.mono ?_; rintro e w4 ⟨rfl, hb4⟩
  have HB4 := Lib.hid (HB3.out.trans (hb4.mono HB3.out.size))
  clear hb4 HF
  go_wp2
  go_ret2
  exact ⟨rfl, HB4.out⟩
end Go.Proofs.YtilfpnkcgjonhaaGreatDoor.Pr
