/-
  The law PrinterEqual: its walk.
  The card of PrinterEqual: for every input the law returns true and leaves its arguments as they were; the listed variables hold what the program's text lays. No condition on the input.
-/
import Derived.Test.YtilfpnkcgjonhaaGreatDoorRdRule
import Derived.Test.YtilfpnkcgjonhaaGreatDoorSameRules
import Derived.Test.YtilfpnkcgjonhaaGreatDoorSameHall
import Derived.Test.YtilfpnkcgjonhaaGreatDoorHead8M
import Derived.Test.YtilfpnkcgjonhaaGreatDoorArgs
import Derived.ShutString
import Derived.ChangeOld
import Derived.Lib.SmallJoins
import Derived.Lay
namespace Go.Proofs.YtilfpnkcgjonhaaGreatDoor.Pr
open Go.RowKit Go.Sort Foyer.Printer Foyer.Lexer

theorem lk_since {α : Type} {K : Look α} {w w' : World} {v : Value} {xs : List α} (h : Lk K w w.heap.size v xs) (hb : Below w.heap.size w w') : Lk K w' w'.heap.size v xs := (h.below hb).mono hb.size
set_option linter.unusedSimpArgs false in
set_option maxRecDepth 100000 in
set_option maxHeartbeats 8000000 in
theorem equal_walk (ha : HallZ) (p0 : Option Addr) (n0 c0 : Nat) (hb : HallZ) (p1 : Option Addr) (n1 c1 : Nat) (la : List ItemZ) (p2 : Option Addr) (n2 c2 : Nat) (lb : List ItemZ) (p3 : Option Addr) (n3 c3 : Nat) (w : World)
    (l0 : Lk levelL w w.heap.size (.slice p0 n0 c0) ha.levels) (w0 : HallZ.Wide ha) (l1 : Lk levelL w w.heap.size (.slice p1 n1 c1) hb.levels) (w1 : HallZ.Wide hb) (l2 : Lk itemL w w.heap.size (.slice p2 n2 c2) la) (w2 : WideR la) (l3 : Lk itemL w w.heap.size (.slice p3 n3 c3) lb) (w3 : WideR lb) (hE : Env w) :
    Calls Tryz.prog 9 #[.agg #[.string ⟨ha.name.toArray⟩, .int .i64 ha.stage.x, .int .i64 ha.stage.y, .slice p0 n0 c0], .agg #[.string ⟨hb.name.toArray⟩, .int .i64 hb.stage.x, .int .i64 hb.stage.y, .slice p1 n1 c1], .agg #[.slice p2 n2 c2], .agg #[.slice p3 n3 c3]] w fun e w' => e = .returned (.bool true) ∧ Below w.heap.size w w' := by
  obtain ⟨xa, hxa⟩ : ∃ x, w.alloc (.cells #[.string ⟨ha.name.toArray⟩, .int .i64 ha.stage.x, .int .i64 ha.stage.y, .slice p0 n0 c0] 26) = x := ⟨_, rfl⟩
  obtain ⟨xb, hxb⟩ : ∃ x, xa.alloc (.cells #[.string ⟨hb.name.toArray⟩, .int .i64 hb.stage.x, .int .i64 hb.stage.y, .slice p1 n1 c1] 26) = x := ⟨_, rfl⟩
  obtain ⟨xc, hxc⟩ : ∃ x, xb.alloc (.cells #[.slice p2 n2 c2] 29) = x := ⟨_, rfl⟩
  obtain ⟨z0, hz0⟩ : ∃ x, xc.alloc (.cells #[.slice p3 n3 c3] 29) = x := ⟨_, rfl⟩
  have sa : xa.heap.size = w.heap.size + 1 := by rw [← hxa]; simp
  have sb : xb.heap.size = w.heap.size + 1 + 1 := by rw [← hxb, World.size_alloc, sa]
  have sc : xc.heap.size = w.heap.size + 1 + 1 + 1 := by rw [← hxc, World.size_alloc, sb]
  have ba : Below w.heap.size w xa := by rw [← hxa]; exact (Below.refl _ _).alloc (Nat.le_refl _) _
  have bb : Below xa.heap.size xa xb := by rw [← hxb]; exact (Below.refl _ _).alloc (Nat.le_refl _) _
  have bc : Below xb.heap.size xb xc := by rw [← hxc]; exact (Below.refl _ _).alloc (Nat.le_refl _) _
  have bd : Below xc.heap.size xc z0 := by rw [← hz0]; exact (Below.refl _ _).alloc (Nat.le_refl _) _
  have kd : Blk z0 (w.heap.size + 1 + 1 + 1) 29 [.slice p3 n3 c3] := by rw [← hz0, ← sc]; exact Blk.new _ _ _
  have kc : Blk z0 (w.heap.size + 1 + 1) 29 [.slice p2 n2 c2] := (bd.block _ (by omega)).trans (by rw [← hxc, ← sb]; exact Blk.new _ _ _)
  have kb : Blk z0 (w.heap.size + 1) 26 [.string ⟨hb.name.toArray⟩, .int .i64 hb.stage.x, .int .i64 hb.stage.y, .slice p1 n1 c1] := (bd.block _ (by omega)).trans ((bc.block _ (by omega)).trans (by rw [← hxb, ← sa]; exact Blk.new _ _ _))
  have ka : Blk z0 w.heap.size 26 [.string ⟨ha.name.toArray⟩, .int .i64 ha.stage.x, .int .i64 ha.stage.y, .slice p0 n0 c0] := (bd.block _ (by omega)).trans ((bc.block _ (by omega)).trans ((bb.block _ (by omega)).trans (by rw [← hxa]; exact Blk.new _ _ _)))
  have b0 : Below w.heap.size w z0 := ((ba.trans (bb.mono ba.size)).trans (bc.mono (by omega))).trans (bd.mono (by omega))
  have KA : Hid (∀ wr, Below z0.heap.size z0 wr → Blk wr w.heap.size 26 [.string ⟨ha.name.toArray⟩, .int .i64 ha.stage.x, .int .i64 ha.stage.y, .slice p0 n0 c0]) := Lib.hid fun wr h => (h.block _ ka.lt).trans ka
  have KB : Hid (∀ wr, Below z0.heap.size z0 wr → Blk wr (w.heap.size + 1) 26 [.string ⟨hb.name.toArray⟩, .int .i64 hb.stage.x, .int .i64 hb.stage.y, .slice p1 n1 c1]) := Lib.hid fun wr h => (h.block _ kb.lt).trans kb
  have KC : Hid (∀ wr, Below z0.heap.size z0 wr → Blk wr (w.heap.size + 1 + 1) 29 [.slice p2 n2 c2]) := Lib.hid fun wr h => (h.block _ kc.lt).trans kc
  have KD : Hid (∀ wr, Below z0.heap.size z0 wr → Blk wr (w.heap.size + 1 + 1 + 1) 29 [.slice p3 n3 c3]) := Lib.hid fun wr h => (h.block _ kd.lt).trans kd
  have HIN : Hid (∀ wr, Below z0.heap.size z0 wr → Below w.heap.size w wr) := Lib.hid fun wr h => b0.trans (h.mono b0.size)
  have L0 := Lib.hid l0; have L1 := Lib.hid l1; have L2 := Lib.hid l2; have L3 := Lib.hid l3; have V0 := Lib.hid w0; have V1 := Lib.hid w1; have V2 := Lib.hid w2; have V3 := Lib.hid w3; have HE := Lib.hid hE
  have HE0 := Lib.hid (hE.since b0)
  clear ba bb bc bd ka kb kc kd b0 l0 l1 l2 l3 w0 w1 w2 w3 hE
  go_enter Tryz.func9, Tryz.ntmps9
  go_wp2_with fail
  refine (head_any z0 HE0.out).mono ?_; rintro e z1 ⟨rfl, g1⟩
  clear hxa hxb hxc hz0 sa sb sc
  have B1 := Lib.hid g1
  clear g1
  have fa0 := (KA.out _ B1.out).cell (i := 0) rfl
  have fa1 := (KA.out _ B1.out).cell (i := 1) rfl
  have fa2 := (KA.out _ B1.out).cell (i := 2) rfl
  have fa3 := (KA.out _ B1.out).cell (i := 3) rfl
  have fb0 := (KB.out _ B1.out).cell (i := 0) rfl
  have fb1 := (KB.out _ B1.out).cell (i := 1) rfl
  have fb2 := (KB.out _ B1.out).cell (i := 2) rfl
  have fb3 := (KB.out _ B1.out).cell (i := 3) rfl
  have fc0 := (KC.out _ B1.out).cell (i := 0) rfl
  have fd0 := (KD.out _ B1.out).cell (i := 0) rfl
  go_wp2_with fail
  refine (few_any ha p0 n0 c0 z1 (lk_since L0.out (HIN.out _ B1.out))).mono ?_; rintro e z2 ⟨⟨y, rfl, hy⟩, g⟩
  have B2 := Lib.hid (B1.out.trans (g.mono B1.out.size))
  clear g fa0 fa1 fa2 fa3 fb0 fb1 fb2 fb3 fc0 fd0
  cases y with
  | false =>
    clear hy
    have fa0 := (KA.out _ B2.out).cell (i := 0) rfl
    have fa1 := (KA.out _ B2.out).cell (i := 1) rfl
    have fa2 := (KA.out _ B2.out).cell (i := 2) rfl
    have fa3 := (KA.out _ B2.out).cell (i := 3) rfl
    have fb0 := (KB.out _ B2.out).cell (i := 0) rfl
    have fb1 := (KB.out _ B2.out).cell (i := 1) rfl
    have fb2 := (KB.out _ B2.out).cell (i := 2) rfl
    have fb3 := (KB.out _ B2.out).cell (i := 3) rfl
    have fc0 := (KC.out _ B2.out).cell (i := 0) rfl
    have fd0 := (KD.out _ B2.out).cell (i := 0) rfl
    go_wp2
    go_ret
    exact ⟨rfl, HIN.out _ B2.out⟩
  | true =>
    have F0 := Lib.hid (HallZ.fit V0.out (hy rfl))
    clear hy
    have fa0 := (KA.out _ B2.out).cell (i := 0) rfl
    have fa1 := (KA.out _ B2.out).cell (i := 1) rfl
    have fa2 := (KA.out _ B2.out).cell (i := 2) rfl
    have fa3 := (KA.out _ B2.out).cell (i := 3) rfl
    have fb0 := (KB.out _ B2.out).cell (i := 0) rfl
    have fb1 := (KB.out _ B2.out).cell (i := 1) rfl
    have fb2 := (KB.out _ B2.out).cell (i := 2) rfl
    have fb3 := (KB.out _ B2.out).cell (i := 3) rfl
    have fc0 := (KC.out _ B2.out).cell (i := 0) rfl
    have fd0 := (KD.out _ B2.out).cell (i := 0) rfl
    go_wp2_with fail
    refine (few_any hb p1 n1 c1 z2 (lk_since L1.out (HIN.out _ B2.out))).mono ?_; rintro e z3 ⟨⟨y, rfl, hy⟩, g⟩
    have B3 := Lib.hid (B2.out.trans (g.mono B2.out.size))
    clear g fa0 fa1 fa2 fa3 fb0 fb1 fb2 fb3 fc0 fd0
    cases y with
    | false =>
      clear hy
      have fa0 := (KA.out _ B3.out).cell (i := 0) rfl
      have fa1 := (KA.out _ B3.out).cell (i := 1) rfl
      have fa2 := (KA.out _ B3.out).cell (i := 2) rfl
      have fa3 := (KA.out _ B3.out).cell (i := 3) rfl
      have fb0 := (KB.out _ B3.out).cell (i := 0) rfl
      have fb1 := (KB.out _ B3.out).cell (i := 1) rfl
      have fb2 := (KB.out _ B3.out).cell (i := 2) rfl
      have fb3 := (KB.out _ B3.out).cell (i := 3) rfl
      have fc0 := (KC.out _ B3.out).cell (i := 0) rfl
      have fd0 := (KD.out _ B3.out).cell (i := 0) rfl
      go_wp2
      go_ret
      exact ⟨rfl, HIN.out _ B3.out⟩
    | true =>
      have F1 := Lib.hid (HallZ.fit V1.out (hy rfl))
      clear hy
      have fa0 := (KA.out _ B3.out).cell (i := 0) rfl
      have fa1 := (KA.out _ B3.out).cell (i := 1) rfl
      have fa2 := (KA.out _ B3.out).cell (i := 2) rfl
      have fa3 := (KA.out _ B3.out).cell (i := 3) rfl
      have fb0 := (KB.out _ B3.out).cell (i := 0) rfl
      have fb1 := (KB.out _ B3.out).cell (i := 1) rfl
      have fb2 := (KB.out _ B3.out).cell (i := 2) rfl
      have fb3 := (KB.out _ B3.out).cell (i := 3) rfl
      have fc0 := (KC.out _ B3.out).cell (i := 0) rfl
      have fd0 := (KD.out _ B3.out).cell (i := 0) rfl
      go_wp2_with fail
      refine (fewR_any la p2 n2 c2 z3 (lk_since L2.out (HIN.out _ B3.out))).mono ?_; rintro e z4 ⟨⟨y, rfl, hy⟩, g⟩
      have B4 := Lib.hid (B3.out.trans (g.mono B3.out.size))
      clear g fa0 fa1 fa2 fa3 fb0 fb1 fb2 fb3 fc0 fd0
      cases y with
      | false =>
        clear hy
        have fa0 := (KA.out _ B4.out).cell (i := 0) rfl
        have fa1 := (KA.out _ B4.out).cell (i := 1) rfl
        have fa2 := (KA.out _ B4.out).cell (i := 2) rfl
        have fa3 := (KA.out _ B4.out).cell (i := 3) rfl
        have fb0 := (KB.out _ B4.out).cell (i := 0) rfl
        have fb1 := (KB.out _ B4.out).cell (i := 1) rfl
        have fb2 := (KB.out _ B4.out).cell (i := 2) rfl
        have fb3 := (KB.out _ B4.out).cell (i := 3) rfl
        have fc0 := (KC.out _ B4.out).cell (i := 0) rfl
        have fd0 := (KD.out _ B4.out).cell (i := 0) rfl
        go_wp2
        go_ret
        exact ⟨rfl, HIN.out _ B4.out⟩
      | true =>
        have F2 := Lib.hid (fitR V2.out (hy rfl))
        clear hy
        have fa0 := (KA.out _ B4.out).cell (i := 0) rfl
        have fa1 := (KA.out _ B4.out).cell (i := 1) rfl
        have fa2 := (KA.out _ B4.out).cell (i := 2) rfl
        have fa3 := (KA.out _ B4.out).cell (i := 3) rfl
        have fb0 := (KB.out _ B4.out).cell (i := 0) rfl
        have fb1 := (KB.out _ B4.out).cell (i := 1) rfl
        have fb2 := (KB.out _ B4.out).cell (i := 2) rfl
        have fb3 := (KB.out _ B4.out).cell (i := 3) rfl
        have fc0 := (KC.out _ B4.out).cell (i := 0) rfl
        have fd0 := (KD.out _ B4.out).cell (i := 0) rfl
        go_wp2_with fail
        refine (fewR_any lb p3 n3 c3 z4 (lk_since L3.out (HIN.out _ B4.out))).mono ?_; rintro e z5 ⟨⟨y, rfl, hy⟩, g⟩
        have B5 := Lib.hid (B4.out.trans (g.mono B4.out.size))
        clear g fa0 fa1 fa2 fa3 fb0 fb1 fb2 fb3 fc0 fd0
        cases y with
        | false =>
          clear hy
          have fa0 := (KA.out _ B5.out).cell (i := 0) rfl
          have fa1 := (KA.out _ B5.out).cell (i := 1) rfl
          have fa2 := (KA.out _ B5.out).cell (i := 2) rfl
          have fa3 := (KA.out _ B5.out).cell (i := 3) rfl
          have fb0 := (KB.out _ B5.out).cell (i := 0) rfl
          have fb1 := (KB.out _ B5.out).cell (i := 1) rfl
          have fb2 := (KB.out _ B5.out).cell (i := 2) rfl
          have fb3 := (KB.out _ B5.out).cell (i := 3) rfl
          have fc0 := (KC.out _ B5.out).cell (i := 0) rfl
          have fd0 := (KD.out _ B5.out).cell (i := 0) rfl
          go_wp2
          go_ret
          exact ⟨rfl, HIN.out _ B5.out⟩
        | true =>
          have F3 := Lib.hid (fitR V3.out (hy rfl))
          clear hy
          have fa0 := (KA.out _ B5.out).cell (i := 0) rfl
          have fa1 := (KA.out _ B5.out).cell (i := 1) rfl
          have fa2 := (KA.out _ B5.out).cell (i := 2) rfl
          have fa3 := (KA.out _ B5.out).cell (i := 3) rfl
          have fb0 := (KB.out _ B5.out).cell (i := 0) rfl
          have fb1 := (KB.out _ B5.out).cell (i := 1) rfl
          have fb2 := (KB.out _ B5.out).cell (i := 2) rfl
          have fb3 := (KB.out _ B5.out).cell (i := 3) rfl
          have fc0 := (KC.out _ B5.out).cell (i := 0) rfl
          have fd0 := (KD.out _ B5.out).cell (i := 0) rfl
          go_wp2_with fail
          refine (printHall_any ha F0.out p0 n0 c0 z5 (HE.out.since (HIN.out _ B5.out)) (lk_since L0.out (HIN.out _ B5.out))).mono ?_; rintro e z6 ⟨rfl, g⟩
          have B6 := Lib.hid (B5.out.trans (g.mono B5.out.size))
          clear g fa0 fa1 fa2 fa3 fb0 fb1 fb2 fb3 fc0 fd0
          have QH : Hid ((hallAll ha).2 = 0 → (hallAll hb).2 = 0 → ((hallAll ha).1 = (hallAll hb).1 ↔ ha.bare = hb.bare)) := Lib.hid fun x y => hall_equal x y
          have QR : Hid ((rulesAll la).2 = 0 → (rulesAll lb).2 = 0 → ((rulesAll la).1 = (rulesAll lb).1 ↔ la.map ItemZ.bare = lb.map ItemZ.bare)) := Lib.hid fun x y => rules_equal x y
          obtain ⟨ta, hta⟩ : ∃ t, (hallAll ha).1 = t := ⟨_, rfl⟩
          obtain ⟨ea, hea⟩ : ∃ t, (hallAll ha).2 = t := ⟨_, rfl⟩
          rw [hta, hea] at QH ⊢
          have fa0 := (KA.out _ B6.out).cell (i := 0) rfl
          have fa1 := (KA.out _ B6.out).cell (i := 1) rfl
          have fa2 := (KA.out _ B6.out).cell (i := 2) rfl
          have fa3 := (KA.out _ B6.out).cell (i := 3) rfl
          have fb0 := (KB.out _ B6.out).cell (i := 0) rfl
          have fb1 := (KB.out _ B6.out).cell (i := 1) rfl
          have fb2 := (KB.out _ B6.out).cell (i := 2) rfl
          have fb3 := (KB.out _ B6.out).cell (i := 3) rfl
          have fc0 := (KC.out _ B6.out).cell (i := 0) rfl
          have fd0 := (KD.out _ B6.out).cell (i := 0) rfl
          go_wp2_with fail
          refine (printHall_any hb F1.out p1 n1 c1 z6 (HE.out.since (HIN.out _ B6.out)) (lk_since L1.out (HIN.out _ B6.out))).mono ?_; rintro e z7 ⟨rfl, g⟩
          have B7 := Lib.hid (B6.out.trans (g.mono B6.out.size))
          clear g fa0 fa1 fa2 fa3 fb0 fb1 fb2 fb3 fc0 fd0
          obtain ⟨tb, htb⟩ : ∃ t, (hallAll hb).1 = t := ⟨_, rfl⟩
          obtain ⟨eb, heb⟩ : ∃ t, (hallAll hb).2 = t := ⟨_, rfl⟩
          rw [htb, heb] at QH ⊢
          clear hta hea htb heb
          by_cases g1 : ea = 0
          · subst g1
            by_cases g2 : eb = 0
            · subst g2
              by_cases g3 : ta = tb
              · have g4 := decide_eq_true ((QH.out rfl rfl).1 g3)
                subst g3
                clear QH
                have fa0 := (KA.out _ B7.out).cell (i := 0) rfl
                have fa1 := (KA.out _ B7.out).cell (i := 1) rfl
                have fa2 := (KA.out _ B7.out).cell (i := 2) rfl
                have fa3 := (KA.out _ B7.out).cell (i := 3) rfl
                have fb0 := (KB.out _ B7.out).cell (i := 0) rfl
                have fb1 := (KB.out _ B7.out).cell (i := 1) rfl
                have fb2 := (KB.out _ B7.out).cell (i := 2) rfl
                have fb3 := (KB.out _ B7.out).cell (i := 3) rfl
                have fc0 := (KC.out _ B7.out).cell (i := 0) rfl
                have fd0 := (KD.out _ B7.out).cell (i := 0) rfl
                go_wp2_with fail
                refine (hall_same_any ha hb p0 p1 n0 n1 c0 c1 z7 (lk_since L0.out (HIN.out _ B7.out)) (lk_since L1.out (HIN.out _ B7.out))).mono ?_; rintro e z8 ⟨rfl, g⟩
                rw [g4]
                have B8 := Lib.hid (B7.out.trans (g.mono B7.out.size))
                clear g g4 fa0 fa1 fa2 fa3 fb0 fb1 fb2 fb3 fc0 fd0
                have fa0 := (KA.out _ B8.out).cell (i := 0) rfl
                have fa1 := (KA.out _ B8.out).cell (i := 1) rfl
                have fa2 := (KA.out _ B8.out).cell (i := 2) rfl
                have fa3 := (KA.out _ B8.out).cell (i := 3) rfl
                have fb0 := (KB.out _ B8.out).cell (i := 0) rfl
                have fb1 := (KB.out _ B8.out).cell (i := 1) rfl
                have fb2 := (KB.out _ B8.out).cell (i := 2) rfl
                have fb3 := (KB.out _ B8.out).cell (i := 3) rfl
                have fc0 := (KC.out _ B8.out).cell (i := 0) rfl
                have fd0 := (KD.out _ B8.out).cell (i := 0) rfl
                go_wp2_with fail
                refine (printRules_any la F2.out p2 n2 c2 z8 (HE.out.since (HIN.out _ B8.out)) (lk_since L2.out (HIN.out _ B8.out))).mono ?_; rintro e z9 ⟨rfl, g⟩
                have B9 := Lib.hid (B8.out.trans (g.mono B8.out.size))
                clear g fa0 fa1 fa2 fa3 fb0 fb1 fb2 fb3 fc0 fd0
                obtain ⟨tc, htc⟩ : ∃ t, (rulesAll la).1 = t := ⟨_, rfl⟩
                obtain ⟨ec, hec⟩ : ∃ t, (rulesAll la).2 = t := ⟨_, rfl⟩
                rw [htc, hec] at QR ⊢
                have fa0 := (KA.out _ B9.out).cell (i := 0) rfl
                have fa1 := (KA.out _ B9.out).cell (i := 1) rfl
                have fa2 := (KA.out _ B9.out).cell (i := 2) rfl
                have fa3 := (KA.out _ B9.out).cell (i := 3) rfl
                have fb0 := (KB.out _ B9.out).cell (i := 0) rfl
                have fb1 := (KB.out _ B9.out).cell (i := 1) rfl
                have fb2 := (KB.out _ B9.out).cell (i := 2) rfl
                have fb3 := (KB.out _ B9.out).cell (i := 3) rfl
                have fc0 := (KC.out _ B9.out).cell (i := 0) rfl
                have fd0 := (KD.out _ B9.out).cell (i := 0) rfl
                go_wp2_with fail
                refine (printRules_any lb F3.out p3 n3 c3 z9 (HE.out.since (HIN.out _ B9.out)) (lk_since L3.out (HIN.out _ B9.out))).mono ?_; rintro e z10 ⟨rfl, g⟩
                have B10 := Lib.hid (B9.out.trans (g.mono B9.out.size))
                clear g fa0 fa1 fa2 fa3 fb0 fb1 fb2 fb3 fc0 fd0
                obtain ⟨td, htd⟩ : ∃ t, (rulesAll lb).1 = t := ⟨_, rfl⟩
                obtain ⟨ed, hed⟩ : ∃ t, (rulesAll lb).2 = t := ⟨_, rfl⟩
                rw [htd, hed] at QR ⊢
                clear htc hec htd hed
                by_cases h1 : ec = 0
                · subst h1
                  by_cases h2 : ed = 0
                  · subst h2
                    have fa0 := (KA.out _ B10.out).cell (i := 0) rfl
                    have fa1 := (KA.out _ B10.out).cell (i := 1) rfl
                    have fa2 := (KA.out _ B10.out).cell (i := 2) rfl
                    have fa3 := (KA.out _ B10.out).cell (i := 3) rfl
                    have fb0 := (KB.out _ B10.out).cell (i := 0) rfl
                    have fb1 := (KB.out _ B10.out).cell (i := 1) rfl
                    have fb2 := (KB.out _ B10.out).cell (i := 2) rfl
                    have fb3 := (KB.out _ B10.out).cell (i := 3) rfl
                    have fc0 := (KC.out _ B10.out).cell (i := 0) rfl
                    have fd0 := (KD.out _ B10.out).cell (i := 0) rfl
                    by_cases h3 : tc = td
                    · have h4 := decide_eq_true ((QR.out rfl rfl).1 h3)
                      subst h3
                      clear QR
                      go_wp2_with fail
                      refine (rules_same_any la lb p2 p3 n2 n3 c2 c3 z10 (lk_since L2.out (HIN.out _ B10.out)) (lk_since L3.out (HIN.out _ B10.out))).mono ?_; rintro e z11 ⟨rfl, g⟩
                      rw [h4]
                      have B11 := Lib.hid (B10.out.trans (g.mono B10.out.size))
                      clear g fa0 fa1 fa2 fa3 fb0 fb1 fb2 fb3 fc0 fd0
                      go_wp2
                      go_ret
                      exact ⟨rfl, HIN.out _ B11.out⟩
                    · have h4 := decide_eq_false (fun e => h3 ((QR.out rfl rfl).2 e))
                      have h5 : (tc == td) = false := by simpa using h3
                      clear QR
                      go_wp2_with fail
                      refine (rules_same_any la lb p2 p3 n2 n3 c2 c3 z10 (lk_since L2.out (HIN.out _ B10.out)) (lk_since L3.out (HIN.out _ B10.out))).mono ?_; rintro e z11 ⟨rfl, g⟩
                      rw [h4]
                      have B11 := Lib.hid (B10.out.trans (g.mono B10.out.size))
                      clear g fa0 fa1 fa2 fa3 fb0 fb1 fb2 fb3 fc0 fd0
                      go_wp2
                      go_ret
                      exact ⟨rfl, HIN.out _ B11.out⟩
                  · have h3 : ¬ ((ed : Int) = 0) := by omega
                    have fa0 := (KA.out _ B10.out).cell (i := 0) rfl
                    have fa1 := (KA.out _ B10.out).cell (i := 1) rfl
                    have fa2 := (KA.out _ B10.out).cell (i := 2) rfl
                    have fa3 := (KA.out _ B10.out).cell (i := 3) rfl
                    have fb0 := (KB.out _ B10.out).cell (i := 0) rfl
                    have fb1 := (KB.out _ B10.out).cell (i := 1) rfl
                    have fb2 := (KB.out _ B10.out).cell (i := 2) rfl
                    have fb3 := (KB.out _ B10.out).cell (i := 3) rfl
                    have fc0 := (KC.out _ B10.out).cell (i := 0) rfl
                    have fd0 := (KD.out _ B10.out).cell (i := 0) rfl
                    go_wp2
                    go_ret
                    exact ⟨rfl, HIN.out _ B10.out⟩
                · have h3 : ¬ ((ec : Int) = 0) := by omega
                  have fa0 := (KA.out _ B10.out).cell (i := 0) rfl
                  have fa1 := (KA.out _ B10.out).cell (i := 1) rfl
                  have fa2 := (KA.out _ B10.out).cell (i := 2) rfl
                  have fa3 := (KA.out _ B10.out).cell (i := 3) rfl
                  have fb0 := (KB.out _ B10.out).cell (i := 0) rfl
                  have fb1 := (KB.out _ B10.out).cell (i := 1) rfl
                  have fb2 := (KB.out _ B10.out).cell (i := 2) rfl
                  have fb3 := (KB.out _ B10.out).cell (i := 3) rfl
                  have fc0 := (KC.out _ B10.out).cell (i := 0) rfl
                  have fd0 := (KD.out _ B10.out).cell (i := 0) rfl
                  go_wp2
                  go_ret
                  exact ⟨rfl, HIN.out _ B10.out⟩
              · have g4 := decide_eq_false (fun e => g3 ((QH.out rfl rfl).2 e))
                have g5 : (ta == tb) = false := by simpa using g3
                clear QH
                have fa0 := (KA.out _ B7.out).cell (i := 0) rfl
                have fa1 := (KA.out _ B7.out).cell (i := 1) rfl
                have fa2 := (KA.out _ B7.out).cell (i := 2) rfl
                have fa3 := (KA.out _ B7.out).cell (i := 3) rfl
                have fb0 := (KB.out _ B7.out).cell (i := 0) rfl
                have fb1 := (KB.out _ B7.out).cell (i := 1) rfl
                have fb2 := (KB.out _ B7.out).cell (i := 2) rfl
                have fb3 := (KB.out _ B7.out).cell (i := 3) rfl
                have fc0 := (KC.out _ B7.out).cell (i := 0) rfl
                have fd0 := (KD.out _ B7.out).cell (i := 0) rfl
                go_wp2_with fail
                refine (hall_same_any ha hb p0 p1 n0 n1 c0 c1 z7 (lk_since L0.out (HIN.out _ B7.out)) (lk_since L1.out (HIN.out _ B7.out))).mono ?_; rintro e z8 ⟨rfl, g⟩
                rw [g4]
                have B8 := Lib.hid (B7.out.trans (g.mono B7.out.size))
                clear g g4 fa0 fa1 fa2 fa3 fb0 fb1 fb2 fb3 fc0 fd0
                have fa0 := (KA.out _ B8.out).cell (i := 0) rfl
                have fa1 := (KA.out _ B8.out).cell (i := 1) rfl
                have fa2 := (KA.out _ B8.out).cell (i := 2) rfl
                have fa3 := (KA.out _ B8.out).cell (i := 3) rfl
                have fb0 := (KB.out _ B8.out).cell (i := 0) rfl
                have fb1 := (KB.out _ B8.out).cell (i := 1) rfl
                have fb2 := (KB.out _ B8.out).cell (i := 2) rfl
                have fb3 := (KB.out _ B8.out).cell (i := 3) rfl
                have fc0 := (KC.out _ B8.out).cell (i := 0) rfl
                have fd0 := (KD.out _ B8.out).cell (i := 0) rfl
                go_wp2_with fail
                refine (printRules_any la F2.out p2 n2 c2 z8 (HE.out.since (HIN.out _ B8.out)) (lk_since L2.out (HIN.out _ B8.out))).mono ?_; rintro e z9 ⟨rfl, g⟩
                have B9 := Lib.hid (B8.out.trans (g.mono B8.out.size))
                clear g fa0 fa1 fa2 fa3 fb0 fb1 fb2 fb3 fc0 fd0
                obtain ⟨tc, htc⟩ : ∃ t, (rulesAll la).1 = t := ⟨_, rfl⟩
                obtain ⟨ec, hec⟩ : ∃ t, (rulesAll la).2 = t := ⟨_, rfl⟩
                rw [htc, hec] at QR ⊢
                have fa0 := (KA.out _ B9.out).cell (i := 0) rfl
                have fa1 := (KA.out _ B9.out).cell (i := 1) rfl
                have fa2 := (KA.out _ B9.out).cell (i := 2) rfl
                have fa3 := (KA.out _ B9.out).cell (i := 3) rfl
                have fb0 := (KB.out _ B9.out).cell (i := 0) rfl
                have fb1 := (KB.out _ B9.out).cell (i := 1) rfl
                have fb2 := (KB.out _ B9.out).cell (i := 2) rfl
                have fb3 := (KB.out _ B9.out).cell (i := 3) rfl
                have fc0 := (KC.out _ B9.out).cell (i := 0) rfl
                have fd0 := (KD.out _ B9.out).cell (i := 0) rfl
                go_wp2_with fail
                refine (printRules_any lb F3.out p3 n3 c3 z9 (HE.out.since (HIN.out _ B9.out)) (lk_since L3.out (HIN.out _ B9.out))).mono ?_; rintro e z10 ⟨rfl, g⟩
                have B10 := Lib.hid (B9.out.trans (g.mono B9.out.size))
                clear g fa0 fa1 fa2 fa3 fb0 fb1 fb2 fb3 fc0 fd0
                obtain ⟨td, htd⟩ : ∃ t, (rulesAll lb).1 = t := ⟨_, rfl⟩
                obtain ⟨ed, hed⟩ : ∃ t, (rulesAll lb).2 = t := ⟨_, rfl⟩
                rw [htd, hed] at QR ⊢
                clear htc hec htd hed
                by_cases h1 : ec = 0
                · subst h1
                  by_cases h2 : ed = 0
                  · subst h2
                    have fa0 := (KA.out _ B10.out).cell (i := 0) rfl
                    have fa1 := (KA.out _ B10.out).cell (i := 1) rfl
                    have fa2 := (KA.out _ B10.out).cell (i := 2) rfl
                    have fa3 := (KA.out _ B10.out).cell (i := 3) rfl
                    have fb0 := (KB.out _ B10.out).cell (i := 0) rfl
                    have fb1 := (KB.out _ B10.out).cell (i := 1) rfl
                    have fb2 := (KB.out _ B10.out).cell (i := 2) rfl
                    have fb3 := (KB.out _ B10.out).cell (i := 3) rfl
                    have fc0 := (KC.out _ B10.out).cell (i := 0) rfl
                    have fd0 := (KD.out _ B10.out).cell (i := 0) rfl
                    by_cases h3 : tc = td
                    · have h4 := decide_eq_true ((QR.out rfl rfl).1 h3)
                      subst h3
                      clear QR
                      go_wp2_with fail
                      refine (rules_same_any la lb p2 p3 n2 n3 c2 c3 z10 (lk_since L2.out (HIN.out _ B10.out)) (lk_since L3.out (HIN.out _ B10.out))).mono ?_; rintro e z11 ⟨rfl, g⟩
                      rw [h4]
                      have B11 := Lib.hid (B10.out.trans (g.mono B10.out.size))
                      clear g fa0 fa1 fa2 fa3 fb0 fb1 fb2 fb3 fc0 fd0
                      go_wp2
                      go_ret
                      exact ⟨rfl, HIN.out _ B11.out⟩
                    · have h4 := decide_eq_false (fun e => h3 ((QR.out rfl rfl).2 e))
                      have h5 : (tc == td) = false := by simpa using h3
                      clear QR
                      go_wp2_with fail
                      refine (rules_same_any la lb p2 p3 n2 n3 c2 c3 z10 (lk_since L2.out (HIN.out _ B10.out)) (lk_since L3.out (HIN.out _ B10.out))).mono ?_; rintro e z11 ⟨rfl, g⟩
                      rw [h4]
                      have B11 := Lib.hid (B10.out.trans (g.mono B10.out.size))
                      clear g fa0 fa1 fa2 fa3 fb0 fb1 fb2 fb3 fc0 fd0
                      go_wp2
                      go_ret
                      exact ⟨rfl, HIN.out _ B11.out⟩
                  · have h3 : ¬ ((ed : Int) = 0) := by omega
                    have fa0 := (KA.out _ B10.out).cell (i := 0) rfl
                    have fa1 := (KA.out _ B10.out).cell (i := 1) rfl
                    have fa2 := (KA.out _ B10.out).cell (i := 2) rfl
                    have fa3 := (KA.out _ B10.out).cell (i := 3) rfl
                    have fb0 := (KB.out _ B10.out).cell (i := 0) rfl
                    have fb1 := (KB.out _ B10.out).cell (i := 1) rfl
                    have fb2 := (KB.out _ B10.out).cell (i := 2) rfl
                    have fb3 := (KB.out _ B10.out).cell (i := 3) rfl
                    have fc0 := (KC.out _ B10.out).cell (i := 0) rfl
                    have fd0 := (KD.out _ B10.out).cell (i := 0) rfl
                    go_wp2
                    go_ret
                    exact ⟨rfl, HIN.out _ B10.out⟩
                · have h3 : ¬ ((ec : Int) = 0) := by omega
                  have fa0 := (KA.out _ B10.out).cell (i := 0) rfl
                  have fa1 := (KA.out _ B10.out).cell (i := 1) rfl
                  have fa2 := (KA.out _ B10.out).cell (i := 2) rfl
                  have fa3 := (KA.out _ B10.out).cell (i := 3) rfl
                  have fb0 := (KB.out _ B10.out).cell (i := 0) rfl
                  have fb1 := (KB.out _ B10.out).cell (i := 1) rfl
                  have fb2 := (KB.out _ B10.out).cell (i := 2) rfl
                  have fb3 := (KB.out _ B10.out).cell (i := 3) rfl
                  have fc0 := (KC.out _ B10.out).cell (i := 0) rfl
                  have fd0 := (KD.out _ B10.out).cell (i := 0) rfl
                  go_wp2
                  go_ret
                  exact ⟨rfl, HIN.out _ B10.out⟩
            · have g3 : ¬ ((eb : Int) = 0) := by omega
              clear QH
              have fa0 := (KA.out _ B7.out).cell (i := 0) rfl
              have fa1 := (KA.out _ B7.out).cell (i := 1) rfl
              have fa2 := (KA.out _ B7.out).cell (i := 2) rfl
              have fa3 := (KA.out _ B7.out).cell (i := 3) rfl
              have fb0 := (KB.out _ B7.out).cell (i := 0) rfl
              have fb1 := (KB.out _ B7.out).cell (i := 1) rfl
              have fb2 := (KB.out _ B7.out).cell (i := 2) rfl
              have fb3 := (KB.out _ B7.out).cell (i := 3) rfl
              have fc0 := (KC.out _ B7.out).cell (i := 0) rfl
              have fd0 := (KD.out _ B7.out).cell (i := 0) rfl
              go_wp2_with fail
              refine (printRules_any la F2.out p2 n2 c2 z7 (HE.out.since (HIN.out _ B7.out)) (lk_since L2.out (HIN.out _ B7.out))).mono ?_; rintro e z8 ⟨rfl, g⟩
              have B8 := Lib.hid (B7.out.trans (g.mono B7.out.size))
              clear g fa0 fa1 fa2 fa3 fb0 fb1 fb2 fb3 fc0 fd0
              obtain ⟨tc, htc⟩ : ∃ t, (rulesAll la).1 = t := ⟨_, rfl⟩
              obtain ⟨ec, hec⟩ : ∃ t, (rulesAll la).2 = t := ⟨_, rfl⟩
              rw [htc, hec] at QR ⊢
              have fa0 := (KA.out _ B8.out).cell (i := 0) rfl
              have fa1 := (KA.out _ B8.out).cell (i := 1) rfl
              have fa2 := (KA.out _ B8.out).cell (i := 2) rfl
              have fa3 := (KA.out _ B8.out).cell (i := 3) rfl
              have fb0 := (KB.out _ B8.out).cell (i := 0) rfl
              have fb1 := (KB.out _ B8.out).cell (i := 1) rfl
              have fb2 := (KB.out _ B8.out).cell (i := 2) rfl
              have fb3 := (KB.out _ B8.out).cell (i := 3) rfl
              have fc0 := (KC.out _ B8.out).cell (i := 0) rfl
              have fd0 := (KD.out _ B8.out).cell (i := 0) rfl
              go_wp2_with fail
              refine (printRules_any lb F3.out p3 n3 c3 z8 (HE.out.since (HIN.out _ B8.out)) (lk_since L3.out (HIN.out _ B8.out))).mono ?_; rintro e z9 ⟨rfl, g⟩
              have B9 := Lib.hid (B8.out.trans (g.mono B8.out.size))
              clear g fa0 fa1 fa2 fa3 fb0 fb1 fb2 fb3 fc0 fd0
              obtain ⟨td, htd⟩ : ∃ t, (rulesAll lb).1 = t := ⟨_, rfl⟩
              obtain ⟨ed, hed⟩ : ∃ t, (rulesAll lb).2 = t := ⟨_, rfl⟩
              rw [htd, hed] at QR ⊢
              clear htc hec htd hed
              by_cases h1 : ec = 0
              · subst h1
                by_cases h2 : ed = 0
                · subst h2
                  have fa0 := (KA.out _ B9.out).cell (i := 0) rfl
                  have fa1 := (KA.out _ B9.out).cell (i := 1) rfl
                  have fa2 := (KA.out _ B9.out).cell (i := 2) rfl
                  have fa3 := (KA.out _ B9.out).cell (i := 3) rfl
                  have fb0 := (KB.out _ B9.out).cell (i := 0) rfl
                  have fb1 := (KB.out _ B9.out).cell (i := 1) rfl
                  have fb2 := (KB.out _ B9.out).cell (i := 2) rfl
                  have fb3 := (KB.out _ B9.out).cell (i := 3) rfl
                  have fc0 := (KC.out _ B9.out).cell (i := 0) rfl
                  have fd0 := (KD.out _ B9.out).cell (i := 0) rfl
                  by_cases h3 : tc = td
                  · have h4 := decide_eq_true ((QR.out rfl rfl).1 h3)
                    subst h3
                    clear QR
                    go_wp2_with fail
                    refine (rules_same_any la lb p2 p3 n2 n3 c2 c3 z9 (lk_since L2.out (HIN.out _ B9.out)) (lk_since L3.out (HIN.out _ B9.out))).mono ?_; rintro e z10 ⟨rfl, g⟩
                    rw [h4]
                    have B10 := Lib.hid (B9.out.trans (g.mono B9.out.size))
                    clear g fa0 fa1 fa2 fa3 fb0 fb1 fb2 fb3 fc0 fd0
                    go_wp2
                    go_ret
                    exact ⟨rfl, HIN.out _ B10.out⟩
                  · have h4 := decide_eq_false (fun e => h3 ((QR.out rfl rfl).2 e))
                    have h5 : (tc == td) = false := by simpa using h3
                    clear QR
                    go_wp2_with fail
                    refine (rules_same_any la lb p2 p3 n2 n3 c2 c3 z9 (lk_since L2.out (HIN.out _ B9.out)) (lk_since L3.out (HIN.out _ B9.out))).mono ?_; rintro e z10 ⟨rfl, g⟩
                    rw [h4]
                    have B10 := Lib.hid (B9.out.trans (g.mono B9.out.size))
                    clear g fa0 fa1 fa2 fa3 fb0 fb1 fb2 fb3 fc0 fd0
                    go_wp2
                    go_ret
                    exact ⟨rfl, HIN.out _ B10.out⟩
                · have h3 : ¬ ((ed : Int) = 0) := by omega
                  have fa0 := (KA.out _ B9.out).cell (i := 0) rfl
                  have fa1 := (KA.out _ B9.out).cell (i := 1) rfl
                  have fa2 := (KA.out _ B9.out).cell (i := 2) rfl
                  have fa3 := (KA.out _ B9.out).cell (i := 3) rfl
                  have fb0 := (KB.out _ B9.out).cell (i := 0) rfl
                  have fb1 := (KB.out _ B9.out).cell (i := 1) rfl
                  have fb2 := (KB.out _ B9.out).cell (i := 2) rfl
                  have fb3 := (KB.out _ B9.out).cell (i := 3) rfl
                  have fc0 := (KC.out _ B9.out).cell (i := 0) rfl
                  have fd0 := (KD.out _ B9.out).cell (i := 0) rfl
                  go_wp2
                  go_ret
                  exact ⟨rfl, HIN.out _ B9.out⟩
              · have h3 : ¬ ((ec : Int) = 0) := by omega
                have fa0 := (KA.out _ B9.out).cell (i := 0) rfl
                have fa1 := (KA.out _ B9.out).cell (i := 1) rfl
                have fa2 := (KA.out _ B9.out).cell (i := 2) rfl
                have fa3 := (KA.out _ B9.out).cell (i := 3) rfl
                have fb0 := (KB.out _ B9.out).cell (i := 0) rfl
                have fb1 := (KB.out _ B9.out).cell (i := 1) rfl
                have fb2 := (KB.out _ B9.out).cell (i := 2) rfl
                have fb3 := (KB.out _ B9.out).cell (i := 3) rfl
                have fc0 := (KC.out _ B9.out).cell (i := 0) rfl
                have fd0 := (KD.out _ B9.out).cell (i := 0) rfl
                go_wp2
                go_ret
                exact ⟨rfl, HIN.out _ B9.out⟩
          · have g3 : ¬ ((ea : Int) = 0) := by omega
            clear QH
            have fa0 := (KA.out _ B7.out).cell (i := 0) rfl
            have fa1 := (KA.out _ B7.out).cell (i := 1) rfl
            have fa2 := (KA.out _ B7.out).cell (i := 2) rfl
            have fa3 := (KA.out _ B7.out).cell (i := 3) rfl
            have fb0 := (KB.out _ B7.out).cell (i := 0) rfl
            have fb1 := (KB.out _ B7.out).cell (i := 1) rfl
            have fb2 := (KB.out _ B7.out).cell (i := 2) rfl
            have fb3 := (KB.out _ B7.out).cell (i := 3) rfl
            have fc0 := (KC.out _ B7.out).cell (i := 0) rfl
            have fd0 := (KD.out _ B7.out).cell (i := 0) rfl
            go_wp2_with fail
            refine (printRules_any la F2.out p2 n2 c2 z7 (HE.out.since (HIN.out _ B7.out)) (lk_since L2.out (HIN.out _ B7.out))).mono ?_; rintro e z8 ⟨rfl, g⟩
            have B8 := Lib.hid (B7.out.trans (g.mono B7.out.size))
            clear g fa0 fa1 fa2 fa3 fb0 fb1 fb2 fb3 fc0 fd0
            obtain ⟨tc, htc⟩ : ∃ t, (rulesAll la).1 = t := ⟨_, rfl⟩
            obtain ⟨ec, hec⟩ : ∃ t, (rulesAll la).2 = t := ⟨_, rfl⟩
            rw [htc, hec] at QR ⊢
            have fa0 := (KA.out _ B8.out).cell (i := 0) rfl
            have fa1 := (KA.out _ B8.out).cell (i := 1) rfl
            have fa2 := (KA.out _ B8.out).cell (i := 2) rfl
            have fa3 := (KA.out _ B8.out).cell (i := 3) rfl
            have fb0 := (KB.out _ B8.out).cell (i := 0) rfl
            have fb1 := (KB.out _ B8.out).cell (i := 1) rfl
            have fb2 := (KB.out _ B8.out).cell (i := 2) rfl
            have fb3 := (KB.out _ B8.out).cell (i := 3) rfl
            have fc0 := (KC.out _ B8.out).cell (i := 0) rfl
            have fd0 := (KD.out _ B8.out).cell (i := 0) rfl
            go_wp2_with fail
            refine (printRules_any lb F3.out p3 n3 c3 z8 (HE.out.since (HIN.out _ B8.out)) (lk_since L3.out (HIN.out _ B8.out))).mono ?_; rintro e z9 ⟨rfl, g⟩
            have B9 := Lib.hid (B8.out.trans (g.mono B8.out.size))
            clear g fa0 fa1 fa2 fa3 fb0 fb1 fb2 fb3 fc0 fd0
            obtain ⟨td, htd⟩ : ∃ t, (rulesAll lb).1 = t := ⟨_, rfl⟩
            obtain ⟨ed, hed⟩ : ∃ t, (rulesAll lb).2 = t := ⟨_, rfl⟩
            rw [htd, hed] at QR ⊢
            clear htc hec htd hed
            by_cases h1 : ec = 0
            · subst h1
              by_cases h2 : ed = 0
              · subst h2
                have fa0 := (KA.out _ B9.out).cell (i := 0) rfl
                have fa1 := (KA.out _ B9.out).cell (i := 1) rfl
                have fa2 := (KA.out _ B9.out).cell (i := 2) rfl
                have fa3 := (KA.out _ B9.out).cell (i := 3) rfl
                have fb0 := (KB.out _ B9.out).cell (i := 0) rfl
                have fb1 := (KB.out _ B9.out).cell (i := 1) rfl
                have fb2 := (KB.out _ B9.out).cell (i := 2) rfl
                have fb3 := (KB.out _ B9.out).cell (i := 3) rfl
                have fc0 := (KC.out _ B9.out).cell (i := 0) rfl
                have fd0 := (KD.out _ B9.out).cell (i := 0) rfl
                by_cases h3 : tc = td
                · have h4 := decide_eq_true ((QR.out rfl rfl).1 h3)
                  subst h3
                  clear QR
                  go_wp2_with fail
                  refine (rules_same_any la lb p2 p3 n2 n3 c2 c3 z9 (lk_since L2.out (HIN.out _ B9.out)) (lk_since L3.out (HIN.out _ B9.out))).mono ?_; rintro e z10 ⟨rfl, g⟩
                  rw [h4]
                  have B10 := Lib.hid (B9.out.trans (g.mono B9.out.size))
                  clear g fa0 fa1 fa2 fa3 fb0 fb1 fb2 fb3 fc0 fd0
                  go_wp2
                  go_ret
                  exact ⟨rfl, HIN.out _ B10.out⟩
                · have h4 := decide_eq_false (fun e => h3 ((QR.out rfl rfl).2 e))
                  have h5 : (tc == td) = false := by simpa using h3
                  clear QR
                  go_wp2_with fail
                  refine (rules_same_any la lb p2 p3 n2 n3 c2 c3 z9 (lk_since L2.out (HIN.out _ B9.out)) (lk_since L3.out (HIN.out _ B9.out))).mono ?_; rintro e z10 ⟨rfl, g⟩
                  rw [h4]
                  have B10 := Lib.hid (B9.out.trans (g.mono B9.out.size))
                  clear g fa0 fa1 fa2 fa3 fb0 fb1 fb2 fb3 fc0 fd0
                  go_wp2
                  go_ret
                  exact ⟨rfl, HIN.out _ B10.out⟩
              · have h3 : ¬ ((ed : Int) = 0) := by omega
                have fa0 := (KA.out _ B9.out).cell (i := 0) rfl
                have fa1 := (KA.out _ B9.out).cell (i := 1) rfl
                have fa2 := (KA.out _ B9.out).cell (i := 2) rfl
                have fa3 := (KA.out _ B9.out).cell (i := 3) rfl
                have fb0 := (KB.out _ B9.out).cell (i := 0) rfl
                have fb1 := (KB.out _ B9.out).cell (i := 1) rfl
                have fb2 := (KB.out _ B9.out).cell (i := 2) rfl
                have fb3 := (KB.out _ B9.out).cell (i := 3) rfl
                have fc0 := (KC.out _ B9.out).cell (i := 0) rfl
                have fd0 := (KD.out _ B9.out).cell (i := 0) rfl
                go_wp2
                go_ret
                exact ⟨rfl, HIN.out _ B9.out⟩
            · have h3 : ¬ ((ec : Int) = 0) := by omega
              have fa0 := (KA.out _ B9.out).cell (i := 0) rfl
              have fa1 := (KA.out _ B9.out).cell (i := 1) rfl
              have fa2 := (KA.out _ B9.out).cell (i := 2) rfl
              have fa3 := (KA.out _ B9.out).cell (i := 3) rfl
              have fb0 := (KB.out _ B9.out).cell (i := 0) rfl
              have fb1 := (KB.out _ B9.out).cell (i := 1) rfl
              have fb2 := (KB.out _ B9.out).cell (i := 2) rfl
              have fb3 := (KB.out _ B9.out).cell (i := 3) rfl
              have fc0 := (KC.out _ B9.out).cell (i := 0) rfl
              have fd0 := (KD.out _ B9.out).cell (i := 0) rfl
              go_wp2
              go_ret
              exact ⟨rfl, HIN.out _ B9.out⟩
end Go.Proofs.YtilfpnkcgjonhaaGreatDoor.Pr
namespace Go.Proofs.YtilfpnkcgjonhaaGreatDoor.equal
open Go.ChangeShapes Go.WideShapes Go.ChangeAt Go.RowKit Go.Joins
open Go.ChangeMaps (open_string shut_string)
open Go.Proofs.YtilfpnkcgjonhaaGreatDoor.Pr

set_option maxRecDepth 100000 in
theorem contract (H : Type) (enc : TypeId × Value → H) (W : World) (base : Nat) (args : Array Value) (ds gs : List (DataW H)) (before : List MemPlace)
    (hval : ∀ (j : Nat) t v, Tryz.f9.params[j]? = some t → args[j]? = some v → Value.okWide Tryz.prog W .any base t v)
    (hW : DataW.Whole enc Tryz.prog Tryz.f9.params.toList Rows.printerEqualSpec.vars false W args.toList ds gs before) (hL : laidMetH Tryz.prog Rows.printerEqualRow.laid W) (hsh : W.ShapedOpen Tryz.prog) :
    Calls Tryz.prog 9 args W fun e W' => ∃ v, e = .returned v ∧ Rows.printerEqualSpec.post enc Tryz.prog Tryz.f9 false true false false W args v W' := by
  have hE : Env W := env_of hL hsh
  have hW' := hW
  obtain ⟨p, q, hA0, hV, rfl, hfz, hnd⟩ := hW
  have hA : DataW.TrodAll enc Tryz.prog W 0 (fun _ => true) true Tryz.f9.params.toList args.toList ds p := hA0
  rw [Tryz.params9] at hA hval
  obtain ⟨v0, vs0, d0, ds0, p0, q0, hargs, rfl, rfl, h0, r0⟩ := trodAll_cons hA
  obtain ⟨v1, vs1, d1, ds1, p1, q1, rfl, rfl, rfl, h1, r1⟩ := trodAll_cons r0
  obtain ⟨v2, vs2, d2, ds2, p2, q2, rfl, rfl, rfl, h2, r2⟩ := trodAll_cons r1
  obtain ⟨v3, vs3, d3, ds3, p3, q3, rfl, rfl, rfl, h3, r3⟩ := trodAll_cons r2
  obtain ⟨rfl, rfl, rfl⟩ := trodAll_nil r3
  obtain rfl : args = #[v0, v1, v2, v3] := Array.toList_inj.1 hargs
  obtain ⟨rfl, rfl⟩ := trodVars_none hV
  have k0 := h0
  have lt0 : ∀ x ∈ p0, x.block < W.heap.size := by obtain ⟨m, hm⟩ := k0; exact DataW.trod_lt m _ _ _ hm
  obtain ⟨a0, s0, n0, c0, rfl, l0, w0⟩ := hall_open (hval 0 26 v0 rfl rfl) h0
  have k1 := h1
  have lt1 : ∀ x ∈ p1, x.block < W.heap.size := by obtain ⟨m, hm⟩ := k1; exact DataW.trod_lt m _ _ _ hm
  obtain ⟨a1, s1, n1, c1, rfl, l1, w1⟩ := hall_open (hval 1 26 v1 rfl rfl) h1
  have k2 := h2
  have lt2 : ∀ x ∈ p2, x.block < W.heap.size := by obtain ⟨m, hm⟩ := k2; exact DataW.trod_lt m _ _ _ hm
  obtain ⟨a2, s2, n2, c2, rfl, l2, w2⟩ := rules_open (hval 2 29 v2 rfl rfl) h2
  have k3 := h3
  have lt3 : ∀ x ∈ p3, x.block < W.heap.size := by obtain ⟨m, hm⟩ := k3; exact DataW.trod_lt m _ _ _ hm
  obtain ⟨a3, s3, n3, c3, rfl, l3, w3⟩ := rules_open (hval 3 29 v3 rfl rfl) h3
  refine (equal_walk a0 s0 n0 c0 a1 s1 n1 c1 a2 s2 n2 c2 a3 s3 n3 c3 W l0 w0 l1 w1 l2 w2 l3 w3 hE).mono fun e W' ⟨he, bel⟩ => ?_
  subst he
  exact ⟨_, rfl, _, _, _, [], _, [], hW', trodAll_mk1 (shut_bool Tryz.underlying4 _), (trodAll_cons_mk (Below.trod laidOut (by kernel_rfl) (of_decide_eq_true (by kernel_rfl)) k0 bel lt0) (trodAll_cons_mk (Below.trod laidOut (by kernel_rfl) (of_decide_eq_true (by kernel_rfl)) k1 bel lt1) (trodAll_cons_mk (Below.trod laidOut (by kernel_rfl) (of_decide_eq_true (by kernel_rfl)) k2 bel lt2) (trodAll_cons_mk (Below.trod laidOut (by kernel_rfl) (of_decide_eq_true (by kernel_rfl)) k3 bel lt3) trodAll_mk0)))), rfl, bel.frame _, fun h => by cases h⟩

/-- A start that fits: the door's own heap. -/
theorem laid_met (os : Os) : laidMet Tryz.prog Rows.printerEqualRow.laid ((World.laidAll Tryz.prog os Rows.printerEqualRow.laid).forCall (fun _ _ => 0) ⟨#[], #[.agg #[.string ByteArray.empty, .int .i64 0, .int .i64 0, .slice none 0 0], .agg #[.string ByteArray.empty, .int .i64 0, .int .i64 0, .slice none 0 0], .agg #[.slice none 0 0], .agg #[.slice none 0 0]], []⟩).memory :=
  laidMet_laidAll _ (by kernel_rfl) (by kernel_rfl)
theorem reads (os : Os) {H : Type} (enc : TypeId × Value → H) : ∃ places, DataW.whole enc Tryz.prog ((World.laidAll Tryz.prog os Rows.printerEqualRow.laid).forCall (fun _ _ => 0) ⟨#[], #[.agg #[.string ByteArray.empty, .int .i64 0, .int .i64 0, .slice none 0 0], .agg #[.string ByteArray.empty, .int .i64 0, .int .i64 0, .slice none 0 0], .agg #[.slice none 0 0], .agg #[.slice none 0 0]], []⟩).memory Tryz.f9.params.toList Rows.printerEqualSpec.vars false #[.agg #[.string ByteArray.empty, .int .i64 0, .int .i64 0, .slice none 0 0], .agg #[.string ByteArray.empty, .int .i64 0, .int .i64 0, .slice none 0 0], .agg #[.slice none 0 0], .agg #[.slice none 0 0]].toList 8 = some ([.agg [.lit (.string []), .agg [.lit (.int .i64 0), .lit (.int .i64 0)], .nil], .agg [.lit (.string []), .agg [.lit (.int .i64 0), .lit (.int .i64 0)], .nil], .agg [.nil], .agg [.nil]], [], places) :=
  ⟨[], by kernel_rfl⟩

set_option maxRecDepth 100000 in
theorem lifted (os : Os) (started : os.Started) (H : Type) (enc : TypeId × Value → H) (F : Stop.Interp) :
    ReturnsInHanded {} Tryz.checked os 9 .any ((OpenSpec.ofChange Rows.printerEqualSpec).preRow enc Tryz.prog Tryz.f9 Rows.printerEqualRow.domain false Rows.printerEqualRow.laid) (((OpenSpec.ofChange Rows.printerEqualSpec).at F).post enc Tryz.prog Tryz.f9 false true false false) := by
  obtain ⟨places, hx⟩ := reads os enc
  refine returnsInHanded_of_row (C := Tryz.checked) (s := OpenSpec.ofChange Rows.printerEqualSpec) own started (by kernel_rfl) Tryz.func9
    (witness_row_atRef (enc := enc) (C := Tryz.checked) false (World.laidAll Tryz.prog os Rows.printerEqualRow.laid) #[.agg #[.string ByteArray.empty, .int .i64 0, .int .i64 0, .slice none 0 0], .agg #[.string ByteArray.empty, .int .i64 0, .int .i64 0, .slice none 0 0], .agg #[.slice none 0 0], .agg #[.slice none 0 0]] (World.laidAll_os _ _ _) (by kernel_rfl) (by kernel_rfl) (by kernel_rfl)
      (OpenSpec.preRow_of_cond 8 hx (by kernel_rfl) (fun k hk => by cases hk) (by kernel_rfl) (laid_met os))) ?_
  intro W base args ds gs before hval hW _ _ _ hL hsh _
  exact contract H enc W base args ds gs before hval hW hL hsh

theorem said : Rows.PrinterEqualSaid :=
  OpenClaim.holds_of_cond 9 Tryz.f9 rfl rfl rfl rfl rfl rfl rfl ⟨rfl, rfl, rfl, rfl, rfl⟩ rfl rfl rfl rfl rfl (by kernel_rfl) Tryz.func9 (by kernel_rfl)
    (of_decide_eq_true (by kernel_rfl)) (by unfold Func.isWrapper; first | (rw [if_pos (by decide +kernel)]; kernel_rfl) | (rw [if_neg (by decide +kernel)]; exact ⟨rfl, rfl⟩))
    (fun os started H enc _ F => by rw [OpenClaim.pre_eq_preRow]; exact lifted os started H enc F)

theorem plain (f : FuncId) (fn : Func) (hf : Tryz.pinned.checked.prog.funcNamed Rows.printerEqualRow.func = some f) (hfn : Tryz.pinned.checked.prog.funcs[f]? = some fn) :
    true = Tryz.pinned.checked.prog.looks [] ∧ ∀ (j : Nat) t, fn.params[j]? = some t → Tryz.pinned.checked.prog.wantsStandIn t = false := by
  obtain rfl : f = 9 := Option.some.inj ((show Tryz.prog.funcNamed Rows.printerEqualRow.func = some 9 by kernel_rfl).symm.trans hf) |>.symm
  obtain rfl : fn = Tryz.f9 := (Option.some.inj (Tryz.func9.symm.trans hfn)).symm
  refine ⟨by kernel_rfl, fun j t ht => ?_⟩
  rw [Tryz.params9] at ht
  have hm := Array.mem_of_getElem? ht
  have hall : (Tryz.f9.params.toList.all fun u => !Tryz.prog.wantsStandIn u) = true := by kernel_rfl
  rw [Tryz.params9] at hall
  have := List.all_eq_true.1 hall t (by simpa using hm)
  exact (show Tryz.prog.wantsStandIn t = false by simpa using this)

/-- THE CARD. -/
theorem card : Rows.PrinterEqualCardSaid :=
  Claim7.holds_tied_plain_at .later [] _ _ _ _ said (fun _ h => by cases h) (by kernel_rfl) (fun _ h => by cases h) printerEqual_row_tie rfl ⟨rfl, rfl⟩ (by kernel_rfl) rfl plain (by kernel_rfl)
end Go.Proofs.YtilfpnkcgjonhaaGreatDoor.equal
