/-
  The document's own bounds of halls and rules, as far as names go.
  The document's own bounds of rules, as far as names go.
  Halls and rules that are arguments, opened: what their cells hold.
  What the rows list gives the walks: the table of powers, and the longest length.
-/
import Derived.Test.YtilfpnkcgjonhaaGreatDoorReads
import Derived.Deep.Slices
import Derived.Lib.SmallJoins
import Derived.Test.YtilfpnkcgjonhaaGreatDoorTie
import Derived.Test.YtilfpnkcgjonhaaGreatDoorCards
import Derived.Test.YtilfpnkcgjonhaaGreatDoorWalkNames
import Derived.ProofKit
import Derived.OpenShut
import Derived.LaidMore
import Derived.Stop.LaidErr
import Derived.Deep.DeepHandedRow
import Derived.Deep.DeepWitnessRowRef
import Derived.MakeChecks
import Derived.Carry
namespace Go.Proofs.YtilfpnkcgjonhaaGreatDoor.Pr
open Go.RowKit Go.Sort Foyer.Printer Foyer.Lexer

def nmS (l : List UInt8) : Prop := l.length ≤ 60
def BlockZ.Short (b : BlockZ) : Prop := nmS b.name ∧ ∀ r ∈ b.rows, nmS r.name
structure LevelZ.Short (l : LevelZ) : Prop where
  name : nmS l.name
  areas : ∀ a ∈ l.areas, nmS a.name
  blocks : ∀ b ∈ l.blocks, BlockZ.Short b
def HallZ.Short (h : HallZ) : Prop := nmS h.name ∧ h.levels.length ≤ 60 ∧ ∀ l ∈ h.levels, LevelZ.Short l
theorem take_all {α : Type} {P : α → Prop} {l : List α} {k : Nat} {x : α} (h : ∀ y ∈ l.take k, P y) (hx : l[k]? = some x) (hp : P x) : ∀ y ∈ l.take (k + 1), P y := by
  obtain ⟨h1, h2⟩ := List.getElem?_eq_some_iff.1 hx
  rw [List.take_succ_eq_append_getElem h1, h2]
  intro y hy
  rcases List.mem_append.1 hy with hy | hy
  · exact h y hy
  · rw [List.mem_singleton] at hy; subst hy; exact hp
/-- A truth value that, if it is true, tells something. -/
def Says (e : Ending) (S : Prop) : Prop := ∃ y, e = .returned (.bool y) ∧ (y = true → S)
theorem Says.no {S : Prop} : Says (.returned (.bool false)) S := ⟨false, rfl, fun h => by cases h⟩
theorem Says.yes {S : Prop} (h : S) : Says (.returned (.bool true)) S := ⟨true, rfl, fun _ => h⟩
/-- Bounds of names, as the walks ask them. -/
theorem long_false {n : Nat} (h : n ≤ 60) : decide ((60 : Int) < (n : Int)) = false := by rw [decide_eq_false_iff_not]; omega
theorem long_true {n : Nat} (h : ¬ n ≤ 60) : decide ((60 : Int) < (n : Int)) = true := by rw [decide_eq_true_eq]; omega

set_option linter.unusedSimpArgs false in
set_option maxRecDepth 100000 in
set_option maxHeartbeats 4000000 in
theorem few_any (h0 : HallZ) (p : Option Addr) (n cap : Nat) (w : World) (hm : Lk levelL w w.heap.size (.slice p n cap) h0.levels) :
    Calls Tryz.prog 12 #[.agg #[.string ⟨h0.name.toArray⟩, .int .i64 h0.stage.x, .int .i64 h0.stage.y, .slice p n cap], .int .i64 60] w fun e w' => Says e (HallZ.Short h0) ∧ Below w.heap.size w w' := by
  obtain ⟨name, ⟨sx, sy⟩, levels⟩ := h0
  simp only at hm ⊢
  have hb0 : Below w.heap.size w (w.alloc (.cells #[.string ⟨name.toArray⟩, .int .i64 sx, .int .i64 sy, .slice p n cap] 26)) := (Below.refl _ _).alloc (Nat.le_refl _) _
  have HBK : Hid (∀ wr, Below (w.alloc (.cells #[.string ⟨name.toArray⟩, .int .i64 sx, .int .i64 sy, .slice p n cap] 26)).heap.size (w.alloc (.cells #[.string ⟨name.toArray⟩, .int .i64 sx, .int .i64 sy, .slice p n cap] 26)) wr → Blk wr w.heap.size 26 [.string ⟨name.toArray⟩, .int .i64 sx, .int .i64 sy, .slice p n cap]) := Lib.hid fun wr hb => (hb.block _ (by simp)).trans (Blk.new _ _ _)
  have HL := Lib.hid hm
  obtain ⟨w0, hw0⟩ : ∃ w0, w.alloc (.cells #[.string ⟨name.toArray⟩, .int .i64 sx, .int .i64 sy, .slice p n cap] 26) = w0 := ⟨_, rfl⟩
  rw [hw0] at hb0 HBK
  have HIN : Hid (∀ wr, Below w0.heap.size w0 wr → Below w.heap.size w wr) := Lib.hid fun wr hb => hb0.trans (hb.mono hb0.size)
  have hnb : n ≤ 9223372036854775807 := by have := hm.len.2; unfold maxLen at this; omega
  have hc := HBK.out w0 (Below.refl _ _)
  have c0 := hc.cell (i := 0) rfl
  have c3 := hc.cell (i := 3) rfl
  have HB0 := Lib.hid hb0
  clear hc hb0 hm
  obtain ⟨nl, hnl⟩ : ∃ nl, name.length = nl := ⟨_, rfl⟩
  have hsz : (name.toArray.size : Nat) = nl := by simp [hnl]
  by_cases h1 : n ≤ 60
  · have e1 := long_false h1
    by_cases h2 : nl ≤ 60
    · have e2 := long_false h2
      go_enter Tryz.func12, Tryz.ntmps12
      go_wp2
      go_loopw [5, 6] (fun t i wr => ∃ (k : Nat) (tt : Int), i = .int .i64 k ∧ k ≤ n ∧ t = .int .i64 tt ∧ Hid (∀ l ∈ levels.take k, LevelZ.Short l) ∧ Hid (Below w0.heap.size w0 wr)) (fun _ i _ => n - (intOf i).toNat)
      case atStart => exact ⟨0, 0, rfl, Nat.zero_le _, rfl, Lib.hid (by simp), Lib.hid (Below.refl _ _)⟩
      case round =>
        obtain ⟨k, tt, rfl, hk, rfl, HS, HR⟩ := hrel
        clear c0 c3
        have c3 := (HBK.out _ HR.out).cell (i := 3) rfl
        by_cases hkn : k < n
        · obtain ⟨x, hx⟩ : ∃ x, levels[k]? = some x := ⟨_, List.getElem?_eq_getElem (by have := HL.out.len.1; omega)⟩
          obtain ⟨lb, lo, c, rfl, hlb, hc, hcell⟩ := (HL.out.below (HIN.out _ HR.out)).at hx
          obtain ⟨v1, v2, v3, v4, v5, rfl, hm0⟩ := hc
          obtain ⟨p1, c1, rfl⟩ := hm0.blocks.slice
          obtain ⟨n1, hn1⟩ : ∃ n, x.blocks.length = n := ⟨_, rfl⟩
          rw [hn1] at hm0 hcell
          obtain ⟨p2, c2, rfl⟩ := hm0.areas.slice
          obtain ⟨n2, hn2⟩ : ∃ n, x.areas.length = n := ⟨_, rfl⟩
          rw [hn2] at hm0 hcell
          obtain ⟨p3, c3', rfl⟩ := hm0.aisles.slice
          obtain ⟨n3, hn3⟩ : ∃ n, x.aisles.length = n := ⟨_, rfl⟩
          rw [hn3] at hm0 hcell
          obtain ⟨p4, c4, rfl⟩ := hm0.pillars.slice
          obtain ⟨n4, hn4⟩ : ∃ n, x.pillars.length = n := ⟨_, rfl⟩
          rw [hn4] at hm0 hcell
          obtain ⟨p5, c5, rfl⟩ := hm0.doors.slice
          obtain ⟨n5, hn5⟩ : ∃ n, x.doors.length = n := ⟨_, rfl⟩
          rw [hn5] at hm0 hcell
          have d0 := hcell 0 _ rfl
          have d1 := hcell 1 _ rfl
          have d2 := hcell 2 _ rfl
          have d3 := hcell 3 _ rfl
          have d4 := hcell 4 _ rfl
          have d5 := hcell 5 _ rfl
          have d6 := hcell 6 _ rfl
          have d7 := hcell 7 _ rfl
          rw [show levelL.size = 8 from rfl] at d0 d1 d2 d3 d4 d5 d6 d7
          rw [Nat.add_zero] at d0
          have hki : (0 : Int) ≤ k ∧ (k : Int) < n := by omega
          clear hcell hlb hn1 hn2 hn3 hn4 hn5
          go_upto_region 9 with fail
          have LC : Hid (∀ wz, Below (wr.alloc (.cells #[.string ⟨x.name.toArray⟩, .int .i64 x.height, .slice p1 n1 c1, .slice p2 n2 c2, .slice p3 n3 c3', .slice p4 n4 c4, .slice p5 n5 c5, .int .i64 x.pos] 50)).heap.size (wr.alloc (.cells #[.string ⟨x.name.toArray⟩, .int .i64 x.height, .slice p1 n1 c1, .slice p2 n2 c2, .slice p3 n3 c3', .slice p4 n4 c4, .slice p5 n5 c5, .int .i64 x.pos] 50)) wz → Blk wz wr.heap.size 50 [.string ⟨x.name.toArray⟩, .int .i64 x.height, .slice p1 n1 c1, .slice p2 n2 c2, .slice p3 n3 c3', .slice p4 n4 c4, .slice p5 n5 c5, .int .i64 x.pos]) := Lib.hid fun wz hb => (hb.block _ (by simp)).trans (Blk.new _ _ _)
          have hbl : Below wr.heap.size wr (wr.alloc (.cells #[.string ⟨x.name.toArray⟩, .int .i64 x.height, .slice p1 n1 c1, .slice p2 n2 c2, .slice p3 n3 c3', .slice p4 n4 c4, .slice p5 n5 c5, .int .i64 x.pos] 50)) := (Below.refl _ _).alloc (Nat.le_refl _) _
          have hR2 := HR.out.trans (hbl.mono HR.out.size)
          have hwb : w.heap.size ≤ wr.heap.size := (HIN.out _ HR.out).size
          have hm1 := hm0.kept (hbl.mono hwb).block
          have HA := Lib.hid hm1.areas; have HBL := Lib.hid hm1.blocks
          generalize wr.alloc (.cells #[.string ⟨x.name.toArray⟩, .int .i64 x.height, .slice p1 n1 c1, .slice p2 n2 c2, .slice p3 n3 c3', .slice p4 n4 c4, .slice p5 n5 c5, .int .i64 x.pos] 50) = wl at *
          have HR2 := Lib.hid hR2
          have hlc := LC.out wl (Below.refl _ _)
          have q0 := hlc.cell (i := 0) rfl
          have q2 := hlc.cell (i := 2) rfl
          have q3 := hlc.cell (i := 3) rfl
          obtain ⟨L, hLe⟩ : ∃ L, wr.heap.size = L := ⟨_, rfl⟩
          rw [hLe] at q0 q2 q3
          try rw [hLe]
          generalize wrap64 (tt + wrap64 (wrap64 (wrap64 (wrap64 ((n1 : Int) + n2) + n3) + n4) + n5)) = t2
          have HX := Lib.hid hx
          obtain ⟨ln, hln⟩ : ∃ ln, x.name.length = ln := ⟨_, rfl⟩
          have hlsz : (x.name.toArray.size : Nat) = ln := by simp [hln]
          have HLN := Lib.hid hln
          clear hlc LC hbl hwb hm0 hm1 hR2 hLe HR c3 d0 d1 d2 d3 d4 d5 d6 d7 hx hln
          by_cases ht2 : (240 : Int) < t2
          · have et2 : decide ((240 : Int) < t2) = true := decide_eq_true ht2
            go_wp2
            go_ret
            exact ⟨Says.no, HIN.out _ HR2.out⟩
          · have et2 : decide ((240 : Int) < t2) = false := decide_eq_false ht2
            by_cases hl60 : ln ≤ 60
            · have e3 := long_false hl60
              go_wp2
              go_loop [8] (fun i => ∃ m : Nat, i = .int .i64 m ∧ m ≤ n2 ∧ Hid (∀ a ∈ x.areas.take m, nmS a.name)) (fun i => n2 - (intOf i).toNat)
              case atStart => exact ⟨0, rfl, Nat.zero_le _, Lib.hid (by simp)⟩
              case round =>
                obtain ⟨m, rfl, hm, HSA⟩ := hrel
                have hn2b : n2 ≤ 9223372036854775807 := by have := HA.out.len.2; unfold maxLen at this; omega
                by_cases hmn : m < n2
                · obtain ⟨a, ha⟩ : ∃ a, x.areas[m]? = some a := ⟨_, List.getElem?_eq_getElem (by have := HA.out.len.1; omega)⟩
                  obtain ⟨ab, ao, c, rfl, hab, hc, hcell⟩ := HA.out.at ha
                  obtain rfl := hc
                  have d0 := hcell 0 _ rfl
                  rw [show areaL.size = 7 from rfl, Nat.add_zero] at d0
                  have hmi : (0 : Int) ≤ m ∧ (m : Int) < n2 := by omega
                  obtain ⟨an, han⟩ : ∃ an, a.name.length = an := ⟨_, rfl⟩
                  have hasz : (a.name.toArray.size : Nat) = an := by simp [han]
                  have HAX := Lib.hid ha; have HAN := Lib.hid han
                  clear hcell hab ha han
                  by_cases ha60 : an ≤ 60
                  · have e4 := long_false ha60
                    go_wp2
                    go_round
                    case rel => exact ⟨m + 1, by go_num, by omega, Lib.hid (take_all HSA.out HAX.out (by show _ ≤ _; rw [HAN.out]; exact ha60))⟩
                    case measure => simp [intOf]; omega
                  · have e4 := long_true ha60
                    go_wp2
                    go_ret
                    exact ⟨Says.no, HIN.out _ HR2.out⟩
                · have hmn2 : m = n2 := by omega
                  subst hmn2
                  rw [show x.areas.take m = x.areas from List.take_of_length_le (by have := HA.out.len.1; omega)] at HSA
                  clear hmn hm hn2b
                  go_wp2
                  go_loop [5, 9] (fun t i => ∃ (m : Nat) (tv : Int), i = .int .i64 m ∧ m ≤ n1 ∧ t = .int .i64 tv ∧ Hid (∀ a ∈ x.blocks.take m, BlockZ.Short a)) (fun _ i => n1 - (intOf i).toNat)
                  case atStart => exact ⟨0, t2, rfl, Nat.zero_le _, rfl, Lib.hid (by simp)⟩
                  case round =>
                    obtain ⟨m, tv, rfl, hm, rfl, HSB⟩ := hrel
                    have hn1b : n1 ≤ 9223372036854775807 := by have := HBL.out.len.2; unfold maxLen at this; omega
                    by_cases hmn : m < n1
                    · obtain ⟨bk, hbk⟩ : ∃ a, x.blocks[m]? = some a := ⟨_, List.getElem?_eq_getElem (by have := HBL.out.len.1; omega)⟩
                      obtain ⟨bb, bo, c, rfl, hbb, hc, hcell⟩ := HBL.out.at hbk
                      obtain ⟨v6, rfl, hmr⟩ := hc
                      obtain ⟨p6, c6, rfl⟩ := hmr.slice
                      obtain ⟨n6, hn6⟩ : ∃ n, bk.rows.length = n := ⟨_, rfl⟩
                      rw [hn6] at hmr hcell
                      have d0 := hcell 0 _ rfl
                      have d1 := hcell 1 _ rfl
                      rw [show blockL.size = 3 from rfl] at d0 d1
                      rw [Nat.add_zero] at d0
                      have hmi : (0 : Int) ≤ m ∧ (m : Int) < n1 := by omega
                      obtain ⟨bn, hbn⟩ : ∃ an, bk.name.length = an := ⟨_, rfl⟩
                      have hbsz : (bk.name.toArray.size : Nat) = bn := by simp [hbn]
                      have HBX := Lib.hid hbk; have HBN := Lib.hid hbn; have HMR := Lib.hid hmr
                      clear hcell hbb hbk hbn hn6 hmr
                      go_upto_region 20 with fail
                      generalize wrap64 (tv + (n6 : Int)) = t3
                      by_cases ht3 : (240 : Int) < t3
                      · have et3 : decide ((240 : Int) < t3) = true := decide_eq_true ht3
                        go_wp2
                        go_ret
                        exact ⟨Says.no, HIN.out _ HR2.out⟩
                      · have et3 : decide ((240 : Int) < t3) = false := decide_eq_false ht3
                        by_cases hb60 : bn ≤ 60
                        · have e5 := long_false hb60
                          go_wp2
                          go_loop [5, 10] (fun t i => ∃ (j : Nat) (tw : Int), i = .int .i64 j ∧ j ≤ n6 ∧ t = .int .i64 tw ∧ Hid (∀ a ∈ bk.rows.take j, nmS a.name)) (fun _ i => n6 - (intOf i).toNat)
                          case atStart => exact ⟨0, t3, rfl, Nat.zero_le _, rfl, Lib.hid (by simp)⟩
                          case round =>
                            obtain ⟨j, tw, rfl, hj, rfl, HSR⟩ := hrel
                            have hn6b : n6 ≤ 9223372036854775807 := by have := HMR.out.len.2; unfold maxLen at this; omega
                            by_cases hjn : j < n6
                            · obtain ⟨r, hr⟩ : ∃ a, bk.rows[j]? = some a := ⟨_, List.getElem?_eq_getElem (by have := HMR.out.len.1; omega)⟩
                              obtain ⟨rb, ro, c, rfl, hrb, hc, hcell⟩ := HMR.out.at hr
                              obtain ⟨v7, rfl, hmm⟩ := hc
                              obtain ⟨p7, c7, rfl⟩ := hmm.slice
                              obtain ⟨n7, hn7⟩ : ∃ n, r.marks.length = n := ⟨_, rfl⟩
                              rw [hn7] at hmm hcell
                              have f0 := hcell 0 _ rfl
                              have f6 := hcell 6 _ rfl
                              rw [show rowL.size = 8 from rfl] at f0 f6
                              rw [Nat.add_zero] at f0
                              have hji : (0 : Int) ≤ j ∧ (j : Int) < n6 := by omega
                              obtain ⟨rn, hrn⟩ : ∃ an, r.name.length = an := ⟨_, rfl⟩
                              have hrsz : (r.name.toArray.size : Nat) = rn := by simp [hrn]
                              have HRX := Lib.hid hr; have HRN := Lib.hid hrn
                              clear hcell hrb hr hrn hn7 hmm
                              go_upto_region 26 with fail
                              generalize wrap64 (tw + (n7 : Int)) = t4
                              by_cases ht4 : (240 : Int) < t4
                              · have et4 : decide ((240 : Int) < t4) = true := decide_eq_true ht4
                                go_wp2
                                go_ret
                                exact ⟨Says.no, HIN.out _ HR2.out⟩
                              · have et4 : decide ((240 : Int) < t4) = false := decide_eq_false ht4
                                by_cases hr60 : rn ≤ 60
                                · have e6 := long_false hr60
                                  go_wp2
                                  go_round
                                  case rel => exact ⟨j + 1, t4, by go_num, by omega, rfl, Lib.hid (take_all HSR.out HRX.out (by show _ ≤ _; rw [HRN.out]; exact hr60))⟩
                                  case measure => simp [intOf]; omega
                                · have e6 := long_true hr60
                                  go_wp2
                                  go_ret
                                  exact ⟨Says.no, HIN.out _ HR2.out⟩
                            · have hjn2 : j = n6 := by omega
                              subst hjn2
                              rw [show bk.rows.take j = bk.rows from List.take_of_length_le (by have := HMR.out.len.1; omega)] at HSR
                              clear hjn hj hn6b
                              go_wp2
                              go_round
                              case rel => exact ⟨m + 1, tw, by go_num, by omega, rfl, Lib.hid (take_all HSB.out HBX.out ⟨by show _ ≤ _; rw [HBN.out]; exact hb60, HSR.out⟩)⟩
                              case measure => simp [intOf]; omega
                        · have e5 := long_true hb60
                          go_wp2
                          go_ret
                          exact ⟨Says.no, HIN.out _ HR2.out⟩
                    · have hmn2 : m = n1 := by omega
                      subst hmn2
                      rw [show x.blocks.take m = x.blocks from List.take_of_length_le (by have := HBL.out.len.1; omega)] at HSB
                      clear hmn hm hn1b
                      go_wp2
                      go_roundw
                      case rel => exact ⟨k + 1, tv, by go_num, by omega, rfl, Lib.hid (take_all HS.out HX.out ⟨by show _ ≤ _; rw [HLN.out]; exact hl60, HSA.out, HSB.out⟩), HR2⟩
                      case measure => simp [intOf]; omega
            · have e3 := long_true hl60
              go_wp2
              go_ret
              exact ⟨Says.no, HIN.out _ HR2.out⟩
        · have hkn2 : k = n := by omega
          subst hkn2
          rw [show levels.take k = levels from List.take_of_length_le (by have := HL.out.len.1; omega)] at HS
          go_wp2
          go_ret
          exact ⟨Says.yes ⟨by show _ ≤ _; rw [hnl]; exact h2, by show levels.length ≤ 60; have := HL.out.len.1; omega, HS.out⟩, HIN.out _ HR.out⟩
    · have e2 := long_true h2
      go_enter Tryz.func12, Tryz.ntmps12
      go_wp2
      go_ret
      exact ⟨Says.no, HB0.out⟩
  · have e1 := long_true h1
    go_enter Tryz.func12, Tryz.ntmps12
    go_wp2
    go_ret
    exact ⟨Says.no, HB0.out⟩
end Go.Proofs.YtilfpnkcgjonhaaGreatDoor.Pr
namespace Go.Proofs.YtilfpnkcgjonhaaGreatDoor.Pr
open Go.RowKit Go.Sort Foyer.Printer Foyer.Lexer

def TestZ.Short (t : TestZ) : Prop := nmS t.attr ∧ nmS t.name
structure ItemZ.Short (x : ItemZ) : Prop where
  name : nmS x.name
  conds : x.conds.length ≤ 20
  tests : ∀ l ∈ x.conds, ∀ t ∈ l, TestZ.Short t
def ShortR (l : List ItemZ) : Prop := l.length ≤ 60 ∧ ∀ x ∈ l, ItemZ.Short x

set_option linter.unusedSimpArgs false in
set_option maxRecDepth 100000 in
set_option maxHeartbeats 4000000 in
theorem fewR_any (l : List ItemZ) (p : Option Addr) (n cap : Nat) (w : World) (hm : Lk itemL w w.heap.size (.slice p n cap) l) :
    Calls Tryz.prog 13 #[.agg #[.slice p n cap], .int .i64 60] w fun e w' => Says e (ShortR l) ∧ Below w.heap.size w w' := by
  have hb0 : Below w.heap.size w (w.alloc (.cells #[.slice p n cap] 29)) := (Below.refl _ _).alloc (Nat.le_refl _) _
  have HBK : Hid (∀ wr, Below (w.alloc (.cells #[.slice p n cap] 29)).heap.size (w.alloc (.cells #[.slice p n cap] 29)) wr → Blk wr w.heap.size 29 [.slice p n cap]) := Lib.hid fun wr hb => (hb.block _ (by simp)).trans (Blk.new _ _ _)
  have HL := Lib.hid hm
  obtain ⟨w0, hw0⟩ : ∃ w0, w.alloc (.cells #[.slice p n cap] 29) = w0 := ⟨_, rfl⟩
  rw [hw0] at hb0 HBK
  have HIN : Hid (∀ wr, Below w0.heap.size w0 wr → Below w.heap.size w wr) := Lib.hid fun wr hb => hb0.trans (hb.mono hb0.size)
  have hnb : n ≤ 9223372036854775807 := by have := hm.len.2; unfold maxLen at this; omega
  have hc := HBK.out w0 (Below.refl _ _)
  have c0 := hc.cell (i := 0) rfl
  have HB0 := Lib.hid hb0
  clear hc hb0 hm
  by_cases h1 : n ≤ 60
  · have e1 := long_false h1
    go_enter Tryz.func13, Tryz.ntmps13
    go_wp2
    go_loopw [5, 6] (fun t i wr => ∃ (k : Nat) (tt : Int), i = .int .i64 k ∧ k ≤ n ∧ t = .int .i64 tt ∧ Hid (∀ x ∈ l.take k, ItemZ.Short x) ∧ Hid (Below w0.heap.size w0 wr)) (fun _ i _ => n - (intOf i).toNat)
    case atStart => exact ⟨0, 0, rfl, Nat.zero_le _, rfl, Lib.hid (by simp), Lib.hid (Below.refl _ _)⟩
    case round =>
      obtain ⟨k, tt, rfl, hk, rfl, HS, HR⟩ := hrel
      clear c0
      have c0 := (HBK.out _ HR.out).cell (i := 0) rfl
      by_cases hkn : k < n
      · obtain ⟨x, hx⟩ : ∃ x, l[k]? = some x := ⟨_, List.getElem?_eq_getElem (by have := HL.out.len.1; omega)⟩
        obtain ⟨lb, lo, c, rfl, hlb, hc, hcell⟩ := (HL.out.below (HIN.out _ HR.out)).at hx
        obtain ⟨v1, rfl, hm0⟩ := hc
        obtain ⟨p1, c1, rfl⟩ := hm0.slice
        obtain ⟨n1, hn1⟩ : ∃ n, x.conds.length = n := ⟨_, rfl⟩
        rw [hn1] at hm0 hcell
        have d0 := hcell 0 _ rfl
        have d1 := hcell 1 _ rfl
        have d2 := hcell 2 _ rfl
        have d3 := hcell 3 _ rfl
        have d4 := hcell 4 _ rfl
        have d5 := hcell 5 _ rfl
        have d6 := hcell 6 _ rfl
        have d7 := hcell 7 _ rfl
        have d8 := hcell 8 _ rfl
        rw [show itemL.size = 9 from rfl] at d0 d1 d2 d3 d4 d5 d6 d7 d8
        rw [Nat.add_zero] at d0
        have hki : (0 : Int) ≤ k ∧ (k : Int) < n := by omega
        clear hcell hlb
        go_upto_region 8 with fail
        have LC : Hid (∀ wz, Below (wr.alloc (.cells #[.int .i64 x.kind, .string ⟨x.name.toArray⟩, .slice p1 n1 c1, .int .i64 x.n, .int .i64 x.r.num, .int .i64 x.r.den, .int .i64 x.s.num, .int .i64 x.s.den, .int .i64 x.pos] 66)).heap.size (wr.alloc (.cells #[.int .i64 x.kind, .string ⟨x.name.toArray⟩, .slice p1 n1 c1, .int .i64 x.n, .int .i64 x.r.num, .int .i64 x.r.den, .int .i64 x.s.num, .int .i64 x.s.den, .int .i64 x.pos] 66)) wz → Blk wz wr.heap.size 66 [.int .i64 x.kind, .string ⟨x.name.toArray⟩, .slice p1 n1 c1, .int .i64 x.n, .int .i64 x.r.num, .int .i64 x.r.den, .int .i64 x.s.num, .int .i64 x.s.den, .int .i64 x.pos]) := Lib.hid fun wz hb => (hb.block _ (by simp)).trans (Blk.new _ _ _)
        have hbl : Below wr.heap.size wr (wr.alloc (.cells #[.int .i64 x.kind, .string ⟨x.name.toArray⟩, .slice p1 n1 c1, .int .i64 x.n, .int .i64 x.r.num, .int .i64 x.r.den, .int .i64 x.s.num, .int .i64 x.s.den, .int .i64 x.pos] 66)) := (Below.refl _ _).alloc (Nat.le_refl _) _
        have hR2 := HR.out.trans (hbl.mono HR.out.size)
        have hwb : w.heap.size ≤ wr.heap.size := (HIN.out _ HR.out).size
        have HCS := Lib.hid (hm0.kept (hbl.mono hwb).block)
        generalize wr.alloc (.cells #[.int .i64 x.kind, .string ⟨x.name.toArray⟩, .slice p1 n1 c1, .int .i64 x.n, .int .i64 x.r.num, .int .i64 x.r.den, .int .i64 x.s.num, .int .i64 x.s.den, .int .i64 x.pos] 66) = wl at *
        have HR2 := Lib.hid hR2
        have hlc := LC.out wl (Below.refl _ _)
        have q1 := hlc.cell (i := 1) rfl
        have q2 := hlc.cell (i := 2) rfl
        obtain ⟨L, hLe⟩ : ∃ L, wr.heap.size = L := ⟨_, rfl⟩
        rw [hLe] at q1 q2
        try rw [hLe]
        have HX := Lib.hid hx
        have HN1 := Lib.hid hn1
        obtain ⟨ln, hln⟩ : ∃ ln, x.name.length = ln := ⟨_, rfl⟩
        have hlsz : (x.name.toArray.size : Nat) = ln := by simp [hln]
        have HLN := Lib.hid hln
        clear hlc LC hbl hwb hm0 hR2 hLe HR c0 d0 d1 d2 d3 d4 d5 d6 d7 d8 hx hln hn1
        by_cases hl60 : ln ≤ 60
        · have e2 := long_false hl60
          by_cases hl20 : n1 ≤ 20
          · have e3 : decide ((20 : Int) < (n1 : Int)) = false := by rw [decide_eq_false_iff_not]; omega
            go_wp2
            go_loop [5, 8] (fun t i => ∃ (m : Nat) (tv : Int), i = .int .i64 m ∧ m ≤ n1 ∧ t = .int .i64 tv ∧ Hid (∀ a ∈ x.conds.take m, ∀ t ∈ a, TestZ.Short t)) (fun _ i => n1 - (intOf i).toNat)
            case atStart => exact ⟨0, tt, rfl, Nat.zero_le _, rfl, Lib.hid (by simp)⟩
            case round =>
              obtain ⟨m, tv, rfl, hm, rfl, HSC⟩ := hrel
              by_cases hmn : m < n1
              · obtain ⟨a, ha⟩ : ∃ a, x.conds[m]? = some a := ⟨_, List.getElem?_eq_getElem (by have := HN1.out; omega)⟩
                obtain ⟨ab, ao, c, rfl, hab, hc, hcell⟩ := HCS.out.at ha
                obtain ⟨v2, rfl, hmt⟩ := hc
                obtain ⟨p2, c2, rfl⟩ := hmt.slice
                obtain ⟨n2, hn2⟩ : ∃ n, a.length = n := ⟨_, rfl⟩
                rw [hn2] at hmt hcell
                have d0 := hcell 0 _ rfl
                rw [show testsL.size = 1 from rfl, Nat.add_zero, Nat.mul_one] at d0
                have hmi : (0 : Int) ≤ m ∧ (m : Int) < n1 := by omega
                have HAX := Lib.hid ha; have HMT := Lib.hid hmt; have HN2 := Lib.hid hn2
                clear hcell hab ha hmt hn2
                go_upto_region 14 with fail
                generalize wrap64 (tv + (n2 : Int)) = t2
                by_cases ht2 : (240 : Int) < t2
                · have et2 : decide ((240 : Int) < t2) = true := decide_eq_true ht2
                  go_wp2
                  go_ret
                  exact ⟨Says.no, HIN.out _ HR2.out⟩
                · have et2 : decide ((240 : Int) < t2) = false := decide_eq_false ht2
                  go_wp2
                  go_loop [9] (fun i => ∃ j : Nat, i = .int .i64 j ∧ j ≤ n2 ∧ Hid (∀ t ∈ a.take j, TestZ.Short t)) (fun i => n2 - (intOf i).toNat)
                  case atStart => exact ⟨0, rfl, Nat.zero_le _, Lib.hid (by simp)⟩
                  case round =>
                    obtain ⟨j, rfl, hj, HST⟩ := hrel
                    have hn2b : n2 ≤ 9223372036854775807 := by have := HMT.out.len.2; unfold maxLen at this; omega
                    by_cases hjn : j < n2
                    · obtain ⟨t, ht⟩ : ∃ t, a[j]? = some t := ⟨_, List.getElem?_eq_getElem (by have := HN2.out; omega)⟩
                      obtain ⟨tb, tof, c, rfl, htb, hc, hcell⟩ := HMT.out.at ht
                      obtain rfl := hc
                      have f0 := hcell 0 _ rfl
                      have f2 := hcell 2 _ rfl
                      rw [show testL.size = 5 from rfl] at f0 f2
                      rw [Nat.add_zero] at f0
                      have hji : (0 : Int) ≤ j ∧ (j : Int) < n2 := by omega
                      obtain ⟨an, han⟩ : ∃ an, t.attr.length = an := ⟨_, rfl⟩
                      have hasz : (t.attr.toArray.size : Nat) = an := by simp [han]
                      obtain ⟨tn, htn⟩ : ∃ tn, t.name.length = tn := ⟨_, rfl⟩
                      have htsz : (t.name.toArray.size : Nat) = tn := by simp [htn]
                      have HTX := Lib.hid ht; have HAN := Lib.hid han; have HTN := Lib.hid htn
                      clear hcell htb ht han htn
                      by_cases ha60 : an ≤ 60
                      · have e4 := long_false ha60
                        by_cases ht60 : tn ≤ 60
                        · have e5 := long_false ht60
                          go_wp2
                          go_round
                          case rel => exact ⟨j + 1, by go_num, by omega, Lib.hid (take_all HST.out HTX.out ⟨by show _ ≤ _; rw [HAN.out]; exact ha60, by show _ ≤ _; rw [HTN.out]; exact ht60⟩)⟩
                          case measure => simp [intOf]; omega
                        · have e5 := long_true ht60
                          go_wp2
                          go_ret
                          exact ⟨Says.no, HIN.out _ HR2.out⟩
                      · have e4 := long_true ha60
                        go_wp2
                        go_ret
                        exact ⟨Says.no, HIN.out _ HR2.out⟩
                    · have hjn2 : j = n2 := by omega
                      subst hjn2
                      rw [show a.take j = a from List.take_of_length_le (by have := HN2.out; omega)] at HST
                      clear hjn hj hn2b
                      go_wp2
                      go_round
                      case rel => exact ⟨m + 1, t2, by go_num, by omega, rfl, Lib.hid (take_all HSC.out HAX.out HST.out)⟩
                      case measure => simp [intOf]; omega
              · have hmn2 : m = n1 := by omega
                subst hmn2
                rw [show x.conds.take m = x.conds from List.take_of_length_le (by have := HN1.out; omega)] at HSC
                clear hmn hm
                go_wp2
                go_roundw
                case rel => exact ⟨k + 1, tv, by go_num, by omega, rfl, Lib.hid (take_all HS.out HX.out ⟨by show _ ≤ _; rw [HLN.out]; exact hl60, by rw [HN1.out]; exact hl20, HSC.out⟩), HR2⟩
                case measure => simp [intOf]; omega
          · have e3 : decide ((20 : Int) < (n1 : Int)) = true := by rw [decide_eq_true_eq]; omega
            go_wp2
            go_ret
            exact ⟨Says.no, HIN.out _ HR2.out⟩
        · have e2 := long_true hl60
          go_wp2
          go_ret
          exact ⟨Says.no, HIN.out _ HR2.out⟩
      · have hkn2 : k = n := by omega
        subst hkn2
        rw [show l.take k = l from List.take_of_length_le (by have := HL.out.len.1; omega)] at HS
        go_wp2
        go_ret
        exact ⟨Says.yes ⟨by have := HL.out.len.1; omega, HS.out⟩, HIN.out _ HR.out⟩
  · have e1 := long_true h1
    go_enter Tryz.func13, Tryz.ntmps13
    go_wp2
    go_ret
    exact ⟨Says.no, HB0.out⟩
end Go.Proofs.YtilfpnkcgjonhaaGreatDoor.Pr
namespace Go.Proofs.YtilfpnkcgjonhaaGreatDoor.Pr
open Go.RowKit Go.Sort Foyer.Printer Foyer.Lexer Go.ChangeShapes Go.WideShapes

/-! ### Numbers in their range, whatever the names are -/
def AreaZ.Wide (a : AreaZ) : Prop := BoxZ.Fit a.box ∧ intOk a.holds
structure RowZ.Wide (r : RowZ) : Prop where
  x : intOk r.x
  y : intOk r.y
  first : intOk r.first
  last : intOk r.last
  step : intOk r.step
  marks : ∀ m ∈ r.marks, MarkZ.Fit m
def BlockZ.Wide (b : BlockZ) : Prop := ∀ r ∈ b.rows, RowZ.Wide r
structure LevelZ.Wide (l : LevelZ) : Prop where
  height : intOk l.height
  blocks : ∀ x ∈ l.blocks, BlockZ.Wide x
  areas : ∀ x ∈ l.areas, AreaZ.Wide x
  aisles : ∀ x ∈ l.aisles, BoxZ.Fit x
  pillars : ∀ x ∈ l.pillars, BoxZ.Fit x
  doors : ∀ x ∈ l.doors, PointZ.Fit x
def HallZ.Wide (h : HallZ) : Prop := PointZ.Fit h.stage ∧ ∀ l ∈ h.levels, LevelZ.Wide l
def TestZ.Wide (t : TestZ) : Prop := intOk t.op ∧ intOk t.n
structure ItemZ.Wide (x : ItemZ) : Prop where
  kind : intOk x.kind
  conds : ∀ l ∈ x.conds, ∀ t ∈ l, TestZ.Wide t
  n : intOk x.n
  r : RatioZ.Fit x.r
  s : RatioZ.Fit x.s
def WideR (l : List ItemZ) : Prop := ∀ x ∈ l, ItemZ.Wide x
theorem nmOk_of {l : List UInt8} (h : nmS l) : nmOk l := Nat.le_trans h (by decide)
theorem HallZ.fit {h : HallZ} (hw : HallZ.Wide h) (hs : HallZ.Short h) : HallZ.Fit h :=
  ⟨nmOk_of hs.1, hw.1, fun l hl => ⟨nmOk_of (hs.2.2 l hl).name, (hw.2 l hl).height,
    fun b hb => ⟨nmOk_of ((hs.2.2 l hl).blocks b hb).1, fun r hr => ⟨nmOk_of (((hs.2.2 l hl).blocks b hb).2 r hr), ((hw.2 l hl).blocks b hb r hr).x, ((hw.2 l hl).blocks b hb r hr).y, ((hw.2 l hl).blocks b hb r hr).first, ((hw.2 l hl).blocks b hb r hr).last, ((hw.2 l hl).blocks b hb r hr).step, ((hw.2 l hl).blocks b hb r hr).marks⟩⟩,
    fun a ha => ⟨nmOk_of ((hs.2.2 l hl).areas a ha), ((hw.2 l hl).areas a ha).1, ((hw.2 l hl).areas a ha).2⟩,
    (hw.2 l hl).aisles, (hw.2 l hl).pillars, (hw.2 l hl).doors⟩⟩
theorem fitR {l : List ItemZ} (hw : WideR l) (hs : ShortR l) : ∀ x ∈ l, ItemZ.Fit x := fun x hx =>
  ⟨(hw x hx).kind, nmOk_of (hs.2 x hx).name, fun c hc t ht => ⟨nmOk_of ((hs.2 x hx).tests c hc t ht).1, ((hw x hx).conds c hc t ht).1, nmOk_of ((hs.2 x hx).tests c hc t ht).2, ((hw x hx).conds c hc t ht).2⟩, (hw x hx).n, (hw x hx).r, (hw x hx).s⟩

/-! ### Opening -/
def Op {α : Type} (K : Look α) (F : α → Prop) (t : TypeId) : Prop :=
  ∀ {H : Type} (enc : TypeId × Value → H) (W : World) (spare : Nat → Bool) (held : Bool) (fuel : Nat) (cs : List Value) (x : DataW H × List MemPlace),
    DataW.trod enc Tryz.prog W 0 spare held fuel t cs = some x → ∃ a, K.is W W.heap.size cs a ∧ F a
def OpL {α : Type} (K : Look α) (F : α → Prop) (t : TypeId) : Prop :=
  ∀ {H : Type} (enc : TypeId × Value → H) (W : World) (spare : Nat → Bool) (held : Bool) (fuel : Nat) (cs : List Value) (x : DataW H × List MemPlace),
    DataW.trod enc Tryz.prog W 0 spare held fuel t cs = some x → ∃ v xs, cs = [v] ∧ Lk K W W.heap.size v xs ∧ ∀ y ∈ xs, F y
theorem list_of {α : Type} {P : Nat → α → Prop} : ∀ (n : Nat), (∀ i, i < n → ∃ y, P i y) → ∃ l : List α, l.length = n ∧ ∀ i y, l[i]? = some y → P i y
  | 0, _ => ⟨[], rfl, fun i y h => by simp at h⟩
  | n + 1, h => by
    obtain ⟨l, hl, hp⟩ := list_of n fun i hi => h i (Nat.lt_succ_of_lt hi)
    obtain ⟨y, hy⟩ := h n (Nat.lt_succ_self n)
    refine ⟨l ++ [y], by simp [hl], fun i z hz => ?_⟩
    by_cases hi : i < l.length
    · rw [List.getElem?_append_left hi] at hz; exact hp i z hz
    · rw [List.getElem?_append_right (by omega)] at hz
      have : i - l.length = 0 := by
        have := (List.getElem?_eq_some_iff.1 hz).1
        simp at this; omega
      rw [this] at hz
      obtain rfl : y = z := by simpa using hz
      rw [show i = n by omega]
      exact hy
theorem spot_none {W : World} {b o : Nat} {s : Option _} {v : Value} (h : W.cell? ⟨b, o, s⟩ = some v) : s = none := by
  unfold World.cell? at h
  cases s with
  | none => rfl
  | some _ => split at h <;> simp at h
theorem slice_op {α : Type} {K : Look α} {F : α → Prop} {t e : TypeId} (ht : Tryz.prog.underlying t = some (.slice e)) (hc : Tryz.prog.cellsOf e = K.size) (hpos : 0 < K.size) (hk : Op K F e) : OpL K F t := by
  intro H enc W spare held fuel cs x h
  rcases Go.Deep.open_slice ht h with ⟨rfl, _⟩ | ⟨a, len, cap, m, n, D, Pl, rfl, _, hl, hm, hmm, _, hx⟩
  · exact ⟨_, [], rfl, ⟨none, 0, rfl, Nat.le_refl _, Nat.zero_le _, Or.inl rfl⟩, by simp⟩
  · have hlm : len ≤ m := by rw [hmm]; split <;> omega
    have each : ∀ i, i < len → ∃ y : α, (∃ c, K.is W W.heap.size c y ∧ ∀ j u, c[j]? = some u → W.cell? (a.add (i * K.size + j)) = some u) ∧ F y := by
      intro i hi
      obtain ⟨cs', h1, h2⟩ := hx i (by omega)
      obtain ⟨_, hlen, hcell⟩ := World.cells?_some h1
      obtain ⟨y, hy, hF⟩ := hk enc W spare held n cs' _ h2
      refine ⟨y, ⟨cs', hy, fun j u hj => ?_⟩, hF⟩
      have := hcell j (by have := (List.getElem?_eq_some_iff.1 hj).1; omega)
      rw [hc, Go.Deep.add_add] at this
      rw [this]; exact hj
    obtain ⟨l, hll, hl2⟩ := list_of len each
    refine ⟨_, l, rfl, ⟨some a, cap, by rw [hll], by omega, hm, ?_⟩, fun y hy => ?_⟩
    · cases l with
      | nil => exact Or.inl rfl
      | cons y r =>
        right
        obtain ⟨⟨c, hc1, hc2⟩, _⟩ := hl2 0 y rfl
        have hcl := K.len hc1
        obtain ⟨u, hu⟩ : ∃ u, c[0]? = some u := ⟨_, List.getElem?_eq_getElem (by omega)⟩
        have h0 := hc2 0 u hu
        rw [Nat.zero_mul, Nat.add_zero] at h0
        obtain ⟨ab, ao, asp⟩ := a
        have h0' : W.cell? ⟨ab, ao, asp⟩ = some u := h0
        obtain rfl := spot_none h0'
        refine ⟨ab, ao, rfl, lt_of_cell h0', fun i z hz => ?_⟩
        obtain ⟨⟨c', k1, k2⟩, _⟩ := hl2 i z hz
        refine ⟨c', k1, fun j u hj => ?_⟩
        have := k2 j u hj
        rw [add_plain] at this
        rw [Nat.add_assoc]; exact this
    · obtain ⟨i, hi⟩ := List.getElem?_of_mem hy
      exact (hl2 i y hi).2
section
variable {H : Type} {enc : TypeId × Value → H} {W : World} {spare : Nat → Bool} {held : Bool} {n i o : Nat} {cs : List Value} {xs : List (DataW H × List MemPlace)}
theorem one_of {cs : List Value} {o : Nat} {v : Value} (h : (cs.drop o).take 1 = [v]) : cs[o]? = some v := by
  have := congrArg (fun l => l[0]?) h
  simpa using this
theorem fld_some {t : TypeId} {c : List Value} (g : DataW.trod enc Tryz.prog W 0 spare held n t c = xs[i]?) (hi : i < xs.length) : ∃ y, DataW.trod enc Tryz.prog W 0 spare held n t c = some y :=
  ⟨_, g.trans (List.getElem?_eq_getElem hi)⟩
theorem int_ok {z : Int} (h : (Lit.int .i64 z).wf = true) : intOk z := by
  have : (decide (IntKind.i64.min ≤ z) && decide (z ≤ IntKind.i64.max)) = true := h
  rw [Bool.and_eq_true, decide_eq_true_eq, decide_eq_true_eq] at this
  exact ⟨this.1, this.2⟩
theorem fld_int (g : DataW.trod enc Tryz.prog W 0 spare held n 3 ((cs.drop o).take (Tryz.prog.cellsOf 3)) = xs[i]?) (hi : i < xs.length) : ∃ z, cs[o]? = some (.int .i64 z) ∧ intOk z := by
  obtain ⟨y, hy⟩ := fld_some g hi
  rw [show Tryz.prog.cellsOf 3 = 1 by kernel_rfl] at hy
  obtain ⟨z, e, _, hw⟩ := DataW.trod_int Tryz.underlying3 hy
  exact ⟨z, one_of e, int_ok hw⟩
theorem fld_str (g : DataW.trod enc Tryz.prog W 0 spare held n 9 ((cs.drop o).take (Tryz.prog.cellsOf 9)) = xs[i]?) (hi : i < xs.length) : ∃ l : List UInt8, cs[o]? = some (.string ⟨l.toArray⟩) := by
  obtain ⟨y, hy⟩ := fld_some g hi
  rw [show Tryz.prog.cellsOf 9 = 1 by kernel_rfl] at hy
  obtain ⟨s, e, _, _⟩ := DataW.trod_string Tryz.underlying9 hy
  exact ⟨s.data.toList, one_of e⟩
theorem fld_lst {α : Type} {K : Look α} {F : α → Prop} {t : TypeId} (hk : OpL K F t) (hc : Tryz.prog.cellsOf t = 1) (g : DataW.trod enc Tryz.prog W 0 spare held n t ((cs.drop o).take (Tryz.prog.cellsOf t)) = xs[i]?) (hi : i < xs.length) :
    ∃ v l, cs[o]? = some v ∧ Lk K W W.heap.size v l ∧ ∀ y ∈ l, F y := by
  obtain ⟨y, hy⟩ := fld_some g hi
  rw [hc] at hy
  obtain ⟨v, l, e, h1, h2⟩ := hk enc W spare held n _ _ hy
  exact ⟨v, l, one_of e, h1, h2⟩
theorem fld_sub {α : Type} {K : α → List Value} {N : Nat} {h1 : ∀ a, (K a).length = N} {h2 : ∀ a, ∀ u ∈ K a, u.oneCell' = true} {F : α → Prop} {t : TypeId} {k : Nat} (hk : Op (plainL K N h1 h2) F t) (hc : Tryz.prog.cellsOf t = k) (g : DataW.trod enc Tryz.prog W 0 spare held n t ((cs.drop o).take (Tryz.prog.cellsOf t)) = xs[i]?) (hi : i < xs.length) :
    ∃ a, (cs.drop o).take k = K a ∧ F a := by
  obtain ⟨y, hy⟩ := fld_some g hi
  rw [hc] at hy
  exact hk enc W spare held n _ _ hy
end
def ratioZC (r : RatioZ) : List Value := [.int .i64 r.num, .int .i64 r.den]
def ratioL : Look RatioZ := plainL ratioZC 2 (fun _ => rfl) (fun a u hu => by simp only [ratioZC, List.mem_cons, List.not_mem_nil, or_false] at hu; rcases hu with rfl | rfl <;> rfl)

theorem mark_op : Op markL MarkZ.Fit 72 := by
  intro H enc W spare held fuel cs x h
  obtain ⟨xs, n, _, _, hl, hxs, hf⟩ := DataW.trod_struct Tryz.underlying72 h
  rw [show Tryz.prog.cellsOf 72 = 3 by kernel_rfl] at hl
  replace hxs : xs.length = 3 := hxs
  obtain ⟨z0, e0, w0⟩ := fld_int (hf 0 _ rfl) (by omega)
  obtain ⟨z1, e1, w1⟩ := fld_int (hf 1 _ rfl) (by omega)
  obtain ⟨z2, e2, w2⟩ := fld_int (hf 2 _ rfl) (by omega)
  clear hf h
  match cs, hl with
  | [c0, c1, c2], _ =>
    obtain rfl := Option.some.inj e0
    obtain rfl := Option.some.inj e1
    obtain rfl := Option.some.inj e2
    exact ⟨⟨z0, z1, z2⟩, rfl, ⟨w0, w1, w2⟩⟩

theorem box_op : Op boxL BoxZ.Fit 74 := by
  intro H enc W spare held fuel cs x h
  obtain ⟨xs, n, _, _, hl, hxs, hf⟩ := DataW.trod_struct Tryz.underlying74 h
  rw [show Tryz.prog.cellsOf 74 = 4 by kernel_rfl] at hl
  replace hxs : xs.length = 4 := hxs
  obtain ⟨z0, e0, w0⟩ := fld_int (hf 0 _ rfl) (by omega)
  obtain ⟨z1, e1, w1⟩ := fld_int (hf 1 _ rfl) (by omega)
  obtain ⟨z2, e2, w2⟩ := fld_int (hf 2 _ rfl) (by omega)
  obtain ⟨z3, e3, w3⟩ := fld_int (hf 3 _ rfl) (by omega)
  clear hf h
  match cs, hl with
  | [c0, c1, c2, c3], _ =>
    obtain rfl := Option.some.inj e0
    obtain rfl := Option.some.inj e1
    obtain rfl := Option.some.inj e2
    obtain rfl := Option.some.inj e3
    exact ⟨⟨z0, z1, z2, z3⟩, rfl, ⟨w0, w1, w2, w3⟩⟩

theorem point_op : Op pointL PointZ.Fit 23 := by
  intro H enc W spare held fuel cs x h
  obtain ⟨xs, n, _, _, hl, hxs, hf⟩ := DataW.trod_struct Tryz.underlying23 h
  rw [show Tryz.prog.cellsOf 23 = 2 by kernel_rfl] at hl
  replace hxs : xs.length = 2 := hxs
  obtain ⟨z0, e0, w0⟩ := fld_int (hf 0 _ rfl) (by omega)
  obtain ⟨z1, e1, w1⟩ := fld_int (hf 1 _ rfl) (by omega)
  clear hf h
  match cs, hl with
  | [c0, c1], _ =>
    obtain rfl := Option.some.inj e0
    obtain rfl := Option.some.inj e1
    exact ⟨⟨z0, z1⟩, rfl, ⟨w0, w1⟩⟩

theorem ratio_op : Op ratioL RatioZ.Fit 64 := by
  intro H enc W spare held fuel cs x h
  obtain ⟨xs, n, _, _, hl, hxs, hf⟩ := DataW.trod_struct Tryz.underlying64 h
  rw [show Tryz.prog.cellsOf 64 = 2 by kernel_rfl] at hl
  replace hxs : xs.length = 2 := hxs
  obtain ⟨z0, e0, w0⟩ := fld_int (hf 0 _ rfl) (by omega)
  obtain ⟨z1, e1, w1⟩ := fld_int (hf 1 _ rfl) (by omega)
  clear hf h
  match cs, hl with
  | [c0, c1], _ =>
    obtain rfl := Option.some.inj e0
    obtain rfl := Option.some.inj e1
    exact ⟨⟨z0, z1⟩, rfl, ⟨w0, w1⟩⟩

theorem area_op : Op areaL AreaZ.Wide 76 := by
  intro H enc W spare held fuel cs x h
  obtain ⟨xs, n, _, _, hl, hxs, hf⟩ := DataW.trod_struct Tryz.underlying76 h
  rw [show Tryz.prog.cellsOf 76 = 7 by kernel_rfl] at hl
  replace hxs : xs.length = 4 := hxs
  obtain ⟨z0, e0⟩ := fld_str (hf 0 _ rfl) (by omega)
  obtain ⟨z1, e1, w1⟩ := fld_sub (k := 4) box_op (by kernel_rfl) (hf 1 _ rfl) (by omega)
  obtain ⟨z2, e2, w2⟩ := fld_int (hf 2 _ rfl) (by omega)
  obtain ⟨z3, e3, w3⟩ := fld_int (hf 3 _ rfl) (by omega)
  clear hf h
  match cs, hl with
  | [c0, c1, c2, c3, c4, c5, c6], _ =>
    obtain rfl := Option.some.inj e0
    replace e1 : [c1, c2, c3, c4] = boxZC z1 := e1
    simp only [boxZC, List.cons.injEq, and_true] at e1
    obtain ⟨rfl, rfl, rfl, rfl⟩ := e1
    obtain rfl := Option.some.inj e2
    obtain rfl := Option.some.inj e3
    exact ⟨⟨z0, z1, z2, z3⟩, rfl, ⟨w1, w2⟩⟩

theorem row_op : Op rowL RowZ.Wide 40 := by
  intro H enc W spare held fuel cs x h
  obtain ⟨xs, n, _, _, hl, hxs, hf⟩ := DataW.trod_struct Tryz.underlying40 h
  rw [show Tryz.prog.cellsOf 40 = 8 by kernel_rfl] at hl
  replace hxs : xs.length = 8 := hxs
  obtain ⟨z0, e0⟩ := fld_str (hf 0 _ rfl) (by omega)
  obtain ⟨z1, e1, w1⟩ := fld_int (hf 1 _ rfl) (by omega)
  obtain ⟨z2, e2, w2⟩ := fld_int (hf 2 _ rfl) (by omega)
  obtain ⟨z3, e3, w3⟩ := fld_int (hf 3 _ rfl) (by omega)
  obtain ⟨z4, e4, w4⟩ := fld_int (hf 4 _ rfl) (by omega)
  obtain ⟨z5, e5, w5⟩ := fld_int (hf 5 _ rfl) (by omega)
  obtain ⟨v6, z6, e6, l6, w6⟩ := fld_lst (K := markL) (slice_op Tryz.underlying38 (by kernel_rfl) (by decide) mark_op) (by kernel_rfl) (hf 6 _ rfl) (by omega)
  obtain ⟨z7, e7, w7⟩ := fld_int (hf 7 _ rfl) (by omega)
  clear hf h
  match cs, hl with
  | [c0, c1, c2, c3, c4, c5, c6, c7], _ =>
    obtain rfl := Option.some.inj e0
    obtain rfl := Option.some.inj e1
    obtain rfl := Option.some.inj e2
    obtain rfl := Option.some.inj e3
    obtain rfl := Option.some.inj e4
    obtain rfl := Option.some.inj e5
    obtain rfl := Option.some.inj e6
    obtain rfl := Option.some.inj e7
    exact ⟨⟨z0, z1, z2, z3, z4, z5, z6, z7⟩, ⟨c6, rfl, l6⟩, ⟨w1, w2, w3, w4, w5, w6⟩⟩

theorem block_op : Op blockL BlockZ.Wide 44 := by
  intro H enc W spare held fuel cs x h
  obtain ⟨xs, n, _, _, hl, hxs, hf⟩ := DataW.trod_struct Tryz.underlying44 h
  rw [show Tryz.prog.cellsOf 44 = 3 by kernel_rfl] at hl
  replace hxs : xs.length = 3 := hxs
  obtain ⟨z0, e0⟩ := fld_str (hf 0 _ rfl) (by omega)
  obtain ⟨v1, z1, e1, l1, w1⟩ := fld_lst (K := rowL) (slice_op Tryz.underlying42 (by kernel_rfl) (by decide) row_op) (by kernel_rfl) (hf 1 _ rfl) (by omega)
  obtain ⟨z2, e2, w2⟩ := fld_int (hf 2 _ rfl) (by omega)
  clear hf h
  match cs, hl with
  | [c0, c1, c2], _ =>
    obtain rfl := Option.some.inj e0
    obtain rfl := Option.some.inj e1
    obtain rfl := Option.some.inj e2
    exact ⟨⟨z0, z1, z2⟩, ⟨c1, rfl, l1⟩, w1⟩

theorem level_op : Op levelL LevelZ.Wide 50 := by
  intro H enc W spare held fuel cs x h
  obtain ⟨xs, n, _, _, hl, hxs, hf⟩ := DataW.trod_struct Tryz.underlying50 h
  rw [show Tryz.prog.cellsOf 50 = 8 by kernel_rfl] at hl
  replace hxs : xs.length = 8 := hxs
  obtain ⟨z0, e0⟩ := fld_str (hf 0 _ rfl) (by omega)
  obtain ⟨z1, e1, w1⟩ := fld_int (hf 1 _ rfl) (by omega)
  obtain ⟨v2, z2, e2, l2, w2⟩ := fld_lst (K := blockL) (slice_op Tryz.underlying45 (by kernel_rfl) (by decide) block_op) (by kernel_rfl) (hf 2 _ rfl) (by omega)
  obtain ⟨v3, z3, e3, l3, w3⟩ := fld_lst (K := areaL) (slice_op Tryz.underlying46 (by kernel_rfl) (by decide) area_op) (by kernel_rfl) (hf 3 _ rfl) (by omega)
  obtain ⟨v4, z4, e4, l4, w4⟩ := fld_lst (K := boxL) (slice_op Tryz.underlying47 (by kernel_rfl) (by decide) box_op) (by kernel_rfl) (hf 4 _ rfl) (by omega)
  obtain ⟨v5, z5, e5, l5, w5⟩ := fld_lst (K := boxL) (slice_op Tryz.underlying47 (by kernel_rfl) (by decide) box_op) (by kernel_rfl) (hf 5 _ rfl) (by omega)
  obtain ⟨v6, z6, e6, l6, w6⟩ := fld_lst (K := pointL) (slice_op Tryz.underlying48 (by kernel_rfl) (by decide) point_op) (by kernel_rfl) (hf 6 _ rfl) (by omega)
  obtain ⟨z7, e7, w7⟩ := fld_int (hf 7 _ rfl) (by omega)
  clear hf h
  match cs, hl with
  | [c0, c1, c2, c3, c4, c5, c6, c7], _ =>
    obtain rfl := Option.some.inj e0
    obtain rfl := Option.some.inj e1
    obtain rfl := Option.some.inj e2
    obtain rfl := Option.some.inj e3
    obtain rfl := Option.some.inj e4
    obtain rfl := Option.some.inj e5
    obtain rfl := Option.some.inj e6
    obtain rfl := Option.some.inj e7
    exact ⟨⟨z0, z1, z2, z3, z4, z5, z6, z7⟩, ⟨c2, c3, c4, c5, c6, rfl, ⟨l2, l3, l4, l5, l6⟩⟩, ⟨w1, w2, w3, w4, w5, w6⟩⟩

theorem test_op : Op testL TestZ.Wide 68 := by
  intro H enc W spare held fuel cs x h
  obtain ⟨xs, n, _, _, hl, hxs, hf⟩ := DataW.trod_struct Tryz.underlying68 h
  rw [show Tryz.prog.cellsOf 68 = 5 by kernel_rfl] at hl
  replace hxs : xs.length = 5 := hxs
  obtain ⟨z0, e0⟩ := fld_str (hf 0 _ rfl) (by omega)
  obtain ⟨z1, e1, w1⟩ := fld_int (hf 1 _ rfl) (by omega)
  obtain ⟨z2, e2⟩ := fld_str (hf 2 _ rfl) (by omega)
  obtain ⟨z3, e3, w3⟩ := fld_int (hf 3 _ rfl) (by omega)
  obtain ⟨z4, e4, w4⟩ := fld_int (hf 4 _ rfl) (by omega)
  clear hf h
  match cs, hl with
  | [c0, c1, c2, c3, c4], _ =>
    obtain rfl := Option.some.inj e0
    obtain rfl := Option.some.inj e1
    obtain rfl := Option.some.inj e2
    obtain rfl := Option.some.inj e3
    obtain rfl := Option.some.inj e4
    exact ⟨⟨z0, z1, z2, z3, z4⟩, rfl, ⟨w1, w3⟩⟩

theorem tests_op : Op testsL (fun l => ∀ t ∈ l, TestZ.Wide t) 69 := fun enc W spare held fuel cs x h => let ⟨v, xs, h1, h2, h3⟩ := (slice_op (K := testL) Tryz.underlying69 (by kernel_rfl) (by decide) test_op) enc W spare held fuel cs x h; ⟨xs, ⟨v, h1, h2⟩, h3⟩

theorem item_op : Op itemL ItemZ.Wide 66 := by
  intro H enc W spare held fuel cs x h
  obtain ⟨xs, n, _, _, hl, hxs, hf⟩ := DataW.trod_struct Tryz.underlying66 h
  rw [show Tryz.prog.cellsOf 66 = 9 by kernel_rfl] at hl
  replace hxs : xs.length = 7 := hxs
  obtain ⟨z0, e0, w0⟩ := fld_int (hf 0 _ rfl) (by omega)
  obtain ⟨z1, e1⟩ := fld_str (hf 1 _ rfl) (by omega)
  obtain ⟨v2, z2, e2, l2, w2⟩ := fld_lst (K := testsL) (slice_op Tryz.underlying62 (by kernel_rfl) (by decide) tests_op) (by kernel_rfl) (hf 2 _ rfl) (by omega)
  obtain ⟨z3, e3, w3⟩ := fld_int (hf 3 _ rfl) (by omega)
  obtain ⟨z4, e4, w4⟩ := fld_sub (k := 2) ratio_op (by kernel_rfl) (hf 4 _ rfl) (by omega)
  obtain ⟨z5, e5, w5⟩ := fld_sub (k := 2) ratio_op (by kernel_rfl) (hf 5 _ rfl) (by omega)
  obtain ⟨z6, e6, w6⟩ := fld_int (hf 6 _ rfl) (by omega)
  clear hf h
  match cs, hl with
  | [c0, c1, c2, c3, c4, c5, c6, c7, c8], _ =>
    obtain rfl := Option.some.inj e0
    obtain rfl := Option.some.inj e1
    obtain rfl := Option.some.inj e2
    obtain rfl := Option.some.inj e3
    replace e4 : [c4, c5] = ratioZC z4 := e4
    simp only [ratioZC, List.cons.injEq, and_true] at e4
    obtain ⟨rfl, rfl⟩ := e4
    replace e5 : [c6, c7] = ratioZC z5 := e5
    simp only [ratioZC, List.cons.injEq, and_true] at e5
    obtain ⟨rfl, rfl⟩ := e5
    obtain rfl := Option.some.inj e6
    exact ⟨⟨z0, z1, z2, z3, z4, z5, z6⟩, ⟨c2, rfl, l2⟩, ⟨w0, w2, w3, w4, w5⟩⟩

/-! ### The arguments -/
set_option maxRecDepth 100000 in
theorem hall_open {H : Type} {enc : TypeId × Value → H} {W : World} {r : Reach} {b0 : Nat} {spare : Nat → Bool} {held : Bool} {v : Value} {d : DataW H} {p : List MemPlace} (hv : Value.okWide Tryz.prog W r b0 26 v) (h : DataW.Trod enc Tryz.prog W 0 spare held 26 v d p) :
    ∃ (h0 : HallZ) (q : Option Addr) (n cap : Nat), v = .agg #[.string ⟨h0.name.toArray⟩, .int .i64 h0.stage.x, .int .i64 h0.stage.y, .slice q n cap] ∧ Lk levelL W W.heap.size (.slice q n cap) h0.levels ∧ HallZ.Wide h0 := by
  obtain ⟨cs, rfl, hsz⟩ := okWide_struct Tryz.underlying26 hv
  obtain ⟨fuel, hf⟩ := h
  obtain ⟨xs, n, _, _, hl, hxs, hf⟩ := DataW.trod_struct Tryz.underlying26 hf
  rw [show Tryz.prog.cellsOf 26 = 4 by kernel_rfl] at hl
  replace hxs : xs.length = 3 := hxs
  obtain ⟨z0, e0⟩ := fld_str (hf 0 _ rfl) (by omega)
  obtain ⟨z1, e1, w1⟩ := fld_sub (k := 2) point_op (by kernel_rfl) (hf 1 _ rfl) (by omega)
  obtain ⟨v2, z2, e2, l2, w2⟩ := fld_lst (K := levelL) (slice_op Tryz.underlying24 (by kernel_rfl) (by decide) level_op) (by kernel_rfl) (hf 2 _ rfl) (by omega)
  clear hf
  have hcs : (Value.agg cs).cells.toList = cs.toList := rfl
  rw [hcs] at hl e0 e1 e2
  obtain ⟨cl⟩ := cs
  simp only at hl e0 e1 e2
  match cl, hl with
  | [c0, c1, c2, c3], _ =>
    obtain rfl := Option.some.inj e0
    replace e1 : [c1, c2] = pointZC z1 := e1
    simp only [pointZC, List.cons.injEq, and_true] at e1
    obtain ⟨rfl, rfl⟩ := e1
    obtain rfl := Option.some.inj e2
    obtain ⟨q, cap, rfl⟩ := l2.slice
    exact ⟨⟨z0, z1, z2⟩, q, _, cap, rfl, l2, w1, w2⟩
set_option maxRecDepth 100000 in
theorem rules_open {H : Type} {enc : TypeId × Value → H} {W : World} {r : Reach} {b0 : Nat} {spare : Nat → Bool} {held : Bool} {v : Value} {d : DataW H} {p : List MemPlace} (hv : Value.okWide Tryz.prog W r b0 29 v) (h : DataW.Trod enc Tryz.prog W 0 spare held 29 v d p) :
    ∃ (l : List ItemZ) (q : Option Addr) (n cap : Nat), v = .agg #[.slice q n cap] ∧ Lk itemL W W.heap.size (.slice q n cap) l ∧ WideR l := by
  obtain ⟨cs, rfl, hsz⟩ := okWide_struct Tryz.underlying29 hv
  obtain ⟨fuel, hf⟩ := h
  obtain ⟨xs, n, _, _, hl, hxs, hf⟩ := DataW.trod_struct Tryz.underlying29 hf
  rw [show Tryz.prog.cellsOf 29 = 1 by kernel_rfl] at hl
  replace hxs : xs.length = 1 := hxs
  obtain ⟨v2, z2, e2, l2, w2⟩ := fld_lst (K := itemL) (slice_op Tryz.underlying27 (by kernel_rfl) (by decide) item_op) (by kernel_rfl) (hf 0 _ rfl) (by omega)
  clear hf
  have hcs : (Value.agg cs).cells.toList = cs.toList := rfl
  rw [hcs] at hl e2
  obtain ⟨cl⟩ := cs
  simp only at hl e2
  match cl, hl with
  | [c0], _ =>
    obtain rfl := Option.some.inj e2
    obtain ⟨q, cap, rfl⟩ := l2.slice
    exact ⟨z2, q, _, cap, rfl, l2, w2⟩
end Go.Proofs.YtilfpnkcgjonhaaGreatDoor.Pr
namespace Go.Proofs.YtilfpnkcgjonhaaGreatDoor.Pr
open Go.ChangeShapes Go.WideShapes Go.ChangeAt Go.RowKit

theorem own : ownKnob Tryz.prog.godebug = none := by kernel_rfl
theorem laidOut : laidOutB Tryz.prog = true := by kernel_rfl
/-- The list of all rows of this seat. -/
def laidAll : List (String × DataW Unit) := [("math/bits.deBruijn32tab", Rows.laid_math_bits_deBruijn32tab), ("math/bits.deBruijn64tab", Rows.laid_math_bits_deBruijn64tab), ("internal/strconv.uint64pow10", Rows.laid_internal_strconv_uint64pow10), ("unicode/utf8.acceptRanges", Rows.laid_unicode_utf8_acceptRanges), ("strconv.ErrRange", Rows.laid_strconv_ErrRange), ("strconv.ErrSyntax", Rows.laid_strconv_ErrSyntax), ("unicode/utf8.first", Rows.laid_unicode_utf8_first)]
theorem gTabType : (Tryz.prog.globals[1]?).map (·.type) = some 248 := by kernel_rfl
theorem cellsTab : Tryz.prog.cellsOf 248 = 20 := by kernel_rfl
theorem cellsU : Tryz.prog.cellsOf 114 = 1 := by kernel_rfl
theorem env_of {W : World} (h : laidMetH Tryz.prog laidAll W) (hsh : W.ShapedOpen Tryz.prog) : Env W := by
  rw [MakeChecks.laidMetH_plain _ _ _ (by kernel_rfl)] at h
  have h3 := h.tail.tail
  exact ⟨Lib.tabIs_of_head gTab gTabType Tryz.underlying248 Tryz.underlying114 cellsU cellsTab h3, Tryz.laysM147.s1_3 W hsh⟩
end Go.Proofs.YtilfpnkcgjonhaaGreatDoor.Pr
