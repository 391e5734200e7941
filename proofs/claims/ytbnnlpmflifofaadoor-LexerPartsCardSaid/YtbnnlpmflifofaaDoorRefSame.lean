/-
  The document's own comparisons of lists of tokens.
-/
import Derived.Test.YtbnnlpmflifofaaDoorTokEq
namespace Go.Proofs.YtbnnlpmflifofaaDoor
open Go.RowKit Go.Sort Foyer.Lexer

theorem rdT_cells {w : World} {p : Option Addr} {ts : List Tok} (h : RdT w p ts) (k : Nat) (t : Tok) (hk : ts[k]? = some t) : ∃ b off, p = some ⟨b, off, none⟩ ∧ TokAt w b (off + k * 4) t ∧ b < w.heap.size := by
  rcases h with rfl | ⟨b, off, rfl, hlt, hc⟩
  · simp at hk
  · exact ⟨b, off, rfl, hc k t hk, hlt⟩

set_option maxRecDepth 100000 in
set_option maxHeartbeats 2000000 in
theorem same_any (a c : List Tok) (p p2 : Option Addr) (n cap n2 cap2 d : Nat) (w : World) (ha : RdT w p a) (hc : RdT w p2 c) (hn : a.length = n) (hn2 : c.length = n2) (hm : n ≤ 1000000) (hm2 : n2 ≤ 1000000) (hd : d ≤ 1000000) (hpos : ∀ t ∈ a, t.pos ≤ 1000000) :
    Calls Tryd.prog 14 #[.slice p n cap, .int .i64 d, .slice p2 n2 cap2] w fun e w' => e = .returned (.bool (moved a d c)) ∧ Below w.heap.size w w' := by
  have HS : Hid (Since w w) := Below.refl _ _
  obtain ⟨y, hy⟩ : ∃ y, moved a d c = y := ⟨_, rfl⟩
  rw [hy]
  by_cases hnn : n = n2
  · subst hnn
    have HA := Lib.hid ha; have HC := Lib.hid hc; have HN := Lib.hid hn; have HN2 := Lib.hid hn2; have HP := Lib.hid hpos; have HY := Lib.hid hy
    clear ha hc hn hn2 hpos hy
    go_enter Tryd.func14, Tryd.ntmps14
    go_wp2
    go_loopw [7] (fun i wr => ∃ k : Nat, i = .int .i64 k ∧ k ≤ n ∧ Hid (Since w wr) ∧ Hid (∀ j, j < k → (shift d a)[j]? = c[j]?)) (fun i _ => n - (intOf i).toNat)
    case atStart => exact ⟨0, rfl, Nat.zero_le _, HS, Lib.hid (fun j h => by omega)⟩
    case round =>
      clear HS
      obtain ⟨k, rfl, hk, HS, HK⟩ := hrel
      by_cases hlt : k < n
      · obtain ⟨t, ht⟩ : ∃ t, a[k]? = some t := ⟨_, List.getElem?_eq_getElem (by rw [HN.out]; exact hlt)⟩
        obtain ⟨u, hu⟩ : ∃ u, c[k]? = some u := ⟨_, List.getElem?_eq_getElem (by rw [HN2.out]; exact hlt)⟩
        obtain ⟨b, off, rfl, hta, hbl⟩ := rdT_cells (HA.out.since HS.out) k t ht
        obtain ⟨b2, off2, rfl, htc, hbl2⟩ := rdT_cells (HC.out.since HS.out) k u hu
        have htp := HP.out t (List.mem_of_getElem? ht)
        obtain ⟨kd, T, v, po⟩ := t
        obtain ⟨kd2, T2, v2, po2⟩ := u
        obtain ⟨a0, a1, a2, a3⟩ := hta
        obtain ⟨c0, c1, c2, c3⟩ := htc
        dsimp only at a0 a1 a2 a3 c0 c1 c2 c3 htp
        have HT := Lib.hid ht; have HU := Lib.hid hu
        clear ht hu
        have hkd : decide ((k : Int) < (n : Int)) = true := by simp; omega
        go_wp2
        have hb1 : Below wr.heap.size wr (wr.alloc (.cells #[.int .i64 (kd : Nat), .string ⟨T.toArray⟩, .int .i64 (v : Nat), .int .i64 ((po : Nat) + (d : Nat))] 30)) := (Below.refl _ _).alloc (Nat.le_refl _) _
        have hS1 := Lib.hid (HS.out.alloc (.cells #[.int .i64 (kd : Nat), .string ⟨T.toArray⟩, .int .i64 (v : Nat), .int .i64 ((po : Nat) + (d : Nat))] 30))
        have k0 : (wr.alloc (.cells #[.int .i64 (kd : Nat), .string ⟨T.toArray⟩, .int .i64 (v : Nat), .int .i64 ((po : Nat) + (d : Nat))] 30)).cell? ⟨wr.heap.size, 0, none⟩ = some (.int .i64 (kd : Nat)) := by simp
        have k1 : (wr.alloc (.cells #[.int .i64 (kd : Nat), .string ⟨T.toArray⟩, .int .i64 (v : Nat), .int .i64 ((po : Nat) + (d : Nat))] 30)).cell? ⟨wr.heap.size, 1, none⟩ = some (.string ⟨T.toArray⟩) := by simp
        have k2 : (wr.alloc (.cells #[.int .i64 (kd : Nat), .string ⟨T.toArray⟩, .int .i64 (v : Nat), .int .i64 ((po : Nat) + (d : Nat))] 30)).cell? ⟨wr.heap.size, 2, none⟩ = some (.int .i64 (v : Nat)) := by simp
        have k3 : (wr.alloc (.cells #[.int .i64 (kd : Nat), .string ⟨T.toArray⟩, .int .i64 (v : Nat), .int .i64 ((po : Nat) + (d : Nat))] 30)).cell? ⟨wr.heap.size, 3, none⟩ = some (.int .i64 ((po : Nat) + (d : Nat))) := by simp
        have e0 := (hb1.cell (p := ⟨b2, off2 + k * 4, none⟩) hbl2).trans c0
        have e1 := (hb1.cell (p := ⟨b2, off2 + k * 4 + 1, none⟩) hbl2).trans c1
        have e2 := (hb1.cell (p := ⟨b2, off2 + k * 4 + 2, none⟩) hbl2).trans c2
        have e3 := (hb1.cell (p := ⟨b2, off2 + k * 4 + 3, none⟩) hbl2).trans c3
        clear hb1 c0 c1 c2 c3 a0 a1 a2 a3
        generalize wr.alloc (.cells #[.int .i64 (kd : Nat), .string ⟨T.toArray⟩, .int .i64 (v : Nat), .int .i64 ((po : Nat) + (d : Nat))] 30) = w1 at *
        have hsh : (shift d a)[k]? = some ⟨kd, T, v, po + d⟩ := by unfold shift; rw [List.getElem?_map, HT.out]; rfl
        have hgd := fun (x y : Operand) (w : World) => guard_neq x y #[.int .i64 (kd : Nat), .string ⟨T.toArray⟩, .int .i64 (v : Nat), .int .i64 ((po : Nat) + (d : Nat))] #[.int .i64 (kd2 : Nat), .string ⟨T2.toArray⟩, .int .i64 (v2 : Nat), .int .i64 (po2 : Nat)] w
        by_cases heq : kd = kd2 ∧ T = T2 ∧ v = v2 ∧ po + d = po2
        · have hne := fun w => tok_neq (kd : Nat) (kd2 : Nat) (v : Nat) (v2 : Nat) ((po : Nat) + (d : Nat)) (po2 : Nat) ⟨T.toArray⟩ ⟨T2.toArray⟩ false (by
            obtain ⟨rfl, rfl, rfl, rfl⟩ := heq; simp) w
          have hcu : (shift d a)[k]? = c[k]? := by
            rw [hsh, HU.out]; obtain ⟨rfl, rfl, rfl, rfl⟩ := heq; rfl
          have HCU := Lib.hid hcu
          clear heq hcu hsh
          go_quiet (fail)
          go_wp2
          go_roundw
          case rel => exact ⟨k + 1, by go_num, hlt, Lib.hid (hS1.out.drewN _), Lib.hid (fun j hj => by
            rcases Nat.lt_or_ge j k with h3 | h3
            · exact HK.out j h3
            · obtain rfl : j = k := by omega
              exact HCU.out)⟩
          case measure => simp [intOf]; omega
        · have hne := fun w => tok_neq (kd : Nat) (kd2 : Nat) (v : Nat) (v2 : Nat) ((po : Nat) + (d : Nat)) (po2 : Nat) ⟨T.toArray⟩ ⟨T2.toArray⟩ true (by
            rw [Bool.not_eq_true', decide_eq_false_iff_not]
            rintro ⟨h1, h2, h3, h4⟩
            refine heq ⟨by omega, ?_, by omega, by omega⟩
            simpa using h2) w
          have hy2 : y = false := by
            rw [← HY.out]; unfold moved
            rw [decide_eq_false_iff_not]
            intro e
            rw [e, HU.out] at hsh
            simp only [Option.some.injEq, Tok.mk.injEq] at hsh
            obtain ⟨h1, h2, h3, h4⟩ := hsh
            exact heq ⟨h1.symm, h2.symm, h3.symm, h4.symm⟩
          subst hy2
          clear heq hsh
          go_quiet (fail)
          go_wp2
          go_ret
          exact ⟨rfl, hS1.out.drewN _⟩
      · have hkd : decide ((k : Int) < (n : Int)) = false := by simp; omega
        have hy2 : y = true := by
          rw [← HY.out]; unfold moved
          rw [decide_eq_true_eq]
          apply List.ext_getElem?
          intro j
          rcases Nat.lt_or_ge j k with h3 | h3
          · exact HK.out j h3
          · rw [List.getElem?_eq_none (by unfold shift; rw [List.length_map, HN.out]; omega), List.getElem?_eq_none (by rw [HN2.out]; omega)]
        subst hy2
        go_wp2
        go_ret
        exact ⟨rfl, HS.out⟩
  · have hy2 : y = false := by
      rw [← hy]; unfold moved
      rw [decide_eq_false_iff_not]
      intro e
      have := congrArg List.length e
      unfold shift at this
      rw [List.length_map] at this
      omega
    have hb : ((n : Int) != (n2 : Int)) = true := by simp; omega
    subst hy2
    clear hy hn hn2 hpos ha hc
    go_enter Tryd.func14, Tryd.ntmps14
    go_wp2
    go_ret
    exact ⟨rfl, HS.out⟩
end Go.Proofs.YtbnnlpmflifofaaDoor
