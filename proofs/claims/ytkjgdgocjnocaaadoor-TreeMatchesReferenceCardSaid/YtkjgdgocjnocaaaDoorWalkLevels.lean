/-
  The walk of the iterator over the levels of a list.
-/
import Derived.Test.YtkjgdgocjnocaaaDoorWalkAbove
namespace Go.Proofs.YtkjgdgocjnocaaaDoor
open Go.RowKit Go.Sort Go.Shelf Foyer.Digest Foyer.Tree Foyer.Round Foyer.Hands
attribute [local go_sem] Oper.semAt_some

/-- 'make([]string, n)'. -/
theorem wpListIn_make_n {F : Fence} {k : Nat} (w : World) {ops : Array Oper} {rest : List Oper} {o : Oper} {a : Act} {Q : Exit → Act → World → Prop} (hg : o.guard = none) (l c : Operand) (hop : o.op = Op.makeSlice 22 l c)
    (n : Nat) (hl : a.eval l = .int .i64 n) (hc : a.eval c = .int .i64 n) (hn : n ≤ 100000)
    (hK : ∀ w', OwnS w' w.heap.size (.slice (some ⟨w.heap.size, 0, none⟩) n n) (List.replicate n []) → w.grownBy w' none → wpListIn F k Tryd.prog ops Q rest (a.put o.dst (.slice (some ⟨w.heap.size, 0, none⟩) n n)) w') :
    wpListIn F k Tryd.prog ops Q (o :: rest) a w := by
  obtain ⟨i0, hi, hz0, hz1, hz2⟩ := info_parts strInfo
  refine wpListIn_plain hg fun K hK' => ?_
  obtain ⟨w', hrun, r1, r2⟩ := run_make_full (P := Tryd.prog) w w.heap.size 22 9 i0 (.string ⟨#[]⟩) 1 Tryd.underlying22 hi hz0 hz1 .i64 .i64 n (by rw [hz2]; omega) (by unfold maxLen; omega) (Nat.le_refl _)
  unfold Oper.wpIn
  refine ⟨?_, ?_⟩
  · simp [Oper.about, hop]
  · rw [Oper.semAt_plain F _ _ (by rw [hop]; intro c hc'; cases hc')]
    simp [execOp, hop, hl, hc, hrun, Result.andThen]
    refine hK' _ _ (hK w' ?_ r2)
    unfold OwnS
    refine own_cast r1 (by simp) ?_
    refine List.ext_getElem (by simp [size_madeCells]) (fun j h1 h2 => ?_)
    simp [madeCells, Value.cells, Nat.mod_one]

abbrev Lev := Nat × Nat × Nat
abbrev levV (x : Lev) : Value := .slice (some ⟨x.1, 0, none⟩) x.2.1 x.2.2
abbrev encL (x : Lev) : Array Value := #[levV x]
/-- What the iterator hands over: whatever lay in the world w lies as it lay; the level is its own. -/
def LevG (l : List (List UInt8)) (w : World) (pre : List Lev) (x : Lev) (W : World) : Prop := Below w.heap.size w W ∧ (x.2.1 = (lvl l pre.length).length ∧ 1 ≤ x.2.1) ∧ OwnS W 0 (levV x) (lvl l pre.length)
def LevS (l : List (List UInt8)) (xs : List Lev) : Prop := (l = [] ∧ xs = []) ∨ ∃ k, xs.length = k + 1 ∧ k ≤ hi ∧ (lvl l k).length = 1
def LevF (x : Lev) (H : Nat) : Prop := H ≤ x.1

theorem levels_any (p : Option Addr) (n cap : Nat) (w : World) :
    Calls Tryd.prog 22 #[.slice p n cap] w fun e w' => e = .returned (.func (.func 39) #[] #[.pointer (some ⟨w.heap.size, 0, none⟩)]) ∧ w' = w.alloc (.cells #[.slice p n cap] 22) := by
  go_enter Tryd.func22, Tryd.ntmps22
  go_wp2
  go_ret
  exact ⟨rfl, rfl⟩

theorem leaves_take (l : List (List UInt8)) (k : Nat) (hk : k < l.length) : (((leaves l).take k ++ List.replicate (l.length - k) []).set k (leafD (l.getD k []))) = (leaves l).take (k + 1) ++ List.replicate (l.length - (k + 1)) [] := by
  have h1 : (leaves l).length = l.length := leaves_length l
  have h2 : ((leaves l).take k).length = k := by rw [List.length_take]; omega
  have h3 : (leaves l)[k]'(by omega) = leafD (l.getD k []) := by
    have := leaves_getD l k hk
    rw [List.getD_eq_getElem?_getD, List.getElem?_eq_getElem (by omega)] at this
    exact this
  rw [List.set_append_right _ _ (by omega), h2, Nat.sub_self, show l.length - k = (l.length - (k + 1)) + 1 by omega, List.replicate_succ, List.set_cons_zero, List.take_succ_eq_append_getElem (by omega), h3]
  simp

theorem row_cell {w : World} {B g n k : Nat} {ls : List (List UInt8)} (h : OwnS w B (.slice (some ⟨g, 0, none⟩) n n) (ls.take k ++ List.replicate (n - k) [])) (hk : k < n) (hl : ls.length = n) : w.cell? ⟨g, k, none⟩ = some (.string ⟨#[]⟩) ∧ w.frozen? ⟨g, k, none⟩ = false := by
  have hlen : (ls.take k ++ List.replicate (n - k) ([] : List UInt8)).length = n := by rw [List.length_append, List.length_take, List.length_replicate]; omega
  have h' : w.ownsRow B 9 1 (.slice (some ⟨g, 0, none⟩) n n) n ((ls.take k ++ List.replicate (n - k) []).map fun (l : List UInt8) => Value.string ⟨l.toArray⟩) := own_cast h hlen rfl
  refine ⟨?_, h'.frozenAt k⟩
  rw [h'.cellAt k (by omega), List.getElem?_map, List.getElem?_append_right (by rw [List.length_take]; omega), List.length_take, Nat.min_eq_left (by omega), Nat.sub_self, List.getElem?_replicate, if_pos (by omega)]
  rfl
theorem row_stored {w : World} {B g n : Nat} {ls : List (List UInt8)} (h : OwnS w B (.slice (some ⟨g, 0, none⟩) n n) ls) (k : Nat) (m : List UInt8) : OwnS (w.setCell ⟨g, k, none⟩ (.string ⟨m.toArray⟩)) B (.slice (some ⟨g, 0, none⟩) n n) (ls.set k m) := by
  have hn : ls.length = n := by
    rcases h.2 with ⟨e, _⟩ | ⟨g', cap, cur, e, _⟩
    · cases e
    · simp only [Value.slice.injEq] at e
      exact e.2.1.symm
  have h' : w.ownsRow B 9 1 (.slice (some ⟨g, 0, none⟩) n n) n (ls.map fun l => Value.string ⟨l.toArray⟩) := own_cast h hn rfl
  unfold OwnS
  refine own_cast (h'.stored k (.string ⟨m.toArray⟩)).1 (by rw [List.length_set, hn]) ?_
  rw [List.map_set]
theorem sz_mono (n : Nat) : ∀ k, 1 ≤ n → sz n k ≤ n
  | 0, _ => Nat.le_refl _
  | k + 1, h => by have := sz_mono n k h; rw [sz]; omega
def lenV : Value → Nat
  | .slice _ n _ => n
  | _ => 0

set_option maxRecDepth 100000 in
set_option maxHeartbeats 1000000 in
theorem each_hands (l : List (List UInt8)) (p : Option Addr) (n cap b : Nat) (hn : l.length = n) (hl : n ≤ 100000) (ht : ∀ t ∈ l, t.length ≤ 1000000) (w : World) (hb : w.cell? ⟨b, 0, none⟩ = some (.slice p n cap)) (hr : RdS w p l) (v : World) (hE : Env v) (hvw : Below v.heap.size v w) :
    SeqHands 2 Tryd.prog 39 #[.pointer (some ⟨b, 0, none⟩)] encL (LevG l v) LevF (LevS l) 65 w := fun y J W hW hJ hY h0 => by
  have hcb := (hW.cell (p := ⟨b, 0, none⟩) (lt_of_cell hb)).trans hb
  have hrW := hr.below (Nat.le_refl _) hW
  have hEW : Below v.heap.size v W := hvw.trans (hW.mono hvw.size)
  have HV : Hid (∀ W', Below v.heap.size v W' → Env W') := fun W' h => hE.below h
  have HY := Lib.hid hY; have H0 := Lib.hid h0; have HE := Lib.hid hEW; have HR := Lib.hid hrW
  have HJ : Hid (∀ H pre (W1 W2 : World), J H pre W1 → Below W1.heap.size W1 W2 → J H pre W2) := fun H pre W1 W2 hj hbb => hJ H pre W1 W2 none hj (grown_of_below hbb) (fun r e => by cases e)
  clear hY h0 hJ hW hb hr hE hrW hEW hvw
  by_cases hnil : l = []
  · obtain rfl : n = 0 := by rw [← hn, hnil]; rfl
    refine callsIn_of_wp Tryd.func39 rfl trivial ?_ rfl
    simp only [Tryd.ntmps39, List.size_toArray, List.length_cons, List.length_nil, Nat.reduceAdd, Nat.reduceSub, Array.replicate_succ, Array.replicate_zero, List.push_toArray, List.append_toArray, List.nil_append, List.cons_append]
    gi_wp2
    refine bodyPost_ret (results_none rfl _ _ _) rfl ?_
    exact ⟨⟨_, rfl⟩, [], _, .inl ⟨hnil, rfl⟩, Nat.le_refl _, H0.out⟩
  · have hn1 : 1 ≤ n := by
      cases l with
      | nil => exact absurd rfl hnil
      | cons a r => rw [← hn]; simp
    refine callsIn_of_wp Tryd.func39 rfl trivial ?_ rfl
    simp only [Tryd.ntmps39, List.size_toArray, List.length_cons, List.length_nil, Nat.reduceAdd, Nat.reduceSub, Array.replicate_succ, Array.replicate_zero, List.push_toArray, List.append_toArray, List.nil_append, List.cons_append]
    rcases HR.out with e | ⟨bb, off, rfl, hbb, hc⟩
    · exact absurd e hnil
    have HC := Lib.hid hc; clear hc HR
    have HN := Lib.hid hn
    clear hn
    gi_wp2_with (gi_at_make; refine wpListIn_make_n _ rfl _ _ rfl n rfl rfl hl ?_; intro w1 hown1 hgrow1; have hcb1 := hgrow1.cell hcb (by simp))
    have hbw1 : Below W.heap.size W w1 := (Below.refl _ W).grown hgrow1 (Nat.le_refl _) (fun k e => by cases e)
    have HB1 := Lib.hid hbw1; have HO1 := Lib.hid hown1
    clear hown1 hgrow1 hbw1 hcb1 hcb
    gi_loopw [14] (fun i wr => ∃ k : Nat, k ≤ n ∧ i = .int .i64 k ∧ Hid (OwnS wr W.heap.size (.slice (some ⟨W.heap.size, 0, none⟩) n n) ((leaves l).take k ++ List.replicate (n - k) [])) ∧ Hid (Below W.heap.size W wr)) (fun i _ => n - (intOf i).toNat)
    case atStart => exact ⟨0, Nat.zero_le _, rfl, Lib.hid (by rw [List.take_zero, List.nil_append, Nat.sub_zero]; exact HO1.out), HB1⟩
    case round =>
      clear HO1 HB1
      obtain ⟨k, hk, rfl, HO, HB⟩ := hrel
      by_cases hlt : k < n
      · have hck := (HB.out.cell (p := ⟨bb, off + k, none⟩) hbb).trans (HC.out k (by rw [HN.out]; exact hlt))
        have htl : (l.getD k []).length ≤ 1000000 := ht _ (getD_mem (by rw [HN.out]; exact hlt))
        have hset := leaves_take l k (by rw [HN.out]; exact hlt)
        rw [HN.out] at hset
        obtain ⟨m, hm⟩ : ∃ m, leafD (l.getD k []) = m := ⟨_, rfl⟩
        rw [hm] at hset
        generalize l.getD k [] = t at *
        have HM := Lib.hid hm; have HT := Lib.hid htl; have HSET := Lib.hid hset
        clear hm htl hset
        gi_wp2_with (refine ⟨trivial, ?_⟩; gi_at_call 28; refine (callsIn_wide.2 (leafDigest_any t m HM.out HT.out _ (HV.out _ (HE.out.trans (HB.out.mono HE.out.size))))).mono ?_; rintro e w2 ⟨rfl, hb2⟩; have HO2 := Lib.hid (HO.out.kept hb2); have HB2 := Lib.hid (below_trans HB.out (Nat.le_refl _) hb2); clear hb2; obtain ⟨hck2, hfk2⟩ := row_cell HO2.out hlt (by rw [leaves_length, HN.out]))
        go_roundw
        case rel =>
          refine ⟨k + 1, by omega, by go_num, Lib.hid ?_, Lib.hid (HB2.out.setCell (p := ⟨W.heap.size, k, none⟩) (Nat.le_refl _) _)⟩
          rw [← HSET.out]
          exact row_stored HO2.out k m
        case measure => simp [intOf]; omega
      · obtain rfl : k = n := by omega
        have hOL : OwnS wr W.heap.size (.slice (some ⟨W.heap.size, 0, none⟩) k k) (leaves l) := by
          have := HO.out
          rw [Nat.sub_self, List.replicate_zero, List.append_nil, List.take_of_length_le (by rw [leaves_length, HN.out]; exact Nat.le_refl _)] at this
          exact this
        have HOL := Lib.hid hOL; clear hOL HO HC
        gi_wp2
        gi_loopw [3] (fun u wr => ∃ (j : Nat) (pre : List Lev) (x : Lev) (H : Nat), u = levV x ∧ pre.length = j ∧ j ≤ hi ∧ H ≤ wr.heap.size ∧ H ≤ x.1 ∧ x.2.1 = (lvl l j).length ∧ Hid (J H pre wr) ∧ Hid (OwnS wr 0 (levV x) (lvl l j)) ∧ Hid (Below v.heap.size v wr)) (fun u _ => lenV u)
        case atStart =>
          exact ⟨0, [], (W.heap.size, k, k), W.heap.size, rfl, rfl, Nat.zero_le _, HB.out.size, Nat.le_refl _, by show k = _; rw [lvl_length, HN.out]; rfl, Lib.hid (HJ.out _ _ _ _ H0.out HB.out), Lib.hid (HOL.out.base (Nat.zero_le _)), Lib.hid (HE.out.trans (HB.out.mono HE.out.size))⟩
        case round =>
          clear HOL HB H0
          obtain ⟨j, pre, ⟨g, m, c⟩, H, rfl, hpl, hj, hH, hHg, hm, HJJ, HO, HEE⟩ := hrel
          dsimp only at hm hHg
          have hml : (lvl l j).length = sz k j := by rw [lvl_length, HN.out]
          have hm1 : 1 ≤ m := by rw [hm, hml]; exact sz_pos hn1 j
          have hmk : m ≤ 100000 := by
            have := sz_mono k j hn1
            omega
          obtain ⟨fn, tmps, assign, body, hy, hR⟩ := HY.out pre (g, m, c) H wr HJJ.out hH hHg ⟨HEE.out, ⟨by rw [hpl]; exact hm, hm1⟩, by rw [hpl]; exact HO.out⟩ (by unfold hi at hj; omega)
          unfold LevG at hR
          rw [hpl] at hR
          dsimp only [encL, levV] at hy
          have HR := Lib.hid hR
          have HM := Lib.hid hm
          clear hR HO HEE HJJ hml hm
          by_cases hm2 : 1 < m
          · have hjh : j < hi := by
              rcases Nat.lt_or_ge j hi with h | h
              · exact h
              · have h3 := sz_le k 0 j (by
                  have h4 : (2 : Nat) ^ 64 ≤ 2 ^ (j + 0) := Nat.pow_le_pow_right (by decide) h
                  omega)
                rw [← HN.out, ← lvl_length, ← HM.out] at h3
                omega
            gi_wp2
            refine HR.out.mono ?_
            rintro e W3 ⟨rfl, ⟨H', hH', hJ'⟩, hE', hm', hO'⟩
            have HJ' := Lib.hid hJ'; have HE' := Lib.hid hE'; have HO' := Lib.hid hO'
            clear hJ' hE' hO' hy hm' HR
            gi_wp2_with (refine ⟨trivial, ?_⟩; gi_at_call 40; refine (callsIn_wide.2 (above_any (lvl l j) 0 (levV (g, m, c)) W3 HO'.out (by rw [← HM.out]; exact hm1) (by rw [← HM.out]; exact hmk) (fun t ht => by rw [lvl_16 l j t ht]; omega) (HV.out _ HE'.out))).mono ?_; rintro e w4 ⟨v', rfl, ho4, hb4⟩; obtain ⟨g4, c4, rfl, hc4, _, hg4, _, _⟩ := ho4.form (by rw [up_length, ← HM.out]; omega))
            go_roundw
            case rel => exact ⟨j + 1, pre ++ [(g, m, c)], (g4, (up (lvl l j)).length, c4), H', rfl, by simp [hpl], hjh, Nat.le_trans hH' hb4.size, Nat.le_trans hH' hg4, rfl, Lib.hid (HJ.out _ _ _ _ HJ'.out hb4), Lib.hid (ho4.base (Nat.zero_le _)), Lib.hid (HE'.out.trans (hb4.mono HE'.out.size))⟩
            case measure =>
              show (up (lvl l j)).length < m
              rw [up_length, ← HM.out]; omega
          · obtain rfl : m = 1 := by omega
            gi_wp2
            refine HR.out.mono ?_
            rintro e W3 ⟨rfl, ⟨H', hH', hJ'⟩, _⟩
            have HJ' := Lib.hid hJ'
            clear hJ' hy HR
            gi_wp2
            go_end0
            exact ⟨⟨_, rfl⟩, _, H', .inr ⟨j, by simp [hpl], hj, HM.out.symm⟩, hH', HJ'.out⟩
theorem levG_own (l : List (List UInt8)) (w : World) (B : Nat) (hB : w.heap.size ≤ B) (pre : List Lev) (x : Lev) : OwnFrom B (fun (_ : Unit) W => LevG l w pre x W) := fun _ W W' row ⟨h1, h2, h3⟩ hg hr =>
  ⟨h1.grown hg h1.size (fun k e => Nat.le_trans hB (hr k e).1), h2, World.ownsRow.kept h3 hg (by
    rcases h3.2 with ⟨e, _⟩ | ⟨g, cap, cur, e, _, hgb, _⟩
    · rw [e]; exact .inl rfl
    · rw [e]
      refine .inr fun e' => ?_
      obtain ⟨_, o, ho, hc⟩ := hr g (by simpa [Value.ownBlock] using e'.symm)
      rw [hgb] at ho; cases ho; cases hc)⟩
end Go.Proofs.YtkjgdgocjnocaaaDoor
