/-
  The law PlanGaps: its walk.
-/
import Derived.Test.YtplfknpdaeaefaaDoorHead6
import Derived.Test.YtplfknpdaeaefaaDoorMathGaps
import Derived.Test.YtplfknpdaeaefaaDoorRefSame6
namespace Go.Proofs.YtplfknpdaeaefaaDoor
open Go.RowKit Go.Sort Go.Shelf Foyer.Plan

theorem info3 : (Tryd.prog.info? 3).map (fun i => (i.zero, i.size, i.bytes)) = some (some (.int .i64 0), 1, 8) := by kernel_rfl
theorem cell_new1 (w : World) (v : Value) (T : TypeId) : ∀ j u, [v][j]? = some u → (w.alloc (.cells #[v] T)).cell? ((⟨w.heap.size, 0, none⟩ : Addr).add j) = some u := by
  intro q u hq
  match q, hq with
  | 0, hq => simp at hq; subst hq; simp [Addr.add]
theorem line_join (S T : List UInt8) : (⟨S.toArray⟩ : ByteArray) ++ ⟨T.toArray⟩ ++ ⟨#[10]⟩ = ⟨(S ++ (T ++ [10])).toArray⟩ := by
  rw [show (⟨#[10]⟩ : ByteArray) = ⟨([10] : List UInt8).toArray⟩ from rfl, str_append, str_append, List.append_assoc]
theorem take_snoc {α : Type} {xs : List α} {k : Nat} {x : α} (h : xs[k]? = some x) : xs.take (k + 1) = xs.take k ++ [x] := by
  rw [List.take_add_one, h]; rfl
theorem take_len {ts : List Foyer.Lexer.Tok} (k : Nat) : (lines (ts.take k)).length ≤ (lines ts).length := by
  conv => rhs; rw [← List.take_append_drop k ts]
  unfold lines
  rw [List.flatMap_append, List.length_append]; omega
def rowOf (ts : List Foyer.Lexer.Tok) (k : Nat) : List Value := (List.range k).map fun i => Value.int .i64 (placeOf ts i : Nat)
theorem rowOf_succ (ts : List Foyer.Lexer.Tok) (k : Nat) : rowOf ts (k + 1) = rowOf ts k ++ [.int .i64 (placeOf ts k : Nat)] := by
  unfold rowOf; rw [List.range_succ, List.map_append]; rfl
set_option maxRecDepth 100000 in
set_option maxHeartbeats 4000000 in
theorem spaced_any (ts : List Foyer.Lexer.Tok) (p : Option Addr) (cap : Nat) (w : World) (hr : RdT w p ts) (h5 : ts.length ≤ 5000) (hl : (lines ts).length ≤ 1000000) :
    Calls Tryd.prog 11 #[.slice p ts.length cap] w fun e w' => ∃ v, e = .returned (.tuple #[.string ⟨(lines ts).toArray⟩, v]) ∧ w'.ownsRow w.heap.size 3 1 v ts.length (rowOf ts ts.length) ∧ Below w.heap.size w w' := by
  obtain ⟨i0, hi, hz0, hz1, hz2⟩ := info_parts info3
  have HZ0 := Lib.hid hz0; have HZ1 := Lib.hid hz1; have HZ2 := Lib.hid hz2; have HI := Lib.hid hi
  have HR := Lib.hid hr; have HLEN := Lib.hid (fun k => Nat.le_trans (take_len (ts := ts) k) hl)
  obtain ⟨n, hn⟩ : ∃ n, ts.length = n := ⟨_, rfl⟩
  rw [hn] at h5 ⊢
  have HN := Lib.hid hn
  clear hr hz0 hz1 hz2 hi hn hl
  go_enter Tryd.func11, Tryd.ntmps11
  go_wp2
  go_loopw [4, 5, 6] (fun s v i wr => ∃ k : Nat, i = .int .i64 k ∧ k ≤ n ∧ s = .string ⟨(lines (ts.take k)).toArray⟩ ∧ Hid (wr.ownsRow w.heap.size 3 1 v k (rowOf ts k)) ∧ Hid (Below w.heap.size w wr)) (fun _ _ i _ => n - (intOf i).toNat)
  case atStart => exact ⟨0, rfl, Nat.zero_le _, rfl, Lib.hid (World.ownsRow_nil _ _ _ _), Lib.hid (Below.refl _ _)⟩
  case round =>
    obtain ⟨k, rfl, hk, rfl, HO, HB⟩ := hrel
    by_cases hk2 : k < n
    · obtain ⟨t, ht⟩ : ∃ t, ts[k]? = some t := ⟨_, List.getElem?_eq_getElem (by have := HN.out; omega)⟩
      have hl0 := HLEN.out k
      have hl1 := HLEN.out (k + 1)
      have hstep : lines (ts.take (k + 1)) = lines (ts.take k) ++ (t.text ++ [10]) := by rw [take_snoc ht, lines_snoc]
      have hrow := rowOf_succ ts k
      have hpl : placeOf ts k = (lines (ts.take k)).length := rfl
      rw [hpl] at hrow
      obtain ⟨S, hS⟩ : ∃ S, lines (ts.take k) = S := ⟨_, rfl⟩
      obtain ⟨S2, hS2⟩ : ∃ S2, lines (ts.take (k + 1)) = S2 := ⟨_, rfl⟩
      have HS2 := Lib.hid hS2
      rw [hS, hS2] at hstep
      rw [hS] at hrow hl0 ⊢
      rw [hS2] at hl1
      have hs2 : S2.length = S.length + (t.text.length + 1) := by rw [hstep]; simp
      have hsz : (⟨S.toArray⟩ : ByteArray).size = S.length := size_of_list S
      have hszt : (⟨t.text.toArray⟩ : ByteArray).size = t.text.length := size_of_list _
      have hsum1 : S.length + t.text.length ≤ 9223372036854775807 := by omega
      have hsum2 : S.length + t.text.length + 1 ≤ 9223372036854775807 := by omega
      have hsum3 : (⟨S.toArray⟩ : ByteArray).size + (⟨t.text.toArray⟩ : ByteArray).size ≤ 9223372036854775807 := by omega
      have hsum4 : (⟨S.toArray⟩ ++ ⟨t.text.toArray⟩ : ByteArray).size + 1 ≤ 9223372036854775807 := by rw [ByteArray.size_append]; omega
      have hki : (0 : Int) ≤ k ∧ (k : Int) < n := by omega
      have HST := Lib.hid hstep; have HRW := Lib.hid hrow
      clear hS hS2 hpl hs2 hstep hrow hl1
      go_wp2_with (at_builtin; refine wpList_append_own _ rfl _ _ 34 rfl w.heap.size 3 i0 (.int .i64 0) 1 8 Tryd.underlying34 HI.out HZ0.out HZ1.out HZ2.out rfl (by decide) _ _ _ rfl (HO.out.alloc _) ⟨wr.heap.size, 0, none⟩ 1 1 [.int .i64 (S.length : Nat)] rfl rfl ?c1 ?c2 ?d3 ?d4 ?d5 ?_)
      case c1 =>
        intro q u hq
        match q, hq with
        | 0, hq => simp at hq; subst hq; simp [Addr.add]
      case c2 => intro u hu; simp at hu; subst hu; rfl
      case d3 => unfold maxLen; omega
      case d4 => omega
      case d5 => have := HB.out.size; simp; omega
      intro v2 w2 hown2 hgrow2 _
      have HB2 : Hid (Below w.heap.size w w2) := Lib.hid ((HB.out.alloc HB.out.size _).grown hgrow2 (by have := HB.out.size; simp; omega) (fun q hq => (HO.out.lt q hq).1))
      have HO2 : Hid (w2.ownsRow w.heap.size 3 1 v2 (k + 1) (rowOf ts (k + 1))) := Lib.hid (own_cast hown2 rfl HRW.out.symm)
      clear hown2 hgrow2
      rcases HR.out.since HB2.out with h | ⟨bq, off, rfl, hlt, hat⟩
      · rw [h] at ht; simp at ht
      have c1 := (hat k t ht).text
      clear hat ht
      go_wp2
      go_roundw
      case rel => exact ⟨k + 1, by go_num, by omega, by rw [HS2.out, HST.out, ← line_join], HO2, HB2⟩
      case measure => simp [intOf]; omega
    · obtain rfl : k = n := by omega
      have he : ts.take k = ts := List.take_of_length_le (by have := HN.out; omega)
      rw [he]
      go_wp2
      exact bodyPost_ret (results_tmp2 rfl _ _ _) rfl ⟨_, rfl, HO.out, HB.out⟩
theorem row_slice {w : World} {B n : Nat} {v : Value} {xs : List Value} (h : w.ownsRow B 3 1 v n xs) (hx : xs.length = n) : ∃ p cap, v = .slice p n cap ∧ n ≤ cap ∧ cap ≤ maxLen ∧ ∀ j u, xs[j]? = some u → ∃ g, p = some ⟨g, 0, none⟩ ∧ g < w.heap.size ∧ w.cell? ⟨g, j, none⟩ = some u := by
  have h0 := h
  rcases h.2 with ⟨rfl, hn⟩ | ⟨g, cap, cur, rfl, hB, hg, hc, hm, hs, ht⟩
  · exact ⟨none, 0, by rw [hn], by omega, Nat.zero_le _, fun j u hj => by have := (List.getElem?_eq_some_iff.1 hj).1; omega⟩
  · refine ⟨some ⟨g, 0, none⟩, cap, rfl, hc, hm, fun j u hj => ⟨g, rfl, (h0.lt _ rfl).2, ?_⟩⟩
    have hjl : j < xs.length := (List.getElem?_eq_some_iff.1 hj).1
    rw [World.ownsRow.cellAt h0 j (by omega), hj]
set_option maxRecDepth 100000 in
set_option maxHeartbeats 2000000 in
theorem gaps_long (a : ByteArray) (w : World) (h : 2000 < a.size) :
    Calls Tryd.prog 3 #[.string a] w fun e w' => e = .returned (.bool true) ∧ Below w.heap.size w w' := by
  have HS : Hid (Since w w) := Below.refl _ _
  have hd : decide ((2000 : Int) < (a.size : Int)) = true := by simp; omega
  clear h
  go_enter Tryd.func3, Tryd.ntmps3
  go_wp2_with fail
  refine (head_any _).mono ?_; rintro e w1 ⟨rfl, hb1⟩
  have HS1 := Lib.hid (HS.out.call hb1); clear hb1
  go_wp2
  go_ret
  exact ⟨rfl, HS1.out⟩
set_option maxRecDepth 100000 in
set_option maxHeartbeats 2000000 in
theorem gaps_bad (a : ByteArray) (w : World) (ha : a.size ≤ 2000) (ts : List Foyer.Lexer.Tok) (E : Nat) (O : Int) (hl : Foyer.Lexer.lexAll a.data.toList = (ts, E, O)) (hE : E ≠ 0) :
    Calls Tryd.prog 3 #[.string a] w fun e w' => e = .returned (.bool true) ∧ Below w.heap.size w w' := by
  have HS : Hid (Since w w) := Below.refl _ _
  have hd : decide ((2000 : Int) < (a.size : Int)) = false := by simp; omega
  have hne : (((E : Nat) : Int) != 0) = true := by simp [hE]
  have heq : (((E : Nat) : Int) == ((E : Nat) : Int)) = true := by simp
  have hp : parseAll a.data.toList = (noHall, E, O) := by unfold parseAll; rw [hl, if_neg hE]
  have HP := Lib.hid (fun w => plan_none a (by omega) [] 0 0 E O hp w)
  have HL := Lib.hid (fun w => lex_c a (by omega) ts E O hl w)
  clear hp ha hE hl
  go_enter Tryd.func3, Tryd.ntmps3
  go_wp2_with fail
  refine (head_any _).mono ?_; rintro e w1 ⟨rfl, hb1⟩
  have HS1 := Lib.hid (HS.out.call hb1); clear hb1
  go_wp2_with fail
  refine (HL.out _).mono ?_; rintro e w2 ⟨q, cap, rfl, hr, hc, hm, hb2⟩
  have HS2 := Lib.hid (HS1.out.call hb2); clear hb2 hr hc hm
  generalize ts.length = n at *
  go_wp2_with fail
  refine (HP.out _).mono ?_; rintro e w3 ⟨v1, v3, rfl, hb3⟩
  have HS3 := Lib.hid ((HS2.out.call hb3).alloc (.cells #[.string ⟨#[]⟩, .int .i64 0, .int .i64 0, .slice v1 0 v3] 31)); clear hb3
  go_wp2
  go_ret
  exact ⟨rfl, HS3.out⟩
set_option maxRecDepth 100000 in
set_option maxHeartbeats 8000000 in
theorem gaps_main (a : ByteArray) (w : World) (ha : a.size ≤ 2000) (ts : List Foyer.Lexer.Tok) (hx : Foyer.Lexer.Lx 0 a.data.toList ts none) :
    Calls Tryd.prog 3 #[.string a] w fun e w' => e = .returned (.bool true) ∧ Below w.heap.size w w' := by
  have HS : Hid (Since w w) := Below.refl _ _
  have hsa := size_toList a
  have hlex := Foyer.Lexer.lexAll_none (by omega) hx
  have hll := lines_length hx
  have hinc := lx_inc (L := a.data.toList) (a := 0) (by simpa using hx) (Nat.zero_le _)
  obtain ⟨g1, g2, g3⟩ := gaps_lines (by omega) hx
  have hp1 : parseAll a.data.toList = ((parseAll a.data.toList).1, (parseAll a.data.toList).2.1, (parseAll a.data.toList).2.2) := rfl
  have hp2 : parseAll (lines ts) = ((parseAll (lines ts)).1, (parseAll (lines ts)).2.1, (parseAll (lines ts)).2.2) := rfl
  obtain ⟨x, hX⟩ : ∃ x, (parseAll a.data.toList).1 = x := ⟨_, rfl⟩
  obtain ⟨y, hY⟩ : ∃ x, (parseAll (lines ts)).1 = x := ⟨_, rfl⟩
  obtain ⟨E, hE⟩ : ∃ x, (parseAll a.data.toList).2.1 = x := ⟨_, rfl⟩
  obtain ⟨O, hO⟩ : ∃ x, (parseAll a.data.toList).2.2 = x := ⟨_, rfl⟩
  obtain ⟨O2, hO2⟩ : ∃ x, (parseAll (lines ts)).2.2 = x := ⟨_, rfl⟩
  rw [← g2, hY, hE, hO2] at hp2
  rw [hX, hE, hO] at hp1
  rw [hX, hY] at g1
  rw [hE, hO, hO2] at g3
  clear g2 hX hY hE hO hO2
  obtain ⟨nm, sx, sy, ls⟩ := x
  obtain ⟨nm', sx', sy', ls'⟩ := y
  simp only [HallP.bare, HallP.mk.injEq] at g1
  obtain ⟨rfl, rfl, rfl, hbare⟩ := g1
  have hd : decide ((2000 : Int) < (a.size : Int)) = false := by simp; omega
  have hee : (((E : Nat) : Int) != ((E : Nat) : Int)) = false := by simp
  have hn5 : ts.length ≤ 5000 := by have := (Foyer.Lexer.lexAll_bounds a.data.toList).1; rw [hlex] at this; exact this
  obtain ⟨J, hJ⟩ : ∃ J, lines ts = J := ⟨_, rfl⟩
  have hjz : (⟨J.toArray⟩ : ByteArray).size ≤ 1000000 := by rw [size_of_list, ← hJ]; omega
  have HP := Lib.hid (fun w => plan_s a (by omega) _ E O hp1 w)
  have HPJ := Lib.hid (fun w => plan_s ⟨J.toArray⟩ hjz _ E O2 (by show parseAll J = _; rw [← hJ]; exact hp2) w)
  have HL := Lib.hid (fun w => lex_c a (by omega) ts 0 0 hlex w)
  have HSP := Lib.hid (fun p cap w hr => spaced_any ts p cap w hr hn5 (by omega))
  rw [hJ] at HSP
  have HINC := Lib.hid hinc; have G3 := Lib.hid g3; have HJ := Lib.hid hJ; have HBARE := Lib.hid hbare
  have hjs : (⟨J.toArray⟩ : ByteArray).size = J.length := size_of_list J
  obtain ⟨n, hn⟩ : ∃ n, ts.length = n := ⟨_, rfl⟩
  rw [hn] at HL HSP hn5
  have HN := Lib.hid hn
  clear hx hlex hinc g3 hp1 hp2 hJ hbare hn hll hsa
  go_enter Tryd.func3, Tryd.ntmps3
  go_wp2_with fail
  refine (head_any _).mono ?_; rintro e w1 ⟨rfl, hb1⟩
  have HS1 := Lib.hid (HS.out.call hb1); clear hb1
  go_wp2_with fail
  refine (HL.out _).mono ?_; rintro e w2 ⟨q, cap, rfl, hr, hc, hm, hb2⟩
  have HS2 := Lib.hid (HS1.out.call hb2); have HR := Lib.hid hr; clear hb2 hr
  go_wp2_with fail
  refine (HP.out _).mono ?_; rintro e w3 ⟨v1, v2, v3, rfl, hl, hb3⟩
  have HS3 := Lib.hid ((HS2.out.call hb3).alloc (.cells #[.string ⟨nm.toArray⟩, .int .i64 (sx : Nat), .int .i64 (sy : Nat), .slice v1 v2 v3] 31))
  have HR3 := Lib.hid ((HR.out.since hb3).since ((Below.refl w3.heap.size w3).alloc (Nat.le_refl _) (.cells #[.string ⟨nm.toArray⟩, .int .i64 (sx : Nat), .int .i64 (sy : Nat), .slice v1 v2 v3] 31)))
  have HL3 := Lib.hid (hl.below ((Below.refl w3.heap.size w3).alloc (Nat.le_refl _) (.cells #[.string ⟨nm.toArray⟩, .int .i64 (sx : Nat), .int .i64 (sy : Nat), .slice v1 v2 v3] 31)))
  have HV3 := Lib.hid (Blk.new w3 31 [.string ⟨nm.toArray⟩, .int .i64 (sx : Nat), .int .i64 (sy : Nat), .slice v1 v2 v3])
  clear hb3 hl HR
  go_upto_region 6 with fail
  generalize w3.alloc (.cells #[.string ⟨nm.toArray⟩, .int .i64 (sx : Nat), .int .i64 (sy : Nat), .slice v1 v2 v3] 31) = X3 at *
  generalize w3.heap.size = b3 at *
  go_wp2_with fail
  refine (HSP.out q cap _ HR3.out).mono ?_; rintro e w4 ⟨va, rfl, ho, hb4⟩
  have HR4 := Lib.hid (HR3.out.since hb4); have HL4 := Lib.hid (HL3.out.below hb4); have HV4 := Lib.hid (HV3.out.below hb4)
  have HS4 := Lib.hid (HS3.out.call hb4)
  have HRS := Lib.hid (row_slice ho (by unfold rowOf; simp))
  clear hb4 ho HR3 HL3 HV3
  obtain ⟨pa, ca, rfl, hna, hca, hat⟩ := HRS.out
  have HAT := Lib.hid hat
  clear hat HRS
  go_wp2_with fail
  refine (HPJ.out _).mono ?_; rintro e w5 ⟨u1, u2, u3, rfl, hl5, hb5⟩
  have HBA := Lib.hid ((hb5.mono (Nat.le_refl _)).alloc hb5.size (.cells #[.string ⟨nm.toArray⟩, .int .i64 (sx : Nat), .int .i64 (sy : Nat), .slice u1 u2 u3] 31))
  have HS5 := Lib.hid (HS4.out.call HBA.out)
  have HR5 := Lib.hid (HR4.out.since HBA.out); have HL5 := Lib.hid (HL4.out.below HBA.out); have HV5 := Lib.hid (HV4.out.below HBA.out)
  have HM5 := Lib.hid (hl5.below ((Below.refl w5.heap.size w5).alloc (Nat.le_refl _) (.cells #[.string ⟨nm.toArray⟩, .int .i64 (sx : Nat), .int .i64 (sy : Nat), .slice u1 u2 u3] 31)))
  have HU5 := Lib.hid (Blk.new w5 31 [.string ⟨nm.toArray⟩, .int .i64 (sx : Nat), .int .i64 (sy : Nat), .slice u1 u2 u3])
  clear hb5 hl5 HR4 HL4 HV4
  go_upto_region 10 with fail
  generalize w5.alloc (.cells #[.string ⟨nm.toArray⟩, .int .i64 (sx : Nat), .int .i64 (sy : Nat), .slice u1 u2 u3] 31) = X5 at *
  generalize w5.heap.size = b5 at *
  have y0 := HV5.out.cell (i := 0) rfl
  have y1 := HV5.out.cell (i := 1) rfl
  have y2 := HV5.out.cell (i := 2) rfl
  have y3 := HV5.out.cell (i := 3) rfl
  have z0 := HU5.out.cell (i := 0) rfl
  have z1 := HU5.out.cell (i := 1) rfl
  have z2 := HU5.out.cell (i := 2) rfl
  have z3 := HU5.out.cell (i := 3) rfl
  go_wp2_with fail
  refine (same_false nm sx sy ls ls' HBARE.out _ _ _ _ _ HL5.out HM5.out).mono ?_; rintro e w6 ⟨rfl, hb6⟩
  have HS6 := Lib.hid (HS5.out.call hb6); have HR6 := Lib.hid (HR5.out.since hb6); have HB6 := Lib.hid (HBA.out.trans (hb6.mono HBA.out.size))
  clear hb6 y0 y1 y2 y3 z0 z1 z2 z3 HR5 HL5 HV5 HM5 HU5 HBA
  rcases G3.out with ⟨h1, h2, h3⟩ | ⟨h1, h2, h3⟩ | ⟨h1, m, t, hm1, h2, h3⟩
  · have e1 : (((E : Nat) : Int) == 0) = true := by simp [h1]
    have e2 : (O == 0) = true := by simp [h2]
    have e3 : (O2 == 0) = true := by simp [h3]
    clear h1 h2 h3
    go_wp2
    go_ret
    exact ⟨rfl, HS6.out⟩
  · have e1 : (((E : Nat) : Int) == 0) = false := by simp [h1]
    have e2 : (((E : Nat) : Int) == 7) = true := by simp [h1]
    have e3 : (O == (a.size : Int)) = true := by simp [h2]
    have e4 : (O2 == (J.length : Int)) = true := by rw [HJ.out] at h3; simp [h3]
    clear h1 h2 h3
    go_wp2
    go_ret
    exact ⟨rfl, HS6.out⟩
  · have e1 : (((E : Nat) : Int) == 0) = false := by simp [h1]
    have e2 : (((E : Nat) : Int) == 7) = false := by simp [h1]
    have hmn : m < n := by have := (List.getElem?_eq_some_iff.1 hm1).1; have := HN.out; omega
    obtain ⟨ga, rfl, hga, hcl⟩ := HAT.out m (.int .i64 (placeOf ts m : Nat)) (by unfold rowOf; simp [hmn])
    have ha1 : w6.cell? ⟨ga, m, none⟩ = some (.int .i64 (placeOf ts m : Nat)) := by rw [HB6.out.cell hga]; exact hcl
    have HA1 := Lib.hid ha1
    subst h2 h3
    obtain ⟨pm, hpm⟩ : ∃ pm, placeOf ts m = pm := ⟨_, rfl⟩
    rw [hpm] at HA1 ⊢
    have HM1 := Lib.hid hm1
    obtain ⟨tp, htp⟩ : ∃ tp, t.pos = tp := ⟨_, rfl⟩
    rw [htp]
    have HTP := Lib.hid htp
    have epm : (((pm : Nat) : Int) == ((pm : Nat) : Int)) = true := by simp
    clear hcl ha1 hpm hm1 h1 HAT htp
    go_wp2
    go_loop [15] (fun i => ∃ k : Nat, i = .int .i64 k ∧ k ≤ m) (fun i => m - (intOf i).toNat)
    case atStart => exact ⟨0, rfl, Nat.zero_le _⟩
    case round =>
      obtain ⟨k, rfl, hk⟩ := hrel
      obtain ⟨u, hu⟩ : ∃ u, ts[k]? = some u := ⟨_, List.getElem?_eq_getElem (by have := HN.out; omega)⟩
      rcases HR6.out with h | ⟨bq, off, rfl, hlt, hat⟩
      · rw [h] at hu; simp at hu
      have c3 := (hat k u hu).pos
      have hki : (0 : Int) ≤ k ∧ (k : Int) < n := by omega
      by_cases hkm : k = m
      · subst hkm
        obtain rfl : u = t := by have := HM1.out; rw [hu] at this; exact Option.some.inj this
        rw [HTP.out] at c3
        have hq : (((tp : Nat) : Int) == ((tp : Nat) : Int)) = true := by simp
        have ha1 := HA1.out
        clear hat hu
        go_wp2
        go_ret
        exact ⟨rfl, HS6.out⟩
      · have hpq : u.pos ≠ tp := fun h => hkm (inc_uniq HINC.out hu HM1.out (by rw [h, HTP.out]))
        have hq : (((u.pos : Nat) : Int) == ((tp : Nat) : Int)) = false := by simp; omega
        generalize u.pos = up at *
        clear hat hu hpq
        go_wp2
        refine ⟨⟨k + 1, by go_num, by omega⟩, ?_⟩
        simp [intOf]; omega
theorem gaps_walk (a : ByteArray) (w : World) (_ : a.size ≤ maxLen) (_ : Env w) :
    Calls Tryd.prog 3 #[.string a] w fun e w' => e = .returned (.bool true) ∧ Below w.heap.size w w' := by
  by_cases h : 2000 < a.size
  · exact gaps_long a w h
  · obtain ⟨ts, e, hx⟩ := Foyer.Lexer.lx_some 0 a.data.toList
    cases e with
    | some y =>
      obtain ⟨d, p⟩ := y
      obtain ⟨h1, _, _⟩ := Foyer.Lexer.lx_err hx d p rfl
      exact gaps_bad a w (by omega) _ _ _ (Foyer.Lexer.lexAll_some (by rw [size_toList]; omega) hx) (by omega)
    | none => exact gaps_main a w (by omega) ts hx
end Go.Proofs.YtplfknpdaeaefaaDoor
