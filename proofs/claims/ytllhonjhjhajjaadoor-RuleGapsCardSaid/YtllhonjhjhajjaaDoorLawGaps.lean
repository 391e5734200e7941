/-
  The law RuleGaps: its walk.
-/
import Derived.Test.YtllhonjhjhajjaaDoorLawHelp7
import Derived.Test.YtllhonjhjhajjaaDoorRefSame7
import Derived.Test.YtllhonjhjhajjaaDoorRefGaps7
namespace Foyer.Rule
open Foyer.Lexer
theorem wide_len (G L : List UInt8) : ∀ (ts : List Tok) (e : Nat), (wide G L e ts).length ≤ (ts.length + 1) * (L.length + G.length)
  | [], e => by
    show (L.drop e).length ≤ _
    rw [List.length_drop, List.length_nil]; omega
  | t :: ts, e => by
    show ((L.take t.pos).drop e ++ (G ++ wide G L t.pos ts)).length ≤ _
    have h := wide_len G L ts t.pos
    rw [List.length_cons, Nat.succ_mul]
    simp only [List.length_append, List.length_drop, List.length_take]
    omega
/-- Where the tokens behind the first k stand. -/
theorem lx_order {l : List UInt8} {ts : List Tok} (h : Lx 0 l ts none) : ∀ (k : Nat) (t : Tok), ts[k]? = some t → t.pos ≤ l.length ∧ ∀ j u, ts[j]? = some u → k < j → t.pos ≤ u.pos := by
  intro k t hk
  have hlt : k < ts.length := (List.getElem?_eq_some_iff.1 hk).1
  have e : ts = ts.take k ++ t :: ts.drop (k + 1) := by
    have h1 : ts[k] = t := (List.getElem?_eq_some_iff.1 hk).2
    rw [← h1, List.getElem_cons_drop, List.take_append_drop]
  refine ⟨?_, fun j u hj hkj => ?_⟩
  · rw [e] at h
    have := (lx_from h).2.2
    omega
  · have hlt2 : j < ts.length := (List.getElem?_eq_some_iff.1 hj).1
    have e2 : ts = ts.take j ++ u :: ts.drop (j + 1) := by
      have h1 : ts[j] = u := (List.getElem?_eq_some_iff.1 hj).2
      rw [← h1, List.getElem_cons_drop, List.take_append_drop]
    have hm : t ∈ ts.take j := by
      rw [List.mem_iff_getElem?]
      exact ⟨k, by rw [List.getElem?_take, if_pos hkj]; exact hk⟩
    rw [e2] at h
    exact Nat.le_of_lt (Go.Proofs.YtllhonjhjhajjaaDoor.lx_before h t hm)
end Foyer.Rule
namespace Go.Proofs.YtllhonjhjhajjaaDoor
open Go.RowKit Go.Sort Go.Shelf Foyer.Rule

set_option maxRecDepth 100000 in
set_option maxHeartbeats 4000000 in
theorem wider_any (a : ByteArray) (ha : a.size ≤ 3000) (G : List UInt8) (hG : G.length ≤ 22) (ts : List TokP) (hO : ∀ (k : Nat) (t : TokP), ts[k]? = some t → t.pos ≤ a.data.toList.length ∧ ∀ j u, ts[j]? = some u → k < j → t.pos ≤ u.pos) (p : Option Addr) (n cap : Nat) (hn : ts.length = n) (hn5 : n ≤ 5000) (w : World) (h : RdT w p ts) (hc : n ≤ cap) :
    Calls Tryd.prog 16 #[.string a, .slice p n cap, .string ⟨G.toArray⟩] w fun e w' => e = .returned (.string ⟨(wide G a.data.toList 0 ts).toArray⟩) ∧ w' = w := by
  have hsa := size_toList a
  have hmn : n ≤ 9223372036854775807 := by omega
  have hwl := wide_len G a.data.toList ts 0
  have hwb : (wide G a.data.toList 0 ts).length ≤ 20000000 := by
    rw [hn, hsa] at hwl
    have : (n + 1) * (a.size + G.length) ≤ 5001 * 3022 := Nat.mul_le_mul (by omega) (by omega)
    omega
  have HO := Lib.hid hO; have HR := Lib.hid h; have HN := Lib.hid hn; have HWB := Lib.hid hwb; have HSA := Lib.hid hsa
  clear hO h hwl hwb hn hsa
  go_enter Tryd.func16, Tryd.ntmps16
  go_wp2
  go_loopw [7, 8, 9] (fun s e i wr => ∃ (k : Nat) (acc : List UInt8) (en : Nat), s = .string ⟨acc.toArray⟩ ∧ e = .int .i64 (en : Nat) ∧ i = .int .i64 k ∧ k ≤ n ∧ en ≤ a.size ∧ Hid (∀ j u, ts[j]? = some u → k ≤ j → en ≤ u.pos) ∧ Hid (acc ++ wide G a.data.toList en (ts.drop k) = wide G a.data.toList 0 ts) ∧ wr = w) (fun _ _ i _ => n - (intOf i).toNat)
  case atStart => exact ⟨0, [], 0, rfl, rfl, rfl, Nat.zero_le _, Nat.zero_le _, Lib.hid (fun _ _ _ _ => Nat.zero_le _), Lib.hid rfl, rfl⟩
  case round =>
    obtain ⟨k, acc, en, rfl, rfl, rfl, hk, hen, HE, HW, rfl⟩ := hrel
    have hal : acc.length ≤ 20000000 := by
      have h1 := congrArg List.length HW.out
      rw [List.length_append] at h1
      have := HWB.out
      omega
    by_cases hk2 : k < n
    · obtain ⟨u, hu⟩ : ∃ u, ts[k]? = some u := ⟨_, List.getElem?_eq_getElem (by have := HN.out; omega)⟩
      rcases HR.out with h | ⟨b, off, rfl, hb, ht⟩
      · rw [h] at hu; simp at hu
      have c3 := (ht k u hu).pos
      have hki : (0 : Int) ≤ k ∧ (k : Int) < n := by omega
      obtain ⟨tp, htp⟩ : ∃ tp, u.pos = tp := ⟨_, rfl⟩
      have hep : en ≤ tp := by rw [← htp]; exact HE.out k u hu (Nat.le_refl _)
      have hpl : tp ≤ a.size := by have := (HO.out k u hu).1; rw [HSA.out, htp] at this; exact this
      have HE2 : Hid (∀ j v, ts[j]? = some v → k + 1 ≤ j → tp ≤ v.pos) := Lib.hid (fun j v hj hkj => by rw [← htp]; exact (HO.out k u hu).2 j v hj hkj)
      rw [htp] at c3
      obtain ⟨l, hx, hl⟩ := part_list a en tp
      have hll : l.length ≤ 3000 := by rw [hl, List.length_drop, List.length_take]; have := HSA.out; omega
      have hdrop : ts.drop k = u :: ts.drop (k + 1) := by
        have hlt : k < ts.length := (List.getElem?_eq_some_iff.1 hu).1
        have h1 : ts[k] = u := (List.getElem?_eq_some_iff.1 hu).2
        rw [← h1, List.getElem_cons_drop]
      have HW2 : Hid (((acc ++ l) ++ G) ++ wide G a.data.toList tp (ts.drop (k + 1)) = wide G a.data.toList 0 ts) := Lib.hid (by
        rw [← HW.out, hdrop]
        show _ = acc ++ ((a.data.toList.take u.pos).drop en ++ (G ++ wide G a.data.toList u.pos (ts.drop (k + 1))))
        rw [htp, ← hl]; simp)
      have hs1 := str_append acc l
      have hs2 := str_append (acc ++ l) G
      clear hu ht htp hl hdrop HE HW
      go_wp2
      refine ⟨⟨k + 1, (acc ++ l) ++ G, tp, ?_, rfl, by go_num, by omega, hpl, HE2, HW2, trivial⟩, ?_⟩
      · rw [List.append_assoc]
      · simp [intOf]; omega
    · obtain rfl : k = n := by omega
      obtain ⟨l, hx, hl⟩ := part_list a en a.size
      have hll : l.length ≤ 3000 := by rw [hl, List.length_drop, List.length_take]; have := HSA.out; omega
      have hfin : acc ++ l = wide G a.data.toList 0 ts := by
        have h1 := HW.out
        rw [List.drop_eq_nil_of_le (by have := HN.out; omega)] at h1
        rw [← h1, hl]
        show acc ++ _ = acc ++ a.data.toList.drop en
        rw [List.take_of_length_le (by have := HSA.out; omega)]
      have HF := Lib.hid hfin
      have hs1 := str_append acc l
      clear hl hfin HW
      go_wp2
      go_ret
      refine ⟨?_, rfl⟩
      rw [← HF.out]
      first | rw [hs1] | rfl
theorem lex_empty {l : List UInt8} (h : (Foyer.Lexer.lexAll l).2.1 ≠ 0) : (Foyer.Lexer.lexAll l).1 = [] := by
  unfold Foyer.Lexer.lexAll at h ⊢
  split
  · rfl
  · rename_i hl
    rw [if_neg hl] at h
    simp only at h ⊢
    split
    · rfl
    · rename_i hd
      rw [hd] at h
      simp only at h
      split
      · rename_i he; rw [he] at h; simp at h
      · rfl
set_option maxRecDepth 100000 in
set_option maxHeartbeats 2000000 in
theorem gaps_long (hh : HeadC) (a b : ByteArray) (w : World) (h : 3000 < a.size ∨ 20 < b.size ∨ gapsB b.data.toList = false) :
    Calls Tryd.prog 5 #[.string a, .string b] w fun e w' => e = .returned (.bool true) ∧ Below w.heap.size w w' := by
  have HS : Hid (Since w w) := Below.refl _ _
  have HH := Lib.hid hh
  by_cases h1 : 3000 < a.size
  · have hd : decide ((3000 : Int) < (a.size : Int)) = true := by simp; omega
    clear h hh
    go_enter Tryd.func5, Tryd.ntmps5
    go_wp2_with fail
    refine (HH.out _).mono ?_; rintro x w1 ⟨rfl, hb1⟩
    have HS1 := Lib.hid (HS.out.call hb1); clear hb1
    go_wp2
    go_ret
    exact ⟨rfl, HS1.out⟩
  have hd : decide ((3000 : Int) < (a.size : Int)) = false := by simp; omega
  by_cases h2 : 20 < b.size
  · have hd2 : decide ((20 : Int) < (b.size : Int)) = true := by simp; omega
    clear h hh h1
    go_enter Tryd.func5, Tryd.ntmps5
    go_wp2_with fail
    refine (HH.out _).mono ?_; rintro x w1 ⟨rfl, hb1⟩
    have HS1 := Lib.hid (HS.out.call hb1); clear hb1
    go_wp2
    go_ret
    exact ⟨rfl, HS1.out⟩
  have h3 : gapsB b.data.toList = false := (h.resolve_left h1).resolve_left h2
  have hd2 : decide ((20 : Int) < (b.size : Int)) = false := by simp; omega
  have HG := Lib.hid (fun w => rgaps_any b (by omega) w)
  rw [h3] at HG
  clear h hh h1 h2 h3
  go_enter Tryd.func5, Tryd.ntmps5
  go_wp2_with fail
  refine (HH.out _).mono ?_; rintro x w1 ⟨rfl, hb1⟩
  have HS1 := Lib.hid (HS.out.call hb1); clear hb1
  go_wp2_with fail
  refine (HG.out _).mono ?_; rintro x w2 ⟨rfl, rfl⟩
  go_wp2
  go_ret
  exact ⟨rfl, HS1.out⟩
set_option maxRecDepth 100000 in
set_option maxHeartbeats 4000000 in
theorem gaps_walk_of (hh : HeadC) (a b : ByteArray) (w : World) :
    Calls Tryd.prog 5 #[.string a, .string b] w fun e w' => e = .returned (.bool true) ∧ Below w.heap.size w w' := by
  by_cases hlong : 3000 < a.size ∨ 20 < b.size ∨ gapsB b.data.toList = false
  · exact gaps_long hh a b w hlong
  have ha : a.size ≤ 3000 := by omega
  have hb : b.size ≤ 20 := by omega
  have hg : gapsB b.data.toList = true := by
    cases hq : gapsB b.data.toList with
    | true => rfl
    | false => exact absurd (Or.inr (Or.inr hq)) hlong
  clear hlong
  have hgl : Foyer.Lexer.gapL false b.data.toList = b.data.toList.length := of_decide_eq_true hg
  have hsa := size_toList a
  have hsb := size_toList b
  obtain ⟨G, hGe⟩ : ∃ G : List UInt8, [10] ++ (b.data.toList ++ [10]) = G := ⟨_, rfl⟩
  have hGm : Foyer.Lexer.gm false G = some false := by
    rw [← hGe, Foyer.Lexer.gm_append]
    show (some false).bind _ = _
    exact Foyer.Lexer.line_gm hgl
  have hGh : ∃ c r, G = c :: r ∧ (Foyer.Lexer.isBlank c = true ∨ Foyer.Lexer.isHash c = true) := ⟨10, _, hGe.symm, Or.inl rfl⟩
  have hGl : G.length ≤ 22 := by rw [← hGe]; simp only [List.length_append, List.length_cons, List.length_nil]; omega
  have hGs : (⟨#[10]⟩ ++ b ++ ⟨#[10]⟩ : ByteArray) = ⟨G.toArray⟩ := by
    rw [ba_eq b, show (⟨#[10]⟩ : ByteArray) = ⟨([10] : List UInt8).toArray⟩ from rfl, str_append, str_append, ← hGe, List.append_assoc]
  have hl1 : 1 + b.size ≤ 9223372036854775807 := by omega
  have hl2 : 1 + b.size + 1 ≤ 9223372036854775807 := by omega
  have hl3 : (⟨#[10]⟩ ++ b : ByteArray).size + 1 ≤ 9223372036854775807 := by rw [ByteArray.size_append]; show 1 + b.size + 1 ≤ _; omega
  obtain ⟨ts, F, O2, hx⟩ : ∃ ts F O2, Foyer.Lexer.lexAll a.data.toList = (ts, F, O2) := ⟨_, _, _, rfl⟩
  have hO : ∀ (k : Nat) (t : TokP), ts[k]? = some t → t.pos ≤ a.data.toList.length ∧ ∀ j u, ts[j]? = some u → k < j → t.pos ≤ u.pos := by
    by_cases hF : F = 0
    · obtain ⟨ts', h1, hlx, _⟩ := lex_inv (l := a.data.toList) (by rw [hx]; exact hF)
      rw [hx] at h1
      cases h1
      exact lx_order hlx
    · have := lex_empty (l := a.data.toList) (by rw [hx]; exact hF)
      rw [hx] at this
      intro k t hk
      rw [show ts = [] from this] at hk
      simp at hk
  have hn5 : ts.length ≤ 5000 := by have := (Foyer.Lexer.lexAll_bounds a.data.toList).1; rw [hx] at this; exact this
  obtain ⟨M, hM⟩ : ∃ M, wide G a.data.toList 0 ts = M := ⟨_, rfl⟩
  have hms : (⟨M.toArray⟩ : ByteArray).size = M.length := size_of_list M
  obtain ⟨x, E, O, hp⟩ : ∃ x E O, parseAll a.data.toList = (x, E, O) := ⟨_, _, _, rfl⟩
  obtain ⟨y, E2, N, hpM⟩ : ∃ y E2 N, parseAll M = (y, E2, N) := ⟨_, _, _, rfl⟩
  have hgap : F = 0 → M.length ≤ 20000 → E = E2 ∧ x.map (ItemP.at_ (fun _ => 0)) = y.map (ItemP.at_ (fun _ => 0)) := by
    intro hF hl
    subst hF
    obtain ⟨ts', h1, _⟩ := lex_inv (l := a.data.toList) (by rw [hx])
    rw [hx] at h1
    cases h1
    have := gaps hx hGm hGh (by rw [hM]; exact hl)
    rw [hM, hpM, hp] at this
    exact this
  have HS : Hid (Since w w) := Below.refl _ _
  have HH := Lib.hid hh
  have hd : decide ((3000 : Int) < (a.size : Int)) = false := by simp; omega
  have hd2 : decide ((20 : Int) < (b.size : Int)) = false := by simp; omega
  have HG := Lib.hid (fun w => rgaps_any b (by omega) w)
  rw [hg] at HG
  have HL := Lib.hid (fun w => lex_c a (by omega) ts F O2 hx w)
  have HP := Lib.hid (fun w => rule_s a (by omega) x E O hp w)
  have HO := Lib.hid hO; have HM := Lib.hid hM; have HGL := Lib.hid hGl; have HGAP := Lib.hid hgap
  obtain ⟨n, hn⟩ : ∃ n, ts.length = n := ⟨_, rfl⟩
  rw [hn] at hn5
  have HN := Lib.hid hn; have HN5 := Lib.hid hn5; have HPM := Lib.hid hpM
  clear hp hx hh hO hM hGl hgap hg hgl hsa hsb hGe hGm hGh hn5 hpM
  go_enter Tryd.func5, Tryd.ntmps5
  go_wp2_with fail
  refine (HH.out _).mono ?_; rintro x w1 ⟨rfl, hb1⟩
  have HS1 := Lib.hid (HS.out.call hb1); clear hb1
  go_wp2_with fail
  refine (HG.out _).mono ?_; rintro x w2 ⟨rfl, rfl⟩
  go_wp2_with fail
  refine (HL.out _).mono ?_; rintro e w3 ⟨q, cap, rfl, hr, hc, _, hb3⟩
  have HS3 := Lib.hid (HS1.out.call hb3); have HR := Lib.hid hr; have HC := Lib.hid hc
  clear hb3 hr hc
  rw [hn] at HC ⊢
  clear hn
  go_wp2_with fail
  refine (wider_any a ha G HGL.out ts HO.out q n cap HN.out HN5.out _ HR.out HC.out).mono ?_; rintro e w4 ⟨rfl, rfl⟩
  rw [HM.out]
  by_cases hF : F = 0
  rotate_left
  · have e1 : (((F : Nat) : Int) != 0) = true := by simp [hF]
    clear hF
    go_wp2
    go_ret
    exact ⟨rfl, HS3.out⟩
  have e1 : (((F : Nat) : Int) != 0) = false := by simp [hF]
  by_cases hl : 20000 < M.length
  · have e2 : decide ((20000 : Int) < ((M.length : Nat) : Int)) = true := by simp; omega
    have e3 : decide (20000 < M.length) = true := by simp; omega
    clear hF hl
    go_wp2
    go_ret
    exact ⟨rfl, HS3.out⟩
  have e2 : decide ((20000 : Int) < ((M.length : Nat) : Int)) = false := by simp; omega
  have e3 : decide (20000 < M.length) = false := by simp; omega
  obtain ⟨rfl, hsame⟩ := HGAP.out hF (by omega)
  have HPM2 := Lib.hid (fun w => rule_s ⟨M.toArray⟩ (by rw [size_of_list]; omega) y E N HPM.out w)
  have HSM := Lib.hid hsame
  clear hF hl hsame
  go_wp2_with fail
  refine (HP.out _).mono ?_; rintro e w5 ⟨sa, sc, rfl, hv1, hb5⟩
  have hB5 := hb5.alloc hb5.size (.cells #[.slice sa x.length sc] 25)
  have V5 := Lib.hid (Blk.new w5 25 [.slice sa x.length sc])
  have L5 := Lib.hid (hv1.late ((Below.refl w5.heap.size w5).alloc (Nat.le_refl _) (.cells #[.slice sa x.length sc] 25)))
  have HS5 := Lib.hid (HS3.out.call hB5)
  clear hb5 hB5 hv1
  go_upto_region 9 with fail
  generalize w5.alloc (.cells #[.slice sa x.length sc] 25) = X5 at *
  generalize w5.heap.size = b5 at *
  go_wp2_with fail
  refine (HPM2.out _).mono ?_; rintro e w6 ⟨sa2, sc2, rfl, hv2, hb6⟩
  have hB6 := hb6.alloc hb6.size (.cells #[.slice sa2 y.length sc2] 25)
  have V6 := Lib.hid (Blk.new w6 25 [.slice sa2 y.length sc2])
  have L6 := Lib.hid (hv2.late ((Below.refl w6.heap.size w6).alloc (Nat.le_refl _) (.cells #[.slice sa2 y.length sc2] 25)))
  have V5' := Lib.hid (V5.out.below hB6)
  have L5' := Lib.hid (L5.out.below hB6)
  have HS6 := Lib.hid (HS5.out.call hB6)
  clear hb6 hB6 hv2 V5 L5
  go_upto_region 10 with fail
  generalize w6.alloc (.cells #[.slice sa2 y.length sc2] 25) = X6 at *
  generalize w6.heap.size = b6 at *
  have c5 := V5'.out.cell (i := 0) rfl
  have c6 := V6.out.cell (i := 0) rfl
  go_wp2_with fail
  refine (same_false x y HSM.out _ _ _ _ _ L5'.out L6.out).mono ?_; rintro e w7 ⟨rfl, hb7⟩
  have HS7 := Lib.hid (HS6.out.call hb7); clear hb7
  go_wp2
  go_ret
  exact ⟨rfl, HS7.out⟩
end Go.Proofs.YtllhonjhjhajjaaDoor
