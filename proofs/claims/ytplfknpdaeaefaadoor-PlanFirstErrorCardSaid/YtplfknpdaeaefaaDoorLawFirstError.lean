/-
  The law PlanFirstError: its walk.
-/
import Derived.Test.YtplfknpdaeaefaaDoorHead6
namespace Go.Proofs.YtplfknpdaeaefaaDoor
open Go.RowKit Go.Sort Go.Shelf Foyer.Plan

set_option maxRecDepth 100000 in
set_option maxHeartbeats 2000000 in
theorem first_long (a b : ByteArray) (w : World) (h : 2000 < a.size ∨ 2000 < b.size) :
    Calls Tryd.prog 4 #[.string a, .string b] w fun e w' => e = .returned (.bool true) ∧ Below w.heap.size w w' := by
  have HS : Hid (Since w w) := Below.refl _ _
  by_cases h1 : 2000 < a.size
  · have hd : decide ((2000 : Int) < (a.size : Int)) = true := by simp; omega
    clear h
    go_enter Tryd.func4, Tryd.ntmps4
    go_wp2_with fail
    refine (head_any _).mono ?_; rintro x w1 ⟨rfl, hb1⟩
    have HS1 := Lib.hid (HS.out.call hb1); clear hb1
    go_wp2
    go_ret
    exact ⟨rfl, HS1.out⟩
  · have h2 : 2000 < b.size := by omega
    have hd : decide ((2000 : Int) < (a.size : Int)) = false := by simp; omega
    have hd2 : decide ((2000 : Int) < (b.size : Int)) = true := by simp; omega
    clear h
    go_enter Tryd.func4, Tryd.ntmps4
    go_wp2_with fail
    refine (head_any _).mono ?_; rintro x w1 ⟨rfl, hb1⟩
    have HS1 := Lib.hid (HS.out.call hb1); clear hb1
    go_wp2
    go_ret
    exact ⟨rfl, HS1.out⟩
set_option maxRecDepth 100000 in
set_option maxHeartbeats 2000000 in
theorem first_other (a b : ByteArray) (w : World) (ha : a.size ≤ 2000) (hb : b.size ≤ 2000) (x : HallP) (E : Nat) (O : Int) (hp : parseAll a.data.toList = (x, E, O)) (hE : E ≠ 4) :
    Calls Tryd.prog 4 #[.string a, .string b] w fun e w' => e = .returned (.bool true) ∧ Below w.heap.size w w' := by
  have HS : Hid (Since w w) := Below.refl _ _
  have hd : decide ((2000 : Int) < (a.size : Int)) = false := by simp; omega
  have hd2 : decide ((2000 : Int) < (b.size : Int)) = false := by simp; omega
  have hne : (((E : Nat) : Int) != 4) = true := by simp; omega
  have HP := Lib.hid (fun w => plan_s a (by omega) x E O hp w)
  have HL := Lib.hid (fun w => lex_c a (by omega) (Foyer.Lexer.lexAll a.data.toList).1 (Foyer.Lexer.lexAll a.data.toList).2.1 (Foyer.Lexer.lexAll a.data.toList).2.2 rfl w)
  clear hp
  go_enter Tryd.func4, Tryd.ntmps4
  go_wp2_with fail
  refine (head_any _).mono ?_; rintro e w1 ⟨rfl, hb1⟩
  have HS1 := Lib.hid (HS.out.call hb1); clear hb1
  go_wp2_with fail
  refine (HP.out _).mono ?_; rintro e w2 ⟨v1, v2, v3, rfl, _, hb2⟩
  have HS2 := Lib.hid ((HS1.out.call hb2).alloc (.cells #[.string ⟨x.name.toArray⟩, .int .i64 (x.sx : Nat), .int .i64 (x.sy : Nat), .slice v1 v2 v3] 31)); clear hb2
  go_wp2_with fail
  refine (HL.out _).mono ?_; rintro e w3 ⟨q, cap, rfl, hr, hc, hm, hb3⟩
  have HS3 := Lib.hid (HS2.out.call hb3); clear hb3 hr hc hm
  generalize (Foyer.Lexer.lexAll a.data.toList).2.1 = F at *
  generalize (Foyer.Lexer.lexAll a.data.toList).2.2 = F2 at *
  generalize (Foyer.Lexer.lexAll a.data.toList).1.length = F3 at *
  go_wp2
  go_ret
  exact ⟨rfl, HS3.out⟩
set_option maxRecDepth 100000 in
set_option maxHeartbeats 4000000 in
theorem first_error_walk (a b : ByteArray) (w : World) (ha : a.size ≤ 2000) (hb : b.size ≤ 2000) (x : HallP) (O : Int) (hp : parseAll a.data.toList = (x, 4, O)) :
    Calls Tryd.prog 4 #[.string a, .string b] w fun e w' => e = .returned (.bool true) ∧ Below w.heap.size w w' := by
  have HS : Hid (Since w w) := Below.refl _ _
  have hsa := size_toList a
  have hsb := size_toList b
  obtain ⟨pre, t, us, hlx, hlex, rfl, hend, hcut, hjoin⟩ := first_error (by omega) hp
  have hinc := lx_inc (L := a.data.toList) (a := 0) (by simpa using hlx) (Nat.zero_le _)
  obtain ⟨ts, hts⟩ : ∃ ts, pre ++ t :: us = ts := ⟨_, rfl⟩
  obtain ⟨m, hm⟩ : ∃ m, pre.length = m := ⟨_, rfl⟩
  have htm : ts[m]? = some t := by rw [← hts, ← hm]; simp
  rw [hts] at hlex hinc
  obtain ⟨tp, htp⟩ : ∃ tp, t.pos = tp := ⟨_, rfl⟩
  obtain ⟨tl, htl⟩ : ∃ tl, t.text.length = tl := ⟨_, rfl⟩
  rw [htp, htl] at hend hjoin
  rw [htp] at hcut hp
  obtain ⟨l1, hx1, hl1⟩ := cut_list a tp
  obtain ⟨l2, hx2, hl2⟩ := cut_list a (tp + tl)
  rw [← hl1] at hcut
  rw [← hl2] at hjoin
  have hj := hjoin b.data.toList (by omega)
  have hjs : (⟨l2.toArray⟩ ++ ⟨#[10]⟩ ++ b : ByteArray).size = tp + tl + 1 + b.size := by rw [join_size, size_of_list, hl2, List.length_take]; omega
  have hjl : (⟨l2.toArray⟩ ++ ⟨#[10]⟩ ++ b : ByteArray).data.toList = (l2 ++ [10]) ++ b.data.toList := by rw [join_list]
  rw [← hjl] at hj
  have hs1 : (⟨l1.toArray⟩ : ByteArray).size ≤ 1000000 := by rw [size_of_list, hl1, List.length_take]; omega
  obtain ⟨J, hJ⟩ : ∃ J : ByteArray, ⟨l2.toArray⟩ ++ ⟨#[10]⟩ ++ b = J := ⟨_, rfl⟩
  rw [hJ] at hj hjs hjl
  have hp1 : parseAll (⟨l1.toArray⟩ : ByteArray).data.toList = ((parseAll l1).1, (parseAll l1).2.1, (parseAll l1).2.2) := rfl
  have hd : decide ((2000 : Int) < (a.size : Int)) = false := by simp; omega
  have hd2 : decide ((2000 : Int) < (b.size : Int)) = false := by simp; omega
  have HP := Lib.hid (fun w => plan_s a (by omega) x 4 (tp : Int) hp w)
  have HL := Lib.hid (fun w => lex_c a (by omega) ts 0 0 hlex w)
  have HP1 := Lib.hid (fun w => plan_s ⟨l1.toArray⟩ hs1 _ _ _ hp1 w)
  have HLJ := Lib.hid (fun w => lex_c J (by omega) (Foyer.Lexer.lexAll J.data.toList).1 (Foyer.Lexer.lexAll J.data.toList).2.1 (Foyer.Lexer.lexAll J.data.toList).2.2 rfl w)
  have HPJ := Lib.hid (fun w => plan_s J (by omega) (parseAll J.data.toList).1 (parseAll J.data.toList).2.1 (parseAll J.data.toList).2.2 rfl w)
  have HINC := Lib.hid hinc; have HTM := Lib.hid htm; have HCUT := Lib.hid hcut; have HJ := Lib.hid hj; have HEND := Lib.hid hend; have HTP := Lib.hid htp; have HTL := Lib.hid htl
  have hpl : tp + tl ≤ a.size := by omega
  have hl2n : l2.length = tp + tl := by rw [hl2, List.length_take]; omega
  have hsum1 : l2.length + 1 ≤ 9223372036854775807 := by omega
  have hsum2 : l2.length + 1 + b.size ≤ 9223372036854775807 := by omega
  have hsum3 : (⟨l2.toArray⟩ : ByteArray).size + 1 ≤ 9223372036854775807 := by rw [size_of_list]; omega
  have hsum4 : (⟨l2.toArray⟩ : ByteArray).size + 1 + b.size ≤ 9223372036854775807 := by rw [size_of_list]; omega
  have hsum5 : (⟨l2.toArray⟩ ++ ⟨#[10]⟩ : ByteArray).size + b.size ≤ 9223372036854775807 := by rw [ByteArray.size_append, size_of_list]; show l2.length + 1 + b.size ≤ _; omega
  have hn5 : ts.length ≤ 5000 := by have := (Foyer.Lexer.lexAll_bounds a.data.toList).1; rw [hlex] at this; exact this
  have HN5 := Lib.hid hn5
  clear hl2n hn5
  clear hp hsa hsb hlx hlex hcut hjoin hinc hts hm htm htp htl hl1 hl2 hj hjl hs1 hp1 hend hjs
  go_enter Tryd.func4, Tryd.ntmps4
  go_wp2_with fail
  refine (head_any _).mono ?_; rintro e w1 ⟨rfl, hb1⟩
  have HS1 := Lib.hid (HS.out.call hb1); clear hb1
  go_wp2_with fail
  refine (HP.out _).mono ?_; rintro e w2 ⟨v1, v2, v3, rfl, _, hb2⟩
  have HS2 := Lib.hid ((HS1.out.call hb2).alloc (.cells #[.string ⟨x.name.toArray⟩, .int .i64 (x.sx : Nat), .int .i64 (x.sy : Nat), .slice v1 v2 v3] 31)); clear hb2
  go_wp2_with fail
  refine (HL.out _).mono ?_; rintro e w3 ⟨q, cap, rfl, hr, hc, hm, hb3⟩
  have HS3 := Lib.hid (HS2.out.call hb3); have HR := Lib.hid hr
  clear hb3 hr hc hm
  obtain ⟨n, hn⟩ : ∃ n, ts.length = n := ⟨_, rfl⟩
  rw [hn]
  have HN := Lib.hid hn
  have hn5 : n ≤ 5000 := by rw [← hn]; exact HN5.out
  clear hn
  go_wp2
  go_loop [12, 13] (fun z i => ∃ k : Nat, i = .int .i64 k ∧ k ≤ n ∧ z = .int .i64 (if m < k then ((tp + tl : Nat) : Int) else -1)) (fun _ i => n - (intOf i).toNat)
  case atStart => exact ⟨0, rfl, Nat.zero_le _, by rw [if_neg (Nat.not_lt_zero _)]⟩
  case round =>
    obtain ⟨k, rfl, hk, rfl⟩ := hrel
    by_cases hk2 : k < n
    · obtain ⟨u, hu⟩ : ∃ u, ts[k]? = some u := ⟨_, List.getElem?_eq_getElem (by have := HN.out; omega)⟩
      rcases HR.out with h | ⟨bq, off, rfl, hlt, hat⟩
      · rw [h] at hu; simp at hu
      have c3 := (hat k u hu).pos
      have c1 := (hat k u hu).text
      have hki : (0 : Int) ≤ k ∧ (k : Int) < n := by omega
      by_cases hkm : k = m
      · subst hkm
        obtain rfl : u = t := by have := HTM.out; rw [hu] at this; exact Option.some.inj this
        rw [HTP.out] at c3
        have hsz : (⟨u.text.toArray⟩ : ByteArray).size = tl := by rw [size_of_list]; exact HTL.out
        have hlk : ¬ k < k := Nat.lt_irrefl _
        rw [if_neg hlk]
        have hq : (((tp : Nat) : Int) == (tp : Int)) = true := by simp
        clear hat hu
        go_wp2
        refine ⟨⟨k + 1, by go_num, by omega, by rw [if_pos (Nat.lt_succ_self k)]; simp⟩, ?_⟩
        simp [intOf]; omega
      · have hpq : u.pos ≠ tp := fun h => hkm (inc_uniq HINC.out hu HTM.out (by rw [h, HTP.out]))
        have hq : (((u.pos : Nat) : Int) == (tp : Int)) = false := by simp; omega
        have hif : (if m < k + 1 then ((tp + tl : Nat) : Int) else -1) = (if m < k then ((tp + tl : Nat) : Int) else -1) := by
          by_cases h : m < k
          · rw [if_pos h, if_pos (by omega)]
          · rw [if_neg h, if_neg (by omega)]
        generalize (if m < k then ((tp + tl : Nat) : Int) else -1) = z at *
        have HIF := Lib.hid hif
        clear hif hat hu hpq
        generalize u.pos = up at *
        clear c1
        go_wp2
        refine ⟨⟨k + 1, by go_num, by omega, by rw [HIF.out]⟩, ?_⟩
        simp [intOf]; omega
    · obtain rfl : k = n := by omega
      have hmn : m < k := by have := (List.getElem?_eq_some_iff.1 HTM.out).1; have := HN.out; omega
      rw [if_pos hmn]
      have hpos : ¬ ((tp + tl : Nat) : Int) < 0 := by omega
      have hle : ¬ (a.size : Int) < ((tp + tl : Nat) : Int) := by omega
      go_wp2_with fail
      refine (HP1.out _).mono ?_; rintro e w4 ⟨v4, v5, v6, rfl, _, hb4⟩
      have HS4 := Lib.hid ((HS3.out.call hb4).alloc (.cells #[.string ⟨(parseAll l1).1.name.toArray⟩, .int .i64 ((parseAll l1).1.sx : Nat), .int .i64 ((parseAll l1).1.sy : Nat), .slice v4 v5 v6] 31)); clear hb4
      generalize (parseAll l1).1.name = gn at *
      generalize (parseAll l1).1.sx = gx at *
      generalize (parseAll l1).1.sy = gy at *
      obtain ⟨G, hG⟩ : ∃ G, (parseAll l1).2.1 = G := ⟨_, rfl⟩
      obtain ⟨S, hS⟩ : ∃ S, (parseAll l1).2.2 = S := ⟨_, rfl⟩
      have hcut := HCUT.out
      rw [hG, hS] at hcut ⊢
      clear hG hS
      obtain ⟨F, hF⟩ : ∃ F, (Foyer.Lexer.lexAll J.data.toList).2.1 = F := ⟨_, rfl⟩
      rcases hcut with h | ⟨h1, h2⟩
      · have hg : (((G : Nat) : Int) != 0) = false := by simp [h]
        have hg7 : True := trivial
        clear h
        go_wp2_with fail
        refine (HLJ.out _).mono ?_; rintro e w5 ⟨q2, cap2, rfl, hr2, hc2, hm2, hb5⟩
        have HS5 := Lib.hid (HS4.out.call hb5); clear hb5 hr2 hc2 hm2
        generalize (Foyer.Lexer.lexAll J.data.toList).2.2 = F2 at *
        generalize (Foyer.Lexer.lexAll J.data.toList).1.length = F3 at *
        rw [hF]
        go_wp2_with fail
        refine (HPJ.out _).mono ?_; rintro e w6 ⟨v7, v8, v9, rfl, _, hb6⟩
        have HS6 := Lib.hid ((HS5.out.call hb6).alloc (.cells #[.string ⟨(parseAll J.data.toList).1.name.toArray⟩, .int .i64 ((parseAll J.data.toList).1.sx : Nat), .int .i64 ((parseAll J.data.toList).1.sy : Nat), .slice v7 v8 v9] 31)); clear hb6
        by_cases hF0 : F = 0
        · have hj := HJ.out (hF.trans hF0)
          rw [hj] at HS6 ⊢
          have hfne : (((F : Nat) : Int) != 0) = false := by simp [hF0]
          clear hF hF0
          go_wp2
          go_ret
          exact ⟨rfl, HS6.out⟩
        · have hfne : (((F : Nat) : Int) != 0) = true := by simp [hF0]
          generalize (parseAll J.data.toList).1.name = jn at *
          generalize (parseAll J.data.toList).1.sx = jx at *
          generalize (parseAll J.data.toList).1.sy = jy at *
          generalize (parseAll J.data.toList).2.1 = j1 at *
          generalize (parseAll J.data.toList).2.2 = j2 at *
          clear hF hF0
          go_wp2
          go_ret
          exact ⟨rfl, HS6.out⟩
      · subst h2
        have hg : (((G : Nat) : Int) != 0) = true := by simp [h1]
        have hg7 : (((G : Nat) : Int) != 7) = false := by simp [h1]
        clear h1
        go_wp2_with fail
        refine (HLJ.out _).mono ?_; rintro e w5 ⟨q2, cap2, rfl, hr2, hc2, hm2, hb5⟩
        have HS5 := Lib.hid (HS4.out.call hb5); clear hb5 hr2 hc2 hm2
        generalize (Foyer.Lexer.lexAll J.data.toList).2.2 = F2 at *
        generalize (Foyer.Lexer.lexAll J.data.toList).1.length = F3 at *
        rw [hF]
        go_wp2_with fail
        refine (HPJ.out _).mono ?_; rintro e w6 ⟨v7, v8, v9, rfl, _, hb6⟩
        have HS6 := Lib.hid ((HS5.out.call hb6).alloc (.cells #[.string ⟨(parseAll J.data.toList).1.name.toArray⟩, .int .i64 ((parseAll J.data.toList).1.sx : Nat), .int .i64 ((parseAll J.data.toList).1.sy : Nat), .slice v7 v8 v9] 31)); clear hb6
        by_cases hF0 : F = 0
        · have hj := HJ.out (hF.trans hF0)
          rw [hj] at HS6 ⊢
          have hfne : (((F : Nat) : Int) != 0) = false := by simp [hF0]
          clear hF hF0
          go_wp2
          go_ret
          exact ⟨rfl, HS6.out⟩
        · have hfne : (((F : Nat) : Int) != 0) = true := by simp [hF0]
          generalize (parseAll J.data.toList).1.name = jn at *
          generalize (parseAll J.data.toList).1.sx = jx at *
          generalize (parseAll J.data.toList).1.sy = jy at *
          generalize (parseAll J.data.toList).2.1 = j1 at *
          generalize (parseAll J.data.toList).2.2 = j2 at *
          clear hF hF0
          go_wp2
          go_ret
          exact ⟨rfl, HS6.out⟩
theorem firsterror_walk (a b : ByteArray) (w : World) (_ : a.size ≤ maxLen) (_ : b.size ≤ maxLen) (_ : Env w) :
    Calls Tryd.prog 4 #[.string a, .string b] w fun e w' => e = .returned (.bool true) ∧ Below w.heap.size w w' := by
  by_cases h : 2000 < a.size ∨ 2000 < b.size
  · exact first_long a b w h
  · by_cases hE : (parseAll a.data.toList).2.1 = 4
    · exact first_error_walk a b w (by omega) (by omega) _ _ (by rw [← hE])
    · exact first_other a b w (by omega) (by omega) _ _ _ rfl hE
end Go.Proofs.YtplfknpdaeaefaaDoor
