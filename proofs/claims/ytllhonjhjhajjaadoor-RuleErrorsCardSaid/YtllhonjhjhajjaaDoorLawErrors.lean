/-
  The law RuleErrors: its walk.
-/
import Derived.Test.YtllhonjhjhajjaaDoorLawHelp7
namespace Go.Proofs.YtllhonjhjhajjaaDoor
open Go.RowKit Go.Sort Go.Shelf Foyer.Rule

set_option maxRecDepth 100000 in
set_option maxHeartbeats 2000000 in
theorem errors_long (hh : HeadC) (a b : ByteArray) (w : World) (h : 4000 < a.size ∨ 200 < b.size) :
    Calls Tryd.prog 7 #[.string a, .string b] w fun e w' => e = .returned (.bool true) ∧ Below w.heap.size w w' := by
  have HS : Hid (Since w w) := Below.refl _ _
  have HH := Lib.hid hh
  by_cases h1 : 4000 < a.size
  · have hd : decide ((4000 : Int) < (a.size : Int)) = true := by simp; omega
    clear h hh
    go_enter Tryd.func7, Tryd.ntmps7
    go_wp2_with fail
    refine (HH.out _).mono ?_; rintro x w1 ⟨rfl, hb1⟩
    have HS1 := Lib.hid (HS.out.call hb1); clear hb1
    go_wp2
    go_ret
    exact ⟨rfl, HS1.out⟩
  · have h2 : 200 < b.size := by omega
    have hd : decide ((4000 : Int) < (a.size : Int)) = false := by simp; omega
    have hd2 : decide ((200 : Int) < (b.size : Int)) = true := by simp; omega
    clear h hh
    go_enter Tryd.func7, Tryd.ntmps7
    go_wp2_with fail
    refine (HH.out _).mono ?_; rintro x w1 ⟨rfl, hb1⟩
    have HS1 := Lib.hid (HS.out.call hb1); clear hb1
    go_wp2
    go_ret
    exact ⟨rfl, HS1.out⟩
set_option maxRecDepth 100000 in
set_option maxHeartbeats 4000000 in
theorem errors_idle (hh : HeadC) (a b : ByteArray) (w : World) (ha : a.size ≤ 4000) (hb : b.size ≤ 200) (x : List ItemP) (E : Nat) (O : Int) (hp : parseAll a.data.toList = (x, E, O)) (ts : List TokP) (F : Nat) (O2 : Int) (hx : Foyer.Lexer.lexAll a.data.toList = (ts, F, O2)) (hE : F ≠ 0 ∨ E = 0) :
    Calls Tryd.prog 7 #[.string a, .string b] w fun e w' => e = .returned (.bool true) ∧ Below w.heap.size w w' := by
  have HS : Hid (Since w w) := Below.refl _ _
  have HH := Lib.hid hh
  have hd : decide ((4000 : Int) < (a.size : Int)) = false := by simp; omega
  have hd2 : decide ((200 : Int) < (b.size : Int)) = false := by simp; omega
  have HP := Lib.hid (fun w => rule_s a (by omega) x E O hp w)
  have HL := Lib.hid (fun w => lex_c a (by omega) ts F O2 hx w)
  have HE := Lib.hid hE
  clear hp hx hh hE
  go_enter Tryd.func7, Tryd.ntmps7
  go_wp2_with fail
  refine (HH.out _).mono ?_; rintro e w1 ⟨rfl, hb1⟩
  have HS1 := Lib.hid (HS.out.call hb1); clear hb1
  go_wp2_with fail
  refine (HL.out _).mono ?_; rintro e w2 ⟨q, cap, rfl, hr, hc, hm, hb2⟩
  have HS2 := Lib.hid (HS1.out.call hb2); clear hb2 hr hc hm
  go_wp2_with fail
  refine (HP.out _).mono ?_; rintro e w3 ⟨sa, sc, rfl, _, hb3⟩
  have HS3 := Lib.hid ((HS2.out.call hb3).alloc (.cells #[.slice sa x.length sc] 25)); clear hb3
  by_cases hF : F = 0
  · have h0 : E = 0 := HE.out.resolve_left (fun h => h hF)
    have e1 : (((F : Nat) : Int) != 0) = false := by simp [hF]
    have e2 : (((E : Nat) : Int) == 0) = true := by simp [h0]
    clear h0 hF
    go_wp2
    go_ret
    exact ⟨rfl, HS3.out⟩
  · have e1 : (((F : Nat) : Int) != 0) = true := by simp [hF]
    clear hF
    go_wp2
    go_ret
    exact ⟨rfl, HS3.out⟩
set_option maxRecDepth 100000 in
set_option maxHeartbeats 4000000 in
theorem errors_other (hh : HeadC) (a b : ByteArray) (w : World) (ha : a.size ≤ 4000) (hb : b.size ≤ 200) (x : List ItemP) (E : Nat) (O : Int) (hp : parseAll a.data.toList = (x, E, O)) (ts : List TokP) (hx : Foyer.Lexer.lexAll a.data.toList = (ts, 0, 0)) (hE : E ≠ 0) (J : ByteArray) (hJ : a ++ ⟨#[10]⟩ ++ b = J) (us : List TokP) (F2 : Nat) (O3 : Int) (hxJ : Foyer.Lexer.lexAll J.data.toList = (us, F2, O3)) (y : List ItemP) (G : Nat) (N : Int) (hpJ : parseAll J.data.toList = (y, G, N)) (hF2 : F2 ≠ 0) :
    Calls Tryd.prog 7 #[.string a, .string b] w fun e w' => e = .returned (.bool true) ∧ Below w.heap.size w w' := by
  obtain ⟨ts', h1, hlx, hlen, _⟩ := lex_inv (l := a.data.toList) (by rw [hx])
  rw [hx] at h1
  cases h1
  have hsa := size_toList a
  have hsb := size_toList b
  have hjs := join_size a b
  have hjl := join_list a b
  have hs1 : a.size + 1 ≤ 9223372036854775807 := by omega
  have hs2 : a.size + 1 + b.size ≤ 9223372036854775807 := by omega
  have hs5 : (a ++ ⟨#[10]⟩ : ByteArray).size + b.size ≤ 9223372036854775807 := by rw [ByteArray.size_append]; show a.size + 1 + b.size ≤ _; omega
  rw [hJ] at hjs hjl
  have HS : Hid (Since w w) := Below.refl _ _
  have HH := Lib.hid hh
  have hd : decide ((4000 : Int) < (a.size : Int)) = false := by simp; omega
  have hd2 : decide ((200 : Int) < (b.size : Int)) = false := by simp; omega
  have hne : (((E : Nat) : Int) == 0) = false := by simp; omega
  have HP := Lib.hid (fun w => rule_s a (by omega) x E O hp w)
  have HL := Lib.hid (fun w => lex_c a (by omega) ts 0 0 hx w)
  have HPJ := Lib.hid (fun w => rule_s J (by omega) y G N hpJ w)
  have HLJ := Lib.hid (fun w => lex_c J (by omega) us F2 O3 hxJ w)
  have HX := Lib.hid hlx; have HXJ := Lib.hid hxJ; have HpJ := Lib.hid hpJ; have HXA := Lib.hid hx; have HSB := Lib.hid hsb; have HSA := Lib.hid hsa; have HJL := Lib.hid hjl
  clear hp hx hh  hlx hxJ hpJ hE hlen hsa hsb hjl hjs
  go_enter Tryd.func7, Tryd.ntmps7
  go_wp2_with fail
  refine (HH.out _).mono ?_; rintro e w1 ⟨rfl, hb1⟩
  have HS1 := Lib.hid (HS.out.call hb1); clear hb1
  go_wp2_with fail
  refine (HL.out _).mono ?_; rintro e w2 ⟨q, cap, rfl, hr, hc, hm, hb2⟩
  have HS2 := Lib.hid (HS1.out.call hb2); have HR2 := Lib.hid hr; have HC := Lib.hid hc; have HM := Lib.hid hm
  clear hb2 hr hc hm
  go_wp2_with fail
  refine (HP.out _).mono ?_; rintro e w3 ⟨sa, sc, rfl, _, hb3⟩
  have HR3 := Lib.hid (RdT.below HR2.out (Nat.le_refl _) (hb3.alloc hb3.size (.cells #[.slice sa x.length sc] 25)))
  have HS3 := Lib.hid ((HS2.out.call hb3).alloc (.cells #[.slice sa x.length sc] 25))
  clear hb3 HR2
  go_upto_region 6 with fail
  generalize w3.alloc (.cells #[.slice sa x.length sc] 25) = X3 at *
  go_wp2_with fail
  refine (HLJ.out _).mono ?_; rintro e w4 ⟨q2, cap2, rfl, _, _, _, hb4⟩
  have HR4 := Lib.hid (RdT.below HR3.out (Nat.le_refl _) hb4)
  have HS4 := Lib.hid (HS3.out.call hb4); clear hb4 HR3
  go_wp2_with fail
  refine (HPJ.out _).mono ?_; rintro e w5 ⟨sa2, sc2, rfl, _, hb5⟩
  have HR5 := Lib.hid (RdT.below HR4.out (Nat.le_refl _) (hb5.alloc hb5.size (.cells #[.slice sa2 y.length sc2] 25)))
  have HS5 := Lib.hid ((HS4.out.call hb5).alloc (.cells #[.slice sa2 y.length sc2] 25))
  clear hb5 HR4
  go_upto_region 10 with fail
  generalize w5.alloc (.cells #[.slice sa2 y.length sc2] 25) = X5 at *
  have e1 : (((F2 : Nat) : Int) != 0) = true := by simp [hF2]
  clear hF2
  go_wp2
  go_ret
  exact ⟨rfl, HS5.out⟩
set_option maxRecDepth 100000 in
set_option maxHeartbeats 2000000 in
theorem errors_end (hh : HeadC) (a b : ByteArray) (w : World) (ha : a.size ≤ 4000) (hb : b.size ≤ 200) (x : List ItemP) (E : Nat) (O : Int) (hp : parseAll a.data.toList = (x, E, O)) (ts : List TokP) (hx : Foyer.Lexer.lexAll a.data.toList = (ts, 0, 0)) (hE : E ≠ 0) (J : ByteArray) (hJ : a ++ ⟨#[10]⟩ ++ b = J) (us : List TokP) (F2 : Nat) (O3 : Int) (hxJ : Foyer.Lexer.lexAll J.data.toList = (us, F2, O3)) (y : List ItemP) (G : Nat) (N : Int) (hpJ : parseAll J.data.toList = (y, G, N)) (hF2 : F2 = 0) (hw : E = 7 ∧ O = a.data.toList.length ∧ ∀ (m : List UInt8) (us : List TokP), m.length ≤ 200 → Foyer.Lexer.lexAll ((a.data.toList ++ [10]) ++ m) = (us, 0, 0) → ts.length ≤ us.length ∧ (us.length = ts.length → (parseAll ((a.data.toList ++ [10]) ++ m)).2.1 = 7) ∧ (us.length = ts.length ∨ (parseAll ((a.data.toList ++ [10]) ++ m)).2.1 = 0 ∨ (a.data.toList.length : Int) < (parseAll ((a.data.toList ++ [10]) ++ m)).2.2)) :
    Calls Tryd.prog 7 #[.string a, .string b] w fun e w' => e = .returned (.bool true) ∧ Below w.heap.size w w' := by
  obtain ⟨ts', h1, hlx, hlen, _⟩ := lex_inv (l := a.data.toList) (by rw [hx])
  rw [hx] at h1
  cases h1
  have hsa := size_toList a
  have hsb := size_toList b
  have hjs := join_size a b
  have hjl := join_list a b
  have hs1 : a.size + 1 ≤ 9223372036854775807 := by omega
  have hs2 : a.size + 1 + b.size ≤ 9223372036854775807 := by omega
  have hs5 : (a ++ ⟨#[10]⟩ : ByteArray).size + b.size ≤ 9223372036854775807 := by rw [ByteArray.size_append]; show a.size + 1 + b.size ≤ _; omega
  rw [hJ] at hjs hjl
  have HS : Hid (Since w w) := Below.refl _ _
  have HH := Lib.hid hh
  have hd : decide ((4000 : Int) < (a.size : Int)) = false := by simp; omega
  have hd2 : decide ((200 : Int) < (b.size : Int)) = false := by simp; omega
  have hne : (((E : Nat) : Int) == 0) = false := by simp; omega
  have HP := Lib.hid (fun w => rule_s a (by omega) x E O hp w)
  have HL := Lib.hid (fun w => lex_c a (by omega) ts 0 0 hx w)
  have HPJ := Lib.hid (fun w => rule_s J (by omega) y G N hpJ w)
  have HLJ := Lib.hid (fun w => lex_c J (by omega) us F2 O3 hxJ w)
  have HW := Lib.hid hw; have HX := Lib.hid hlx; have HXJ := Lib.hid hxJ; have HpJ := Lib.hid hpJ; have HXA := Lib.hid hx; have HSB := Lib.hid hsb; have HSA := Lib.hid hsa; have HJL := Lib.hid hjl
  clear hp hx hh hw hlx hxJ hpJ hE hlen hsa hsb hjl hjs
  go_enter Tryd.func7, Tryd.ntmps7
  go_wp2_with fail
  refine (HH.out _).mono ?_; rintro e w1 ⟨rfl, hb1⟩
  have HS1 := Lib.hid (HS.out.call hb1); clear hb1
  go_wp2_with fail
  refine (HL.out _).mono ?_; rintro e w2 ⟨q, cap, rfl, hr, hc, hm, hb2⟩
  have HS2 := Lib.hid (HS1.out.call hb2); have HR2 := Lib.hid hr; have HC := Lib.hid hc; have HM := Lib.hid hm
  clear hb2 hr hc hm
  go_wp2_with fail
  refine (HP.out _).mono ?_; rintro e w3 ⟨sa, sc, rfl, _, hb3⟩
  have HR3 := Lib.hid (RdT.below HR2.out (Nat.le_refl _) (hb3.alloc hb3.size (.cells #[.slice sa x.length sc] 25)))
  have HS3 := Lib.hid ((HS2.out.call hb3).alloc (.cells #[.slice sa x.length sc] 25))
  clear hb3 HR2
  go_upto_region 6 with fail
  generalize w3.alloc (.cells #[.slice sa x.length sc] 25) = X3 at *
  go_wp2_with fail
  refine (HLJ.out _).mono ?_; rintro e w4 ⟨q2, cap2, rfl, _, _, _, hb4⟩
  have HR4 := Lib.hid (RdT.below HR3.out (Nat.le_refl _) hb4)
  have HS4 := Lib.hid (HS3.out.call hb4); clear hb4 HR3
  go_wp2_with fail
  refine (HPJ.out _).mono ?_; rintro e w5 ⟨sa2, sc2, rfl, _, hb5⟩
  have HR5 := Lib.hid (RdT.below HR4.out (Nat.le_refl _) (hb5.alloc hb5.size (.cells #[.slice sa2 y.length sc2] 25)))
  have HS5 := Lib.hid ((HS4.out.call hb5).alloc (.cells #[.slice sa2 y.length sc2] 25))
  clear hb5 HR4
  go_upto_region 10 with fail
  generalize w5.alloc (.cells #[.slice sa2 y.length sc2] 25) = X5 at *
  subst hF2
  obtain ⟨rfl, rfl, hrest⟩ := HW.out
  obtain ⟨us', h4, _⟩ := lex_inv (l := J.data.toList) (by rw [HXJ.out])
  rw [HXJ.out] at h4
  cases h4
  obtain ⟨k1, k2, k3⟩ := hrest b.data.toList us (by have := HSB.out; omega) (by rw [← HJL.out]; exact HXJ.out)
  rw [← HJL.out, HpJ.out] at k2 k3
  have k2 : us.length = ts.length → G = 7 := k2
  have k3 : us.length = ts.length ∨ G = 0 ∨ ((a.data.toList.length : Nat) : Int) < N := k3
  rw [HSA.out] at k3 ⊢
  generalize us.length = n1 at *
  generalize ts.length = n2 at *
  clear hrest
  by_cases hq : n1 = n2
  · have e5 : (n1 == n2) = true := by simp [hq]
    have e6 : decide (n2 < n1) = false := by simp; omega
    have e1 : (((n1 : Nat) : Int) == ((n2 : Nat) : Int)) = true := by simp [hq]
    have e2 : decide (((n2 : Nat) : Int) < ((n1 : Nat) : Int)) = false := by simp; omega
    have e3 : (((G : Nat) : Int) == 7) = true := by simp [k2 hq]
    clear k1 k2 k3 hq
    go_wp2
    go_ret
    exact ⟨rfl, HS5.out⟩
  · have e5 : (n1 == n2) = false := by simp; omega
    have e6 : decide (n2 < n1) = true := by simp; omega
    have e1 : (((n1 : Nat) : Int) == ((n2 : Nat) : Int)) = false := by simp; omega
    have e2 : decide (((n2 : Nat) : Int) < ((n1 : Nat) : Int)) = true := by simp; omega
    rcases k3.resolve_left hq with h0 | h0
    · have e3 : (((G : Nat) : Int) == 0) = true := by simp [h0]
      clear k1 k2 k3 hq h0
      go_wp2
      go_ret
      exact ⟨rfl, HS5.out⟩
    · have e3 : decide (((a.size : Nat) : Int) < N) = true := by simp; exact h0
      by_cases hG : G = 0
      · have e4 : (((G : Nat) : Int) == 0) = true := by simp [hG]
        clear k1 k2 k3 hq h0 hG
        go_wp2
        go_ret
        exact ⟨rfl, HS5.out⟩
      · have e4 : (((G : Nat) : Int) == 0) = false := by simp; omega
        clear k1 k2 k3 hq h0 hG
        go_wp2
        go_ret
        exact ⟨rfl, HS5.out⟩
set_option maxRecDepth 100000 in
set_option maxHeartbeats 2000000 in
theorem errors_at (hh : HeadC) (a b : ByteArray) (w : World) (ha : a.size ≤ 4000) (hb : b.size ≤ 200) (x : List ItemP) (E : Nat) (O : Int) (hp : parseAll a.data.toList = (x, E, O)) (ts : List TokP) (hx : Foyer.Lexer.lexAll a.data.toList = (ts, 0, 0)) (hE : E ≠ 0) (J : ByteArray) (hJ : a ++ ⟨#[10]⟩ ++ b = J) (us : List TokP) (F2 : Nat) (O3 : Int) (hxJ : Foyer.Lexer.lexAll J.data.toList = (us, F2, O3)) (y : List ItemP) (G : Nat) (N : Int) (hpJ : parseAll J.data.toList = (y, G, N)) (hF2 : F2 = 0) (hw : ∃ pre t r, ts = pre ++ t :: r ∧ (E = 3 ∨ E = 4) ∧ O = (t.pos : Int) ∧ t.pos + t.text.length ≤ a.data.toList.length ∧ t.kind ≠ 0 ∧ (parseAll (a.data.toList.take (t.pos + t.text.length))).2 = (E, O) ∧ ∀ m : List UInt8, m.length ≤ 200 → (Foyer.Lexer.lexAll ((a.data.toList ++ [10]) ++ m)).2.1 = 0 → (parseAll ((a.data.toList ++ [10]) ++ m)).2 = (E, O)) :
    Calls Tryd.prog 7 #[.string a, .string b] w fun e w' => e = .returned (.bool true) ∧ Below w.heap.size w w' := by
  obtain ⟨ts', h1, hlx, hlen, _⟩ := lex_inv (l := a.data.toList) (by rw [hx])
  rw [hx] at h1
  cases h1
  have hsa := size_toList a
  have hsb := size_toList b
  have hjs := join_size a b
  have hjl := join_list a b
  have hs1 : a.size + 1 ≤ 9223372036854775807 := by omega
  have hs2 : a.size + 1 + b.size ≤ 9223372036854775807 := by omega
  have hs5 : (a ++ ⟨#[10]⟩ : ByteArray).size + b.size ≤ 9223372036854775807 := by rw [ByteArray.size_append]; show a.size + 1 + b.size ≤ _; omega
  rw [hJ] at hjs hjl
  have HS : Hid (Since w w) := Below.refl _ _
  have HH := Lib.hid hh
  have hd : decide ((4000 : Int) < (a.size : Int)) = false := by simp; omega
  have hd2 : decide ((200 : Int) < (b.size : Int)) = false := by simp; omega
  have hne : (((E : Nat) : Int) == 0) = false := by simp; omega
  have HP := Lib.hid (fun w => rule_s a (by omega) x E O hp w)
  have HL := Lib.hid (fun w => lex_c a (by omega) ts 0 0 hx w)
  have HPJ := Lib.hid (fun w => rule_s J (by omega) y G N hpJ w)
  have HLJ := Lib.hid (fun w => lex_c J (by omega) us F2 O3 hxJ w)
  have HW := Lib.hid hw; have HX := Lib.hid hlx; have HXJ := Lib.hid hxJ; have HpJ := Lib.hid hpJ; have HXA := Lib.hid hx; have HSB := Lib.hid hsb; have HSA := Lib.hid hsa; have HJL := Lib.hid hjl
  clear hp hx hh hw hlx hxJ hpJ hE hlen hsa hsb hjl hjs
  go_enter Tryd.func7, Tryd.ntmps7
  go_wp2_with fail
  refine (HH.out _).mono ?_; rintro e w1 ⟨rfl, hb1⟩
  have HS1 := Lib.hid (HS.out.call hb1); clear hb1
  go_wp2_with fail
  refine (HL.out _).mono ?_; rintro e w2 ⟨q, cap, rfl, hr, hc, hm, hb2⟩
  have HS2 := Lib.hid (HS1.out.call hb2); have HR2 := Lib.hid hr; have HC := Lib.hid hc; have HM := Lib.hid hm
  clear hb2 hr hc hm
  go_wp2_with fail
  refine (HP.out _).mono ?_; rintro e w3 ⟨sa, sc, rfl, _, hb3⟩
  have HR3 := Lib.hid (RdT.below HR2.out (Nat.le_refl _) (hb3.alloc hb3.size (.cells #[.slice sa x.length sc] 25)))
  have HS3 := Lib.hid ((HS2.out.call hb3).alloc (.cells #[.slice sa x.length sc] 25))
  clear hb3 HR2
  go_upto_region 6 with fail
  generalize w3.alloc (.cells #[.slice sa x.length sc] 25) = X3 at *
  go_wp2_with fail
  refine (HLJ.out _).mono ?_; rintro e w4 ⟨q2, cap2, rfl, _, _, _, hb4⟩
  have HR4 := Lib.hid (RdT.below HR3.out (Nat.le_refl _) hb4)
  have HS4 := Lib.hid (HS3.out.call hb4); clear hb4 HR3
  go_wp2_with fail
  refine (HPJ.out _).mono ?_; rintro e w5 ⟨sa2, sc2, rfl, _, hb5⟩
  have HR5 := Lib.hid (RdT.below HR4.out (Nat.le_refl _) (hb5.alloc hb5.size (.cells #[.slice sa2 y.length sc2] 25)))
  have HS5 := Lib.hid ((HS4.out.call hb5).alloc (.cells #[.slice sa2 y.length sc2] 25))
  clear hb5 HR4
  go_upto_region 10 with fail
  generalize w5.alloc (.cells #[.slice sa2 y.length sc2] 25) = X5 at *
  subst hF2
  obtain ⟨pre, t, r, rfl, hE2, rfl, hpl, hk0, hcut, hjoin⟩ := HW.out
  have hj := hjoin b.data.toList (by have := HSB.out; omega) (by rw [← HJL.out, HXJ.out])
  rw [← HJL.out, HpJ.out] at hj
  obtain ⟨rfl, rfl⟩ : G = E ∧ N = ((t.pos : Nat) : Int) := by
    have h1 : (G, N) = (E, ((t.pos : Nat) : Int)) := hj
    exact ⟨congrArg Prod.fst h1, congrArg Prod.snd h1⟩
  obtain ⟨tp, htp⟩ : ∃ tp, t.pos = tp := ⟨_, rfl⟩
  obtain ⟨tl, htl⟩ : ∃ tl, t.text.length = tl := ⟨_, rfl⟩
  obtain ⟨l2, hx2, hl2⟩ := cut_list a (tp + tl)
  rw [htp, htl, ← hl2] at hcut
  obtain ⟨z, H3, N3, hz⟩ : ∃ z H3 N3, parseAll l2 = (z, H3, N3) := ⟨_, _, _, rfl⟩
  rw [hz] at hcut
  obtain ⟨rfl, rfl⟩ : H3 = G ∧ N3 = ((tp : Nat) : Int) := by
    have h1 : (H3, N3) = (G, ((tp : Nat) : Int)) := hcut
    exact ⟨congrArg Prod.fst h1, congrArg Prod.snd h1⟩
  have hl2n : l2.length ≤ 4000 := by rw [hl2, List.length_take]; have := HSA.out; omega
  have HPC := Lib.hid (fun w => rule_s ⟨l2.toArray⟩ (by rw [size_of_list]; omega) z H3 (tp : Int) hz w)
  have hpl2 : tp + tl ≤ a.size := by rw [htp, htl] at hpl; have := HSA.out; omega
  have HBF := Lib.hid (lx_before HX.out)
  rw [htp] at HBF ⊢
  have HTP := Lib.hid htp; have HTL := Lib.hid htl
  have hkn : (((t.kind : Nat) : Int) != 0) = true := by simp [hk0]
  have hf1 := tok_field1
  have hf0 : ∀ (a b c d : Value) (w : World), (Instr.field 44 (.agg #[a, b, c, d]) 0).run Tryd.prog w = .ok a w := fun a b c d w => by kernel_rfl
  obtain ⟨n, hn⟩ : ∃ n, (pre ++ t :: r).length = n := ⟨_, rfl⟩
  have hcn := HC.out; have hmn := HM.out
  rw [hn] at hcn ⊢
  have HN := Lib.hid hn
  have e7 : (((H3 : Nat) : Int) == 7) = false := by simp; omega
  have hE3 : (((H3 : Nat) : Int) == 4) = true ∨ ((((H3 : Nat) : Int) == 4) = false ∧ (((H3 : Nat) : Int) == 3) = true) := by
    rcases hE2 with h | h
    · right; simp [h]
    · left; simp [h]
  have HE3 := Lib.hid hE3
  clear hz hcut hj hjoin hpl hk0 hE2 htp htl hn hE3 hl2
  go_wp2_with fail
  refine (tokenL_any pre r t tp HTP.out HBF.out q n cap HN.out _ HR5.out hcn hmn).mono ?_; rintro e w6 ⟨rfl, hb6⟩
  have HR6 := Lib.hid (RdT.below HR5.out (Nat.le_refl _) hb6)
  have HS6 := Lib.hid (HS5.out.call hb6); clear hb6 HR5
  unfold tkV
  have htl2 : (⟨t.text.toArray⟩ : ByteArray).size = tl := by rw [size_of_list]; exact HTL.out
  have htl3 : t.text.length = tl := HTL.out
  go_wp2_with fail
  refine (HPC.out _).mono ?_; rintro e w7 ⟨sa3, sc3, rfl, _, hb7⟩
  have HR7 := Lib.hid (RdT.below HR6.out (Nat.le_refl _) (hb7.alloc hb7.size (.cells #[.slice sa3 z.length sc3] 25)))
  have HS7 := Lib.hid ((HS6.out.call hb7).alloc (.cells #[.slice sa3 z.length sc3] 25))
  clear hb7 HR6
  go_upto_region 16 with fail
  generalize w7.alloc (.cells #[.slice sa3 z.length sc3] 25) = X7 at *
  rcases HE3.out with h4 | ⟨h4, h3⟩
  · go_wp2_with fail
    refine (tokenL_any pre r t tp HTP.out HBF.out q n cap HN.out _ HR7.out hcn hmn).mono ?_; rintro e w8 ⟨rfl, hb8⟩
    have HS8 := Lib.hid (HS7.out.call hb8); clear hb8
    unfold tkV
    go_wp2
    go_ret
    exact ⟨rfl, HS8.out⟩
  · go_wp2_with fail
    refine (tokenL_any pre r t tp HTP.out HBF.out q n cap HN.out _ HR7.out hcn hmn).mono ?_; rintro e w8 ⟨rfl, hb8⟩
    have HS8 := Lib.hid (HS7.out.call hb8); clear hb8
    unfold tkV
    go_wp2
    go_ret
    exact ⟨rfl, HS8.out⟩
theorem errors_walk_of (hh : HeadC) (a b : ByteArray) (w : World) :
    Calls Tryd.prog 7 #[.string a, .string b] w fun e w' => e = .returned (.bool true) ∧ Below w.heap.size w w' := by
  by_cases hlong : 4000 < a.size ∨ 200 < b.size
  · exact errors_long hh a b w hlong
  have ha : a.size ≤ 4000 := by omega
  have hb : b.size ≤ 200 := by omega
  obtain ⟨x, E, O, hp⟩ : ∃ x E O, parseAll a.data.toList = (x, E, O) := ⟨_, _, _, rfl⟩
  obtain ⟨ts, F, O2, hx⟩ : ∃ ts F O2, Foyer.Lexer.lexAll a.data.toList = (ts, F, O2) := ⟨_, _, _, rfl⟩
  by_cases hidle : F ≠ 0 ∨ E = 0
  · exact errors_idle hh a b w ha hb x E O hp ts F O2 hx hidle
  have hE : E ≠ 0 := by omega
  have hF : F = 0 := by omega
  subst hF
  obtain ⟨ts', h1, hlx, hlen, _⟩ := lex_inv (l := a.data.toList) (by rw [hx])
  rw [hx] at h1
  cases h1
  obtain ⟨J, hJ⟩ : ∃ J : ByteArray, a ++ ⟨#[10]⟩ ++ b = J := ⟨_, rfl⟩
  obtain ⟨us, F2, O3, hxJ⟩ : ∃ us F2 O3, Foyer.Lexer.lexAll J.data.toList = (us, F2, O3) := ⟨_, _, _, rfl⟩
  obtain ⟨y, G, N, hpJ⟩ : ∃ y G N, parseAll J.data.toList = (y, G, N) := ⟨_, _, _, rfl⟩
  by_cases hF2 : F2 = 0
  · rcases errors (by have := size_toList a; omega) hx hp hE with h | h
    · exact errors_end hh a b w ha hb x E O hp ts hx hE J hJ us F2 O3 hxJ y G N hpJ hF2 h
    · exact errors_at hh a b w ha hb x E O hp ts hx hE J hJ us F2 O3 hxJ y G N hpJ hF2 h
  · exact errors_other hh a b w ha hb x E O hp ts hx hE J hJ us F2 O3 hxJ y G N hpJ hF2
end Go.Proofs.YtllhonjhjhajjaaDoor
