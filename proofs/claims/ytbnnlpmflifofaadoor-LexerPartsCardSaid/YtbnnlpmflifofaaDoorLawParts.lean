/-
  The law LexerParts: its walk.
-/
import Derived.Test.YtbnnlpmflifofaaDoorLawHelp
import Derived.Test.YtbnnlpmflifofaaDoorRefSame
namespace Go.Proofs.YtbnnlpmflifofaaDoor
open Go.RowKit Go.Sort Foyer.Lexer

theorem rdT_take {w : World} {p : Option Addr} {ts us : List Foyer.Lexer.Tok} (h : RdT w p (ts ++ us)) : RdT w p ts := by
  rcases h with h | ⟨b, off, rfl, hlt, hc⟩
  · exact Or.inl (List.append_eq_nil_iff.1 h).1
  · exact Or.inr ⟨b, off, rfl, hlt, fun j t hj => hc j t (by
      have := (List.getElem?_eq_some_iff.1 hj).1
      rw [List.getElem?_append_left this]; exact hj)⟩
theorem rdT_drop {w : World} {b off : Nat} {ts us : List Foyer.Lexer.Tok} (h : RdT w (some ⟨b, off, none⟩) (ts ++ us)) : RdT w (some ⟨b, off + ts.length * 4, none⟩) us := by
  rcases h with h | ⟨b', off', e, hlt, hc⟩
  · exact Or.inl (List.append_eq_nil_iff.1 h).2
  · simp only [Option.some.injEq, Addr.mk.injEq, and_true] at e
    obtain ⟨rfl, rfl⟩ := e
    refine Or.inr ⟨b, off + ts.length * 4, rfl, hlt, fun j t hj => ?_⟩
    have := hc (ts.length + j) t (by rw [List.getElem?_append_right (by omega), Nat.add_sub_cancel_left]; exact hj)
    rwa [Nat.add_mul, ← Nat.add_assoc] at this
theorem rdT_add {w : World} {g : Addr} {ts us : List Foyer.Lexer.Tok} {n : Nat} (hn : ts.length = n) (h : RdT w (some g) (ts ++ us)) : RdT w (some (g.add (n * 4))) us := by
  subst hn
  have h0 := h
  rcases h with h | ⟨b', off', e, hlt, hc⟩
  · exact Or.inl (List.append_eq_nil_iff.1 h).2
  · simp only [Option.some.injEq] at e
    subst e
    rw [add_plain]
    exact rdT_drop h0
theorem join_list (a b : ByteArray) : (a ++ ⟨#[10]⟩ ++ b).data.toList = (a.data.toList ++ [10]) ++ b.data.toList := by
  rw [ByteArray.data_append, ByteArray.data_append]; simp
theorem join_size (a b : ByteArray) : (a ++ ⟨#[10]⟩ ++ b).size = a.size + 1 + b.size := by
  rw [ByteArray.size_append, ByteArray.size_append]; rfl

theorem join_len (a b : ByteArray) : (a ++ ⟨#[10]⟩ ++ b).data.toList.length = a.size + 1 + b.size := by
  rw [join_list, List.length_append, List.length_append]; simp

set_option maxRecDepth 100000 in
set_option maxHeartbeats 2000000 in
theorem parts_long (a b : ByteArray) (w : World) (h : 1500 < a.size ∨ 1500 < b.size) (ha : a.size ≤ 9223372036854775807) (hb : b.size ≤ 9223372036854775807) :
    Calls Tryd.prog 6 #[.string a, .string b] w fun e w' => e = .returned (.bool true) ∧ Below w.heap.size w w' := by
  have HS : Hid (Since w w) := Below.refl _ _
  by_cases h1 : 1500 < a.size
  · have hd : decide ((1500 : Int) < (a.size : Int)) = true := by simp; omega
    clear h
    go_enter Tryd.func6, Tryd.ntmps6
    go_wp2_with fail
    refine (head_any _).mono ?_; rintro x w1 ⟨rfl, hb1⟩
    have HS1 := Lib.hid (HS.out.call hb1); clear hb1
    go_wp2
    go_ret
    exact ⟨rfl, HS1.out⟩
  · have h2 : 1500 < b.size := by omega
    have hd : decide ((1500 : Int) < (a.size : Int)) = false := by simp; omega
    have hd2 : decide ((1500 : Int) < (b.size : Int)) = true := by simp; omega
    clear h
    go_enter Tryd.func6, Tryd.ntmps6
    go_wp2_with fail
    refine (head_any _).mono ?_; rintro x w1 ⟨rfl, hb1⟩
    have HS1 := Lib.hid (HS.out.call hb1); clear hb1
    go_wp2
    go_ret
    exact ⟨rfl, HS1.out⟩

set_option maxRecDepth 100000 in
set_option maxHeartbeats 2000000 in
theorem parts_bad (a b : ByteArray) (w : World) (ha : a.size ≤ 1500) (hb : b.size ≤ 1500) (ts us : List Foyer.Lexer.Tok) (d p E : Nat) (O : Int) (h1 : Lx 0 a.data.toList ts (some (d, p))) (h2 : lexAll b.data.toList = (us, E, O)) :
    Calls Tryd.prog 6 #[.string a, .string b] w fun e w' => e = .returned (.bool true) ∧ Below w.heap.size w w' := by
  have HS : Hid (Since w w) := Below.refl _ _
  have hd : decide ((1500 : Int) < (a.size : Int)) = false := by simp; omega
  have hdb : decide ((1500 : Int) < (b.size : Int)) = false := by simp; omega
  have hsa : a.data.toList.length = a.size := by simp
  have hsb : b.data.toList.length = b.size := by simp
  have hx1 := lexAll_some (by omega) h1
  have h3 := parts_first (m := b.data.toList) h1
  rw [← join_list] at h3
  have hx3 := lexAll_some (by rw [join_len]; omega) h3
  have hd3 := (lx_err h1 d p rfl).1
  have hl1 := fun w => lex_c a (by omega) [] d p hx1 w
  have hl2 := fun w => lex_c b (by omega) us E O h2 w
  have hl3 := fun w => lex_c (a ++ ⟨#[10]⟩ ++ b) (by rw [join_size]; omega) [] d p hx3 w
  have HL1 := Lib.hid hl1; have HL2 := Lib.hid hl2; have HL3 := Lib.hid hl3
  have hd0 : ((d : Int) != 0) = true := by rcases hd3 with rfl | rfl | rfl <;> rfl
  clear hx1 hx3 h1 h2 h3 hl1 hl2 hl3 hsa hsb hd3
  go_enter Tryd.func6, Tryd.ntmps6
  go_wp2_with fail
  refine (head_any _).mono ?_; rintro x w1 ⟨rfl, hb1⟩
  have HS1 := Lib.hid (HS.out.call hb1); clear hb1
  go_wp2_with fail
  refine (HL1.out _).mono ?_; rintro x w2 ⟨q, cap, rfl, hr, hc, hm, hb2⟩
  have HS2 := Lib.hid (HS1.out.call hb2); clear hb2 hr
  go_wp2_with fail
  refine (HL2.out _).mono ?_; rintro x w3 ⟨q1, cap1, rfl, hr1, hc1, hm1, hb3⟩
  have HS3 := Lib.hid (HS2.out.call hb3); clear hb3 hr1
  go_wp2_with fail
  refine (HL3.out _).mono ?_; rintro x w4 ⟨q2, cap2, rfl, hr2, hc2, hm2, hb4⟩
  have HS4 := Lib.hid (HS3.out.call hb4); clear hb4 hr2
  go_wp2
  go_ret
  exact ⟨rfl, HS4.out⟩

set_option maxRecDepth 100000 in
set_option maxHeartbeats 2000000 in
theorem parts_second_w (a b : ByteArray) (w : World) (ha : a.size ≤ 1500) (hb : b.size ≤ 1500) (ts us : List Foyer.Lexer.Tok) (d p : Nat) (h1 : Lx 0 a.data.toList ts none) (h2 : Lx 0 b.data.toList us (some (d, p))) :
    Calls Tryd.prog 6 #[.string a, .string b] w fun e w' => e = .returned (.bool true) ∧ Below w.heap.size w w' := by
  have HS : Hid (Since w w) := Below.refl _ _
  have hd : decide ((1500 : Int) < (a.size : Int)) = false := by simp; omega
  have hdb : decide ((1500 : Int) < (b.size : Int)) = false := by simp; omega
  have hsa : a.data.toList.length = a.size := by simp
  have hsb : b.data.toList.length = b.size := by simp
  have hx1 := lexAll_none (by omega) h1
  have hx2 := lexAll_some (by omega) h2
  have h3 := Foyer.Lexer.parts_second h1 h2
  rw [← join_list, hsa] at h3
  have hx3 := lexAll_some (by rw [join_len]; omega) h3
  have hd3 := (lx_err h2 d p rfl).1
  have hpb := (lx_err h2 d p rfl).2.2
  have hl1 := fun w => lex_c a (by omega) ts 0 0 hx1 w
  have hl2 := fun w => lex_c b (by omega) [] d p hx2 w
  have hl3 := fun w => lex_c (a ++ ⟨#[10]⟩ ++ b) (by rw [join_size]; omega) [] d ((p + (a.size + 1) : Nat) : Int) hx3 w
  have HL1 := Lib.hid hl1; have HL2 := Lib.hid hl2; have HL3 := Lib.hid hl3
  have hd0 : ((d : Int) != 0) = true := by rcases hd3 with rfl | rfl | rfl <;> rfl
  have hpp : p ≤ 1500 := by omega
  obtain ⟨q, hq⟩ : ∃ q, p + (a.size + 1) = q := ⟨_, rfl⟩
  rw [hq] at HL3
  have hqq : ((q : Int) == (p : Int) + (a.size : Int) + 1) = true := by simp; omega
  clear hx1 hx2 hx3 h1 h2 h3 hl1 hl2 hl3 hsa hsb hd3 hpb
  have HQ := Lib.hid hq; clear hq
  go_enter Tryd.func6, Tryd.ntmps6
  go_wp2_with fail
  refine (head_any _).mono ?_; rintro x w1 ⟨rfl, hb1⟩
  have HS1 := Lib.hid (HS.out.call hb1); clear hb1
  go_wp2_with fail
  refine (HL1.out _).mono ?_; rintro x w2 ⟨q0, cap, rfl, hr, hc, hm, hb2⟩
  have HS2 := Lib.hid (HS1.out.call hb2); clear hb2 hr
  go_wp2_with fail
  refine (HL2.out _).mono ?_; rintro x w3 ⟨q1, cap1, rfl, hr1, hc1, hm1, hb3⟩
  have HS3 := Lib.hid (HS2.out.call hb3); clear hb3 hr1
  go_wp2_with fail
  refine (HL3.out _).mono ?_; rintro x w4 ⟨q2, cap2, rfl, hr2, hc2, hm2, hb4⟩
  have HS4 := Lib.hid (HS3.out.call hb4); clear hb4 hr2
  go_wp2
  go_ret
  exact ⟨rfl, HS4.out⟩

set_option maxRecDepth 100000 in
set_option maxHeartbeats 2000000 in
theorem parts_ok_w (a b : ByteArray) (w : World) (ha : a.size ≤ 1500) (hb : b.size ≤ 1500) (ts us : List Foyer.Lexer.Tok) (h1 : Lx 0 a.data.toList ts none) (h2 : Lx 0 b.data.toList us none) :
    Calls Tryd.prog 6 #[.string a, .string b] w fun e w' => e = .returned (.bool true) ∧ Below w.heap.size w w' := by
  have HS : Hid (Since w w) := Below.refl _ _
  have hd : decide ((1500 : Int) < (a.size : Int)) = false := by simp; omega
  have hdb : decide ((1500 : Int) < (b.size : Int)) = false := by simp; omega
  have hsa : a.data.toList.length = a.size := by simp
  have hsb : b.data.toList.length = b.size := by simp
  have hx1 := lexAll_none (by omega) h1
  have hx2 := lexAll_none (by omega) h2
  have h3 := Foyer.Lexer.parts_ok h1 h2
  rw [← join_list, hsa] at h3
  have hx3 := lexAll_none (by rw [join_len]; omega) h3
  have hc1 := lx_count h1
  have hc2 := lx_count h2
  have hp1 := lx_pos h1
  have hp2 := lx_pos h2
  rw [hsa] at hc1 hp1
  rw [hsb] at hc2 hp2
  obtain ⟨vs, hvs⟩ : ∃ vs, shift (a.size + 1) us = vs := ⟨_, rfl⟩
  rw [hvs] at hx3
  have hmv1 : moved ts 0 ts = true := by unfold moved; rw [shift_zero]; simp
  have hmv2 : moved us (a.size + 1) vs = true := by unfold moved; rw [hvs]; simp
  obtain ⟨n1, hn1⟩ : ∃ n, ts.length = n := ⟨_, rfl⟩
  obtain ⟨n2, hn2⟩ : ∃ n, us.length = n := ⟨_, rfl⟩
  have hnv : vs.length = n2 := by rw [← hvs, ← hn2]; unfold shift; rw [List.length_map]
  rw [hn1] at hc1
  rw [hn2] at hc2
  have hl1 := fun w => lex_n a (by omega) ts n1 0 0 hn1 hx1 w
  have hl2 := fun w => lex_n b (by omega) us n2 0 0 hn2 hx2 w
  have hl3 := fun w => lex_q (a ++ ⟨#[10]⟩ ++ b) (by rw [join_size]; omega) (ts ++ vs) (n1 + n2) 0 0 (by rw [List.length_append, hn1, hnv]) hx3 w
  have HL1 := Lib.hid hl1; have HL2 := Lib.hid hl2; have HL3 := Lib.hid hl3; have HM1 := Lib.hid hmv1; have HM2 := Lib.hid hmv2; have HN1 := Lib.hid hn1; have HN2 := Lib.hid hn2; have HNV := Lib.hid hnv
  have HP1 : Hid (∀ u ∈ ts, u.pos ≤ 1000000) := fun u hu => by have := hp1 u hu; omega
  have HP2 : Hid (∀ u ∈ us, u.pos ≤ 1000000) := fun u hu => by have := hp2 u hu; omega
  clear hx1 hx2 hx3 h1 h2 h3 hl1 hl2 hl3 hsa hsb hp1 hp2 hvs hmv1 hmv2 hn1 hn2 hnv
  go_enter Tryd.func6, Tryd.ntmps6
  go_wp2_with fail
  refine (head_any _).mono ?_; rintro x w1 ⟨rfl, hb1⟩
  have HS1 := Lib.hid (HS.out.call hb1); clear hb1
  go_wp2_with fail
  refine (HL1.out _).mono ?_; rintro x w2 ⟨q0, cap, rfl, hr, hc, hm, hb2⟩
  have HS2 := Lib.hid (HS1.out.call hb2); have HR := Lib.hid hr; clear hb2 hr
  go_wp2_with fail
  refine (HL2.out _).mono ?_; rintro x w3 ⟨q1, cap1, rfl, hr1, hc1', hm1, hb3⟩
  have HS3 := Lib.hid (HS2.out.call hb3); have HR1 := Lib.hid hr1; have HRa := Lib.hid (HR.out.since hb3); clear hb3 hr1
  go_wp2_with fail
  refine (HL3.out _).mono ?_; rintro x w4 ⟨q2, cap2, rfl, hr2, hc2', hm2, hb4, hnil⟩
  have HS4 := Lib.hid (HS3.out.call hb4); have HR2 := Lib.hid hr2; have HRa2 := Lib.hid (HRa.out.since hb4); have HRb := Lib.hid (HR1.out.since hb4); clear hb4 hr2
  cases q2 with
  | none =>
    obtain rfl : cap2 = 0 := hnil rfl
    obtain rfl : n1 = 0 := by omega
    obtain rfl : n2 = 0 := by omega
    have hts : ts = [] := List.length_eq_zero_iff.1 HN1.out
    have hvs : vs = [] := List.length_eq_zero_iff.1 HNV.out
    clear hnil
    have hs1 := fun w => same_any ts ts q0 none 0 cap 0 0 0 w (Or.inl hts) (Or.inl hts) HN1.out HN1.out (by omega) (by omega) (by omega) HP1.out
    have hs2 := fun w => same_any us vs q1 none 0 cap1 0 0 (a.size + 1) w (Or.inl (List.length_eq_zero_iff.1 HN2.out)) (Or.inl hvs) HN2.out HNV.out (by omega) (by omega) (by omega) HP2.out
    rw [HM1.out] at hs1
    rw [HM2.out] at hs2
    have HSA := Lib.hid hs1; have HSB := Lib.hid hs2
    clear hs1 hs2 hts hvs
    go_wp2_with fail
    refine (HSA.out _).mono ?_; rintro x w5 ⟨rfl, hb5⟩
    have HS5 := Lib.hid (HS4.out.call hb5); clear hb5
    go_wp2_with fail
    refine (HSB.out _).mono ?_; rintro x w6 ⟨rfl, hb6⟩
    have HS6 := Lib.hid (HS5.out.call hb6); clear hb6
    go_wp2
    go_ret
    exact ⟨rfl, HS6.out⟩
  | some g =>
    clear hnil
    have hA := rdT_take HR2.out
    have hs1 := fun m w (h1 : RdT w q0 ts) (h2 : RdT w (some g) ts) => same_any ts ts q0 (some g) n1 cap n1 m 0 w h1 h2 HN1.out HN1.out (by omega) (by omega) (by omega) HP1.out
    have hs2 := fun q m w (h1 : RdT w q1 us) (h2 : RdT w q vs) => same_any us vs q1 q n2 cap1 n2 m (a.size + 1) w h1 h2 HN2.out HNV.out (by omega) (by omega) (by omega) HP2.out
    rw [HM1.out] at hs1
    rw [HM2.out] at hs2
    have HSA := Lib.hid hs1; have HSB := Lib.hid hs2; have HA := Lib.hid hA
    clear hs1 hs2 hA
    go_wp2_with fail
    refine (HSA.out _ _ HRa2.out HA.out).mono ?_; rintro x w5 ⟨rfl, hb5⟩
    have HS5 := Lib.hid (HS4.out.call hb5)
    have HR5 := Lib.hid (HR2.out.since hb5); have HRb5 := Lib.hid (HRb.out.since hb5); clear hb5
    have hR6 := rdT_add HN1.out HR5.out
    have HR6 := Lib.hid hR6
    clear hR6
    by_cases hcap : cap2 = n1
    · have hz : n2 = 0 := by omega
      have hcap' : decide ((cap2 : Int) = (n1 : Int)) = true := by simp; omega
      subst hz
      subst hcap
      go_wp2_with fail
      refine (HSB.out _ _ _ HRb5.out (Or.inl (List.length_eq_zero_iff.1 HNV.out))).mono ?_; rintro x w6 ⟨rfl, hb6⟩
      have HS6 := Lib.hid (HS5.out.call hb6); clear hb6
      go_wp2
      go_ret
      exact ⟨rfl, HS6.out⟩
    · go_wp2_with fail
      refine (HSB.out _ _ _ HRb5.out HR6.out).mono ?_; rintro x w6 ⟨rfl, hb6⟩
      have HS6 := Lib.hid (HS5.out.call hb6); clear hb6
      go_wp2
      go_ret
      exact ⟨rfl, HS6.out⟩
theorem parts_walk (a b : ByteArray) (w : World) (ha : a.size ≤ maxLen) (hb : b.size ≤ maxLen) (_ : Env w) :
    Calls Tryd.prog 6 #[.string a, .string b] w fun e w' => e = .returned (.bool true) ∧ Below w.heap.size w w' := by
  unfold maxLen at ha hb
  by_cases h : 1500 < a.size ∨ 1500 < b.size
  · exact parts_long a b w h ha hb
  · have h1 : a.size ≤ 1500 := by omega
    have h2 : b.size ≤ 1500 := by omega
    rcases lex_ways a.data.toList (by simp; omega) with ⟨ts, hlx, _⟩ | ⟨ts, d, p, hlx, _⟩
    · rcases lex_ways b.data.toList (by simp; omega) with ⟨us, hlx2, _⟩ | ⟨us, d, p, hlx2, _⟩
      · exact parts_ok_w a b w h1 h2 ts us hlx hlx2
      · exact parts_second_w a b w h1 h2 ts us d p hlx hlx2
    · obtain ⟨⟨us, E, O⟩, hx⟩ : ∃ x, lexAll b.data.toList = x := ⟨_, rfl⟩
      exact parts_bad a b w h1 h2 ts us d p E O hlx hx
end Go.Proofs.YtbnnlpmflifofaaDoor
