/-
  The law PlanLevels: its walk.
-/
import Derived.Test.YtkggmehbkefgjaaDoorHead6
import Derived.Test.YtkggmehbkefgjaaDoorMathJoin
import Derived.Test.YtkggmehbkefgjaaDoorRefSame6
import Derived.Lib.QuietBelow
namespace Go.Proofs.YtkggmehbkefgjaaDoor
open Go.RowKit Go.Sort Go.Shelf Foyer.Plan Foyer.Round

theorem kwrap {n : Nat} (h : n ≤ 9223372036854775807) : IntKind.i64.wrap (n : Int) = n := IntWalk.i64_in _ ⟨by omega, by omega⟩
theorem wrap_one {op tp : Nat} (h : op + 1 ≤ tp) (h2 : tp ≤ 4000) : wrap64 ((op : Int) + 1) = (op : Int) + 1 := IntWalk.wrap64_in _ ⟨by omega, by omega⟩
theorem slices_in {tp1 tp2 op s1 s2 : Nat} (h1 : tp1 ≤ s1) (h2 : tp2 ≤ s2) (h3 : op + 1 ≤ tp2) : ((0 : Int) ≤ tp1 ∧ (tp1 : Int) ≤ s1) ∧ ((op : Int) + 1 ≤ tp2 ∧ (tp2 : Int) ≤ s2) ∧ ((0 : Int) ≤ (op : Int) + 1) ∧ ((op : Int) + 1 ≤ tp2) ∧ ((tp2 : Int) ≤ s2) ∧ ((tp1 : Int) ≤ s1) := by omega
set_option maxRecDepth 100000 in
set_option maxHeartbeats 2000000 in
theorem levels_long (a b : ByteArray) (w : World) (h : 4000 < a.size ∨ 4000 < b.size) :
    Calls Tryd.prog 6 #[.string a, .string b] w fun e w' => e = .returned (.bool true) ∧ Below w.heap.size w w' := by
  have HS : Hid (Since w w) := Below.refl _ _
  by_cases h1 : 4000 < a.size
  · have hd : decide ((4000 : Int) < (a.size : Int)) = true := by simp; omega
    clear h
    go_enter Tryd.func6, Tryd.ntmps6
    go_wp2_with fail
    refine (head_any _).mono ?_; rintro x w1 ⟨rfl, hb1⟩
    have HS1 := Lib.hid (HS.out.call hb1); clear hb1
    go_wp2
    go_ret
    exact ⟨rfl, HS1.out⟩
  · have h2 : 4000 < b.size := by omega
    have hd : decide ((4000 : Int) < (a.size : Int)) = false := by simp; omega
    have hd2 : decide ((4000 : Int) < (b.size : Int)) = true := by simp; omega
    clear h
    go_enter Tryd.func6, Tryd.ntmps6
    go_wp2_with fail
    refine (head_any _).mono ?_; rintro x w1 ⟨rfl, hb1⟩
    have HS1 := Lib.hid (HS.out.call hb1); clear hb1
    go_wp2
    go_ret
    exact ⟨rfl, HS1.out⟩
set_option maxRecDepth 100000 in
set_option maxHeartbeats 2000000 in
theorem levels_bad (a b : ByteArray) (w : World) (ha : a.size ≤ 4000) (hb : b.size ≤ 4000) (x y : HallP) (E G : Nat) (O Q : Int) (hx : parseAll a.data.toList = (x, E, O)) (hy : parseAll b.data.toList = (y, G, Q))
    (h : E ≠ 0 ∨ G ≠ 0 ∨ 4000 < (Foyer.Lexer.lexAll a.data.toList).1.length + (Foyer.Lexer.lexAll b.data.toList).1.length) :
    Calls Tryd.prog 6 #[.string a, .string b] w fun e w' => e = .returned (.bool true) ∧ Below w.heap.size w w' := by
  have HS : Hid (Since w w) := Below.refl _ _
  have hd : decide ((4000 : Int) < (a.size : Int)) = false := by simp; omega
  have hd2 : decide ((4000 : Int) < (b.size : Int)) = false := by simp; omega
  have hn5 := (Foyer.Lexer.lexAll_bounds a.data.toList).1
  have hm5 := (Foyer.Lexer.lexAll_bounds b.data.toList).1
  have HP := Lib.hid (fun w => plan_s a (by omega) x E O hx w)
  have HQ := Lib.hid (fun w => plan_s b (by omega) y G Q hy w)
  have HL := Lib.hid (fun w => lex_c a (by omega) (Foyer.Lexer.lexAll a.data.toList).1 (Foyer.Lexer.lexAll a.data.toList).2.1 (Foyer.Lexer.lexAll a.data.toList).2.2 rfl w)
  have HM := Lib.hid (fun w => lex_c b (by omega) (Foyer.Lexer.lexAll b.data.toList).1 (Foyer.Lexer.lexAll b.data.toList).2.1 (Foyer.Lexer.lexAll b.data.toList).2.2 rfl w)
  have HH := Lib.hid h
  clear hx hy h
  go_enter Tryd.func6, Tryd.ntmps6
  go_wp2_with fail
  refine (head_any _).mono ?_; rintro e w1 ⟨rfl, hb1⟩
  have HS1 := Lib.hid (HS.out.call hb1); clear hb1
  go_wp2_with fail
  refine (HP.out _).mono ?_; rintro e w2 ⟨v1, v2, v3, rfl, _, hb2⟩
  have HS2 := Lib.hid ((HS1.out.call hb2).alloc (.cells #[.string ⟨x.name.toArray⟩, .int .i64 (x.sx : Nat), .int .i64 (x.sy : Nat), .slice v1 v2 v3] 31)); clear hb2
  go_wp2_with fail
  refine (HQ.out _).mono ?_; rintro e w3 ⟨v4, v5, v6, rfl, _, hb3⟩
  have HS3 := Lib.hid ((HS2.out.call hb3).alloc (.cells #[.string ⟨y.name.toArray⟩, .int .i64 (y.sx : Nat), .int .i64 (y.sy : Nat), .slice v4 v5 v6] 31)); clear hb3
  go_wp2_with fail
  refine (HL.out _).mono ?_; rintro e w4 ⟨q, cap, rfl, _, _, _, hb4⟩
  have HS4 := Lib.hid (HS3.out.call hb4); clear hb4
  go_wp2_with fail
  refine (HM.out _).mono ?_; rintro e w5 ⟨q2, cap2, rfl, _, _, _, hb5⟩
  have HS5 := Lib.hid (HS4.out.call hb5); clear hb5
  have hh := HH.out
  clear HH HP HQ HL HM
  generalize (Foyer.Lexer.lexAll a.data.toList).1.length = n at *
  generalize (Foyer.Lexer.lexAll b.data.toList).1.length = m at *
  generalize (Foyer.Lexer.lexAll a.data.toList).2.1 = z1 at *
  generalize (Foyer.Lexer.lexAll a.data.toList).2.2 = z2 at *
  generalize (Foyer.Lexer.lexAll b.data.toList).2.1 = z3 at *
  generalize (Foyer.Lexer.lexAll b.data.toList).2.2 = z4 at *
  by_cases hE : E = 0
  · have e1 : (((E : Nat) : Int) != 0) = false := by simp [hE]
    by_cases hG : G = 0
    · have e2 : (((G : Nat) : Int) != 0) = false := by simp [hG]
      have e3 : decide ((4000 : Int) < (n : Int) + (m : Int)) = true := by simp; omega
      have e4 : decide ((4000 : Int) < ((n + m : Nat) : Int)) = true := by simp; omega
      clear hh hE hG
      go_wp2
      go_ret
      exact ⟨rfl, HS5.out⟩
    · have e2 : (((G : Nat) : Int) != 0) = true := by simp [hG]
      clear hh hE hG
      go_wp2
      go_ret
      exact ⟨rfl, HS5.out⟩
  · have e1 : (((E : Nat) : Int) != 0) = true := by simp [hE]
    clear hh hE
    go_wp2
    go_ret
    exact ⟨rfl, HS5.out⟩
set_option linter.unusedSimpArgs false in
set_option maxRecDepth 100000 in
set_option maxHeartbeats 16000000 in
theorem levels_main (a b : ByteArray) (w : World) (ha : a.size ≤ 4000) (hb : b.size ≤ 4000) (x y : HallP) (O Q : Int) (hx : parseAll a.data.toList = (x, 0, O)) (hy : parseAll b.data.toList = (y, 0, Q))
    (h : (Foyer.Lexer.lexAll a.data.toList).1.length + (Foyer.Lexer.lexAll b.data.toList).1.length ≤ 4000) :
    Calls Tryd.prog 6 #[.string a, .string b] w fun e w' => e = .returned (.bool true) ∧ Below w.heap.size w w' := by
  have HS : Hid (Since w w) := Below.refl _ _
  have hsa := size_toList a
  have hsb := size_toList b
  have hd : decide ((4000 : Int) < (a.size : Int)) = false := by simp; omega
  have hd2 : decide ((4000 : Int) < (b.size : Int)) = false := by simp; omega
  obtain ⟨ts, us, p1, t1, o, t2, hts, hus, hp1, ho, ht2, h7, h7', hlo, hpa, hpb, hj0⟩ := levels_join (by omega) (by omega) hx hy
  rw [hts, hus] at h
  obtain ⟨ls, hj, hbare⟩ := hj0 h
  clear hj0
  obtain ⟨kn, hkn⟩ : ∃ kn, ts.length = kn + 1 := ⟨ts.length - 1, by omega⟩
  obtain ⟨ku, hku⟩ : ∃ ku, us.length = ku + 1 := ⟨us.length - 1, by omega⟩
  have ht1 : ts[kn]? = some t1 := by
    have e : p1.length = kn := by rw [hp1] at hkn; simpa using hkn
    rw [hp1, ← e]; simp
  have ht2' : us[ku]? = some t2 := by rw [hku] at ht2; exact ht2
  obtain ⟨tp1, htp1⟩ : ∃ p, t1.pos = p := ⟨_, rfl⟩
  obtain ⟨tp2, htp2⟩ : ∃ p, t2.pos = p := ⟨_, rfl⟩
  obtain ⟨op, hop⟩ : ∃ p, o.pos = p := ⟨_, rfl⟩
  rw [htp1, htp2, hop] at hj
  rw [htp1] at hpa
  rw [htp2] at hlo hpb
  rw [hop] at hlo
  obtain ⟨l1, hx1, hl1⟩ := cut_list a tp1
  obtain ⟨l2, hx2, hl2⟩ := part_list b (op + 1) tp2
  rw [← hl1, ← hl2] at hj
  obtain ⟨J, hJ⟩ : ∃ J : ByteArray, ⟨l1.toArray⟩ ++ ⟨#[10]⟩ ++ ⟨l2.toArray⟩ ++ ⟨#[10, 125]⟩ = J := ⟨_, rfl⟩
  have hjl : J.data.toList = ((l1 ++ [10]) ++ l2) ++ [10, 125] := by rw [← hJ]; simp
  have hl1n : l1.length ≤ 4000 := by rw [hl1, List.length_take]; omega
  have hl2n : l2.length ≤ 4000 := by rw [hl2, List.length_drop, List.length_take]; omega
  have hjs : J.size ≤ 1000000 := by rw [← size_toList, hjl]; simp only [List.length_append, List.length_cons, List.length_nil]; omega
  rw [← hjl] at hj
  obtain ⟨nm, sx, sy, xs⟩ := x
  obtain ⟨nm2, sx2, sy2, ys⟩ := y
  simp only at hj hbare
  have HP := Lib.hid (fun w => plan_s a (by omega) _ 0 O hx w)
  have HQ := Lib.hid (fun w => plan_s b (by omega) _ 0 Q hy w)
  have HPJ := Lib.hid (fun w => plan_s J hjs _ 0 0 hj w)
  have HL := Lib.hid (fun w => lex_c a (by omega) ts 0 0 hts w)
  have HM := Lib.hid (fun w => lex_c b (by omega) us 0 0 hus w)
  have z1 : (⟨l1.toArray⟩ : ByteArray).size = l1.length := size_of_list l1
  have z2 : (⟨l2.toArray⟩ : ByteArray).size = l2.length := size_of_list l2
  have hsum1 : l1.length + 1 ≤ 9223372036854775807 := by omega
  have hsum2 : l1.length + 1 + l2.length ≤ 9223372036854775807 := by omega
  have hsum6 : l1.length + 1 + l2.length ≤ 9223372036854775805 := by omega
  have hsum3 : (⟨l1.toArray⟩ : ByteArray).size + 1 ≤ 9223372036854775807 := by omega
  have hsum4 : (⟨l1.toArray⟩ ++ ⟨#[10]⟩ : ByteArray).size + (⟨l2.toArray⟩ : ByteArray).size ≤ 9223372036854775807 := by rw [ByteArray.size_append, z1, z2]; show l1.length + 1 + l2.length ≤ _; omega
  have hsum5 : (⟨l1.toArray⟩ ++ ⟨#[10]⟩ ++ ⟨l2.toArray⟩ : ByteArray).size + 2 ≤ 9223372036854775807 := by rw [ByteArray.size_append, ByteArray.size_append, z1, z2]; show l1.length + 1 + l2.length + 2 ≤ _; omega
  have HT1 := Lib.hid ht1; have HT2 := Lib.hid ht2'; have HO := Lib.hid ho; have HTP1 := Lib.hid htp1; have HTP2 := Lib.hid htp2; have HOP := Lib.hid hop; have HBARE := Lib.hid hbare
  rw [hkn] at HL h h7
  rw [hku] at HM h h7'
  have HJ := Lib.hid hJ
  have hneS : (nm != nm) = false := by simp
  have hu5 : us.length = ku + 1 := hku
  have HKU := Lib.hid hku; have HKN := Lib.hid hkn
  rw [hsa] at hpa
  rw [hsb] at hpb
  have hpb4 : tp2 ≤ 4000 := Nat.le_trans hpb hb
  have HJJ := Lib.hid (slices_in hpa hpb hlo)
  clear hx hy hts hus hp1 ho ht2 hj hbare hkn hku ht1 ht2' htp1 htp2 hop hl1 hl2 hJ hjl hjs hu5 hsa hsb
  go_enter Tryd.func6, Tryd.ntmps6
  go_wp2_with fail
  refine (head_any _).mono ?_; rintro e w1 ⟨rfl, hb1⟩
  have HS1 := Lib.hid (HS.out.call hb1); clear hb1
  go_wp2_with fail
  refine (HP.out _).mono ?_; rintro e w2 ⟨a1, n1, c1, rfl, hl2', hb2⟩
  obtain ⟨vv, vc, hv⟩ := hl2'.len
  injection hv with hv1 hv2 hv3
  clear hv1 hv3 vv vc
  have hn1 := (bound6 hl2')
  rw [← hv2] at hn1
  have HN1 := Lib.hid hv2
  have HS2 := Lib.hid ((HS1.out.call hb2).alloc (.cells #[.string ⟨nm.toArray⟩, .int .i64 (sx : Nat), .int .i64 (sy : Nat), .slice a1 n1 c1] 31))
  have HV2 := Lib.hid (Blk.new w2 31 [.string ⟨nm.toArray⟩, .int .i64 (sx : Nat), .int .i64 (sy : Nat), .slice a1 n1 c1])
  have HA2 := Lib.hid (hl2'.below ((Below.refl w2.heap.size w2).alloc (Nat.le_refl _) (.cells #[.string ⟨nm.toArray⟩, .int .i64 (sx : Nat), .int .i64 (sy : Nat), .slice a1 n1 c1] 31)))
  clear hb2 hl2' hv2
  go_upto_region 5 with fail
  generalize w2.alloc (.cells #[.string ⟨nm.toArray⟩, .int .i64 (sx : Nat), .int .i64 (sy : Nat), .slice a1 n1 c1] 31) = X2 at *
  generalize w2.heap.size = b2 at *
  go_wp2_with fail
  refine (HQ.out _).mono ?_; rintro e w3 ⟨a2, n2, c2, rfl, hl3, hb3⟩
  obtain ⟨vv, vc, hv⟩ := hl3.len
  injection hv with hv1 hv2 hv3
  clear hv1 hv3 vv vc
  have hn2 := (bound6 hl3)
  rw [← hv2] at hn2
  have HN2 := Lib.hid hv2
  have HBA := Lib.hid ((hb3.mono (Nat.le_refl _)).alloc hb3.size (.cells #[.string ⟨nm2.toArray⟩, .int .i64 (sx2 : Nat), .int .i64 (sy2 : Nat), .slice a2 n2 c2] 31))
  have HS3 := Lib.hid (HS2.out.call HBA.out)
  have HV3 := Lib.hid (HV2.out.below HBA.out); have HA3 := Lib.hid (HA2.out.below HBA.out)
  have HU3 := Lib.hid (Blk.new w3 31 [.string ⟨nm2.toArray⟩, .int .i64 (sx2 : Nat), .int .i64 (sy2 : Nat), .slice a2 n2 c2])
  have HB3 := Lib.hid (hl3.below ((Below.refl w3.heap.size w3).alloc (Nat.le_refl _) (.cells #[.string ⟨nm2.toArray⟩, .int .i64 (sx2 : Nat), .int .i64 (sy2 : Nat), .slice a2 n2 c2] 31)))
  clear hb3 hl3 hv2 HV2 HA2 HBA
  go_upto_region 6 with fail
  generalize w3.alloc (.cells #[.string ⟨nm2.toArray⟩, .int .i64 (sx2 : Nat), .int .i64 (sy2 : Nat), .slice a2 n2 c2] 31) = X3 at *
  generalize w3.heap.size = b3 at *
  go_wp2_with fail
  refine (HL.out _).mono ?_; rintro e w4 ⟨q, cap, rfl, hr, hc1, hc2, hb4⟩
  have HS4 := Lib.hid (HS3.out.call hb4)
  have HV4 := Lib.hid (HV3.out.below hb4); have HA4 := Lib.hid (HA3.out.below hb4); have HU4 := Lib.hid (HU3.out.below hb4); have HB4 := Lib.hid (HB3.out.below hb4)
  have HR4 := Lib.hid hr
  clear hb4 hr HV3 HA3 HU3 HB3
  go_wp2_with fail
  refine (HM.out _).mono ?_; rintro e w5 ⟨q2, cap2, rfl, hr2, hc3, hc4, hb5⟩
  have HS5 := Lib.hid (HS4.out.call hb5)
  have HV5 := Lib.hid (HV4.out.below hb5); have HA5 := Lib.hid (HA4.out.below hb5); have HU5 := Lib.hid (HU4.out.below hb5); have HB5 := Lib.hid (HB4.out.below hb5)
  have HR5 := Lib.hid (HR4.out.since hb5); have HR6 := Lib.hid hr2
  clear hb5 hr2 HV4 HA4 HU4 HB4 HR4
  rcases HR5.out with h0 | ⟨bq, qo, rfl, hlt, hat⟩
  · have := HT1.out; rw [h0] at this; simp at this
  rcases HR6.out with h0 | ⟨bq2, qo2, rfl, hlt2, hat2⟩
  · have := HT2.out; rw [h0] at this; simp at this
  have k1 := (hat kn t1 HT1.out).pos
  have k2 := (hat2 ku t2 HT2.out).pos
  have k3 := (hat2 5 o HO.out).pos
  rw [HTP1.out] at k1
  rw [HTP2.out] at k2
  rw [HOP.out] at k3
  clear hat hat2 HR5 HR6
  have f1 : decide ((4000 : Int) < ((kn + 1 : Nat) : Int) + ((ku + 1 : Nat) : Int)) = false := by simp; omega
  have f2 : decide ((4000 : Int) < (kn : Int) + 1 + ((ku : Int) + 1)) = false := by simp; omega
  have f3 : ((kn : Int) + 1 < 7) = False := by simp; omega
  have f4 : ((ku : Int) + 1 < 7) = False := by simp; omega
  have i1 : (0 : Int) ≤ kn ∧ (kn : Int) < kn + 1 := by omega
  have i2 : (0 : Int) ≤ ku ∧ (ku : Int) < ku + 1 := by omega
  have i3 : (0 : Int) ≤ 5 ∧ (5 : Int) < ku + 1 := by omega
  have g1 : ((tp2 : Int) < (op : Int) + 1) = False := by simp; omega
  have HK1 := Lib.hid k1; have HLT := Lib.hid hlt
  go_upto_region 12 with fail
  go_quiet (fail)
  go_upto_region 15 with fail
  obtain ⟨j1, j2, j3, j4, j5, j6⟩ := HJJ.out
  refine wp_region_any (by kernel_rfl) ?_
  have hS0 : Below w5.heap.size w5 (w5.drewN nq).drew := (below_drewN (Below.refl _ _) _).drew
  refine any_of_held (S := fun W => Below w5.heap.size w5 W) (N := []) _ _ _ _ ?_
  change held _ _ _ _ _ _ _ _ _ (w5.drewN nq).drew
  obtain ⟨wa, hwa⟩ : ∃ wa, (w5.drewN nq).drew = wa := ⟨_, rfl⟩
  rw [hwa] at hS0 ⊢
  clear hwa
  refine held_take [] (i := 0) (v := .string a) rfl (by kernel_rfl) (fun _ _ _ h => h) (Or.inl ⟨by rfl, fun w' hS => by go_simp⟩) hS0 ?_
  try simp only [Act.put, List.setIfInBounds_toArray, List.set_cons_zero, List.set_cons_succ]
  refine held_take [] (i := 1) (v := .slice (some ⟨bq, qo, none⟩) (kn + 1) cap) rfl (by kernel_rfl) (fun _ _ _ h => h) (Or.inl ⟨by rfl, fun w' hS => by go_simp⟩) hS0 ?_
  try simp only [Act.put, List.setIfInBounds_toArray, List.set_cons_zero, List.set_cons_succ]
  refine held_take [] (i := 2) (v := .slice (some ⟨bq, qo, none⟩) (kn + 1) cap) rfl (by kernel_rfl) (fun _ _ _ h => h) (Or.inl ⟨by rfl, fun w' hS => by go_simp⟩) hS0 ?_
  try simp only [Act.put, List.setIfInBounds_toArray, List.set_cons_zero, List.set_cons_succ]
  refine held_take [] (i := 3) (v := .int .i64 ((kn : Int) + 1)) rfl (by kernel_rfl) (fun _ _ _ h => h) (Or.inl ⟨by rfl, fun w' hS => by go_simp⟩) hS0 ?_
  try simp only [Act.put, List.setIfInBounds_toArray, List.set_cons_zero, List.set_cons_succ]
  refine held_take [] (i := 4) (v := .int .i64 (kn : Nat)) rfl (by kernel_rfl) (fun _ _ _ h => h) (Or.inl ⟨by rfl, fun w' hS => by go_simp; exact kwrap (by omega)⟩) hS0 ?_
  try simp only [Act.put, List.setIfInBounds_toArray, List.set_cons_zero, List.set_cons_succ]
  refine held_take [] (i := 5) (v := .pointer (some ⟨bq, qo + kn * 4, none⟩)) rfl (by kernel_rfl) (fun _ _ _ h => h) (Or.inl ⟨by rfl, fun w' hS => by go_simp⟩) hS0 ?_
  try simp only [Act.put, List.setIfInBounds_toArray, List.set_cons_zero, List.set_cons_succ]
  refine held_take [] (i := 6) (v := .pointer (some ⟨bq, qo + kn * 4 + 3, none⟩)) rfl (by kernel_rfl) (fun _ _ _ h => h) (Or.inl ⟨by rfl, fun w' hS => by go_simp⟩) hS0 ?_
  try simp only [Act.put, List.setIfInBounds_toArray, List.set_cons_zero, List.set_cons_succ]
  refine held_take [] (i := 7) (v := .int .i64 (tp1 : Nat)) rfl (by kernel_rfl) (fun _ _ _ h => h) (Or.inl ⟨by rfl, fun w' hS => by have := (hS.cell (p := ⟨bq, qo + kn * 4 + 3, none⟩) HLT.out).trans HK1.out; go_simp⟩) hS0 ?_
  try simp only [Act.put, List.setIfInBounds_toArray, List.set_cons_zero, List.set_cons_succ]
  refine held_take [] (i := 8) (v := .string ⟨l1.toArray⟩) rfl (by kernel_rfl) (fun _ _ _ h => h) (Or.inl ⟨by rfl, fun w' hS => by go_simp⟩) hS0 ?_
  try simp only [Act.put, List.setIfInBounds_toArray, List.set_cons_zero, List.set_cons_succ]
  refine held_take [] (i := 9) (v := .string (⟨l1.toArray⟩ ++ ⟨#[10]⟩)) rfl (by kernel_rfl) (fun _ _ _ h => h) (Or.inl ⟨by rfl, fun w' hS => by go_simp⟩) hS0 ?_
  try simp only [Act.put, List.setIfInBounds_toArray, List.set_cons_zero, List.set_cons_succ]
  refine held_take [] (i := 10) (v := .string b) rfl (by kernel_rfl) (fun _ _ _ h => h) (Or.inl ⟨by rfl, fun w' hS => by go_simp⟩) hS0 ?_
  try simp only [Act.put, List.setIfInBounds_toArray, List.set_cons_zero, List.set_cons_succ]
  refine held_take [] (i := 11) (v := .int .i64 ((op : Int) + 1)) rfl (by kernel_rfl) (fun _ _ _ h => h) (Or.inl ⟨by rfl, fun w' hS => by go_simp⟩) hS0 ?_
  try simp only [Act.put, List.setIfInBounds_toArray, List.set_cons_zero, List.set_cons_succ]
  refine held_take [] (i := 12) (v := .int .i64 (tp2 : Nat)) rfl (by kernel_rfl) (fun _ _ _ h => h) (Or.inl ⟨by rfl, fun w' hS => by go_simp⟩) hS0 ?_
  try simp only [Act.put, List.setIfInBounds_toArray, List.set_cons_zero, List.set_cons_succ]
  refine held_take [] (i := 13) (v := .string ⟨l2.toArray⟩) rfl (by kernel_rfl) (fun _ _ _ h => h) (Or.inl ⟨by rfl, fun w' hS => by go_simp⟩) hS0 ?_
  try simp only [Act.put, List.setIfInBounds_toArray, List.set_cons_zero, List.set_cons_succ]
  refine held_take [] (i := 14) (v := .string (⟨l1.toArray⟩ ++ ⟨#[10]⟩ ++ ⟨l2.toArray⟩)) rfl (by kernel_rfl) (fun _ _ _ h => h) (Or.inl ⟨by rfl, fun w' hS => by go_simp⟩) hS0 ?_
  try simp only [Act.put, List.setIfInBounds_toArray, List.set_cons_zero, List.set_cons_succ]
  refine held_take [] (i := 15) (v := .string (⟨l1.toArray⟩ ++ ⟨#[10]⟩ ++ ⟨l2.toArray⟩ ++ ⟨#[10, 125]⟩)) rfl (by kernel_rfl) (fun _ _ _ h => h) (Or.inl ⟨by rfl, fun w' hS => by go_simp⟩) hS0 ?_
  try simp only [Act.put, List.setIfInBounds_toArray, List.set_cons_zero, List.set_cons_succ]
  refine held_two (i := 16) (j := 21) rfl rfl (by kernel_rfl) (fun K hK => ?_) (fun K hK => ?_)
  · go_simp
    rw [HJ.out]
    refine (HPJ.out _).mono ?_
    rintro e W1 ⟨a4, n4, c4, rfl, hl4, hb6⟩
    have hS1 : Below w5.heap.size w5 W1 := hS0.trans (hb6.mono hS0.size)
    refine hK.out _ _ (fun _ => hS1) ?_
    clear hK K
    try simp only [Act.put, List.setIfInBounds_toArray, List.set_cons_zero, List.set_cons_succ]
    refine held_take [] (i := 17) (v := .tuple #[.agg #[.string ⟨nm.toArray⟩, .int .i64 (sx : Nat), .int .i64 (sy : Nat), .slice a4 n4 c4], .int .i64 0, .int .i64 0]) rfl (by kernel_rfl) (fun _ _ _ h => h) (Or.inl ⟨by rfl, fun w' hS => by go_simp⟩) hS1 ?_
    try simp only [Act.put, List.setIfInBounds_toArray, List.set_cons_zero, List.set_cons_succ]
    refine held_take [] (i := 18) (v := .agg #[.string ⟨nm.toArray⟩, .int .i64 (sx : Nat), .int .i64 (sy : Nat), .slice a4 n4 c4]) rfl (by kernel_rfl) (fun _ _ _ h => h) (Or.inl ⟨by rfl, fun w' hS => by go_simp⟩) hS1 ?_
    try simp only [Act.put, List.setIfInBounds_toArray, List.set_cons_zero, List.set_cons_succ]
    refine held_take [] (i := 19) (v := .int .i64 0) rfl (by kernel_rfl) (fun _ _ _ h => h) (Or.inl ⟨by rfl, fun w' hS => by go_simp⟩) hS1 ?_
    try simp only [Act.put, List.setIfInBounds_toArray, List.set_cons_zero, List.set_cons_succ]
    refine held_take [] (i := 20) (v := .int .i64 0) rfl (by kernel_rfl) (fun _ _ _ h => h) (Or.inl ⟨by rfl, fun w' hS => by go_simp⟩) hS1 ?_
    try simp only [Act.put, List.setIfInBounds_toArray, List.set_cons_zero, List.set_cons_succ]
    refine held_one (i := 21) rfl (by kernel_rfl) (fun K hK => ?_)
    go_simp
    refine hK.out _ _ (fun _ => hS1.alloc hS1.size _) ?_
    clear hK K
    try simp only [Act.put, List.setIfInBounds_toArray, List.set_cons_zero, List.set_cons_succ]
    refine held_one (i := 22) rfl (by kernel_rfl) (fun K hK => ?_)
    go_simp
    refine hK.out _ _ (fun _ => hS1.alloc hS1.size _) ?_
    clear hK K
    try simp only [Act.put, List.setIfInBounds_toArray, List.set_cons_zero, List.set_cons_succ]
    refine held_one (i := 23) rfl (by kernel_rfl) (fun K hK => ?_)
    go_simp
    refine hK.out _ _ (fun _ => hS1.alloc hS1.size _) ?_
    clear hK K
    try simp only [Act.put, List.setIfInBounds_toArray, List.set_cons_zero, List.set_cons_succ]
    refine held_one (i := 24) rfl (by kernel_rfl) (fun K hK => ?_)
    go_simp
    refine hK.out _ _ (fun _ => hS1.alloc hS1.size _) ?_
    clear hK K
    try simp only [Act.put, List.setIfInBounds_toArray, List.set_cons_zero, List.set_cons_succ]
    refine held_done (by kernel_rfl) ?_ _
    have HBB := Lib.hid (Blk.new W1 31 [.string ⟨nm.toArray⟩, .int .i64 (sx : Nat), .int .i64 (sy : Nat), .slice a4 n4 c4])
    have HL4 := Lib.hid ((hl4.mono (F' := fun _ => True) (fun _ _ _ => trivial)).below ((Below.refl W1.heap.size W1).alloc (Nat.le_refl _) (.cells #[.string ⟨nm.toArray⟩, .int .i64 (sx : Nat), .int .i64 (sy : Nat), .slice a4 n4 c4] 31)))
    have HW := Lib.hid (hS1.alloc hS1.size (.cells #[.string ⟨nm.toArray⟩, .int .i64 (sx : Nat), .int .i64 (sy : Nat), .slice a4 n4 c4] 31))
    clear hS0 hS1 hl4 hb6
    generalize W1.alloc (.cells #[.string ⟨nm.toArray⟩, .int .i64 (sx : Nat), .int .i64 (sy : Nat), .slice a4 n4 c4] 31) = V at *
    generalize W1.heap.size = bb at *
    have HV6 := Lib.hid (HV5.out.below HW.out); have HA6 := Lib.hid (HA5.out.below HW.out); have HU6 := Lib.hid (HU5.out.below HW.out); have HB6 := Lib.hid (HB5.out.below HW.out)
    have HS6 := Lib.hid (HS5.out.call HW.out)
    obtain ⟨vv, vc, hv⟩ := HL4.out.len
    injection hv with hv1 hv2 hv3
    have hn4 := bound6 HL4.out
    rw [← hv2] at hn4
    clear hv1 hv3 vv vc
    have HNL : Hid (ls.length = n2) := Lib.hid (by have := congrArg List.length HBARE.out; simp only [List.length_map] at this; rw [this, ← HN2.out])
    have hn12 : n4 = n1 + n2 := by rw [hv2, List.length_append, HNL.out, ← HN1.out]
    subst hn12
    have HNT : Hid ((xs ++ ls).length = n1 + n2) := Lib.hid hv2.symm
    clear hv2 HV5 HA5 HU5 HB5 HW HK1 HLT j1 j2 j3 j4 j5 j6
    have y0 := HV6.out.cell (i := 0) rfl
    have y1 := HV6.out.cell (i := 1) rfl
    have y2 := HV6.out.cell (i := 2) rfl
    have y3 := HV6.out.cell (i := 3) rfl
    have z0 := HU6.out.cell (i := 0) rfl
    have z1 := HU6.out.cell (i := 1) rfl
    have z2 := HU6.out.cell (i := 2) rfl
    have z3 := HU6.out.cell (i := 3) rfl
    have r0 := HBB.out.cell (i := 0) rfl
    have r1 := HBB.out.cell (i := 1) rfl
    have r2 := HBB.out.cell (i := 2) rfl
    have r3 := HBB.out.cell (i := 3) rfl
    have mg := fun x y xs ys w => point_gneq x y xs ys w
    have me := fun w => point_neq sx sy sx sy false (by simp) w
    have nn : (((n1 : Nat) : Int) + ((n2 : Nat) : Int) != (n1 : Int) + (n2 : Int)) = false := by simp
    have HVB := Lib.hid (Below.refl V.heap.size V)
    go_wp2
    go_loopw [23] (fun i wr => ∃ k : Nat, i = .int .i64 k ∧ k ≤ n1 + n2 ∧ Hid (Below V.heap.size V wr)) (fun i _ => n1 + n2 - (intOf i).toNat)
    case atStart => exact ⟨0, rfl, Nat.zero_le _, HVB⟩
    case round =>
      clear y0 y1 y2 y3 z0 z1 z2 z3 r0 r1 r2 r3
      obtain ⟨k, rfl, hk, HB⟩ := hrel
      have xb := HV6.out.below HB.out
      have yb := HU6.out.below HB.out
      have zb := HBB.out.below HB.out
      have y3 := xb.cell (i := 3) rfl
      have z3 := yb.cell (i := 3) rfl
      have r3 := zb.cell (i := 3) rfl
      have hy1 := xb.lt
      have hz1 := yb.lt
      have hr1 := zb.lt
      clear xb yb zb
      by_cases hk2 : k < n1 + n2
      · by_cases hk1 : k < n1
        · obtain ⟨m, hx⟩ : ∃ m, xs[k]? = some m := ⟨_, List.getElem?_eq_getElem (by have := HN1.out; omega)⟩
          have hxb : (xs ++ ls)[k]? = some m := by rw [List.getElem?_append_left (by have := HN1.out; omega)]; exact hx
          obtain ⟨gA, capa, csa, hva, _, _, _, hgA, ⟨p1a, p2a, p3a, p4a, p5a, hma⟩, hcella⟩ := (HL4.out.below HB.out).at hxb
          obtain rfl := hma.cells
          rw [HNT.out] at hva
          injection hva with hv1a hv2a hv3a
          subst hv1a hv3a
          obtain ⟨gB, capb, csb, hvb, _, _, _, hgB, ⟨p1b, p2b, p3b, p4b, p5b, hmb⟩, hcellb⟩ := (HA6.out.below HB.out).at hx
          obtain rfl := hmb.cells
          rw [← HN1.out] at hvb
          injection hvb with hv1b hv2b hv3b
          subst hv1b hv3b
          have da0 := hcella 0 _ rfl
          have da1 := hcella 1 _ rfl
          have da2 := hcella 2 _ rfl
          have da3 := hcella 3 _ rfl
          have da4 := hcella 4 _ rfl
          have da5 := hcella 5 _ rfl
          have da6 := hcella 6 _ rfl
          have da7 := hcella 7 _ rfl
          rw [show levelK.size = 8 from rfl] at da0 da1 da2 da3 da4 da5 da6 da7
          rw [Nat.add_zero] at da0
          clear hcella hv2a
          have db0 := hcellb 0 _ rfl
          have db1 := hcellb 1 _ rfl
          have db2 := hcellb 2 _ rfl
          have db3 := hcellb 3 _ rfl
          have db4 := hcellb 4 _ rfl
          have db5 := hcellb 5 _ rfl
          have db6 := hcellb 6 _ rfl
          have db7 := hcellb 7 _ rfl
          rw [show levelK.size = 8 from rfl] at db0 db1 db2 db3 db4 db5 db6 db7
          rw [Nat.add_zero] at db0
          clear hcellb hv2b
          have hki : (0 : Int) ≤ k ∧ (k : Int) < n1 + n2 := by omega
          have hki2 : (0 : Int) ≤ k ∧ (k : Int) < n1 := by omega
          have dlt : decide ((k : Int) < (n1 : Int)) = true := by simp; omega
          have dge : decide ((n1 : Int) ≤ (k : Int)) = false := by simp; omega
          have dge2 : decide (n1 ≤ k) = false := by simp; omega
          have dlt2 : decide (k < n1) = true := by simp; omega
          have HCA := Lib.hid (fun d os => Calls.regrown_of (levelv_true m m rfl p1a p2a p3a p4a p5a p1b p2b p3b p4b p5b _ _ (grow (redrawn wr d) os) (hma.below (below_regrown wr d os)) (hmb.below (below_regrown wr d os))))
          unfold levelCl at HCA
          clear hma hmb hx hxb
          have ey3 := fun d os => cell_regrown y3 d os
          have er3 := fun d os => cell_regrown r3 d os
          have ea0 := fun d os => cell_regrown da0 d os
          have ea1 := fun d os => cell_regrown da1 d os
          have ea2 := fun d os => cell_regrown da2 d os
          have ea3 := fun d os => cell_regrown da3 d os
          have ea4 := fun d os => cell_regrown da4 d os
          have ea5 := fun d os => cell_regrown da5 d os
          have ea6 := fun d os => cell_regrown da6 d os
          have ea7 := fun d os => cell_regrown da7 d os
          have eb0 := fun d os => cell_regrown db0 d os
          have eb1 := fun d os => cell_regrown db1 d os
          have eb2 := fun d os => cell_regrown db2 d os
          have eb3 := fun d os => cell_regrown db3 d os
          have eb4 := fun d os => cell_regrown db4 d os
          have eb5 := fun d os => cell_regrown db5 d os
          have eb6 := fun d os => cell_regrown db6 d os
          have eb7 := fun d os => cell_regrown db7 d os
          go_wp2
          refine wp_region_quiet_below (by kernel_rfl) (by kernel_rfl) ?_
          repeat (go_big_quiet_step (with_reducible exact HCA.out _ _))
          refine wpQuiet_nil ?_
          intro _ hw'
          obtain ⟨⟨dq, osq⟩, hw''⟩ := hw'
          subst hw''
          have HB1 := Lib.hid (HB.out.trans ((below_regrown wr dq osq).mono HB.out.size))
          clear HCA
          go_wp2
          refine ⟨⟨k + 1, by go_num, by omega, HB1⟩, ?_⟩
          simp [intOf]; omega
        · obtain ⟨j, hj⟩ : ∃ j, k = n1 + j := ⟨k - n1, by omega⟩
          obtain ⟨m, hx⟩ : ∃ m, ls[j]? = some m := ⟨_, List.getElem?_eq_getElem (by have := HNL.out; omega)⟩
          obtain ⟨m', hx', hbm⟩ := map_at HBARE.out hx
          have hxb : (xs ++ ls)[k]? = some m := by rw [List.getElem?_append_right (by have := HN1.out; omega), ← HN1.out, hj, Nat.add_sub_cancel_left]; exact hx
          obtain ⟨gA, capa, csa, hva, _, _, _, hgA, ⟨p1a, p2a, p3a, p4a, p5a, hma⟩, hcella⟩ := (HL4.out.below HB.out).at hxb
          obtain rfl := hma.cells
          rw [HNT.out] at hva
          injection hva with hv1a hv2a hv3a
          subst hv1a hv3a
          obtain ⟨gB, capb, csb, hvb, _, _, _, hgB, ⟨p1b, p2b, p3b, p4b, p5b, hmb⟩, hcellb⟩ := (HB6.out.below HB.out).at hx'
          obtain rfl := hmb.cells
          rw [← HN2.out] at hvb
          injection hvb with hv1b hv2b hv3b
          subst hv1b hv3b
          have da0 := hcella 0 _ rfl
          have da1 := hcella 1 _ rfl
          have da2 := hcella 2 _ rfl
          have da3 := hcella 3 _ rfl
          have da4 := hcella 4 _ rfl
          have da5 := hcella 5 _ rfl
          have da6 := hcella 6 _ rfl
          have da7 := hcella 7 _ rfl
          rw [show levelK.size = 8 from rfl] at da0 da1 da2 da3 da4 da5 da6 da7
          rw [Nat.add_zero] at da0
          clear hcella hv2a
          have db0 := hcellb 0 _ rfl
          have db1 := hcellb 1 _ rfl
          have db2 := hcellb 2 _ rfl
          have db3 := hcellb 3 _ rfl
          have db4 := hcellb 4 _ rfl
          have db5 := hcellb 5 _ rfl
          have db6 := hcellb 6 _ rfl
          have db7 := hcellb 7 _ rfl
          rw [show levelK.size = 8 from rfl] at db0 db1 db2 db3 db4 db5 db6 db7
          rw [Nat.add_zero] at db0
          clear hcellb hv2b
          have hki : (0 : Int) ≤ k ∧ (k : Int) < n1 + n2 := by omega
          have hki2 : (0 : Int) ≤ j ∧ (j : Int) < n2 := by omega
          have dlt : decide ((k : Int) < (n1 : Int)) = false := by simp; omega
          have dge : decide ((n1 : Int) ≤ (k : Int)) = true := by simp; omega
          have dge2 : decide (n1 ≤ k) = true := by simp; omega
          have dlt2 : decide (k < n1) = false := by simp; omega
          have hkj : IntKind.i64.wrap ((k : Int) - (n1 : Int)) = (j : Int) := by rw [show (k : Int) - (n1 : Int) = (j : Int) by omega]; exact kwrap (by omega)
          have HCA := Lib.hid (fun d os => Calls.regrown_of (levelv_false m m' hbm p1a p2a p3a p4a p5a p1b p2b p3b p4b p5b _ _ (grow (redrawn wr d) os) (hma.below (below_regrown wr d os)) (hmb.below (below_regrown wr d os))))
          unfold levelCl at HCA
          clear hma hmb hx hxb hx' hbm hj
          have ey3 := fun d os => cell_regrown y3 d os
          have ez3 := fun d os => cell_regrown z3 d os
          have er3 := fun d os => cell_regrown r3 d os
          have ea0 := fun d os => cell_regrown da0 d os
          have ea1 := fun d os => cell_regrown da1 d os
          have ea2 := fun d os => cell_regrown da2 d os
          have ea3 := fun d os => cell_regrown da3 d os
          have ea4 := fun d os => cell_regrown da4 d os
          have ea5 := fun d os => cell_regrown da5 d os
          have ea6 := fun d os => cell_regrown da6 d os
          have ea7 := fun d os => cell_regrown da7 d os
          have eb0 := fun d os => cell_regrown db0 d os
          have eb1 := fun d os => cell_regrown db1 d os
          have eb2 := fun d os => cell_regrown db2 d os
          have eb3 := fun d os => cell_regrown db3 d os
          have eb4 := fun d os => cell_regrown db4 d os
          have eb5 := fun d os => cell_regrown db5 d os
          have eb6 := fun d os => cell_regrown db6 d os
          have eb7 := fun d os => cell_regrown db7 d os
          go_wp2
          refine wp_region_quiet_below (by kernel_rfl) (by kernel_rfl) ?_
          repeat (go_big_quiet_step (with_reducible exact HCA.out _ _))
          refine wpQuiet_nil ?_
          intro _ hw'
          obtain ⟨⟨dq, osq⟩, hw''⟩ := hw'
          subst hw''
          have HB1 := Lib.hid (HB.out.trans ((below_regrown wr dq osq).mono HB.out.size))
          clear HCA
          go_wp2
          refine ⟨⟨k + 1, by go_num, by omega, HB1⟩, ?_⟩
          simp [intOf]; omega
      · obtain rfl : k = n1 + n2 := by omega
        go_wp2
        go_ret
        exact ⟨rfl, HS6.out.call HB.out⟩
  · go_simp
    refine hK.out _ _ (fun _ => hS0.alloc hS0.size _) ?_
    clear hK K
    try simp only [Act.put, List.setIfInBounds_toArray, List.set_cons_zero, List.set_cons_succ]
    have hZ := Blk.new wa 31 [.string ⟨#[]⟩, .int .i64 0, .int .i64 0, .slice none 0 0]
    have hS0' : Below w5.heap.size w5 (wa.alloc (.cells #[.string ⟨#[]⟩, .int .i64 0, .int .i64 0, .slice none 0 0] 31)) := hS0.alloc hS0.size _
    have hw5 : w5.heap.size ≤ wa.heap.size := hS0.size
    refine held_one (i := 16) rfl (by kernel_rfl) (fun K hK => ?_)
    go_simp
    rw [HJ.out]
    refine (HPJ.out _).mono ?_
    rintro e W1 ⟨a4, n4, c4, rfl, hl4, hb6⟩
    have hS1 : Below w5.heap.size w5 W1 := hS0'.trans (hb6.mono hS0'.size)
    have hZ1 := hZ.below hb6
    have hl5 : IsList levelK W1 (fun k => wa.heap.size + 1 ≤ k) 47 (.slice a4 n4 c4) (xs ++ ls) := by rw [← World.size_alloc wa]; exact hl4
    refine hK.out _ _ (fun _ => hS1) ?_
    clear hK K
    try simp only [Act.put, List.setIfInBounds_toArray, List.set_cons_zero, List.set_cons_succ]
    refine held_take [] (i := 17) (v := .tuple #[.agg #[.string ⟨nm.toArray⟩, .int .i64 (sx : Nat), .int .i64 (sy : Nat), .slice a4 n4 c4], .int .i64 0, .int .i64 0]) rfl (by kernel_rfl) (fun _ _ _ h => h) (Or.inl ⟨by rfl, fun w' hS => by go_simp⟩) hS1 ?_
    try simp only [Act.put, List.setIfInBounds_toArray, List.set_cons_zero, List.set_cons_succ]
    refine held_take [] (i := 18) (v := .agg #[.string ⟨nm.toArray⟩, .int .i64 (sx : Nat), .int .i64 (sy : Nat), .slice a4 n4 c4]) rfl (by kernel_rfl) (fun _ _ _ h => h) (Or.inl ⟨by rfl, fun w' hS => by go_simp⟩) hS1 ?_
    try simp only [Act.put, List.setIfInBounds_toArray, List.set_cons_zero, List.set_cons_succ]
    refine held_take [] (i := 19) (v := .int .i64 0) rfl (by kernel_rfl) (fun _ _ _ h => h) (Or.inl ⟨by rfl, fun w' hS => by go_simp⟩) hS1 ?_
    try simp only [Act.put, List.setIfInBounds_toArray, List.set_cons_zero, List.set_cons_succ]
    refine held_take [] (i := 20) (v := .int .i64 0) rfl (by kernel_rfl) (fun _ _ _ h => h) (Or.inl ⟨by rfl, fun w' hS => by go_simp⟩) hS1 ?_
    try simp only [Act.put, List.setIfInBounds_toArray, List.set_cons_zero, List.set_cons_succ]
    have q0 := hZ1.cell (i := 0) rfl
    have fr0 := hZ1.free 0
    have q1 := hZ1.cell (i := 1) rfl
    have fr1 := hZ1.free 1
    have q2 := hZ1.cell (i := 2) rfl
    have fr2 := hZ1.free 2
    have q3 := hZ1.cell (i := 3) rfl
    have fr3 := hZ1.free 3
    refine held_one (i := 22) rfl (by kernel_rfl) (fun K hK => ?_)
    go_simp
    refine hK.out _ _ (fun _ => ((((((hS1.setCell (p := ⟨wa.heap.size, 0, none⟩) hw5 _).setCell (p := ⟨wa.heap.size, 1, none⟩) hw5 _)).setCell (p := ⟨wa.heap.size, 2, none⟩) hw5 _)).setCell (p := ⟨wa.heap.size, 3, none⟩) hw5 _)) ?_
    clear hK K
    try simp only [Act.put, List.setIfInBounds_toArray, List.set_cons_zero, List.set_cons_succ]
    refine held_one (i := 23) rfl (by kernel_rfl) (fun K hK => ?_)
    go_simp
    refine hK.out _ _ (fun _ => ((((((hS1.setCell (p := ⟨wa.heap.size, 0, none⟩) hw5 _).setCell (p := ⟨wa.heap.size, 1, none⟩) hw5 _)).setCell (p := ⟨wa.heap.size, 2, none⟩) hw5 _)).setCell (p := ⟨wa.heap.size, 3, none⟩) hw5 _)) ?_
    clear hK K
    try simp only [Act.put, List.setIfInBounds_toArray, List.set_cons_zero, List.set_cons_succ]
    refine held_one (i := 24) rfl (by kernel_rfl) (fun K hK => ?_)
    go_simp
    refine hK.out _ _ (fun _ => ((((((hS1.setCell (p := ⟨wa.heap.size, 0, none⟩) hw5 _).setCell (p := ⟨wa.heap.size, 1, none⟩) hw5 _)).setCell (p := ⟨wa.heap.size, 2, none⟩) hw5 _)).setCell (p := ⟨wa.heap.size, 3, none⟩) hw5 _)) ?_
    clear hK K
    try simp only [Act.put, List.setIfInBounds_toArray, List.set_cons_zero, List.set_cons_succ]
    refine held_done (by kernel_rfl) ?_ _
    rw [setCells_four]
    have HBB := Lib.hid (hZ1.whole (vs := [.string ⟨nm.toArray⟩, .int .i64 (sx : Nat), .int .i64 (sy : Nat), .slice a4 n4 c4]) rfl)
    have HL4 := Lib.hid ((hl5.kept (W' := W1.setCells wa.heap.size 0 [.string ⟨nm.toArray⟩, .int .i64 (sx : Nat), .int .i64 (sy : Nat), .slice a4 n4 c4]) (fun k hk hlt => setCells_heap W1 wa.heap.size _ hlt (by have : wa.heap.size + 1 ≤ k := hk; omega))).mono (F' := fun _ => True) (fun _ _ _ => trivial))
    have HW : Hid (Below w5.heap.size w5 (W1.setCells wa.heap.size 0 [.string ⟨nm.toArray⟩, .int .i64 (sx : Nat), .int .i64 (sy : Nat), .slice a4 n4 c4])) := Lib.hid (by rw [← setCells_four]; exact ((((((hS1.setCell (p := ⟨wa.heap.size, 0, none⟩) hw5 _).setCell (p := ⟨wa.heap.size, 1, none⟩) hw5 _)).setCell (p := ⟨wa.heap.size, 2, none⟩) hw5 _)).setCell (p := ⟨wa.heap.size, 3, none⟩) hw5 _))
    clear hS0 hS0' hS1 hl4 hl5 hb6 hZ hZ1 q0 q1 q2 q3 fr0 fr1 fr2 fr3 hw5
    generalize W1.setCells wa.heap.size 0 [.string ⟨nm.toArray⟩, .int .i64 (sx : Nat), .int .i64 (sy : Nat), .slice a4 n4 c4] = V at *
    generalize wa.heap.size = bb at *
    have HV6 := Lib.hid (HV5.out.below HW.out); have HA6 := Lib.hid (HA5.out.below HW.out); have HU6 := Lib.hid (HU5.out.below HW.out); have HB6 := Lib.hid (HB5.out.below HW.out)
    have HS6 := Lib.hid (HS5.out.call HW.out)
    obtain ⟨vv, vc, hv⟩ := HL4.out.len
    injection hv with hv1 hv2 hv3
    have hn4 := bound6 HL4.out
    rw [← hv2] at hn4
    clear hv1 hv3 vv vc
    have HNL : Hid (ls.length = n2) := Lib.hid (by have := congrArg List.length HBARE.out; simp only [List.length_map] at this; rw [this, ← HN2.out])
    have hn12 : n4 = n1 + n2 := by rw [hv2, List.length_append, HNL.out, ← HN1.out]
    subst hn12
    have HNT : Hid ((xs ++ ls).length = n1 + n2) := Lib.hid hv2.symm
    clear hv2 HV5 HA5 HU5 HB5 HW HK1 HLT j1 j2 j3 j4 j5 j6
    have y0 := HV6.out.cell (i := 0) rfl
    have y1 := HV6.out.cell (i := 1) rfl
    have y2 := HV6.out.cell (i := 2) rfl
    have y3 := HV6.out.cell (i := 3) rfl
    have z0 := HU6.out.cell (i := 0) rfl
    have z1 := HU6.out.cell (i := 1) rfl
    have z2 := HU6.out.cell (i := 2) rfl
    have z3 := HU6.out.cell (i := 3) rfl
    have r0 := HBB.out.cell (i := 0) rfl
    have r1 := HBB.out.cell (i := 1) rfl
    have r2 := HBB.out.cell (i := 2) rfl
    have r3 := HBB.out.cell (i := 3) rfl
    have mg := fun x y xs ys w => point_gneq x y xs ys w
    have me := fun w => point_neq sx sy sx sy false (by simp) w
    have nn : (((n1 : Nat) : Int) + ((n2 : Nat) : Int) != (n1 : Int) + (n2 : Int)) = false := by simp
    have HVB := Lib.hid (Below.refl V.heap.size V)
    go_wp2
    go_loopw [23] (fun i wr => ∃ k : Nat, i = .int .i64 k ∧ k ≤ n1 + n2 ∧ Hid (Below V.heap.size V wr)) (fun i _ => n1 + n2 - (intOf i).toNat)
    case atStart => exact ⟨0, rfl, Nat.zero_le _, HVB⟩
    case round =>
      clear y0 y1 y2 y3 z0 z1 z2 z3 r0 r1 r2 r3
      obtain ⟨k, rfl, hk, HB⟩ := hrel
      have xb := HV6.out.below HB.out
      have yb := HU6.out.below HB.out
      have zb := HBB.out.below HB.out
      have y3 := xb.cell (i := 3) rfl
      have z3 := yb.cell (i := 3) rfl
      have r3 := zb.cell (i := 3) rfl
      have hy1 := xb.lt
      have hz1 := yb.lt
      have hr1 := zb.lt
      clear xb yb zb
      by_cases hk2 : k < n1 + n2
      · by_cases hk1 : k < n1
        · obtain ⟨m, hx⟩ : ∃ m, xs[k]? = some m := ⟨_, List.getElem?_eq_getElem (by have := HN1.out; omega)⟩
          have hxb : (xs ++ ls)[k]? = some m := by rw [List.getElem?_append_left (by have := HN1.out; omega)]; exact hx
          obtain ⟨gA, capa, csa, hva, _, _, _, hgA, ⟨p1a, p2a, p3a, p4a, p5a, hma⟩, hcella⟩ := (HL4.out.below HB.out).at hxb
          obtain rfl := hma.cells
          rw [HNT.out] at hva
          injection hva with hv1a hv2a hv3a
          subst hv1a hv3a
          obtain ⟨gB, capb, csb, hvb, _, _, _, hgB, ⟨p1b, p2b, p3b, p4b, p5b, hmb⟩, hcellb⟩ := (HA6.out.below HB.out).at hx
          obtain rfl := hmb.cells
          rw [← HN1.out] at hvb
          injection hvb with hv1b hv2b hv3b
          subst hv1b hv3b
          have da0 := hcella 0 _ rfl
          have da1 := hcella 1 _ rfl
          have da2 := hcella 2 _ rfl
          have da3 := hcella 3 _ rfl
          have da4 := hcella 4 _ rfl
          have da5 := hcella 5 _ rfl
          have da6 := hcella 6 _ rfl
          have da7 := hcella 7 _ rfl
          rw [show levelK.size = 8 from rfl] at da0 da1 da2 da3 da4 da5 da6 da7
          rw [Nat.add_zero] at da0
          clear hcella hv2a
          have db0 := hcellb 0 _ rfl
          have db1 := hcellb 1 _ rfl
          have db2 := hcellb 2 _ rfl
          have db3 := hcellb 3 _ rfl
          have db4 := hcellb 4 _ rfl
          have db5 := hcellb 5 _ rfl
          have db6 := hcellb 6 _ rfl
          have db7 := hcellb 7 _ rfl
          rw [show levelK.size = 8 from rfl] at db0 db1 db2 db3 db4 db5 db6 db7
          rw [Nat.add_zero] at db0
          clear hcellb hv2b
          have hki : (0 : Int) ≤ k ∧ (k : Int) < n1 + n2 := by omega
          have hki2 : (0 : Int) ≤ k ∧ (k : Int) < n1 := by omega
          have dlt : decide ((k : Int) < (n1 : Int)) = true := by simp; omega
          have dge : decide ((n1 : Int) ≤ (k : Int)) = false := by simp; omega
          have dge2 : decide (n1 ≤ k) = false := by simp; omega
          have dlt2 : decide (k < n1) = true := by simp; omega
          have HCA := Lib.hid (fun d os => Calls.regrown_of (levelv_true m m rfl p1a p2a p3a p4a p5a p1b p2b p3b p4b p5b _ _ (grow (redrawn wr d) os) (hma.below (below_regrown wr d os)) (hmb.below (below_regrown wr d os))))
          unfold levelCl at HCA
          clear hma hmb hx hxb
          have ey3 := fun d os => cell_regrown y3 d os
          have er3 := fun d os => cell_regrown r3 d os
          have ea0 := fun d os => cell_regrown da0 d os
          have ea1 := fun d os => cell_regrown da1 d os
          have ea2 := fun d os => cell_regrown da2 d os
          have ea3 := fun d os => cell_regrown da3 d os
          have ea4 := fun d os => cell_regrown da4 d os
          have ea5 := fun d os => cell_regrown da5 d os
          have ea6 := fun d os => cell_regrown da6 d os
          have ea7 := fun d os => cell_regrown da7 d os
          have eb0 := fun d os => cell_regrown db0 d os
          have eb1 := fun d os => cell_regrown db1 d os
          have eb2 := fun d os => cell_regrown db2 d os
          have eb3 := fun d os => cell_regrown db3 d os
          have eb4 := fun d os => cell_regrown db4 d os
          have eb5 := fun d os => cell_regrown db5 d os
          have eb6 := fun d os => cell_regrown db6 d os
          have eb7 := fun d os => cell_regrown db7 d os
          go_wp2
          refine wp_region_quiet_below (by kernel_rfl) (by kernel_rfl) ?_
          repeat (go_big_quiet_step (with_reducible exact HCA.out _ _))
          refine wpQuiet_nil ?_
          intro _ hw'
          obtain ⟨⟨dq, osq⟩, hw''⟩ := hw'
          subst hw''
          have HB1 := Lib.hid (HB.out.trans ((below_regrown wr dq osq).mono HB.out.size))
          clear HCA
          go_wp2
          refine ⟨⟨k + 1, by go_num, by omega, HB1⟩, ?_⟩
          simp [intOf]; omega
        · obtain ⟨j, hj⟩ : ∃ j, k = n1 + j := ⟨k - n1, by omega⟩
          obtain ⟨m, hx⟩ : ∃ m, ls[j]? = some m := ⟨_, List.getElem?_eq_getElem (by have := HNL.out; omega)⟩
          obtain ⟨m', hx', hbm⟩ := map_at HBARE.out hx
          have hxb : (xs ++ ls)[k]? = some m := by rw [List.getElem?_append_right (by have := HN1.out; omega), ← HN1.out, hj, Nat.add_sub_cancel_left]; exact hx
          obtain ⟨gA, capa, csa, hva, _, _, _, hgA, ⟨p1a, p2a, p3a, p4a, p5a, hma⟩, hcella⟩ := (HL4.out.below HB.out).at hxb
          obtain rfl := hma.cells
          rw [HNT.out] at hva
          injection hva with hv1a hv2a hv3a
          subst hv1a hv3a
          obtain ⟨gB, capb, csb, hvb, _, _, _, hgB, ⟨p1b, p2b, p3b, p4b, p5b, hmb⟩, hcellb⟩ := (HB6.out.below HB.out).at hx'
          obtain rfl := hmb.cells
          rw [← HN2.out] at hvb
          injection hvb with hv1b hv2b hv3b
          subst hv1b hv3b
          have da0 := hcella 0 _ rfl
          have da1 := hcella 1 _ rfl
          have da2 := hcella 2 _ rfl
          have da3 := hcella 3 _ rfl
          have da4 := hcella 4 _ rfl
          have da5 := hcella 5 _ rfl
          have da6 := hcella 6 _ rfl
          have da7 := hcella 7 _ rfl
          rw [show levelK.size = 8 from rfl] at da0 da1 da2 da3 da4 da5 da6 da7
          rw [Nat.add_zero] at da0
          clear hcella hv2a
          have db0 := hcellb 0 _ rfl
          have db1 := hcellb 1 _ rfl
          have db2 := hcellb 2 _ rfl
          have db3 := hcellb 3 _ rfl
          have db4 := hcellb 4 _ rfl
          have db5 := hcellb 5 _ rfl
          have db6 := hcellb 6 _ rfl
          have db7 := hcellb 7 _ rfl
          rw [show levelK.size = 8 from rfl] at db0 db1 db2 db3 db4 db5 db6 db7
          rw [Nat.add_zero] at db0
          clear hcellb hv2b
          have hki : (0 : Int) ≤ k ∧ (k : Int) < n1 + n2 := by omega
          have hki2 : (0 : Int) ≤ j ∧ (j : Int) < n2 := by omega
          have dlt : decide ((k : Int) < (n1 : Int)) = false := by simp; omega
          have dge : decide ((n1 : Int) ≤ (k : Int)) = true := by simp; omega
          have dge2 : decide (n1 ≤ k) = true := by simp; omega
          have dlt2 : decide (k < n1) = false := by simp; omega
          have hkj : IntKind.i64.wrap ((k : Int) - (n1 : Int)) = (j : Int) := by rw [show (k : Int) - (n1 : Int) = (j : Int) by omega]; exact kwrap (by omega)
          have HCA := Lib.hid (fun d os => Calls.regrown_of (levelv_false m m' hbm p1a p2a p3a p4a p5a p1b p2b p3b p4b p5b _ _ (grow (redrawn wr d) os) (hma.below (below_regrown wr d os)) (hmb.below (below_regrown wr d os))))
          unfold levelCl at HCA
          clear hma hmb hx hxb hx' hbm hj
          have ey3 := fun d os => cell_regrown y3 d os
          have ez3 := fun d os => cell_regrown z3 d os
          have er3 := fun d os => cell_regrown r3 d os
          have ea0 := fun d os => cell_regrown da0 d os
          have ea1 := fun d os => cell_regrown da1 d os
          have ea2 := fun d os => cell_regrown da2 d os
          have ea3 := fun d os => cell_regrown da3 d os
          have ea4 := fun d os => cell_regrown da4 d os
          have ea5 := fun d os => cell_regrown da5 d os
          have ea6 := fun d os => cell_regrown da6 d os
          have ea7 := fun d os => cell_regrown da7 d os
          have eb0 := fun d os => cell_regrown db0 d os
          have eb1 := fun d os => cell_regrown db1 d os
          have eb2 := fun d os => cell_regrown db2 d os
          have eb3 := fun d os => cell_regrown db3 d os
          have eb4 := fun d os => cell_regrown db4 d os
          have eb5 := fun d os => cell_regrown db5 d os
          have eb6 := fun d os => cell_regrown db6 d os
          have eb7 := fun d os => cell_regrown db7 d os
          go_wp2
          refine wp_region_quiet_below (by kernel_rfl) (by kernel_rfl) ?_
          repeat (go_big_quiet_step (with_reducible exact HCA.out _ _))
          refine wpQuiet_nil ?_
          intro _ hw'
          obtain ⟨⟨dq, osq⟩, hw''⟩ := hw'
          subst hw''
          have HB1 := Lib.hid (HB.out.trans ((below_regrown wr dq osq).mono HB.out.size))
          clear HCA
          go_wp2
          refine ⟨⟨k + 1, by go_num, by omega, HB1⟩, ?_⟩
          simp [intOf]; omega
      · obtain rfl : k = n1 + n2 := by omega
        go_wp2
        go_ret
        exact ⟨rfl, HS6.out.call HB.out⟩
theorem levels_walk (a b : ByteArray) (w : World) (_ : a.size ≤ maxLen) (_ : b.size ≤ maxLen) (_ : Env w) :
    Calls Tryd.prog 6 #[.string a, .string b] w fun e w' => e = .returned (.bool true) ∧ Below w.heap.size w w' := by
  by_cases h : 4000 < a.size ∨ 4000 < b.size
  · exact levels_long a b w h
  · by_cases hb : (parseAll a.data.toList).2.1 ≠ 0 ∨ (parseAll b.data.toList).2.1 ≠ 0 ∨ 4000 < (Foyer.Lexer.lexAll a.data.toList).1.length + (Foyer.Lexer.lexAll b.data.toList).1.length
    · exact levels_bad a b w (by omega) (by omega) _ _ _ _ _ _ rfl rfl hb
    · have h1 : (parseAll a.data.toList).2.1 = 0 := Classical.byContradiction fun h => hb (Or.inl h)
      have h2 : (parseAll b.data.toList).2.1 = 0 := Classical.byContradiction fun h => hb (Or.inr (Or.inl h))
      exact levels_main a b w (by omega) (by omega) _ _ _ _ (by rw [← h1]) (by rw [← h2]) (Nat.le_of_not_lt fun h => hb (Or.inr (Or.inr h)))
end Go.Proofs.YtkggmehbkefgjaaDoor
