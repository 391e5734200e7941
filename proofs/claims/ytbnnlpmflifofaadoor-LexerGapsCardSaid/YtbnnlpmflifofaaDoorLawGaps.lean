/-
  The law LexerGaps: its walk.
-/
import Derived.Test.YtbnnlpmflifofaaDoorLawHelp
import Derived.Test.YtbnnlpmflifofaaDoorRefAlike
import Derived.Test.YtbnnlpmflifofaaDoorRefGap
import Derived.Test.YtbnnlpmflifofaaDoorRound
namespace Go.Proofs.YtbnnlpmflifofaaDoor
open Go.RowKit Go.Sort Foyer.Lexer Foyer.Round

/-- What the law joins: its bytes, and its sizes. -/
theorem joined (a g : ByteArray) (M : Nat) (hM : M ≤ a.size) (ha : a.size ≤ 1500) (hg : g.size ≤ 300) : ∃ ln p1 p2 S1 S2 S3 S4 S5 : ByteArray, g ++ ⟨#[10]⟩ = ln ∧ a.extract 0 M = p1 ∧ a.extract M a.size = p2 ∧ ln ++ p1 = S1 ∧ S1 ++ ln = S2 ∧ S2 ++ p2 = S3 ∧ S3 ++ ⟨#[10]⟩ = S4 ∧ S4 ++ g = S5 ∧
    S5.data.toList = (((((g.data.toList ++ [10]) ++ a.data.toList.take M) ++ (g.data.toList ++ [10])) ++ a.data.toList.drop M) ++ [10]) ++ g.data.toList ∧ S5.size ≤ 5000 ∧
    ln.size + p1.size ≤ 5000 ∧ S1.size + ln.size ≤ 5000 ∧ S2.size + p2.size ≤ 5000 ∧ S3.size + 1 ≤ 5000 ∧ S4.size + g.size ≤ 5000 := by
  have e1 : (a.extract 0 M).data.toList = a.data.toList.take M := by
    obtain ⟨l, h1, h2⟩ := cut_list a M
    rw [h1, h2]
  have e2 : (a.extract M a.size).data.toList = a.data.toList.drop M := by
    obtain ⟨l, h1, h2⟩ := part_list a M a.size
    rw [h1, h2, List.take_of_length_le (by simp)]
  have z1 : (a.extract 0 M).size = M := by
    have : (a.extract 0 M).data.toList.length = (a.extract 0 M).size := by simp
    rw [← this, e1, List.length_take]; simp; omega
  have z2 : (a.extract M a.size).size = a.size - M := by
    have : (a.extract M a.size).data.toList.length = (a.extract M a.size).size := by simp
    rw [← this, e2, List.length_drop]; simp
  have z0 : (⟨#[10]⟩ : ByteArray).size = 1 := rfl
  refine ⟨_, _, _, _, _, _, _, _, rfl, rfl, rfl, rfl, rfl, rfl, rfl, rfl, ?_, ?_, ?_, ?_, ?_, ?_, ?_⟩
  · simp only [ByteArray.data_append, Array.toList_append, e1, e2]
  all_goals (simp only [ByteArray.size_append, z0, z1, z2]; omega)

set_option linter.unusedSimpArgs false in
set_option maxRecDepth 100000 in
set_option maxHeartbeats 4000000 in
theorem gaps_none (a g : ByteArray) (R : Nat) (w : World) (ha : a.size ≤ 1500) (hg : g.size ≤ 300) (hgb : gapL false g.data.toList = g.data.toList.length) (h : Lx 0 a.data.toList [] none) :
    Calls Tryd.prog 8 #[.string a, .string g, .int .u16 R] w fun e w' => e = .returned (.bool true) ∧ Below w.heap.size w w' := by
  obtain ⟨M, hM⟩ : ∃ M : Nat, M = 0 := ⟨0, rfl⟩
  obtain ⟨n, hn⟩ : ∃ n : Nat, n = 0 := ⟨0, rfl⟩
  obtain ⟨ts, hts⟩ : ∃ ts : List Foyer.Lexer.Tok, ts = [] := ⟨[], rfl⟩
  rw [← hts] at h
  obtain ⟨us, hu, hs⟩ := lx_gaps h hgb M (Or.inl ⟨hts, hM⟩)
  have hMa : M ≤ a.size := by omega
  have hnt : ts.length = n := by rw [hts, hn]; rfl
  have hul : us.length = ts.length := by
    have := congrArg List.length hs
    unfold sans at this
    rwa [List.length_map, List.length_map] at this
  obtain ⟨ln, p1, p2, S1, S2, S3, S4, S5, h0, h1, h2, h3, h4, h5, h6, h7, hS5, z5, b1, b2, b3, b4, b5⟩ := joined a g M hMa ha hg
  rw [← hS5] at hu
  have hsz : a.data.toList.length = a.size := by simp
  have hx := lexAll_none (by omega) h
  have hx2 := lexAll_none (by have : S5.data.toList.length = S5.size := by simp
                              omega) hu
  have hl := fun w => lex_n a (by omega) ts n 0 0 hnt hx w
  have hl2 := fun w => lex_n S5 (by omega) us n 0 0 (by rw [hul, hnt]) hx2 w
  have hal : alike ts us = true := by unfold alike; rw [hs]; simp
  have hgp := fun w => rgaps_any g (by omega) w
  have hgt : gapsB g.data.toList = true := by unfold gapsB; rw [hgb]; simp
  rw [hgt] at hgp
  have HL := Lib.hid hl; have HL2 := Lib.hid hl2; have HAL := Lib.hid hal; have HGP := Lib.hid hgp; have HN := Lib.hid hnt; have HUN : Hid (us.length = n) := by show us.length = n; rw [hul, hnt]
  have HS : Hid (Since w w) := Below.refl _ _
  have d1 : decide ((1500 : Int) < (a.size : Int)) = false := by simp; omega
  have d2 : decide ((300 : Int) < (g.size : Int)) = false := by simp; omega
  clear hl hl2 hal hgp hgt hx hx2 hu hs hul hS5 hsz hgb h
  subst hM
  subst hn
  clear hts
  have HP1 : Hid (ByteArray.empty = p1) := by
    show _ = _
    rw [← h1]; apply ByteArray.ext; rw [ByteArray.data_extract]; simp
  go_enter Tryd.func8, Tryd.ntmps8
  go_wp2_with fail
  refine (head_any _).mono ?_; rintro x w1 ⟨rfl, hb1⟩
  have HS1 := Lib.hid (HS.out.call hb1); clear hb1
  go_wp2_with fail
  refine (HGP.out _).mono ?_; rintro x w1' ⟨rfl, rfl⟩
  go_wp2_with fail
  refine (HL.out _).mono ?_; rintro x w2 ⟨q, cap, rfl, hr, hcap, hm, hb2⟩
  have HS2 := Lib.hid (HS1.out.call hb2); have HR := Lib.hid hr; clear hb2 hr
  go_wp2
  refine wp_region_any (by kernel_rfl) ?_
  have hS0 : Below w2.drew.heap.size w2.drew w2.drew := Below.refl _ _
  have hW0 : Below w2.heap.size w2 w2.drew := below_drewN (Below.refl _ _) 1
  refine any_of_held (S := fun w' => Below w2.drew.heap.size w2.drew w') (N := []) _ _ _ _ ?_
  change held _ _ _ _ _ _ _ _ _ w2.drew
  obtain ⟨wa, hwa⟩ : ∃ wa, w2.drew = wa := ⟨_, rfl⟩
  rw [hwa] at hS0 hW0 ⊢
  refine held_take [] (i := 0) (v := .string ln) rfl (by kernel_rfl) (fun _ _ _ h => h) (Or.inl ⟨by rfl, fun w' hS => by go_simp <;> first | omega | exact HP1.out⟩) hS0 ?_
  try simp only [Act.put, List.setIfInBounds_toArray, List.set_cons_zero, List.set_cons_succ]
  refine held_take [] (i := 1) (v := .string a) rfl (by kernel_rfl) (fun _ _ _ h => h) (Or.inl ⟨by rfl, fun w' hS => by go_simp <;> first | omega | exact HP1.out⟩) hS0 ?_
  try simp only [Act.put, List.setIfInBounds_toArray, List.set_cons_zero, List.set_cons_succ]
  refine held_take [] (i := 2) (v := .int .i64 0) rfl (by kernel_rfl) (fun _ _ _ h => h) (Or.inl ⟨by rfl, fun w' hS => by go_simp <;> first | omega | exact HP1.out⟩) hS0 ?_
  try simp only [Act.put, List.setIfInBounds_toArray, List.set_cons_zero, List.set_cons_succ]
  refine held_take [] (i := 3) (v := .string p1) rfl (by kernel_rfl) (fun _ _ _ h => h) (Or.inl ⟨by rfl, fun w' hS => by go_simp <;> first | omega | exact HP1.out⟩) hS0 ?_
  try simp only [Act.put, List.setIfInBounds_toArray, List.set_cons_zero, List.set_cons_succ]
  refine held_take [] (i := 4) (v := .string S1) rfl (by kernel_rfl) (fun _ _ _ h => h) (Or.inl ⟨by rfl, fun w' hS => by go_simp <;> first | omega | exact HP1.out⟩) hS0 ?_
  try simp only [Act.put, List.setIfInBounds_toArray, List.set_cons_zero, List.set_cons_succ]
  refine held_take [] (i := 5) (v := .string ln) rfl (by kernel_rfl) (fun _ _ _ h => h) (Or.inl ⟨by rfl, fun w' hS => by go_simp <;> first | omega | exact HP1.out⟩) hS0 ?_
  try simp only [Act.put, List.setIfInBounds_toArray, List.set_cons_zero, List.set_cons_succ]
  refine held_take [] (i := 6) (v := .string S2) rfl (by kernel_rfl) (fun _ _ _ h => h) (Or.inl ⟨by rfl, fun w' hS => by go_simp <;> first | omega | exact HP1.out⟩) hS0 ?_
  try simp only [Act.put, List.setIfInBounds_toArray, List.set_cons_zero, List.set_cons_succ]
  refine held_take [] (i := 7) (v := .string a) rfl (by kernel_rfl) (fun _ _ _ h => h) (Or.inl ⟨by rfl, fun w' hS => by go_simp <;> first | omega | exact HP1.out⟩) hS0 ?_
  try simp only [Act.put, List.setIfInBounds_toArray, List.set_cons_zero, List.set_cons_succ]
  refine held_take [] (i := 8) (v := .int .i64 0) rfl (by kernel_rfl) (fun _ _ _ h => h) (Or.inl ⟨by rfl, fun w' hS => by go_simp <;> first | omega | exact HP1.out⟩) hS0 ?_
  try simp only [Act.put, List.setIfInBounds_toArray, List.set_cons_zero, List.set_cons_succ]
  refine held_take [] (i := 9) (v := .string p2) rfl (by kernel_rfl) (fun _ _ _ h => h) (Or.inl ⟨by rfl, fun w' hS => by go_simp <;> first | omega | exact HP1.out⟩) hS0 ?_
  try simp only [Act.put, List.setIfInBounds_toArray, List.set_cons_zero, List.set_cons_succ]
  refine held_take [] (i := 10) (v := .string S3) rfl (by kernel_rfl) (fun _ _ _ h => h) (Or.inl ⟨by rfl, fun w' hS => by go_simp <;> first | omega | exact HP1.out⟩) hS0 ?_
  try simp only [Act.put, List.setIfInBounds_toArray, List.set_cons_zero, List.set_cons_succ]
  refine held_take [] (i := 11) (v := .string S4) rfl (by kernel_rfl) (fun _ _ _ h => h) (Or.inl ⟨by rfl, fun w' hS => by go_simp <;> first | omega | exact HP1.out⟩) hS0 ?_
  try simp only [Act.put, List.setIfInBounds_toArray, List.set_cons_zero, List.set_cons_succ]
  refine held_take [] (i := 12) (v := .string g) rfl (by kernel_rfl) (fun _ _ _ h => h) (Or.inl ⟨by rfl, fun w' hS => by go_simp <;> first | omega | exact HP1.out⟩) hS0 ?_
  try simp only [Act.put, List.setIfInBounds_toArray, List.set_cons_zero, List.set_cons_succ]
  refine held_take [] (i := 13) (v := .string S5) rfl (by kernel_rfl) (fun _ _ _ h => h) (Or.inl ⟨by rfl, fun w' hS => by go_simp <;> first | omega | exact HP1.out⟩) hS0 ?_
  try simp only [Act.put, List.setIfInBounds_toArray, List.set_cons_zero, List.set_cons_succ]
  refine held_one (i := 14) rfl (by kernel_rfl) (fun K hK => ?_)
  go_simp
  refine (HL2.out wa).mono ?_; rintro e wb ⟨q2, cap2, rfl, hr2, hc2, hm2, hbb⟩
  refine hK.out _ _ (fun _ => hbb) ?_
  clear hK K
  try simp only [Act.put, List.setIfInBounds_toArray, List.set_cons_zero, List.set_cons_succ]
  refine held_take [] (i := 15) (v := .tuple #[.slice q2 0 cap2, .int .i64 (0 : Nat), .int .i64 0]) rfl (by kernel_rfl) (fun _ _ _ h => h) (Or.inl ⟨by rfl, fun w' hS => by go_simp <;> first | omega | exact HP1.out⟩) hbb ?_
  try simp only [Act.put, List.setIfInBounds_toArray, List.set_cons_zero, List.set_cons_succ]
  refine held_take [] (i := 16) (v := .slice q2 0 cap2) rfl (by kernel_rfl) (fun _ _ _ h => h) (Or.inl ⟨by rfl, fun w' hS => by go_simp <;> first | omega | exact HP1.out⟩) hbb ?_
  try simp only [Act.put, List.setIfInBounds_toArray, List.set_cons_zero, List.set_cons_succ]
  refine held_take [] (i := 17) (v := .int .i64 0) rfl (by kernel_rfl) (fun _ _ _ h => h) (Or.inl ⟨by rfl, fun w' hS => by go_simp <;> first | omega | exact HP1.out⟩) hbb ?_
  try simp only [Act.put, List.setIfInBounds_toArray, List.set_cons_zero, List.set_cons_succ]
  refine held_take [] (i := 18) (v := .int .i64 0) rfl (by kernel_rfl) (fun _ _ _ h => h) (Or.inl ⟨by rfl, fun w' hS => by go_simp <;> first | omega | exact HP1.out⟩) hbb ?_
  try simp only [Act.put, List.setIfInBounds_toArray, List.set_cons_zero, List.set_cons_succ]
  refine held_one (i := 19) rfl (by kernel_rfl) (fun K hK => ?_)
  go_simp
  refine hK.out _ _ (fun _ => hbb) ?_
  clear hK K
  try simp only [Act.put, List.setIfInBounds_toArray, List.set_cons_zero, List.set_cons_succ]
  refine held_one (i := 20) rfl (by kernel_rfl) (fun K hK => ?_)
  go_simp
  refine hK.out _ _ (fun _ => hbb) ?_
  clear hK K
  try simp only [Act.put, List.setIfInBounds_toArray, List.set_cons_zero, List.set_cons_succ]
  refine held_one (i := 21) rfl (by kernel_rfl) (fun K hK => ?_)
  go_simp
  refine hK.out _ _ (fun _ => hbb) ?_
  clear hK K
  try simp only [Act.put, List.setIfInBounds_toArray, List.set_cons_zero, List.set_cons_succ]
  refine held_done (by kernel_rfl) ?_ _
  have hbel : Below w2.heap.size w2 wb := hW0.trans (hbb.mono hW0.size)
  have HR2 := Lib.hid hr2; have HR1 := Lib.hid (HR.out.since hbel); have HS3 := Lib.hid (HS2.out.call hbel)
  clear hbel hbb hr2 h1 h2 h3 h4 h5 h6 hS0 hW0
  go_wp2_with fail
  refine (alike_any ts us _ _ _ _ _ _ _ HR1.out HR2.out HN.out HUN.out (by omega) (by omega)).mono ?_; rintro x w9 ⟨rfl, m2, rfl⟩
  rw [HAL.out]
  go_wp2
  go_ret
  exact ⟨rfl, HS3.out.drewN m2⟩
set_option linter.unusedSimpArgs false in
set_option maxRecDepth 100000 in
set_option maxHeartbeats 4000000 in
theorem gaps_some (a g : ByteArray) (R : Nat) (w : World) (ha : a.size ≤ 1500) (hg : g.size ≤ 300) (hR : R < 65536) (hgb : gapL false g.data.toList = g.data.toList.length) (ts : List Foyer.Lexer.Tok) (n : Nat) (hnt : ts.length = n) (hn0 : 0 < n) (h : Lx 0 a.data.toList ts none) :
    Calls Tryd.prog 8 #[.string a, .string g, .int .u16 R] w fun e w' => e = .returned (.bool true) ∧ Below w.heap.size w w' := by
  obtain ⟨I, hI⟩ : ∃ I : Nat, R % n = I := ⟨_, rfl⟩
  have hIn : I < n := by rw [← hI]; exact Nat.mod_lt _ hn0
  obtain ⟨u, hu0⟩ : ∃ u, ts[I]? = some u := ⟨_, List.getElem?_eq_getElem (by omega)⟩
  have hpu := lx_pos h u (List.mem_of_getElem? hu0)
  rw [Nat.zero_add] at hpu
  have hnc := lx_count h
  obtain ⟨kd, T, vl, po⟩ := u
  dsimp only at hpu
  obtain ⟨L, hL⟩ : ∃ L, T.length = L := ⟨_, rfl⟩
  rw [hL] at hpu
  have hasz : a.data.toList.length = a.size := by simp
  rw [hasz] at hpu hnc
  rw [hnt] at hnc
  obtain ⟨M, hM⟩ : ∃ M : Nat, M = po + L := ⟨_, rfl⟩
  have hMa : M ≤ a.size := by omega
  obtain ⟨us, hu, hs⟩ := lx_gaps h hgb M (Or.inr ⟨I, ⟨kd, T, vl, po⟩, hu0, by rw [hM, ← hL]⟩)
  have hul : us.length = ts.length := by
    have := congrArg List.length hs
    unfold sans at this
    rwa [List.length_map, List.length_map] at this
  obtain ⟨ln, p1, p2, S1, S2, S3, S4, S5, h0, h1, h2, h3, h4, h5, h6, h7, hS5, z5, b1, b2, b3, b4, b5⟩ := joined a g M hMa ha hg
  rw [← hS5] at hu
  have hsz : a.data.toList.length = a.size := by simp
  have hx := lexAll_none (by omega) h
  have hx2 := lexAll_none (by have : S5.data.toList.length = S5.size := by simp
                              omega) hu
  have hl := fun w => lex_n a (by omega) ts n 0 0 hnt hx w
  have hl2 := fun w => lex_n S5 (by omega) us n 0 0 (by rw [hul, hnt]) hx2 w
  have hal : alike ts us = true := by unfold alike; rw [hs]; simp
  have hgp := fun w => rgaps_any g (by omega) w
  have hgt : gapsB g.data.toList = true := by unfold gapsB; rw [hgb]; simp
  rw [hgt] at hgp
  have HL := Lib.hid hl; have HL2 := Lib.hid hl2; have HAL := Lib.hid hal; have HGP := Lib.hid hgp; have HN := Lib.hid hnt; have HUN : Hid (us.length = n) := by show us.length = n; rw [hul, hnt]
  have HS : Hid (Since w w) := Below.refl _ _
  have d1 : decide ((1500 : Int) < (a.size : Int)) = false := by simp; omega
  have d2 : decide ((300 : Int) < (g.size : Int)) = false := by simp; omega
  clear hl hl2 hal hgp hgt hx hx2 hu hs hul hS5 hsz hgb h
  have hT1 : (⟨T.toArray⟩ : ByteArray).size = L := by rw [size_of_list, hL]
  have hri : ((R : Int) % (n : Int)) = (I : Int) := by rw [← hI]; rfl
  have hrt : (R : Int).tmod (n : Int) = (I : Int) := by rw [← hI]; rfl
  have HP1 : Hid (ByteArray.empty = ByteArray.empty) := rfl
  subst hM
  have HHL := Lib.hid hL; have HII := Lib.hid hI
  clear hL hI hasz
  go_enter Tryd.func8, Tryd.ntmps8
  go_wp2_with fail
  refine (head_any _).mono ?_; rintro x w1 ⟨rfl, hb1⟩
  have HS1 := Lib.hid (HS.out.call hb1); clear hb1
  go_wp2_with fail
  refine (HGP.out _).mono ?_; rintro x w1' ⟨rfl, rfl⟩
  go_wp2_with fail
  refine (HL.out _).mono ?_; rintro x w2 ⟨q, cap, rfl, hr, hcap, hm, hb2⟩
  have HS2 := Lib.hid (HS1.out.call hb2); have HR := Lib.hid hr; clear hb2 hr
  obtain ⟨b, off, rfl, hta, hbl⟩ := rdT_cells HR.out I _ hu0
  obtain ⟨a0, a1, a2, a3⟩ := hta
  dsimp only at a0 a1 a2 a3
  have HU0 := Lib.hid hu0
  clear hu0
  have hII : (I : Int) < (n : Int) := by omega
  have hII0 : 0 ≤ (I : Int) := by omega
  have hn0' : ((n : Int) == 0) = false := by simp; omega
  have hn00 : decide ((0 : Int) < (n : Int)) = true := by simp; omega
  go_wp2
  have hm2 : decide ((a.size : Int) < (po : Int) + (L : Int)) = false := by simp; omega
  have hm3 : decide ((po : Int) + (L : Int) < 0) = false := by simp; omega
  have i1 : (po : Int) + (L : Int) ≤ (a.size : Int) := by omega
  have i2 : 0 ≤ (po : Int) + (L : Int) := by omega
  have i3 : ((po : Int) + (L : Int)).toNat = po + L := by omega
  have i4 : po + L ≤ a.size := by omega
  have hbx := (HS2.out.alloc (.cells #[.int .i64 (kd : Nat), .string ⟨T.toArray⟩, .int .i64 (vl : Nat), .int .i64 (po : Nat)] 30))
  have hrx := HR.out.since ((Below.refl _ w2).alloc (Nat.le_refl _) (.cells #[.int .i64 (kd : Nat), .string ⟨T.toArray⟩, .int .i64 (vl : Nat), .int .i64 (po : Nat)] 30))
  have HSX := Lib.hid hbx; have HRX := Lib.hid hrx
  clear hbx hrx a0 a1 a2 a3 hbl
  generalize w2.alloc (.cells #[.int .i64 (kd : Nat), .string ⟨T.toArray⟩, .int .i64 (vl : Nat), .int .i64 (po : Nat)] 30) = wx at *
  go_wp2
  refine wp_region_any (by kernel_rfl) ?_
  have hS0 : Below wx.drew.heap.size wx.drew wx.drew := Below.refl _ _
  have hW0 : Below wx.heap.size wx wx.drew := below_drewN (Below.refl _ _) 1
  refine any_of_held (S := fun w' => Below wx.drew.heap.size wx.drew w') (N := []) _ _ _ _ ?_
  change held _ _ _ _ _ _ _ _ _ wx.drew
  obtain ⟨wa, hwa⟩ : ∃ wa, wx.drew = wa := ⟨_, rfl⟩
  rw [hwa] at hS0 hW0 ⊢
  refine held_take [] (i := 0) (v := .string ln) rfl (by kernel_rfl) (fun _ _ _ h => h) (Or.inl ⟨by rfl, fun w' hS => by go_simp <;> first | omega | exact HP1.out⟩) hS0 ?_
  try simp only [Act.put, List.setIfInBounds_toArray, List.set_cons_zero, List.set_cons_succ]
  refine held_take [] (i := 1) (v := .string a) rfl (by kernel_rfl) (fun _ _ _ h => h) (Or.inl ⟨by rfl, fun w' hS => by go_simp <;> first | omega | exact HP1.out⟩) hS0 ?_
  try simp only [Act.put, List.setIfInBounds_toArray, List.set_cons_zero, List.set_cons_succ]
  refine held_take [] (i := 2) (v := .int .i64 ((po : Int) + (L : Int))) rfl (by kernel_rfl) (fun _ _ _ h => h) (Or.inl ⟨by rfl, fun w' hS => by go_simp <;> first | omega | exact HP1.out⟩) hS0 ?_
  try simp only [Act.put, List.setIfInBounds_toArray, List.set_cons_zero, List.set_cons_succ]
  refine held_take [] (i := 3) (v := .string p1) rfl (by kernel_rfl) (fun _ _ _ h => h) (Or.inl ⟨by rfl, fun w' hS => by go_simp <;> first | omega | exact HP1.out⟩) hS0 ?_
  try simp only [Act.put, List.setIfInBounds_toArray, List.set_cons_zero, List.set_cons_succ]
  refine held_take [] (i := 4) (v := .string S1) rfl (by kernel_rfl) (fun _ _ _ h => h) (Or.inl ⟨by rfl, fun w' hS => by go_simp <;> first | omega | exact HP1.out⟩) hS0 ?_
  try simp only [Act.put, List.setIfInBounds_toArray, List.set_cons_zero, List.set_cons_succ]
  refine held_take [] (i := 5) (v := .string ln) rfl (by kernel_rfl) (fun _ _ _ h => h) (Or.inl ⟨by rfl, fun w' hS => by go_simp <;> first | omega | exact HP1.out⟩) hS0 ?_
  try simp only [Act.put, List.setIfInBounds_toArray, List.set_cons_zero, List.set_cons_succ]
  refine held_take [] (i := 6) (v := .string S2) rfl (by kernel_rfl) (fun _ _ _ h => h) (Or.inl ⟨by rfl, fun w' hS => by go_simp <;> first | omega | exact HP1.out⟩) hS0 ?_
  try simp only [Act.put, List.setIfInBounds_toArray, List.set_cons_zero, List.set_cons_succ]
  refine held_take [] (i := 7) (v := .string a) rfl (by kernel_rfl) (fun _ _ _ h => h) (Or.inl ⟨by rfl, fun w' hS => by go_simp <;> first | omega | exact HP1.out⟩) hS0 ?_
  try simp only [Act.put, List.setIfInBounds_toArray, List.set_cons_zero, List.set_cons_succ]
  refine held_take [] (i := 8) (v := .int .i64 ((po : Int) + (L : Int))) rfl (by kernel_rfl) (fun _ _ _ h => h) (Or.inl ⟨by rfl, fun w' hS => by go_simp <;> first | omega | exact HP1.out⟩) hS0 ?_
  try simp only [Act.put, List.setIfInBounds_toArray, List.set_cons_zero, List.set_cons_succ]
  refine held_take [] (i := 9) (v := .string p2) rfl (by kernel_rfl) (fun _ _ _ h => h) (Or.inl ⟨by rfl, fun w' hS => by go_simp <;> first | omega | exact HP1.out⟩) hS0 ?_
  try simp only [Act.put, List.setIfInBounds_toArray, List.set_cons_zero, List.set_cons_succ]
  refine held_take [] (i := 10) (v := .string S3) rfl (by kernel_rfl) (fun _ _ _ h => h) (Or.inl ⟨by rfl, fun w' hS => by go_simp <;> first | omega | exact HP1.out⟩) hS0 ?_
  try simp only [Act.put, List.setIfInBounds_toArray, List.set_cons_zero, List.set_cons_succ]
  refine held_take [] (i := 11) (v := .string S4) rfl (by kernel_rfl) (fun _ _ _ h => h) (Or.inl ⟨by rfl, fun w' hS => by go_simp <;> first | omega | exact HP1.out⟩) hS0 ?_
  try simp only [Act.put, List.setIfInBounds_toArray, List.set_cons_zero, List.set_cons_succ]
  refine held_take [] (i := 12) (v := .string g) rfl (by kernel_rfl) (fun _ _ _ h => h) (Or.inl ⟨by rfl, fun w' hS => by go_simp <;> first | omega | exact HP1.out⟩) hS0 ?_
  try simp only [Act.put, List.setIfInBounds_toArray, List.set_cons_zero, List.set_cons_succ]
  refine held_take [] (i := 13) (v := .string S5) rfl (by kernel_rfl) (fun _ _ _ h => h) (Or.inl ⟨by rfl, fun w' hS => by go_simp <;> first | omega | exact HP1.out⟩) hS0 ?_
  try simp only [Act.put, List.setIfInBounds_toArray, List.set_cons_zero, List.set_cons_succ]
  refine held_one (i := 14) rfl (by kernel_rfl) (fun K hK => ?_)
  go_simp
  refine (HL2.out wa).mono ?_; rintro e wb ⟨q2, cap2, rfl, hr2, hc2, hm2, hbb⟩
  refine hK.out _ _ (fun _ => hbb) ?_
  clear hK K
  try simp only [Act.put, List.setIfInBounds_toArray, List.set_cons_zero, List.set_cons_succ]
  refine held_take [] (i := 15) (v := .tuple #[.slice q2 n cap2, .int .i64 (0 : Nat), .int .i64 0]) rfl (by kernel_rfl) (fun _ _ _ h => h) (Or.inl ⟨by rfl, fun w' hS => by go_simp <;> first | omega | exact HP1.out⟩) hbb ?_
  try simp only [Act.put, List.setIfInBounds_toArray, List.set_cons_zero, List.set_cons_succ]
  refine held_take [] (i := 16) (v := .slice q2 n cap2) rfl (by kernel_rfl) (fun _ _ _ h => h) (Or.inl ⟨by rfl, fun w' hS => by go_simp <;> first | omega | exact HP1.out⟩) hbb ?_
  try simp only [Act.put, List.setIfInBounds_toArray, List.set_cons_zero, List.set_cons_succ]
  refine held_take [] (i := 17) (v := .int .i64 0) rfl (by kernel_rfl) (fun _ _ _ h => h) (Or.inl ⟨by rfl, fun w' hS => by go_simp <;> first | omega | exact HP1.out⟩) hbb ?_
  try simp only [Act.put, List.setIfInBounds_toArray, List.set_cons_zero, List.set_cons_succ]
  refine held_take [] (i := 18) (v := .int .i64 0) rfl (by kernel_rfl) (fun _ _ _ h => h) (Or.inl ⟨by rfl, fun w' hS => by go_simp <;> first | omega | exact HP1.out⟩) hbb ?_
  try simp only [Act.put, List.setIfInBounds_toArray, List.set_cons_zero, List.set_cons_succ]
  refine held_one (i := 19) rfl (by kernel_rfl) (fun K hK => ?_)
  go_simp
  refine hK.out _ _ (fun _ => hbb) ?_
  clear hK K
  try simp only [Act.put, List.setIfInBounds_toArray, List.set_cons_zero, List.set_cons_succ]
  refine held_one (i := 20) rfl (by kernel_rfl) (fun K hK => ?_)
  go_simp
  refine hK.out _ _ (fun _ => hbb) ?_
  clear hK K
  try simp only [Act.put, List.setIfInBounds_toArray, List.set_cons_zero, List.set_cons_succ]
  refine held_one (i := 21) rfl (by kernel_rfl) (fun K hK => ?_)
  go_simp
  refine hK.out _ _ (fun _ => hbb) ?_
  clear hK K
  try simp only [Act.put, List.setIfInBounds_toArray, List.set_cons_zero, List.set_cons_succ]
  refine held_done (by kernel_rfl) ?_ _
  have hbel : Below wx.heap.size wx wb := hW0.trans (hbb.mono hW0.size)
  have HR2 := Lib.hid hr2; have HR1 := Lib.hid (HRX.out.since hbel); have HS3 := Lib.hid (HSX.out.call hbel)
  clear hbel hbb hr2 h1 h2 h3 h4 h5 h6 hS0 hW0
  go_wp2_with fail
  refine (alike_any ts us _ _ _ _ _ _ _ HR1.out HR2.out HN.out HUN.out (by omega) (by omega)).mono ?_; rintro x w9 ⟨rfl, m2, rfl⟩
  rw [HAL.out]
  go_wp2
  go_ret
  exact ⟨rfl, HS3.out.drewN m2⟩

set_option maxRecDepth 100000 in
set_option maxHeartbeats 2000000 in
theorem gaps_bad (a g : ByteArray) (R : Nat) (w : World) (ha : a.size ≤ 1500) (hg : g.size ≤ 300) (hgb : gapL false g.data.toList = g.data.toList.length) (ts : List Foyer.Lexer.Tok) (d p : Nat) (h : Lx 0 a.data.toList ts (some (d, p))) :
    Calls Tryd.prog 8 #[.string a, .string g, .int .u16 R] w fun e w' => e = .returned (.bool true) ∧ Below w.heap.size w w' := by
  have HS : Hid (Since w w) := Below.refl _ _
  have hx := lexAll_some (by simp; omega) h
  have hd3 := (lx_err h d p rfl).1
  have hl := fun w => lex_n a (by omega) [] 0 d p rfl hx w
  have hgp := fun w => rgaps_any g (by omega) w
  have hgt : gapsB g.data.toList = true := by unfold gapsB; rw [hgb]; simp
  rw [hgt] at hgp
  have HL := Lib.hid hl; have HGP := Lib.hid hgp
  have d1 : decide ((1500 : Int) < (a.size : Int)) = false := by simp; omega
  have d2 : decide ((300 : Int) < (g.size : Int)) = false := by simp; omega
  have hd0 : ((d : Int) != 0) = true := by rcases hd3 with rfl | rfl | rfl <;> rfl
  clear hl hgp hgt hx hgb h hd3
  go_enter Tryd.func8, Tryd.ntmps8
  go_wp2_with fail
  refine (head_any _).mono ?_; rintro x w1 ⟨rfl, hb1⟩
  have HS1 := Lib.hid (HS.out.call hb1); clear hb1
  go_wp2_with fail
  refine (HGP.out _).mono ?_; rintro x w1' ⟨rfl, rfl⟩
  go_wp2_with fail
  refine (HL.out _).mono ?_; rintro x w2 ⟨q, cap, rfl, hr, hcap, hm, hb2⟩
  have HS2 := Lib.hid (HS1.out.call hb2); clear hb2 hr
  go_wp2
  go_ret
  exact ⟨rfl, HS2.out⟩

set_option maxRecDepth 100000 in
set_option maxHeartbeats 2000000 in
theorem gaps_walk (a g : ByteArray) (raw : Int) (w : World) (ha : a.size ≤ maxLen) (hg : g.size ≤ maxLen) (hraw : (Lit.int .u16 raw).wf = true) (_ : Env w) :
    Calls Tryd.prog 8 #[.string a, .string g, .int .u16 raw] w fun e w' => e = .returned (.bool true) ∧ Below w.heap.size w w' := by
  obtain ⟨hr0, hr1⟩ := u16_bounds hraw
  obtain ⟨R, rfl⟩ := Int.eq_ofNat_of_zero_le hr0
  unfold maxLen at ha hg
  have HS : Hid (Since w w) := Below.refl _ _
  clear hraw
  by_cases h1 : 1500 < a.size
  · have d1 : decide ((1500 : Int) < (a.size : Int)) = true := by simp; omega
    go_enter Tryd.func8, Tryd.ntmps8
    go_wp2_with fail
    refine (head_any _).mono ?_; rintro x w1 ⟨rfl, hb1⟩
    have HS1 := Lib.hid (HS.out.call hb1); clear hb1
    go_wp2
    go_ret
    exact ⟨rfl, HS1.out⟩
  · by_cases h2 : 300 < g.size
    · have d1 : decide ((1500 : Int) < (a.size : Int)) = false := by simp; omega
      have d2 : decide ((300 : Int) < (g.size : Int)) = true := by simp; omega
      go_enter Tryd.func8, Tryd.ntmps8
      go_wp2_with fail
      refine (head_any _).mono ?_; rintro x w1 ⟨rfl, hb1⟩
      have HS1 := Lib.hid (HS.out.call hb1); clear hb1
      go_wp2
      go_ret
      exact ⟨rfl, HS1.out⟩
    · by_cases h3 : gapL false g.data.toList = g.data.toList.length
      · rcases lex_ways a.data.toList (by simp; omega) with ⟨ts, hlx, _⟩ | ⟨ts, d, p, hlx, _⟩
        · rcases Nat.eq_zero_or_pos ts.length with h0 | h0
          · have hts : ts = [] := List.length_eq_zero_iff.1 h0
            subst hts
            exact gaps_none a g R w (by omega) (by omega) h3 hlx
          · exact gaps_some a g R w (by omega) (by omega) (by omega) h3 ts ts.length rfl h0 hlx
        · exact gaps_bad a g R w (by omega) (by omega) h3 ts d p hlx
      · have d1 : decide ((1500 : Int) < (a.size : Int)) = false := by simp; omega
        have d2 : decide ((300 : Int) < (g.size : Int)) = false := by simp; omega
        have hgp := fun w => rgaps_any g (by omega) w
        have hgt : gapsB g.data.toList = false := by unfold gapsB; exact decide_eq_false h3
        rw [hgt] at hgp
        have HGP := Lib.hid hgp
        clear hgp hgt h3
        go_enter Tryd.func8, Tryd.ntmps8
        go_wp2_with fail
        refine (head_any _).mono ?_; rintro x w1 ⟨rfl, hb1⟩
        have HS1 := Lib.hid (HS.out.call hb1); clear hb1
        go_wp2_with fail
        refine (HGP.out _).mono ?_; rintro x w1' ⟨rfl, rfl⟩
        go_wp2
        go_ret
        exact ⟨rfl, HS1.out⟩
end Go.Proofs.YtbnnlpmflifofaaDoor
