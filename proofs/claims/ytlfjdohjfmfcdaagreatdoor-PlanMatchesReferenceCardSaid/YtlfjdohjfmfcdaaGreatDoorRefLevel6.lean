/-
  The document's own reader of plans: a level.
-/
import Derived.Test.YtlfjdohjfmfcdaaGreatDoorRefIt6
namespace Go.Proofs.YtlfjdohjfmfcdaaGreatDoor
open Go.RowKit Go.Sort Foyer.Plan
set_option linter.unusedSimpArgs false

theorem l5_nil (W : World) (base : Nat) : L5 W base (fun _ => True) (.slice none 0 0) (.slice none 0 0) (.slice none 0 0) (.slice none 0 0) (.slice none 0 0) [] := by
  have hn : ∀ v ∈ [(.slice none 0 0 : Value), .slice none 0 0, .slice none 0 0, .slice none 0 0, .slice none 0 0], v.ownBlock = none := fun v hv => by
    simp only [List.mem_cons, List.not_mem_nil, or_false] at hv
    rcases hv with rfl | rfl | rfl | rfl | rfl <;> rfl
  refine ⟨building_nil _ _ _ _ _, building_nil _ _ _ _ _, building_nil _ _ _ _ _, building_nil _ _ _ _ _, building_nil _ _ _ _ _, (List.Pairwise.imp_of_mem (R := fun _ _ => True) (fun ha _ _ k hk => by rw [hn _ ha] at hk; cases hk) (List.pairwise_of_forall fun _ _ => trivial)), fun _ _ _ _ => trivial⟩
theorem L5.level {W : World} {base : Nat} {v1 v2 v3 v4 v5 : Value} {is : List ItemP} (h : L5 W base (fun _ => True) v1 v2 v3 v4 v5 is) (n : List UInt8) (hh at_ : Nat) : LevelIs W (fun k => base ≤ k) [.string ⟨n.toArray⟩, .int .i64 (hh : Nat), v1, v2, v3, v4, v5, .int .i64 (at_ : Nat)] (levelOf n hh is at_) v1 v2 v3 v4 v5 :=
  ⟨rfl, h.b1.done (fun _ hk _ => hk.1.1) (fun _ hk => hk), h.b2.done (fun _ hk _ => hk.1.1) (fun _ hk => hk), h.b3.done (fun _ hk _ => hk.1.1) (fun _ hk => hk), h.b4.done (fun _ hk _ => hk.1.1) (fun _ hk => hk), h.b5.done (fun _ hk _ => hk.1.1) (fun _ hk => hk)⟩
theorem item_few {N : Nat} {s s1 : St} {a : List ItemP} (h : itemS N s = (a, s1)) : a.length ≤ 1 := by
  unfold itemS at h
  split at h
  · injection h with e1 _; rw [← e1]; exact Nat.zero_le _
  · injection h with e1 _; rw [← e1]; exact Nat.le_refl _
set_option maxRecDepth 100000 in
set_option maxHeartbeats 16000000 in
theorem dlevel_c {y : LevelP} {sz : St} (B : World) (N : Nat) (Ls : List Foyer.Lexer.Tok) (p : Option Addr) (cap : Nat) (hL : IsLs B p cap Ls) (rb : Nat) (s : St) (i : Nat) (hI : s.left = Ls.drop i) (hi : i ≤ Ls.length) (w : World) (hB : Below B.heap.size B w) (hrb : B.heap.size ≤ rb) (hR : Blk w rb 57 [.slice p Ls.length cap, .int .i64 (i : Nat), .int .i64 (s.err : Nat), .int .i64 (s.pos : Nat), .int .i64 (N : Nat)]) (hs : SaneS s) (h : levelS N s = (y, sz)) :
    Calls Tryz.prog 15 #[.pointer (some ⟨rb, 0, none⟩)] w fun e w' => (∃ u1 u2 u3 u4 u5, e = .returned (.agg #[.string ⟨y.name.toArray⟩, .int .i64 (y.height : Nat), u1, u2, u3, u4, u5, .int .i64 (y.pos : Nat)]) ∧ LevelIs w' (fun k => w.heap.size ≤ k) [.string ⟨y.name.toArray⟩, .int .i64 (y.height : Nat), u1, u2, u3, u4, u5, .int .i64 (y.pos : Nat)] y u1 u2 u3 u4 u5) ∧ (∃ i2, Blk w' rb 57 [.slice p Ls.length cap, .int .i64 (i2 : Nat), .int .i64 (sz.err : Nat), .int .i64 (sz.pos : Nat), .int .i64 (N : Nat)] ∧ sz.left = Ls.drop i2 ∧ i2 ≤ Ls.length) ∧ Kp (onlyB rb) w w' := by
  obtain ⟨s1, h1⟩ : ∃ z, rMust N s wLevel = z := ⟨_, rfl⟩
  obtain ⟨⟨nm, s2⟩, h2⟩ : ∃ z, nameS N s1 = z := ⟨_, rfl⟩
  obtain ⟨s3, h3⟩ : ∃ z, rMust N s2 wHeight = z := ⟨_, rfl⟩
  obtain ⟨⟨hh, s4⟩, h4⟩ : ∃ z, numS N s3 = z := ⟨_, rfl⟩
  obtain ⟨s5, h5⟩ : ∃ z, rMust N s4 wOpen = z := ⟨_, rfl⟩
  obtain ⟨⟨is, s6⟩, h6⟩ : ∃ z, rMany wClose (itemS N) (s5.left.length + 1) [] s5 = z := ⟨_, rfl⟩
  obtain ⟨s7, h7⟩ : ∃ z, rMust N s6 wClose = z := ⟨_, rfl⟩
  obtain ⟨at_, h0⟩ : ∃ z, rAt N s = z := ⟨_, rfl⟩
  unfold levelS at h
  simp only [bindS, retS, mustS, manyS, h1, h2, h3, h4, h5, h6, h7, h0] at h
  injection h with e1 e2
  subst e1 e2
  have hS1 : SaneS s1 := hs.suf (by have := (must_m (N := N) (x := wLevel) ⟨108, _, rfl, by decide⟩ s hs).1; rw [show (mustS N wLevel s).2 = s1 from h1] at this; exact this)
  have hS2 : SaneS s2 := hS1.suf (by have := (name_m (N := N) s1 hS1).1; rw [h2] at this; exact this)
  have hS3 : SaneS s3 := hS2.suf (by have := (must_m (N := N) (x := wHeight) ⟨104, _, rfl, by decide⟩ s2 hS2).1; rw [show (mustS N wHeight s2).2 = s3 from h3] at this; exact this)
  have hS4 : SaneS s4 := hS3.suf (by have := (num_m (N := N) s3 hS3).1; rw [h4] at this; exact this)
  have hS5 : SaneS s5 := hS4.suf (by have := (must_m (N := N) (x := wOpen) ⟨123, _, rfl, by decide⟩ s4 hS4).1; rw [show (mustS N wOpen s4).2 = s5 from h5] at this; exact this)
  have HS5 := Lib.hid hS5
  have hlr := hR.lt
  have hfw := hL.few
  have HI := Lib.hid hI; have HB := Lib.hid hB; have HR := Lib.hid hR; have N0 := Lib.hid h0; have N1 := Lib.hid h1; have N2 := Lib.hid h2; have N3 := Lib.hid h3; have N4 := Lib.hid h4; have N5 := Lib.hid h5; have N6 := Lib.hid h6; have N7 := Lib.hid h7
  have hbw0 := hB.size
  clear hI hB hR h0 h1 h2 h3 h4 h5 h6 h7 hS1 hS2 hS3 hS4 hS5
  go_enter Tryz.func15, Tryz.ntmps15
  go_upto_region 1 with fail
  have k_R := HR.out
  obtain ⟨W1, hW1, bW1, sW1, k2_R, k2_t⟩ : ∃ xW, (w.alloc (.cells #[.string ⟨#[]⟩, .int .i64 0, .slice none 0 0, .slice none 0 0, .slice none 0 0, .slice none 0 0, .slice none 0 0, .int .i64 0] 38)) = xW ∧ Kp (onlyB rb) w xW ∧ w.heap.size + 1 ≤ xW.heap.size ∧ Blk xW (rb) 57 [.slice p Ls.length cap, .int .i64 (i : Nat), .int .i64 (s.err : Nat), .int .i64 (s.pos : Nat), .int .i64 (N : Nat)] ∧ Blk xW (w.heap.size) 38 [.string ⟨#[]⟩, .int .i64 0, .slice none 0 0, .slice none 0 0, .slice none 0 0, .slice none 0 0, .slice none 0 0, .int .i64 0] := ⟨_, rfl, (Kp.alloc (Kp.refl (onlyB rb) w) _), by simp only [World.setCell, World.size_alloc, Array.size_modify, Nat.le_refl], (Blk.alloc k_R _), (Blk.new' _ _ _ (rfl))⟩
  rw [hW1]
  clear hW1 k_R
  have k_R := k2_R
  have k_t := k2_t
  clear k2_R k2_t
  go_wp2_with fail
  refine (dat_c B N Ls p cap hL rb s i HI.out hi W1 (Below.kp HB.out hrb bW1) hrb k_R N0.out).mono ?_; rintro e W2 ⟨rfl, hb0⟩
  have hb : Kp (fun _ => False) W1 W2 := Kp.of_below hb0
  clear hb0
  have sW2 := Nat.le_trans sW1 hb.size
  have bW2 := (bW1).trans (Kp.mono hb (fun _ h => h.elim))
  replace k_R := Blk.kept k_R hb (fun h => h)
  replace k_t := Blk.kept k_t hb (fun h => h)
  clear hb bW1 sW1
  go_upto_region 2 with fail
  obtain ⟨W3, hW3, bW3, sW3, k2_R, k2_t, k2_l⟩ : ∃ xW, (W2.alloc (.cells #[.string ⟨#[]⟩, .int .i64 0, .slice none 0 0, .slice none 0 0, .slice none 0 0, .slice none 0 0, .slice none 0 0, .int .i64 (at_ : Nat)] 38)) = xW ∧ Kp (onlyB rb) w xW ∧ W2.heap.size + 1 ≤ xW.heap.size ∧ Blk xW (rb) 57 [.slice p Ls.length cap, .int .i64 (i : Nat), .int .i64 (s.err : Nat), .int .i64 (s.pos : Nat), .int .i64 (N : Nat)] ∧ Blk xW (w.heap.size) 38 [.string ⟨#[]⟩, .int .i64 0, .slice none 0 0, .slice none 0 0, .slice none 0 0, .slice none 0 0, .slice none 0 0, .int .i64 0] ∧ Blk xW (W2.heap.size) 38 [.string ⟨#[]⟩, .int .i64 0, .slice none 0 0, .slice none 0 0, .slice none 0 0, .slice none 0 0, .slice none 0 0, .int .i64 (at_ : Nat)] := ⟨_, rfl, (Kp.alloc bW2 _), by simp only [World.setCell, World.size_alloc, Array.size_modify, Nat.le_refl], (Blk.alloc k_R _), (Blk.alloc k_t _), (Blk.new' _ _ _ (rfl))⟩
  rw [hW3]
  clear hW3 k_R k_t
  have k_R := k2_R
  have k_t := k2_t
  have k_l := k2_l
  clear k2_R k2_t k2_l
  go_wp2_with fail
  refine (dmust_c wLevel B N Ls p cap hL rb s i HI.out hi W3 (Below.kp HB.out hrb bW3) hrb k_R N1.out).mono ?_; rintro e W4 ⟨rfl, ⟨j1, hr, hl_, hi1⟩, hb⟩
  have sW4 := Nat.le_trans sW3 hb.size
  have bW4 := (bW3).trans hb
  replace k_R := hr
  replace k_t := Blk.kept k_t hb (by show ¬ _ = rb; omega)
  replace k_l := Blk.kept k_l hb (by show ¬ _ = rb; omega)
  clear hb hr bW3 sW3
  have HI1 := Lib.hid hl_
  clear hl_ HI hi
  go_wp2_with fail
  refine (dname_c B N Ls p cap hL rb s1 j1 HI1.out hi1 W4 (Below.kp HB.out hrb bW4) hrb k_R N2.out).mono ?_; rintro e W5 ⟨rfl, ⟨j2, hr, hl_, hi2⟩, hb⟩
  have sW5 := Nat.le_trans sW4 hb.size
  have bW5 := (bW4).trans hb
  replace k_R := hr
  replace k_t := Blk.kept k_t hb (by show ¬ _ = rb; omega)
  replace k_l := Blk.kept k_l hb (by show ¬ _ = rb; omega)
  clear hb hr bW4 sW4
  have HI2 := Lib.hid hl_
  clear hl_ HI1 hi1
  have q_l0 := k_l.cell (i := 0) rfl
  have q_l1 := k_l.cell (i := 1) rfl
  have q_l2 := k_l.cell (i := 2) rfl
  have q_l3 := k_l.cell (i := 3) rfl
  have q_l4 := k_l.cell (i := 4) rfl
  have q_l5 := k_l.cell (i := 5) rfl
  have q_l6 := k_l.cell (i := 6) rfl
  have q_l7 := k_l.cell (i := 7) rfl
  have q_lf := k_l.free
  go_upto_region 4 with fail
  clear q_l0 q_l1 q_l2 q_l3 q_l4 q_l5 q_l6 q_l7 q_lf
  obtain ⟨W6, hW6, bW6, sW6, k2_R, k2_t, k2_l⟩ : ∃ xW, (W5.setCell ⟨W2.heap.size, 0, none⟩ (.string ⟨nm.toArray⟩)) = xW ∧ Kp (onlyB rb) w xW ∧ W5.heap.size ≤ xW.heap.size ∧ Blk xW (rb) 57 [.slice p Ls.length cap, .int .i64 (j2 : Nat), .int .i64 (s2.err : Nat), .int .i64 (s2.pos : Nat), .int .i64 (N : Nat)] ∧ Blk xW (w.heap.size) 38 [.string ⟨#[]⟩, .int .i64 0, .slice none 0 0, .slice none 0 0, .slice none 0 0, .slice none 0 0, .slice none 0 0, .int .i64 0] ∧ Blk xW (W2.heap.size) 38 [.string ⟨nm.toArray⟩, .int .i64 0, .slice none 0 0, .slice none 0 0, .slice none 0 0, .slice none 0 0, .slice none 0 0, .int .i64 (at_ : Nat)] := ⟨_, rfl, (Kp.s1 bW5 (Or.inr (by omega))), by simp only [World.setCell, World.size_alloc, Array.size_modify, Nat.le_refl], (Blk.o1 k_R (by omega)), (Blk.o1 k_t (by omega)), (Blk.cast (Blk.set k_l 0 _) rfl)⟩
  rw [hW6]
  clear hW6 k_R k_t k_l
  have k_R := k2_R
  have k_t := k2_t
  have k_l := k2_l
  clear k2_R k2_t k2_l
  go_wp2_with fail
  refine (dmust_c wHeight B N Ls p cap hL rb s2 j2 HI2.out hi2 W6 (Below.kp HB.out hrb bW6) hrb k_R N3.out).mono ?_; rintro e W7 ⟨rfl, ⟨j3, hr, hl_, hi3⟩, hb⟩
  have sW7 := Nat.le_trans sW6 hb.size
  have bW7 := (bW6).trans hb
  replace k_R := hr
  replace k_t := Blk.kept k_t hb (by show ¬ _ = rb; omega)
  replace k_l := Blk.kept k_l hb (by show ¬ _ = rb; omega)
  clear hb hr bW6 sW6
  have HI3 := Lib.hid hl_
  clear hl_ HI2 hi2
  go_wp2_with fail
  refine (dnum_c B N Ls p cap hL rb s3 j3 HI3.out hi3 W7 (Below.kp HB.out hrb bW7) hrb k_R N4.out).mono ?_; rintro e W8 ⟨rfl, ⟨j4, hr, hl_, hi4⟩, hb⟩
  have sW8 := Nat.le_trans sW7 hb.size
  have bW8 := (bW7).trans hb
  replace k_R := hr
  replace k_t := Blk.kept k_t hb (by show ¬ _ = rb; omega)
  replace k_l := Blk.kept k_l hb (by show ¬ _ = rb; omega)
  clear hb hr bW7 sW7
  have HI4 := Lib.hid hl_
  clear hl_ HI3 hi3
  have q_l0 := k_l.cell (i := 0) rfl
  have q_l1 := k_l.cell (i := 1) rfl
  have q_l2 := k_l.cell (i := 2) rfl
  have q_l3 := k_l.cell (i := 3) rfl
  have q_l4 := k_l.cell (i := 4) rfl
  have q_l5 := k_l.cell (i := 5) rfl
  have q_l6 := k_l.cell (i := 6) rfl
  have q_l7 := k_l.cell (i := 7) rfl
  have q_lf := k_l.free
  go_upto_region 6 with fail
  clear q_l0 q_l1 q_l2 q_l3 q_l4 q_l5 q_l6 q_l7 q_lf
  obtain ⟨W9, hW9, bW9, sW9, k2_R, k2_t, k2_l⟩ : ∃ xW, (W8.setCell ⟨W2.heap.size, 1, none⟩ (.int .i64 (hh : Nat))) = xW ∧ Kp (onlyB rb) w xW ∧ W8.heap.size ≤ xW.heap.size ∧ Blk xW (rb) 57 [.slice p Ls.length cap, .int .i64 (j4 : Nat), .int .i64 (s4.err : Nat), .int .i64 (s4.pos : Nat), .int .i64 (N : Nat)] ∧ Blk xW (w.heap.size) 38 [.string ⟨#[]⟩, .int .i64 0, .slice none 0 0, .slice none 0 0, .slice none 0 0, .slice none 0 0, .slice none 0 0, .int .i64 0] ∧ Blk xW (W2.heap.size) 38 [.string ⟨nm.toArray⟩, .int .i64 (hh : Nat), .slice none 0 0, .slice none 0 0, .slice none 0 0, .slice none 0 0, .slice none 0 0, .int .i64 (at_ : Nat)] := ⟨_, rfl, (Kp.s1 bW8 (Or.inr (by omega))), by simp only [World.setCell, World.size_alloc, Array.size_modify, Nat.le_refl], (Blk.o1 k_R (by omega)), (Blk.o1 k_t (by omega)), (Blk.cast (Blk.set k_l 1 _) rfl)⟩
  rw [hW9]
  clear hW9 k_R k_t k_l
  have k_R := k2_R
  have k_t := k2_t
  have k_l := k2_l
  clear k2_R k2_t k2_l
  go_wp2_with fail
  refine (dmust_c wOpen B N Ls p cap hL rb s4 j4 HI4.out hi4 W9 (Below.kp HB.out hrb bW9) hrb k_R N5.out).mono ?_; rintro e W10 ⟨rfl, ⟨j5, hr, hl_, hi5⟩, hb⟩
  have sW10 := Nat.le_trans sW9 hb.size
  have bW10 := (bW9).trans hb
  replace k_R := hr
  replace k_t := Blk.kept k_t hb (by show ¬ _ = rb; omega)
  replace k_l := Blk.kept k_l hb (by show ¬ _ = rb; omega)
  clear hb hr bW9 sW9
  have HI5 := Lib.hid hl_
  clear hl_ HI4 hi4
  go_upto_region 7 with fail
  have hbase : w.heap.size + 1 ≤ W2.heap.size ∧ W2.heap.size < W10.heap.size ∧ rb < W10.heap.size ∧ B.heap.size ≤ W10.heap.size := by omega
  have s0W10 : W10.heap.size ≤ W10.heap.size := Nat.le_refl _
  clear sW10
  have sW10 := s0W10
  clear s0W10
  go_loopw [] (fun wr => ∃ (il : List ItemP) (u1 u2 u3 u4 u5 : Value) (sg : St) (ig f : Nat), Hid (rMany wClose (itemS N) f il sg = (is, s6)) ∧ Hid (sg.err = 0 → sg.left.length + 1 ≤ f) ∧ Hid (sg.left = Ls.drop ig) ∧ Hid (ig ≤ Ls.length) ∧ Hid (SaneS sg) ∧ Hid (il.length + sg.left.length ≤ 5000 ∨ sg.err ≠ 0) ∧ Hid (L5 wr W10.heap.size (fun _ => True) u1 u2 u3 u4 u5 il) ∧ Hid (Blk wr (rb) 57 [.slice p Ls.length cap, .int .i64 (ig : Nat), .int .i64 (sg.err : Nat), .int .i64 (sg.pos : Nat), .int .i64 (N : Nat)]) ∧ Hid (Blk wr (w.heap.size) 38 [.string ⟨#[]⟩, .int .i64 0, .slice none 0 0, .slice none 0 0, .slice none 0 0, .slice none 0 0, .slice none 0 0, .int .i64 0]) ∧ Hid (Blk wr (W2.heap.size) 38 [.string ⟨nm.toArray⟩, .int .i64 (hh : Nat), u1, u2, u3, u4, u5, .int .i64 (at_ : Nat)]) ∧ Hid (Kp (onlyB rb) w wr) ∧ Hid (W10.heap.size ≤ wr.heap.size)) (fun wr => left6 Ls.length rb wr)
  case atStart => exact ⟨[], _, _, _, _, _, s5, j5, s5.left.length + 1, N6, Lib.hid (fun _ => Nat.le_refl _), HI5, Lib.hid hi5, HS5, Lib.hid (Or.inl (by rw [List.length_nil, Nat.zero_add]; exact HS5.out.2)), Lib.hid (l5_nil _ _), Lib.hid k_R, Lib.hid k_t, Lib.hid k_l, Lib.hid bW10, Lib.hid (by omega)⟩
  case round =>
    clear N6 HS5
    obtain ⟨il, u1, u2, u3, u4, u5, sg, ig, f, HM, HF, HIg, HIL, HSG, HLN, HLV, J_R, J_t, J_l, Jb, Jz⟩ := hrel
    clear k_R k_t k_l bW10 sW10
    have k_R := J_R.out
    have k_t := J_t.out
    have k_l := J_l.out
    have bwr := Jb.out
    have swr := Jz.out
    clear J_R J_t J_l Jb Jz
    obtain ⟨a1, c1, hv1⟩ := HLV.out.b1.len6
    subst hv1
    obtain ⟨a2, c2, hv2⟩ := HLV.out.b2.len6
    subst hv2
    obtain ⟨a3, c3, hv3⟩ := HLV.out.b3.len6
    subst hv3
    obtain ⟨a4, c4, hv4⟩ := HLV.out.b4.len6
    subst hv4
    obtain ⟨a5, c5, hv5⟩ := HLV.out.b5.len6
    subst hv5
    have hig := HIL.out
    have hleft := left6_of (n := Ls.length) k_R
    have HLEFT := Lib.hid hleft
    clear hleft
    by_cases h0 : sg.err = 0
    rotate_left
    · have hm := HM.out
      rw [many_err h0] at hm
      injection hm with e1 e2
      subst e1 e2
      have e0 : (((sg.err : Nat) : Int) == 0) = false := by simp [h0]
      clear h0
      have q_R0 := k_R.cell (i := 0) rfl
      have q_R1 := k_R.cell (i := 1) rfl
      have q_R2 := k_R.cell (i := 2) rfl
      have q_R3 := k_R.cell (i := 3) rfl
      have q_R4 := k_R.cell (i := 4) rfl
      have q_Rf := k_R.free
      go_upto_region 9 with fail
      clear q_R0 q_R1 q_R2 q_R3 q_R4 q_Rf
      clear e0
      go_wp2_with fail
      refine (dmust_c wClose B N Ls p cap hL rb sg ig HIg.out hig wr (Below.kp HB.out hrb bwr) hrb k_R N7.out).mono ?_; rintro e W11 ⟨rfl, ⟨j6, hr, hl_, hi6⟩, hb⟩
      have sW11 := Nat.le_trans swr hb.size
      have bW11 := (bwr).trans hb
      replace k_R := hr
      replace k_t := Blk.kept k_t hb (by show ¬ _ = rb; omega)
      replace k_l := Blk.kept k_l hb (by show ¬ _ = rb; omega)
      have kpW11 := (Kp.refl (fun k => k < W10.heap.size) wr).trans (Kp.mono hb (fun k hk => by have e : k = rb := hk; show k < _; omega))
      clear hb hr bwr swr
      have HI6 := Lib.hid hl_
      clear hl_ HIg hig
      have q_l0 := k_l.cell (i := 0) rfl
      have q_l1 := k_l.cell (i := 1) rfl
      have q_l2 := k_l.cell (i := 2) rfl
      have q_l3 := k_l.cell (i := 3) rfl
      have q_l4 := k_l.cell (i := 4) rfl
      have q_l5 := k_l.cell (i := 5) rfl
      have q_l6 := k_l.cell (i := 6) rfl
      have q_l7 := k_l.cell (i := 7) rfl
      have q_lf := k_l.free
      have q_t0 := k_t.cell (i := 0) rfl
      have q_t1 := k_t.cell (i := 1) rfl
      have q_t2 := k_t.cell (i := 2) rfl
      have q_t3 := k_t.cell (i := 3) rfl
      have q_t4 := k_t.cell (i := 4) rfl
      have q_t5 := k_t.cell (i := 5) rfl
      have q_t6 := k_t.cell (i := 6) rfl
      have q_t7 := k_t.cell (i := 7) rfl
      have q_tf := k_t.free
      go_wp2
      clear q_l0 q_l1 q_l2 q_l3 q_l4 q_l5 q_l6 q_l7 q_lf q_t0 q_t1 q_t2 q_t3 q_t4 q_t5 q_t6 q_t7 q_tf
      obtain ⟨W12, hW12, bW12, sW12, kpW12, k2_R, k2_t, k2_l⟩ : ∃ xW, ((((((((W11.setCell ⟨w.heap.size, 0, none⟩ (.string ⟨nm.toArray⟩)).setCell ⟨w.heap.size, 1, none⟩ (.int .i64 (hh : Nat))).setCell ⟨w.heap.size, 2, none⟩ (.slice a1 (blocksOf il).length c1)).setCell ⟨w.heap.size, 3, none⟩ (.slice a2 (areasOf il).length c2)).setCell ⟨w.heap.size, 4, none⟩ (.slice a3 (aislesOf il).length c3)).setCell ⟨w.heap.size, 5, none⟩ (.slice a4 (pillarsOf il).length c4)).setCell ⟨w.heap.size, 6, none⟩ (.slice a5 (doorsOf il).length c5)).setCell ⟨w.heap.size, 7, none⟩ (.int .i64 (at_ : Nat))) = xW ∧ Kp (onlyB rb) w xW ∧ W11.heap.size ≤ xW.heap.size ∧ Kp (fun k => k < W10.heap.size) wr xW ∧ Blk xW (rb) 57 [.slice p Ls.length cap, .int .i64 (j6 : Nat), .int .i64 (s7.err : Nat), .int .i64 (s7.pos : Nat), .int .i64 (N : Nat)] ∧ Blk xW (w.heap.size) 38 [.string ⟨nm.toArray⟩, .int .i64 (hh : Nat), .slice a1 (blocksOf il).length c1, .slice a2 (areasOf il).length c2, .slice a3 (aislesOf il).length c3, .slice a4 (pillarsOf il).length c4, .slice a5 (doorsOf il).length c5, .int .i64 (at_ : Nat)] ∧ Blk xW (W2.heap.size) 38 [.string ⟨nm.toArray⟩, .int .i64 (hh : Nat), .slice a1 (blocksOf il).length c1, .slice a2 (areasOf il).length c2, .slice a3 (aislesOf il).length c3, .slice a4 (pillarsOf il).length c4, .slice a5 (doorsOf il).length c5, .int .i64 (at_ : Nat)] := ⟨_, rfl, (Kp.s4 (Kp.s4 bW11 (Or.inr (by omega))) (Or.inr (by omega))), by simp only [World.setCell, World.size_alloc, Array.size_modify, Nat.le_refl], (Kp.s4 (Kp.s4 kpW11 (Or.inl (show w.heap.size < W10.heap.size by omega))) (Or.inl (show w.heap.size < W10.heap.size by omega))), (Blk.o4 (Blk.o4 k_R (by omega)) (by omega)), (Blk.cast (Blk.set (Blk.set (Blk.set (Blk.set (Blk.set (Blk.set (Blk.set (Blk.set k_t 0 _) 1 _) 2 _) 3 _) 4 _) 5 _) 6 _) 7 _) rfl), (Blk.o4 (Blk.o4 k_l (by omega)) (by omega))⟩
      rw [hW12]
      clear hW12 k_R k_t k_l
      have k_R := k2_R
      have k_t := k2_t
      have k_l := k2_l
      clear k2_R k2_t k2_l
      have h5 := HLV.out.kept kpW12 (fun k hk => Or.inl hk)
      exact bodyPost_ret (results_cell_mid rfl _ _ w.heap.size _ _ rfl k_t.range Tryz.underlying38 rfl (by kernel_rfl)) rfl ⟨⟨_, _, _, _, _, rfl, let q := h5.level nm hh at_; ⟨q.cells, q.blocks.mono (fun k (hk : W10.heap.size ≤ k) _ => by omega), q.areas.mono (fun k (hk : W10.heap.size ≤ k) _ => by omega), q.aisles.mono (fun k (hk : W10.heap.size ≤ k) _ => by omega), q.pillars.mono (fun k (hk : W10.heap.size ≤ k) _ => by omega), q.doors.mono (fun k (hk : W10.heap.size ≤ k) _ => by omega)⟩⟩, ⟨j6, k_R, HI6.out, hi6⟩, bW12⟩
    have e0 : (((sg.err : Nat) : Int) == 0) = true := by simp [h0]
    obtain ⟨bz, hbz⟩ : ∃ z, rSees sg wClose = z := ⟨_, rfl⟩
    have NBZ := Lib.hid hbz
    clear hbz
    have q_R0 := k_R.cell (i := 0) rfl
    have q_R1 := k_R.cell (i := 1) rfl
    have q_R2 := k_R.cell (i := 2) rfl
    have q_R3 := k_R.cell (i := 3) rfl
    have q_R4 := k_R.cell (i := 4) rfl
    have q_Rf := k_R.free
    have hsees := dsees_any wClose B N Ls p cap hL rb sg ig HIg.out hig wr (Below.kp HB.out hrb bwr) hrb k_R
    rw [NBZ.out] at hsees
    have HSEES := Lib.hid hsees
    clear hsees
    go_wp2_with fail
    refine (HSEES.out).mono ?_; rintro e W11 ⟨rfl, hb0⟩
    clear q_R0 q_R1 q_R2 q_R3 q_R4 q_Rf
    have hb : Kp (fun _ => False) wr W11 := Kp.of_below hb0
    clear hb0
    have sW11 := Nat.le_trans swr hb.size
    have bW11 := (bwr).trans (Kp.mono hb (fun _ h => h.elim))
    replace k_R := Blk.kept k_R hb (fun h => h)
    replace k_t := Blk.kept k_t hb (fun h => h)
    replace k_l := Blk.kept k_l hb (fun h => h)
    have kpW11 := (Kp.refl (fun k => k < W10.heap.size) wr).trans (Kp.mono hb (fun _ h => h.elim))
    clear hb bwr swr
    clear e0 HSEES
    have HL2 := Lib.hid (HLV.out.kept kpW11 (fun k hk => Or.inl hk))
    clear kpW11 HLV
    have HLV := HL2
    clear HL2
    cases bz
    rotate_left
    · have hm := HM.out
      rw [many_end NBZ.out] at hm
      injection hm with e1 e2
      subst e1 e2
      go_upto_region 9 with fail
      go_wp2_with fail
      refine (dmust_c wClose B N Ls p cap hL rb sg ig HIg.out hig W11 (Below.kp HB.out hrb bW11) hrb k_R N7.out).mono ?_; rintro e W12 ⟨rfl, ⟨j7, hr, hl_, hi7⟩, hb⟩
      have sW12 := Nat.le_trans sW11 hb.size
      have bW12 := (bW11).trans hb
      replace k_R := hr
      replace k_t := Blk.kept k_t hb (by show ¬ _ = rb; omega)
      replace k_l := Blk.kept k_l hb (by show ¬ _ = rb; omega)
      have kpW12 := (Kp.refl (fun k => k < W10.heap.size) W11).trans (Kp.mono hb (fun k hk => by have e : k = rb := hk; show k < _; omega))
      clear hb hr bW11 sW11
      have HI7 := Lib.hid hl_
      clear hl_ HIg hig
      have q_l0 := k_l.cell (i := 0) rfl
      have q_l1 := k_l.cell (i := 1) rfl
      have q_l2 := k_l.cell (i := 2) rfl
      have q_l3 := k_l.cell (i := 3) rfl
      have q_l4 := k_l.cell (i := 4) rfl
      have q_l5 := k_l.cell (i := 5) rfl
      have q_l6 := k_l.cell (i := 6) rfl
      have q_l7 := k_l.cell (i := 7) rfl
      have q_lf := k_l.free
      have q_t0 := k_t.cell (i := 0) rfl
      have q_t1 := k_t.cell (i := 1) rfl
      have q_t2 := k_t.cell (i := 2) rfl
      have q_t3 := k_t.cell (i := 3) rfl
      have q_t4 := k_t.cell (i := 4) rfl
      have q_t5 := k_t.cell (i := 5) rfl
      have q_t6 := k_t.cell (i := 6) rfl
      have q_t7 := k_t.cell (i := 7) rfl
      have q_tf := k_t.free
      go_wp2
      clear q_l0 q_l1 q_l2 q_l3 q_l4 q_l5 q_l6 q_l7 q_lf q_t0 q_t1 q_t2 q_t3 q_t4 q_t5 q_t6 q_t7 q_tf
      obtain ⟨W13, hW13, bW13, sW13, kpW13, k2_R, k2_t, k2_l⟩ : ∃ xW, ((((((((W12.setCell ⟨w.heap.size, 0, none⟩ (.string ⟨nm.toArray⟩)).setCell ⟨w.heap.size, 1, none⟩ (.int .i64 (hh : Nat))).setCell ⟨w.heap.size, 2, none⟩ (.slice a1 (blocksOf il).length c1)).setCell ⟨w.heap.size, 3, none⟩ (.slice a2 (areasOf il).length c2)).setCell ⟨w.heap.size, 4, none⟩ (.slice a3 (aislesOf il).length c3)).setCell ⟨w.heap.size, 5, none⟩ (.slice a4 (pillarsOf il).length c4)).setCell ⟨w.heap.size, 6, none⟩ (.slice a5 (doorsOf il).length c5)).setCell ⟨w.heap.size, 7, none⟩ (.int .i64 (at_ : Nat))) = xW ∧ Kp (onlyB rb) w xW ∧ W12.heap.size ≤ xW.heap.size ∧ Kp (fun k => k < W10.heap.size) W11 xW ∧ Blk xW (rb) 57 [.slice p Ls.length cap, .int .i64 (j7 : Nat), .int .i64 (s7.err : Nat), .int .i64 (s7.pos : Nat), .int .i64 (N : Nat)] ∧ Blk xW (w.heap.size) 38 [.string ⟨nm.toArray⟩, .int .i64 (hh : Nat), .slice a1 (blocksOf il).length c1, .slice a2 (areasOf il).length c2, .slice a3 (aislesOf il).length c3, .slice a4 (pillarsOf il).length c4, .slice a5 (doorsOf il).length c5, .int .i64 (at_ : Nat)] ∧ Blk xW (W2.heap.size) 38 [.string ⟨nm.toArray⟩, .int .i64 (hh : Nat), .slice a1 (blocksOf il).length c1, .slice a2 (areasOf il).length c2, .slice a3 (aislesOf il).length c3, .slice a4 (pillarsOf il).length c4, .slice a5 (doorsOf il).length c5, .int .i64 (at_ : Nat)] := ⟨_, rfl, (Kp.s4 (Kp.s4 bW12 (Or.inr (by omega))) (Or.inr (by omega))), by simp only [World.setCell, World.size_alloc, Array.size_modify, Nat.le_refl], (Kp.s4 (Kp.s4 kpW12 (Or.inl (show w.heap.size < W10.heap.size by omega))) (Or.inl (show w.heap.size < W10.heap.size by omega))), (Blk.o4 (Blk.o4 k_R (by omega)) (by omega)), (Blk.cast (Blk.set (Blk.set (Blk.set (Blk.set (Blk.set (Blk.set (Blk.set (Blk.set k_t 0 _) 1 _) 2 _) 3 _) 4 _) 5 _) 6 _) 7 _) rfl), (Blk.o4 (Blk.o4 k_l (by omega)) (by omega))⟩
      rw [hW13]
      clear hW13 k_R k_t k_l
      have k_R := k2_R
      have k_t := k2_t
      have k_l := k2_l
      clear k2_R k2_t k2_l
      have h5 := HLV.out.kept kpW13 (fun k hk => Or.inl hk)
      exact bodyPost_ret (results_cell_mid rfl _ _ w.heap.size _ _ rfl k_t.range Tryz.underlying38 rfl (by kernel_rfl)) rfl ⟨⟨_, _, _, _, _, rfl, let q := h5.level nm hh at_; ⟨q.cells, q.blocks.mono (fun k (hk : W10.heap.size ≤ k) _ => by omega), q.areas.mono (fun k (hk : W10.heap.size ≤ k) _ => by omega), q.aisles.mono (fun k (hk : W10.heap.size ≤ k) _ => by omega), q.pillars.mono (fun k (hk : W10.heap.size ≤ k) _ => by omega), q.doors.mono (fun k (hk : W10.heap.size ≤ k) _ => by omega)⟩⟩, ⟨j7, k_R, HI7.out, hi7⟩, bW13⟩
    obtain ⟨g, rfl⟩ : ∃ z, f = z + 1 := ⟨f - 1, by have := HF.out h0; omega⟩
    obtain ⟨⟨a, s14⟩, hq⟩ : ∃ z, itemS N sg = z := ⟨_, rfl⟩
    have hm := HM.out
    rw [many_step h0 NBZ.out hq] at hm
    have HM2 := Lib.hid hm
    clear hm HM
    have HS14 : Hid (SaneS s14) := Lib.hid (part_sane item_m HSG.out hq)
    have HPL : Hid (s14.err = 0 → s14.left.length < sg.left.length) := Lib.hid (part_less eats_item item_m HSG.out h0 hq)
    have hilf : il.length + sg.left.length ≤ 5000 := HLN.out.resolve_right (fun k => k h0)
    have HF2 := Lib.hid (HF.out h0)
    have HQ := Lib.hid hq; have H0 := Lib.hid h0; have HAF := Lib.hid (item_few hq)
    clear hq h0 HLN HF
    have hitem := ditem_c W10.heap.size nm hh at_ il _ _ _ _ _ B N Ls p cap hL rb sg ig HIg.out hig W11 (Below.kp HB.out hrb bW11) hrb k_R HSG.out (by omega) (by omega) (by omega) (by omega) HLV.out HQ.out
    have HITEM := Lib.hid hitem
    clear hitem
    have q_l0 := k_l.cell (i := 0) rfl
    have q_l1 := k_l.cell (i := 1) rfl
    have q_l2 := k_l.cell (i := 2) rfl
    have q_l3 := k_l.cell (i := 3) rfl
    have q_l4 := k_l.cell (i := 4) rfl
    have q_l5 := k_l.cell (i := 5) rfl
    have q_l6 := k_l.cell (i := 6) rfl
    have q_l7 := k_l.cell (i := 7) rfl
    have q_lf := k_l.free
    go_wp2_with fail
    refine (HITEM.out).mono ?_; rintro e W12 ⟨⟨q1, q2, q3, q4, q5, rfl, hlv⟩, ⟨j9, hr, hl_, hi9⟩, hb⟩
    clear q_l0 q_l1 q_l2 q_l3 q_l4 q_l5 q_l6 q_l7 q_lf
    obtain ⟨x1, z1, hv1⟩ := hlv.b1.len6
    subst hv1
    obtain ⟨x2, z2, hv2⟩ := hlv.b2.len6
    subst hv2
    obtain ⟨x3, z3, hv3⟩ := hlv.b3.len6
    subst hv3
    obtain ⟨x4, z4, hv4⟩ := hlv.b4.len6
    subst hv4
    obtain ⟨x5, z5, hv5⟩ := hlv.b5.len6
    subst hv5
    have sW12 := Nat.le_trans sW11 hb.size
    have bW12 := bW11.call hb (fun k hk => (show k = rb ∨ W10.heap.size ≤ k from hk).elim (fun e => Or.inl e) (fun e => Or.inr (by omega)))
    replace k_t := Blk.kept k_t hb (by show ¬ (_ = rb ∨ _ ≤ _); omega)
    replace k_l := Blk.kept k_l hb (by show ¬ (_ = rb ∨ _ ≤ _); omega)
    replace k_R := hr
    have HLV2 := Lib.hid hlv
    have HI9 := Lib.hid hl_
    clear hb hr hl_ hlv HITEM HLV bW11 sW11
    have q_l0 := k_l.cell (i := 0) rfl
    have q_l1 := k_l.cell (i := 1) rfl
    have q_l2 := k_l.cell (i := 2) rfl
    have q_l3 := k_l.cell (i := 3) rfl
    have q_l4 := k_l.cell (i := 4) rfl
    have q_l5 := k_l.cell (i := 5) rfl
    have q_l6 := k_l.cell (i := 6) rfl
    have q_l7 := k_l.cell (i := 7) rfl
    have q_lf := k_l.free
    go_wp2
    clear q_l0 q_l1 q_l2 q_l3 q_l4 q_l5 q_l6 q_l7 q_lf
    obtain ⟨W13, hW13, bW13, sW13, kpW13, k2_R, k2_t, k2_l⟩ : ∃ xW, ((((((((W12.setCell ⟨W2.heap.size, 0, none⟩ (.string ⟨nm.toArray⟩)).setCell ⟨W2.heap.size, 1, none⟩ (.int .i64 (hh : Nat))).setCell ⟨W2.heap.size, 2, none⟩ (.slice x1 (blocksOf (il ++ a)).length z1)).setCell ⟨W2.heap.size, 3, none⟩ (.slice x2 (areasOf (il ++ a)).length z2)).setCell ⟨W2.heap.size, 4, none⟩ (.slice x3 (aislesOf (il ++ a)).length z3)).setCell ⟨W2.heap.size, 5, none⟩ (.slice x4 (pillarsOf (il ++ a)).length z4)).setCell ⟨W2.heap.size, 6, none⟩ (.slice x5 (doorsOf (il ++ a)).length z5)).setCell ⟨W2.heap.size, 7, none⟩ (.int .i64 (at_ : Nat))) = xW ∧ Kp (onlyB rb) w xW ∧ W12.heap.size ≤ xW.heap.size ∧ Kp (fun k => k < W10.heap.size) W12 xW ∧ Blk xW (rb) 57 [.slice p Ls.length cap, .int .i64 (j9 : Nat), .int .i64 (s14.err : Nat), .int .i64 (s14.pos : Nat), .int .i64 (N : Nat)] ∧ Blk xW (w.heap.size) 38 [.string ⟨#[]⟩, .int .i64 0, .slice none 0 0, .slice none 0 0, .slice none 0 0, .slice none 0 0, .slice none 0 0, .int .i64 0] ∧ Blk xW (W2.heap.size) 38 [.string ⟨nm.toArray⟩, .int .i64 (hh : Nat), .slice x1 (blocksOf (il ++ a)).length z1, .slice x2 (areasOf (il ++ a)).length z2, .slice x3 (aislesOf (il ++ a)).length z3, .slice x4 (pillarsOf (il ++ a)).length z4, .slice x5 (doorsOf (il ++ a)).length z5, .int .i64 (at_ : Nat)] := ⟨_, rfl, (Kp.s4 (Kp.s4 bW12 (Or.inr (by omega))) (Or.inr (by omega))), by simp only [World.setCell, World.size_alloc, Array.size_modify, Nat.le_refl], (Kp.s4 (Kp.s4 (Kp.refl _ _) (Or.inl (show W2.heap.size < W10.heap.size by omega))) (Or.inl (show W2.heap.size < W10.heap.size by omega))), (Blk.o4 (Blk.o4 k_R (by omega)) (by omega)), (Blk.o4 (Blk.o4 k_t (by omega)) (by omega)), (Blk.cast (Blk.set (Blk.set (Blk.set (Blk.set (Blk.set (Blk.set (Blk.set (Blk.set k_l 0 _) 1 _) 2 _) 3 _) 4 _) 5 _) 6 _) 7 _) rfl)⟩
    rw [hW13]
    clear hW13 k_R k_t k_l
    have k_R := k2_R
    have k_t := k2_t
    have k_l := k2_l
    clear k2_R k2_t k2_l
    have HLV3 := Lib.hid (HLV2.out.kept kpW13 (fun k hk => Or.inl hk))
    clear kpW13 HLV2
    refine ⟨⟨il ++ a, _, _, _, _, _, s14, j9, g, HM2, Lib.hid (fun e => by have h1 := HPL.out e; have h2 := HF2.out; omega), HI9, Lib.hid hi9, HS14, Lib.hid ((Decidable.em (s14.err = 0)).elim (fun e => Or.inl (by have h1 := HPL.out e; have h2 := HAF.out; rw [List.length_append]; omega)) Or.inr), HLV3, Lib.hid k_R, Lib.hid k_t, Lib.hid k_l, Lib.hid bW13, Lib.hid (by omega)⟩, ?_⟩
    rw [left6_of k_R, HLEFT.out, if_pos H0.out]
    have d1 := drop_len HIg.out hig
    have d2 := drop_len HI9.out hi9
    split
    · rename_i he
      have := HPL.out he
      omega
    · omega
end Go.Proofs.YtlfjdohjfmfcdaaGreatDoor
