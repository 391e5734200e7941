/-
  The document's own reader of plans: a row.
-/
import Derived.Test.YtlfjdohjfmfcdaaGreatDoorRefLs6
import Derived.Test.YtlfjdohjfmfcdaaGreatDoorWalkRow
import Derived.Deep.CutBlock
namespace Go.Proofs.YtlfjdohjfmfcdaaGreatDoor
open Go.RowKit Go.Sort Foyer.Plan
set_option linter.unusedSimpArgs false

set_option maxRecDepth 100000 in
set_option maxHeartbeats 16000000 in
theorem drow_c {y : RowP} {sz : St} (B : World) (N : Nat) (Ls : List Foyer.Lexer.Tok) (p : Option Addr) (cap : Nat) (hL : IsLs B p cap Ls) (rb : Nat) (s : St) (i : Nat) (hI : s.left = Ls.drop i) (hi : i ≤ Ls.length) (w : World) (hB : Below B.heap.size B w) (hrb : B.heap.size ≤ rb) (hR : Blk w rb 57 [.slice p Ls.length cap, .int .i64 (i : Nat), .int .i64 (s.err : Nat), .int .i64 (s.pos : Nat), .int .i64 (N : Nat)]) (hs : SaneS s) (h : rowS N s = (y, sz)) :
    Calls Tryz.prog 43 #[.pointer (some ⟨rb, 0, none⟩)] w fun e w' => (∃ mv, e = .returned (.agg #[.string ⟨y.name.toArray⟩, .int .i64 (y.x : Nat), .int .i64 (y.y : Nat), .int .i64 (y.first : Nat), .int .i64 (y.last : Nat), .int .i64 (y.step : Nat), mv, .int .i64 (y.pos : Nat)]) ∧ IsList markK w' (fun k => w.heap.size ≤ k) 46 mv y.marks) ∧ (∃ i2, Blk w' rb 57 [.slice p Ls.length cap, .int .i64 (i2 : Nat), .int .i64 (sz.err : Nat), .int .i64 (sz.pos : Nat), .int .i64 (N : Nat)] ∧ sz.left = Ls.drop i2 ∧ i2 ≤ Ls.length) ∧ Kp (onlyB rb) w w' := by
  obtain ⟨s1, h1⟩ : ∃ z, rMust N s wRow = z := ⟨_, rfl⟩
  obtain ⟨⟨nm, s2⟩, h2⟩ : ∃ z, nameS N s1 = z := ⟨_, rfl⟩
  obtain ⟨s3, h3⟩ : ∃ z, rMust N s2 wAt = z := ⟨_, rfl⟩
  obtain ⟨⟨x, s4⟩, h4⟩ : ∃ z, numS N s3 = z := ⟨_, rfl⟩
  obtain ⟨⟨yy, s5⟩, h5⟩ : ∃ z, numS N s4 = z := ⟨_, rfl⟩
  obtain ⟨s6, h6⟩ : ∃ z, rMust N s5 wSeats = z := ⟨_, rfl⟩
  obtain ⟨⟨fr, s7⟩, h7⟩ : ∃ z, numS N s6 = z := ⟨_, rfl⟩
  obtain ⟨s8, h8⟩ : ∃ z, rMust N s7 wTo = z := ⟨_, rfl⟩
  obtain ⟨⟨tu, s9⟩, h9⟩ : ∃ z, numS N s8 = z := ⟨_, rfl⟩
  obtain ⟨s10, h10⟩ : ∃ z, rMust N s9 wStep = z := ⟨_, rfl⟩
  obtain ⟨⟨sp, s11⟩, h11⟩ : ∃ z, numS N s10 = z := ⟨_, rfl⟩
  obtain ⟨⟨ms, s12⟩, h12⟩ : ∃ z, rMany wSemi (markS N) (s11.left.length + 1) [] s11 = z := ⟨_, rfl⟩
  obtain ⟨s13, h13⟩ : ∃ z, rMust N s12 wSemi = z := ⟨_, rfl⟩
  obtain ⟨at_, h0⟩ : ∃ z, rAt N s = z := ⟨_, rfl⟩
  unfold rowS at h
  simp only [bindS, retS, mustS, manyS, h1, h2, h3, h4, h5, h6, h7, h8, h9, h10, h11, h12, h13, h0] at h
  injection h with e1 e2
  subst e1 e2
  have hS1 : SaneS s1 := hs.suf (by have := (must_m (N := N) (x := wRow) ⟨114, _, rfl, by decide⟩ s hs).1; rw [show (mustS N wRow s).2 = s1 from h1] at this; exact this)
  have hS2 : SaneS s2 := hS1.suf (by have := (name_m (N := N) s1 hS1).1; rw [h2] at this; exact this)
  have hS3 : SaneS s3 := hS2.suf (by have := (must_m (N := N) (x := wAt) ⟨97, _, rfl, by decide⟩ s2 hS2).1; rw [show (mustS N wAt s2).2 = s3 from h3] at this; exact this)
  have hS4 : SaneS s4 := hS3.suf (by have := (num_m (N := N) s3 hS3).1; rw [h4] at this; exact this)
  have hS5 : SaneS s5 := hS4.suf (by have := (num_m (N := N) s4 hS4).1; rw [h5] at this; exact this)
  have hS6 : SaneS s6 := hS5.suf (by have := (must_m (N := N) (x := wSeats) ⟨115, _, rfl, by decide⟩ s5 hS5).1; rw [show (mustS N wSeats s5).2 = s6 from h6] at this; exact this)
  have hS7 : SaneS s7 := hS6.suf (by have := (num_m (N := N) s6 hS6).1; rw [h7] at this; exact this)
  have hS8 : SaneS s8 := hS7.suf (by have := (must_m (N := N) (x := wTo) ⟨116, _, rfl, by decide⟩ s7 hS7).1; rw [show (mustS N wTo s7).2 = s8 from h8] at this; exact this)
  have hS9 : SaneS s9 := hS8.suf (by have := (num_m (N := N) s8 hS8).1; rw [h9] at this; exact this)
  have hS10 : SaneS s10 := hS9.suf (by have := (must_m (N := N) (x := wStep) ⟨115, _, rfl, by decide⟩ s9 hS9).1; rw [show (mustS N wStep s9).2 = s10 from h10] at this; exact this)
  have hS11 : SaneS s11 := hS10.suf (by have := (num_m (N := N) s10 hS10).1; rw [h11] at this; exact this)
  have HS11 := Lib.hid hS11
  have hlr := hR.lt
  have hfw := hL.few
  have HI := Lib.hid hI; have HB := Lib.hid hB; have HR := Lib.hid hR; have N0 := Lib.hid h0; have N1 := Lib.hid h1; have N2 := Lib.hid h2; have N3 := Lib.hid h3; have N4 := Lib.hid h4; have N5 := Lib.hid h5; have N6 := Lib.hid h6; have N7 := Lib.hid h7; have N8 := Lib.hid h8; have N9 := Lib.hid h9; have N10 := Lib.hid h10; have N11 := Lib.hid h11; have N12 := Lib.hid h12; have N13 := Lib.hid h13
  clear hI hB hR h0 h1 h2 h3 h4 h5 h6 h7 h8 h9 h10 h11 h12 h13 hS1 hS2 hS3 hS4 hS5 hS6 hS7 hS8 hS9 hS10 hS11
  go_enter Tryz.func43, Tryz.ntmps43
  go_upto_region 1 with fail
  have k_R := HR.out
  obtain ⟨W1, hW1, bW1, sW1, k2_R, k2_t⟩ : ∃ xW, (w.alloc (.cells #[.string ⟨#[]⟩, .int .i64 0, .int .i64 0, .int .i64 0, .int .i64 0, .int .i64 0, .slice none 0 0, .int .i64 0] 44)) = xW ∧ Kp (onlyB rb) w xW ∧ w.heap.size + 1 ≤ xW.heap.size ∧ Blk xW (rb) 57 [.slice p Ls.length cap, .int .i64 (i : Nat), .int .i64 (s.err : Nat), .int .i64 (s.pos : Nat), .int .i64 (N : Nat)] ∧ Blk xW (w.heap.size) 44 [.string ⟨#[]⟩, .int .i64 0, .int .i64 0, .int .i64 0, .int .i64 0, .int .i64 0, .slice none 0 0, .int .i64 0] := ⟨_, rfl, (Kp.alloc (Kp.refl (onlyB rb) w) _), by simp only [World.setCell, World.size_alloc, Array.size_modify, Nat.le_refl], (Blk.alloc k_R _), (Blk.new' _ _ _ (rfl))⟩
  rw [hW1]
  clear hW1 k_R
  have k_R := k2_R
  have k_t := k2_t
  clear k2_R k2_t
  go_wp2_with fail
  refine (dat_c B N Ls p cap hL rb s i HI.out hi W1 (Below.kp HB.out hrb bW1) hrb k_R N0.out).mono ?_; rintro e W2 ⟨rfl, hb0⟩
  have hb : Kp (fun _ => False) W1 W2 := Kp.of_below hb0
  clear hb0
  have sW2 := Nat.le_trans sW1 hb.size
  have bW2 := (bW1).trans (Kp.mono hb (fun _ h => h.elim))
  replace k_R := Blk.kept k_R hb (fun h => h)
  replace k_t := Blk.kept k_t hb (fun h => h)
  clear hb bW1 sW1
  go_upto_region 2 with fail
  obtain ⟨W3, hW3, bW3, sW3, k2_R, k2_t, k2_x⟩ : ∃ xW, (W2.alloc (.cells #[.string ⟨#[]⟩, .int .i64 0, .int .i64 0, .int .i64 0, .int .i64 0, .int .i64 0, .slice none 0 0, .int .i64 (at_ : Nat)] 44)) = xW ∧ Kp (onlyB rb) w xW ∧ W2.heap.size + 1 ≤ xW.heap.size ∧ Blk xW (rb) 57 [.slice p Ls.length cap, .int .i64 (i : Nat), .int .i64 (s.err : Nat), .int .i64 (s.pos : Nat), .int .i64 (N : Nat)] ∧ Blk xW (w.heap.size) 44 [.string ⟨#[]⟩, .int .i64 0, .int .i64 0, .int .i64 0, .int .i64 0, .int .i64 0, .slice none 0 0, .int .i64 0] ∧ Blk xW (W2.heap.size) 44 [.string ⟨#[]⟩, .int .i64 0, .int .i64 0, .int .i64 0, .int .i64 0, .int .i64 0, .slice none 0 0, .int .i64 (at_ : Nat)] := ⟨_, rfl, (Kp.alloc bW2 _), by simp only [World.setCell, World.size_alloc, Array.size_modify, Nat.le_refl], (Blk.alloc k_R _), (Blk.alloc k_t _), (Blk.new' _ _ _ (rfl))⟩
  rw [hW3]
  clear hW3 k_R k_t
  have k_R := k2_R
  have k_t := k2_t
  have k_x := k2_x
  clear k2_R k2_t k2_x
  go_wp2_with fail
  refine (dmust_c wRow B N Ls p cap hL rb s i HI.out hi W3 (Below.kp HB.out hrb bW3) hrb k_R N1.out).mono ?_; rintro e W4 ⟨rfl, ⟨j1, hr, hl_, hi1⟩, hb⟩
  have sW4 := Nat.le_trans sW3 hb.size
  have bW4 := (bW3).trans hb
  replace k_R := hr
  replace k_t := Blk.kept k_t hb (by show ¬ _ = rb; omega)
  replace k_x := Blk.kept k_x hb (by show ¬ _ = rb; omega)
  clear hb hr bW3 sW3
  have HI1 := Lib.hid hl_
  clear hl_ HI hi
  go_wp2_with fail
  refine (dname_c B N Ls p cap hL rb s1 j1 HI1.out hi1 W4 (Below.kp HB.out hrb bW4) hrb k_R N2.out).mono ?_; rintro e W5 ⟨rfl, ⟨j2, hr, hl_, hi2⟩, hb⟩
  have sW5 := Nat.le_trans sW4 hb.size
  have bW5 := (bW4).trans hb
  replace k_R := hr
  replace k_t := Blk.kept k_t hb (by show ¬ _ = rb; omega)
  replace k_x := Blk.kept k_x hb (by show ¬ _ = rb; omega)
  clear hb hr bW4 sW4
  have HI2 := Lib.hid hl_
  clear hl_ HI1 hi1
  have q_x0 := k_x.cell (i := 0) rfl
  have q_x1 := k_x.cell (i := 1) rfl
  have q_x2 := k_x.cell (i := 2) rfl
  have q_x3 := k_x.cell (i := 3) rfl
  have q_x4 := k_x.cell (i := 4) rfl
  have q_x5 := k_x.cell (i := 5) rfl
  have q_x6 := k_x.cell (i := 6) rfl
  have q_x7 := k_x.cell (i := 7) rfl
  have q_xf := k_x.free
  go_upto_region 4 with fail
  clear q_x0 q_x1 q_x2 q_x3 q_x4 q_x5 q_x6 q_x7 q_xf
  obtain ⟨W6, hW6, bW6, sW6, k2_R, k2_t, k2_x⟩ : ∃ xW, (W5.setCell ⟨W2.heap.size, 0, none⟩ (.string ⟨nm.toArray⟩)) = xW ∧ Kp (onlyB rb) w xW ∧ W5.heap.size ≤ xW.heap.size ∧ Blk xW (rb) 57 [.slice p Ls.length cap, .int .i64 (j2 : Nat), .int .i64 (s2.err : Nat), .int .i64 (s2.pos : Nat), .int .i64 (N : Nat)] ∧ Blk xW (w.heap.size) 44 [.string ⟨#[]⟩, .int .i64 0, .int .i64 0, .int .i64 0, .int .i64 0, .int .i64 0, .slice none 0 0, .int .i64 0] ∧ Blk xW (W2.heap.size) 44 [.string ⟨nm.toArray⟩, .int .i64 0, .int .i64 0, .int .i64 0, .int .i64 0, .int .i64 0, .slice none 0 0, .int .i64 (at_ : Nat)] := ⟨_, rfl, (Kp.s1 bW5 (Or.inr (by omega))), by simp only [World.setCell, World.size_alloc, Array.size_modify, Nat.le_refl], (Blk.o1 k_R (by omega)), (Blk.o1 k_t (by omega)), (Blk.cast (Blk.set k_x 0 _) rfl)⟩
  rw [hW6]
  clear hW6 k_R k_t k_x
  have k_R := k2_R
  have k_t := k2_t
  have k_x := k2_x
  clear k2_R k2_t k2_x
  go_wp2_with fail
  refine (dmust_c wAt B N Ls p cap hL rb s2 j2 HI2.out hi2 W6 (Below.kp HB.out hrb bW6) hrb k_R N3.out).mono ?_; rintro e W7 ⟨rfl, ⟨j3, hr, hl_, hi3⟩, hb⟩
  have sW7 := Nat.le_trans sW6 hb.size
  have bW7 := (bW6).trans hb
  replace k_R := hr
  replace k_t := Blk.kept k_t hb (by show ¬ _ = rb; omega)
  replace k_x := Blk.kept k_x hb (by show ¬ _ = rb; omega)
  clear hb hr bW6 sW6
  have HI3 := Lib.hid hl_
  clear hl_ HI2 hi2
  go_wp2_with fail
  refine (dnum_c B N Ls p cap hL rb s3 j3 HI3.out hi3 W7 (Below.kp HB.out hrb bW7) hrb k_R N4.out).mono ?_; rintro e W8 ⟨rfl, ⟨j4, hr, hl_, hi4⟩, hb⟩
  have sW8 := Nat.le_trans sW7 hb.size
  have bW8 := (bW7).trans hb
  replace k_R := hr
  replace k_t := Blk.kept k_t hb (by show ¬ _ = rb; omega)
  replace k_x := Blk.kept k_x hb (by show ¬ _ = rb; omega)
  clear hb hr bW7 sW7
  have HI4 := Lib.hid hl_
  clear hl_ HI3 hi3
  have q_x0 := k_x.cell (i := 0) rfl
  have q_x1 := k_x.cell (i := 1) rfl
  have q_x2 := k_x.cell (i := 2) rfl
  have q_x3 := k_x.cell (i := 3) rfl
  have q_x4 := k_x.cell (i := 4) rfl
  have q_x5 := k_x.cell (i := 5) rfl
  have q_x6 := k_x.cell (i := 6) rfl
  have q_x7 := k_x.cell (i := 7) rfl
  have q_xf := k_x.free
  go_upto_region 6 with fail
  clear q_x0 q_x1 q_x2 q_x3 q_x4 q_x5 q_x6 q_x7 q_xf
  obtain ⟨W9, hW9, bW9, sW9, k2_R, k2_t, k2_x⟩ : ∃ xW, (W8.setCell ⟨W2.heap.size, 1, none⟩ (.int .i64 (x : Nat))) = xW ∧ Kp (onlyB rb) w xW ∧ W8.heap.size ≤ xW.heap.size ∧ Blk xW (rb) 57 [.slice p Ls.length cap, .int .i64 (j4 : Nat), .int .i64 (s4.err : Nat), .int .i64 (s4.pos : Nat), .int .i64 (N : Nat)] ∧ Blk xW (w.heap.size) 44 [.string ⟨#[]⟩, .int .i64 0, .int .i64 0, .int .i64 0, .int .i64 0, .int .i64 0, .slice none 0 0, .int .i64 0] ∧ Blk xW (W2.heap.size) 44 [.string ⟨nm.toArray⟩, .int .i64 (x : Nat), .int .i64 0, .int .i64 0, .int .i64 0, .int .i64 0, .slice none 0 0, .int .i64 (at_ : Nat)] := ⟨_, rfl, (Kp.s1 bW8 (Or.inr (by omega))), by simp only [World.setCell, World.size_alloc, Array.size_modify, Nat.le_refl], (Blk.o1 k_R (by omega)), (Blk.o1 k_t (by omega)), (Blk.cast (Blk.set k_x 1 _) rfl)⟩
  rw [hW9]
  clear hW9 k_R k_t k_x
  have k_R := k2_R
  have k_t := k2_t
  have k_x := k2_x
  clear k2_R k2_t k2_x
  go_wp2_with fail
  refine (dnum_c B N Ls p cap hL rb s4 j4 HI4.out hi4 W9 (Below.kp HB.out hrb bW9) hrb k_R N5.out).mono ?_; rintro e W10 ⟨rfl, ⟨j5, hr, hl_, hi5⟩, hb⟩
  have sW10 := Nat.le_trans sW9 hb.size
  have bW10 := (bW9).trans hb
  replace k_R := hr
  replace k_t := Blk.kept k_t hb (by show ¬ _ = rb; omega)
  replace k_x := Blk.kept k_x hb (by show ¬ _ = rb; omega)
  clear hb hr bW9 sW9
  have HI5 := Lib.hid hl_
  clear hl_ HI4 hi4
  have q_x0 := k_x.cell (i := 0) rfl
  have q_x1 := k_x.cell (i := 1) rfl
  have q_x2 := k_x.cell (i := 2) rfl
  have q_x3 := k_x.cell (i := 3) rfl
  have q_x4 := k_x.cell (i := 4) rfl
  have q_x5 := k_x.cell (i := 5) rfl
  have q_x6 := k_x.cell (i := 6) rfl
  have q_x7 := k_x.cell (i := 7) rfl
  have q_xf := k_x.free
  go_upto_region 7 with fail
  clear q_x0 q_x1 q_x2 q_x3 q_x4 q_x5 q_x6 q_x7 q_xf
  obtain ⟨W11, hW11, bW11, sW11, k2_R, k2_t, k2_x⟩ : ∃ xW, (W10.setCell ⟨W2.heap.size, 2, none⟩ (.int .i64 (yy : Nat))) = xW ∧ Kp (onlyB rb) w xW ∧ W10.heap.size ≤ xW.heap.size ∧ Blk xW (rb) 57 [.slice p Ls.length cap, .int .i64 (j5 : Nat), .int .i64 (s5.err : Nat), .int .i64 (s5.pos : Nat), .int .i64 (N : Nat)] ∧ Blk xW (w.heap.size) 44 [.string ⟨#[]⟩, .int .i64 0, .int .i64 0, .int .i64 0, .int .i64 0, .int .i64 0, .slice none 0 0, .int .i64 0] ∧ Blk xW (W2.heap.size) 44 [.string ⟨nm.toArray⟩, .int .i64 (x : Nat), .int .i64 (yy : Nat), .int .i64 0, .int .i64 0, .int .i64 0, .slice none 0 0, .int .i64 (at_ : Nat)] := ⟨_, rfl, (Kp.s1 bW10 (Or.inr (by omega))), by simp only [World.setCell, World.size_alloc, Array.size_modify, Nat.le_refl], (Blk.o1 k_R (by omega)), (Blk.o1 k_t (by omega)), (Blk.cast (Blk.set k_x 2 _) rfl)⟩
  rw [hW11]
  clear hW11 k_R k_t k_x
  have k_R := k2_R
  have k_t := k2_t
  have k_x := k2_x
  clear k2_R k2_t k2_x
  go_wp2_with fail
  refine (dmust_c wSeats B N Ls p cap hL rb s5 j5 HI5.out hi5 W11 (Below.kp HB.out hrb bW11) hrb k_R N6.out).mono ?_; rintro e W12 ⟨rfl, ⟨j6, hr, hl_, hi6⟩, hb⟩
  have sW12 := Nat.le_trans sW11 hb.size
  have bW12 := (bW11).trans hb
  replace k_R := hr
  replace k_t := Blk.kept k_t hb (by show ¬ _ = rb; omega)
  replace k_x := Blk.kept k_x hb (by show ¬ _ = rb; omega)
  clear hb hr bW11 sW11
  have HI6 := Lib.hid hl_
  clear hl_ HI5 hi5
  go_wp2_with fail
  refine (dnum_c B N Ls p cap hL rb s6 j6 HI6.out hi6 W12 (Below.kp HB.out hrb bW12) hrb k_R N7.out).mono ?_; rintro e W13 ⟨rfl, ⟨j7, hr, hl_, hi7⟩, hb⟩
  have sW13 := Nat.le_trans sW12 hb.size
  have bW13 := (bW12).trans hb
  replace k_R := hr
  replace k_t := Blk.kept k_t hb (by show ¬ _ = rb; omega)
  replace k_x := Blk.kept k_x hb (by show ¬ _ = rb; omega)
  clear hb hr bW12 sW12
  have HI7 := Lib.hid hl_
  clear hl_ HI6 hi6
  have q_x0 := k_x.cell (i := 0) rfl
  have q_x1 := k_x.cell (i := 1) rfl
  have q_x2 := k_x.cell (i := 2) rfl
  have q_x3 := k_x.cell (i := 3) rfl
  have q_x4 := k_x.cell (i := 4) rfl
  have q_x5 := k_x.cell (i := 5) rfl
  have q_x6 := k_x.cell (i := 6) rfl
  have q_x7 := k_x.cell (i := 7) rfl
  have q_xf := k_x.free
  go_upto_region 9 with fail
  clear q_x0 q_x1 q_x2 q_x3 q_x4 q_x5 q_x6 q_x7 q_xf
  obtain ⟨W14, hW14, bW14, sW14, k2_R, k2_t, k2_x⟩ : ∃ xW, (W13.setCell ⟨W2.heap.size, 3, none⟩ (.int .i64 (fr : Nat))) = xW ∧ Kp (onlyB rb) w xW ∧ W13.heap.size ≤ xW.heap.size ∧ Blk xW (rb) 57 [.slice p Ls.length cap, .int .i64 (j7 : Nat), .int .i64 (s7.err : Nat), .int .i64 (s7.pos : Nat), .int .i64 (N : Nat)] ∧ Blk xW (w.heap.size) 44 [.string ⟨#[]⟩, .int .i64 0, .int .i64 0, .int .i64 0, .int .i64 0, .int .i64 0, .slice none 0 0, .int .i64 0] ∧ Blk xW (W2.heap.size) 44 [.string ⟨nm.toArray⟩, .int .i64 (x : Nat), .int .i64 (yy : Nat), .int .i64 (fr : Nat), .int .i64 0, .int .i64 0, .slice none 0 0, .int .i64 (at_ : Nat)] := ⟨_, rfl, (Kp.s1 bW13 (Or.inr (by omega))), by simp only [World.setCell, World.size_alloc, Array.size_modify, Nat.le_refl], (Blk.o1 k_R (by omega)), (Blk.o1 k_t (by omega)), (Blk.cast (Blk.set k_x 3 _) rfl)⟩
  rw [hW14]
  clear hW14 k_R k_t k_x
  have k_R := k2_R
  have k_t := k2_t
  have k_x := k2_x
  clear k2_R k2_t k2_x
  go_wp2_with fail
  refine (dmust_c wTo B N Ls p cap hL rb s7 j7 HI7.out hi7 W14 (Below.kp HB.out hrb bW14) hrb k_R N8.out).mono ?_; rintro e W15 ⟨rfl, ⟨j8, hr, hl_, hi8⟩, hb⟩
  have sW15 := Nat.le_trans sW14 hb.size
  have bW15 := (bW14).trans hb
  replace k_R := hr
  replace k_t := Blk.kept k_t hb (by show ¬ _ = rb; omega)
  replace k_x := Blk.kept k_x hb (by show ¬ _ = rb; omega)
  clear hb hr bW14 sW14
  have HI8 := Lib.hid hl_
  clear hl_ HI7 hi7
  go_wp2_with fail
  refine (dnum_c B N Ls p cap hL rb s8 j8 HI8.out hi8 W15 (Below.kp HB.out hrb bW15) hrb k_R N9.out).mono ?_; rintro e W16 ⟨rfl, ⟨j9, hr, hl_, hi9⟩, hb⟩
  have sW16 := Nat.le_trans sW15 hb.size
  have bW16 := (bW15).trans hb
  replace k_R := hr
  replace k_t := Blk.kept k_t hb (by show ¬ _ = rb; omega)
  replace k_x := Blk.kept k_x hb (by show ¬ _ = rb; omega)
  clear hb hr bW15 sW15
  have HI9 := Lib.hid hl_
  clear hl_ HI8 hi8
  have q_x0 := k_x.cell (i := 0) rfl
  have q_x1 := k_x.cell (i := 1) rfl
  have q_x2 := k_x.cell (i := 2) rfl
  have q_x3 := k_x.cell (i := 3) rfl
  have q_x4 := k_x.cell (i := 4) rfl
  have q_x5 := k_x.cell (i := 5) rfl
  have q_x6 := k_x.cell (i := 6) rfl
  have q_x7 := k_x.cell (i := 7) rfl
  have q_xf := k_x.free
  go_upto_region 11 with fail
  clear q_x0 q_x1 q_x2 q_x3 q_x4 q_x5 q_x6 q_x7 q_xf
  obtain ⟨W17, hW17, bW17, sW17, k2_R, k2_t, k2_x⟩ : ∃ xW, (W16.setCell ⟨W2.heap.size, 4, none⟩ (.int .i64 (tu : Nat))) = xW ∧ Kp (onlyB rb) w xW ∧ W16.heap.size ≤ xW.heap.size ∧ Blk xW (rb) 57 [.slice p Ls.length cap, .int .i64 (j9 : Nat), .int .i64 (s9.err : Nat), .int .i64 (s9.pos : Nat), .int .i64 (N : Nat)] ∧ Blk xW (w.heap.size) 44 [.string ⟨#[]⟩, .int .i64 0, .int .i64 0, .int .i64 0, .int .i64 0, .int .i64 0, .slice none 0 0, .int .i64 0] ∧ Blk xW (W2.heap.size) 44 [.string ⟨nm.toArray⟩, .int .i64 (x : Nat), .int .i64 (yy : Nat), .int .i64 (fr : Nat), .int .i64 (tu : Nat), .int .i64 0, .slice none 0 0, .int .i64 (at_ : Nat)] := ⟨_, rfl, (Kp.s1 bW16 (Or.inr (by omega))), by simp only [World.setCell, World.size_alloc, Array.size_modify, Nat.le_refl], (Blk.o1 k_R (by omega)), (Blk.o1 k_t (by omega)), (Blk.cast (Blk.set k_x 4 _) rfl)⟩
  rw [hW17]
  clear hW17 k_R k_t k_x
  have k_R := k2_R
  have k_t := k2_t
  have k_x := k2_x
  clear k2_R k2_t k2_x
  go_wp2_with fail
  refine (dmust_c wStep B N Ls p cap hL rb s9 j9 HI9.out hi9 W17 (Below.kp HB.out hrb bW17) hrb k_R N10.out).mono ?_; rintro e W18 ⟨rfl, ⟨j10, hr, hl_, hi10⟩, hb⟩
  have sW18 := Nat.le_trans sW17 hb.size
  have bW18 := (bW17).trans hb
  replace k_R := hr
  replace k_t := Blk.kept k_t hb (by show ¬ _ = rb; omega)
  replace k_x := Blk.kept k_x hb (by show ¬ _ = rb; omega)
  clear hb hr bW17 sW17
  have HI10 := Lib.hid hl_
  clear hl_ HI9 hi9
  go_wp2_with fail
  refine (dnum_c B N Ls p cap hL rb s10 j10 HI10.out hi10 W18 (Below.kp HB.out hrb bW18) hrb k_R N11.out).mono ?_; rintro e W19 ⟨rfl, ⟨j11, hr, hl_, hi11⟩, hb⟩
  have sW19 := Nat.le_trans sW18 hb.size
  have bW19 := (bW18).trans hb
  replace k_R := hr
  replace k_t := Blk.kept k_t hb (by show ¬ _ = rb; omega)
  replace k_x := Blk.kept k_x hb (by show ¬ _ = rb; omega)
  clear hb hr bW18 sW18
  have HI11 := Lib.hid hl_
  clear hl_ HI10 hi10
  have q_x0 := k_x.cell (i := 0) rfl
  have q_x1 := k_x.cell (i := 1) rfl
  have q_x2 := k_x.cell (i := 2) rfl
  have q_x3 := k_x.cell (i := 3) rfl
  have q_x4 := k_x.cell (i := 4) rfl
  have q_x5 := k_x.cell (i := 5) rfl
  have q_x6 := k_x.cell (i := 6) rfl
  have q_x7 := k_x.cell (i := 7) rfl
  have q_xf := k_x.free
  go_upto_region 13 with fail
  clear q_x0 q_x1 q_x2 q_x3 q_x4 q_x5 q_x6 q_x7 q_xf
  obtain ⟨W20, hW20, bW20, sW20, k2_R, k2_t, k2_x⟩ : ∃ xW, (W19.setCell ⟨W2.heap.size, 5, none⟩ (.int .i64 (sp : Nat))) = xW ∧ Kp (onlyB rb) w xW ∧ W19.heap.size ≤ xW.heap.size ∧ Blk xW (rb) 57 [.slice p Ls.length cap, .int .i64 (j11 : Nat), .int .i64 (s11.err : Nat), .int .i64 (s11.pos : Nat), .int .i64 (N : Nat)] ∧ Blk xW (w.heap.size) 44 [.string ⟨#[]⟩, .int .i64 0, .int .i64 0, .int .i64 0, .int .i64 0, .int .i64 0, .slice none 0 0, .int .i64 0] ∧ Blk xW (W2.heap.size) 44 [.string ⟨nm.toArray⟩, .int .i64 (x : Nat), .int .i64 (yy : Nat), .int .i64 (fr : Nat), .int .i64 (tu : Nat), .int .i64 (sp : Nat), .slice none 0 0, .int .i64 (at_ : Nat)] := ⟨_, rfl, (Kp.s1 bW19 (Or.inr (by omega))), by simp only [World.setCell, World.size_alloc, Array.size_modify, Nat.le_refl], (Blk.o1 k_R (by omega)), (Blk.o1 k_t (by omega)), (Blk.cast (Blk.set k_x 5 _) rfl)⟩
  rw [hW20]
  clear hW20 k_R k_t k_x
  have k_R := k2_R
  have k_t := k2_t
  have k_x := k2_x
  clear k2_R k2_t k2_x
  go_upto_region 14 with fail
  obtain ⟨W21, hW21, bW21, sW21, k2_R, k2_t, k2_x, k2_ws⟩ : ∃ xW, (W20.alloc (.cells #[.string ⟨#[103, 97, 112]⟩, .string ⟨#[119, 104, 101, 101, 108]⟩, .string ⟨#[104, 105, 100, 100, 101, 110]⟩, .string ⟨#[98, 101, 115, 105, 100, 101]⟩] 9)) = xW ∧ Kp (onlyB rb) w xW ∧ W20.heap.size + 1 ≤ xW.heap.size ∧ Blk xW (rb) 57 [.slice p Ls.length cap, .int .i64 (j11 : Nat), .int .i64 (s11.err : Nat), .int .i64 (s11.pos : Nat), .int .i64 (N : Nat)] ∧ Blk xW (w.heap.size) 44 [.string ⟨#[]⟩, .int .i64 0, .int .i64 0, .int .i64 0, .int .i64 0, .int .i64 0, .slice none 0 0, .int .i64 0] ∧ Blk xW (W2.heap.size) 44 [.string ⟨nm.toArray⟩, .int .i64 (x : Nat), .int .i64 (yy : Nat), .int .i64 (fr : Nat), .int .i64 (tu : Nat), .int .i64 (sp : Nat), .slice none 0 0, .int .i64 (at_ : Nat)] ∧ Blk xW (W20.heap.size) 9 [.string ⟨#[103, 97, 112]⟩, .string ⟨#[119, 104, 101, 101, 108]⟩, .string ⟨#[104, 105, 100, 100, 101, 110]⟩, .string ⟨#[98, 101, 115, 105, 100, 101]⟩] := ⟨_, rfl, (Kp.alloc bW20 _), by simp only [World.setCell, World.size_alloc, Array.size_modify, Nat.le_refl], (Blk.alloc k_R _), (Blk.alloc k_t _), (Blk.alloc k_x _), (Blk.new' _ _ _ (rfl))⟩
  rw [hW21]
  clear hW21 k_R k_t k_x
  have k_R := k2_R
  have k_t := k2_t
  have k_x := k2_x
  have k_ws := k2_ws
  clear k2_R k2_t k2_x k2_ws
  have hbase : w.heap.size + 1 ≤ W21.heap.size ∧ W2.heap.size < W21.heap.size ∧ W20.heap.size < W21.heap.size ∧ w.heap.size < W2.heap.size ∧ W2.heap.size < W20.heap.size := by omega
  have HBN := Lib.hid (building_nil markK W21 (fun k => W21.heap.size ≤ k ∧ (Value.slice none 0 0).ownBlock ≠ some k) W21.heap.size 46)
  have HM0 : Hid (rMany wSemi (markS N) (s11.left.length + 1) [] s11 = (ms, s12)) := N12
  go_loopw [5, 6, 7] (fun kv iv t7 wr => ∃ (ml : List MarkP) (ma : Option Addr) (mc : Nat) (sg : St) (ig f : Nat), Hid (rMany wSemi (markS N) f ml sg = (ms, s12)) ∧ Hid (sg.err = 0 → sg.left.length + 1 ≤ f) ∧ Hid (sg.left = Ls.drop ig) ∧ Hid (ig ≤ Ls.length) ∧ Hid (SaneS sg) ∧ Hid (ml.length + sg.left.length ≤ 5000 ∨ sg.err ≠ 0) ∧ Hid (Building markK wr (fun k => W21.heap.size ≤ k ∧ (Value.slice ma ml.length mc).ownBlock ≠ some k) W21.heap.size 46 (.slice ma ml.length mc) ml) ∧ Hid (Blk wr (rb) 57 [.slice p Ls.length cap, .int .i64 (ig : Nat), .int .i64 (sg.err : Nat), .int .i64 (sg.pos : Nat), .int .i64 (N : Nat)]) ∧ Hid (Blk wr (w.heap.size) 44 [.string ⟨#[]⟩, .int .i64 0, .int .i64 0, .int .i64 0, .int .i64 0, .int .i64 0, .slice none 0 0, .int .i64 0]) ∧ Hid (Blk wr (W2.heap.size) 44 [.string ⟨nm.toArray⟩, .int .i64 (x : Nat), .int .i64 (yy : Nat), .int .i64 (fr : Nat), .int .i64 (tu : Nat), .int .i64 (sp : Nat), .slice ma ml.length mc, .int .i64 (at_ : Nat)]) ∧ Hid (Blk wr (W20.heap.size) 9 [.string ⟨#[103, 97, 112]⟩, .string ⟨#[119, 104, 101, 101, 108]⟩, .string ⟨#[104, 105, 100, 100, 101, 110]⟩, .string ⟨#[98, 101, 115, 105, 100, 101]⟩]) ∧ Hid (Kp (onlyB rb) w wr) ∧ Hid (W21.heap.size ≤ wr.heap.size)) (fun _ _ _ wr => left6 Ls.length rb wr)
  case atStart => exact ⟨[], none, 0, s11, j11, s11.left.length + 1, HM0, Lib.hid (fun _ => Nat.le_refl _), HI11, Lib.hid hi11, HS11, Lib.hid (Or.inl (by rw [List.length_nil, Nat.zero_add]; exact HS11.out.2)), HBN, Lib.hid k_R, Lib.hid k_t, Lib.hid k_x, Lib.hid k_ws, Lib.hid bW21, Lib.hid (by omega)⟩
  case round =>
    clear HBN HM0 HS11 N12
    obtain ⟨ml, ma, mc, sg, ig, f, HM, HF, HIg, HIL, HSG, HLN, HMB, J_R, J_t, J_x, J_ws, Jb, Jz⟩ := hrel
    clear k_R k_t k_x k_ws bW21 sW21
    have k_R := J_R.out
    have k_t := J_t.out
    have k_x := J_x.out
    have k_ws := J_ws.out
    have bwr := Jb.out
    have swr := Jz.out
    clear J_R J_t J_x J_ws Jb Jz
    have hig := HIL.out
    have hleft := left6_of (n := Ls.length) k_R
    have HLEFT := Lib.hid hleft
    clear hleft
    by_cases h0 : sg.err = 0
    rotate_left
    · have hm := HM.out
      rw [many_err h0] at hm
      injection hm with e1 e2
      subst e1 e2
      have e0 : (((sg.err : Nat) : Int) == 0) = false := by simp [h0]
      clear h0
      have q_R0 := k_R.cell (i := 0) rfl
      have q_R1 := k_R.cell (i := 1) rfl
      have q_R2 := k_R.cell (i := 2) rfl
      have q_R3 := k_R.cell (i := 3) rfl
      have q_R4 := k_R.cell (i := 4) rfl
      have q_Rf := k_R.free
      go_upto_region 30 with fail
      clear q_R0 q_R1 q_R2 q_R3 q_R4 q_Rf
      clear e0
      have hmb := HMB.out.done (F' := fun k => W21.heap.size ≤ k) (fun k hk _ => hk.1) (fun k hk => hk)
      have HMD := Lib.hid hmb
      clear hmb
      go_wp2_with fail
      refine (dmust_c wSemi B N Ls p cap hL rb sg ig HIg.out hig wr (Below.kp HB.out hrb bwr) hrb k_R N13.out).mono ?_; rintro e W22 ⟨rfl, ⟨j12, hr, hl_, hi12⟩, hb⟩
      have sW22 := Nat.le_trans swr hb.size
      have bW22 := (bwr).trans hb
      replace k_R := hr
      replace k_t := Blk.kept k_t hb (by show ¬ _ = rb; omega)
      replace k_x := Blk.kept k_x hb (by show ¬ _ = rb; omega)
      replace k_ws := Blk.kept k_ws hb (by show ¬ _ = rb; omega)
      have kpW22 := (Kp.refl (fun k => k < W21.heap.size) wr).trans (Kp.mono hb (fun k hk => by have e : k = rb := hk; show k < _; omega))
      clear hb hr bwr swr
      have HI12 := Lib.hid hl_
      clear hl_ HIg hig
      have q_x0 := k_x.cell (i := 0) rfl
      have q_x1 := k_x.cell (i := 1) rfl
      have q_x2 := k_x.cell (i := 2) rfl
      have q_x3 := k_x.cell (i := 3) rfl
      have q_x4 := k_x.cell (i := 4) rfl
      have q_x5 := k_x.cell (i := 5) rfl
      have q_x6 := k_x.cell (i := 6) rfl
      have q_x7 := k_x.cell (i := 7) rfl
      have q_xf := k_x.free
      have q_t0 := k_t.cell (i := 0) rfl
      have q_t1 := k_t.cell (i := 1) rfl
      have q_t2 := k_t.cell (i := 2) rfl
      have q_t3 := k_t.cell (i := 3) rfl
      have q_t4 := k_t.cell (i := 4) rfl
      have q_t5 := k_t.cell (i := 5) rfl
      have q_t6 := k_t.cell (i := 6) rfl
      have q_t7 := k_t.cell (i := 7) rfl
      have q_tf := k_t.free
      go_wp2
      clear q_x0 q_x1 q_x2 q_x3 q_x4 q_x5 q_x6 q_x7 q_xf q_t0 q_t1 q_t2 q_t3 q_t4 q_t5 q_t6 q_t7 q_tf
      obtain ⟨W23, hW23, bW23, sW23, kpW23, k2_R, k2_t, k2_x, k2_ws⟩ : ∃ xW, ((((((((W22.setCell ⟨w.heap.size, 0, none⟩ (.string ⟨nm.toArray⟩)).setCell ⟨w.heap.size, 1, none⟩ (.int .i64 (x : Nat))).setCell ⟨w.heap.size, 2, none⟩ (.int .i64 (yy : Nat))).setCell ⟨w.heap.size, 3, none⟩ (.int .i64 (fr : Nat))).setCell ⟨w.heap.size, 4, none⟩ (.int .i64 (tu : Nat))).setCell ⟨w.heap.size, 5, none⟩ (.int .i64 (sp : Nat))).setCell ⟨w.heap.size, 6, none⟩ (.slice ma ml.length mc)).setCell ⟨w.heap.size, 7, none⟩ (.int .i64 (at_ : Nat))) = xW ∧ Kp (onlyB rb) w xW ∧ W22.heap.size ≤ xW.heap.size ∧ Kp (fun k => k < W21.heap.size) wr xW ∧ Blk xW (rb) 57 [.slice p Ls.length cap, .int .i64 (j12 : Nat), .int .i64 (s13.err : Nat), .int .i64 (s13.pos : Nat), .int .i64 (N : Nat)] ∧ Blk xW (w.heap.size) 44 [.string ⟨nm.toArray⟩, .int .i64 (x : Nat), .int .i64 (yy : Nat), .int .i64 (fr : Nat), .int .i64 (tu : Nat), .int .i64 (sp : Nat), .slice ma ml.length mc, .int .i64 (at_ : Nat)] ∧ Blk xW (W2.heap.size) 44 [.string ⟨nm.toArray⟩, .int .i64 (x : Nat), .int .i64 (yy : Nat), .int .i64 (fr : Nat), .int .i64 (tu : Nat), .int .i64 (sp : Nat), .slice ma ml.length mc, .int .i64 (at_ : Nat)] ∧ Blk xW (W20.heap.size) 9 [.string ⟨#[103, 97, 112]⟩, .string ⟨#[119, 104, 101, 101, 108]⟩, .string ⟨#[104, 105, 100, 100, 101, 110]⟩, .string ⟨#[98, 101, 115, 105, 100, 101]⟩] := ⟨_, rfl, (Kp.s4 (Kp.s4 bW22 (Or.inr (by omega))) (Or.inr (by omega))), by simp only [World.setCell, World.size_alloc, Array.size_modify, Nat.le_refl], (Kp.s4 (Kp.s4 kpW22 (Or.inl (show w.heap.size < W21.heap.size by omega))) (Or.inl (show w.heap.size < W21.heap.size by omega))), (Blk.o4 (Blk.o4 k_R (by omega)) (by omega)), (Blk.cast (Blk.set (Blk.set (Blk.set (Blk.set (Blk.set (Blk.set (Blk.set (Blk.set k_t 0 _) 1 _) 2 _) 3 _) 4 _) 5 _) 6 _) 7 _) rfl), (Blk.o4 (Blk.o4 k_x (by omega)) (by omega)), (Blk.o4 (Blk.o4 k_ws (by omega)) (by omega))⟩
      rw [hW23]
      clear hW23 k_R k_t k_x k_ws
      have k_R := k2_R
      have k_t := k2_t
      have k_x := k2_x
      have k_ws := k2_ws
      clear k2_R k2_t k2_x k2_ws
      exact bodyPost_ret (results_cell_mid rfl _ _ w.heap.size _ _ rfl k_t.range Tryz.underlying44 rfl (by kernel_rfl)) rfl ⟨⟨_, rfl, (HMD.out.kept (fun k hk hlt => kpW23.block k hlt (by have e : W21.heap.size ≤ k := hk; show ¬ k < _; omega))).mono (fun k (hk : W21.heap.size ≤ k) _ => by omega)⟩, ⟨j12, k_R, HI12.out, hi12⟩, bW23⟩
    have e0 : (((sg.err : Nat) : Int) == 0) = true := by simp [h0]
    obtain ⟨b1, hb1⟩ : ∃ z, rSees sg wSemi = z := ⟨_, rfl⟩
    have NB1 := Lib.hid hb1
    clear hb1
    have q_R0 := k_R.cell (i := 0) rfl
    have q_R1 := k_R.cell (i := 1) rfl
    have q_R2 := k_R.cell (i := 2) rfl
    have q_R3 := k_R.cell (i := 3) rfl
    have q_R4 := k_R.cell (i := 4) rfl
    have q_Rf := k_R.free
    have hsees := dsees_any wSemi B N Ls p cap hL rb sg ig HIg.out hig wr (Below.kp HB.out hrb bwr) hrb k_R
    rw [NB1.out] at hsees
    have HSEES := Lib.hid hsees
    clear hsees
    go_wp2_with fail
    refine (HSEES.out).mono ?_; rintro e W22 ⟨rfl, hb0⟩
    clear q_R0 q_R1 q_R2 q_R3 q_R4 q_Rf
    have hb : Kp (fun _ => False) wr W22 := Kp.of_below hb0
    clear hb0
    have sW22 := Nat.le_trans swr hb.size
    have bW22 := (bwr).trans (Kp.mono hb (fun _ h => h.elim))
    replace k_R := Blk.kept k_R hb (fun h => h)
    replace k_t := Blk.kept k_t hb (fun h => h)
    replace k_x := Blk.kept k_x hb (fun h => h)
    replace k_ws := Blk.kept k_ws hb (fun h => h)
    have kpW22 := (Kp.refl (fun k => k < W21.heap.size) wr).trans (Kp.mono hb (fun _ h => h.elim))
    clear hb bwr swr
    clear e0 HSEES
    have HMB2 := Lib.hid (HMB.out.shift6 kpW22)
    clear kpW22 HMB
    cases b1
    rotate_left
    · have hm := HM.out
      rw [many_end NB1.out] at hm
      injection hm with e1 e2
      subst e1 e2
      go_upto_region 30 with fail
      have hmb := HMB2.out.done (F' := fun k => W21.heap.size ≤ k) (fun k hk _ => hk.1) (fun k hk => hk)
      have HMD := Lib.hid hmb
      clear hmb
      go_wp2_with fail
      refine (dmust_c wSemi B N Ls p cap hL rb sg ig HIg.out hig W22 (Below.kp HB.out hrb bW22) hrb k_R N13.out).mono ?_; rintro e W23 ⟨rfl, ⟨j13, hr, hl_, hi13⟩, hb⟩
      have sW23 := Nat.le_trans sW22 hb.size
      have bW23 := (bW22).trans hb
      replace k_R := hr
      replace k_t := Blk.kept k_t hb (by show ¬ _ = rb; omega)
      replace k_x := Blk.kept k_x hb (by show ¬ _ = rb; omega)
      replace k_ws := Blk.kept k_ws hb (by show ¬ _ = rb; omega)
      have kpW23 := (Kp.refl (fun k => k < W21.heap.size) W22).trans (Kp.mono hb (fun k hk => by have e : k = rb := hk; show k < _; omega))
      clear hb hr bW22 sW22
      have HI13 := Lib.hid hl_
      clear hl_ HIg hig
      have q_x0 := k_x.cell (i := 0) rfl
      have q_x1 := k_x.cell (i := 1) rfl
      have q_x2 := k_x.cell (i := 2) rfl
      have q_x3 := k_x.cell (i := 3) rfl
      have q_x4 := k_x.cell (i := 4) rfl
      have q_x5 := k_x.cell (i := 5) rfl
      have q_x6 := k_x.cell (i := 6) rfl
      have q_x7 := k_x.cell (i := 7) rfl
      have q_xf := k_x.free
      have q_t0 := k_t.cell (i := 0) rfl
      have q_t1 := k_t.cell (i := 1) rfl
      have q_t2 := k_t.cell (i := 2) rfl
      have q_t3 := k_t.cell (i := 3) rfl
      have q_t4 := k_t.cell (i := 4) rfl
      have q_t5 := k_t.cell (i := 5) rfl
      have q_t6 := k_t.cell (i := 6) rfl
      have q_t7 := k_t.cell (i := 7) rfl
      have q_tf := k_t.free
      go_wp2
      clear q_x0 q_x1 q_x2 q_x3 q_x4 q_x5 q_x6 q_x7 q_xf q_t0 q_t1 q_t2 q_t3 q_t4 q_t5 q_t6 q_t7 q_tf
      obtain ⟨W24, hW24, bW24, sW24, kpW24, k2_R, k2_t, k2_x, k2_ws⟩ : ∃ xW, ((((((((W23.setCell ⟨w.heap.size, 0, none⟩ (.string ⟨nm.toArray⟩)).setCell ⟨w.heap.size, 1, none⟩ (.int .i64 (x : Nat))).setCell ⟨w.heap.size, 2, none⟩ (.int .i64 (yy : Nat))).setCell ⟨w.heap.size, 3, none⟩ (.int .i64 (fr : Nat))).setCell ⟨w.heap.size, 4, none⟩ (.int .i64 (tu : Nat))).setCell ⟨w.heap.size, 5, none⟩ (.int .i64 (sp : Nat))).setCell ⟨w.heap.size, 6, none⟩ (.slice ma ml.length mc)).setCell ⟨w.heap.size, 7, none⟩ (.int .i64 (at_ : Nat))) = xW ∧ Kp (onlyB rb) w xW ∧ W23.heap.size ≤ xW.heap.size ∧ Kp (fun k => k < W21.heap.size) W22 xW ∧ Blk xW (rb) 57 [.slice p Ls.length cap, .int .i64 (j13 : Nat), .int .i64 (s13.err : Nat), .int .i64 (s13.pos : Nat), .int .i64 (N : Nat)] ∧ Blk xW (w.heap.size) 44 [.string ⟨nm.toArray⟩, .int .i64 (x : Nat), .int .i64 (yy : Nat), .int .i64 (fr : Nat), .int .i64 (tu : Nat), .int .i64 (sp : Nat), .slice ma ml.length mc, .int .i64 (at_ : Nat)] ∧ Blk xW (W2.heap.size) 44 [.string ⟨nm.toArray⟩, .int .i64 (x : Nat), .int .i64 (yy : Nat), .int .i64 (fr : Nat), .int .i64 (tu : Nat), .int .i64 (sp : Nat), .slice ma ml.length mc, .int .i64 (at_ : Nat)] ∧ Blk xW (W20.heap.size) 9 [.string ⟨#[103, 97, 112]⟩, .string ⟨#[119, 104, 101, 101, 108]⟩, .string ⟨#[104, 105, 100, 100, 101, 110]⟩, .string ⟨#[98, 101, 115, 105, 100, 101]⟩] := ⟨_, rfl, (Kp.s4 (Kp.s4 bW23 (Or.inr (by omega))) (Or.inr (by omega))), by simp only [World.setCell, World.size_alloc, Array.size_modify, Nat.le_refl], (Kp.s4 (Kp.s4 kpW23 (Or.inl (show w.heap.size < W21.heap.size by omega))) (Or.inl (show w.heap.size < W21.heap.size by omega))), (Blk.o4 (Blk.o4 k_R (by omega)) (by omega)), (Blk.cast (Blk.set (Blk.set (Blk.set (Blk.set (Blk.set (Blk.set (Blk.set (Blk.set k_t 0 _) 1 _) 2 _) 3 _) 4 _) 5 _) 6 _) 7 _) rfl), (Blk.o4 (Blk.o4 k_x (by omega)) (by omega)), (Blk.o4 (Blk.o4 k_ws (by omega)) (by omega))⟩
      rw [hW24]
      clear hW24 k_R k_t k_x k_ws
      have k_R := k2_R
      have k_t := k2_t
      have k_x := k2_x
      have k_ws := k2_ws
      clear k2_R k2_t k2_x k2_ws
      exact bodyPost_ret (results_cell_mid rfl _ _ w.heap.size _ _ rfl k_t.range Tryz.underlying44 rfl (by kernel_rfl)) rfl ⟨⟨_, rfl, (HMD.out.kept (fun k hk hlt => kpW24.block k hlt (by have e : W21.heap.size ≤ k := hk; show ¬ k < _; omega))).mono (fun k (hk : W21.heap.size ≤ k) _ => by omega)⟩, ⟨j13, k_R, HI13.out, hi13⟩, bW24⟩
    obtain ⟨g, rfl⟩ : ∃ z, f = z + 1 := ⟨f - 1, by have := HF.out h0; omega⟩
    obtain ⟨⟨a, s14⟩, hq⟩ : ∃ z, markS N sg = z := ⟨_, rfl⟩
    have hm := HM.out
    rw [many_step h0 NB1.out hq] at hm
    have HM2 := Lib.hid hm
    clear hm HM
    have HS14 : Hid (SaneS s14) := Lib.hid (part_sane mark_m HSG.out hq)
    have HPL : Hid (s14.err = 0 → s14.left.length < sg.left.length) := Lib.hid (part_less eats_mark mark_m HSG.out h0 hq)
    have HNL : Hid (ml.length + sg.left.length ≤ 5000) := Lib.hid (HLN.out.resolve_right (fun k => k h0))
    have HF2 := Lib.hid (HF.out h0)
    have HQ := Lib.hid hq; have H0 := Lib.hid h0
    clear hq h0 HLN HF
    go_upto_region 17 with fail
    go_loopw [5, 6] (fun kv iv wr => ∃ k : Nat, iv = .int .i64 k ∧ k ≤ 4 ∧ kv = .int .i64 (upTo markWords sg k : Nat) ∧ Hid (Building markK wr (fun k => W21.heap.size ≤ k ∧ (Value.slice ma ml.length mc).ownBlock ≠ some k) W21.heap.size 46 (.slice ma ml.length mc) ml) ∧ Hid (Blk wr (rb) 57 [.slice p Ls.length cap, .int .i64 (ig : Nat), .int .i64 (sg.err : Nat), .int .i64 (sg.pos : Nat), .int .i64 (N : Nat)]) ∧ Hid (Blk wr (w.heap.size) 44 [.string ⟨#[]⟩, .int .i64 0, .int .i64 0, .int .i64 0, .int .i64 0, .int .i64 0, .slice none 0 0, .int .i64 0]) ∧ Hid (Blk wr (W2.heap.size) 44 [.string ⟨nm.toArray⟩, .int .i64 (x : Nat), .int .i64 (yy : Nat), .int .i64 (fr : Nat), .int .i64 (tu : Nat), .int .i64 (sp : Nat), .slice ma ml.length mc, .int .i64 (at_ : Nat)]) ∧ Hid (Blk wr (W20.heap.size) 9 [.string ⟨#[103, 97, 112]⟩, .string ⟨#[119, 104, 101, 101, 108]⟩, .string ⟨#[104, 105, 100, 100, 101, 110]⟩, .string ⟨#[98, 101, 115, 105, 100, 101]⟩]) ∧ Hid (Kp (onlyB rb) w wr) ∧ Hid (W21.heap.size ≤ wr.heap.size)) (fun _ iv _ => 4 - (intOf iv).toNat)
    case atStart => exact ⟨0, rfl, Nat.zero_le _, rfl, HMB2, Lib.hid k_R, Lib.hid k_t, Lib.hid k_x, Lib.hid k_ws, Lib.hid bW22, Lib.hid (by omega)⟩
    case round =>
      clear HMB2
      obtain ⟨k, rfl, hk, rfl, HMB3, J_R, J_t, J_x, J_ws, Jb, Jz⟩ := hrel
      obtain ⟨w3, hw3⟩ : ∃ z, z = wr := ⟨_, rfl⟩
      subst hw3
      clear k_R k_t k_x k_ws bW22 sW22
      have k_R := J_R.out
      have k_t := J_t.out
      have k_x := J_x.out
      have k_ws := J_ws.out
      have bw3 := Jb.out
      have sw3 := Jz.out
      clear J_R J_t J_x J_ws Jb Jz
      by_cases hk6 : k < 4
      · have hd : decide ((k : Int) < 4) = true := by simp; omega
        have hki : (0 : Int) ≤ k ∧ (k : Int) < 4 := by omega
        have HWK : Hid (([.string ⟨#[103, 97, 112]⟩, .string ⟨#[119, 104, 101, 101, 108]⟩, .string ⟨#[104, 105, 100, 100, 101, 110]⟩, .string ⟨#[98, 101, 115, 105, 100, 101]⟩] : List Value)[k]? = some (.string ⟨(markWords.getD k []).toArray⟩)) := Lib.hid (by match k, hk6 with | 0, _ => rfl | 1, _ => rfl | 2, _ => rfl | 3, _ => rfl)
        obtain ⟨bb, hbb⟩ : ∃ z, rSees sg (markWords.getD k []) = z := ⟨_, rfl⟩
        have hup : upTo markWords sg (k + 1) = if bb = true then k + 1 else upTo markWords sg k := by rw [← hbb]; rfl
        have hws := k_ws.cell (i := k) HWK.out
        have hsees := dsees_any (markWords.getD k []) B N Ls p cap hL rb sg ig HIg.out hig w3 (Below.kp HB.out hrb bw3) hrb k_R
        rw [hbb] at hsees
        have HSEES := Lib.hid hsees; have HUP := Lib.hid hup
        clear hsees hbb hup
        go_wp2_with fail
        refine (HSEES.out).mono ?_; rintro e W23 ⟨rfl, hb0⟩
        have hb : Kp (fun _ => False) w3 W23 := Kp.of_below hb0
        clear hb0
        have sW23 := Nat.le_trans sw3 hb.size
        have bW23 := (bw3).trans (Kp.mono hb (fun _ h => h.elim))
        replace k_R := Blk.kept k_R hb (fun h => h)
        replace k_t := Blk.kept k_t hb (fun h => h)
        replace k_x := Blk.kept k_x hb (fun h => h)
        replace k_ws := Blk.kept k_ws hb (fun h => h)
        have kpW23 := (Kp.refl (fun k => k < W21.heap.size) w3).trans (Kp.mono hb (fun _ h => h.elim))
        clear hb bw3 sw3
        have HMB4 := Lib.hid (HMB3.out.shift6 kpW23)
        clear kpW23 HMB3 hws HSEES
        cases bb
        · go_wp2
          refine ⟨⟨k + 1, by go_num, by omega, by rw [HUP.out]; rfl, HMB4, Lib.hid k_R, Lib.hid k_t, Lib.hid k_x, Lib.hid k_ws, Lib.hid bW23, Lib.hid (by omega)⟩, ?_⟩
          simp [intOf]; omega
        · go_wp2
          refine ⟨⟨k + 1, by go_num, by omega, by rw [HUP.out]; rfl, HMB4, Lib.hid k_R, Lib.hid k_t, Lib.hid k_x, Lib.hid k_ws, Lib.hid bW23, Lib.hid (by omega)⟩, ?_⟩
          simp [intOf]; omega
      obtain rfl : k = 4 := by omega
      have hd : decide (((4 : Nat) : Int) < 4) = false := by decide
      obtain ⟨kd, hkd⟩ : ∃ z, upTo markWords sg 4 = z := ⟨_, rfl⟩
      rw [hkd]
      have hq := HQ.out
      unfold markS at hq
      rw [hkd] at hq
      by_cases o0 : kd = 0
      · subst o0
        rw [if_pos rfl] at hq
        injection hq with e1 e2
        subst e1
        have HF7 := Lib.hid e2
        clear e2
        have hb14 : s14.err ≠ 0 := by rw [← HF7.out]; exact rFail_bad sg
        have hm := HM2.out
        rw [many_err hb14, List.append_nil] at hm
        injection hm with e1 e2
        subst e1 e2
        have h13 := N13.out
        rw [must_bad hb14] at h13
        subst h13
        have e0 : ((0 : Int) == 0) = true := rfl
        clear hb14
        have hmb := HMB3.out.done (F' := fun k => W21.heap.size ≤ k) (fun k hk _ => hk.1) (fun k hk => hk)
        have HMD := Lib.hid hmb
        clear hmb HMB3
        go_wp2_with fail
        refine (dfail_any B N Ls p cap hL rb sg ig HIg.out hig w3 (Below.kp HB.out hrb bw3) hrb k_R).mono ?_; rintro e W23 ⟨rfl, hr, hl_, hb⟩
        have sW23 := Nat.le_trans sw3 hb.size
        have bW23 := (bw3).trans hb
        replace k_R := hr
        replace k_t := Blk.kept k_t hb (by show ¬ _ = rb; omega)
        replace k_x := Blk.kept k_x hb (by show ¬ _ = rb; omega)
        replace k_ws := Blk.kept k_ws hb (by show ¬ _ = rb; omega)
        have kpW23 := (Kp.refl (fun k => k < W21.heap.size) w3).trans (Kp.mono hb (fun k hk => by have e : k = rb := hk; show k < _; omega))
        clear hb hr bw3 sw3
        rw [HF7.out] at hl_ k_R
        have HL7 := Lib.hid hl_
        clear hl_
        have q_x0 := k_x.cell (i := 0) rfl
        have q_x1 := k_x.cell (i := 1) rfl
        have q_x2 := k_x.cell (i := 2) rfl
        have q_x3 := k_x.cell (i := 3) rfl
        have q_x4 := k_x.cell (i := 4) rfl
        have q_x5 := k_x.cell (i := 5) rfl
        have q_x6 := k_x.cell (i := 6) rfl
        have q_x7 := k_x.cell (i := 7) rfl
        have q_xf := k_x.free
        have q_t0 := k_t.cell (i := 0) rfl
        have q_t1 := k_t.cell (i := 1) rfl
        have q_t2 := k_t.cell (i := 2) rfl
        have q_t3 := k_t.cell (i := 3) rfl
        have q_t4 := k_t.cell (i := 4) rfl
        have q_t5 := k_t.cell (i := 5) rfl
        have q_t6 := k_t.cell (i := 6) rfl
        have q_t7 := k_t.cell (i := 7) rfl
        have q_tf := k_t.free
        go_wp2
        clear q_x0 q_x1 q_x2 q_x3 q_x4 q_x5 q_x6 q_x7 q_xf q_t0 q_t1 q_t2 q_t3 q_t4 q_t5 q_t6 q_t7 q_tf
        obtain ⟨W24, hW24, bW24, sW24, kpW24, k2_R, k2_t, k2_x, k2_ws⟩ : ∃ xW, ((((((((W23.setCell ⟨w.heap.size, 0, none⟩ (.string ⟨nm.toArray⟩)).setCell ⟨w.heap.size, 1, none⟩ (.int .i64 (x : Nat))).setCell ⟨w.heap.size, 2, none⟩ (.int .i64 (yy : Nat))).setCell ⟨w.heap.size, 3, none⟩ (.int .i64 (fr : Nat))).setCell ⟨w.heap.size, 4, none⟩ (.int .i64 (tu : Nat))).setCell ⟨w.heap.size, 5, none⟩ (.int .i64 (sp : Nat))).setCell ⟨w.heap.size, 6, none⟩ (.slice ma ml.length mc)).setCell ⟨w.heap.size, 7, none⟩ (.int .i64 (at_ : Nat))) = xW ∧ Kp (onlyB rb) w xW ∧ W23.heap.size ≤ xW.heap.size ∧ Kp (fun k => k < W21.heap.size) w3 xW ∧ Blk xW (rb) 57 [.slice p Ls.length cap, .int .i64 (ig : Nat), .int .i64 (s14.err : Nat), .int .i64 (s14.pos : Nat), .int .i64 (N : Nat)] ∧ Blk xW (w.heap.size) 44 [.string ⟨nm.toArray⟩, .int .i64 (x : Nat), .int .i64 (yy : Nat), .int .i64 (fr : Nat), .int .i64 (tu : Nat), .int .i64 (sp : Nat), .slice ma ml.length mc, .int .i64 (at_ : Nat)] ∧ Blk xW (W2.heap.size) 44 [.string ⟨nm.toArray⟩, .int .i64 (x : Nat), .int .i64 (yy : Nat), .int .i64 (fr : Nat), .int .i64 (tu : Nat), .int .i64 (sp : Nat), .slice ma ml.length mc, .int .i64 (at_ : Nat)] ∧ Blk xW (W20.heap.size) 9 [.string ⟨#[103, 97, 112]⟩, .string ⟨#[119, 104, 101, 101, 108]⟩, .string ⟨#[104, 105, 100, 100, 101, 110]⟩, .string ⟨#[98, 101, 115, 105, 100, 101]⟩] := ⟨_, rfl, (Kp.s4 (Kp.s4 bW23 (Or.inr (by omega))) (Or.inr (by omega))), by simp only [World.setCell, World.size_alloc, Array.size_modify, Nat.le_refl], (Kp.s4 (Kp.s4 kpW23 (Or.inl (show w.heap.size < W21.heap.size by omega))) (Or.inl (show w.heap.size < W21.heap.size by omega))), (Blk.o4 (Blk.o4 k_R (by omega)) (by omega)), (Blk.cast (Blk.set (Blk.set (Blk.set (Blk.set (Blk.set (Blk.set (Blk.set (Blk.set k_t 0 _) 1 _) 2 _) 3 _) 4 _) 5 _) 6 _) 7 _) rfl), (Blk.o4 (Blk.o4 k_x (by omega)) (by omega)), (Blk.o4 (Blk.o4 k_ws (by omega)) (by omega))⟩
        rw [hW24]
        clear hW24 k_R k_t k_x k_ws
        have k_R := k2_R
        have k_t := k2_t
        have k_x := k2_x
        have k_ws := k2_ws
        clear k2_R k2_t k2_x k2_ws
        exact bodyPost_ret (results_cell_mid rfl _ _ w.heap.size _ _ rfl k_t.range Tryz.underlying44 rfl (by kernel_rfl)) rfl ⟨⟨_, rfl, (HMD.out.kept (fun k hk hlt => kpW24.block k hlt (by have e : W21.heap.size ≤ k := hk; show ¬ k < _; omega))).mono (fun k (hk : W21.heap.size ≤ k) _ => by omega)⟩, ⟨ig, k_R, HL7.out, hig⟩, bW24⟩
      rw [if_neg o0] at hq
      obtain ⟨tt, rr, hlt_⟩ : ∃ t r, sg.left = t :: r := by
        rcases upTo_at markWords sg 4 with e | ⟨i, _, _, h3⟩
        · exact absurd (hkd.symm.trans e) o0
        · obtain ⟨_, t, r, hl, _⟩ := sees_true h3
          exact ⟨t, r, hl⟩
      have hdr : Ls.drop ig = tt :: rr := HIg.out.symm.trans hlt_
      have hig1 : ig < Ls.length := by
        rcases Nat.lt_or_ge ig Ls.length with h | h
        · exact h
        · rw [List.drop_eq_nil_of_le h] at hdr; cases hdr
      obtain ⟨s15, h15⟩ : ∃ z, rNext sg = z := ⟨_, rfl⟩
      obtain ⟨⟨n, s16⟩, h16⟩ : ∃ z, numS N s15 = z := ⟨_, rfl⟩
      obtain ⟨s17, h17⟩ : ∃ z, rMust N s16 wOf = z := ⟨_, rfl⟩
      obtain ⟨⟨on, s18⟩, h18⟩ : ∃ z, numS N s17 = z := ⟨_, rfl⟩
      rw [h15] at hq
      simp only [bindS, h16] at hq
      have HI15 : Hid (s15.left = Ls.drop (ig + 1)) := Lib.hid (by rw [← h15]; unfold rNext; rw [hlt_]; exact drop_next hdr)
      have he15 : s15.err = sg.err ∧ s15.pos = sg.pos := by rw [← h15]; exact ⟨rfl, rfl⟩
      have e0 : (((kd : Nat) : Int) == 0) = false := by simp [o0]
      have hi15 : ig + 1 ≤ Ls.length := hig1
      have HE15 := Lib.hid he15; have N16 := Lib.hid h16; have N17 := Lib.hid h17; have N18 := Lib.hid h18; have HQ2 := Lib.hid hq; have HKD := Lib.hid hkd
      clear he15 h15 h16 h17 h18 hq hlt_ hdr hkd
      have q_R0 := k_R.cell (i := 0) rfl
      have q_R1 := k_R.cell (i := 1) rfl
      have q_R2 := k_R.cell (i := 2) rfl
      have q_R3 := k_R.cell (i := 3) rfl
      have q_R4 := k_R.cell (i := 4) rfl
      have q_Rf := k_R.free
      go_upto_region 25 with fail
      clear q_R0 q_R1 q_R2 q_R3 q_R4 q_Rf
      clear e0
      obtain ⟨W23, hW23, bW23, sW23, kpW23, k2_R, k2_t, k2_x, k2_ws⟩ : ∃ xW, (w3.setCell ⟨rb, 1, none⟩ (.int .i64 ((ig : Int) + 1))) = xW ∧ Kp (onlyB rb) w xW ∧ w3.heap.size ≤ xW.heap.size ∧ Kp (fun k => k < W21.heap.size) w3 xW ∧ Blk xW (rb) 57 [.slice p Ls.length cap, .int .i64 ((ig : Int) + 1), .int .i64 (sg.err : Nat), .int .i64 (sg.pos : Nat), .int .i64 (N : Nat)] ∧ Blk xW (w.heap.size) 44 [.string ⟨#[]⟩, .int .i64 0, .int .i64 0, .int .i64 0, .int .i64 0, .int .i64 0, .slice none 0 0, .int .i64 0] ∧ Blk xW (W2.heap.size) 44 [.string ⟨nm.toArray⟩, .int .i64 (x : Nat), .int .i64 (yy : Nat), .int .i64 (fr : Nat), .int .i64 (tu : Nat), .int .i64 (sp : Nat), .slice ma ml.length mc, .int .i64 (at_ : Nat)] ∧ Blk xW (W20.heap.size) 9 [.string ⟨#[103, 97, 112]⟩, .string ⟨#[119, 104, 101, 101, 108]⟩, .string ⟨#[104, 105, 100, 100, 101, 110]⟩, .string ⟨#[98, 101, 115, 105, 100, 101]⟩] := ⟨_, rfl, (Kp.s1 bw3 (Or.inl rfl)), by simp only [World.setCell, World.size_alloc, Array.size_modify, Nat.le_refl], (Kp.s1 (Kp.refl _ _) (Or.inl (show rb < W21.heap.size by omega))), (Blk.cast (Blk.set k_R 1 _) rfl), (Blk.o1 k_t (by omega)), (Blk.o1 k_x (by omega)), (Blk.o1 k_ws (by omega))⟩
      rw [hW23]
      clear hW23 k_R k_t k_x k_ws
      have k_R := k2_R
      have k_t := k2_t
      have k_x := k2_x
      have k_ws := k2_ws
      clear k2_R k2_t k2_x k2_ws
      replace k_R : Blk W23 rb 57 [.slice p Ls.length cap, .int .i64 ((ig + 1) : Nat), .int .i64 (s15.err : Nat), .int .i64 (s15.pos : Nat), .int .i64 (N : Nat)] := by rw [HE15.out.1, HE15.out.2]; exact k_R
      go_wp2_with fail
      refine (dnum_c B N Ls p cap hL rb s15 (ig + 1) HI15.out hi15 W23 (Below.kp HB.out hrb bW23) hrb k_R N16.out).mono ?_; rintro e W24 ⟨rfl, ⟨j14, hr, hl_, hi14⟩, hb⟩
      have sW24 := Nat.le_trans sW23 hb.size
      have bW24 := (bW23).trans hb
      replace k_R := hr
      replace k_t := Blk.kept k_t hb (by show ¬ _ = rb; omega)
      replace k_x := Blk.kept k_x hb (by show ¬ _ = rb; omega)
      replace k_ws := Blk.kept k_ws hb (by show ¬ _ = rb; omega)
      have kpW24 := (kpW23).trans (Kp.mono hb (fun k hk => by have e : k = rb := hk; show k < _; omega))
      clear hb hr bW23 sW23
      have HI14 := Lib.hid hl_
      clear hl_ HI15 hi15
      go_upto_region 26 with fail
      have hm3 : w3.heap.size ≤ W24.heap.size := kpW24.size
      obtain ⟨W25, hW25, bW25, sW25, kpW25, k2_R, k2_t, k2_x, k2_ws, k2_m⟩ : ∃ xW, (W24.alloc (.cells #[.int .i64 (kd : Nat), .int .i64 (n : Nat), .int .i64 0] 46)) = xW ∧ Kp (onlyB rb) w xW ∧ W24.heap.size + 1 ≤ xW.heap.size ∧ Kp (fun k => k < W21.heap.size) w3 xW ∧ Blk xW (rb) 57 [.slice p Ls.length cap, .int .i64 (j14 : Nat), .int .i64 (s16.err : Nat), .int .i64 (s16.pos : Nat), .int .i64 (N : Nat)] ∧ Blk xW (w.heap.size) 44 [.string ⟨#[]⟩, .int .i64 0, .int .i64 0, .int .i64 0, .int .i64 0, .int .i64 0, .slice none 0 0, .int .i64 0] ∧ Blk xW (W2.heap.size) 44 [.string ⟨nm.toArray⟩, .int .i64 (x : Nat), .int .i64 (yy : Nat), .int .i64 (fr : Nat), .int .i64 (tu : Nat), .int .i64 (sp : Nat), .slice ma ml.length mc, .int .i64 (at_ : Nat)] ∧ Blk xW (W20.heap.size) 9 [.string ⟨#[103, 97, 112]⟩, .string ⟨#[119, 104, 101, 101, 108]⟩, .string ⟨#[104, 105, 100, 100, 101, 110]⟩, .string ⟨#[98, 101, 115, 105, 100, 101]⟩] ∧ Blk xW (W24.heap.size) 46 [.int .i64 (kd : Nat), .int .i64 (n : Nat), .int .i64 0] := ⟨_, rfl, (Kp.alloc bW24 _), by simp only [World.setCell, World.size_alloc, Array.size_modify, Nat.le_refl], (Kp.alloc kpW24 _), (Blk.alloc k_R _), (Blk.alloc k_t _), (Blk.alloc k_x _), (Blk.alloc k_ws _), (Blk.new' _ _ _ (rfl))⟩
      rw [hW25]
      clear hW25 k_R k_t k_x k_ws
      have k_R := k2_R
      have k_t := k2_t
      have k_x := k2_x
      have k_ws := k2_ws
      have k_m := k2_m
      clear k2_R k2_t k2_x k2_ws k2_m
      by_cases hk4 : kd = 4
      · subst hk4
        have hq := HQ2.out
        rw [if_pos rfl] at hq
        simp only [bindS, retS, mustS, N17.out, N18.out] at hq
        injection hq with e1 e2
        subst e1 e2
        have e4 : (((4 : Nat) : Int) == 4) = true := rfl
        go_wp2_with fail
        refine (dmust_c wOf B N Ls p cap hL rb s16 j14 HI14.out hi14 W25 (Below.kp HB.out hrb bW25) hrb k_R N17.out).mono ?_; rintro e W26 ⟨rfl, ⟨j15, hr, hl_, hi15⟩, hb⟩
        have sW26 := Nat.le_trans sW25 hb.size
        have bW26 := (bW25).trans hb
        replace k_R := hr
        replace k_t := Blk.kept k_t hb (by show ¬ _ = rb; omega)
        replace k_x := Blk.kept k_x hb (by show ¬ _ = rb; omega)
        replace k_ws := Blk.kept k_ws hb (by show ¬ _ = rb; omega)
        replace k_m := Blk.kept k_m hb (by show ¬ _ = rb; omega)
        have kpW26 := (kpW25).trans (Kp.mono hb (fun k hk => by have e : k = rb := hk; show k < _; omega))
        clear hb hr bW25 sW25
        have HI15 := Lib.hid hl_
        clear hl_ HI14 hi14
        go_wp2_with fail
        refine (dnum_c B N Ls p cap hL rb s17 j15 HI15.out hi15 W26 (Below.kp HB.out hrb bW26) hrb k_R N18.out).mono ?_; rintro e W27 ⟨rfl, ⟨j16, hr, hl_, hi16⟩, hb⟩
        have sW27 := Nat.le_trans sW26 hb.size
        have bW27 := (bW26).trans hb
        replace k_R := hr
        replace k_t := Blk.kept k_t hb (by show ¬ _ = rb; omega)
        replace k_x := Blk.kept k_x hb (by show ¬ _ = rb; omega)
        replace k_ws := Blk.kept k_ws hb (by show ¬ _ = rb; omega)
        replace k_m := Blk.kept k_m hb (by show ¬ _ = rb; omega)
        have kpW27 := (kpW26).trans (Kp.mono hb (fun k hk => by have e : k = rb := hk; show k < _; omega))
        clear hb hr bW26 sW26
        have HI16 := Lib.hid hl_
        clear hl_ HI15 hi15
        have q_m0 := k_m.cell (i := 0) rfl
        have q_m1 := k_m.cell (i := 1) rfl
        have q_m2 := k_m.cell (i := 2) rfl
        have q_mf := k_m.free
        go_upto_region 29 with fail
        clear q_m0 q_m1 q_m2 q_mf
        obtain ⟨W28, hW28, bW28, sW28, kpW28, k2_R, k2_t, k2_x, k2_ws, k2_m⟩ : ∃ xW, (W27.setCell ⟨W24.heap.size, 2, none⟩ (.int .i64 (on : Nat))) = xW ∧ Kp (onlyB rb) w xW ∧ W27.heap.size ≤ xW.heap.size ∧ Kp (fun k => k < W21.heap.size) w3 xW ∧ Blk xW (rb) 57 [.slice p Ls.length cap, .int .i64 (j16 : Nat), .int .i64 (s18.err : Nat), .int .i64 (s18.pos : Nat), .int .i64 (N : Nat)] ∧ Blk xW (w.heap.size) 44 [.string ⟨#[]⟩, .int .i64 0, .int .i64 0, .int .i64 0, .int .i64 0, .int .i64 0, .slice none 0 0, .int .i64 0] ∧ Blk xW (W2.heap.size) 44 [.string ⟨nm.toArray⟩, .int .i64 (x : Nat), .int .i64 (yy : Nat), .int .i64 (fr : Nat), .int .i64 (tu : Nat), .int .i64 (sp : Nat), .slice ma ml.length mc, .int .i64 (at_ : Nat)] ∧ Blk xW (W20.heap.size) 9 [.string ⟨#[103, 97, 112]⟩, .string ⟨#[119, 104, 101, 101, 108]⟩, .string ⟨#[104, 105, 100, 100, 101, 110]⟩, .string ⟨#[98, 101, 115, 105, 100, 101]⟩] ∧ Blk xW (W24.heap.size) 46 [.int .i64 ((4 : Nat) : Int), .int .i64 (n : Nat), .int .i64 (on : Nat)] := ⟨_, rfl, (Kp.s1 bW27 (Or.inr (by omega))), by simp only [World.setCell, World.size_alloc, Array.size_modify, Nat.le_refl], (Kp.s1 kpW27 (Or.inr (show w3.heap.size ≤ W24.heap.size by omega))), (Blk.o1 k_R (by omega)), (Blk.o1 k_t (by omega)), (Blk.o1 k_x (by omega)), (Blk.o1 k_ws (by omega)), (Blk.cast (Blk.set k_m 2 _) rfl)⟩
        rw [hW28]
        clear hW28 k_R k_t k_x k_ws k_m
        have k_R := k2_R
        have k_t := k2_t
        have k_x := k2_x
        have k_ws := k2_ws
        have k_m := k2_m
        clear k2_R k2_t k2_x k2_ws k2_m
        obtain ⟨css, hcon, hall⟩ := HMB3.out.shift6 kpW28
        have hown : ∀ k, (Value.slice ma ml.length mc).ownBlock = some k → W21.heap.size ≤ k ∧ k < W28.heap.size := fun k hk => own_lt hcon.own hk
        obtain ⟨i0, hi0, hz0, hz1, hz2⟩ := info_parts6 rowC_info
        have hc : markK.is W28 (fun k => W28.heap.size ≤ k) [.int .i64 ((4 : Nat) : Int), .int .i64 (n : Nat), .int .i64 (on : Nat)] (⟨4, n, on⟩ : MarkP) := rfl
        have hbs : W21.heap.size ≤ W28.heap.size := by omega
        have HI0 := Lib.hid hi0; have HZ0 := Lib.hid hz0; have HZ1 := Lib.hid hz1; have HZ2 := Lib.hid hz2; have HCON := Lib.hid hcon; have HALL := Lib.hid hall; have HOW := Lib.hid hown; have HC := Lib.hid hc
        have HXL : Hid (css.length + 1 ≤ 1000000) := Lib.hid (by rw [All2.length HALL.out]; have := HNL.out; omega)
        clear hi0 hz0 hz1 hz2 hcon hall hown hc kpW28 HMB3
        have q_x0 := k_x.cell (i := 0) rfl
        have q_x1 := k_x.cell (i := 1) rfl
        have q_x2 := k_x.cell (i := 2) rfl
        have q_x3 := k_x.cell (i := 3) rfl
        have q_x4 := k_x.cell (i := 4) rfl
        have q_x5 := k_x.cell (i := 5) rfl
        have q_x6 := k_x.cell (i := 6) rfl
        have q_x7 := k_x.cell (i := 7) rfl
        have q_xf := k_x.free
        have q_m0 := k_m.cell (i := 0) rfl
        have q_m1 := k_m.cell (i := 1) rfl
        have q_m2 := k_m.cell (i := 2) rfl
        have q_mf := k_m.free
        go_upto_region 14 with (refine wpList_append_con6 (t := 42) (T := 46) (m := markK.size) (B := W21.heap.size) Tryz.underlying42 HI0.out HZ0.out HZ1.out HZ2.out rfl (by decide) (by decide) rfl (.tmp 88) (.tmp 90) rfl _ css [.int .i64 ((4 : Nat) : Int), .int .i64 (n : Nat), .int .i64 (on : Nat)] rfl (HCON.out.of_block (fun k hk => Below.heap_alloc _ _ _ (HOW.out k hk).2)) W28.heap.size rfl (Blk.new W28 46 [.int .i64 ((4 : Nat) : Int), .int .i64 (n : Nat), .int .i64 (on : Nat)]) (markK.len HC.out) (markK.one HC.out) HXL.out (by rw [World.size_alloc]; omega) ?_; intro v' Wa hcon' hg hat hone; have BN := Lib.hid (building_snoc6 HALL.out HC.out hbs (fun k hk => (HOW.out k hk).2) hcon' hg hat); have FR := Lib.hid (app_facts6 hg (fun k hk => (HOW.out k hk).1) k_R (show rb < W21.heap.size by omega)); have FX := Lib.hid (app_facts6 hg (fun k hk => (HOW.out k hk).1) k_x (show W2.heap.size < W21.heap.size by omega)); have FT := Lib.hid (app_facts6 hg (fun k hk => (HOW.out k hk).1) k_t (show w.heap.size < W21.heap.size by omega)); have FW := Lib.hid (app_facts6 hg (fun k hk => (HOW.out k hk).1) k_ws (show W20.heap.size < W21.heap.size by omega)); have FB := Lib.hid ((Kp.alloc bW28 (.cells ([.int .i64 ((4 : Nat) : Int), .int .i64 (n : Nat), .int .i64 (on : Nat)] : List Value).toArray 46)).grown hg (fun k hk => Or.inr (by have := (HOW.out k hk).1; omega))); have FZ : Hid (W28.heap.size + 1 ≤ Wa.heap.size) := Lib.hid (by have := hg.size; rw [World.size_alloc] at this; exact this); obtain ⟨va, vc, hv'⟩ := BN.out.len6; rw [List.length_append, List.length_singleton] at hv'; subst hv'; clear hcon' hg hat hone; have z_x6 := FX.out.cell (i := 6) rfl; have z_xf := FX.out.free)
        clear q_x0 q_x1 q_x2 q_x3 q_x4 q_x5 q_x6 q_x7 q_xf q_m0 q_m1 q_m2 q_mf
        clear k_R k_t k_x k_ws k_m z_x6 z_xf
        have k_R := FR.out
        have k_t := FT.out
        have k_x := FX.out
        have k_ws := FW.out
        have bWa := FB.out
        have sWa := FZ.out
        clear bW28 FB FZ FR FX FT FW
        obtain ⟨W29, hW29, bW29, sW29, kpW29, k2_R, k2_t, k2_x, k2_ws⟩ : ∃ xW, (Wa.setCell ⟨W2.heap.size, 6, none⟩ (.slice va (ml.length + 1) vc)) = xW ∧ Kp (onlyB rb) w xW ∧ Wa.heap.size ≤ xW.heap.size ∧ Kp (fun k => k < W21.heap.size) Wa xW ∧ Blk xW (rb) 57 [.slice p Ls.length cap, .int .i64 (j16 : Nat), .int .i64 (s18.err : Nat), .int .i64 (s18.pos : Nat), .int .i64 (N : Nat)] ∧ Blk xW (w.heap.size) 44 [.string ⟨#[]⟩, .int .i64 0, .int .i64 0, .int .i64 0, .int .i64 0, .int .i64 0, .slice none 0 0, .int .i64 0] ∧ Blk xW (W2.heap.size) 44 [.string ⟨nm.toArray⟩, .int .i64 (x : Nat), .int .i64 (yy : Nat), .int .i64 (fr : Nat), .int .i64 (tu : Nat), .int .i64 (sp : Nat), .slice va (ml.length + 1) vc, .int .i64 (at_ : Nat)] ∧ Blk xW (W20.heap.size) 9 [.string ⟨#[103, 97, 112]⟩, .string ⟨#[119, 104, 101, 101, 108]⟩, .string ⟨#[104, 105, 100, 100, 101, 110]⟩, .string ⟨#[98, 101, 115, 105, 100, 101]⟩] := ⟨_, rfl, (Kp.s1 bWa (Or.inr (by omega))), by simp only [World.setCell, World.size_alloc, Array.size_modify, Nat.le_refl], (Kp.s1 (Kp.refl _ _) (Or.inl (show W2.heap.size < W21.heap.size by omega))), (Blk.o1 k_R (by omega)), (Blk.o1 k_t (by omega)), (Blk.cast (Blk.set k_x 6 _) rfl), (Blk.o1 k_ws (by omega))⟩
        rw [hW29]
        clear hW29 k_R k_t k_x k_ws
        have k_R := k2_R
        have k_t := k2_t
        have k_x := k2_x
        have k_ws := k2_ws
        clear k2_R k2_t k2_x k2_ws
        have BN2 := Lib.hid (BN.out.shift6 kpW29)
        clear kpW29 BN
        go_wp2
        refine ⟨⟨ml ++ [(⟨4, n, on⟩ : MarkP)], va, vc, s18, j16, g, HM2, Lib.hid (fun e => by have h1 := HPL.out e; have h2 := HF2.out; omega), HI16, Lib.hid hi16, HS14, Lib.hid ((Decidable.em (s18.err = 0)).elim (fun e => Or.inl (by have h1 := HPL.out e; have h2 := HNL.out; rw [List.length_append, List.length_singleton]; omega)) Or.inr), Lib.hid (by rw [List.length_append, List.length_singleton]; exact BN2.out), Lib.hid k_R, Lib.hid k_t, Lib.hid (by rw [List.length_append, List.length_singleton]; exact k_x), Lib.hid k_ws, Lib.hid bW29, Lib.hid (by omega)⟩, ?_⟩
        rw [left6_of k_R, HLEFT.out, if_pos H0.out]
        have d1 := drop_len HIg.out hig
        have d2 := drop_len HI16.out hi16
        split
        · rename_i he
          have := HPL.out he
          omega
        · omega
      have hq := HQ2.out
      rw [if_neg hk4] at hq
      simp only [retS] at hq
      injection hq with e1 e2
      subst e1 e2
      have e4 : (((kd : Nat) : Int) == 4) = false := by simp; omega
      go_upto_region 29 with fail
      clear e4
      obtain ⟨css, hcon, hall⟩ := HMB3.out.shift6 kpW25
      have hown : ∀ k, (Value.slice ma ml.length mc).ownBlock = some k → W21.heap.size ≤ k ∧ k < W25.heap.size := fun k hk => own_lt hcon.own hk
      obtain ⟨i0, hi0, hz0, hz1, hz2⟩ := info_parts6 rowC_info
      have hc : markK.is W25 (fun k => W25.heap.size ≤ k) [.int .i64 (kd : Nat), .int .i64 (n : Nat), .int .i64 0] (⟨kd, n, 0⟩ : MarkP) := rfl
      have hbs : W21.heap.size ≤ W25.heap.size := by omega
      have HI0 := Lib.hid hi0; have HZ0 := Lib.hid hz0; have HZ1 := Lib.hid hz1; have HZ2 := Lib.hid hz2; have HCON := Lib.hid hcon; have HALL := Lib.hid hall; have HOW := Lib.hid hown; have HC := Lib.hid hc
      have HXL : Hid (css.length + 1 ≤ 1000000) := Lib.hid (by rw [All2.length HALL.out]; have := HNL.out; omega)
      clear hi0 hz0 hz1 hz2 hcon hall hown hc kpW25 HMB3
      have q_x0 := k_x.cell (i := 0) rfl
      have q_x1 := k_x.cell (i := 1) rfl
      have q_x2 := k_x.cell (i := 2) rfl
      have q_x3 := k_x.cell (i := 3) rfl
      have q_x4 := k_x.cell (i := 4) rfl
      have q_x5 := k_x.cell (i := 5) rfl
      have q_x6 := k_x.cell (i := 6) rfl
      have q_x7 := k_x.cell (i := 7) rfl
      have q_xf := k_x.free
      have q_m0 := k_m.cell (i := 0) rfl
      have q_m1 := k_m.cell (i := 1) rfl
      have q_m2 := k_m.cell (i := 2) rfl
      have q_mf := k_m.free
      go_upto_region 14 with (refine wpList_append_con6 (t := 42) (T := 46) (m := markK.size) (B := W21.heap.size) Tryz.underlying42 HI0.out HZ0.out HZ1.out HZ2.out rfl (by decide) (by decide) rfl (.tmp 88) (.tmp 90) rfl _ css [.int .i64 (kd : Nat), .int .i64 (n : Nat), .int .i64 0] rfl (HCON.out.of_block (fun k hk => Below.heap_alloc _ _ _ (HOW.out k hk).2)) W25.heap.size rfl (Blk.new W25 46 [.int .i64 (kd : Nat), .int .i64 (n : Nat), .int .i64 0]) (markK.len HC.out) (markK.one HC.out) HXL.out (by rw [World.size_alloc]; omega) ?_; intro v' Wa hcon' hg hat hone; have BN := Lib.hid (building_snoc6 HALL.out HC.out hbs (fun k hk => (HOW.out k hk).2) hcon' hg hat); have FR := Lib.hid (app_facts6 hg (fun k hk => (HOW.out k hk).1) k_R (show rb < W21.heap.size by omega)); have FX := Lib.hid (app_facts6 hg (fun k hk => (HOW.out k hk).1) k_x (show W2.heap.size < W21.heap.size by omega)); have FT := Lib.hid (app_facts6 hg (fun k hk => (HOW.out k hk).1) k_t (show w.heap.size < W21.heap.size by omega)); have FW := Lib.hid (app_facts6 hg (fun k hk => (HOW.out k hk).1) k_ws (show W20.heap.size < W21.heap.size by omega)); have FB := Lib.hid ((Kp.alloc bW25 (.cells ([.int .i64 (kd : Nat), .int .i64 (n : Nat), .int .i64 0] : List Value).toArray 46)).grown hg (fun k hk => Or.inr (by have := (HOW.out k hk).1; omega))); have FZ : Hid (W25.heap.size + 1 ≤ Wa.heap.size) := Lib.hid (by have := hg.size; rw [World.size_alloc] at this; exact this); obtain ⟨va, vc, hv'⟩ := BN.out.len6; rw [List.length_append, List.length_singleton] at hv'; subst hv'; clear hcon' hg hat hone; have z_x6 := FX.out.cell (i := 6) rfl; have z_xf := FX.out.free)
      clear q_x0 q_x1 q_x2 q_x3 q_x4 q_x5 q_x6 q_x7 q_xf q_m0 q_m1 q_m2 q_mf
      clear k_R k_t k_x k_ws k_m z_x6 z_xf
      have k_R := FR.out
      have k_t := FT.out
      have k_x := FX.out
      have k_ws := FW.out
      have bWa := FB.out
      have sWa := FZ.out
      clear bW25 FB FZ FR FX FT FW
      obtain ⟨W26, hW26, bW26, sW26, kpW26, k2_R, k2_t, k2_x, k2_ws⟩ : ∃ xW, (Wa.setCell ⟨W2.heap.size, 6, none⟩ (.slice va (ml.length + 1) vc)) = xW ∧ Kp (onlyB rb) w xW ∧ Wa.heap.size ≤ xW.heap.size ∧ Kp (fun k => k < W21.heap.size) Wa xW ∧ Blk xW (rb) 57 [.slice p Ls.length cap, .int .i64 (j14 : Nat), .int .i64 (s16.err : Nat), .int .i64 (s16.pos : Nat), .int .i64 (N : Nat)] ∧ Blk xW (w.heap.size) 44 [.string ⟨#[]⟩, .int .i64 0, .int .i64 0, .int .i64 0, .int .i64 0, .int .i64 0, .slice none 0 0, .int .i64 0] ∧ Blk xW (W2.heap.size) 44 [.string ⟨nm.toArray⟩, .int .i64 (x : Nat), .int .i64 (yy : Nat), .int .i64 (fr : Nat), .int .i64 (tu : Nat), .int .i64 (sp : Nat), .slice va (ml.length + 1) vc, .int .i64 (at_ : Nat)] ∧ Blk xW (W20.heap.size) 9 [.string ⟨#[103, 97, 112]⟩, .string ⟨#[119, 104, 101, 101, 108]⟩, .string ⟨#[104, 105, 100, 100, 101, 110]⟩, .string ⟨#[98, 101, 115, 105, 100, 101]⟩] := ⟨_, rfl, (Kp.s1 bWa (Or.inr (by omega))), by simp only [World.setCell, World.size_alloc, Array.size_modify, Nat.le_refl], (Kp.s1 (Kp.refl _ _) (Or.inl (show W2.heap.size < W21.heap.size by omega))), (Blk.o1 k_R (by omega)), (Blk.o1 k_t (by omega)), (Blk.cast (Blk.set k_x 6 _) rfl), (Blk.o1 k_ws (by omega))⟩
      rw [hW26]
      clear hW26 k_R k_t k_x k_ws
      have k_R := k2_R
      have k_t := k2_t
      have k_x := k2_x
      have k_ws := k2_ws
      clear k2_R k2_t k2_x k2_ws
      have BN2 := Lib.hid (BN.out.shift6 kpW26)
      clear kpW26 BN
      go_wp2
      refine ⟨⟨ml ++ [(⟨kd, n, 0⟩ : MarkP)], va, vc, s16, j14, g, HM2, Lib.hid (fun e => by have h1 := HPL.out e; have h2 := HF2.out; omega), HI14, Lib.hid hi14, HS14, Lib.hid ((Decidable.em (s16.err = 0)).elim (fun e => Or.inl (by have h1 := HPL.out e; have h2 := HNL.out; rw [List.length_append, List.length_singleton]; omega)) Or.inr), Lib.hid (by rw [List.length_append, List.length_singleton]; exact BN2.out), Lib.hid k_R, Lib.hid k_t, Lib.hid (by rw [List.length_append, List.length_singleton]; exact k_x), Lib.hid k_ws, Lib.hid bW26, Lib.hid (by omega)⟩, ?_⟩
      rw [left6_of k_R, HLEFT.out, if_pos H0.out]
      have d1 := drop_len HIg.out hig
      have d2 := drop_len HI14.out hi14
      split
      · rename_i he
        have := HPL.out he
        omega
      · omega
end Go.Proofs.YtlfjdohjfmfcdaaGreatDoor
