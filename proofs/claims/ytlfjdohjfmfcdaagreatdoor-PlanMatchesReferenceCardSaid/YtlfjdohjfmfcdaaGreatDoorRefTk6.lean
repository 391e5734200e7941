/-
  The document's own reader of plans: words, tokens, names, numbers, offsets.
-/
import Derived.Test.YtlfjdohjfmfcdaaGreatDoorRefRd6
import Derived.Test.YtlfjdohjfmfcdaaGreatDoorRound
namespace Go.Proofs.YtlfjdohjfmfcdaaGreatDoor
open Go.RowKit Go.Sort Foyer.Plan
set_option linter.unusedSimpArgs false

theorem wrap_in6 {n : Int} (h1 : -9223372036854775808 ≤ n) (h2 : n ≤ 9223372036854775807) : wrap64 n = n := IntWalk.wrap64_in _ ⟨h1, h2⟩
set_option maxRecDepth 100000 in
theorem dmust_c {s2 : St} (x : List UInt8) (B : World) (N : Nat) (Ls : List Foyer.Lexer.Tok) (p : Option Addr) (cap : Nat) (hL : IsLs B p cap Ls) (rb : Nat) (s : St) (i : Nat) (hI : s.left = Ls.drop i) (hi : i ≤ Ls.length) (w : World) (hB : Below B.heap.size B w) (hrb : B.heap.size ≤ rb) (hR : Blk w rb 57 [.slice p Ls.length cap, .int .i64 (i : Nat), .int .i64 (s.err : Nat), .int .i64 (s.pos : Nat), .int .i64 (N : Nat)]) (h : rMust N s x = s2) :
    Calls Tryz.prog 11 #[.pointer (some ⟨rb, 0, none⟩), .string ⟨x.toArray⟩] w fun e w' => e = .returned (.tuple #[]) ∧ (∃ i2, Blk w' rb 57 [.slice p Ls.length cap, .int .i64 (i2 : Nat), .int .i64 (s2.err : Nat), .int .i64 (s2.pos : Nat), .int .i64 (N : Nat)] ∧ s2.left = Ls.drop i2 ∧ i2 ≤ Ls.length) ∧ Kp (onlyB rb) w w' := by
  have hS := Lib.hid (dsees_any x B N Ls p cap hL rb s i hI hi w hB hrb hR)
  have HR := Lib.hid hR
  have hfw := hL.few
  by_cases hk : rSees s x = true
  · unfold rMust at h
    rw [if_pos hk] at h
    obtain ⟨h0, t, r, hl, _⟩ := sees_true hk
    have hd : Ls.drop i = t :: r := hI.symm.trans hl
    have hlt : i < Ls.length := by
      rcases Nat.lt_or_ge i Ls.length with h | h
      · exact h
      · rw [List.drop_eq_nil_of_le h] at hd; cases hd
    have HN : Hid (s2.left = Ls.drop (i + 1) ∧ s2.err = s.err ∧ s2.pos = s.pos) := Lib.hid (by
      rw [← h]; unfold rNext; rw [hl]; exact ⟨drop_next hd, rfl, rfl⟩)
    rw [hk] at hS
    clear h0 hl hd hI hB hR hk h
    go_enter Tryz.func11, Tryz.ntmps11
    go_wp2_with fail
    refine hS.out.mono ?_; rintro e W ⟨rfl, hb⟩
    have HK := Lib.hid (Kp.of_below (E := onlyB rb) hb)
    have HR2 := Lib.hid (HR.out.past hb)
    have q1 := HR2.out.cell (i := 1) rfl
    have qf := HR2.out.free
    clear hb HR hS
    go_wp2
    obtain ⟨z1, z2, z3⟩ := HN.out
    exact bodyPost_end (results_none rfl _ _) rfl ⟨rfl, ⟨i + 1, by rw [z2, z3]; exact Blk.cast (HR2.out.set 1 _) rfl, z1, by omega⟩, HK.out.setOld rb 1 rfl _⟩
  · unfold rMust at h
    rw [if_neg hk] at h
    have hk2 : rSees s x = false := by simpa using hk
    rw [hk2] at hS
    have HI := Lib.hid hI; have HB := Lib.hid hB; have HH := Lib.hid h
    clear hk hk2 hI hB hR h
    go_enter Tryz.func11, Tryz.ntmps11
    go_wp2_with fail
    refine hS.out.mono ?_; rintro e W ⟨rfl, hb⟩
    have HK := Lib.hid (Kp.of_below (E := onlyB rb) hb)
    have HR2 := Lib.hid (HR.out.past hb)
    clear hb HR hS
    go_wp2_with fail
    refine (dfail_any B N Ls p cap hL rb s i HI.out hi W (Below.kp HB.out hrb HK.out) hrb HR2.out).mono ?_; rintro e W2 ⟨rfl, hr, hl, hb⟩
    have HR3 := Lib.hid hr; have HL3 := Lib.hid hl; have HK3 := Lib.hid (HK.out.trans hb)
    clear hr hl hb HR2 HK
    go_wp2
    exact bodyPost_end (results_none rfl _ _) rfl ⟨rfl, ⟨i, by rw [← HH.out]; exact HR3.out, by rw [← HH.out]; exact HL3.out, hi⟩, HK3.out⟩
theorem Kp.c1 {E : Nat → Prop} {W X : World} {a b c d e : Nat} {p q r s : Value} (h : Kp E W X) (ha : E a ∨ W.heap.size ≤ a) : Kp E W ((((X.setCell ⟨a, b, none⟩ p).setCell ⟨a, c, none⟩ q).setCell ⟨a, d, none⟩ r).setCell ⟨a, e, none⟩ s) := h.s4 ha
set_option maxRecDepth 100000 in
theorem dtok_c {t : Foyer.Lexer.Tok} {s2 : St} (k : Nat) (B : World) (N : Nat) (Ls : List Foyer.Lexer.Tok) (p : Option Addr) (cap : Nat) (hL : IsLs B p cap Ls) (rb : Nat) (s : St) (i : Nat) (hI : s.left = Ls.drop i) (hi : i ≤ Ls.length) (w : World) (hB : Below B.heap.size B w) (hrb : B.heap.size ≤ rb) (hR : Blk w rb 57 [.slice p Ls.length cap, .int .i64 (i : Nat), .int .i64 (s.err : Nat), .int .i64 (s.pos : Nat), .int .i64 (N : Nat)]) (K : Int) (hK : K = (k : Nat)) (h : rTok N s k = (t, s2)) :
    Calls Tryz.prog 24 #[.pointer (some ⟨rb, 0, none⟩), .int .i64 K] w fun e w' => e = .returned (.agg #[.int .i64 (t.kind : Nat), .string ⟨t.text.toArray⟩, .int .i64 (t.val : Nat), .int .i64 (t.pos : Nat)]) ∧ (∃ i2, Blk w' rb 57 [.slice p Ls.length cap, .int .i64 (i2 : Nat), .int .i64 (s2.err : Nat), .int .i64 (s2.pos : Nat), .int .i64 (N : Nat)] ∧ s2.left = Ls.drop i2 ∧ i2 ≤ Ls.length) ∧ Kp (onlyB rb) w w' := by
  subst hK
  have hfw := hL.few
  have hlr := hR.lt
  by_cases hk : rHas s k = true
  · unfold rTok at h
    rw [if_pos hk] at h
    unfold rHas at hk
    obtain ⟨u, r, hl⟩ : ∃ u r, s.left = u :: r := by
      cases hl : s.left with
      | nil => rw [hl] at hk; simp at hk
      | cons u r => exact ⟨u, r, rfl⟩
    rw [hl] at hk h
    simp only [Bool.and_eq_true, decide_eq_true_eq] at hk
    obtain ⟨h0, hku⟩ := hk
    injection h with e1 e2
    have e1 : u = t := e1
    subst e1
    have hd : Ls.drop i = u :: r := hI.symm.trans hl
    obtain ⟨b, off, hpe, hlt, ht⟩ := hL.tok hB hrb hd
    subst hpe
    have HN : Hid (s2.left = Ls.drop (i + 1) ∧ s2.err = s.err ∧ s2.pos = s.pos) := Lib.hid (by
      rw [← e2]; unfold rNext; rw [hl]; exact ⟨drop_next hd, rfl, rfl⟩)
    have hbr : b ≠ rb := fun e => by
      rcases hL.at_ with h | ⟨b', off', e2, hb, _⟩
      · rw [h] at hlt; simp at hlt
      · cases e2; omega
    have hix : (0 : Int) ≤ (i : Int) ∧ (i : Int) < (Ls.length : Int) := by omega
    have hix2 : ¬ (Ls.length : Int) ≤ (i : Int) := by omega
    have hd2 : (((u.kind : Nat) : Int) != ((k : Nat) : Int)) = false := by simp; omega
    have hbw := lt_of_cell ht.kind
    rw [h0] at hR
    have H0 := Lib.hid h0
    have HT := Lib.hid ht; have HR := Lib.hid hR
    clear hB ht hR hI hl hd e2 h0 hku
    go_enter Tryz.func24, Tryz.ntmps24
    go_upto_region 1 with fail
    have k_R := HR.out
    obtain ⟨W1, hW1, bW1, sW1, k2_R, k2_t⟩ : ∃ xW, (w.alloc (.cells #[.int .i64 0, .string ⟨#[]⟩, .int .i64 0, .int .i64 0] 67)) = xW ∧ Kp (onlyB rb) w xW ∧ w.heap.size + 1 ≤ xW.heap.size ∧ Blk xW (rb) 57 [.slice (some ⟨b, off, none⟩) Ls.length cap, .int .i64 (i : Nat), .int .i64 ((0 : Nat) : Int), .int .i64 (s.pos : Nat), .int .i64 (N : Nat)] ∧ Blk xW (w.heap.size) 67 [.int .i64 0, .string ⟨#[]⟩, .int .i64 0, .int .i64 0] := ⟨_, rfl, (Kp.alloc (Kp.refl (onlyB rb) w) _), by simp only [World.setCell, World.size_alloc, Array.size_modify, Nat.le_refl], (Blk.alloc k_R _), (Blk.new' _ _ _ (rfl))⟩
    rw [hW1]
    clear hW1 k_R
    have k_R := k2_R
    have k_t := k2_t
    clear k2_R k2_t
    have HT1 := Lib.hid (HT.out.kept bW1 (fun e => hbr e))
    have q_R0 := k_R.cell (i := 0) rfl
    have q_R1 := k_R.cell (i := 1) rfl
    have q_R2 := k_R.cell (i := 2) rfl
    have q_R3 := k_R.cell (i := 3) rfl
    have q_R4 := k_R.cell (i := 4) rfl
    have q_Rf := k_R.free
    have q_t0 := k_t.cell (i := 0) rfl
    have q_t1 := k_t.cell (i := 1) rfl
    have q_t2 := k_t.cell (i := 2) rfl
    have q_t3 := k_t.cell (i := 3) rfl
    have q_tf := k_t.free
    have t_kind := HT1.out.kind
    go_quiet (fail)
    have HRq : Hid (Blk (W1.drewN nq) rb 57 [.slice (some ⟨b, off, none⟩) Ls.length cap, .int .i64 (i : Nat), .int .i64 ((0 : Nat) : Int), .int .i64 (s.pos : Nat), .int .i64 (N : Nat)]) := Lib.hid k_R
    have HTq : Hid (Blk (W1.drewN nq) (w.heap.size) 67 [.int .i64 0, .string ⟨#[]⟩, .int .i64 0, .int .i64 0]) := Lib.hid k_t
    have HKq : Hid (Kp (onlyB rb) w (W1.drewN nq)) := Lib.hid (bW1.drewN nq)
    clear q_R0 q_R1 q_R2 q_R3 q_R4 q_Rf q_t0 q_t1 q_t2 q_t3 q_tf
    clear t_kind HT1 k_R k_t bW1
    go_upto_region 4 with fail
    obtain ⟨W2, hW2⟩ : ∃ x, W1.drewN nq = x := ⟨_, rfl⟩
    rw [hW2] at HRq HTq HKq ⊢
    have k_R := HRq.out
    have k_t := HTq.out
    have bW2 := HKq.out
    have sW2 : w.heap.size + 1 ≤ W2.heap.size := by rw [← hW2]; exact sW1
    clear hW2 HRq HTq HKq sW1
    have q_R0 := k_R.cell (i := 0) rfl
    have q_R1 := k_R.cell (i := 1) rfl
    have q_R2 := k_R.cell (i := 2) rfl
    have q_R3 := k_R.cell (i := 3) rfl
    have q_R4 := k_R.cell (i := 4) rfl
    have q_Rf := k_R.free
    go_upto_region 5 with fail
    clear q_R0 q_R1 q_R2 q_R3 q_R4 q_Rf
    obtain ⟨W3, hW3, bW3, sW3, k2_R, k2_t⟩ : ∃ xW, (W2.setCell ⟨rb, 1, none⟩ (.int .i64 ((i : Int) + 1))) = xW ∧ Kp (onlyB rb) w xW ∧ W2.heap.size ≤ xW.heap.size ∧ Blk xW (rb) 57 [.slice (some ⟨b, off, none⟩) Ls.length cap, .int .i64 ((i : Int) + 1), .int .i64 ((0 : Nat) : Int), .int .i64 (s.pos : Nat), .int .i64 (N : Nat)] ∧ Blk xW (w.heap.size) 67 [.int .i64 0, .string ⟨#[]⟩, .int .i64 0, .int .i64 0] := ⟨_, rfl, (Kp.s1 bW2 (Or.inl rfl)), by simp only [World.setCell, World.size_alloc, Array.size_modify, Nat.le_refl], (Blk.cast (Blk.set k_R 1 _) rfl), (Blk.o1 k_t (by omega))⟩
    rw [hW3]
    clear hW3 k_R k_t
    have k_R := k2_R
    have k_t := k2_t
    clear k2_R k2_t
    have hsub : IntKind.i64.wrap (i : Int) = i := by rw [IntKind.wrap_i64]; omega
    have hsub2 : (i : Int) + 1 - 1 = i := by omega
    have HBR := Lib.hid hbr
    clear hbr hd2 hix2
    refine wp_region_any (by kernel_rfl) ?_
    refine Foyer.Round.any_of_held (S := fun W => Blk W (rb) 57 [.slice (some ⟨b, off, none⟩) Ls.length cap, .int .i64 ((i : Int) + 1), .int .i64 ((0 : Nat) : Int), .int .i64 (s.pos : Nat), .int .i64 (N : Nat)] ∧ Kp (onlyB rb) w W) (N := [11]) _ _ _ _ ?_
    change Foyer.Round.held _ _ _ _ _ _ _ _ _ W3.drew
    obtain ⟨W4, hW4⟩ : ∃ x, W3.drew = x := ⟨_, rfl⟩
    have bW4 : Kp (onlyB rb) w W4 := by rw [← hW4]; exact Kp.drew bW3
    have sW4 := sW3
    rw [show W3.heap.size = W4.heap.size from by rw [← hW4]; rfl] at sW4
    replace k_R : Blk W4 (rb) 57 [.slice (some ⟨b, off, none⟩) Ls.length cap, .int .i64 ((i : Int) + 1), .int .i64 ((0 : Nat) : Int), .int .i64 (s.pos : Nat), .int .i64 (N : Nat)] := by rw [← hW4]; exact k_R
    replace k_t : Blk W4 (w.heap.size) 67 [.int .i64 0, .string ⟨#[]⟩, .int .i64 0, .int .i64 0] := by rw [← hW4]; exact k_t
    rw [hW4]
    clear hW4 bW3 sW3
    refine Foyer.Round.held_take [1, 2, 3, 9, 10, 11] (i := 0) (v := .pointer (some ⟨rb, 0, none⟩)) rfl (by kernel_rfl) (fun _ _ _ h => h) (Or.inl ⟨by rfl, fun w' hS => by go_simp⟩) (⟨k_R, bW4⟩) ?_
    try simp only [Act.put, List.setIfInBounds_toArray, List.set_cons_zero, List.set_cons_succ]
    refine Foyer.Round.held_take [2, 3, 9, 10, 11] (i := 1) (v := .pointer (some ⟨rb, 0, none⟩)) rfl (by kernel_rfl) (fun _ _ _ h => h) (Or.inl ⟨by rfl, fun w' hS => by go_simp⟩) (⟨k_R, bW4⟩) ?_
    try simp only [Act.put, List.setIfInBounds_toArray, List.set_cons_zero, List.set_cons_succ]
    refine Foyer.Round.held_take [3, 9, 10, 11] (i := 2) (v := .pointer (some ⟨rb, 0, none⟩)) rfl (by kernel_rfl) (fun _ _ _ h => h) (Or.inl ⟨by rfl, fun w' hS => by go_simp⟩) (⟨k_R, bW4⟩) ?_
    try simp only [Act.put, List.setIfInBounds_toArray, List.set_cons_zero, List.set_cons_succ]
    refine Foyer.Round.held_take [9, 10, 11] (i := 3) (v := .slice (some ⟨b, off, none⟩) Ls.length cap) rfl (by kernel_rfl) (fun _ _ _ h => h) (Or.inl ⟨by rfl, fun w' hS => by have r_R0 := (show Blk _ _ _ _ from hS.1).cell (i := 0) rfl; have r_R1 := (show Blk _ _ _ _ from hS.1).cell (i := 1) rfl; have r_R2 := (show Blk _ _ _ _ from hS.1).cell (i := 2) rfl; have r_R3 := (show Blk _ _ _ _ from hS.1).cell (i := 3) rfl; have r_R4 := (show Blk _ _ _ _ from hS.1).cell (i := 4) rfl; go_simp⟩) (⟨k_R, bW4⟩) ?_
    try simp only [Act.put, List.setIfInBounds_toArray, List.set_cons_zero, List.set_cons_succ]
    refine Foyer.Round.held_take [5, 6, 7, 8, 9, 10, 11] (i := 4) (v := .pointer (some ⟨rb, 0, none⟩)) rfl (by kernel_rfl) (fun _ _ _ h => h) (Or.inl ⟨by rfl, fun w' hS => by go_simp⟩) (⟨k_R, bW4⟩) ?_
    try simp only [Act.put, List.setIfInBounds_toArray, List.set_cons_zero, List.set_cons_succ]
    refine Foyer.Round.held_take [6, 7, 8, 9, 10, 11] (i := 5) (v := .pointer (some ⟨rb, 0, none⟩)) rfl (by kernel_rfl) (fun _ _ _ h => h) (Or.inl ⟨by rfl, fun w' hS => by go_simp⟩) (⟨k_R, bW4⟩) ?_
    try simp only [Act.put, List.setIfInBounds_toArray, List.set_cons_zero, List.set_cons_succ]
    refine Foyer.Round.held_take [7, 8, 9, 10, 11] (i := 6) (v := .pointer (some ⟨rb, 1, none⟩)) rfl (by kernel_rfl) (fun _ _ _ h => h) (Or.inl ⟨by rfl, fun w' hS => by go_simp⟩) (⟨k_R, bW4⟩) ?_
    try simp only [Act.put, List.setIfInBounds_toArray, List.set_cons_zero, List.set_cons_succ]
    refine Foyer.Round.held_take [8, 9, 10, 11] (i := 7) (v := .int .i64 ((i : Int) + 1)) rfl (by kernel_rfl) (fun _ _ _ h => h) (Or.inl ⟨by rfl, fun w' hS => by have r_R0 := (show Blk _ _ _ _ from hS.1).cell (i := 0) rfl; have r_R1 := (show Blk _ _ _ _ from hS.1).cell (i := 1) rfl; have r_R2 := (show Blk _ _ _ _ from hS.1).cell (i := 2) rfl; have r_R3 := (show Blk _ _ _ _ from hS.1).cell (i := 3) rfl; have r_R4 := (show Blk _ _ _ _ from hS.1).cell (i := 4) rfl; go_simp⟩) (⟨k_R, bW4⟩) ?_
    try simp only [Act.put, List.setIfInBounds_toArray, List.set_cons_zero, List.set_cons_succ]
    refine Foyer.Round.held_take [9, 10, 11] (i := 8) (v := .int .i64 (i : Nat)) rfl (by kernel_rfl) (fun _ _ _ h => h) (Or.inl ⟨by rfl, fun w' hS => by have := hsub2; have h9 := hsub; go_simp⟩) (⟨k_R, bW4⟩) ?_
    try simp only [Act.put, List.setIfInBounds_toArray, List.set_cons_zero, List.set_cons_succ]
    refine Foyer.Round.held_take [10, 11] (i := 9) (v := .pointer (some ⟨b, off + i * 4, none⟩)) rfl (by kernel_rfl) (fun _ _ _ h => h) (Or.inl ⟨by rfl, fun w' hS => by have := hix; go_simp⟩) (⟨k_R, bW4⟩) ?_
    try simp only [Act.put, List.setIfInBounds_toArray, List.set_cons_zero, List.set_cons_succ]
    refine Foyer.Round.held_take [11] (i := 10) (v := .agg #[.int .i64 (u.kind : Nat), .string ⟨u.text.toArray⟩, .int .i64 (u.val : Nat), .int .i64 (u.pos : Nat)]) rfl (by kernel_rfl) (fun _ _ _ h => h) (Or.inl ⟨by rfl, fun w' hS => by have hz := HT.out.kept hS.2 (fun e => HBR.out e); have z1 := hz.kind; have z2 := hz.text; have z3 := hz.val; have z4 := hz.pos; go_simp⟩) (⟨k_R, bW4⟩) ?_
    try simp only [Act.put, List.setIfInBounds_toArray, List.set_cons_zero, List.set_cons_succ]
    have q_t0 := k_t.cell (i := 0) rfl
    have q_t1 := k_t.cell (i := 1) rfl
    have q_t2 := k_t.cell (i := 2) rfl
    have q_t3 := k_t.cell (i := 3) rfl
    have q_tf := k_t.free
    refine Foyer.Round.held_one (i := 11) rfl (by kernel_rfl) (fun K hK => ?_)
    go_simp
    clear q_t0 q_t1 q_t2 q_t3 q_tf
    obtain ⟨W5, hW5, bW5, sW5, k2_R, k2_t⟩ : ∃ xW, ((((W4.setCell ⟨w.heap.size, 0, none⟩ (.int .i64 (u.kind : Nat))).setCell ⟨w.heap.size, 1, none⟩ (.string ⟨u.text.toArray⟩)).setCell ⟨w.heap.size, 2, none⟩ (.int .i64 (u.val : Nat))).setCell ⟨w.heap.size, 3, none⟩ (.int .i64 (u.pos : Nat))) = xW ∧ Kp (onlyB rb) w xW ∧ W4.heap.size ≤ xW.heap.size ∧ Blk xW (rb) 57 [.slice (some ⟨b, off, none⟩) Ls.length cap, .int .i64 ((i : Int) + 1), .int .i64 ((0 : Nat) : Int), .int .i64 (s.pos : Nat), .int .i64 (N : Nat)] ∧ Blk xW (w.heap.size) 67 [.int .i64 (u.kind : Nat), .string ⟨u.text.toArray⟩, .int .i64 (u.val : Nat), .int .i64 (u.pos : Nat)] := ⟨_, rfl, (Kp.s4 bW4 (Or.inr (by omega))), by simp only [World.setCell, World.size_alloc, Array.size_modify, Nat.le_refl], (Blk.o4 k_R (by omega)), (Blk.cast (Blk.set (Blk.set (Blk.set (Blk.set k_t 0 _) 1 _) 2 _) 3 _) rfl)⟩
    rw [hW5]
    clear hW5 k_R k_t
    have k_R := k2_R
    have k_t := k2_t
    clear k2_R k2_t
    refine hK.out _ _ (fun _ => ⟨k_R, bW5⟩) ?_
    clear hK K
    try simp only [Act.put, List.setIfInBounds_toArray, List.set_cons_zero, List.set_cons_succ]
    refine Foyer.Round.held_done (by kernel_rfl) ?_ _
    go_wp2
    obtain ⟨y1, y2, y3⟩ := HN.out
    exact bodyPost_ret (results_cell_mid rfl _ _ w.heap.size _ _ rfl k_t.range Tryz.underlying67 rfl (by kernel_rfl)) rfl ⟨rfl, ⟨i + 1, by rw [y2, y3, H0.out]; exact k_R, y1, by omega⟩, bW5⟩
  · unfold rTok at h
    rw [if_neg hk] at h
    injection h with e1 e2
    subst e1
    have hk2 : rHas s k = false := by simpa using hk
    have HI := Lib.hid hI; have HB := Lib.hid hB; have HF := Lib.hid e2
    have hcase : s.err ≠ 0 ∨ (s.err = 0 ∧ s.left = []) ∨ ∃ u r, s.err = 0 ∧ s.left = u :: r ∧ u.kind ≠ k := by
      unfold rHas at hk2
      by_cases h0 : s.err = 0
      · cases hl : s.left with
        | nil => exact Or.inr (Or.inl ⟨h0, rfl⟩)
        | cons u r =>
          rw [hl] at hk2
          refine Or.inr (Or.inr ⟨u, r, h0, rfl, fun e => ?_⟩)
          simp [h0, e] at hk2
      · exact Or.inl h0
    have HR := Lib.hid hR
    clear hk hk2 e2
    go_enter Tryz.func24, Tryz.ntmps24
    go_upto_region 1 with fail
    have k_R := HR.out
    obtain ⟨W1, hW1, bW1, sW1, k2_R, k2_t⟩ : ∃ xW, (w.alloc (.cells #[.int .i64 0, .string ⟨#[]⟩, .int .i64 0, .int .i64 0] 67)) = xW ∧ Kp (onlyB rb) w xW ∧ w.heap.size + 1 ≤ xW.heap.size ∧ Blk xW (rb) 57 [.slice p Ls.length cap, .int .i64 (i : Nat), .int .i64 (s.err : Nat), .int .i64 (s.pos : Nat), .int .i64 (N : Nat)] ∧ Blk xW (w.heap.size) 67 [.int .i64 0, .string ⟨#[]⟩, .int .i64 0, .int .i64 0] := ⟨_, rfl, (Kp.alloc (Kp.refl (onlyB rb) w) _), by simp only [World.setCell, World.size_alloc, Array.size_modify, Nat.le_refl], (Blk.alloc k_R _), (Blk.new' _ _ _ (rfl))⟩
    rw [hW1]
    clear hW1 k_R
    have k_R := k2_R
    have k_t := k2_t
    clear k2_R k2_t
    rcases hcase with h0 | ⟨h0, hl⟩ | ⟨u, r, h0, hl, hku⟩
    · have hne : (((s.err : Nat) : Int) != 0) = true := by simp [h0]
      clear hI hB hR h0
      have q_R0 := k_R.cell (i := 0) rfl
      have q_R1 := k_R.cell (i := 1) rfl
      have q_R2 := k_R.cell (i := 2) rfl
      have q_R3 := k_R.cell (i := 3) rfl
      have q_R4 := k_R.cell (i := 4) rfl
      have q_Rf := k_R.free
      go_quiet (fail)
      have HRq : Hid (Blk (W1.drewN nq) rb 57 [.slice p Ls.length cap, .int .i64 (i : Nat), .int .i64 (s.err : Nat), .int .i64 (s.pos : Nat), .int .i64 (N : Nat)]) := Lib.hid k_R
      have HTq : Hid (Blk (W1.drewN nq) (w.heap.size) 67 [.int .i64 0, .string ⟨#[]⟩, .int .i64 0, .int .i64 0]) := Lib.hid k_t
      have HKq : Hid (Kp (onlyB rb) w (W1.drewN nq)) := Lib.hid (bW1.drewN nq)
      clear q_R0 q_R1 q_R2 q_R3 q_R4 q_Rf
      go_upto_region 2 with fail
      obtain ⟨W2, hW2⟩ : ∃ x, W1.drewN nq = x := ⟨_, rfl⟩
      have sW2 : w.heap.size + 1 ≤ W2.heap.size := by rw [← hW2]; exact sW1
      rw [hW2] at HRq HTq HKq ⊢
      clear hW2 k_R k_t bW1 sW1
      have k_R := HRq.out
      have k_t := HTq.out
      have bW2 := HKq.out
      clear HRq HTq HKq
      go_wp2_with fail
      refine (dfail_any B N Ls p cap hL rb s i HI.out hi W2 (Below.kp HB.out hrb bW2) hrb k_R).mono ?_; rintro e W3 ⟨rfl, hr, hl_, hb⟩
      have sW3 := Nat.le_trans sW2 hb.size
      have bW3 := (bW2).trans hb
      replace k_R := hr
      replace k_t := Blk.kept k_t hb (by show ¬ _ = rb; omega)
      clear hb hr bW2 sW2
      rw [HF.out] at hl_ k_R
      have HL3 := Lib.hid hl_
      clear hl_
      have q_t0 := k_t.cell (i := 0) rfl
      have q_t1 := k_t.cell (i := 1) rfl
      have q_t2 := k_t.cell (i := 2) rfl
      have q_t3 := k_t.cell (i := 3) rfl
      have q_tf := k_t.free
      go_wp2
      clear q_t0 q_t1 q_t2 q_t3 q_tf
      obtain ⟨W4, hW4, bW4, sW4, k2_R, k2_t⟩ : ∃ xW, ((((W3.setCell ⟨w.heap.size, 0, none⟩ (.int .i64 0)).setCell ⟨w.heap.size, 1, none⟩ (.string ⟨#[]⟩)).setCell ⟨w.heap.size, 2, none⟩ (.int .i64 0)).setCell ⟨w.heap.size, 3, none⟩ (.int .i64 0)) = xW ∧ Kp (onlyB rb) w xW ∧ W3.heap.size ≤ xW.heap.size ∧ Blk xW (rb) 57 [.slice p Ls.length cap, .int .i64 (i : Nat), .int .i64 (s2.err : Nat), .int .i64 (s2.pos : Nat), .int .i64 (N : Nat)] ∧ Blk xW (w.heap.size) 67 [.int .i64 0, .string ⟨#[]⟩, .int .i64 0, .int .i64 0] := ⟨_, rfl, (Kp.s4 bW3 (Or.inr (by omega))), by simp only [World.setCell, World.size_alloc, Array.size_modify, Nat.le_refl], (Blk.o4 k_R (by omega)), (Blk.cast (Blk.set (Blk.set (Blk.set (Blk.set k_t 0 _) 1 _) 2 _) 3 _) rfl)⟩
      rw [hW4]
      clear hW4 k_R k_t
      have k_R := k2_R
      have k_t := k2_t
      clear k2_R k2_t
      exact bodyPost_ret (results_cell_mid rfl _ _ w.heap.size _ _ rfl k_t.range Tryz.underlying67 rfl (by kernel_rfl)) rfl ⟨rfl, ⟨i, k_R, HL3.out, hi⟩, bW4⟩
    · have hi2 := drop_nil (hI.symm.trans hl) hi
      have hne : (((s.err : Nat) : Int) != 0) = false := by simp [h0]
      have hge : (Ls.length : Int) ≤ (i : Int) := by omega
      clear hI hB hR h0 hl hi2
      have q_R0 := k_R.cell (i := 0) rfl
      have q_R1 := k_R.cell (i := 1) rfl
      have q_R2 := k_R.cell (i := 2) rfl
      have q_R3 := k_R.cell (i := 3) rfl
      have q_R4 := k_R.cell (i := 4) rfl
      have q_Rf := k_R.free
      go_quiet (fail)
      have HRq : Hid (Blk (W1.drewN nq) rb 57 [.slice p Ls.length cap, .int .i64 (i : Nat), .int .i64 (s.err : Nat), .int .i64 (s.pos : Nat), .int .i64 (N : Nat)]) := Lib.hid k_R
      have HTq : Hid (Blk (W1.drewN nq) (w.heap.size) 67 [.int .i64 0, .string ⟨#[]⟩, .int .i64 0, .int .i64 0]) := Lib.hid k_t
      have HKq : Hid (Kp (onlyB rb) w (W1.drewN nq)) := Lib.hid (bW1.drewN nq)
      clear q_R0 q_R1 q_R2 q_R3 q_R4 q_Rf
      go_upto_region 2 with fail
      obtain ⟨W2, hW2⟩ : ∃ x, W1.drewN nq = x := ⟨_, rfl⟩
      have sW2 : w.heap.size + 1 ≤ W2.heap.size := by rw [← hW2]; exact sW1
      rw [hW2] at HRq HTq HKq ⊢
      clear hW2 k_R k_t bW1 sW1
      have k_R := HRq.out
      have k_t := HTq.out
      have bW2 := HKq.out
      clear HRq HTq HKq
      go_wp2_with fail
      refine (dfail_any B N Ls p cap hL rb s i HI.out hi W2 (Below.kp HB.out hrb bW2) hrb k_R).mono ?_; rintro e W3 ⟨rfl, hr, hl_, hb⟩
      have sW3 := Nat.le_trans sW2 hb.size
      have bW3 := (bW2).trans hb
      replace k_R := hr
      replace k_t := Blk.kept k_t hb (by show ¬ _ = rb; omega)
      clear hb hr bW2 sW2
      rw [HF.out] at hl_ k_R
      have HL3 := Lib.hid hl_
      clear hl_
      have q_t0 := k_t.cell (i := 0) rfl
      have q_t1 := k_t.cell (i := 1) rfl
      have q_t2 := k_t.cell (i := 2) rfl
      have q_t3 := k_t.cell (i := 3) rfl
      have q_tf := k_t.free
      go_wp2
      clear q_t0 q_t1 q_t2 q_t3 q_tf
      obtain ⟨W4, hW4, bW4, sW4, k2_R, k2_t⟩ : ∃ xW, ((((W3.setCell ⟨w.heap.size, 0, none⟩ (.int .i64 0)).setCell ⟨w.heap.size, 1, none⟩ (.string ⟨#[]⟩)).setCell ⟨w.heap.size, 2, none⟩ (.int .i64 0)).setCell ⟨w.heap.size, 3, none⟩ (.int .i64 0)) = xW ∧ Kp (onlyB rb) w xW ∧ W3.heap.size ≤ xW.heap.size ∧ Blk xW (rb) 57 [.slice p Ls.length cap, .int .i64 (i : Nat), .int .i64 (s2.err : Nat), .int .i64 (s2.pos : Nat), .int .i64 (N : Nat)] ∧ Blk xW (w.heap.size) 67 [.int .i64 0, .string ⟨#[]⟩, .int .i64 0, .int .i64 0] := ⟨_, rfl, (Kp.s4 bW3 (Or.inr (by omega))), by simp only [World.setCell, World.size_alloc, Array.size_modify, Nat.le_refl], (Blk.o4 k_R (by omega)), (Blk.cast (Blk.set (Blk.set (Blk.set (Blk.set k_t 0 _) 1 _) 2 _) 3 _) rfl)⟩
      rw [hW4]
      clear hW4 k_R k_t
      have k_R := k2_R
      have k_t := k2_t
      clear k2_R k2_t
      exact bodyPost_ret (results_cell_mid rfl _ _ w.heap.size _ _ rfl k_t.range Tryz.underlying67 rfl (by kernel_rfl)) rfl ⟨rfl, ⟨i, k_R, HL3.out, hi⟩, bW4⟩
    · obtain ⟨b, off, hpe, hlt, ht⟩ := hL.tok hB hrb (hI.symm.trans hl)
      subst hpe
      have hbr : b ≠ rb := fun e => by
        rcases hL.at_ with h | ⟨b', off', e2, hb, _⟩
        · rw [h] at hlt; simp at hlt
        · cases e2; omega
      have ht1 := ht.kept bW1 (fun e => hbr e)
      have t_kind := ht1.kind
      have hix : (0 : Int) ≤ (i : Int) ∧ (i : Int) < (Ls.length : Int) := by omega
      have hge : ¬ (Ls.length : Int) ≤ (i : Int) := by omega
      have hd2 : (((u.kind : Nat) : Int) != ((k : Nat) : Int)) = true := by simp; omega
      have hne : (((s.err : Nat) : Int) != 0) = false := by simp [h0]
      clear hI hB hR h0 hl hku ht ht1 hbr
      have q_R0 := k_R.cell (i := 0) rfl
      have q_R1 := k_R.cell (i := 1) rfl
      have q_R2 := k_R.cell (i := 2) rfl
      have q_R3 := k_R.cell (i := 3) rfl
      have q_R4 := k_R.cell (i := 4) rfl
      have q_Rf := k_R.free
      go_quiet (fail)
      have HRq : Hid (Blk (W1.drewN nq) rb 57 [.slice (some ⟨b, off, none⟩) Ls.length cap, .int .i64 (i : Nat), .int .i64 (s.err : Nat), .int .i64 (s.pos : Nat), .int .i64 (N : Nat)]) := Lib.hid k_R
      have HTq : Hid (Blk (W1.drewN nq) (w.heap.size) 67 [.int .i64 0, .string ⟨#[]⟩, .int .i64 0, .int .i64 0]) := Lib.hid k_t
      have HKq : Hid (Kp (onlyB rb) w (W1.drewN nq)) := Lib.hid (bW1.drewN nq)
      clear q_R0 q_R1 q_R2 q_R3 q_R4 q_Rf
      go_upto_region 2 with fail
      obtain ⟨W2, hW2⟩ : ∃ x, W1.drewN nq = x := ⟨_, rfl⟩
      have sW2 : w.heap.size + 1 ≤ W2.heap.size := by rw [← hW2]; exact sW1
      rw [hW2] at HRq HTq HKq ⊢
      clear hW2 k_R k_t bW1 sW1
      have k_R := HRq.out
      have k_t := HTq.out
      have bW2 := HKq.out
      clear HRq HTq HKq
      go_wp2_with fail
      refine (dfail_any B N Ls _ cap hL rb s i HI.out hi W2 (Below.kp HB.out hrb bW2) hrb k_R).mono ?_; rintro e W3 ⟨rfl, hr, hl_, hb⟩
      have sW3 := Nat.le_trans sW2 hb.size
      have bW3 := (bW2).trans hb
      replace k_R := hr
      replace k_t := Blk.kept k_t hb (by show ¬ _ = rb; omega)
      clear hb hr bW2 sW2
      rw [HF.out] at hl_ k_R
      have HL3 := Lib.hid hl_
      clear hl_
      have q_t0 := k_t.cell (i := 0) rfl
      have q_t1 := k_t.cell (i := 1) rfl
      have q_t2 := k_t.cell (i := 2) rfl
      have q_t3 := k_t.cell (i := 3) rfl
      have q_tf := k_t.free
      go_wp2
      clear q_t0 q_t1 q_t2 q_t3 q_tf
      obtain ⟨W4, hW4, bW4, sW4, k2_R, k2_t⟩ : ∃ xW, ((((W3.setCell ⟨w.heap.size, 0, none⟩ (.int .i64 0)).setCell ⟨w.heap.size, 1, none⟩ (.string ⟨#[]⟩)).setCell ⟨w.heap.size, 2, none⟩ (.int .i64 0)).setCell ⟨w.heap.size, 3, none⟩ (.int .i64 0)) = xW ∧ Kp (onlyB rb) w xW ∧ W3.heap.size ≤ xW.heap.size ∧ Blk xW (rb) 57 [.slice (some ⟨b, off, none⟩) Ls.length cap, .int .i64 (i : Nat), .int .i64 (s2.err : Nat), .int .i64 (s2.pos : Nat), .int .i64 (N : Nat)] ∧ Blk xW (w.heap.size) 67 [.int .i64 0, .string ⟨#[]⟩, .int .i64 0, .int .i64 0] := ⟨_, rfl, (Kp.s4 bW3 (Or.inr (by omega))), by simp only [World.setCell, World.size_alloc, Array.size_modify, Nat.le_refl], (Blk.o4 k_R (by omega)), (Blk.cast (Blk.set (Blk.set (Blk.set (Blk.set k_t 0 _) 1 _) 2 _) 3 _) rfl)⟩
      rw [hW4]
      clear hW4 k_R k_t
      have k_R := k2_R
      have k_t := k2_t
      clear k2_R k2_t
      exact bodyPost_ret (results_cell_mid rfl _ _ w.heap.size _ _ rfl k_t.range Tryz.underlying67 rfl (by kernel_rfl)) rfl ⟨rfl, ⟨i, k_R, HL3.out, hi⟩, bW4⟩
set_option maxRecDepth 100000 in
theorem dname_c {nm : List UInt8} {s2 : St} (B : World) (N : Nat) (Ls : List Foyer.Lexer.Tok) (p : Option Addr) (cap : Nat) (hL : IsLs B p cap Ls) (rb : Nat) (s : St) (i : Nat) (hI : s.left = Ls.drop i) (hi : i ≤ Ls.length) (w : World) (hB : Below B.heap.size B w) (hrb : B.heap.size ≤ rb) (hR : Blk w rb 57 [.slice p Ls.length cap, .int .i64 (i : Nat), .int .i64 (s.err : Nat), .int .i64 (s.pos : Nat), .int .i64 (N : Nat)]) (h : nameS N s = (nm, s2)) :
    Calls Tryz.prog 12 #[.pointer (some ⟨rb, 0, none⟩)] w fun e w' => e = .returned (.string ⟨nm.toArray⟩) ∧ (∃ i2, Blk w' rb 57 [.slice p Ls.length cap, .int .i64 (i2 : Nat), .int .i64 (s2.err : Nat), .int .i64 (s2.pos : Nat), .int .i64 (N : Nat)] ∧ s2.left = Ls.drop i2 ∧ i2 ≤ Ls.length) ∧ Kp (onlyB rb) w w' := by
  obtain ⟨⟨t, s3⟩, ht⟩ : ∃ z, rTok N s 1 = z := ⟨_, rfl⟩
  unfold nameS at h
  rw [ht] at h
  injection h with e1 e2
  subst e1 e2
  have HC := Lib.hid (dtok_c 1 B N Ls p cap hL rb s i hI hi w hB hrb hR 1 rfl ht)
  clear hI hB hR ht
  go_enter Tryz.func12, Tryz.ntmps12
  go_wp2_with fail
  refine HC.out.mono ?_; rintro e W ⟨rfl, hr, hb⟩
  have HR := Lib.hid hr; have HB := Lib.hid hb
  clear hr hb HC
  have tf := tok_field1
  go_wp2
  exact bodyPost_ret (results_tmp rfl _ _ _) rfl ⟨rfl, HR.out, HB.out⟩
set_option maxRecDepth 100000 in
theorem dnum_c {n : Nat} {s2 : St} (B : World) (N : Nat) (Ls : List Foyer.Lexer.Tok) (p : Option Addr) (cap : Nat) (hL : IsLs B p cap Ls) (rb : Nat) (s : St) (i : Nat) (hI : s.left = Ls.drop i) (hi : i ≤ Ls.length) (w : World) (hB : Below B.heap.size B w) (hrb : B.heap.size ≤ rb) (hR : Blk w rb 57 [.slice p Ls.length cap, .int .i64 (i : Nat), .int .i64 (s.err : Nat), .int .i64 (s.pos : Nat), .int .i64 (N : Nat)]) (h : numS N s = (n, s2)) :
    Calls Tryz.prog 13 #[.pointer (some ⟨rb, 0, none⟩)] w fun e w' => e = .returned (.int .i64 (n : Nat)) ∧ (∃ i2, Blk w' rb 57 [.slice p Ls.length cap, .int .i64 (i2 : Nat), .int .i64 (s2.err : Nat), .int .i64 (s2.pos : Nat), .int .i64 (N : Nat)] ∧ s2.left = Ls.drop i2 ∧ i2 ≤ Ls.length) ∧ Kp (onlyB rb) w w' := by
  obtain ⟨⟨t, s3⟩, ht⟩ : ∃ z, rTok N s 2 = z := ⟨_, rfl⟩
  unfold numS at h
  rw [ht] at h
  injection h with e1 e2
  subst e1 e2
  have HC := Lib.hid (dtok_c 2 B N Ls p cap hL rb s i hI hi w hB hrb hR 2 rfl ht)
  clear hI hB hR ht
  go_enter Tryz.func13, Tryz.ntmps13
  go_wp2_with fail
  refine HC.out.mono ?_; rintro e W ⟨rfl, hr, hb⟩
  have HR := Lib.hid hr; have HB := Lib.hid hb
  clear hr hb HC
  have tf := tok_field2
  go_wp2
  exact bodyPost_ret (results_tmp rfl _ _ _) rfl ⟨rfl, HR.out, HB.out⟩
set_option maxRecDepth 100000 in
theorem dat_c {a : Nat} (B : World) (N : Nat) (Ls : List Foyer.Lexer.Tok) (p : Option Addr) (cap : Nat) (hL : IsLs B p cap Ls) (rb : Nat) (s : St) (i : Nat) (hI : s.left = Ls.drop i) (hi : i ≤ Ls.length) (w : World) (hB : Below B.heap.size B w) (hrb : B.heap.size ≤ rb) (hR : Blk w rb 57 [.slice p Ls.length cap, .int .i64 (i : Nat), .int .i64 (s.err : Nat), .int .i64 (s.pos : Nat), .int .i64 (N : Nat)]) (h : rAt N s = a) :
    Calls Tryz.prog 25 #[.pointer (some ⟨rb, 0, none⟩)] w fun e w' => e = .returned (.int .i64 (a : Nat)) ∧ Below w.heap.size w w' := by
  subst h
  have q0 := hR.cell (i := 0) rfl
  have q1 := hR.cell (i := 1) rfl
  have q2 := hR.cell (i := 2) rfl
  have q3 := hR.cell (i := 3) rfl
  have q4 := hR.cell (i := 4) rfl
  have qf := hR.free
  cases hl : s.left with
  | nil =>
    have e1 : rAt N s = N := by unfold rAt; rw [hl]
    rw [e1]
    have hi2 := drop_nil (hI.symm.trans hl) hi
    have hge : ¬ (i : Int) < (Ls.length : Int) := by omega
    clear hi2 hI hB hR hl e1
    go_enter Tryz.func25, Tryz.ntmps25
    go_upto_region 1 with fail
    go_quiet (fail)
    have q4' : (w.drewN nq).cell? ⟨rb, 4, none⟩ = some (.int .i64 (N : Nat)) := q4
    go_wp2
    exact bodyPost_ret (results_tmp rfl _ _ _) rfl ⟨rfl, below_drewN (Below.refl _ _) _⟩
  | cons t r =>
    have e1 : rAt N s = t.pos := by unfold rAt; rw [hl]
    rw [e1]
    obtain ⟨b, off, hpe, hlt, ht⟩ := hL.tok hB hrb (hI.symm.trans hl)
    subst hpe
    have hix : (0 : Int) ≤ (i : Int) ∧ (i : Int) < (Ls.length : Int) := by omega
    have hil : (i : Int) < (Ls.length : Int) := by omega
    have t_pos := ht.pos
    clear hI hB hR hl e1 ht
    go_enter Tryz.func25, Tryz.ntmps25
    go_upto_region 1 with fail
    go_quiet (fail)
    go_upto_region 2 with fail
    have q0' : (w.drewN nq).cell? ⟨rb, 0, none⟩ = _ := q0
    have q1' : (w.drewN nq).cell? ⟨rb, 1, none⟩ = _ := q1
    have t_pos' : (w.drewN nq).cell? ⟨b, off + i * 4 + 3, none⟩ = _ := t_pos
    have hbel : Below w.heap.size w (w.drewN nq) := below_drewN (Below.refl _ _) _
    have HBE := Lib.hid hbel
    clear q0 q1 q2 q3 q4 qf t_pos hbel
    generalize w.drewN nq = w2 at *
    go_quiet (fail)
    go_wp2
    exact bodyPost_ret (results_tmp rfl _ _ _) rfl ⟨rfl, below_drewN HBE.out _⟩
set_option maxRecDepth 100000 in
theorem dbox_c {b : BoxP} {s2 : St} (B : World) (N : Nat) (Ls : List Foyer.Lexer.Tok) (p : Option Addr) (cap : Nat) (hL : IsLs B p cap Ls) (rb : Nat) (s : St) (i : Nat) (hI : s.left = Ls.drop i) (hi : i ≤ Ls.length) (w : World) (hB : Below B.heap.size B w) (hrb : B.heap.size ≤ rb) (hR : Blk w rb 57 [.slice p Ls.length cap, .int .i64 (i : Nat), .int .i64 (s.err : Nat), .int .i64 (s.pos : Nat), .int .i64 (N : Nat)]) (h : boxS N s = (b, s2)) :
    Calls Tryz.prog 44 #[.pointer (some ⟨rb, 0, none⟩)] w fun e w' => e = .returned (.agg #[.int .i64 (b.x : Nat), .int .i64 (b.y : Nat), .int .i64 (b.x2 : Nat), .int .i64 (b.y2 : Nat)]) ∧ (∃ i2, Blk w' rb 57 [.slice p Ls.length cap, .int .i64 (i2 : Nat), .int .i64 (s2.err : Nat), .int .i64 (s2.pos : Nat), .int .i64 (N : Nat)] ∧ s2.left = Ls.drop i2 ∧ i2 ≤ Ls.length) ∧ Kp (onlyB rb) w w' := by
  obtain ⟨⟨n1, s3⟩, h1⟩ : ∃ z, numS N s = z := ⟨_, rfl⟩
  obtain ⟨⟨n2, s4⟩, h2⟩ : ∃ z, numS N s3 = z := ⟨_, rfl⟩
  obtain ⟨⟨n3, s5⟩, h3⟩ : ∃ z, numS N s4 = z := ⟨_, rfl⟩
  obtain ⟨⟨n4, s6⟩, h4⟩ : ∃ z, numS N s5 = z := ⟨_, rfl⟩
  unfold boxS bindS retS at h
  simp only [bindS, retS, h1, h2, h3, h4] at h
  injection h with e1 e2
  subst e1 e2
  have hlr := hR.lt
  have HI := Lib.hid hI; have HB := Lib.hid hB; have HR := Lib.hid hR; have N1 := Lib.hid h1; have N2 := Lib.hid h2; have N3 := Lib.hid h3; have N4 := Lib.hid h4
  clear hI hB hR h1 h2 h3 h4
  go_enter Tryz.func44, Tryz.ntmps44
  go_upto_region 1 with fail
  have k_R := HR.out
  obtain ⟨W1, hW1, bW1, sW1, k2_R, k2_t⟩ : ∃ xW, (w.alloc (.cells #[.int .i64 0, .int .i64 0, .int .i64 0, .int .i64 0] 48)) = xW ∧ Kp (onlyB rb) w xW ∧ w.heap.size + 1 ≤ xW.heap.size ∧ Blk xW (rb) 57 [.slice p Ls.length cap, .int .i64 (i : Nat), .int .i64 (s.err : Nat), .int .i64 (s.pos : Nat), .int .i64 (N : Nat)] ∧ Blk xW (w.heap.size) 48 [.int .i64 0, .int .i64 0, .int .i64 0, .int .i64 0] := ⟨_, rfl, (Kp.alloc (Kp.refl (onlyB rb) w) _), by simp only [World.setCell, World.size_alloc, Array.size_modify, Nat.le_refl], (Blk.alloc k_R _), (Blk.new' _ _ _ (rfl))⟩
  rw [hW1]
  clear hW1 k_R
  have k_R := k2_R
  have k_t := k2_t
  clear k2_R k2_t
  go_wp2_with fail
  refine (dnum_c B N Ls p cap hL rb s i HI.out hi W1 (Below.kp HB.out hrb bW1) hrb k_R N1.out).mono ?_; rintro e W2 ⟨rfl, ⟨i3, hr, hl_, hi3⟩, hb⟩
  have sW2 := Nat.le_trans sW1 hb.size
  have bW2 := (bW1).trans hb
  replace k_R := hr
  replace k_t := Blk.kept k_t hb (by show ¬ _ = rb; omega)
  clear hb hr bW1 sW1
  have HI3 := Lib.hid hl_
  clear hl_
  go_wp2_with fail
  refine (dnum_c B N Ls p cap hL rb s3 i3 HI3.out hi3 W2 (Below.kp HB.out hrb bW2) hrb k_R N2.out).mono ?_; rintro e W3 ⟨rfl, ⟨i4, hr, hl_, hi4⟩, hb⟩
  have sW3 := Nat.le_trans sW2 hb.size
  have bW3 := (bW2).trans hb
  replace k_R := hr
  replace k_t := Blk.kept k_t hb (by show ¬ _ = rb; omega)
  clear hb hr bW2 sW2
  have HI4 := Lib.hid hl_
  clear hl_
  go_wp2_with fail
  refine (dnum_c B N Ls p cap hL rb s4 i4 HI4.out hi4 W3 (Below.kp HB.out hrb bW3) hrb k_R N3.out).mono ?_; rintro e W4 ⟨rfl, ⟨i5, hr, hl_, hi5⟩, hb⟩
  have sW4 := Nat.le_trans sW3 hb.size
  have bW4 := (bW3).trans hb
  replace k_R := hr
  replace k_t := Blk.kept k_t hb (by show ¬ _ = rb; omega)
  clear hb hr bW3 sW3
  have HI5 := Lib.hid hl_
  clear hl_
  go_wp2_with fail
  refine (dnum_c B N Ls p cap hL rb s5 i5 HI5.out hi5 W4 (Below.kp HB.out hrb bW4) hrb k_R N4.out).mono ?_; rintro e W5 ⟨rfl, ⟨i6, hr, hl_, hi6⟩, hb⟩
  have sW5 := Nat.le_trans sW4 hb.size
  have bW5 := (bW4).trans hb
  replace k_R := hr
  replace k_t := Blk.kept k_t hb (by show ¬ _ = rb; omega)
  clear hb hr bW4 sW4
  have HI6 := Lib.hid hl_
  clear hl_
  have q_t0 := k_t.cell (i := 0) rfl
  have q_t1 := k_t.cell (i := 1) rfl
  have q_t2 := k_t.cell (i := 2) rfl
  have q_t3 := k_t.cell (i := 3) rfl
  have q_tf := k_t.free
  go_wp2
  clear q_t0 q_t1 q_t2 q_t3 q_tf
  obtain ⟨W6, hW6, bW6, sW6, k2_R, k2_t⟩ : ∃ xW, ((((W5.setCell ⟨w.heap.size, 0, none⟩ (.int .i64 (n1 : Nat))).setCell ⟨w.heap.size, 1, none⟩ (.int .i64 (n2 : Nat))).setCell ⟨w.heap.size, 2, none⟩ (.int .i64 (n3 : Nat))).setCell ⟨w.heap.size, 3, none⟩ (.int .i64 (n4 : Nat))) = xW ∧ Kp (onlyB rb) w xW ∧ W5.heap.size ≤ xW.heap.size ∧ Blk xW (rb) 57 [.slice p Ls.length cap, .int .i64 (i6 : Nat), .int .i64 (s6.err : Nat), .int .i64 (s6.pos : Nat), .int .i64 (N : Nat)] ∧ Blk xW (w.heap.size) 48 [.int .i64 (n1 : Nat), .int .i64 (n2 : Nat), .int .i64 (n3 : Nat), .int .i64 (n4 : Nat)] := ⟨_, rfl, (Kp.s4 bW5 (Or.inr (by omega))), by simp only [World.setCell, World.size_alloc, Array.size_modify, Nat.le_refl], (Blk.o4 k_R (by omega)), (Blk.cast (Blk.set (Blk.set (Blk.set (Blk.set k_t 0 _) 1 _) 2 _) 3 _) rfl)⟩
  rw [hW6]
  clear hW6 k_R k_t
  have k_R := k2_R
  have k_t := k2_t
  clear k2_R k2_t
  exact bodyPost_ret (results_cell_mid rfl _ _ w.heap.size _ _ rfl k_t.range Tryz.underlying48 rfl (by kernel_rfl)) rfl ⟨rfl, ⟨i6, k_R, HI6.out, hi6⟩, bW6⟩
end Go.Proofs.YtlfjdohjfmfcdaaGreatDoor
