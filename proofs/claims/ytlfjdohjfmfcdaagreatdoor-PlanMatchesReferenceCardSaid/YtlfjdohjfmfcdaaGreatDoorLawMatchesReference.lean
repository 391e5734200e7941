/-
  The document's own Parse of plans, and the law PlanMatchesReference: their walks.
-/
import Derived.Test.YtlfjdohjfmfcdaaGreatDoorRefLevel6
import Derived.Test.YtlfjdohjfmfcdaaGreatDoorRefLex
import Derived.Test.YtlfjdohjfmfcdaaGreatDoorWalkPlan
import Derived.Test.YtlfjdohjfmfcdaaGreatDoorHead6
import Derived.Test.YtlfjdohjfmfcdaaGreatDoorRefSame6
import Derived.Test.YtlfjdohjfmfcdaaGreatDoorEnv
namespace Foyer.Plan
open Foyer.Lexer

theorem lx_short {a : Nat} {l : List UInt8} {ts : List Tok} {e : Option (Nat × Nat)} (h : Lx a l ts e) : ∀ t ∈ ts, t.text.length ≤ 24 ∧ t.kind ≠ 0 := by
  induction h with
  | nil => simp
  | bad => simp
  | good a g T rest k v ts e h hT hr ih =>
    intro t ht
    rcases List.mem_cons.1 ht with rfl | ht
    · rcases hT with ⟨rfl, _, h, _⟩ | ⟨rfl, _, _, h, _⟩ | ⟨rfl, _, c, rfl, _⟩ | ⟨rfl, _, c, rfl, _⟩ | ⟨rfl, _, c, rfl, _⟩
      · exact ⟨h, by simp⟩
      · exact ⟨Nat.le_trans h (by omega), by simp⟩
      all_goals exact ⟨by simp, by simp⟩
    · exact ih t ht
theorem lex_inv {l : List UInt8} (h : (lexAll l).2.1 = 0) : ∃ ts, lexAll l = (ts, 0, 0) ∧ Lx 0 l ts none ∧ ts.length ≤ 5000 ∧ l.length ≤ 20000 := by
  obtain ⟨ts, e, hx⟩ := lx_some 0 l
  have hr := lx_raw hx (l.length + 1) (by omega)
  have hb := (lexAll_bounds l).1
  unfold lexAll at h hb ⊢
  split at h
  · simp at h
  · rename_i hl
    rw [if_neg hl] at hb ⊢
    simp only [hr] at h hb ⊢
    cases hd : ts.drop 5000 with
    | cons t r => simp only [hd] at h; omega
    | nil =>
      simp only [hd] at h hb ⊢
      cases e with
      | none => exact ⟨ts, rfl, hx, hb, by omega⟩
      | some y =>
        obtain ⟨d, p⟩ := y
        have := (lx_err hx d p rfl).1
        simp only at h
        omega
theorem lexAll_short (l : List UInt8) : ∀ t ∈ (lexAll l).1, t.text.length ≤ 24 ∧ t.kind ≠ 0 := by
  by_cases h : (lexAll l).2.1 = 0
  · obtain ⟨ts, h1, h2, _⟩ := lex_inv h
    rw [h1]; exact lx_short h2
  · have : (lexAll l).1 = [] := by
      unfold lexAll at h ⊢
      split
      · rfl
      · rename_i hl
        rw [if_neg hl] at h
        simp only at h ⊢
        split
        · rfl
        · rename_i hd
          rw [hd] at h
          simp only at h
          split
          · rename_i he; rw [he] at h; simp at h
          · rfl
    rw [this]; simp
end Foyer.Plan
namespace Go.Proofs.YtlfjdohjfmfcdaaGreatDoor
open Go.RowKit Go.Sort Foyer.Plan
set_option linter.unusedSimpArgs false

theorem results_d6 (tmps : Array Value) (W : World) (hb : Nat) (c0 c1 c2 c3 : Value) (h : Blk W hb 27 [c0, c1, c2, c3]) (h2 : tmps.getD 2 undef = .pointer (some ⟨hb, 0, none⟩)) :
    (results Tryz.f6 tmps).run Tryz.prog W = .ok (.tuple #[.agg #[c0, c1, c2, c3], tmps.getD 3 undef, tmps.getD 4 undef]) W := by
  have e0 := h.cell (i := 0) rfl
  have e1 := h.cell (i := 1) rfl
  have e2 := h.cell (i := 2) rfl
  have e3 := h.cell (i := 3) rfl
  have h2' : tmps[2]?.getD undef = .pointer (some ⟨hb, 0, none⟩) := by simpa using h2
  simp [results, Tryz.results6, h2', e0, e1, e2, e3, go_sem]
theorem rEnd_bad {N : Nat} {y : HallP} {s s9 : St} (h : rLast N s = s9) (hb : s9.err ≠ 0) : rEnd N (y, s) = (noHall, s9.err, s9.pos) := by
  show (if (rLast N s).err ≠ 0 then (noHall, (rLast N s).err, (rLast N s).pos) else (y, 0, 0)) = _
  rw [h, if_pos hb]
theorem rEnd_good {N : Nat} {y : HallP} {s : St} (h0 : s.err = 0) (hl : s.left = []) : rEnd N (y, s) = (y, 0, 0) := by
  have e : rLast N s = s := by unfold rLast; rw [if_neg (fun k => k.2 hl)]
  show (if (rLast N s).err ≠ 0 then (noHall, (rLast N s).err, (rLast N s).pos) else (y, 0, 0)) = _
  rw [e, if_neg (fun k => k h0)]
set_option maxRecDepth 100000 in
set_option maxHeartbeats 16000000 in
theorem dparse_any (t : ByteArray) (ht : t.size ≤ 1000000) (w : World) : Calls Tryz.prog 6 #[.string t] w fun e w' => PlanV w.heap.size (parseAll t.data.toList) e w' ∧ Below w.heap.size w w' := by
  rw [← rAll_eq]
  have hsz : t.data.toList.length = t.size := by rw [Array.length_toList]; rfl
  have hsh : ∀ u ∈ (Foyer.Lexer.lexAll t.data.toList).1, u.text.length ≤ 1000000 := fun u hu => Nat.le_trans (lexAll_short _ u hu).1 (by decide)
  have hsa := lexAll_saneK t.data.toList
  have hfew := (Foyer.Lexer.lexAll_bounds t.data.toList).1
  have hlx := fun w => rlex_any t ht w
  unfold LexPost at hlx
  unfold rAll
  rw [hsz]
  obtain ⟨N, hN⟩ : ∃ z, t.size = z := ⟨_, rfl⟩
  obtain ⟨⟨Ls, F, P⟩, hx⟩ : ∃ z, Foyer.Lexer.lexAll t.data.toList = z := ⟨_, rfl⟩
  rw [hx] at hsh hsa hfew ⊢
  simp only [hx] at hlx
  rw [hN]
  dsimp only at hsh hsa hfew ⊢
  obtain ⟨R, hRR⟩ : ∃ z : HallP × Nat × Int, (if F = 0 then ((rEnd N (hallS N ⟨Ls, 0, 0⟩)).1, (rEnd N (hallS N ⟨Ls, 0, 0⟩)).2.1, (((rEnd N (hallS N ⟨Ls, 0, 0⟩)).2.2 : Nat) : Int)) else (noHall, F, P)) = z := ⟨_, rfl⟩
  rw [hRR]
  have H := Lib.hid hRR; have HLX := Lib.hid hlx; have HSH := Lib.hid hsh; have HSA := Lib.hid (show SaneS ⟨Ls, 0, 0⟩ from ⟨hsa, hfew⟩); have HNN := Lib.hid hN; have HFEW := Lib.hid hfew
  clear hRR hlx hsh hsa hx hsz ht hN hfew
  go_enter Tryz.func6, Tryz.ntmps6
  go_upto_region 1 with fail
  obtain ⟨W1, hW1, bW1, sW1, k2_t⟩ : ∃ xW, (w.alloc (.cells #[.string ⟨#[]⟩, .int .i64 0, .int .i64 0, .slice none 0 0] 27)) = xW ∧ Since w xW ∧ w.heap.size + 1 ≤ xW.heap.size ∧ Blk xW (w.heap.size) 27 [.string ⟨#[]⟩, .int .i64 0, .int .i64 0, .slice none 0 0] := ⟨_, rfl, (Since.alloc (Since.refl w) _), by simp only [World.setCell, World.size_alloc, Array.size_modify, Nat.le_refl], (Blk.new' _ _ _ (rfl))⟩
  rw [hW1]
  clear hW1
  have k_t := k2_t
  clear k2_t
  go_wp2_with fail
  refine (HLX.out _).mono ?_; rintro e B ⟨p, cap, rfl, hr, hc, ⟨hm, hn⟩, hb⟩
  have sB := Nat.le_trans sW1 hb.size
  have bB := (bW1).call hb
  replace k_t := k_t.past hb
  clear hb bW1 sW1
  have hL : IsLs B p cap Ls := ⟨hr, hc, hm, HSH.out, HFEW.out⟩
  clear hr hc hm hn
  by_cases hF : F = 0
  rotate_left
  · have h := H.out
    rw [if_neg hF] at h
    subst h
    have hne : (((F : Nat) : Int) != 0) = true := by simp [hF]
    clear H
    have q_t0 := k_t.cell (i := 0) rfl
    have q_t1 := k_t.cell (i := 1) rfl
    have q_t2 := k_t.cell (i := 2) rfl
    have q_t3 := k_t.cell (i := 3) rfl
    have q_tf := k_t.free
    go_wp2
    clear q_t0 q_t1 q_t2 q_t3 q_tf
    obtain ⟨W2, hW2, bW2, sW2, k2_t⟩ : ∃ xW, ((((B.setCell ⟨w.heap.size, 0, none⟩ (.string ⟨#[]⟩)).setCell ⟨w.heap.size, 1, none⟩ (.int .i64 0)).setCell ⟨w.heap.size, 2, none⟩ (.int .i64 0)).setCell ⟨w.heap.size, 3, none⟩ (.slice none 0 0)) = xW ∧ Since w xW ∧ B.heap.size ≤ xW.heap.size ∧ Blk xW (w.heap.size) 27 [.string ⟨#[]⟩, .int .i64 0, .int .i64 0, .slice none 0 0] := ⟨_, rfl, (Since.s4 bB (by omega)), by simp only [World.setCell, World.size_alloc, Array.size_modify, Nat.le_refl], (Blk.cast (Blk.set (Blk.set (Blk.set (Blk.set k_t 0 _) 1 _) 2 _) 3 _) rfl)⟩
    rw [hW2]
    clear hW2 k_t
    have k_t := k2_t
    clear k2_t
    exact bodyPost_ret (results_d6 _ _ _ _ _ _ _ k_t rfl) rfl ⟨⟨_, rfl, _, rfl, nil_is6 _ _ _ _⟩, bW2⟩
  subst hF
  have h := H.out
  rw [if_pos rfl] at h
  clear H
  have H := Lib.hid h
  clear h
  have hsize := HNN.out
  have hne : (((0 : Nat) : Int) != 0) = false := rfl
  go_upto_region 5 with fail
  clear hne
  clear hsize
  obtain ⟨W2, hW2, bW2, sW2, k2_t, k2_R⟩ : ∃ xW, (B.alloc (.cells #[.slice p Ls.length cap, .int .i64 0, .int .i64 0, .int .i64 0, .int .i64 (N : Nat)] 57)) = xW ∧ Since B xW ∧ B.heap.size + 1 ≤ xW.heap.size ∧ Blk xW (w.heap.size) 27 [.string ⟨#[]⟩, .int .i64 0, .int .i64 0, .slice none 0 0] ∧ Blk xW (B.heap.size) 57 [.slice p Ls.length cap, .int .i64 0, .int .i64 0, .int .i64 0, .int .i64 (N : Nat)] := ⟨_, rfl, (Since.alloc (Since.refl B) _), by simp only [World.setCell, World.size_alloc, Array.size_modify, Nat.le_refl], (Blk.alloc k_t _), (Blk.new' _ _ _ (rfl))⟩
  rw [hW2]
  clear hW2 k_t
  have k_t := k2_t
  have k_R := k2_R
  clear k2_t k2_R
  obtain ⟨rb, hrb_⟩ : ∃ z, B.heap.size = z := ⟨_, rfl⟩
  rw [hrb_] at k_R ⊢
  have hrb : B.heap.size ≤ rb := by omega
  have hlr : rb < W2.heap.size := by omega
  have hw0 : w.heap.size + 1 ≤ rb := by omega
  have HB : Hid (Below B.heap.size B W2) := Lib.hid bW2
  have BW := Lib.hid (Kp.of_below (E := onlyB rb) (bB.call bW2))
  clear bW2 bB
  obtain ⟨s0, hs0⟩ : ∃ z, (⟨Ls, 0, 0⟩ : St) = z := ⟨_, rfl⟩
  have h := H.out
  rw [hs0] at h
  have hs : SaneS s0 := by rw [← hs0]; exact HSA.out
  have HI : Hid (s0.left = Ls.drop 0) := Lib.hid (by rw [← hs0]; rfl)
  have hi : 0 ≤ Ls.length := Nat.zero_le _
  replace k_R : Blk W2 rb 57 [.slice p Ls.length cap, .int .i64 (0 : Nat), .int .i64 (s0.err : Nat), .int .i64 (s0.pos : Nat), .int .i64 (N : Nat)] := by rw [← hs0]; exact k_R
  obtain ⟨⟨y, sz⟩, hz⟩ : ∃ z, hallS N s0 = z := ⟨_, rfl⟩
  rw [hz] at h
  obtain ⟨s1, h1⟩ : ∃ z, rMust N s0 wHall = z := ⟨_, rfl⟩
  obtain ⟨⟨nm, s2⟩, h2⟩ : ∃ z, nameS N s1 = z := ⟨_, rfl⟩
  obtain ⟨s3, h3⟩ : ∃ z, rMust N s2 wStage = z := ⟨_, rfl⟩
  obtain ⟨⟨sx, s4⟩, h4⟩ : ∃ z, numS N s3 = z := ⟨_, rfl⟩
  obtain ⟨⟨sy, s5⟩, h5⟩ : ∃ z, numS N s4 = z := ⟨_, rfl⟩
  obtain ⟨s6, h6⟩ : ∃ z, rMust N s5 wOpen = z := ⟨_, rfl⟩
  obtain ⟨⟨ls, s7⟩, h7⟩ : ∃ z, rMany wClose (fun s : St => ([(levelS N s).1], (levelS N s).2)) (s6.left.length + 1) [] s6 = z := ⟨_, rfl⟩
  obtain ⟨s8, h8⟩ : ∃ z, rMust N s7 wClose = z := ⟨_, rfl⟩
  unfold hallS at hz
  simp only [bindS, retS, mustS, manyS, h1, h2, h3, h4, h5, h6, h7, h8] at hz
  injection hz with e1 e2
  subst e1 e2
  clear H hs0 HSA
  have H := Lib.hid h
  clear h
  have hS1 : SaneS s1 := hs.suf (by have := (must_m (N := N) (x := wHall) ⟨104, _, rfl, by decide⟩ s0 hs).1; rw [show (mustS N wHall s0).2 = s1 from h1] at this; exact this)
  have hS2 : SaneS s2 := hS1.suf (by have := (name_m (N := N) s1 hS1).1; rw [h2] at this; exact this)
  have hS3 : SaneS s3 := hS2.suf (by have := (must_m (N := N) (x := wStage) ⟨115, _, rfl, by decide⟩ s2 hS2).1; rw [show (mustS N wStage s2).2 = s3 from h3] at this; exact this)
  have hS4 : SaneS s4 := hS3.suf (by have := (num_m (N := N) s3 hS3).1; rw [h4] at this; exact this)
  have hS5 : SaneS s5 := hS4.suf (by have := (num_m (N := N) s4 hS4).1; rw [h5] at this; exact this)
  have hS6 : SaneS s6 := hS5.suf (by have := (must_m (N := N) (x := wOpen) ⟨123, _, rfl, by decide⟩ s5 hS5).1; rw [show (mustS N wOpen s5).2 = s6 from h6] at this; exact this)
  have HS6 := Lib.hid hS6
  have N1 := Lib.hid h1; have N2 := Lib.hid h2; have N3 := Lib.hid h3; have N4 := Lib.hid h4; have N5 := Lib.hid h5; have N6 := Lib.hid h6; have N7 := Lib.hid h7; have N8 := Lib.hid h8
  clear h1 h2 h3 h4 h5 h6 h7 h8 hS1 hS2 hS3 hS4 hS5 hS6 hs
  have hfw := hL.few
  go_upto_region 6 with fail
  obtain ⟨W3, hW3, bW3, sW3, k2_R, k2_t, k2_o⟩ : ∃ xW, (W2.alloc (.cells #[.string ⟨#[]⟩, .int .i64 0, .int .i64 0, .slice none 0 0] 27)) = xW ∧ Kp (onlyB rb) W2 xW ∧ W2.heap.size + 1 ≤ xW.heap.size ∧ Blk xW (rb) 57 [.slice p Ls.length cap, .int .i64 (0 : Nat), .int .i64 (s0.err : Nat), .int .i64 (s0.pos : Nat), .int .i64 (N : Nat)] ∧ Blk xW (w.heap.size) 27 [.string ⟨#[]⟩, .int .i64 0, .int .i64 0, .slice none 0 0] ∧ Blk xW (W2.heap.size) 27 [.string ⟨#[]⟩, .int .i64 0, .int .i64 0, .slice none 0 0] := ⟨_, rfl, (Kp.alloc (Kp.refl (onlyB rb) W2) _), by simp only [World.setCell, World.size_alloc, Array.size_modify, Nat.le_refl], (Blk.alloc k_R _), (Blk.alloc k_t _), (Blk.new' _ _ _ (rfl))⟩
  rw [hW3]
  clear hW3 k_R k_t
  have k_R := k2_R
  have k_t := k2_t
  have k_o := k2_o
  clear k2_R k2_t k2_o
  go_wp2_with fail
  refine (dmust_c wHall B N Ls p cap hL rb s0 0 HI.out hi W3 (Below.kp HB.out hrb bW3) hrb k_R N1.out).mono ?_; rintro e W4 ⟨rfl, ⟨j1, hr, hl_, hi1⟩, hb⟩
  have sW4 := Nat.le_trans sW3 hb.size
  have bW4 := (bW3).trans hb
  replace k_R := hr
  replace k_t := Blk.kept k_t hb (by show ¬ _ = rb; omega)
  replace k_o := Blk.kept k_o hb (by show ¬ _ = rb; omega)
  clear hb hr bW3 sW3
  have HI1 := Lib.hid hl_
  clear hl_ HI hi
  go_wp2_with fail
  refine (dname_c B N Ls p cap hL rb s1 j1 HI1.out hi1 W4 (Below.kp HB.out hrb bW4) hrb k_R N2.out).mono ?_; rintro e W5 ⟨rfl, ⟨j2, hr, hl_, hi2⟩, hb⟩
  have sW5 := Nat.le_trans sW4 hb.size
  have bW5 := (bW4).trans hb
  replace k_R := hr
  replace k_t := Blk.kept k_t hb (by show ¬ _ = rb; omega)
  replace k_o := Blk.kept k_o hb (by show ¬ _ = rb; omega)
  clear hb hr bW4 sW4
  have HI2 := Lib.hid hl_
  clear hl_ HI1 hi1
  have q_o0 := k_o.cell (i := 0) rfl
  have q_o1 := k_o.cell (i := 1) rfl
  have q_o2 := k_o.cell (i := 2) rfl
  have q_o3 := k_o.cell (i := 3) rfl
  have q_of := k_o.free
  go_upto_region 8 with fail
  clear q_o0 q_o1 q_o2 q_o3 q_of
  obtain ⟨W6, hW6, bW6, sW6, k2_R, k2_t, k2_o⟩ : ∃ xW, (W5.setCell ⟨W2.heap.size, 0, none⟩ (.string ⟨nm.toArray⟩)) = xW ∧ Kp (onlyB rb) W2 xW ∧ W5.heap.size ≤ xW.heap.size ∧ Blk xW (rb) 57 [.slice p Ls.length cap, .int .i64 (j2 : Nat), .int .i64 (s2.err : Nat), .int .i64 (s2.pos : Nat), .int .i64 (N : Nat)] ∧ Blk xW (w.heap.size) 27 [.string ⟨#[]⟩, .int .i64 0, .int .i64 0, .slice none 0 0] ∧ Blk xW (W2.heap.size) 27 [.string ⟨nm.toArray⟩, .int .i64 0, .int .i64 0, .slice none 0 0] := ⟨_, rfl, (Kp.s1 bW5 (Or.inr (by omega))), by simp only [World.setCell, World.size_alloc, Array.size_modify, Nat.le_refl], (Blk.o1 k_R (by omega)), (Blk.o1 k_t (by omega)), (Blk.cast (Blk.set k_o 0 _) rfl)⟩
  rw [hW6]
  clear hW6 k_R k_t k_o
  have k_R := k2_R
  have k_t := k2_t
  have k_o := k2_o
  clear k2_R k2_t k2_o
  go_wp2_with fail
  refine (dmust_c wStage B N Ls p cap hL rb s2 j2 HI2.out hi2 W6 (Below.kp HB.out hrb bW6) hrb k_R N3.out).mono ?_; rintro e W7 ⟨rfl, ⟨j3, hr, hl_, hi3⟩, hb⟩
  have sW7 := Nat.le_trans sW6 hb.size
  have bW7 := (bW6).trans hb
  replace k_R := hr
  replace k_t := Blk.kept k_t hb (by show ¬ _ = rb; omega)
  replace k_o := Blk.kept k_o hb (by show ¬ _ = rb; omega)
  clear hb hr bW6 sW6
  have HI3 := Lib.hid hl_
  clear hl_ HI2 hi2
  go_wp2_with fail
  refine (dnum_c B N Ls p cap hL rb s3 j3 HI3.out hi3 W7 (Below.kp HB.out hrb bW7) hrb k_R N4.out).mono ?_; rintro e W8 ⟨rfl, ⟨j4, hr, hl_, hi4⟩, hb⟩
  have sW8 := Nat.le_trans sW7 hb.size
  have bW8 := (bW7).trans hb
  replace k_R := hr
  replace k_t := Blk.kept k_t hb (by show ¬ _ = rb; omega)
  replace k_o := Blk.kept k_o hb (by show ¬ _ = rb; omega)
  clear hb hr bW7 sW7
  have HI4 := Lib.hid hl_
  clear hl_ HI3 hi3
  have q_o0 := k_o.cell (i := 0) rfl
  have q_o1 := k_o.cell (i := 1) rfl
  have q_o2 := k_o.cell (i := 2) rfl
  have q_o3 := k_o.cell (i := 3) rfl
  have q_of := k_o.free
  go_upto_region 10 with fail
  clear q_o0 q_o1 q_o2 q_o3 q_of
  obtain ⟨W9, hW9, bW9, sW9, k2_R, k2_t, k2_o⟩ : ∃ xW, (W8.setCell ⟨W2.heap.size, 1, none⟩ (.int .i64 (sx : Nat))) = xW ∧ Kp (onlyB rb) W2 xW ∧ W8.heap.size ≤ xW.heap.size ∧ Blk xW (rb) 57 [.slice p Ls.length cap, .int .i64 (j4 : Nat), .int .i64 (s4.err : Nat), .int .i64 (s4.pos : Nat), .int .i64 (N : Nat)] ∧ Blk xW (w.heap.size) 27 [.string ⟨#[]⟩, .int .i64 0, .int .i64 0, .slice none 0 0] ∧ Blk xW (W2.heap.size) 27 [.string ⟨nm.toArray⟩, .int .i64 (sx : Nat), .int .i64 0, .slice none 0 0] := ⟨_, rfl, (Kp.s1 bW8 (Or.inr (by omega))), by simp only [World.setCell, World.size_alloc, Array.size_modify, Nat.le_refl], (Blk.o1 k_R (by omega)), (Blk.o1 k_t (by omega)), (Blk.cast (Blk.set k_o 1 _) rfl)⟩
  rw [hW9]
  clear hW9 k_R k_t k_o
  have k_R := k2_R
  have k_t := k2_t
  have k_o := k2_o
  clear k2_R k2_t k2_o
  go_wp2_with fail
  refine (dnum_c B N Ls p cap hL rb s4 j4 HI4.out hi4 W9 (Below.kp HB.out hrb bW9) hrb k_R N5.out).mono ?_; rintro e W10 ⟨rfl, ⟨j5, hr, hl_, hi5⟩, hb⟩
  have sW10 := Nat.le_trans sW9 hb.size
  have bW10 := (bW9).trans hb
  replace k_R := hr
  replace k_t := Blk.kept k_t hb (by show ¬ _ = rb; omega)
  replace k_o := Blk.kept k_o hb (by show ¬ _ = rb; omega)
  clear hb hr bW9 sW9
  have HI5 := Lib.hid hl_
  clear hl_ HI4 hi4
  have q_o0 := k_o.cell (i := 0) rfl
  have q_o1 := k_o.cell (i := 1) rfl
  have q_o2 := k_o.cell (i := 2) rfl
  have q_o3 := k_o.cell (i := 3) rfl
  have q_of := k_o.free
  go_upto_region 11 with fail
  clear q_o0 q_o1 q_o2 q_o3 q_of
  obtain ⟨W11, hW11, bW11, sW11, k2_R, k2_t, k2_o⟩ : ∃ xW, (W10.setCell ⟨W2.heap.size, 2, none⟩ (.int .i64 (sy : Nat))) = xW ∧ Kp (onlyB rb) W2 xW ∧ W10.heap.size ≤ xW.heap.size ∧ Blk xW (rb) 57 [.slice p Ls.length cap, .int .i64 (j5 : Nat), .int .i64 (s5.err : Nat), .int .i64 (s5.pos : Nat), .int .i64 (N : Nat)] ∧ Blk xW (w.heap.size) 27 [.string ⟨#[]⟩, .int .i64 0, .int .i64 0, .slice none 0 0] ∧ Blk xW (W2.heap.size) 27 [.string ⟨nm.toArray⟩, .int .i64 (sx : Nat), .int .i64 (sy : Nat), .slice none 0 0] := ⟨_, rfl, (Kp.s1 bW10 (Or.inr (by omega))), by simp only [World.setCell, World.size_alloc, Array.size_modify, Nat.le_refl], (Blk.o1 k_R (by omega)), (Blk.o1 k_t (by omega)), (Blk.cast (Blk.set k_o 2 _) rfl)⟩
  rw [hW11]
  clear hW11 k_R k_t k_o
  have k_R := k2_R
  have k_t := k2_t
  have k_o := k2_o
  clear k2_R k2_t k2_o
  go_wp2_with fail
  refine (dmust_c wOpen B N Ls p cap hL rb s5 j5 HI5.out hi5 W11 (Below.kp HB.out hrb bW11) hrb k_R N6.out).mono ?_; rintro e W12 ⟨rfl, ⟨j6, hr, hl_, hi6⟩, hb⟩
  have sW12 := Nat.le_trans sW11 hb.size
  have bW12 := (bW11).trans hb
  replace k_R := hr
  replace k_t := Blk.kept k_t hb (by show ¬ _ = rb; omega)
  replace k_o := Blk.kept k_o hb (by show ¬ _ = rb; omega)
  clear hb hr bW11 sW11
  have HI6 := Lib.hid hl_
  clear hl_ HI5 hi5
  go_upto_region 12 with fail
  have hbase2 : W2.heap.size ≤ W2.heap.size ∧ W2.heap.size < W12.heap.size ∧ rb < W12.heap.size := by omega
  have s0W12 : W12.heap.size ≤ W12.heap.size := Nat.le_refl _
  clear sW12
  have sW12 := s0W12
  clear s0W12
  have HBN := Lib.hid (building_nil levelK W12 (fun k => W12.heap.size ≤ k ∧ (Value.slice none 0 0).ownBlock ≠ some k) W12.heap.size 38)
  go_loopw [] (fun wr => ∃ (ml : List LevelP) (ma : Option Addr) (mc : Nat) (sg : St) (ig f : Nat), Hid (rMany wClose (fun s : St => ([(levelS N s).1], (levelS N s).2)) f ml sg = (ls, s7)) ∧ Hid (sg.err = 0 → sg.left.length + 1 ≤ f) ∧ Hid (sg.left = Ls.drop ig) ∧ Hid (ig ≤ Ls.length) ∧ Hid (SaneS sg) ∧ Hid (ml.length + sg.left.length ≤ 5000 ∨ sg.err ≠ 0) ∧ Hid (Building levelK wr (fun k => W12.heap.size ≤ k ∧ (Value.slice ma ml.length mc).ownBlock ≠ some k) W12.heap.size 38 (.slice ma ml.length mc) ml) ∧ Hid (Blk wr (rb) 57 [.slice p Ls.length cap, .int .i64 (ig : Nat), .int .i64 (sg.err : Nat), .int .i64 (sg.pos : Nat), .int .i64 (N : Nat)]) ∧ Hid (Blk wr (w.heap.size) 27 [.string ⟨#[]⟩, .int .i64 0, .int .i64 0, .slice none 0 0]) ∧ Hid (Blk wr (W2.heap.size) 27 [.string ⟨nm.toArray⟩, .int .i64 (sx : Nat), .int .i64 (sy : Nat), .slice ma ml.length mc]) ∧ Hid (Kp (onlyB rb) W2 wr) ∧ Hid (W12.heap.size ≤ wr.heap.size)) (fun wr => left6 Ls.length rb wr)
  case atStart => exact ⟨[], none, 0, s6, j6, s6.left.length + 1, N7, Lib.hid (fun _ => Nat.le_refl _), HI6, Lib.hid hi6, HS6, Lib.hid (Or.inl (by rw [List.length_nil, Nat.zero_add]; exact HS6.out.2)), HBN, Lib.hid k_R, Lib.hid k_t, Lib.hid k_o, Lib.hid bW12, Lib.hid (by omega)⟩
  case round =>
    clear HBN N7 HS6
    obtain ⟨ml, ma, mc, sg, ig, f, HM, HF, HIg, HIL, HSG, HLN, HMB, J_R, J_t, J_o, Jb, Jz⟩ := hrel
    clear k_R k_t k_o bW12 sW12
    have k_R := J_R.out
    have k_t := J_t.out
    have k_o := J_o.out
    have bwr := Jb.out
    have swr := Jz.out
    clear J_R J_t J_o Jb Jz
    have hig := HIL.out
    have hleft := left6_of (n := Ls.length) k_R
    have HLEFT := Lib.hid hleft
    clear hleft
    by_cases h0 : sg.err = 0
    rotate_left
    · have hm := HM.out
      rw [many_err h0] at hm
      injection hm with e1 e2
      subst e1 e2
      have e0 : (((sg.err : Nat) : Int) == 0) = false := by simp [h0]
      clear h0
      have q_R0 := k_R.cell (i := 0) rfl
      have q_R1 := k_R.cell (i := 1) rfl
      have q_R2 := k_R.cell (i := 2) rfl
      have q_R3 := k_R.cell (i := 3) rfl
      have q_R4 := k_R.cell (i := 4) rfl
      have q_Rf := k_R.free
      go_upto_region 14 with fail
      clear q_R0 q_R1 q_R2 q_R3 q_R4 q_Rf
      clear e0
      have HML := Lib.hid (HMB.out.done (F' := fun k => W12.heap.size ≤ k) (fun k hk _ => hk.1) (fun k hk => hk))
      go_wp2_with fail
      refine (dmust_c wClose B N Ls p cap hL rb sg ig HIg.out hig wr (Below.kp HB.out hrb bwr) hrb k_R N8.out).mono ?_; rintro e W13 ⟨rfl, ⟨j7, hr, hl_, hi7⟩, hb⟩
      have sW13 := Nat.le_trans swr hb.size
      have bW13 := (bwr).trans hb
      replace k_R := hr
      replace k_t := Blk.kept k_t hb (by show ¬ _ = rb; omega)
      replace k_o := Blk.kept k_o hb (by show ¬ _ = rb; omega)
      have kpW13 := (Kp.refl (fun k => k < W12.heap.size) wr).trans (Kp.mono hb (fun k hk => by have e : k = rb := hk; show k < _; omega))
      clear hb hr bwr swr
      have HI7 := Lib.hid hl_
      clear hl_ HIg hig
      go_upto_region 15 with fail
      by_cases g0 : s8.err = 0
      rotate_left
      · have HEND : Hid (R = (noHall, s8.err, ((s8.pos : Nat) : Int))) := Lib.hid (by rw [← H.out, rEnd_bad (s9 := s8) (by unfold rLast; rw [if_neg (fun k => g0 k.1)]) g0])
        have HBAD := Lib.hid g0
        have e0 : (((s8.err : Nat) : Int) == 0) = false := by simp [g0]
        clear g0
        have q_R0 := k_R.cell (i := 0) rfl
        have q_R1 := k_R.cell (i := 1) rfl
        have q_R2 := k_R.cell (i := 2) rfl
        have q_R3 := k_R.cell (i := 3) rfl
        have q_R4 := k_R.cell (i := 4) rfl
        have q_Rf := k_R.free
        go_quiet (fail)
        clear q_R0 q_R1 q_R2 q_R3 q_R4 q_Rf
        obtain ⟨W14, hW14⟩ : ∃ x, W13.drewN nq = x := ⟨_, rfl⟩
        have bW14 : Kp (onlyB rb) W2 W14 := by rw [← hW14]; exact Kp.drewN bW13 nq
        have sW14 := sW13
        rw [show W13.heap.size = W14.heap.size from by rw [← hW14]; rfl] at sW14
        replace k_R : Blk W14 (rb) 57 [.slice p Ls.length cap, .int .i64 (j7 : Nat), .int .i64 (s8.err : Nat), .int .i64 (s8.pos : Nat), .int .i64 (N : Nat)] := by rw [← hW14]; exact k_R
        replace k_t : Blk W14 (w.heap.size) 27 [.string ⟨#[]⟩, .int .i64 0, .int .i64 0, .slice none 0 0] := by rw [← hW14]; exact k_t
        replace k_o : Blk W14 (W2.heap.size) 27 [.string ⟨nm.toArray⟩, .int .i64 (sx : Nat), .int .i64 (sy : Nat), .slice ma ml.length mc] := by rw [← hW14]; exact k_o
        have kpW14 : Kp (fun k => k < W12.heap.size) wr W14 := by rw [← hW14]; exact Kp.drewN kpW13 nq
        rw [hW14]
        clear hW14 bW13 sW13
        clear e0
        go_upto_region 17 with fail
        have e9 : (((s8.err : Nat) : Int) != 0) = true := by simp [HBAD.out]
        have q_R0 := k_R.cell (i := 0) rfl
        have q_R1 := k_R.cell (i := 1) rfl
        have q_R2 := k_R.cell (i := 2) rfl
        have q_R3 := k_R.cell (i := 3) rfl
        have q_R4 := k_R.cell (i := 4) rfl
        have q_Rf := k_R.free
        go_upto_region 18 with fail
        clear q_R0 q_R1 q_R2 q_R3 q_R4 q_Rf
        clear e9
        have bw := BW.out.trans bW14
        clear bW14
        have bW14 := bw
        clear bw
        refine wp_region_any (by kernel_rfl) ?_
        refine Foyer.Round.any_of_held (S := fun W => Blk W (rb) 57 [.slice p Ls.length cap, .int .i64 (j7 : Nat), .int .i64 (s8.err : Nat), .int .i64 (s8.pos : Nat), .int .i64 (N : Nat)] ∧ Kp (onlyB rb) w W) (N := [11]) _ _ _ _ ?_
        change Foyer.Round.held _ _ _ _ _ _ _ _ _ W14.drew
        obtain ⟨W15, hW15⟩ : ∃ x, W14.drew = x := ⟨_, rfl⟩
        have bW15 : Kp (onlyB rb) w W15 := by rw [← hW15]; exact Kp.drew bW14
        have sW15 := sW14
        rw [show W14.heap.size = W15.heap.size from by rw [← hW15]; rfl] at sW15
        replace k_R : Blk W15 (rb) 57 [.slice p Ls.length cap, .int .i64 (j7 : Nat), .int .i64 (s8.err : Nat), .int .i64 (s8.pos : Nat), .int .i64 (N : Nat)] := by rw [← hW15]; exact k_R
        replace k_t : Blk W15 (w.heap.size) 27 [.string ⟨#[]⟩, .int .i64 0, .int .i64 0, .slice none 0 0] := by rw [← hW15]; exact k_t
        replace k_o : Blk W15 (W2.heap.size) 27 [.string ⟨nm.toArray⟩, .int .i64 (sx : Nat), .int .i64 (sy : Nat), .slice ma ml.length mc] := by rw [← hW15]; exact k_o
        have kpW15 : Kp (fun k => k < W12.heap.size) wr W15 := by rw [← hW15]; exact Kp.drew (kpW14)
        rw [hW15]
        clear hW15 bW14 sW14
        refine Foyer.Round.held_take [9, 10, 11] (i := 0) (v := .agg #[.string ⟨#[]⟩, .int .i64 0, .int .i64 0, .slice none 0 0]) rfl (by kernel_rfl) (fun _ _ _ h => h) (Or.inl ⟨by rfl, fun w' hS => by go_simp⟩) (⟨k_R, bW15⟩) ?_
        try simp only [Act.put, List.setIfInBounds_toArray, List.set_cons_zero, List.set_cons_succ]
        refine Foyer.Round.held_take [2, 3, 4, 10, 11] (i := 1) (v := .pointer (some ⟨rb, 0, none⟩)) rfl (by kernel_rfl) (fun _ _ _ h => h) (Or.inl ⟨by rfl, fun w' hS => by go_simp⟩) (⟨k_R, bW15⟩) ?_
        try simp only [Act.put, List.setIfInBounds_toArray, List.set_cons_zero, List.set_cons_succ]
        refine Foyer.Round.held_take [3, 4, 10, 11] (i := 2) (v := .pointer (some ⟨rb, 0, none⟩)) rfl (by kernel_rfl) (fun _ _ _ h => h) (Or.inl ⟨by rfl, fun w' hS => by go_simp⟩) (⟨k_R, bW15⟩) ?_
        try simp only [Act.put, List.setIfInBounds_toArray, List.set_cons_zero, List.set_cons_succ]
        refine Foyer.Round.held_take [4, 10, 11] (i := 3) (v := .pointer (some ⟨rb, 2, none⟩)) rfl (by kernel_rfl) (fun _ _ _ h => h) (Or.inl ⟨by rfl, fun w' hS => by go_simp⟩) (⟨k_R, bW15⟩) ?_
        try simp only [Act.put, List.setIfInBounds_toArray, List.set_cons_zero, List.set_cons_succ]
        refine Foyer.Round.held_take [10, 11] (i := 4) (v := .int .i64 (s8.err : Nat)) rfl (by kernel_rfl) (fun _ _ _ h => h) (Or.inl ⟨by rfl, fun w' hS => by have r_R0 := (show Blk _ _ _ _ from hS.1).cell (i := 0) rfl; have r_R1 := (show Blk _ _ _ _ from hS.1).cell (i := 1) rfl; have r_R2 := (show Blk _ _ _ _ from hS.1).cell (i := 2) rfl; have r_R3 := (show Blk _ _ _ _ from hS.1).cell (i := 3) rfl; have r_R4 := (show Blk _ _ _ _ from hS.1).cell (i := 4) rfl; go_simp⟩) (⟨k_R, bW15⟩) ?_
        try simp only [Act.put, List.setIfInBounds_toArray, List.set_cons_zero, List.set_cons_succ]
        refine Foyer.Round.held_take [6, 7, 8, 11] (i := 5) (v := .pointer (some ⟨rb, 0, none⟩)) rfl (by kernel_rfl) (fun _ _ _ h => h) (Or.inl ⟨by rfl, fun w' hS => by go_simp⟩) (⟨k_R, bW15⟩) ?_
        try simp only [Act.put, List.setIfInBounds_toArray, List.set_cons_zero, List.set_cons_succ]
        refine Foyer.Round.held_take [7, 8, 11] (i := 6) (v := .pointer (some ⟨rb, 0, none⟩)) rfl (by kernel_rfl) (fun _ _ _ h => h) (Or.inl ⟨by rfl, fun w' hS => by go_simp⟩) (⟨k_R, bW15⟩) ?_
        try simp only [Act.put, List.setIfInBounds_toArray, List.set_cons_zero, List.set_cons_succ]
        refine Foyer.Round.held_take [8, 11] (i := 7) (v := .pointer (some ⟨rb, 3, none⟩)) rfl (by kernel_rfl) (fun _ _ _ h => h) (Or.inl ⟨by rfl, fun w' hS => by go_simp⟩) (⟨k_R, bW15⟩) ?_
        try simp only [Act.put, List.setIfInBounds_toArray, List.set_cons_zero, List.set_cons_succ]
        refine Foyer.Round.held_take [11] (i := 8) (v := .int .i64 (s8.pos : Nat)) rfl (by kernel_rfl) (fun _ _ _ h => h) (Or.inl ⟨by rfl, fun w' hS => by have r_R0 := (show Blk _ _ _ _ from hS.1).cell (i := 0) rfl; have r_R1 := (show Blk _ _ _ _ from hS.1).cell (i := 1) rfl; have r_R2 := (show Blk _ _ _ _ from hS.1).cell (i := 2) rfl; have r_R3 := (show Blk _ _ _ _ from hS.1).cell (i := 3) rfl; have r_R4 := (show Blk _ _ _ _ from hS.1).cell (i := 4) rfl; go_simp⟩) (⟨k_R, bW15⟩) ?_
        try simp only [Act.put, List.setIfInBounds_toArray, List.set_cons_zero, List.set_cons_succ]
        have q_t0 := k_t.cell (i := 0) rfl
        have q_t1 := k_t.cell (i := 1) rfl
        have q_t2 := k_t.cell (i := 2) rfl
        have q_t3 := k_t.cell (i := 3) rfl
        have q_tf := k_t.free
        refine Foyer.Round.held_one (i := 9) rfl (by kernel_rfl) (fun K hK => ?_)
        go_simp
        clear q_t0 q_t1 q_t2 q_t3 q_tf
        obtain ⟨W16, hW16, bW16, sW16, kpW16, k2_R, k2_t, k2_o⟩ : ∃ xW, ((((W15.setCell ⟨w.heap.size, 0, none⟩ (.string ⟨#[]⟩)).setCell ⟨w.heap.size, 1, none⟩ (.int .i64 0)).setCell ⟨w.heap.size, 2, none⟩ (.int .i64 0)).setCell ⟨w.heap.size, 3, none⟩ (.slice none 0 0)) = xW ∧ Kp (onlyB rb) w xW ∧ W15.heap.size ≤ xW.heap.size ∧ Kp (fun k => k < W12.heap.size) wr xW ∧ Blk xW (rb) 57 [.slice p Ls.length cap, .int .i64 (j7 : Nat), .int .i64 (s8.err : Nat), .int .i64 (s8.pos : Nat), .int .i64 (N : Nat)] ∧ Blk xW (w.heap.size) 27 [.string ⟨#[]⟩, .int .i64 0, .int .i64 0, .slice none 0 0] ∧ Blk xW (W2.heap.size) 27 [.string ⟨nm.toArray⟩, .int .i64 (sx : Nat), .int .i64 (sy : Nat), .slice ma ml.length mc] := ⟨_, rfl, (Kp.s4 bW15 (Or.inr (by omega))), by simp only [World.setCell, World.size_alloc, Array.size_modify, Nat.le_refl], (Kp.s4 kpW15 (Or.inl (show w.heap.size < W12.heap.size by omega))), (Blk.o4 k_R (by omega)), (Blk.cast (Blk.set (Blk.set (Blk.set (Blk.set k_t 0 _) 1 _) 2 _) 3 _) rfl), (Blk.o4 k_o (by omega))⟩
        rw [hW16]
        clear hW16 k_R k_t k_o
        have k_R := k2_R
        have k_t := k2_t
        have k_o := k2_o
        clear k2_R k2_t k2_o
        refine hK.out _ _ (fun _ => ⟨k_R, bW16⟩) ?_
        clear hK K
        try simp only [Act.put, List.setIfInBounds_toArray, List.set_cons_zero, List.set_cons_succ]
        refine Foyer.Round.held_one (i := 10) rfl (by kernel_rfl) (fun K hK => ?_)
        go_simp
        refine hK.out _ _ (fun _ => ⟨k_R, bW16⟩) ?_
        clear hK K
        try simp only [Act.put, List.setIfInBounds_toArray, List.set_cons_zero, List.set_cons_succ]
        refine Foyer.Round.held_one (i := 11) rfl (by kernel_rfl) (fun K hK => ?_)
        go_simp
        refine hK.out _ _ (fun _ => ⟨k_R, bW16⟩) ?_
        clear hK K
        try simp only [Act.put, List.setIfInBounds_toArray, List.set_cons_zero, List.set_cons_succ]
        refine Foyer.Round.held_done (by kernel_rfl) ?_ _
        go_wp2
        have hend := HEND.out
        subst hend
        exact bodyPost_ret (results_d6 _ _ _ _ _ _ _ k_t rfl) rfl ⟨⟨_, rfl, _, rfl, nil_is6 _ _ _ _⟩, (bW16.below (Nat.le_refl _) (fun j h => by have e : j = rb := h; omega))⟩
      have e0 : (((s8.err : Nat) : Int) == 0) = true := by simp [g0]
      by_cases gl : s8.left = []
      rotate_left
      · obtain ⟨s9, hs9⟩ : ∃ z, rFail N s8 = z := ⟨_, rfl⟩
        have hb9 : s9.err ≠ 0 := by rw [← hs9]; exact rFail_bad s8
        have HEND : Hid (R = (noHall, s9.err, ((s9.pos : Nat) : Int))) := Lib.hid (by rw [← H.out, rEnd_bad (s9 := s9) (by unfold rLast; rw [if_pos ⟨g0, gl⟩]; exact hs9) hb9])
        have HBAD := Lib.hid hb9; have HS9 := Lib.hid hs9
        have hjl : j7 < Ls.length := by
          rcases Nat.lt_or_ge j7 Ls.length with h | h
          · exact h
          · exact absurd (HI7.out.trans (List.drop_eq_nil_of_le h)) gl
        have e1 : decide ((j7 : Int) < (Ls.length : Int)) = true := by simp; omega
        clear hs9 hb9 g0 gl
        have q_R0 := k_R.cell (i := 0) rfl
        have q_R1 := k_R.cell (i := 1) rfl
        have q_R2 := k_R.cell (i := 2) rfl
        have q_R3 := k_R.cell (i := 3) rfl
        have q_R4 := k_R.cell (i := 4) rfl
        have q_Rf := k_R.free
        go_quiet (fail)
        clear q_R0 q_R1 q_R2 q_R3 q_R4 q_Rf
        obtain ⟨W14, hW14⟩ : ∃ x, W13.drewN nq = x := ⟨_, rfl⟩
        have bW14 : Kp (onlyB rb) W2 W14 := by rw [← hW14]; exact Kp.drewN bW13 nq
        have sW14 := sW13
        rw [show W13.heap.size = W14.heap.size from by rw [← hW14]; rfl] at sW14
        replace k_R : Blk W14 (rb) 57 [.slice p Ls.length cap, .int .i64 (j7 : Nat), .int .i64 (s8.err : Nat), .int .i64 (s8.pos : Nat), .int .i64 (N : Nat)] := by rw [← hW14]; exact k_R
        replace k_t : Blk W14 (w.heap.size) 27 [.string ⟨#[]⟩, .int .i64 0, .int .i64 0, .slice none 0 0] := by rw [← hW14]; exact k_t
        replace k_o : Blk W14 (W2.heap.size) 27 [.string ⟨nm.toArray⟩, .int .i64 (sx : Nat), .int .i64 (sy : Nat), .slice ma ml.length mc] := by rw [← hW14]; exact k_o
        have kpW14 : Kp (fun k => k < W12.heap.size) wr W14 := by rw [← hW14]; exact Kp.drewN kpW13 nq
        rw [hW14]
        clear hW14 bW13 sW13
        clear e0 e1
        go_wp2_with fail
        refine (dfail_any B N Ls p cap hL rb s8 j7 HI7.out hi7 W14 (Below.kp HB.out hrb bW14) hrb k_R).mono ?_; rintro e W15 ⟨rfl, hr, _, hb⟩
        have sW15 := Nat.le_trans sW14 hb.size
        have bW15 := (bW14).trans hb
        replace k_R := hr
        replace k_t := Blk.kept k_t hb (by show ¬ _ = rb; omega)
        replace k_o := Blk.kept k_o hb (by show ¬ _ = rb; omega)
        have kpW15 := (kpW14).trans (Kp.mono hb (fun k hk => by have e : k = rb := hk; show k < _; omega))
        clear hb hr bW14 sW14
        rw [HS9.out] at k_R
        go_upto_region 17 with fail
        have e9 : (((s9.err : Nat) : Int) != 0) = true := by simp [HBAD.out]
        have q_R0 := k_R.cell (i := 0) rfl
        have q_R1 := k_R.cell (i := 1) rfl
        have q_R2 := k_R.cell (i := 2) rfl
        have q_R3 := k_R.cell (i := 3) rfl
        have q_R4 := k_R.cell (i := 4) rfl
        have q_Rf := k_R.free
        go_upto_region 18 with fail
        clear q_R0 q_R1 q_R2 q_R3 q_R4 q_Rf
        clear e9
        have bw := BW.out.trans bW15
        clear bW15
        have bW15 := bw
        clear bw
        refine wp_region_any (by kernel_rfl) ?_
        refine Foyer.Round.any_of_held (S := fun W => Blk W (rb) 57 [.slice p Ls.length cap, .int .i64 (j7 : Nat), .int .i64 (s9.err : Nat), .int .i64 (s9.pos : Nat), .int .i64 (N : Nat)] ∧ Kp (onlyB rb) w W) (N := [11]) _ _ _ _ ?_
        change Foyer.Round.held _ _ _ _ _ _ _ _ _ W15.drew
        obtain ⟨W16, hW16⟩ : ∃ x, W15.drew = x := ⟨_, rfl⟩
        have bW16 : Kp (onlyB rb) w W16 := by rw [← hW16]; exact Kp.drew bW15
        have sW16 := sW15
        rw [show W15.heap.size = W16.heap.size from by rw [← hW16]; rfl] at sW16
        replace k_R : Blk W16 (rb) 57 [.slice p Ls.length cap, .int .i64 (j7 : Nat), .int .i64 (s9.err : Nat), .int .i64 (s9.pos : Nat), .int .i64 (N : Nat)] := by rw [← hW16]; exact k_R
        replace k_t : Blk W16 (w.heap.size) 27 [.string ⟨#[]⟩, .int .i64 0, .int .i64 0, .slice none 0 0] := by rw [← hW16]; exact k_t
        replace k_o : Blk W16 (W2.heap.size) 27 [.string ⟨nm.toArray⟩, .int .i64 (sx : Nat), .int .i64 (sy : Nat), .slice ma ml.length mc] := by rw [← hW16]; exact k_o
        have kpW16 : Kp (fun k => k < W12.heap.size) wr W16 := by rw [← hW16]; exact Kp.drew (kpW15)
        rw [hW16]
        clear hW16 bW15 sW15
        refine Foyer.Round.held_take [9, 10, 11] (i := 0) (v := .agg #[.string ⟨#[]⟩, .int .i64 0, .int .i64 0, .slice none 0 0]) rfl (by kernel_rfl) (fun _ _ _ h => h) (Or.inl ⟨by rfl, fun w' hS => by go_simp⟩) (⟨k_R, bW16⟩) ?_
        try simp only [Act.put, List.setIfInBounds_toArray, List.set_cons_zero, List.set_cons_succ]
        refine Foyer.Round.held_take [2, 3, 4, 10, 11] (i := 1) (v := .pointer (some ⟨rb, 0, none⟩)) rfl (by kernel_rfl) (fun _ _ _ h => h) (Or.inl ⟨by rfl, fun w' hS => by go_simp⟩) (⟨k_R, bW16⟩) ?_
        try simp only [Act.put, List.setIfInBounds_toArray, List.set_cons_zero, List.set_cons_succ]
        refine Foyer.Round.held_take [3, 4, 10, 11] (i := 2) (v := .pointer (some ⟨rb, 0, none⟩)) rfl (by kernel_rfl) (fun _ _ _ h => h) (Or.inl ⟨by rfl, fun w' hS => by go_simp⟩) (⟨k_R, bW16⟩) ?_
        try simp only [Act.put, List.setIfInBounds_toArray, List.set_cons_zero, List.set_cons_succ]
        refine Foyer.Round.held_take [4, 10, 11] (i := 3) (v := .pointer (some ⟨rb, 2, none⟩)) rfl (by kernel_rfl) (fun _ _ _ h => h) (Or.inl ⟨by rfl, fun w' hS => by go_simp⟩) (⟨k_R, bW16⟩) ?_
        try simp only [Act.put, List.setIfInBounds_toArray, List.set_cons_zero, List.set_cons_succ]
        refine Foyer.Round.held_take [10, 11] (i := 4) (v := .int .i64 (s9.err : Nat)) rfl (by kernel_rfl) (fun _ _ _ h => h) (Or.inl ⟨by rfl, fun w' hS => by have r_R0 := (show Blk _ _ _ _ from hS.1).cell (i := 0) rfl; have r_R1 := (show Blk _ _ _ _ from hS.1).cell (i := 1) rfl; have r_R2 := (show Blk _ _ _ _ from hS.1).cell (i := 2) rfl; have r_R3 := (show Blk _ _ _ _ from hS.1).cell (i := 3) rfl; have r_R4 := (show Blk _ _ _ _ from hS.1).cell (i := 4) rfl; go_simp⟩) (⟨k_R, bW16⟩) ?_
        try simp only [Act.put, List.setIfInBounds_toArray, List.set_cons_zero, List.set_cons_succ]
        refine Foyer.Round.held_take [6, 7, 8, 11] (i := 5) (v := .pointer (some ⟨rb, 0, none⟩)) rfl (by kernel_rfl) (fun _ _ _ h => h) (Or.inl ⟨by rfl, fun w' hS => by go_simp⟩) (⟨k_R, bW16⟩) ?_
        try simp only [Act.put, List.setIfInBounds_toArray, List.set_cons_zero, List.set_cons_succ]
        refine Foyer.Round.held_take [7, 8, 11] (i := 6) (v := .pointer (some ⟨rb, 0, none⟩)) rfl (by kernel_rfl) (fun _ _ _ h => h) (Or.inl ⟨by rfl, fun w' hS => by go_simp⟩) (⟨k_R, bW16⟩) ?_
        try simp only [Act.put, List.setIfInBounds_toArray, List.set_cons_zero, List.set_cons_succ]
        refine Foyer.Round.held_take [8, 11] (i := 7) (v := .pointer (some ⟨rb, 3, none⟩)) rfl (by kernel_rfl) (fun _ _ _ h => h) (Or.inl ⟨by rfl, fun w' hS => by go_simp⟩) (⟨k_R, bW16⟩) ?_
        try simp only [Act.put, List.setIfInBounds_toArray, List.set_cons_zero, List.set_cons_succ]
        refine Foyer.Round.held_take [11] (i := 8) (v := .int .i64 (s9.pos : Nat)) rfl (by kernel_rfl) (fun _ _ _ h => h) (Or.inl ⟨by rfl, fun w' hS => by have r_R0 := (show Blk _ _ _ _ from hS.1).cell (i := 0) rfl; have r_R1 := (show Blk _ _ _ _ from hS.1).cell (i := 1) rfl; have r_R2 := (show Blk _ _ _ _ from hS.1).cell (i := 2) rfl; have r_R3 := (show Blk _ _ _ _ from hS.1).cell (i := 3) rfl; have r_R4 := (show Blk _ _ _ _ from hS.1).cell (i := 4) rfl; go_simp⟩) (⟨k_R, bW16⟩) ?_
        try simp only [Act.put, List.setIfInBounds_toArray, List.set_cons_zero, List.set_cons_succ]
        have q_t0 := k_t.cell (i := 0) rfl
        have q_t1 := k_t.cell (i := 1) rfl
        have q_t2 := k_t.cell (i := 2) rfl
        have q_t3 := k_t.cell (i := 3) rfl
        have q_tf := k_t.free
        refine Foyer.Round.held_one (i := 9) rfl (by kernel_rfl) (fun K hK => ?_)
        go_simp
        clear q_t0 q_t1 q_t2 q_t3 q_tf
        obtain ⟨W17, hW17, bW17, sW17, kpW17, k2_R, k2_t, k2_o⟩ : ∃ xW, ((((W16.setCell ⟨w.heap.size, 0, none⟩ (.string ⟨#[]⟩)).setCell ⟨w.heap.size, 1, none⟩ (.int .i64 0)).setCell ⟨w.heap.size, 2, none⟩ (.int .i64 0)).setCell ⟨w.heap.size, 3, none⟩ (.slice none 0 0)) = xW ∧ Kp (onlyB rb) w xW ∧ W16.heap.size ≤ xW.heap.size ∧ Kp (fun k => k < W12.heap.size) wr xW ∧ Blk xW (rb) 57 [.slice p Ls.length cap, .int .i64 (j7 : Nat), .int .i64 (s9.err : Nat), .int .i64 (s9.pos : Nat), .int .i64 (N : Nat)] ∧ Blk xW (w.heap.size) 27 [.string ⟨#[]⟩, .int .i64 0, .int .i64 0, .slice none 0 0] ∧ Blk xW (W2.heap.size) 27 [.string ⟨nm.toArray⟩, .int .i64 (sx : Nat), .int .i64 (sy : Nat), .slice ma ml.length mc] := ⟨_, rfl, (Kp.s4 bW16 (Or.inr (by omega))), by simp only [World.setCell, World.size_alloc, Array.size_modify, Nat.le_refl], (Kp.s4 kpW16 (Or.inl (show w.heap.size < W12.heap.size by omega))), (Blk.o4 k_R (by omega)), (Blk.cast (Blk.set (Blk.set (Blk.set (Blk.set k_t 0 _) 1 _) 2 _) 3 _) rfl), (Blk.o4 k_o (by omega))⟩
        rw [hW17]
        clear hW17 k_R k_t k_o
        have k_R := k2_R
        have k_t := k2_t
        have k_o := k2_o
        clear k2_R k2_t k2_o
        refine hK.out _ _ (fun _ => ⟨k_R, bW17⟩) ?_
        clear hK K
        try simp only [Act.put, List.setIfInBounds_toArray, List.set_cons_zero, List.set_cons_succ]
        refine Foyer.Round.held_one (i := 10) rfl (by kernel_rfl) (fun K hK => ?_)
        go_simp
        refine hK.out _ _ (fun _ => ⟨k_R, bW17⟩) ?_
        clear hK K
        try simp only [Act.put, List.setIfInBounds_toArray, List.set_cons_zero, List.set_cons_succ]
        refine Foyer.Round.held_one (i := 11) rfl (by kernel_rfl) (fun K hK => ?_)
        go_simp
        refine hK.out _ _ (fun _ => ⟨k_R, bW17⟩) ?_
        clear hK K
        try simp only [Act.put, List.setIfInBounds_toArray, List.set_cons_zero, List.set_cons_succ]
        refine Foyer.Round.held_done (by kernel_rfl) ?_ _
        go_wp2
        have hend := HEND.out
        subst hend
        exact bodyPost_ret (results_d6 _ _ _ _ _ _ _ k_t rfl) rfl ⟨⟨_, rfl, _, rfl, nil_is6 _ _ _ _⟩, (bW17.below (Nat.le_refl _) (fun j h => by have e : j = rb := h; omega))⟩
      have HEND : Hid (R = (⟨nm, sx, sy, ml⟩, 0, 0)) := Lib.hid (by rw [← H.out, rEnd_good g0 gl]; rfl)
      have hjl : j7 = Ls.length := drop_nil (HI7.out.symm.trans gl) hi7
      have e1 : decide ((j7 : Int) < (Ls.length : Int)) = false := by simp; omega
      have e9 : (((s8.err : Nat) : Int) != 0) = false := by simp [g0]
      clear g0 gl
      have q_R0 := k_R.cell (i := 0) rfl
      have q_R1 := k_R.cell (i := 1) rfl
      have q_R2 := k_R.cell (i := 2) rfl
      have q_R3 := k_R.cell (i := 3) rfl
      have q_R4 := k_R.cell (i := 4) rfl
      have q_Rf := k_R.free
      go_quiet (fail)
      clear q_R0 q_R1 q_R2 q_R3 q_R4 q_Rf
      obtain ⟨W14, hW14⟩ : ∃ x, W13.drewN nq = x := ⟨_, rfl⟩
      have bW14 : Kp (onlyB rb) W2 W14 := by rw [← hW14]; exact Kp.drewN bW13 nq
      have sW14 := sW13
      rw [show W13.heap.size = W14.heap.size from by rw [← hW14]; rfl] at sW14
      replace k_R : Blk W14 (rb) 57 [.slice p Ls.length cap, .int .i64 (j7 : Nat), .int .i64 (s8.err : Nat), .int .i64 (s8.pos : Nat), .int .i64 (N : Nat)] := by rw [← hW14]; exact k_R
      replace k_t : Blk W14 (w.heap.size) 27 [.string ⟨#[]⟩, .int .i64 0, .int .i64 0, .slice none 0 0] := by rw [← hW14]; exact k_t
      replace k_o : Blk W14 (W2.heap.size) 27 [.string ⟨nm.toArray⟩, .int .i64 (sx : Nat), .int .i64 (sy : Nat), .slice ma ml.length mc] := by rw [← hW14]; exact k_o
      have kpW14 : Kp (fun k => k < W12.heap.size) wr W14 := by rw [← hW14]; exact Kp.drewN kpW13 nq
      rw [hW14]
      clear hW14 bW13 sW13
      clear e0 e1
      have q_R0 := k_R.cell (i := 0) rfl
      have q_R1 := k_R.cell (i := 1) rfl
      have q_R2 := k_R.cell (i := 2) rfl
      have q_R3 := k_R.cell (i := 3) rfl
      have q_R4 := k_R.cell (i := 4) rfl
      have q_Rf := k_R.free
      go_upto_region 19 with fail
      clear q_R0 q_R1 q_R2 q_R3 q_R4 q_Rf
      clear e9
      have bw := BW.out.trans bW14
      clear bW14
      have bW14 := bw
      clear bw
      have q_o0 := k_o.cell (i := 0) rfl
      have q_o1 := k_o.cell (i := 1) rfl
      have q_o2 := k_o.cell (i := 2) rfl
      have q_o3 := k_o.cell (i := 3) rfl
      have q_of := k_o.free
      have q_t0 := k_t.cell (i := 0) rfl
      have q_t1 := k_t.cell (i := 1) rfl
      have q_t2 := k_t.cell (i := 2) rfl
      have q_t3 := k_t.cell (i := 3) rfl
      have q_tf := k_t.free
      go_wp2
      clear q_o0 q_o1 q_o2 q_o3 q_of q_t0 q_t1 q_t2 q_t3 q_tf
      obtain ⟨W15, hW15, bW15, sW15, kpW15, k2_R, k2_t, k2_o⟩ : ∃ xW, ((((W14.setCell ⟨w.heap.size, 0, none⟩ (.string ⟨nm.toArray⟩)).setCell ⟨w.heap.size, 1, none⟩ (.int .i64 (sx : Nat))).setCell ⟨w.heap.size, 2, none⟩ (.int .i64 (sy : Nat))).setCell ⟨w.heap.size, 3, none⟩ (.slice ma ml.length mc)) = xW ∧ Kp (onlyB rb) w xW ∧ W14.heap.size ≤ xW.heap.size ∧ Kp (fun k => k < W12.heap.size) wr xW ∧ Blk xW (rb) 57 [.slice p Ls.length cap, .int .i64 (j7 : Nat), .int .i64 (s8.err : Nat), .int .i64 (s8.pos : Nat), .int .i64 (N : Nat)] ∧ Blk xW (w.heap.size) 27 [.string ⟨nm.toArray⟩, .int .i64 (sx : Nat), .int .i64 (sy : Nat), .slice ma ml.length mc] ∧ Blk xW (W2.heap.size) 27 [.string ⟨nm.toArray⟩, .int .i64 (sx : Nat), .int .i64 (sy : Nat), .slice ma ml.length mc] := ⟨_, rfl, (Kp.s4 bW14 (Or.inr (by omega))), by simp only [World.setCell, World.size_alloc, Array.size_modify, Nat.le_refl], (Kp.s4 kpW14 (Or.inl (show w.heap.size < W12.heap.size by omega))), (Blk.o4 k_R (by omega)), (Blk.cast (Blk.set (Blk.set (Blk.set (Blk.set k_t 0 _) 1 _) 2 _) 3 _) rfl), (Blk.o4 k_o (by omega))⟩
      rw [hW15]
      clear hW15 k_R k_t k_o
      have k_R := k2_R
      have k_t := k2_t
      have k_o := k2_o
      clear k2_R k2_t k2_o
      have hend := HEND.out
      subst hend
      exact bodyPost_ret (results_d6 _ _ _ _ _ _ _ k_t rfl) rfl ⟨⟨_, rfl, _, rfl, (HML.out.kept (fun k hk hlt => kpW15.block k hlt (by have e : W12.heap.size ≤ k := hk; show ¬ k < _; omega))).mono (fun k (hk : W12.heap.size ≤ k) _ => by omega)⟩, (bW15.below (Nat.le_refl _) (fun j h => by have e : j = rb := h; omega))⟩
    have e0 : (((sg.err : Nat) : Int) == 0) = true := by simp [h0]
    obtain ⟨bz, hbz⟩ : ∃ z, rSees sg wClose = z := ⟨_, rfl⟩
    have NBZ := Lib.hid hbz
    clear hbz
    have q_R0 := k_R.cell (i := 0) rfl
    have q_R1 := k_R.cell (i := 1) rfl
    have q_R2 := k_R.cell (i := 2) rfl
    have q_R3 := k_R.cell (i := 3) rfl
    have q_R4 := k_R.cell (i := 4) rfl
    have q_Rf := k_R.free
    have hsees := dsees_any wClose B N Ls p cap hL rb sg ig HIg.out hig wr (Below.kp HB.out hrb bwr) hrb k_R
    rw [NBZ.out] at hsees
    have HSEES := Lib.hid hsees
    clear hsees
    go_wp2_with fail
    refine (HSEES.out).mono ?_; rintro e W13 ⟨rfl, hb0⟩
    clear q_R0 q_R1 q_R2 q_R3 q_R4 q_Rf
    have hb : Kp (fun _ => False) wr W13 := Kp.of_below hb0
    clear hb0
    have sW13 := Nat.le_trans swr hb.size
    have bW13 := (bwr).trans (Kp.mono hb (fun _ h => h.elim))
    replace k_R := Blk.kept k_R hb (fun h => h)
    replace k_t := Blk.kept k_t hb (fun h => h)
    replace k_o := Blk.kept k_o hb (fun h => h)
    have kpW13 := (Kp.refl (fun k => k < W12.heap.size) wr).trans (Kp.mono hb (fun _ h => h.elim))
    clear hb bwr swr
    clear e0 HSEES
    cases bz
    rotate_left
    · have hm := HM.out
      rw [many_end NBZ.out] at hm
      injection hm with e1 e2
      subst e1 e2
      have HMB2 := Lib.hid (HMB.out.shift6 kpW13)
      clear kpW13 HMB
      go_upto_region 14 with fail
      have HML := Lib.hid (HMB2.out.done (F' := fun k => W12.heap.size ≤ k) (fun k hk _ => hk.1) (fun k hk => hk))
      go_wp2_with fail
      refine (dmust_c wClose B N Ls p cap hL rb sg ig HIg.out hig W13 (Below.kp HB.out hrb bW13) hrb k_R N8.out).mono ?_; rintro e W14 ⟨rfl, ⟨j8, hr, hl_, hi8⟩, hb⟩
      have sW14 := Nat.le_trans sW13 hb.size
      have bW14 := (bW13).trans hb
      replace k_R := hr
      replace k_t := Blk.kept k_t hb (by show ¬ _ = rb; omega)
      replace k_o := Blk.kept k_o hb (by show ¬ _ = rb; omega)
      have kpW14 := (Kp.refl (fun k => k < W12.heap.size) W13).trans (Kp.mono hb (fun k hk => by have e : k = rb := hk; show k < _; omega))
      clear hb hr bW13 sW13
      have HI8 := Lib.hid hl_
      clear hl_ HIg hig
      go_upto_region 15 with fail
      by_cases g0 : s8.err = 0
      rotate_left
      · have HEND : Hid (R = (noHall, s8.err, ((s8.pos : Nat) : Int))) := Lib.hid (by rw [← H.out, rEnd_bad (s9 := s8) (by unfold rLast; rw [if_neg (fun k => g0 k.1)]) g0])
        have HBAD := Lib.hid g0
        have e0 : (((s8.err : Nat) : Int) == 0) = false := by simp [g0]
        clear g0
        have q_R0 := k_R.cell (i := 0) rfl
        have q_R1 := k_R.cell (i := 1) rfl
        have q_R2 := k_R.cell (i := 2) rfl
        have q_R3 := k_R.cell (i := 3) rfl
        have q_R4 := k_R.cell (i := 4) rfl
        have q_Rf := k_R.free
        go_quiet (fail)
        clear q_R0 q_R1 q_R2 q_R3 q_R4 q_Rf
        obtain ⟨W15, hW15⟩ : ∃ x, W14.drewN nq = x := ⟨_, rfl⟩
        have bW15 : Kp (onlyB rb) W2 W15 := by rw [← hW15]; exact Kp.drewN bW14 nq
        have sW15 := sW14
        rw [show W14.heap.size = W15.heap.size from by rw [← hW15]; rfl] at sW15
        replace k_R : Blk W15 (rb) 57 [.slice p Ls.length cap, .int .i64 (j8 : Nat), .int .i64 (s8.err : Nat), .int .i64 (s8.pos : Nat), .int .i64 (N : Nat)] := by rw [← hW15]; exact k_R
        replace k_t : Blk W15 (w.heap.size) 27 [.string ⟨#[]⟩, .int .i64 0, .int .i64 0, .slice none 0 0] := by rw [← hW15]; exact k_t
        replace k_o : Blk W15 (W2.heap.size) 27 [.string ⟨nm.toArray⟩, .int .i64 (sx : Nat), .int .i64 (sy : Nat), .slice ma ml.length mc] := by rw [← hW15]; exact k_o
        have kpW15 : Kp (fun k => k < W12.heap.size) W13 W15 := by rw [← hW15]; exact Kp.drewN kpW14 nq
        rw [hW15]
        clear hW15 bW14 sW14
        clear e0
        go_upto_region 17 with fail
        have e9 : (((s8.err : Nat) : Int) != 0) = true := by simp [HBAD.out]
        have q_R0 := k_R.cell (i := 0) rfl
        have q_R1 := k_R.cell (i := 1) rfl
        have q_R2 := k_R.cell (i := 2) rfl
        have q_R3 := k_R.cell (i := 3) rfl
        have q_R4 := k_R.cell (i := 4) rfl
        have q_Rf := k_R.free
        go_upto_region 18 with fail
        clear q_R0 q_R1 q_R2 q_R3 q_R4 q_Rf
        clear e9
        have bw := BW.out.trans bW15
        clear bW15
        have bW15 := bw
        clear bw
        refine wp_region_any (by kernel_rfl) ?_
        refine Foyer.Round.any_of_held (S := fun W => Blk W (rb) 57 [.slice p Ls.length cap, .int .i64 (j8 : Nat), .int .i64 (s8.err : Nat), .int .i64 (s8.pos : Nat), .int .i64 (N : Nat)] ∧ Kp (onlyB rb) w W) (N := [11]) _ _ _ _ ?_
        change Foyer.Round.held _ _ _ _ _ _ _ _ _ W15.drew
        obtain ⟨W16, hW16⟩ : ∃ x, W15.drew = x := ⟨_, rfl⟩
        have bW16 : Kp (onlyB rb) w W16 := by rw [← hW16]; exact Kp.drew bW15
        have sW16 := sW15
        rw [show W15.heap.size = W16.heap.size from by rw [← hW16]; rfl] at sW16
        replace k_R : Blk W16 (rb) 57 [.slice p Ls.length cap, .int .i64 (j8 : Nat), .int .i64 (s8.err : Nat), .int .i64 (s8.pos : Nat), .int .i64 (N : Nat)] := by rw [← hW16]; exact k_R
        replace k_t : Blk W16 (w.heap.size) 27 [.string ⟨#[]⟩, .int .i64 0, .int .i64 0, .slice none 0 0] := by rw [← hW16]; exact k_t
        replace k_o : Blk W16 (W2.heap.size) 27 [.string ⟨nm.toArray⟩, .int .i64 (sx : Nat), .int .i64 (sy : Nat), .slice ma ml.length mc] := by rw [← hW16]; exact k_o
        have kpW16 : Kp (fun k => k < W12.heap.size) W13 W16 := by rw [← hW16]; exact Kp.drew (kpW15)
        rw [hW16]
        clear hW16 bW15 sW15
        refine Foyer.Round.held_take [9, 10, 11] (i := 0) (v := .agg #[.string ⟨#[]⟩, .int .i64 0, .int .i64 0, .slice none 0 0]) rfl (by kernel_rfl) (fun _ _ _ h => h) (Or.inl ⟨by rfl, fun w' hS => by go_simp⟩) (⟨k_R, bW16⟩) ?_
        try simp only [Act.put, List.setIfInBounds_toArray, List.set_cons_zero, List.set_cons_succ]
        refine Foyer.Round.held_take [2, 3, 4, 10, 11] (i := 1) (v := .pointer (some ⟨rb, 0, none⟩)) rfl (by kernel_rfl) (fun _ _ _ h => h) (Or.inl ⟨by rfl, fun w' hS => by go_simp⟩) (⟨k_R, bW16⟩) ?_
        try simp only [Act.put, List.setIfInBounds_toArray, List.set_cons_zero, List.set_cons_succ]
        refine Foyer.Round.held_take [3, 4, 10, 11] (i := 2) (v := .pointer (some ⟨rb, 0, none⟩)) rfl (by kernel_rfl) (fun _ _ _ h => h) (Or.inl ⟨by rfl, fun w' hS => by go_simp⟩) (⟨k_R, bW16⟩) ?_
        try simp only [Act.put, List.setIfInBounds_toArray, List.set_cons_zero, List.set_cons_succ]
        refine Foyer.Round.held_take [4, 10, 11] (i := 3) (v := .pointer (some ⟨rb, 2, none⟩)) rfl (by kernel_rfl) (fun _ _ _ h => h) (Or.inl ⟨by rfl, fun w' hS => by go_simp⟩) (⟨k_R, bW16⟩) ?_
        try simp only [Act.put, List.setIfInBounds_toArray, List.set_cons_zero, List.set_cons_succ]
        refine Foyer.Round.held_take [10, 11] (i := 4) (v := .int .i64 (s8.err : Nat)) rfl (by kernel_rfl) (fun _ _ _ h => h) (Or.inl ⟨by rfl, fun w' hS => by have r_R0 := (show Blk _ _ _ _ from hS.1).cell (i := 0) rfl; have r_R1 := (show Blk _ _ _ _ from hS.1).cell (i := 1) rfl; have r_R2 := (show Blk _ _ _ _ from hS.1).cell (i := 2) rfl; have r_R3 := (show Blk _ _ _ _ from hS.1).cell (i := 3) rfl; have r_R4 := (show Blk _ _ _ _ from hS.1).cell (i := 4) rfl; go_simp⟩) (⟨k_R, bW16⟩) ?_
        try simp only [Act.put, List.setIfInBounds_toArray, List.set_cons_zero, List.set_cons_succ]
        refine Foyer.Round.held_take [6, 7, 8, 11] (i := 5) (v := .pointer (some ⟨rb, 0, none⟩)) rfl (by kernel_rfl) (fun _ _ _ h => h) (Or.inl ⟨by rfl, fun w' hS => by go_simp⟩) (⟨k_R, bW16⟩) ?_
        try simp only [Act.put, List.setIfInBounds_toArray, List.set_cons_zero, List.set_cons_succ]
        refine Foyer.Round.held_take [7, 8, 11] (i := 6) (v := .pointer (some ⟨rb, 0, none⟩)) rfl (by kernel_rfl) (fun _ _ _ h => h) (Or.inl ⟨by rfl, fun w' hS => by go_simp⟩) (⟨k_R, bW16⟩) ?_
        try simp only [Act.put, List.setIfInBounds_toArray, List.set_cons_zero, List.set_cons_succ]
        refine Foyer.Round.held_take [8, 11] (i := 7) (v := .pointer (some ⟨rb, 3, none⟩)) rfl (by kernel_rfl) (fun _ _ _ h => h) (Or.inl ⟨by rfl, fun w' hS => by go_simp⟩) (⟨k_R, bW16⟩) ?_
        try simp only [Act.put, List.setIfInBounds_toArray, List.set_cons_zero, List.set_cons_succ]
        refine Foyer.Round.held_take [11] (i := 8) (v := .int .i64 (s8.pos : Nat)) rfl (by kernel_rfl) (fun _ _ _ h => h) (Or.inl ⟨by rfl, fun w' hS => by have r_R0 := (show Blk _ _ _ _ from hS.1).cell (i := 0) rfl; have r_R1 := (show Blk _ _ _ _ from hS.1).cell (i := 1) rfl; have r_R2 := (show Blk _ _ _ _ from hS.1).cell (i := 2) rfl; have r_R3 := (show Blk _ _ _ _ from hS.1).cell (i := 3) rfl; have r_R4 := (show Blk _ _ _ _ from hS.1).cell (i := 4) rfl; go_simp⟩) (⟨k_R, bW16⟩) ?_
        try simp only [Act.put, List.setIfInBounds_toArray, List.set_cons_zero, List.set_cons_succ]
        have q_t0 := k_t.cell (i := 0) rfl
        have q_t1 := k_t.cell (i := 1) rfl
        have q_t2 := k_t.cell (i := 2) rfl
        have q_t3 := k_t.cell (i := 3) rfl
        have q_tf := k_t.free
        refine Foyer.Round.held_one (i := 9) rfl (by kernel_rfl) (fun K hK => ?_)
        go_simp
        clear q_t0 q_t1 q_t2 q_t3 q_tf
        obtain ⟨W17, hW17, bW17, sW17, kpW17, k2_R, k2_t, k2_o⟩ : ∃ xW, ((((W16.setCell ⟨w.heap.size, 0, none⟩ (.string ⟨#[]⟩)).setCell ⟨w.heap.size, 1, none⟩ (.int .i64 0)).setCell ⟨w.heap.size, 2, none⟩ (.int .i64 0)).setCell ⟨w.heap.size, 3, none⟩ (.slice none 0 0)) = xW ∧ Kp (onlyB rb) w xW ∧ W16.heap.size ≤ xW.heap.size ∧ Kp (fun k => k < W12.heap.size) W13 xW ∧ Blk xW (rb) 57 [.slice p Ls.length cap, .int .i64 (j8 : Nat), .int .i64 (s8.err : Nat), .int .i64 (s8.pos : Nat), .int .i64 (N : Nat)] ∧ Blk xW (w.heap.size) 27 [.string ⟨#[]⟩, .int .i64 0, .int .i64 0, .slice none 0 0] ∧ Blk xW (W2.heap.size) 27 [.string ⟨nm.toArray⟩, .int .i64 (sx : Nat), .int .i64 (sy : Nat), .slice ma ml.length mc] := ⟨_, rfl, (Kp.s4 bW16 (Or.inr (by omega))), by simp only [World.setCell, World.size_alloc, Array.size_modify, Nat.le_refl], (Kp.s4 kpW16 (Or.inl (show w.heap.size < W12.heap.size by omega))), (Blk.o4 k_R (by omega)), (Blk.cast (Blk.set (Blk.set (Blk.set (Blk.set k_t 0 _) 1 _) 2 _) 3 _) rfl), (Blk.o4 k_o (by omega))⟩
        rw [hW17]
        clear hW17 k_R k_t k_o
        have k_R := k2_R
        have k_t := k2_t
        have k_o := k2_o
        clear k2_R k2_t k2_o
        refine hK.out _ _ (fun _ => ⟨k_R, bW17⟩) ?_
        clear hK K
        try simp only [Act.put, List.setIfInBounds_toArray, List.set_cons_zero, List.set_cons_succ]
        refine Foyer.Round.held_one (i := 10) rfl (by kernel_rfl) (fun K hK => ?_)
        go_simp
        refine hK.out _ _ (fun _ => ⟨k_R, bW17⟩) ?_
        clear hK K
        try simp only [Act.put, List.setIfInBounds_toArray, List.set_cons_zero, List.set_cons_succ]
        refine Foyer.Round.held_one (i := 11) rfl (by kernel_rfl) (fun K hK => ?_)
        go_simp
        refine hK.out _ _ (fun _ => ⟨k_R, bW17⟩) ?_
        clear hK K
        try simp only [Act.put, List.setIfInBounds_toArray, List.set_cons_zero, List.set_cons_succ]
        refine Foyer.Round.held_done (by kernel_rfl) ?_ _
        go_wp2
        have hend := HEND.out
        subst hend
        exact bodyPost_ret (results_d6 _ _ _ _ _ _ _ k_t rfl) rfl ⟨⟨_, rfl, _, rfl, nil_is6 _ _ _ _⟩, (bW17.below (Nat.le_refl _) (fun j h => by have e : j = rb := h; omega))⟩
      have e0 : (((s8.err : Nat) : Int) == 0) = true := by simp [g0]
      by_cases gl : s8.left = []
      rotate_left
      · obtain ⟨s9, hs9⟩ : ∃ z, rFail N s8 = z := ⟨_, rfl⟩
        have hb9 : s9.err ≠ 0 := by rw [← hs9]; exact rFail_bad s8
        have HEND : Hid (R = (noHall, s9.err, ((s9.pos : Nat) : Int))) := Lib.hid (by rw [← H.out, rEnd_bad (s9 := s9) (by unfold rLast; rw [if_pos ⟨g0, gl⟩]; exact hs9) hb9])
        have HBAD := Lib.hid hb9; have HS9 := Lib.hid hs9
        have hjl : j8 < Ls.length := by
          rcases Nat.lt_or_ge j8 Ls.length with h | h
          · exact h
          · exact absurd (HI8.out.trans (List.drop_eq_nil_of_le h)) gl
        have e1 : decide ((j8 : Int) < (Ls.length : Int)) = true := by simp; omega
        clear hs9 hb9 g0 gl
        have q_R0 := k_R.cell (i := 0) rfl
        have q_R1 := k_R.cell (i := 1) rfl
        have q_R2 := k_R.cell (i := 2) rfl
        have q_R3 := k_R.cell (i := 3) rfl
        have q_R4 := k_R.cell (i := 4) rfl
        have q_Rf := k_R.free
        go_quiet (fail)
        clear q_R0 q_R1 q_R2 q_R3 q_R4 q_Rf
        obtain ⟨W15, hW15⟩ : ∃ x, W14.drewN nq = x := ⟨_, rfl⟩
        have bW15 : Kp (onlyB rb) W2 W15 := by rw [← hW15]; exact Kp.drewN bW14 nq
        have sW15 := sW14
        rw [show W14.heap.size = W15.heap.size from by rw [← hW15]; rfl] at sW15
        replace k_R : Blk W15 (rb) 57 [.slice p Ls.length cap, .int .i64 (j8 : Nat), .int .i64 (s8.err : Nat), .int .i64 (s8.pos : Nat), .int .i64 (N : Nat)] := by rw [← hW15]; exact k_R
        replace k_t : Blk W15 (w.heap.size) 27 [.string ⟨#[]⟩, .int .i64 0, .int .i64 0, .slice none 0 0] := by rw [← hW15]; exact k_t
        replace k_o : Blk W15 (W2.heap.size) 27 [.string ⟨nm.toArray⟩, .int .i64 (sx : Nat), .int .i64 (sy : Nat), .slice ma ml.length mc] := by rw [← hW15]; exact k_o
        have kpW15 : Kp (fun k => k < W12.heap.size) W13 W15 := by rw [← hW15]; exact Kp.drewN kpW14 nq
        rw [hW15]
        clear hW15 bW14 sW14
        clear e0 e1
        go_wp2_with fail
        refine (dfail_any B N Ls p cap hL rb s8 j8 HI8.out hi8 W15 (Below.kp HB.out hrb bW15) hrb k_R).mono ?_; rintro e W16 ⟨rfl, hr, _, hb⟩
        have sW16 := Nat.le_trans sW15 hb.size
        have bW16 := (bW15).trans hb
        replace k_R := hr
        replace k_t := Blk.kept k_t hb (by show ¬ _ = rb; omega)
        replace k_o := Blk.kept k_o hb (by show ¬ _ = rb; omega)
        have kpW16 := (kpW15).trans (Kp.mono hb (fun k hk => by have e : k = rb := hk; show k < _; omega))
        clear hb hr bW15 sW15
        rw [HS9.out] at k_R
        go_upto_region 17 with fail
        have e9 : (((s9.err : Nat) : Int) != 0) = true := by simp [HBAD.out]
        have q_R0 := k_R.cell (i := 0) rfl
        have q_R1 := k_R.cell (i := 1) rfl
        have q_R2 := k_R.cell (i := 2) rfl
        have q_R3 := k_R.cell (i := 3) rfl
        have q_R4 := k_R.cell (i := 4) rfl
        have q_Rf := k_R.free
        go_upto_region 18 with fail
        clear q_R0 q_R1 q_R2 q_R3 q_R4 q_Rf
        clear e9
        have bw := BW.out.trans bW16
        clear bW16
        have bW16 := bw
        clear bw
        refine wp_region_any (by kernel_rfl) ?_
        refine Foyer.Round.any_of_held (S := fun W => Blk W (rb) 57 [.slice p Ls.length cap, .int .i64 (j8 : Nat), .int .i64 (s9.err : Nat), .int .i64 (s9.pos : Nat), .int .i64 (N : Nat)] ∧ Kp (onlyB rb) w W) (N := [11]) _ _ _ _ ?_
        change Foyer.Round.held _ _ _ _ _ _ _ _ _ W16.drew
        obtain ⟨W17, hW17⟩ : ∃ x, W16.drew = x := ⟨_, rfl⟩
        have bW17 : Kp (onlyB rb) w W17 := by rw [← hW17]; exact Kp.drew bW16
        have sW17 := sW16
        rw [show W16.heap.size = W17.heap.size from by rw [← hW17]; rfl] at sW17
        replace k_R : Blk W17 (rb) 57 [.slice p Ls.length cap, .int .i64 (j8 : Nat), .int .i64 (s9.err : Nat), .int .i64 (s9.pos : Nat), .int .i64 (N : Nat)] := by rw [← hW17]; exact k_R
        replace k_t : Blk W17 (w.heap.size) 27 [.string ⟨#[]⟩, .int .i64 0, .int .i64 0, .slice none 0 0] := by rw [← hW17]; exact k_t
        replace k_o : Blk W17 (W2.heap.size) 27 [.string ⟨nm.toArray⟩, .int .i64 (sx : Nat), .int .i64 (sy : Nat), .slice ma ml.length mc] := by rw [← hW17]; exact k_o
        have kpW17 : Kp (fun k => k < W12.heap.size) W13 W17 := by rw [← hW17]; exact Kp.drew (kpW16)
        rw [hW17]
        clear hW17 bW16 sW16
        refine Foyer.Round.held_take [9, 10, 11] (i := 0) (v := .agg #[.string ⟨#[]⟩, .int .i64 0, .int .i64 0, .slice none 0 0]) rfl (by kernel_rfl) (fun _ _ _ h => h) (Or.inl ⟨by rfl, fun w' hS => by go_simp⟩) (⟨k_R, bW17⟩) ?_
        try simp only [Act.put, List.setIfInBounds_toArray, List.set_cons_zero, List.set_cons_succ]
        refine Foyer.Round.held_take [2, 3, 4, 10, 11] (i := 1) (v := .pointer (some ⟨rb, 0, none⟩)) rfl (by kernel_rfl) (fun _ _ _ h => h) (Or.inl ⟨by rfl, fun w' hS => by go_simp⟩) (⟨k_R, bW17⟩) ?_
        try simp only [Act.put, List.setIfInBounds_toArray, List.set_cons_zero, List.set_cons_succ]
        refine Foyer.Round.held_take [3, 4, 10, 11] (i := 2) (v := .pointer (some ⟨rb, 0, none⟩)) rfl (by kernel_rfl) (fun _ _ _ h => h) (Or.inl ⟨by rfl, fun w' hS => by go_simp⟩) (⟨k_R, bW17⟩) ?_
        try simp only [Act.put, List.setIfInBounds_toArray, List.set_cons_zero, List.set_cons_succ]
        refine Foyer.Round.held_take [4, 10, 11] (i := 3) (v := .pointer (some ⟨rb, 2, none⟩)) rfl (by kernel_rfl) (fun _ _ _ h => h) (Or.inl ⟨by rfl, fun w' hS => by go_simp⟩) (⟨k_R, bW17⟩) ?_
        try simp only [Act.put, List.setIfInBounds_toArray, List.set_cons_zero, List.set_cons_succ]
        refine Foyer.Round.held_take [10, 11] (i := 4) (v := .int .i64 (s9.err : Nat)) rfl (by kernel_rfl) (fun _ _ _ h => h) (Or.inl ⟨by rfl, fun w' hS => by have r_R0 := (show Blk _ _ _ _ from hS.1).cell (i := 0) rfl; have r_R1 := (show Blk _ _ _ _ from hS.1).cell (i := 1) rfl; have r_R2 := (show Blk _ _ _ _ from hS.1).cell (i := 2) rfl; have r_R3 := (show Blk _ _ _ _ from hS.1).cell (i := 3) rfl; have r_R4 := (show Blk _ _ _ _ from hS.1).cell (i := 4) rfl; go_simp⟩) (⟨k_R, bW17⟩) ?_
        try simp only [Act.put, List.setIfInBounds_toArray, List.set_cons_zero, List.set_cons_succ]
        refine Foyer.Round.held_take [6, 7, 8, 11] (i := 5) (v := .pointer (some ⟨rb, 0, none⟩)) rfl (by kernel_rfl) (fun _ _ _ h => h) (Or.inl ⟨by rfl, fun w' hS => by go_simp⟩) (⟨k_R, bW17⟩) ?_
        try simp only [Act.put, List.setIfInBounds_toArray, List.set_cons_zero, List.set_cons_succ]
        refine Foyer.Round.held_take [7, 8, 11] (i := 6) (v := .pointer (some ⟨rb, 0, none⟩)) rfl (by kernel_rfl) (fun _ _ _ h => h) (Or.inl ⟨by rfl, fun w' hS => by go_simp⟩) (⟨k_R, bW17⟩) ?_
        try simp only [Act.put, List.setIfInBounds_toArray, List.set_cons_zero, List.set_cons_succ]
        refine Foyer.Round.held_take [8, 11] (i := 7) (v := .pointer (some ⟨rb, 3, none⟩)) rfl (by kernel_rfl) (fun _ _ _ h => h) (Or.inl ⟨by rfl, fun w' hS => by go_simp⟩) (⟨k_R, bW17⟩) ?_
        try simp only [Act.put, List.setIfInBounds_toArray, List.set_cons_zero, List.set_cons_succ]
        refine Foyer.Round.held_take [11] (i := 8) (v := .int .i64 (s9.pos : Nat)) rfl (by kernel_rfl) (fun _ _ _ h => h) (Or.inl ⟨by rfl, fun w' hS => by have r_R0 := (show Blk _ _ _ _ from hS.1).cell (i := 0) rfl; have r_R1 := (show Blk _ _ _ _ from hS.1).cell (i := 1) rfl; have r_R2 := (show Blk _ _ _ _ from hS.1).cell (i := 2) rfl; have r_R3 := (show Blk _ _ _ _ from hS.1).cell (i := 3) rfl; have r_R4 := (show Blk _ _ _ _ from hS.1).cell (i := 4) rfl; go_simp⟩) (⟨k_R, bW17⟩) ?_
        try simp only [Act.put, List.setIfInBounds_toArray, List.set_cons_zero, List.set_cons_succ]
        have q_t0 := k_t.cell (i := 0) rfl
        have q_t1 := k_t.cell (i := 1) rfl
        have q_t2 := k_t.cell (i := 2) rfl
        have q_t3 := k_t.cell (i := 3) rfl
        have q_tf := k_t.free
        refine Foyer.Round.held_one (i := 9) rfl (by kernel_rfl) (fun K hK => ?_)
        go_simp
        clear q_t0 q_t1 q_t2 q_t3 q_tf
        obtain ⟨W18, hW18, bW18, sW18, kpW18, k2_R, k2_t, k2_o⟩ : ∃ xW, ((((W17.setCell ⟨w.heap.size, 0, none⟩ (.string ⟨#[]⟩)).setCell ⟨w.heap.size, 1, none⟩ (.int .i64 0)).setCell ⟨w.heap.size, 2, none⟩ (.int .i64 0)).setCell ⟨w.heap.size, 3, none⟩ (.slice none 0 0)) = xW ∧ Kp (onlyB rb) w xW ∧ W17.heap.size ≤ xW.heap.size ∧ Kp (fun k => k < W12.heap.size) W13 xW ∧ Blk xW (rb) 57 [.slice p Ls.length cap, .int .i64 (j8 : Nat), .int .i64 (s9.err : Nat), .int .i64 (s9.pos : Nat), .int .i64 (N : Nat)] ∧ Blk xW (w.heap.size) 27 [.string ⟨#[]⟩, .int .i64 0, .int .i64 0, .slice none 0 0] ∧ Blk xW (W2.heap.size) 27 [.string ⟨nm.toArray⟩, .int .i64 (sx : Nat), .int .i64 (sy : Nat), .slice ma ml.length mc] := ⟨_, rfl, (Kp.s4 bW17 (Or.inr (by omega))), by simp only [World.setCell, World.size_alloc, Array.size_modify, Nat.le_refl], (Kp.s4 kpW17 (Or.inl (show w.heap.size < W12.heap.size by omega))), (Blk.o4 k_R (by omega)), (Blk.cast (Blk.set (Blk.set (Blk.set (Blk.set k_t 0 _) 1 _) 2 _) 3 _) rfl), (Blk.o4 k_o (by omega))⟩
        rw [hW18]
        clear hW18 k_R k_t k_o
        have k_R := k2_R
        have k_t := k2_t
        have k_o := k2_o
        clear k2_R k2_t k2_o
        refine hK.out _ _ (fun _ => ⟨k_R, bW18⟩) ?_
        clear hK K
        try simp only [Act.put, List.setIfInBounds_toArray, List.set_cons_zero, List.set_cons_succ]
        refine Foyer.Round.held_one (i := 10) rfl (by kernel_rfl) (fun K hK => ?_)
        go_simp
        refine hK.out _ _ (fun _ => ⟨k_R, bW18⟩) ?_
        clear hK K
        try simp only [Act.put, List.setIfInBounds_toArray, List.set_cons_zero, List.set_cons_succ]
        refine Foyer.Round.held_one (i := 11) rfl (by kernel_rfl) (fun K hK => ?_)
        go_simp
        refine hK.out _ _ (fun _ => ⟨k_R, bW18⟩) ?_
        clear hK K
        try simp only [Act.put, List.setIfInBounds_toArray, List.set_cons_zero, List.set_cons_succ]
        refine Foyer.Round.held_done (by kernel_rfl) ?_ _
        go_wp2
        have hend := HEND.out
        subst hend
        exact bodyPost_ret (results_d6 _ _ _ _ _ _ _ k_t rfl) rfl ⟨⟨_, rfl, _, rfl, nil_is6 _ _ _ _⟩, (bW18.below (Nat.le_refl _) (fun j h => by have e : j = rb := h; omega))⟩
      have HEND : Hid (R = (⟨nm, sx, sy, ml⟩, 0, 0)) := Lib.hid (by rw [← H.out, rEnd_good g0 gl]; rfl)
      have hjl : j8 = Ls.length := drop_nil (HI8.out.symm.trans gl) hi8
      have e1 : decide ((j8 : Int) < (Ls.length : Int)) = false := by simp; omega
      have e9 : (((s8.err : Nat) : Int) != 0) = false := by simp [g0]
      clear g0 gl
      have q_R0 := k_R.cell (i := 0) rfl
      have q_R1 := k_R.cell (i := 1) rfl
      have q_R2 := k_R.cell (i := 2) rfl
      have q_R3 := k_R.cell (i := 3) rfl
      have q_R4 := k_R.cell (i := 4) rfl
      have q_Rf := k_R.free
      go_quiet (fail)
      clear q_R0 q_R1 q_R2 q_R3 q_R4 q_Rf
      obtain ⟨W15, hW15⟩ : ∃ x, W14.drewN nq = x := ⟨_, rfl⟩
      have bW15 : Kp (onlyB rb) W2 W15 := by rw [← hW15]; exact Kp.drewN bW14 nq
      have sW15 := sW14
      rw [show W14.heap.size = W15.heap.size from by rw [← hW15]; rfl] at sW15
      replace k_R : Blk W15 (rb) 57 [.slice p Ls.length cap, .int .i64 (j8 : Nat), .int .i64 (s8.err : Nat), .int .i64 (s8.pos : Nat), .int .i64 (N : Nat)] := by rw [← hW15]; exact k_R
      replace k_t : Blk W15 (w.heap.size) 27 [.string ⟨#[]⟩, .int .i64 0, .int .i64 0, .slice none 0 0] := by rw [← hW15]; exact k_t
      replace k_o : Blk W15 (W2.heap.size) 27 [.string ⟨nm.toArray⟩, .int .i64 (sx : Nat), .int .i64 (sy : Nat), .slice ma ml.length mc] := by rw [← hW15]; exact k_o
      have kpW15 : Kp (fun k => k < W12.heap.size) W13 W15 := by rw [← hW15]; exact Kp.drewN kpW14 nq
      rw [hW15]
      clear hW15 bW14 sW14
      clear e0 e1
      have q_R0 := k_R.cell (i := 0) rfl
      have q_R1 := k_R.cell (i := 1) rfl
      have q_R2 := k_R.cell (i := 2) rfl
      have q_R3 := k_R.cell (i := 3) rfl
      have q_R4 := k_R.cell (i := 4) rfl
      have q_Rf := k_R.free
      go_upto_region 19 with fail
      clear q_R0 q_R1 q_R2 q_R3 q_R4 q_Rf
      clear e9
      have bw := BW.out.trans bW15
      clear bW15
      have bW15 := bw
      clear bw
      have q_o0 := k_o.cell (i := 0) rfl
      have q_o1 := k_o.cell (i := 1) rfl
      have q_o2 := k_o.cell (i := 2) rfl
      have q_o3 := k_o.cell (i := 3) rfl
      have q_of := k_o.free
      have q_t0 := k_t.cell (i := 0) rfl
      have q_t1 := k_t.cell (i := 1) rfl
      have q_t2 := k_t.cell (i := 2) rfl
      have q_t3 := k_t.cell (i := 3) rfl
      have q_tf := k_t.free
      go_wp2
      clear q_o0 q_o1 q_o2 q_o3 q_of q_t0 q_t1 q_t2 q_t3 q_tf
      obtain ⟨W16, hW16, bW16, sW16, kpW16, k2_R, k2_t, k2_o⟩ : ∃ xW, ((((W15.setCell ⟨w.heap.size, 0, none⟩ (.string ⟨nm.toArray⟩)).setCell ⟨w.heap.size, 1, none⟩ (.int .i64 (sx : Nat))).setCell ⟨w.heap.size, 2, none⟩ (.int .i64 (sy : Nat))).setCell ⟨w.heap.size, 3, none⟩ (.slice ma ml.length mc)) = xW ∧ Kp (onlyB rb) w xW ∧ W15.heap.size ≤ xW.heap.size ∧ Kp (fun k => k < W12.heap.size) W13 xW ∧ Blk xW (rb) 57 [.slice p Ls.length cap, .int .i64 (j8 : Nat), .int .i64 (s8.err : Nat), .int .i64 (s8.pos : Nat), .int .i64 (N : Nat)] ∧ Blk xW (w.heap.size) 27 [.string ⟨nm.toArray⟩, .int .i64 (sx : Nat), .int .i64 (sy : Nat), .slice ma ml.length mc] ∧ Blk xW (W2.heap.size) 27 [.string ⟨nm.toArray⟩, .int .i64 (sx : Nat), .int .i64 (sy : Nat), .slice ma ml.length mc] := ⟨_, rfl, (Kp.s4 bW15 (Or.inr (by omega))), by simp only [World.setCell, World.size_alloc, Array.size_modify, Nat.le_refl], (Kp.s4 kpW15 (Or.inl (show w.heap.size < W12.heap.size by omega))), (Blk.o4 k_R (by omega)), (Blk.cast (Blk.set (Blk.set (Blk.set (Blk.set k_t 0 _) 1 _) 2 _) 3 _) rfl), (Blk.o4 k_o (by omega))⟩
      rw [hW16]
      clear hW16 k_R k_t k_o
      have k_R := k2_R
      have k_t := k2_t
      have k_o := k2_o
      clear k2_R k2_t k2_o
      have hend := HEND.out
      subst hend
      exact bodyPost_ret (results_d6 _ _ _ _ _ _ _ k_t rfl) rfl ⟨⟨_, rfl, _, rfl, (HML.out.kept (fun k hk hlt => kpW16.block k hlt (by have e : W12.heap.size ≤ k := hk; show ¬ k < _; omega))).mono (fun k (hk : W12.heap.size ≤ k) _ => by omega)⟩, (bW16.below (Nat.le_refl _) (fun j h => by have e : j = rb := h; omega))⟩
    obtain ⟨g, rfl⟩ : ∃ z, f = z + 1 := ⟨f - 1, by have := HF.out h0; omega⟩
    obtain ⟨⟨y, s14⟩, hq⟩ : ∃ z, levelS N sg = z := ⟨_, rfl⟩
    have hm := HM.out
    rw [one_step h0 NBZ.out hq] at hm
    have HM2 := Lib.hid hm
    clear hm HM
    have HS14 : Hid (SaneS s14) := Lib.hid (one_sane level_m HSG.out hq)
    have HPL : Hid (s14.err = 0 → s14.left.length < sg.left.length) := Lib.hid (one_less eats_level level_m HSG.out h0 hq)
    have HNK : Hid (ml.length + sg.left.length ≤ 5000) := Lib.hid (HLN.out.resolve_right (fun k => k h0))
    have HF2 := Lib.hid (HF.out h0)
    have HQ := Lib.hid hq; have H0 := Lib.hid h0
    clear hq h0 HLN HF
    go_upto_region 13 with fail
    refine wp_region_any (by kernel_rfl) ?_
    refine Foyer.Round.any_of_held (S := fun W => Blk W (W2.heap.size) 27 [.string ⟨nm.toArray⟩, .int .i64 (sx : Nat), .int .i64 (sy : Nat), .slice ma ml.length mc] ∧ Kp (onlyB rb) W2 W) (N := [7]) _ _ _ _ ?_
    change Foyer.Round.held _ _ _ _ _ _ _ _ _ W13.drew
    obtain ⟨W14, hW14⟩ : ∃ x, W13.drew = x := ⟨_, rfl⟩
    have bW14 : Kp (onlyB rb) W2 W14 := by rw [← hW14]; exact Kp.drew bW13
    have sW14 := sW13
    rw [show W13.heap.size = W14.heap.size from by rw [← hW14]; rfl] at sW14
    replace k_R : Blk W14 (rb) 57 [.slice p Ls.length cap, .int .i64 (ig : Nat), .int .i64 (sg.err : Nat), .int .i64 (sg.pos : Nat), .int .i64 (N : Nat)] := by rw [← hW14]; exact k_R
    replace k_t : Blk W14 (w.heap.size) 27 [.string ⟨#[]⟩, .int .i64 0, .int .i64 0, .slice none 0 0] := by rw [← hW14]; exact k_t
    replace k_o : Blk W14 (W2.heap.size) 27 [.string ⟨nm.toArray⟩, .int .i64 (sx : Nat), .int .i64 (sy : Nat), .slice ma ml.length mc] := by rw [← hW14]; exact k_o
    have kpW14 : Kp (fun k => k < W12.heap.size) wr W14 := by rw [← hW14]; exact Kp.drew (kpW13)
    rw [hW14]
    clear hW14 bW13 sW13
    refine Foyer.Round.held_take [1, 5, 7] (i := 0) (v := .pointer (some ⟨W2.heap.size, 3, none⟩)) rfl (by kernel_rfl) (fun _ _ _ h => h) (Or.inl ⟨by rfl, fun w' hS => by go_simp⟩) (⟨k_o, bW14⟩) ?_
    try simp only [Act.put, List.setIfInBounds_toArray, List.set_cons_zero, List.set_cons_succ]
    refine Foyer.Round.held_take [5, 7] (i := 1) (v := .slice ma ml.length mc) rfl (by kernel_rfl) (fun _ _ _ h => h) (Or.inl ⟨by rfl, fun w' hS => by have r_o0 := (show Blk _ _ _ _ from hS.1).cell (i := 0) rfl; have r_o1 := (show Blk _ _ _ _ from hS.1).cell (i := 1) rfl; have r_o2 := (show Blk _ _ _ _ from hS.1).cell (i := 2) rfl; have r_o3 := (show Blk _ _ _ _ from hS.1).cell (i := 3) rfl; go_simp⟩) (⟨k_o, bW14⟩) ?_
    try simp only [Act.put, List.setIfInBounds_toArray, List.set_cons_zero, List.set_cons_succ]
    refine Foyer.Round.held_take [3, 4, 5, 7] (i := 2) (v := .pointer (some ⟨rb, 0, none⟩)) rfl (by kernel_rfl) (fun _ _ _ h => h) (Or.inl ⟨by rfl, fun w' hS => by go_simp⟩) (⟨k_o, bW14⟩) ?_
    try simp only [Act.put, List.setIfInBounds_toArray, List.set_cons_zero, List.set_cons_succ]
    have hdz : wr.heap.size ≤ W14.heap.size ∧ W12.heap.size ≤ W14.heap.size := ⟨kpW14.size, by omega⟩
    refine Foyer.Round.held_one (i := 3) rfl (by kernel_rfl) (fun K hK => ?_)
    go_simp
    refine (dlevel_c B N Ls p cap hL rb sg ig HIg.out hig W14 (Below.kp HB.out hrb bW14) hrb k_R HSG.out HQ.out).mono ?_; rintro e W15 ⟨⟨u1, u2, u3, u4, u5, rfl, hmv⟩, ⟨j9, hr, hl_, hi9⟩, hb⟩
    have sW15 := Nat.le_trans sW14 hb.size
    have bW15 := (bW14).trans hb
    replace k_R := hr
    replace k_t := Blk.kept k_t hb (by show ¬ _ = rb; omega)
    replace k_o := Blk.kept k_o hb (by show ¬ _ = rb; omega)
    have kpW15 := (kpW14).trans (Kp.mono hb (fun k hk => by have e : k = rb := hk; show k < _; omega))
    clear hb hr bW14 sW14
    have HMV := Lib.hid hmv
    have HI9 := Lib.hid hl_
    clear hmv hl_
    refine hK.out _ _ (fun _ => ⟨k_o, bW15⟩) ?_
    clear hK K
    try simp only [Act.put, List.setIfInBounds_toArray, List.set_cons_zero, List.set_cons_succ]
    obtain ⟨css, hcon, hall⟩ := HMB.out.shift6 kpW15
    have hlt7 : ∀ k, (Value.slice ma ml.length mc).ownBlock = some k → k < W14.heap.size := fun k hk => by have h1 := (HMB.out.lt hk).2; omega
    have hown : ∀ k, (Value.slice ma ml.length mc).ownBlock = some k → W12.heap.size ≤ k ∧ k < W15.heap.size := fun k hk => own_lt hcon.own hk
    obtain ⟨i0, hi0_, hz0, hz1, hz2⟩ := info_parts6 hallC_info
    have hc : levelK.is W15 (fun k => W14.heap.size ≤ k) [.string ⟨y.name.toArray⟩, .int .i64 (y.height : Nat), u1, u2, u3, u4, u5, .int .i64 (y.pos : Nat)] y := ⟨_, _, _, _, _, HMV.out⟩
    have hbz : W12.heap.size ≤ W14.heap.size := hdz.2
    have HJ0 := Lib.hid hi0_; have HZ0 := Lib.hid hz0; have HZ1 := Lib.hid hz1; have HZ2 := Lib.hid hz2; have HCON := Lib.hid hcon; have HALL := Lib.hid hall; have HOW := Lib.hid hown; have HC := Lib.hid hc; have HLT7 := Lib.hid hlt7
    have HXL : Hid (css.length + 1 ≤ 1000000) := Lib.hid (by rw [All2.length HALL.out]; have := HNK.out; omega)
    clear hi0_ hz0 hz1 hz2 hcon hall hown hc hlt7 kpW15 HMB
    refine Foyer.Round.held_one (i := 4) rfl (by kernel_rfl) (fun K hK => ?_)
    go_simp
    refine hK.out _ _ (fun _ => ⟨k_o.alloc _, Kp.alloc bW15 _⟩) ?_
    clear hK K
    try simp only [Act.put, List.setIfInBounds_toArray, List.set_cons_zero, List.set_cons_succ]
    refine Foyer.Round.held_one (i := 5) rfl (by kernel_rfl) (fun K hK => ?_)
    rw [if_pos (by kernel_rfl)]
    refine con_append (t := 25) (T := 38) (m := levelK.size) (B := W12.heap.size) Tryz.underlying25 HJ0.out HZ0.out HZ1.out HZ2.out rfl (by decide) (by decide) (.tmp 55) (.tmp 58) rfl _ css [.string ⟨y.name.toArray⟩, .int .i64 (y.height : Nat), u1, u2, u3, u4, u5, .int .i64 (y.pos : Nat)] rfl (HCON.out.of_block (fun k hk => Below.heap_alloc _ _ _ (HOW.out k hk).2)) W15.heap.size rfl (Blk.new W15 38 [.string ⟨y.name.toArray⟩, .int .i64 (y.height : Nat), u1, u2, u3, u4, u5, .int .i64 (y.pos : Nat)]) (levelK.len HC.out) (levelK.one HC.out) HXL.out (by rw [World.size_alloc]; omega) ?_
    intro v' Wa hcon' hg hat hone
    have BN := Lib.hid (building_snoc6 HALL.out HC.out hbz HLT7.out hcon' hg hat)
    have F_R := Lib.hid (app_facts6 hg (fun k hk => (HOW.out k hk).1) k_R (show rb < W12.heap.size by omega))
    have F_t := Lib.hid (app_facts6 hg (fun k hk => (HOW.out k hk).1) k_t (show w.heap.size < W12.heap.size by omega))
    have F_o := Lib.hid (app_facts6 hg (fun k hk => (HOW.out k hk).1) k_o (show W2.heap.size < W12.heap.size by omega))
    have FB := Lib.hid ((Kp.alloc bW15 (.cells ([.string ⟨y.name.toArray⟩, .int .i64 (y.height : Nat), u1, u2, u3, u4, u5, .int .i64 (y.pos : Nat)] : List Value).toArray 38)).grown hg (fun k hk => Or.inr (by have := (HOW.out k hk).1; omega)))
    have FZ : Hid (W15.heap.size + 1 ≤ Wa.heap.size) := Lib.hid (by have := hg.size; rw [World.size_alloc] at this; exact this)
    obtain ⟨va, vc, hv'⟩ := BN.out.len6
    rw [List.length_append, List.length_singleton] at hv'
    subst hv'
    clear hcon' hg hat hone
    refine hK.out _ _ (fun _ => ⟨F_o.out, FB.out⟩) ?_
    clear hK K
    try simp only [Act.put, List.setIfInBounds_toArray, List.set_cons_zero, List.set_cons_succ]
    clear k_R k_t k_o
    have k_R := F_R.out
    have k_t := F_t.out
    have k_o := F_o.out
    have bWa := FB.out
    have sWa : W12.heap.size ≤ Wa.heap.size := Nat.le_trans sW15 (Nat.le_of_succ_le FZ.out)
    clear bW15 sW15 FB FZ HALL HCON HOW HC HLT7 HXL HJ0 HZ0 HZ1 HZ2 HMV F_R F_t F_o
    refine Foyer.Round.held_take [7] (i := 6) (v := .pointer (some ⟨W2.heap.size, 3, none⟩)) rfl (by kernel_rfl) (fun _ _ _ h => h) (Or.inl ⟨by rfl, fun w' hS => by go_simp⟩) (⟨k_o, bWa⟩) ?_
    try simp only [Act.put, List.setIfInBounds_toArray, List.set_cons_zero, List.set_cons_succ]
    have q_o0 := k_o.cell (i := 0) rfl
    have q_o1 := k_o.cell (i := 1) rfl
    have q_o2 := k_o.cell (i := 2) rfl
    have q_o3 := k_o.cell (i := 3) rfl
    have q_of := k_o.free
    refine Foyer.Round.held_one (i := 7) rfl (by kernel_rfl) (fun K hK => ?_)
    go_simp
    clear q_o0 q_o1 q_o2 q_o3 q_of
    obtain ⟨W16, hW16, bW16, sW16, kpW16, k2_R, k2_t, k2_o⟩ : ∃ xW, (Wa.setCell ⟨W2.heap.size, 3, none⟩ (.slice va (ml.length + 1) vc)) = xW ∧ Kp (onlyB rb) W2 xW ∧ Wa.heap.size ≤ xW.heap.size ∧ Kp (fun k => k < W12.heap.size) Wa xW ∧ Blk xW (rb) 57 [.slice p Ls.length cap, .int .i64 (j9 : Nat), .int .i64 (s14.err : Nat), .int .i64 (s14.pos : Nat), .int .i64 (N : Nat)] ∧ Blk xW (w.heap.size) 27 [.string ⟨#[]⟩, .int .i64 0, .int .i64 0, .slice none 0 0] ∧ Blk xW (W2.heap.size) 27 [.string ⟨nm.toArray⟩, .int .i64 (sx : Nat), .int .i64 (sy : Nat), .slice va (ml.length + 1) vc] := ⟨_, rfl, (Kp.s1 bWa (Or.inr (by omega))), by simp only [World.setCell, World.size_alloc, Array.size_modify, Nat.le_refl], (Kp.s1 (Kp.refl _ _) (Or.inl (show W2.heap.size < W12.heap.size by omega))), (Blk.o1 k_R (by omega)), (Blk.o1 k_t (by omega)), (Blk.cast (Blk.set k_o 3 _) rfl)⟩
    rw [hW16]
    clear hW16 k_R k_t k_o
    have k_R := k2_R
    have k_t := k2_t
    have k_o := k2_o
    clear k2_R k2_t k2_o
    refine hK.out _ _ (fun h => (h (by simp)).elim) ?_
    clear hK K
    try simp only [Act.put, List.setIfInBounds_toArray, List.set_cons_zero, List.set_cons_succ]
    refine Foyer.Round.held_done (by kernel_rfl) ?_ _
    have BN2 := Lib.hid (BN.out.shift6 kpW16)
    clear kpW16 BN
    go_wp2
    refine ⟨⟨ml ++ [y], va, vc, s14, j9, g, HM2, Lib.hid (fun e => by have h1 := HPL.out e; have h2 := HF2.out; omega), HI9, Lib.hid hi9, HS14, Lib.hid ((Decidable.em (s14.err = 0)).elim (fun e => Or.inl (by have h1 := HPL.out e; have h2 := HNK.out; rw [List.length_append, List.length_singleton]; omega)) Or.inr), Lib.hid (by rw [List.length_append, List.length_singleton]; exact BN2.out), Lib.hid k_R, Lib.hid k_t, Lib.hid (by rw [List.length_append, List.length_singleton]; exact k_o), Lib.hid bW16, Lib.hid (by omega)⟩, ?_⟩
    rw [left6_of k_R, HLEFT.out, if_pos H0.out]
    have d1 := drop_len HIg.out hig
    have d2 := drop_len HI9.out hi9
    split
    · rename_i he
      have := HPL.out he
      omega
    · omega
end Go.Proofs.YtlfjdohjfmfcdaaGreatDoor
namespace Go.Proofs.YtlfjdohjfmfcdaaGreatDoor
open Go.RowKit Go.Sort Go.Shelf Foyer.Plan

theorem dparse_s (t : ByteArray) (ht : t.size ≤ 1000000) (x : HallP) (E : Nat) (O : Int) (h : parseAll t.data.toList = (x, E, O)) (w : World) :
    Calls Tryz.prog 6 #[.string t] w fun e w' => ∃ a n c, e = .returned (.tuple #[.agg #[.string ⟨x.name.toArray⟩, .int .i64 (x.sx : Nat), .int .i64 (x.sy : Nat), .slice a n c], .int .i64 (E : Nat), .int .i64 O]) ∧ IsList levelK w' (fun k => w.heap.size ≤ k) 38 (.slice a n c) x.levels ∧ Below w.heap.size w w' := by
  refine (dparse_any t ht w).mono ?_
  rintro e w' ⟨⟨c, he, v, hc, hl⟩, hb⟩
  rw [h] at he hl hc
  obtain ⟨a, d, hv⟩ := hl.len6
  subst hv
  subst hc
  exact ⟨a, _, d, he, hl, hb⟩
set_option maxRecDepth 100000 in
set_option maxHeartbeats 2000000 in
theorem ref_walk (t : ByteArray) (w : World) (ht : t.size ≤ maxLen) (_ : Env w) :
    Calls Tryz.prog 3 #[.string t] w fun e w' => e = .returned (.bool true) ∧ Below w.heap.size w w' := by
  have HS : Hid (Since w w) := Lib.hid (Below.refl _ _)
  unfold maxLen at ht
  by_cases h2 : 25000 < t.size
  · have hd : decide ((25000 : Int) < (t.size : Int)) = true := by simp; omega
    go_enter Tryz.func3, Tryz.ntmps3
    go_wp2_with fail
    refine (head_any _).mono ?_; rintro x w1 ⟨rfl, hb1⟩
    have HS1 := Lib.hid (HS.out.call hb1); clear hb1
    go_wp2
    go_ret
    exact ⟨rfl, HS1.out⟩
  · have hd : decide ((25000 : Int) < (t.size : Int)) = false := by simp; omega
    obtain ⟨⟨xs, E, O⟩, hx⟩ : ∃ x, parseAll t.data.toList = x := ⟨_, rfl⟩
    have HP := Lib.hid (fun w => plan_s t (by omega) xs E O hx w)
    have HR := Lib.hid (fun w => dparse_s t (by omega) xs E O hx w)
    obtain ⟨nm, sx, sy, ls⟩ := xs
    have e0 : (((E : Nat) : Int) == ((E : Nat) : Int)) = true := by simp
    have e1 : (O == O) = true := by simp
    clear hx h2
    go_enter Tryz.func3, Tryz.ntmps3
    go_wp2_with fail
    refine (head_any _).mono ?_; rintro x w1 ⟨rfl, hb1⟩
    have HS1 := Lib.hid (HS.out.call hb1); clear hb1
    go_wp2_with fail
    refine (HP.out _).mono ?_; rintro x w2 ⟨a2, n2, c2, rfl, hl2, hb2⟩
    have HS2 := Lib.hid (HS1.out.call hb2); have HL2 := Lib.hid hl2; clear hb2 hl2
    have HA2 := Lib.hid ((Below.refl w2.heap.size w2).alloc (Nat.le_refl _) (.cells #[.string ⟨nm.toArray⟩, .int .i64 (sx : Nat), .int .i64 (sy : Nat), .slice a2 n2 c2] 27))
    have K2 := Lib.hid (Blk.new w2 27 [.string ⟨nm.toArray⟩, .int .i64 (sx : Nat), .int .i64 (sy : Nat), .slice a2 n2 c2])
    go_upto_region 5 with fail
    obtain ⟨w3, hw3⟩ : ∃ z, w2.alloc (.cells #[.string ⟨nm.toArray⟩, .int .i64 (sx : Nat), .int .i64 (sy : Nat), .slice a2 n2 c2] 27) = z := ⟨_, rfl⟩
    have K3 : Hid (Blk w3 w2.heap.size 27 [.string ⟨nm.toArray⟩, .int .i64 (sx : Nat), .int .i64 (sy : Nat), .slice a2 n2 c2]) := Lib.hid (by rw [← hw3]; exact K2.out)
    have HB3 : Hid (Below w2.heap.size w2 w3) := Lib.hid (by rw [← hw3]; exact HA2.out)
    rw [hw3]
    clear hw3 K2 HA2
    go_wp2_with fail
    refine (HR.out _).mono ?_; rintro x w4 ⟨a4, n4, c4, rfl, hl4, hb4⟩
    have HL4 := Lib.hid hl4; have HB4 := Lib.hid hb4; clear hb4 hl4
    have K4 := Lib.hid (K3.out.below HB4.out)
    go_upto_region 6 with fail
    obtain ⟨w5, hw5⟩ : ∃ z, w4.alloc (.cells #[.string ⟨nm.toArray⟩, .int .i64 (sx : Nat), .int .i64 (sy : Nat), .slice a4 n4 c4] 27) = z := ⟨_, rfl⟩
    have HB5 : Hid (Below w4.heap.size w4 w5) := Lib.hid (by rw [← hw5]; exact (Below.refl _ _).alloc (Nat.le_refl _) _)
    have K5 : Hid (Blk w5 w4.heap.size 27 [.string ⟨nm.toArray⟩, .int .i64 (sx : Nat), .int .i64 (sy : Nat), .slice a4 n4 c4]) := Lib.hid (by rw [← hw5]; exact Blk.new _ _ _)
    have KA5 := Lib.hid (K4.out.below HB5.out)
    rw [hw5]
    clear hw5
    have q0 := K5.out.cell (i := 0) rfl
    have q1 := KA5.out.cell (i := 0) rfl
    have q2 := K5.out.cell (i := 1) rfl
    have q3 := KA5.out.cell (i := 1) rfl
    have q4 := K5.out.cell (i := 2) rfl
    have q5 := KA5.out.cell (i := 2) rfl
    have q6 := K5.out.cell (i := 3) rfl
    have q7 := KA5.out.cell (i := 3) rfl
    have HX := Lib.hid (same_true nm sx sy ls _ _ _ _ w5 (((HL2.out.below HB3.out).below (HB4.out.mono (Nat.le_refl _))).below HB5.out) (HL4.out.below HB5.out))
    have HS5 := Lib.hid (((HS2.out.call HB3.out).call HB4.out).call HB5.out)
    go_wp2_with fail
    refine HX.out.mono ?_; rintro x w6 ⟨rfl, hb6⟩
    have HS6 := Lib.hid (HS5.out.call hb6); clear hb6 q0 q1 q2 q3 q4 q5 q6 q7
    go_wp2
    go_ret
    exact ⟨rfl, HS6.out⟩
end Go.Proofs.YtlfjdohjfmfcdaaGreatDoor
