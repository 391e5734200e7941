/-
  The document's own reader of rules: a test.
-/
import Derived.Test.YtlfjdohjfmfcdabDoorRefRt7
namespace Go.Proofs.YtlfjdohjfmfcdabDoor
open Go.RowKit Go.Sort Foyer.Rule
set_option linter.unusedSimpArgs false

theorem take_short {N : Nat} {s : St} {k : Nat} {t : Foyer.Lexer.Tok} {s2 : St} (h : rTake N s k = (t, s2)) (hs : ∀ u ∈ s.left, u.text.length ≤ 1000000) : t.text.length ≤ 1000000 := by
  unfold rTake at h
  split at h
  · cases h
    cases hl : s.left with
    | nil => exact Nat.zero_le _
    | cons u r => exact hs u (by rw [hl]; exact List.mem_cons_self)
  · cases h; exact Nat.zero_le _
theorem upTo_left {ws : List (List UInt8)} {s : St} {k n : Nat} (h : upTo ws s k n ≠ 0) : ∃ t r, s.left = t :: r := by
  rcases upTo_at ws s k n with e | ⟨i, _, _, h3⟩
  · exact absurd e h
  · obtain ⟨_, t, r, hl, _⟩ := rIs_true h3
    exact ⟨t, r, hl⟩
set_option maxRecDepth 100000 in
set_option maxHeartbeats 4000000 in
theorem rtest_c {N : Nat} {s : St} {y : TestP} {s9 : St} (h : rTest N s = (y, s9)) (B : World) (p : Option Addr) (cap : Nat) (hv : IsSt B p cap s.left) (w : World) (hB : Below B.heap.size B w) :
    Calls Tryd.prog 38 #[.agg #[.slice p s.left.length cap, .int .i64 (N : Nat), .int .i64 (s.err : Nat), .int .i64 (s.pos : Nat)]] w fun e w' => (∃ p2 cap2, e = .returned (.tuple #[.agg #[.string ⟨y.attr.toArray⟩, .int .i64 (y.op : Nat), .string ⟨y.name.toArray⟩, .int .i64 (y.n : Nat), .int .i64 (y.pos : Nat)], .agg #[.slice p2 s9.left.length cap2, .int .i64 (N : Nat), .int .i64 (s9.err : Nat), .int .i64 (s9.pos : Nat)]]) ∧ IsSt B p2 cap2 s9.left) ∧ Below w.heap.size w w' := by
  have HV := Lib.hid hv; have HB := Lib.hid hB
  clear hv hB
  obtain ⟨⟨a, s1⟩, h1⟩ : ∃ z, rTake N s 1 = z := ⟨_, rfl⟩
  obtain ⟨o, ho⟩ : ∃ z, upTo opWords s1 3 6 = z := ⟨_, rfl⟩
  unfold rTest at h
  simp only [h1] at h
  rw [ho] at h
  have H := Lib.hid h; have N1 := Lib.hid h1; have NO := Lib.hid ho
  clear h h1 ho
  go_enter Tryd.func38, Tryd.ntmps38
  go_upto_region 1 with fail
  obtain ⟨W1, hW1, bW1, sW1, k2_s, k2_t, k2_r⟩ : ∃ x, (((w.alloc (.cells #[.slice p s.left.length cap, .int .i64 (N : Nat), .int .i64 (s.err : Nat), .int .i64 (s.pos : Nat)] 45)).alloc (.cells #[.string ⟨#[]⟩, .int .i64 0, .string ⟨#[]⟩, .int .i64 0, .int .i64 0] 32)).alloc (.cells #[.slice none 0 0, .int .i64 0, .int .i64 0, .int .i64 0] 45)) = x ∧ Since w x ∧ w.heap.size + 1 + 1 + 1 ≤ x.heap.size ∧ Blk x (w.heap.size) 45 [.slice p s.left.length cap, .int .i64 (N : Nat), .int .i64 (s.err : Nat), .int .i64 (s.pos : Nat)] ∧ Blk x (w.heap.size + 1) 32 [.string ⟨#[]⟩, .int .i64 0, .string ⟨#[]⟩, .int .i64 0, .int .i64 0] ∧ Blk x (w.heap.size + 1 + 1) 45 [.slice none 0 0, .int .i64 0, .int .i64 0, .int .i64 0] := ⟨_, rfl, (Since.alloc (Since.alloc (Since.alloc (Since.refl w) _) _) _), by simp only [World.setCell, World.size_alloc, Array.size_modify, Nat.le_refl], (Blk.alloc (Blk.alloc (Blk.new' _ _ _ (rfl)) _) _), (Blk.alloc (Blk.new' _ _ _ (by simp only [World.size_alloc])) _), (Blk.new' _ _ _ (by simp only [World.size_alloc]))⟩
  rw [hW1]
  clear hW1
  have k_s := k2_s
  have k_t := k2_t
  have k_r := k2_r
  clear k2_s k2_t k2_r
  have q_s0 := k_s.cell (i := 0) rfl
  have q_s1 := k_s.cell (i := 1) rfl
  have q_s2 := k_s.cell (i := 2) rfl
  have q_s3 := k_s.cell (i := 3) rfl
  have q_sf := k_s.free
  go_wp2_with fail
  refine (rtake_c N1.out B p cap HV.out 1 rfl _ (HB.out.trans (bW1.mono HB.out.size))).mono ?_; rintro e W2 ⟨⟨p1, cap1, rfl, hs_⟩, hb⟩
  clear q_s0 q_s1 q_s2 q_s3 q_sf
  have sW2 := Nat.le_trans sW1 hb.size
  have bW2 := (bW1).call hb
  replace k_s := k_s.past hb
  replace k_t := k_t.past hb
  replace k_r := k_r.past hb
  clear hb bW1 sW1
  have HV1 := Lib.hid hs_
  clear hs_
  have q_s0 := (k_s.alloc (.cells #[.int .i64 (a.kind : Nat), .string ⟨a.text.toArray⟩, .int .i64 (a.val : Nat), .int .i64 (a.pos : Nat)] 54)).cell (i := 0) rfl
  have q_s1 := (k_s.alloc (.cells #[.int .i64 (a.kind : Nat), .string ⟨a.text.toArray⟩, .int .i64 (a.val : Nat), .int .i64 (a.pos : Nat)] 54)).cell (i := 1) rfl
  have q_s2 := (k_s.alloc (.cells #[.int .i64 (a.kind : Nat), .string ⟨a.text.toArray⟩, .int .i64 (a.val : Nat), .int .i64 (a.pos : Nat)] 54)).cell (i := 2) rfl
  have q_s3 := (k_s.alloc (.cells #[.int .i64 (a.kind : Nat), .string ⟨a.text.toArray⟩, .int .i64 (a.val : Nat), .int .i64 (a.pos : Nat)] 54)).cell (i := 3) rfl
  have q_sf := (k_s.alloc (.cells #[.int .i64 (a.kind : Nat), .string ⟨a.text.toArray⟩, .int .i64 (a.val : Nat), .int .i64 (a.pos : Nat)] 54)).free
  go_upto_region 2 with fail
  clear q_s0 q_s1 q_s2 q_s3 q_sf
  obtain ⟨W3, hW3, bW3, sW3, k2_s, k2_t, k2_r, k2_a⟩ : ∃ x, (((((W2.alloc (.cells #[.int .i64 (a.kind : Nat), .string ⟨a.text.toArray⟩, .int .i64 (a.val : Nat), .int .i64 (a.pos : Nat)] 54)).setCell ⟨w.heap.size, 0, none⟩ (.slice p1 s1.left.length cap1)).setCell ⟨w.heap.size, 1, none⟩ (.int .i64 (N : Nat))).setCell ⟨w.heap.size, 2, none⟩ (.int .i64 (s1.err : Nat))).setCell ⟨w.heap.size, 3, none⟩ (.int .i64 (s1.pos : Nat))) = x ∧ Since w x ∧ W2.heap.size + 1 ≤ x.heap.size ∧ Blk x (w.heap.size) 45 [.slice p1 s1.left.length cap1, .int .i64 (N : Nat), .int .i64 (s1.err : Nat), .int .i64 (s1.pos : Nat)] ∧ Blk x (w.heap.size + 1) 32 [.string ⟨#[]⟩, .int .i64 0, .string ⟨#[]⟩, .int .i64 0, .int .i64 0] ∧ Blk x (w.heap.size + 1 + 1) 45 [.slice none 0 0, .int .i64 0, .int .i64 0, .int .i64 0] ∧ Blk x (W2.heap.size) 54 [.int .i64 (a.kind : Nat), .string ⟨a.text.toArray⟩, .int .i64 (a.val : Nat), .int .i64 (a.pos : Nat)] := ⟨_, rfl, (Since.s4 (Since.alloc bW2 _) (by omega)), by simp only [World.setCell, World.size_alloc, Array.size_modify, Nat.le_refl], (Blk.cast (Blk.set (Blk.set (Blk.set (Blk.set (Blk.alloc k_s _) 0 _) 1 _) 2 _) 3 _) rfl), (Blk.o4 (Blk.alloc k_t _) (by omega)), (Blk.o4 (Blk.alloc k_r _) (by omega)), (Blk.o4 (Blk.new' _ _ _ (rfl)) (by omega))⟩
  rw [hW3]
  clear hW3 k_s k_t k_r
  have k_s := k2_s
  have k_t := k2_t
  have k_r := k2_r
  have k_a := k2_a
  clear k2_s k2_t k2_r k2_a
  have q_a0 := k_a.cell (i := 0) rfl
  have q_a1 := k_a.cell (i := 1) rfl
  have q_a2 := k_a.cell (i := 2) rfl
  have q_a3 := k_a.cell (i := 3) rfl
  have q_af := k_a.free
  go_upto_region 3 with fail
  clear q_a0 q_a1 q_a2 q_a3 q_af
  obtain ⟨W4, hW4, bW4, sW4, k2_s, k2_t, k2_r, k2_a, k2_x⟩ : ∃ x, (W3.alloc (.cells #[.string ⟨a.text.toArray⟩, .int .i64 0, .string ⟨#[]⟩, .int .i64 0, .int .i64 (a.pos : Nat)] 32)) = x ∧ Since w x ∧ W3.heap.size + 1 ≤ x.heap.size ∧ Blk x (w.heap.size) 45 [.slice p1 s1.left.length cap1, .int .i64 (N : Nat), .int .i64 (s1.err : Nat), .int .i64 (s1.pos : Nat)] ∧ Blk x (w.heap.size + 1) 32 [.string ⟨#[]⟩, .int .i64 0, .string ⟨#[]⟩, .int .i64 0, .int .i64 0] ∧ Blk x (w.heap.size + 1 + 1) 45 [.slice none 0 0, .int .i64 0, .int .i64 0, .int .i64 0] ∧ Blk x (W2.heap.size) 54 [.int .i64 (a.kind : Nat), .string ⟨a.text.toArray⟩, .int .i64 (a.val : Nat), .int .i64 (a.pos : Nat)] ∧ Blk x (W3.heap.size) 32 [.string ⟨a.text.toArray⟩, .int .i64 0, .string ⟨#[]⟩, .int .i64 0, .int .i64 (a.pos : Nat)] := ⟨_, rfl, (Since.alloc bW3 _), by simp only [World.setCell, World.size_alloc, Array.size_modify, Nat.le_refl], (Blk.alloc k_s _), (Blk.alloc k_t _), (Blk.alloc k_r _), (Blk.alloc k_a _), (Blk.new' _ _ _ (rfl))⟩
  rw [hW4]
  clear hW4 k_s k_t k_r k_a
  have k_s := k2_s
  have k_t := k2_t
  have k_r := k2_r
  have k_a := k2_a
  have k_x := k2_x
  clear k2_s k2_t k2_r k2_a k2_x
  go_upto_region 5 with fail
  obtain ⟨W5, hW5, bW5, sW5, k2_s, k2_t, k2_r, k2_a, k2_x, k2_ws⟩ : ∃ x, (W4.alloc (.cells #[.string ⟨#[61]⟩, .string ⟨#[33, 61]⟩, .string ⟨#[60]⟩, .string ⟨#[60, 61]⟩, .string ⟨#[62]⟩, .string ⟨#[62, 61]⟩] 9)) = x ∧ Since w x ∧ W4.heap.size + 1 ≤ x.heap.size ∧ Blk x (w.heap.size) 45 [.slice p1 s1.left.length cap1, .int .i64 (N : Nat), .int .i64 (s1.err : Nat), .int .i64 (s1.pos : Nat)] ∧ Blk x (w.heap.size + 1) 32 [.string ⟨#[]⟩, .int .i64 0, .string ⟨#[]⟩, .int .i64 0, .int .i64 0] ∧ Blk x (w.heap.size + 1 + 1) 45 [.slice none 0 0, .int .i64 0, .int .i64 0, .int .i64 0] ∧ Blk x (W2.heap.size) 54 [.int .i64 (a.kind : Nat), .string ⟨a.text.toArray⟩, .int .i64 (a.val : Nat), .int .i64 (a.pos : Nat)] ∧ Blk x (W3.heap.size) 32 [.string ⟨a.text.toArray⟩, .int .i64 0, .string ⟨#[]⟩, .int .i64 0, .int .i64 (a.pos : Nat)] ∧ Blk x (W4.heap.size) 9 [.string ⟨#[61]⟩, .string ⟨#[33, 61]⟩, .string ⟨#[60]⟩, .string ⟨#[60, 61]⟩, .string ⟨#[62]⟩, .string ⟨#[62, 61]⟩] := ⟨_, rfl, (Since.alloc bW4 _), by simp only [World.setCell, World.size_alloc, Array.size_modify, Nat.le_refl], (Blk.alloc k_s _), (Blk.alloc k_t _), (Blk.alloc k_r _), (Blk.alloc k_a _), (Blk.alloc k_x _), (Blk.new' _ _ _ (rfl))⟩
  rw [hW5]
  clear hW5 k_s k_t k_r k_a k_x
  have k_s := k2_s
  have k_t := k2_t
  have k_r := k2_r
  have k_a := k2_a
  have k_x := k2_x
  have k_ws := k2_ws
  clear k2_s k2_t k2_r k2_a k2_x k2_ws
  go_loopw [7] (fun i wr => ∃ k : Nat, i = .int .i64 k ∧ k ≤ 6 ∧ Hid (Blk wr (w.heap.size) 45 [.slice p1 s1.left.length cap1, .int .i64 (N : Nat), .int .i64 (s1.err : Nat), .int .i64 (s1.pos : Nat)]) ∧ Hid (Blk wr (w.heap.size + 1) 32 [.string ⟨#[]⟩, .int .i64 0, .string ⟨#[]⟩, .int .i64 0, .int .i64 0]) ∧ Hid (Blk wr (w.heap.size + 1 + 1) 45 [.slice none 0 0, .int .i64 0, .int .i64 0, .int .i64 0]) ∧ Hid (Blk wr (W2.heap.size) 54 [.int .i64 (a.kind : Nat), .string ⟨a.text.toArray⟩, .int .i64 (a.val : Nat), .int .i64 (a.pos : Nat)]) ∧ Hid (Blk wr (W3.heap.size) 32 [.string ⟨a.text.toArray⟩, .int .i64 ((upTo opWords s1 3 k) : Nat), .string ⟨#[]⟩, .int .i64 0, .int .i64 (a.pos : Nat)]) ∧ Hid (Blk wr (W4.heap.size) 9 [.string ⟨#[61]⟩, .string ⟨#[33, 61]⟩, .string ⟨#[60]⟩, .string ⟨#[60, 61]⟩, .string ⟨#[62]⟩, .string ⟨#[62, 61]⟩]) ∧ Hid (Since w wr) ∧ Hid (W4.heap.size + 1 ≤ wr.heap.size)) (fun i _ => 6 - (intOf i).toNat)
  case atStart => exact ⟨0, rfl, Nat.zero_le _, Lib.hid k_s, Lib.hid k_t, Lib.hid k_r, Lib.hid k_a, Lib.hid k_x, Lib.hid k_ws, Lib.hid bW5, Lib.hid (by omega)⟩
  case round =>
    obtain ⟨k, rfl, hk, J_s, J_t, J_r, J_a, J_x, J_ws, Jb, Jz⟩ := hrel
    clear k_s k_t k_r k_a k_x k_ws bW5 sW5
    have k_s := J_s.out
    have k_t := J_t.out
    have k_r := J_r.out
    have k_a := J_a.out
    have k_x := J_x.out
    have k_ws := J_ws.out
    have bwr := Jb.out
    have swr := Jz.out
    clear J_s J_t J_r J_a J_x J_ws Jb Jz
    by_cases hk6 : k < 6
    · have hd : decide ((k : Int) < 6) = true := by simp; omega
      have hki : (0 : Int) ≤ k ∧ (k : Int) < 6 := by omega
      have HWK : Hid (([.string ⟨#[61]⟩, .string ⟨#[33, 61]⟩, .string ⟨#[60]⟩, .string ⟨#[60, 61]⟩, .string ⟨#[62]⟩, .string ⟨#[62, 61]⟩] : List Value)[k]? = some (.string ⟨(opWords.getD k []).toArray⟩)) := Lib.hid (by match k, hk6 with | 0, _ => rfl | 1, _ => rfl | 2, _ => rfl | 3, _ => rfl | 4, _ => rfl | 5, _ => rfl)
      obtain ⟨bb, hbb⟩ : ∃ z, rIs s1 3 (opWords.getD k []) = z := ⟨_, rfl⟩
      have hup : upTo opWords s1 3 (k + 1) = if bb = true then k + 1 else upTo opWords s1 3 k := by rw [← hbb]; rfl
      have Nbb := Lib.hid hbb; have HUP := Lib.hid hup
      clear hbb hup
      go_upto_region 7 with fail
      refine wp_region_any (by kernel_rfl) ?_
      refine Foyer.Round.any_of_held (S := fun W => Blk W (w.heap.size) 45 [.slice p1 s1.left.length cap1, .int .i64 (N : Nat), .int .i64 (s1.err : Nat), .int .i64 (s1.pos : Nat)] ∧ Blk W (W4.heap.size) 9 [.string ⟨#[61]⟩, .string ⟨#[33, 61]⟩, .string ⟨#[60]⟩, .string ⟨#[60, 61]⟩, .string ⟨#[62]⟩, .string ⟨#[62, 61]⟩]) (N := [5]) _ _ _ _ ?_
      change Foyer.Round.held _ _ _ _ _ _ _ _ _ wr.drew
      obtain ⟨W6, hW6⟩ : ∃ x, wr.drew = x := ⟨_, rfl⟩
      have bW6 : Since w W6 := by rw [← hW6]; exact Below.drew bwr
      have sW6 := swr
      rw [show wr.heap.size = W6.heap.size from by rw [← hW6]; rfl] at sW6
      replace k_s : Blk W6 (w.heap.size) 45 [.slice p1 s1.left.length cap1, .int .i64 (N : Nat), .int .i64 (s1.err : Nat), .int .i64 (s1.pos : Nat)] := by rw [← hW6]; exact k_s
      replace k_t : Blk W6 (w.heap.size + 1) 32 [.string ⟨#[]⟩, .int .i64 0, .string ⟨#[]⟩, .int .i64 0, .int .i64 0] := by rw [← hW6]; exact k_t
      replace k_r : Blk W6 (w.heap.size + 1 + 1) 45 [.slice none 0 0, .int .i64 0, .int .i64 0, .int .i64 0] := by rw [← hW6]; exact k_r
      replace k_a : Blk W6 (W2.heap.size) 54 [.int .i64 (a.kind : Nat), .string ⟨a.text.toArray⟩, .int .i64 (a.val : Nat), .int .i64 (a.pos : Nat)] := by rw [← hW6]; exact k_a
      replace k_x : Blk W6 (W3.heap.size) 32 [.string ⟨a.text.toArray⟩, .int .i64 ((upTo opWords s1 3 k) : Nat), .string ⟨#[]⟩, .int .i64 0, .int .i64 (a.pos : Nat)] := by rw [← hW6]; exact k_x
      replace k_ws : Blk W6 (W4.heap.size) 9 [.string ⟨#[61]⟩, .string ⟨#[33, 61]⟩, .string ⟨#[60]⟩, .string ⟨#[60, 61]⟩, .string ⟨#[62]⟩, .string ⟨#[62, 61]⟩] := by rw [← hW6]; exact k_ws
      rw [hW6]
      clear hW6 bwr swr
      refine Foyer.Round.held_take [5] (i := 0) (v := .agg #[.slice p1 s1.left.length cap1, .int .i64 (N : Nat), .int .i64 (s1.err : Nat), .int .i64 (s1.pos : Nat)]) rfl (by kernel_rfl) (fun _ _ _ h => h) (Or.inl ⟨by rfl, fun w' hS => by have r_s0 := (show Blk _ _ _ _ from hS.1).cell (i := 0) rfl; have r_s1 := (show Blk _ _ _ _ from hS.1).cell (i := 1) rfl; have r_s2 := (show Blk _ _ _ _ from hS.1).cell (i := 2) rfl; have r_s3 := (show Blk _ _ _ _ from hS.1).cell (i := 3) rfl; go_simp⟩) (⟨k_s, k_ws⟩) ?_
      try simp only [Act.put, List.setIfInBounds_toArray, List.set_cons_zero, List.set_cons_succ]
      refine Foyer.Round.held_take [3, 4, 5] (i := 1) (v := .slice (some ⟨W4.heap.size, 0, none⟩) 6 6) rfl (by kernel_rfl) (fun _ _ _ h => h) (Or.inl ⟨by rfl, fun w' hS => by go_simp⟩) (⟨k_s, k_ws⟩) ?_
      try simp only [Act.put, List.setIfInBounds_toArray, List.set_cons_zero, List.set_cons_succ]
      refine Foyer.Round.held_take [3, 4, 5] (i := 2) (v := .int .i64 k) rfl (by kernel_rfl) (fun _ _ _ h => h) (Or.inl ⟨by rfl, fun w' hS => by go_simp⟩) (⟨k_s, k_ws⟩) ?_
      try simp only [Act.put, List.setIfInBounds_toArray, List.set_cons_zero, List.set_cons_succ]
      refine Foyer.Round.held_take [4, 5] (i := 3) (v := .pointer (some ⟨W4.heap.size, k, none⟩)) rfl (by kernel_rfl) (fun _ _ _ h => h) (Or.inl ⟨by rfl, fun w' hS => by have := hki; go_simp⟩) (⟨k_s, k_ws⟩) ?_
      try simp only [Act.put, List.setIfInBounds_toArray, List.set_cons_zero, List.set_cons_succ]
      refine Foyer.Round.held_take [5] (i := 4) (v := .string ⟨(opWords.getD k []).toArray⟩) rfl (by kernel_rfl) (fun _ _ _ h => h) (Or.inl ⟨by rfl, fun w' hS => by have := (show Blk _ _ _ _ from hS.2).cell (i := k) HWK.out; go_simp⟩) (⟨k_s, k_ws⟩) ?_
      try simp only [Act.put, List.setIfInBounds_toArray, List.set_cons_zero, List.set_cons_succ]
      refine Foyer.Round.held_one (i := 5) rfl (by kernel_rfl) (fun K hK => ?_)
      go_simp
      refine (ris_c Nbb.out B p1 cap1 HV1.out 3 rfl _ (HB.out.trans (bW6.mono HB.out.size))).mono ?_; rintro e W7 ⟨rfl, hb⟩
      have sW7 := Nat.le_trans sW6 hb.size
      have bW7 := (bW6).call hb
      replace k_s := k_s.past hb
      replace k_t := k_t.past hb
      replace k_r := k_r.past hb
      replace k_a := k_a.past hb
      replace k_x := k_x.past hb
      replace k_ws := k_ws.past hb
      clear hb bW6 sW6
      refine hK.out _ _ (fun _ => ⟨k_s, k_ws⟩) ?_
      clear hK K
      try simp only [Act.put, List.setIfInBounds_toArray, List.set_cons_zero, List.set_cons_succ]
      refine Foyer.Round.held_done (by kernel_rfl) ?_ _
      cases bb
      · go_wp2
        refine ⟨⟨k + 1, by go_num, by omega, Lib.hid k_s, Lib.hid k_t, Lib.hid k_r, Lib.hid k_a, Lib.hid (by rw [HUP.out]; exact k_x), Lib.hid k_ws, Lib.hid bW7, Lib.hid (by omega)⟩, ?_⟩
        simp [intOf]; omega
      · have q_x0 := k_x.cell (i := 0) rfl
        have q_x1 := k_x.cell (i := 1) rfl
        have q_x2 := k_x.cell (i := 2) rfl
        have q_x3 := k_x.cell (i := 3) rfl
        have q_x4 := k_x.cell (i := 4) rfl
        have q_xf := k_x.free
        go_upto_region 6 with fail
        clear q_x0 q_x1 q_x2 q_x3 q_x4 q_xf
        obtain ⟨W8, hW8, bW8, sW8, k2_s, k2_t, k2_r, k2_a, k2_x, k2_ws⟩ : ∃ x, (W7.setCell ⟨W3.heap.size, 1, none⟩ (.int .i64 ((k : Int) + 1))) = x ∧ Since w x ∧ W7.heap.size ≤ x.heap.size ∧ Blk x (w.heap.size) 45 [.slice p1 s1.left.length cap1, .int .i64 (N : Nat), .int .i64 (s1.err : Nat), .int .i64 (s1.pos : Nat)] ∧ Blk x (w.heap.size + 1) 32 [.string ⟨#[]⟩, .int .i64 0, .string ⟨#[]⟩, .int .i64 0, .int .i64 0] ∧ Blk x (w.heap.size + 1 + 1) 45 [.slice none 0 0, .int .i64 0, .int .i64 0, .int .i64 0] ∧ Blk x (W2.heap.size) 54 [.int .i64 (a.kind : Nat), .string ⟨a.text.toArray⟩, .int .i64 (a.val : Nat), .int .i64 (a.pos : Nat)] ∧ Blk x (W3.heap.size) 32 [.string ⟨a.text.toArray⟩, .int .i64 ((k : Int) + 1), .string ⟨#[]⟩, .int .i64 0, .int .i64 (a.pos : Nat)] ∧ Blk x (W4.heap.size) 9 [.string ⟨#[61]⟩, .string ⟨#[33, 61]⟩, .string ⟨#[60]⟩, .string ⟨#[60, 61]⟩, .string ⟨#[62]⟩, .string ⟨#[62, 61]⟩] := ⟨_, rfl, (Since.s1 bW7 (by omega)), by simp only [World.setCell, World.size_alloc, Array.size_modify, Nat.le_refl], (Blk.o1 k_s (by omega)), (Blk.o1 k_t (by omega)), (Blk.o1 k_r (by omega)), (Blk.o1 k_a (by omega)), (Blk.cast (Blk.set k_x 1 _) rfl), (Blk.o1 k_ws (by omega))⟩
        rw [hW8]
        clear hW8 k_s k_t k_r k_a k_x k_ws
        have k_s := k2_s
        have k_t := k2_t
        have k_r := k2_r
        have k_a := k2_a
        have k_x := k2_x
        have k_ws := k2_ws
        clear k2_s k2_t k2_r k2_a k2_x k2_ws
        go_wp2
        refine ⟨⟨k + 1, by go_num, by omega, Lib.hid k_s, Lib.hid k_t, Lib.hid k_r, Lib.hid k_a, Lib.hid (by rw [HUP.out]; exact k_x), Lib.hid k_ws, Lib.hid bW8, Lib.hid (by omega)⟩, ?_⟩
        simp [intOf]; omega
    obtain rfl : k = 6 := by omega
    have hd : decide (((6 : Nat) : Int) < 6) = false := by decide
    rw [NO.out] at k_x
    by_cases o0 : o = 0
    · subst o0
      have h := H.out
      rw [if_pos rfl] at h
      injection h with e1 e2
      subst e1
      have NF := Lib.hid e2
      clear e2 H
      have e0 : ((0 : Int) == 0) = true := rfl
      replace k_x : Blk wr (W3.heap.size) 32 [.string ⟨a.text.toArray⟩, .int .i64 0, .string ⟨#[]⟩, .int .i64 0, .int .i64 (a.pos : Nat)] := k_x
      try dsimp only
      have q_x0 := k_x.cell (i := 0) rfl
      have q_x1 := k_x.cell (i := 1) rfl
      have q_x2 := k_x.cell (i := 2) rfl
      have q_x3 := k_x.cell (i := 3) rfl
      have q_x4 := k_x.cell (i := 4) rfl
      have q_xf := k_x.free
      go_upto_region 10 with fail
      clear q_x0 q_x1 q_x2 q_x3 q_x4 q_xf
      refine wp_region_any (by kernel_rfl) ?_
      refine Foyer.Round.any_of_held (S := fun W => Blk W (W3.heap.size) 32 [.string ⟨a.text.toArray⟩, .int .i64 0, .string ⟨#[]⟩, .int .i64 0, .int .i64 (a.pos : Nat)] ∧ Blk W (w.heap.size) 45 [.slice p1 s1.left.length cap1, .int .i64 (N : Nat), .int .i64 (s1.err : Nat), .int .i64 (s1.pos : Nat)]) (N := [4]) _ _ _ _ ?_
      change Foyer.Round.held _ _ _ _ _ _ _ _ _ wr.drew
      obtain ⟨W6, hW6⟩ : ∃ x, wr.drew = x := ⟨_, rfl⟩
      have bW6 : Since w W6 := by rw [← hW6]; exact Below.drew bwr
      have sW6 := swr
      rw [show wr.heap.size = W6.heap.size from by rw [← hW6]; rfl] at sW6
      replace k_s : Blk W6 (w.heap.size) 45 [.slice p1 s1.left.length cap1, .int .i64 (N : Nat), .int .i64 (s1.err : Nat), .int .i64 (s1.pos : Nat)] := by rw [← hW6]; exact k_s
      replace k_t : Blk W6 (w.heap.size + 1) 32 [.string ⟨#[]⟩, .int .i64 0, .string ⟨#[]⟩, .int .i64 0, .int .i64 0] := by rw [← hW6]; exact k_t
      replace k_r : Blk W6 (w.heap.size + 1 + 1) 45 [.slice none 0 0, .int .i64 0, .int .i64 0, .int .i64 0] := by rw [← hW6]; exact k_r
      replace k_a : Blk W6 (W2.heap.size) 54 [.int .i64 (a.kind : Nat), .string ⟨a.text.toArray⟩, .int .i64 (a.val : Nat), .int .i64 (a.pos : Nat)] := by rw [← hW6]; exact k_a
      replace k_x : Blk W6 (W3.heap.size) 32 [.string ⟨a.text.toArray⟩, .int .i64 0, .string ⟨#[]⟩, .int .i64 0, .int .i64 (a.pos : Nat)] := by rw [← hW6]; exact k_x
      replace k_ws : Blk W6 (W4.heap.size) 9 [.string ⟨#[61]⟩, .string ⟨#[33, 61]⟩, .string ⟨#[60]⟩, .string ⟨#[60, 61]⟩, .string ⟨#[62]⟩, .string ⟨#[62, 61]⟩] := by rw [← hW6]; exact k_ws
      rw [hW6]
      clear hW6 bwr swr
      refine Foyer.Round.held_take [4] (i := 0) (v := .agg #[.string ⟨a.text.toArray⟩, .int .i64 0, .string ⟨#[]⟩, .int .i64 0, .int .i64 (a.pos : Nat)]) rfl (by kernel_rfl) (fun _ _ _ h => h) (Or.inl ⟨by rfl, fun w' hS => by have r_x0 := (show Blk _ _ _ _ from hS.1).cell (i := 0) rfl; have r_x1 := (show Blk _ _ _ _ from hS.1).cell (i := 1) rfl; have r_x2 := (show Blk _ _ _ _ from hS.1).cell (i := 2) rfl; have r_x3 := (show Blk _ _ _ _ from hS.1).cell (i := 3) rfl; have r_x4 := (show Blk _ _ _ _ from hS.1).cell (i := 4) rfl; go_simp⟩) (⟨k_x, k_s⟩) ?_
      try simp only [Act.put, List.setIfInBounds_toArray, List.set_cons_zero, List.set_cons_succ]
      refine Foyer.Round.held_take [4] (i := 1) (v := .agg #[.slice p1 s1.left.length cap1, .int .i64 (N : Nat), .int .i64 (s1.err : Nat), .int .i64 (s1.pos : Nat)]) rfl (by kernel_rfl) (fun _ _ _ h => h) (Or.inl ⟨by rfl, fun w' hS => by have r_s0 := (show Blk _ _ _ _ from hS.2).cell (i := 0) rfl; have r_s1 := (show Blk _ _ _ _ from hS.2).cell (i := 1) rfl; have r_s2 := (show Blk _ _ _ _ from hS.2).cell (i := 2) rfl; have r_s3 := (show Blk _ _ _ _ from hS.2).cell (i := 3) rfl; go_simp⟩) (⟨k_x, k_s⟩) ?_
      try simp only [Act.put, List.setIfInBounds_toArray, List.set_cons_zero, List.set_cons_succ]
      refine Foyer.Round.held_one (i := 2) rfl (by kernel_rfl) (fun K hK => ?_)
      go_simp
      refine (rfail_c NF.out B p1 cap1 HV1.out 4 rfl _ (HB.out.trans (bW6.mono HB.out.size))).mono ?_; rintro e W7 ⟨⟨p8, cap8, rfl, hs_⟩, hb⟩
      have sW7 := Nat.le_trans sW6 hb.size
      have bW7 := (bW6).call hb
      replace k_s := k_s.past hb
      replace k_t := k_t.past hb
      replace k_r := k_r.past hb
      replace k_a := k_a.past hb
      replace k_x := k_x.past hb
      replace k_ws := k_ws.past hb
      clear hb bW6 sW6
      refine hK.out _ _ (fun _ => ⟨k_x, k_s⟩) ?_
      clear hK K
      try simp only [Act.put, List.setIfInBounds_toArray, List.set_cons_zero, List.set_cons_succ]
      have q_t0 := k_t.cell (i := 0) rfl
      have q_t1 := k_t.cell (i := 1) rfl
      have q_t2 := k_t.cell (i := 2) rfl
      have q_t3 := k_t.cell (i := 3) rfl
      have q_t4 := k_t.cell (i := 4) rfl
      have q_tf := k_t.free
      refine Foyer.Round.held_one (i := 3) rfl (by kernel_rfl) (fun K hK => ?_)
      go_simp
      clear q_t0 q_t1 q_t2 q_t3 q_t4 q_tf
      obtain ⟨W8, hW8, bW8, sW8, k2_s, k2_t, k2_r, k2_a, k2_x, k2_ws⟩ : ∃ x, (((((W7.setCell ⟨w.heap.size + 1, 0, none⟩ (.string ⟨a.text.toArray⟩)).setCell ⟨w.heap.size + 1, 1, none⟩ (.int .i64 0)).setCell ⟨w.heap.size + 1, 2, none⟩ (.string ⟨#[]⟩)).setCell ⟨w.heap.size + 1, 3, none⟩ (.int .i64 0)).setCell ⟨w.heap.size + 1, 4, none⟩ (.int .i64 (a.pos : Nat))) = x ∧ Since w x ∧ W7.heap.size ≤ x.heap.size ∧ Blk x (w.heap.size) 45 [.slice p1 s1.left.length cap1, .int .i64 (N : Nat), .int .i64 (s1.err : Nat), .int .i64 (s1.pos : Nat)] ∧ Blk x (w.heap.size + 1) 32 [.string ⟨a.text.toArray⟩, .int .i64 0, .string ⟨#[]⟩, .int .i64 0, .int .i64 (a.pos : Nat)] ∧ Blk x (w.heap.size + 1 + 1) 45 [.slice none 0 0, .int .i64 0, .int .i64 0, .int .i64 0] ∧ Blk x (W2.heap.size) 54 [.int .i64 (a.kind : Nat), .string ⟨a.text.toArray⟩, .int .i64 (a.val : Nat), .int .i64 (a.pos : Nat)] ∧ Blk x (W3.heap.size) 32 [.string ⟨a.text.toArray⟩, .int .i64 0, .string ⟨#[]⟩, .int .i64 0, .int .i64 (a.pos : Nat)] ∧ Blk x (W4.heap.size) 9 [.string ⟨#[61]⟩, .string ⟨#[33, 61]⟩, .string ⟨#[60]⟩, .string ⟨#[60, 61]⟩, .string ⟨#[62]⟩, .string ⟨#[62, 61]⟩] := ⟨_, rfl, (Since.s1 (Since.s4 bW7 (by omega)) (by omega)), by simp only [World.setCell, World.size_alloc, Array.size_modify, Nat.le_refl], (Blk.o1 (Blk.o4 k_s (by omega)) (by omega)), (Blk.cast (Blk.set (Blk.set (Blk.set (Blk.set (Blk.set k_t 0 _) 1 _) 2 _) 3 _) 4 _) rfl), (Blk.o1 (Blk.o4 k_r (by omega)) (by omega)), (Blk.o1 (Blk.o4 k_a (by omega)) (by omega)), (Blk.o1 (Blk.o4 k_x (by omega)) (by omega)), (Blk.o1 (Blk.o4 k_ws (by omega)) (by omega))⟩
      rw [hW8]
      clear hW8 k_s k_t k_r k_a k_x k_ws
      have k_s := k2_s
      have k_t := k2_t
      have k_r := k2_r
      have k_a := k2_a
      have k_x := k2_x
      have k_ws := k2_ws
      clear k2_s k2_t k2_r k2_a k2_x k2_ws
      refine hK.out _ _ (fun _ => ⟨k_x, k_s⟩) ?_
      clear hK K
      try simp only [Act.put, List.setIfInBounds_toArray, List.set_cons_zero, List.set_cons_succ]
      have q_r0 := k_r.cell (i := 0) rfl
      have q_r1 := k_r.cell (i := 1) rfl
      have q_r2 := k_r.cell (i := 2) rfl
      have q_r3 := k_r.cell (i := 3) rfl
      have q_rf := k_r.free
      refine Foyer.Round.held_one (i := 4) rfl (by kernel_rfl) (fun K hK => ?_)
      go_simp
      clear q_r0 q_r1 q_r2 q_r3 q_rf
      obtain ⟨W9, hW9, bW9, sW9, k2_s, k2_t, k2_r, k2_a, k2_x, k2_ws⟩ : ∃ x, ((((W8.setCell ⟨w.heap.size + 1 + 1, 0, none⟩ (.slice p8 s9.left.length cap8)).setCell ⟨w.heap.size + 1 + 1, 1, none⟩ (.int .i64 (N : Nat))).setCell ⟨w.heap.size + 1 + 1, 2, none⟩ (.int .i64 (s9.err : Nat))).setCell ⟨w.heap.size + 1 + 1, 3, none⟩ (.int .i64 (s9.pos : Nat))) = x ∧ Since w x ∧ W8.heap.size ≤ x.heap.size ∧ Blk x (w.heap.size) 45 [.slice p1 s1.left.length cap1, .int .i64 (N : Nat), .int .i64 (s1.err : Nat), .int .i64 (s1.pos : Nat)] ∧ Blk x (w.heap.size + 1) 32 [.string ⟨a.text.toArray⟩, .int .i64 0, .string ⟨#[]⟩, .int .i64 0, .int .i64 (a.pos : Nat)] ∧ Blk x (w.heap.size + 1 + 1) 45 [.slice p8 s9.left.length cap8, .int .i64 (N : Nat), .int .i64 (s9.err : Nat), .int .i64 (s9.pos : Nat)] ∧ Blk x (W2.heap.size) 54 [.int .i64 (a.kind : Nat), .string ⟨a.text.toArray⟩, .int .i64 (a.val : Nat), .int .i64 (a.pos : Nat)] ∧ Blk x (W3.heap.size) 32 [.string ⟨a.text.toArray⟩, .int .i64 0, .string ⟨#[]⟩, .int .i64 0, .int .i64 (a.pos : Nat)] ∧ Blk x (W4.heap.size) 9 [.string ⟨#[61]⟩, .string ⟨#[33, 61]⟩, .string ⟨#[60]⟩, .string ⟨#[60, 61]⟩, .string ⟨#[62]⟩, .string ⟨#[62, 61]⟩] := ⟨_, rfl, (Since.s4 bW8 (by omega)), by simp only [World.setCell, World.size_alloc, Array.size_modify, Nat.le_refl], (Blk.o4 k_s (by omega)), (Blk.o4 k_t (by omega)), (Blk.cast (Blk.set (Blk.set (Blk.set (Blk.set k_r 0 _) 1 _) 2 _) 3 _) rfl), (Blk.o4 k_a (by omega)), (Blk.o4 k_x (by omega)), (Blk.o4 k_ws (by omega))⟩
      rw [hW9]
      clear hW9 k_s k_t k_r k_a k_x k_ws
      have k_s := k2_s
      have k_t := k2_t
      have k_r := k2_r
      have k_a := k2_a
      have k_x := k2_x
      have k_ws := k2_ws
      clear k2_s k2_t k2_r k2_a k2_x k2_ws
      refine hK.out _ _ (fun _ => ⟨k_x, k_s⟩) ?_
      clear hK K
      try simp only [Act.put, List.setIfInBounds_toArray, List.set_cons_zero, List.set_cons_succ]
      refine Foyer.Round.held_done (by kernel_rfl) ?_ _
      go_wp2
      exact bodyPost_ret (results_two rfl _ _ (w.heap.size + 1) (w.heap.size + 1 + 1) _ _ _ _ rfl k_t.range Tryd.underlying32 rfl (by kernel_rfl) rfl k_r.range Tryd.underlying45 rfl (by kernel_rfl)) rfl ⟨⟨_, _, rfl, hs_⟩, bW9⟩
    have h := H.out
    rw [if_neg o0] at h
    clear H
    obtain ⟨tt, rr, hleft⟩ := upTo_left (ws := opWords) (s := s1) (k := 3) (n := 6) (by rw [NO.out]; exact o0)
    have e0 : (((o : Nat) : Int) == 0) = false := by simp [o0]
    have q_x0 := k_x.cell (i := 0) rfl
    have q_x1 := k_x.cell (i := 1) rfl
    have q_x2 := k_x.cell (i := 2) rfl
    have q_x3 := k_x.cell (i := 3) rfl
    have q_x4 := k_x.cell (i := 4) rfl
    have q_xf := k_x.free
    have hv' := HV1.out
    rw [hleft] at hv'
    obtain ⟨b, off, hpe, hc, -, -, -⟩ := hv'.head HB.out
    subst hpe
    have HL2 : Hid (s1.left.length = rr.length + 1) := Lib.hid (by rw [hleft]; rfl)
    obtain ⟨s2, hs2⟩ : ∃ z, rNext s1 = z := ⟨_, rfl⟩
    have hs3 : (⟨rr, s1.err, s1.pos⟩ : St) = s2 := by rw [← hs2]; unfold rNext; rw [hleft]; rfl
    have hcap1 : ¬ (cap1 : Int) < 1 := by omega
    have HV' := Lib.hid hv'; have NS2 := Lib.hid hs2; have NS3 := Lib.hid hs3
    clear hc hv' hs2 hs3 hleft
    go_upto_region 11 with fail
    clear q_x0 q_x1 q_x2 q_x3 q_x4 q_xf
    rw [HL2.out] at k_s
    have q_s0 := k_s.cell (i := 0) rfl
    have q_s1 := k_s.cell (i := 1) rfl
    have q_s2 := k_s.cell (i := 2) rfl
    have q_s3 := k_s.cell (i := 3) rfl
    have q_sf := k_s.free
    go_cut [48] from 45 (fun v wx => ∃ (p2 : Option Addr) (cap2 : Nat), v = .pointer (some ⟨w.heap.size, 0, none⟩) ∧ Hid (IsSt B p2 cap2 rr) ∧ Hid (Blk wx (w.heap.size) 45 [.slice p2 rr.length cap2, .int .i64 (N : Nat), .int .i64 (s1.err : Nat), .int .i64 (s1.pos : Nat)]) ∧ Hid (Blk wx (w.heap.size + 1) 32 [.string ⟨#[]⟩, .int .i64 0, .string ⟨#[]⟩, .int .i64 0, .int .i64 0]) ∧ Hid (Blk wx (w.heap.size + 1 + 1) 45 [.slice none 0 0, .int .i64 0, .int .i64 0, .int .i64 0]) ∧ Hid (Blk wx (W2.heap.size) 54 [.int .i64 (a.kind : Nat), .string ⟨a.text.toArray⟩, .int .i64 (a.val : Nat), .int .i64 (a.pos : Nat)]) ∧ Hid (Blk wx (W3.heap.size) 32 [.string ⟨a.text.toArray⟩, .int .i64 (o : Nat), .string ⟨#[]⟩, .int .i64 0, .int .i64 (a.pos : Nat)]) ∧ Hid (Blk wx (W4.heap.size) 9 [.string ⟨#[61]⟩, .string ⟨#[33, 61]⟩, .string ⟨#[60]⟩, .string ⟨#[60, 61]⟩, .string ⟨#[62]⟩, .string ⟨#[62, 61]⟩]) ∧ Hid (Since w wx) ∧ Hid (W4.heap.size + 1 ≤ wx.heap.size))
    case first =>
      by_cases hc1 : cap1 = 1
      · subst hc1
        go_wp2
        clear q_s0 q_s1 q_s2 q_s3 q_sf
        obtain ⟨W6, hW6, bW6, sW6, k2_s, k2_t, k2_r, k2_a, k2_x, k2_ws⟩ : ∃ x, (wr.setCell ⟨w.heap.size, 0, none⟩ (.slice (some ⟨b, off, none⟩) rr.length 0)) = x ∧ Since w x ∧ wr.heap.size ≤ x.heap.size ∧ Blk x (w.heap.size) 45 [.slice (some ⟨b, off, none⟩) rr.length 0, .int .i64 (N : Nat), .int .i64 (s1.err : Nat), .int .i64 (s1.pos : Nat)] ∧ Blk x (w.heap.size + 1) 32 [.string ⟨#[]⟩, .int .i64 0, .string ⟨#[]⟩, .int .i64 0, .int .i64 0] ∧ Blk x (w.heap.size + 1 + 1) 45 [.slice none 0 0, .int .i64 0, .int .i64 0, .int .i64 0] ∧ Blk x (W2.heap.size) 54 [.int .i64 (a.kind : Nat), .string ⟨a.text.toArray⟩, .int .i64 (a.val : Nat), .int .i64 (a.pos : Nat)] ∧ Blk x (W3.heap.size) 32 [.string ⟨a.text.toArray⟩, .int .i64 (o : Nat), .string ⟨#[]⟩, .int .i64 0, .int .i64 (a.pos : Nat)] ∧ Blk x (W4.heap.size) 9 [.string ⟨#[61]⟩, .string ⟨#[33, 61]⟩, .string ⟨#[60]⟩, .string ⟨#[60, 61]⟩, .string ⟨#[62]⟩, .string ⟨#[62, 61]⟩] := ⟨_, rfl, (Since.s1 bwr (by omega)), by simp only [World.setCell, World.size_alloc, Array.size_modify, Nat.le_refl], (Blk.cast (Blk.set k_s 0 _) rfl), (Blk.o1 k_t (by omega)), (Blk.o1 k_r (by omega)), (Blk.o1 k_a (by omega)), (Blk.o1 k_x (by omega)), (Blk.o1 k_ws (by omega))⟩
        rw [hW6]
        clear hW6 k_s k_t k_r k_a k_x k_ws
        have k_s := k2_s
        have k_t := k2_t
        have k_r := k2_r
        have k_a := k2_a
        have k_x := k2_x
        have k_ws := k2_ws
        clear k2_s k2_t k2_r k2_a k2_x k2_ws
        go_meet
        exact ⟨_, _, rfl, Lib.hid HV'.out.last.2, Lib.hid k_s, Lib.hid k_t, Lib.hid k_r, Lib.hid k_a, Lib.hid k_x, Lib.hid k_ws, Lib.hid bW6, Lib.hid (by omega)⟩
      · go_wp2
        clear q_s0 q_s1 q_s2 q_s3 q_sf
        obtain ⟨W6, hW6, bW6, sW6, k2_s, k2_t, k2_r, k2_a, k2_x, k2_ws⟩ : ∃ x, (wr.setCell ⟨w.heap.size, 0, none⟩ (.slice (some ⟨b, off + 4, none⟩) rr.length (cap1 - 1))) = x ∧ Since w x ∧ wr.heap.size ≤ x.heap.size ∧ Blk x (w.heap.size) 45 [.slice (some ⟨b, off + 4, none⟩) rr.length (cap1 - 1), .int .i64 (N : Nat), .int .i64 (s1.err : Nat), .int .i64 (s1.pos : Nat)] ∧ Blk x (w.heap.size + 1) 32 [.string ⟨#[]⟩, .int .i64 0, .string ⟨#[]⟩, .int .i64 0, .int .i64 0] ∧ Blk x (w.heap.size + 1 + 1) 45 [.slice none 0 0, .int .i64 0, .int .i64 0, .int .i64 0] ∧ Blk x (W2.heap.size) 54 [.int .i64 (a.kind : Nat), .string ⟨a.text.toArray⟩, .int .i64 (a.val : Nat), .int .i64 (a.pos : Nat)] ∧ Blk x (W3.heap.size) 32 [.string ⟨a.text.toArray⟩, .int .i64 (o : Nat), .string ⟨#[]⟩, .int .i64 0, .int .i64 (a.pos : Nat)] ∧ Blk x (W4.heap.size) 9 [.string ⟨#[61]⟩, .string ⟨#[33, 61]⟩, .string ⟨#[60]⟩, .string ⟨#[60, 61]⟩, .string ⟨#[62]⟩, .string ⟨#[62, 61]⟩] := ⟨_, rfl, (Since.s1 bwr (by omega)), by simp only [World.setCell, World.size_alloc, Array.size_modify, Nat.le_refl], (Blk.cast (Blk.set k_s 0 _) rfl), (Blk.o1 k_t (by omega)), (Blk.o1 k_r (by omega)), (Blk.o1 k_a (by omega)), (Blk.o1 k_x (by omega)), (Blk.o1 k_ws (by omega))⟩
        rw [hW6]
        clear hW6 k_s k_t k_r k_a k_x k_ws
        have k_s := k2_s
        have k_t := k2_t
        have k_r := k2_r
        have k_a := k2_a
        have k_x := k2_x
        have k_ws := k2_ws
        clear k2_s k2_t k2_r k2_a k2_x k2_ws
        go_meet
        exact ⟨_, _, rfl, Lib.hid HV'.out.tail, Lib.hid k_s, Lib.hid k_t, Lib.hid k_r, Lib.hid k_a, Lib.hid k_x, Lib.hid k_ws, Lib.hid bW6, Lib.hid (by omega)⟩
    case rest =>
    clear q_s0 q_s1 q_s2 q_s3 q_sf
    obtain ⟨p2, cap2, rfl, JV, J_s, J_t, J_r, J_a, J_x, J_ws, Jb, Jz⟩ := hcut
    obtain ⟨W6, hwc⟩ : ∃ z, z = wc := ⟨_, rfl⟩
    subst hwc
    clear k_s k_t k_r k_a k_x k_ws bwr swr
    have k_s := J_s.out
    have k_t := J_t.out
    have k_r := J_r.out
    have k_a := J_a.out
    have k_x := J_x.out
    have k_ws := J_ws.out
    have bW6 := Jb.out
    have sW6 := Jz.out
    clear J_s J_t J_r J_a J_x J_ws Jb Jz
    have hz : IsSt B p2 cap2 s2.left := by rw [← NS3.out]; exact JV.out
    have HV2 := Lib.hid hz
    clear hz JV
    replace k_s : Blk W6 (w.heap.size) 45 [.slice p2 s2.left.length cap2, .int .i64 (N : Nat), .int .i64 (s2.err : Nat), .int .i64 (s2.pos : Nat)] := by rw [← NS3.out]; exact k_s
    rw [NS2.out] at h
    unfold rValue at h
    obtain ⟨d2, hd2⟩ : ∃ z, rIs s2 2 [] = z := ⟨_, rfl⟩
    rw [hd2] at h
    have Nd2 := Lib.hid hd2
    clear hd2
    have q_s0 := k_s.cell (i := 0) rfl
    have q_s1 := k_s.cell (i := 1) rfl
    have q_s2 := k_s.cell (i := 2) rfl
    have q_s3 := k_s.cell (i := 3) rfl
    have q_sf := k_s.free
    go_wp2_with fail
    refine (ris_c Nd2.out B p2 cap2 HV2.out 2 rfl _ (HB.out.trans (bW6.mono HB.out.size))).mono ?_; rintro e W7 ⟨rfl, hb⟩
    clear q_s0 q_s1 q_s2 q_s3 q_sf
    have sW7 := Nat.le_trans sW6 hb.size
    have bW7 := (bW6).call hb
    replace k_s := k_s.past hb
    replace k_t := k_t.past hb
    replace k_r := k_r.past hb
    replace k_a := k_a.past hb
    replace k_x := k_x.past hb
    replace k_ws := k_ws.past hb
    clear hb bW6 sW6
    cases d2
    · rw [if_neg (by simp)] at h
      obtain ⟨⟨v, s4⟩, h4⟩ : ∃ z, rTake N s2 1 = z := ⟨_, rfl⟩
      have hvs := take_short h4 HV2.out.short
      rw [h4] at h
      dsimp only at h
      have N4 := Lib.hid h4
      clear h4
      obtain ⟨d3, hd3⟩ : ∃ z, rIs s4 3 wDot = z := ⟨_, rfl⟩
      rw [hd3] at h
      have Nd3 := Lib.hid hd3; have HVS := Lib.hid hvs
      clear hd3 hvs
      have q_s0 := k_s.cell (i := 0) rfl
      have q_s1 := k_s.cell (i := 1) rfl
      have q_s2 := k_s.cell (i := 2) rfl
      have q_s3 := k_s.cell (i := 3) rfl
      have q_sf := k_s.free
      go_wp2_with fail
      refine (rtake_c N4.out B p2 cap2 HV2.out 1 rfl _ (HB.out.trans (bW7.mono HB.out.size))).mono ?_; rintro e W8 ⟨⟨p4, cap4, rfl, hs_⟩, hb⟩
      clear q_s0 q_s1 q_s2 q_s3 q_sf
      have sW8 := Nat.le_trans sW7 hb.size
      have bW8 := (bW7).call hb
      replace k_s := k_s.past hb
      replace k_t := k_t.past hb
      replace k_r := k_r.past hb
      replace k_a := k_a.past hb
      replace k_x := k_x.past hb
      replace k_ws := k_ws.past hb
      clear hb bW7 sW7
      have HV4 := Lib.hid hs_
      clear hs_
      have q_s0 := (k_s.alloc (.cells #[.int .i64 (v.kind : Nat), .string ⟨v.text.toArray⟩, .int .i64 (v.val : Nat), .int .i64 (v.pos : Nat)] 54)).cell (i := 0) rfl
      have q_s1 := (k_s.alloc (.cells #[.int .i64 (v.kind : Nat), .string ⟨v.text.toArray⟩, .int .i64 (v.val : Nat), .int .i64 (v.pos : Nat)] 54)).cell (i := 1) rfl
      have q_s2 := (k_s.alloc (.cells #[.int .i64 (v.kind : Nat), .string ⟨v.text.toArray⟩, .int .i64 (v.val : Nat), .int .i64 (v.pos : Nat)] 54)).cell (i := 2) rfl
      have q_s3 := (k_s.alloc (.cells #[.int .i64 (v.kind : Nat), .string ⟨v.text.toArray⟩, .int .i64 (v.val : Nat), .int .i64 (v.pos : Nat)] 54)).cell (i := 3) rfl
      have q_sf := (k_s.alloc (.cells #[.int .i64 (v.kind : Nat), .string ⟨v.text.toArray⟩, .int .i64 (v.val : Nat), .int .i64 (v.pos : Nat)] 54)).free
      go_upto_region 17 with fail
      clear q_s0 q_s1 q_s2 q_s3 q_sf
      obtain ⟨W9, hW9, bW9, sW9, k2_s, k2_t, k2_r, k2_a, k2_x, k2_ws, k2_v⟩ : ∃ x, (((((W8.alloc (.cells #[.int .i64 (v.kind : Nat), .string ⟨v.text.toArray⟩, .int .i64 (v.val : Nat), .int .i64 (v.pos : Nat)] 54)).setCell ⟨w.heap.size, 0, none⟩ (.slice p4 s4.left.length cap4)).setCell ⟨w.heap.size, 1, none⟩ (.int .i64 (N : Nat))).setCell ⟨w.heap.size, 2, none⟩ (.int .i64 (s4.err : Nat))).setCell ⟨w.heap.size, 3, none⟩ (.int .i64 (s4.pos : Nat))) = x ∧ Since w x ∧ W8.heap.size + 1 ≤ x.heap.size ∧ Blk x (w.heap.size) 45 [.slice p4 s4.left.length cap4, .int .i64 (N : Nat), .int .i64 (s4.err : Nat), .int .i64 (s4.pos : Nat)] ∧ Blk x (w.heap.size + 1) 32 [.string ⟨#[]⟩, .int .i64 0, .string ⟨#[]⟩, .int .i64 0, .int .i64 0] ∧ Blk x (w.heap.size + 1 + 1) 45 [.slice none 0 0, .int .i64 0, .int .i64 0, .int .i64 0] ∧ Blk x (W2.heap.size) 54 [.int .i64 (a.kind : Nat), .string ⟨a.text.toArray⟩, .int .i64 (a.val : Nat), .int .i64 (a.pos : Nat)] ∧ Blk x (W3.heap.size) 32 [.string ⟨a.text.toArray⟩, .int .i64 (o : Nat), .string ⟨#[]⟩, .int .i64 0, .int .i64 (a.pos : Nat)] ∧ Blk x (W4.heap.size) 9 [.string ⟨#[61]⟩, .string ⟨#[33, 61]⟩, .string ⟨#[60]⟩, .string ⟨#[60, 61]⟩, .string ⟨#[62]⟩, .string ⟨#[62, 61]⟩] ∧ Blk x (W8.heap.size) 54 [.int .i64 (v.kind : Nat), .string ⟨v.text.toArray⟩, .int .i64 (v.val : Nat), .int .i64 (v.pos : Nat)] := ⟨_, rfl, (Since.s4 (Since.alloc bW8 _) (by omega)), by simp only [World.setCell, World.size_alloc, Array.size_modify, Nat.le_refl], (Blk.cast (Blk.set (Blk.set (Blk.set (Blk.set (Blk.alloc k_s _) 0 _) 1 _) 2 _) 3 _) rfl), (Blk.o4 (Blk.alloc k_t _) (by omega)), (Blk.o4 (Blk.alloc k_r _) (by omega)), (Blk.o4 (Blk.alloc k_a _) (by omega)), (Blk.o4 (Blk.alloc k_x _) (by omega)), (Blk.o4 (Blk.alloc k_ws _) (by omega)), (Blk.o4 (Blk.new' _ _ _ (rfl)) (by omega))⟩
      rw [hW9]
      clear hW9 k_s k_t k_r k_a k_x k_ws
      have k_s := k2_s
      have k_t := k2_t
      have k_r := k2_r
      have k_a := k2_a
      have k_x := k2_x
      have k_ws := k2_ws
      have k_v := k2_v
      clear k2_s k2_t k2_r k2_a k2_x k2_ws k2_v
      have q_v0 := k_v.cell (i := 0) rfl
      have q_v1 := k_v.cell (i := 1) rfl
      have q_v2 := k_v.cell (i := 2) rfl
      have q_v3 := k_v.cell (i := 3) rfl
      have q_vf := k_v.free
      have q_x0 := k_x.cell (i := 0) rfl
      have q_x1 := k_x.cell (i := 1) rfl
      have q_x2 := k_x.cell (i := 2) rfl
      have q_x3 := k_x.cell (i := 3) rfl
      have q_x4 := k_x.cell (i := 4) rfl
      have q_xf := k_x.free
      go_upto_region 18 with fail
      clear q_v0 q_v1 q_v2 q_v3 q_vf q_x0 q_x1 q_x2 q_x3 q_x4 q_xf
      obtain ⟨W10, hW10, bW10, sW10, k2_s, k2_t, k2_r, k2_a, k2_x, k2_ws, k2_v⟩ : ∃ x, (W9.setCell ⟨W3.heap.size, 2, none⟩ (.string ⟨v.text.toArray⟩)) = x ∧ Since w x ∧ W9.heap.size ≤ x.heap.size ∧ Blk x (w.heap.size) 45 [.slice p4 s4.left.length cap4, .int .i64 (N : Nat), .int .i64 (s4.err : Nat), .int .i64 (s4.pos : Nat)] ∧ Blk x (w.heap.size + 1) 32 [.string ⟨#[]⟩, .int .i64 0, .string ⟨#[]⟩, .int .i64 0, .int .i64 0] ∧ Blk x (w.heap.size + 1 + 1) 45 [.slice none 0 0, .int .i64 0, .int .i64 0, .int .i64 0] ∧ Blk x (W2.heap.size) 54 [.int .i64 (a.kind : Nat), .string ⟨a.text.toArray⟩, .int .i64 (a.val : Nat), .int .i64 (a.pos : Nat)] ∧ Blk x (W3.heap.size) 32 [.string ⟨a.text.toArray⟩, .int .i64 (o : Nat), .string ⟨v.text.toArray⟩, .int .i64 0, .int .i64 (a.pos : Nat)] ∧ Blk x (W4.heap.size) 9 [.string ⟨#[61]⟩, .string ⟨#[33, 61]⟩, .string ⟨#[60]⟩, .string ⟨#[60, 61]⟩, .string ⟨#[62]⟩, .string ⟨#[62, 61]⟩] ∧ Blk x (W8.heap.size) 54 [.int .i64 (v.kind : Nat), .string ⟨v.text.toArray⟩, .int .i64 (v.val : Nat), .int .i64 (v.pos : Nat)] := ⟨_, rfl, (Since.s1 bW9 (by omega)), by simp only [World.setCell, World.size_alloc, Array.size_modify, Nat.le_refl], (Blk.o1 k_s (by omega)), (Blk.o1 k_t (by omega)), (Blk.o1 k_r (by omega)), (Blk.o1 k_a (by omega)), (Blk.cast (Blk.set k_x 2 _) rfl), (Blk.o1 k_ws (by omega)), (Blk.o1 k_v (by omega))⟩
      rw [hW10]
      clear hW10 k_s k_t k_r k_a k_x k_ws k_v
      have k_s := k2_s
      have k_t := k2_t
      have k_r := k2_r
      have k_a := k2_a
      have k_x := k2_x
      have k_ws := k2_ws
      have k_v := k2_v
      clear k2_s k2_t k2_r k2_a k2_x k2_ws k2_v
      have q_s0 := k_s.cell (i := 0) rfl
      have q_s1 := k_s.cell (i := 1) rfl
      have q_s2 := k_s.cell (i := 2) rfl
      have q_s3 := k_s.cell (i := 3) rfl
      have q_sf := k_s.free
      go_wp2_with fail
      refine (ris_c Nd3.out B p4 cap4 HV4.out 3 rfl _ (HB.out.trans (bW10.mono HB.out.size))).mono ?_; rintro e W11 ⟨rfl, hb⟩
      clear q_s0 q_s1 q_s2 q_s3 q_sf
      have sW11 := Nat.le_trans sW10 hb.size
      have bW11 := (bW10).call hb
      replace k_s := k_s.past hb
      replace k_t := k_t.past hb
      replace k_r := k_r.past hb
      replace k_a := k_a.past hb
      replace k_x := k_x.past hb
      replace k_ws := k_ws.past hb
      replace k_v := k_v.past hb
      clear hb bW10 sW10
      cases d3
      · rw [if_neg (by simp)] at h
        injection h with e1 e2
        subst e1 e2
        try dsimp only
        go_upto_region 22 with fail
        refine wp_region_any (by kernel_rfl) ?_
        refine Foyer.Round.any_of_held (S := fun W => Blk W (W3.heap.size) 32 [.string ⟨a.text.toArray⟩, .int .i64 (o : Nat), .string ⟨v.text.toArray⟩, .int .i64 0, .int .i64 (a.pos : Nat)] ∧ Blk W (w.heap.size) 45 [.slice p4 s4.left.length cap4, .int .i64 (N : Nat), .int .i64 (s4.err : Nat), .int .i64 (s4.pos : Nat)]) (N := [3]) _ _ _ _ ?_
        change Foyer.Round.held _ _ _ _ _ _ _ _ _ W11.drew
        obtain ⟨W12, hW12⟩ : ∃ x, W11.drew = x := ⟨_, rfl⟩
        have bW12 : Since w W12 := by rw [← hW12]; exact Below.drew bW11
        have sW12 := sW11
        rw [show W11.heap.size = W12.heap.size from by rw [← hW12]; rfl] at sW12
        replace k_s : Blk W12 (w.heap.size) 45 [.slice p4 s4.left.length cap4, .int .i64 (N : Nat), .int .i64 (s4.err : Nat), .int .i64 (s4.pos : Nat)] := by rw [← hW12]; exact k_s
        replace k_t : Blk W12 (w.heap.size + 1) 32 [.string ⟨#[]⟩, .int .i64 0, .string ⟨#[]⟩, .int .i64 0, .int .i64 0] := by rw [← hW12]; exact k_t
        replace k_r : Blk W12 (w.heap.size + 1 + 1) 45 [.slice none 0 0, .int .i64 0, .int .i64 0, .int .i64 0] := by rw [← hW12]; exact k_r
        replace k_a : Blk W12 (W2.heap.size) 54 [.int .i64 (a.kind : Nat), .string ⟨a.text.toArray⟩, .int .i64 (a.val : Nat), .int .i64 (a.pos : Nat)] := by rw [← hW12]; exact k_a
        replace k_x : Blk W12 (W3.heap.size) 32 [.string ⟨a.text.toArray⟩, .int .i64 (o : Nat), .string ⟨v.text.toArray⟩, .int .i64 0, .int .i64 (a.pos : Nat)] := by rw [← hW12]; exact k_x
        replace k_ws : Blk W12 (W4.heap.size) 9 [.string ⟨#[61]⟩, .string ⟨#[33, 61]⟩, .string ⟨#[60]⟩, .string ⟨#[60, 61]⟩, .string ⟨#[62]⟩, .string ⟨#[62, 61]⟩] := by rw [← hW12]; exact k_ws
        replace k_v : Blk W12 (W8.heap.size) 54 [.int .i64 (v.kind : Nat), .string ⟨v.text.toArray⟩, .int .i64 (v.val : Nat), .int .i64 (v.pos : Nat)] := by rw [← hW12]; exact k_v
        rw [hW12]
        clear hW12 bW11 sW11
        refine Foyer.Round.held_take [3] (i := 0) (v := .agg #[.string ⟨a.text.toArray⟩, .int .i64 (o : Nat), .string ⟨v.text.toArray⟩, .int .i64 0, .int .i64 (a.pos : Nat)]) rfl (by kernel_rfl) (fun _ _ _ h => h) (Or.inl ⟨by rfl, fun w' hS => by have r_x0 := (show Blk _ _ _ _ from hS.1).cell (i := 0) rfl; have r_x1 := (show Blk _ _ _ _ from hS.1).cell (i := 1) rfl; have r_x2 := (show Blk _ _ _ _ from hS.1).cell (i := 2) rfl; have r_x3 := (show Blk _ _ _ _ from hS.1).cell (i := 3) rfl; have r_x4 := (show Blk _ _ _ _ from hS.1).cell (i := 4) rfl; go_simp⟩) (⟨k_x, k_s⟩) ?_
        try simp only [Act.put, List.setIfInBounds_toArray, List.set_cons_zero, List.set_cons_succ]
        refine Foyer.Round.held_take [3] (i := 1) (v := .agg #[.slice p4 s4.left.length cap4, .int .i64 (N : Nat), .int .i64 (s4.err : Nat), .int .i64 (s4.pos : Nat)]) rfl (by kernel_rfl) (fun _ _ _ h => h) (Or.inl ⟨by rfl, fun w' hS => by have r_s0 := (show Blk _ _ _ _ from hS.2).cell (i := 0) rfl; have r_s1 := (show Blk _ _ _ _ from hS.2).cell (i := 1) rfl; have r_s2 := (show Blk _ _ _ _ from hS.2).cell (i := 2) rfl; have r_s3 := (show Blk _ _ _ _ from hS.2).cell (i := 3) rfl; go_simp⟩) (⟨k_x, k_s⟩) ?_
        try simp only [Act.put, List.setIfInBounds_toArray, List.set_cons_zero, List.set_cons_succ]
        have q_t0 := k_t.cell (i := 0) rfl
        have q_t1 := k_t.cell (i := 1) rfl
        have q_t2 := k_t.cell (i := 2) rfl
        have q_t3 := k_t.cell (i := 3) rfl
        have q_t4 := k_t.cell (i := 4) rfl
        have q_tf := k_t.free
        refine Foyer.Round.held_one (i := 2) rfl (by kernel_rfl) (fun K hK => ?_)
        go_simp
        clear q_t0 q_t1 q_t2 q_t3 q_t4 q_tf
        obtain ⟨W13, hW13, bW13, sW13, k2_s, k2_t, k2_r, k2_a, k2_x, k2_ws, k2_v⟩ : ∃ x, (((((W12.setCell ⟨w.heap.size + 1, 0, none⟩ (.string ⟨a.text.toArray⟩)).setCell ⟨w.heap.size + 1, 1, none⟩ (.int .i64 (o : Nat))).setCell ⟨w.heap.size + 1, 2, none⟩ (.string ⟨v.text.toArray⟩)).setCell ⟨w.heap.size + 1, 3, none⟩ (.int .i64 0)).setCell ⟨w.heap.size + 1, 4, none⟩ (.int .i64 (a.pos : Nat))) = x ∧ Since w x ∧ W12.heap.size ≤ x.heap.size ∧ Blk x (w.heap.size) 45 [.slice p4 s4.left.length cap4, .int .i64 (N : Nat), .int .i64 (s4.err : Nat), .int .i64 (s4.pos : Nat)] ∧ Blk x (w.heap.size + 1) 32 [.string ⟨a.text.toArray⟩, .int .i64 (o : Nat), .string ⟨v.text.toArray⟩, .int .i64 0, .int .i64 (a.pos : Nat)] ∧ Blk x (w.heap.size + 1 + 1) 45 [.slice none 0 0, .int .i64 0, .int .i64 0, .int .i64 0] ∧ Blk x (W2.heap.size) 54 [.int .i64 (a.kind : Nat), .string ⟨a.text.toArray⟩, .int .i64 (a.val : Nat), .int .i64 (a.pos : Nat)] ∧ Blk x (W3.heap.size) 32 [.string ⟨a.text.toArray⟩, .int .i64 (o : Nat), .string ⟨v.text.toArray⟩, .int .i64 0, .int .i64 (a.pos : Nat)] ∧ Blk x (W4.heap.size) 9 [.string ⟨#[61]⟩, .string ⟨#[33, 61]⟩, .string ⟨#[60]⟩, .string ⟨#[60, 61]⟩, .string ⟨#[62]⟩, .string ⟨#[62, 61]⟩] ∧ Blk x (W8.heap.size) 54 [.int .i64 (v.kind : Nat), .string ⟨v.text.toArray⟩, .int .i64 (v.val : Nat), .int .i64 (v.pos : Nat)] := ⟨_, rfl, (Since.s1 (Since.s4 bW12 (by omega)) (by omega)), by simp only [World.setCell, World.size_alloc, Array.size_modify, Nat.le_refl], (Blk.o1 (Blk.o4 k_s (by omega)) (by omega)), (Blk.cast (Blk.set (Blk.set (Blk.set (Blk.set (Blk.set k_t 0 _) 1 _) 2 _) 3 _) 4 _) rfl), (Blk.o1 (Blk.o4 k_r (by omega)) (by omega)), (Blk.o1 (Blk.o4 k_a (by omega)) (by omega)), (Blk.o1 (Blk.o4 k_x (by omega)) (by omega)), (Blk.o1 (Blk.o4 k_ws (by omega)) (by omega)), (Blk.o1 (Blk.o4 k_v (by omega)) (by omega))⟩
        rw [hW13]
        clear hW13 k_s k_t k_r k_a k_x k_ws k_v
        have k_s := k2_s
        have k_t := k2_t
        have k_r := k2_r
        have k_a := k2_a
        have k_x := k2_x
        have k_ws := k2_ws
        have k_v := k2_v
        clear k2_s k2_t k2_r k2_a k2_x k2_ws k2_v
        refine hK.out _ _ (fun _ => ⟨k_x, k_s⟩) ?_
        clear hK K
        try simp only [Act.put, List.setIfInBounds_toArray, List.set_cons_zero, List.set_cons_succ]
        have q_r0 := k_r.cell (i := 0) rfl
        have q_r1 := k_r.cell (i := 1) rfl
        have q_r2 := k_r.cell (i := 2) rfl
        have q_r3 := k_r.cell (i := 3) rfl
        have q_rf := k_r.free
        refine Foyer.Round.held_one (i := 3) rfl (by kernel_rfl) (fun K hK => ?_)
        go_simp
        clear q_r0 q_r1 q_r2 q_r3 q_rf
        obtain ⟨W14, hW14, bW14, sW14, k2_s, k2_t, k2_r, k2_a, k2_x, k2_ws, k2_v⟩ : ∃ x, ((((W13.setCell ⟨w.heap.size + 1 + 1, 0, none⟩ (.slice p4 s4.left.length cap4)).setCell ⟨w.heap.size + 1 + 1, 1, none⟩ (.int .i64 (N : Nat))).setCell ⟨w.heap.size + 1 + 1, 2, none⟩ (.int .i64 (s4.err : Nat))).setCell ⟨w.heap.size + 1 + 1, 3, none⟩ (.int .i64 (s4.pos : Nat))) = x ∧ Since w x ∧ W13.heap.size ≤ x.heap.size ∧ Blk x (w.heap.size) 45 [.slice p4 s4.left.length cap4, .int .i64 (N : Nat), .int .i64 (s4.err : Nat), .int .i64 (s4.pos : Nat)] ∧ Blk x (w.heap.size + 1) 32 [.string ⟨a.text.toArray⟩, .int .i64 (o : Nat), .string ⟨v.text.toArray⟩, .int .i64 0, .int .i64 (a.pos : Nat)] ∧ Blk x (w.heap.size + 1 + 1) 45 [.slice p4 s4.left.length cap4, .int .i64 (N : Nat), .int .i64 (s4.err : Nat), .int .i64 (s4.pos : Nat)] ∧ Blk x (W2.heap.size) 54 [.int .i64 (a.kind : Nat), .string ⟨a.text.toArray⟩, .int .i64 (a.val : Nat), .int .i64 (a.pos : Nat)] ∧ Blk x (W3.heap.size) 32 [.string ⟨a.text.toArray⟩, .int .i64 (o : Nat), .string ⟨v.text.toArray⟩, .int .i64 0, .int .i64 (a.pos : Nat)] ∧ Blk x (W4.heap.size) 9 [.string ⟨#[61]⟩, .string ⟨#[33, 61]⟩, .string ⟨#[60]⟩, .string ⟨#[60, 61]⟩, .string ⟨#[62]⟩, .string ⟨#[62, 61]⟩] ∧ Blk x (W8.heap.size) 54 [.int .i64 (v.kind : Nat), .string ⟨v.text.toArray⟩, .int .i64 (v.val : Nat), .int .i64 (v.pos : Nat)] := ⟨_, rfl, (Since.s4 bW13 (by omega)), by simp only [World.setCell, World.size_alloc, Array.size_modify, Nat.le_refl], (Blk.o4 k_s (by omega)), (Blk.o4 k_t (by omega)), (Blk.cast (Blk.set (Blk.set (Blk.set (Blk.set k_r 0 _) 1 _) 2 _) 3 _) rfl), (Blk.o4 k_a (by omega)), (Blk.o4 k_x (by omega)), (Blk.o4 k_ws (by omega)), (Blk.o4 k_v (by omega))⟩
        rw [hW14]
        clear hW14 k_s k_t k_r k_a k_x k_ws k_v
        have k_s := k2_s
        have k_t := k2_t
        have k_r := k2_r
        have k_a := k2_a
        have k_x := k2_x
        have k_ws := k2_ws
        have k_v := k2_v
        clear k2_s k2_t k2_r k2_a k2_x k2_ws k2_v
        refine hK.out _ _ (fun _ => ⟨k_x, k_s⟩) ?_
        clear hK K
        try simp only [Act.put, List.setIfInBounds_toArray, List.set_cons_zero, List.set_cons_succ]
        refine Foyer.Round.held_done (by kernel_rfl) ?_ _
        go_wp2
        exact bodyPost_ret (results_two rfl _ _ (w.heap.size + 1) (w.heap.size + 1 + 1) _ _ _ _ rfl k_t.range Tryd.underlying32 rfl (by kernel_rfl) rfl k_r.range Tryd.underlying45 rfl (by kernel_rfl)) rfl ⟨⟨_, _, rfl, HV4.out⟩, bW14⟩
      · rw [if_pos rfl] at h
        obtain ⟨s5, h5⟩ : ∃ z, rWord N s4 wDot = z := ⟨_, rfl⟩
        rw [h5] at h
        have N5 := Lib.hid h5
        obtain ⟨⟨c, s6⟩, h6⟩ : ∃ z, rTake N s5 1 = z := ⟨_, rfl⟩
        rw [h6] at h
        have N6 := Lib.hid h6
        clear h5 h6
        injection h with e1 e2
        subst e1 e2
        try dsimp only
        have q_s0 := k_s.cell (i := 0) rfl
        have q_s1 := k_s.cell (i := 1) rfl
        have q_s2 := k_s.cell (i := 2) rfl
        have q_s3 := k_s.cell (i := 3) rfl
        have q_sf := k_s.free
        go_wp2_with fail
        refine (rword_c N5.out B p4 cap4 HV4.out  _ (HB.out.trans (bW11.mono HB.out.size))).mono ?_; rintro e W12 ⟨⟨p5, cap5, rfl, hs_⟩, hb⟩
        clear q_s0 q_s1 q_s2 q_s3 q_sf
        have sW12 := Nat.le_trans sW11 hb.size
        have bW12 := (bW11).call hb
        replace k_s := k_s.past hb
        replace k_t := k_t.past hb
        replace k_r := k_r.past hb
        replace k_a := k_a.past hb
        replace k_x := k_x.past hb
        replace k_ws := k_ws.past hb
        replace k_v := k_v.past hb
        clear hb bW11 sW11
        have HV5 := Lib.hid hs_
        clear hs_
        have HCS := Lib.hid (take_short N6.out HV5.out.short)
        go_wp2_with fail
        refine (rtake_c N6.out B p5 cap5 HV5.out 1 rfl _ (HB.out.trans (bW12.mono HB.out.size))).mono ?_; rintro e W13 ⟨⟨p6, cap6, rfl, hs_⟩, hb⟩
        have sW13 := Nat.le_trans sW12 hb.size
        have bW13 := (bW12).call hb
        replace k_s := k_s.past hb
        replace k_t := k_t.past hb
        replace k_r := k_r.past hb
        replace k_a := k_a.past hb
        replace k_x := k_x.past hb
        replace k_ws := k_ws.past hb
        replace k_v := k_v.past hb
        clear hb bW12 sW12
        have HV6 := Lib.hid hs_
        clear hs_
        go_upto_region 20 with fail
        obtain ⟨W14, hW14, bW14, sW14, k2_s, k2_t, k2_r, k2_a, k2_x, k2_ws, k2_v, k2_c, k2_s6⟩ : ∃ x, ((W13.alloc (.cells #[.int .i64 (c.kind : Nat), .string ⟨c.text.toArray⟩, .int .i64 (c.val : Nat), .int .i64 (c.pos : Nat)] 54)).alloc (.cells #[.slice p6 s6.left.length cap6, .int .i64 (N : Nat), .int .i64 (s6.err : Nat), .int .i64 (s6.pos : Nat)] 45)) = x ∧ Since w x ∧ W13.heap.size + 1 + 1 ≤ x.heap.size ∧ Blk x (w.heap.size) 45 [.slice p4 s4.left.length cap4, .int .i64 (N : Nat), .int .i64 (s4.err : Nat), .int .i64 (s4.pos : Nat)] ∧ Blk x (w.heap.size + 1) 32 [.string ⟨#[]⟩, .int .i64 0, .string ⟨#[]⟩, .int .i64 0, .int .i64 0] ∧ Blk x (w.heap.size + 1 + 1) 45 [.slice none 0 0, .int .i64 0, .int .i64 0, .int .i64 0] ∧ Blk x (W2.heap.size) 54 [.int .i64 (a.kind : Nat), .string ⟨a.text.toArray⟩, .int .i64 (a.val : Nat), .int .i64 (a.pos : Nat)] ∧ Blk x (W3.heap.size) 32 [.string ⟨a.text.toArray⟩, .int .i64 (o : Nat), .string ⟨v.text.toArray⟩, .int .i64 0, .int .i64 (a.pos : Nat)] ∧ Blk x (W4.heap.size) 9 [.string ⟨#[61]⟩, .string ⟨#[33, 61]⟩, .string ⟨#[60]⟩, .string ⟨#[60, 61]⟩, .string ⟨#[62]⟩, .string ⟨#[62, 61]⟩] ∧ Blk x (W8.heap.size) 54 [.int .i64 (v.kind : Nat), .string ⟨v.text.toArray⟩, .int .i64 (v.val : Nat), .int .i64 (v.pos : Nat)] ∧ Blk x (W13.heap.size) 54 [.int .i64 (c.kind : Nat), .string ⟨c.text.toArray⟩, .int .i64 (c.val : Nat), .int .i64 (c.pos : Nat)] ∧ Blk x (W13.heap.size + 1) 45 [.slice p6 s6.left.length cap6, .int .i64 (N : Nat), .int .i64 (s6.err : Nat), .int .i64 (s6.pos : Nat)] := ⟨_, rfl, (Since.alloc (Since.alloc bW13 _) _), by simp only [World.setCell, World.size_alloc, Array.size_modify, Nat.le_refl], (Blk.alloc (Blk.alloc k_s _) _), (Blk.alloc (Blk.alloc k_t _) _), (Blk.alloc (Blk.alloc k_r _) _), (Blk.alloc (Blk.alloc k_a _) _), (Blk.alloc (Blk.alloc k_x _) _), (Blk.alloc (Blk.alloc k_ws _) _), (Blk.alloc (Blk.alloc k_v _) _), (Blk.alloc (Blk.new' _ _ _ (rfl)) _), (Blk.new' _ _ _ (by simp only [World.size_alloc]))⟩
        rw [hW14]
        clear hW14 k_s k_t k_r k_a k_x k_ws k_v
        have k_s := k2_s
        have k_t := k2_t
        have k_r := k2_r
        have k_a := k2_a
        have k_x := k2_x
        have k_ws := k2_ws
        have k_v := k2_v
        have k_c := k2_c
        have k_s6 := k2_s6
        clear k2_s k2_t k2_r k2_a k2_x k2_ws k2_v k2_c k2_s6
        have hvs := HVS.out; have hcs := HCS.out
        have happ := str_append v.text [46]
        have happ2 := str_append (v.text ++ [46]) c.text
        have z1 := size_of_list v.text; have z2 := size_of_list c.text; have z3 := size_of_list (v.text ++ [46]); have z4 : (v.text ++ [46]).length = v.text.length + 1 := by simp
        have q_c0 := k_c.cell (i := 0) rfl
        have q_c1 := k_c.cell (i := 1) rfl
        have q_c2 := k_c.cell (i := 2) rfl
        have q_c3 := k_c.cell (i := 3) rfl
        have q_cf := k_c.free
        have q_x0 := k_x.cell (i := 0) rfl
        have q_x1 := k_x.cell (i := 1) rfl
        have q_x2 := k_x.cell (i := 2) rfl
        have q_x3 := k_x.cell (i := 3) rfl
        have q_x4 := k_x.cell (i := 4) rfl
        have q_xf := k_x.free
        go_upto_region 21 with fail
        clear q_c0 q_c1 q_c2 q_c3 q_cf q_x0 q_x1 q_x2 q_x3 q_x4 q_xf
        clear happ happ2 z1 z2 z3 z4 hvs hcs
        obtain ⟨W15, hW15, bW15, sW15, k2_s, k2_t, k2_r, k2_a, k2_x, k2_ws, k2_v, k2_c, k2_s6⟩ : ∃ x, (W14.setCell ⟨W3.heap.size, 2, none⟩ (.string ⟨(v.text ++ 46 :: c.text).toArray⟩)) = x ∧ Since w x ∧ W14.heap.size ≤ x.heap.size ∧ Blk x (w.heap.size) 45 [.slice p4 s4.left.length cap4, .int .i64 (N : Nat), .int .i64 (s4.err : Nat), .int .i64 (s4.pos : Nat)] ∧ Blk x (w.heap.size + 1) 32 [.string ⟨#[]⟩, .int .i64 0, .string ⟨#[]⟩, .int .i64 0, .int .i64 0] ∧ Blk x (w.heap.size + 1 + 1) 45 [.slice none 0 0, .int .i64 0, .int .i64 0, .int .i64 0] ∧ Blk x (W2.heap.size) 54 [.int .i64 (a.kind : Nat), .string ⟨a.text.toArray⟩, .int .i64 (a.val : Nat), .int .i64 (a.pos : Nat)] ∧ Blk x (W3.heap.size) 32 [.string ⟨a.text.toArray⟩, .int .i64 (o : Nat), .string ⟨(v.text ++ 46 :: c.text).toArray⟩, .int .i64 0, .int .i64 (a.pos : Nat)] ∧ Blk x (W4.heap.size) 9 [.string ⟨#[61]⟩, .string ⟨#[33, 61]⟩, .string ⟨#[60]⟩, .string ⟨#[60, 61]⟩, .string ⟨#[62]⟩, .string ⟨#[62, 61]⟩] ∧ Blk x (W8.heap.size) 54 [.int .i64 (v.kind : Nat), .string ⟨v.text.toArray⟩, .int .i64 (v.val : Nat), .int .i64 (v.pos : Nat)] ∧ Blk x (W13.heap.size) 54 [.int .i64 (c.kind : Nat), .string ⟨c.text.toArray⟩, .int .i64 (c.val : Nat), .int .i64 (c.pos : Nat)] ∧ Blk x (W13.heap.size + 1) 45 [.slice p6 s6.left.length cap6, .int .i64 (N : Nat), .int .i64 (s6.err : Nat), .int .i64 (s6.pos : Nat)] := ⟨_, rfl, (Since.s1 bW14 (by omega)), by simp only [World.setCell, World.size_alloc, Array.size_modify, Nat.le_refl], (Blk.o1 k_s (by omega)), (Blk.o1 k_t (by omega)), (Blk.o1 k_r (by omega)), (Blk.o1 k_a (by omega)), (Blk.cast (Blk.set k_x 2 _) rfl), (Blk.o1 k_ws (by omega)), (Blk.o1 k_v (by omega)), (Blk.o1 k_c (by omega)), (Blk.o1 k_s6 (by omega))⟩
        rw [hW15]
        clear hW15 k_s k_t k_r k_a k_x k_ws k_v k_c k_s6
        have k_s := k2_s
        have k_t := k2_t
        have k_r := k2_r
        have k_a := k2_a
        have k_x := k2_x
        have k_ws := k2_ws
        have k_v := k2_v
        have k_c := k2_c
        have k_s6 := k2_s6
        clear k2_s k2_t k2_r k2_a k2_x k2_ws k2_v k2_c k2_s6
        have q_s60 := k_s6.cell (i := 0) rfl
        have q_s61 := k_s6.cell (i := 1) rfl
        have q_s62 := k_s6.cell (i := 2) rfl
        have q_s63 := k_s6.cell (i := 3) rfl
        have q_s6f := k_s6.free
        have q_s0 := k_s.cell (i := 0) rfl
        have q_s1 := k_s.cell (i := 1) rfl
        have q_s2 := k_s.cell (i := 2) rfl
        have q_s3 := k_s.cell (i := 3) rfl
        have q_sf := k_s.free
        go_upto_region 22 with fail
        clear q_s60 q_s61 q_s62 q_s63 q_s6f q_s0 q_s1 q_s2 q_s3 q_sf
        obtain ⟨W16, hW16, bW16, sW16, k2_s, k2_t, k2_r, k2_a, k2_x, k2_ws, k2_v, k2_c, k2_s6⟩ : ∃ x, ((((W15.setCell ⟨w.heap.size, 0, none⟩ (.slice p6 s6.left.length cap6)).setCell ⟨w.heap.size, 1, none⟩ (.int .i64 (N : Nat))).setCell ⟨w.heap.size, 2, none⟩ (.int .i64 (s6.err : Nat))).setCell ⟨w.heap.size, 3, none⟩ (.int .i64 (s6.pos : Nat))) = x ∧ Since w x ∧ W15.heap.size ≤ x.heap.size ∧ Blk x (w.heap.size) 45 [.slice p6 s6.left.length cap6, .int .i64 (N : Nat), .int .i64 (s6.err : Nat), .int .i64 (s6.pos : Nat)] ∧ Blk x (w.heap.size + 1) 32 [.string ⟨#[]⟩, .int .i64 0, .string ⟨#[]⟩, .int .i64 0, .int .i64 0] ∧ Blk x (w.heap.size + 1 + 1) 45 [.slice none 0 0, .int .i64 0, .int .i64 0, .int .i64 0] ∧ Blk x (W2.heap.size) 54 [.int .i64 (a.kind : Nat), .string ⟨a.text.toArray⟩, .int .i64 (a.val : Nat), .int .i64 (a.pos : Nat)] ∧ Blk x (W3.heap.size) 32 [.string ⟨a.text.toArray⟩, .int .i64 (o : Nat), .string ⟨(v.text ++ 46 :: c.text).toArray⟩, .int .i64 0, .int .i64 (a.pos : Nat)] ∧ Blk x (W4.heap.size) 9 [.string ⟨#[61]⟩, .string ⟨#[33, 61]⟩, .string ⟨#[60]⟩, .string ⟨#[60, 61]⟩, .string ⟨#[62]⟩, .string ⟨#[62, 61]⟩] ∧ Blk x (W8.heap.size) 54 [.int .i64 (v.kind : Nat), .string ⟨v.text.toArray⟩, .int .i64 (v.val : Nat), .int .i64 (v.pos : Nat)] ∧ Blk x (W13.heap.size) 54 [.int .i64 (c.kind : Nat), .string ⟨c.text.toArray⟩, .int .i64 (c.val : Nat), .int .i64 (c.pos : Nat)] ∧ Blk x (W13.heap.size + 1) 45 [.slice p6 s6.left.length cap6, .int .i64 (N : Nat), .int .i64 (s6.err : Nat), .int .i64 (s6.pos : Nat)] := ⟨_, rfl, (Since.s4 bW15 (by omega)), by simp only [World.setCell, World.size_alloc, Array.size_modify, Nat.le_refl], (Blk.cast (Blk.set (Blk.set (Blk.set (Blk.set k_s 0 _) 1 _) 2 _) 3 _) rfl), (Blk.o4 k_t (by omega)), (Blk.o4 k_r (by omega)), (Blk.o4 k_a (by omega)), (Blk.o4 k_x (by omega)), (Blk.o4 k_ws (by omega)), (Blk.o4 k_v (by omega)), (Blk.o4 k_c (by omega)), (Blk.o4 k_s6 (by omega))⟩
        rw [hW16]
        clear hW16 k_s k_t k_r k_a k_x k_ws k_v k_c k_s6
        have k_s := k2_s
        have k_t := k2_t
        have k_r := k2_r
        have k_a := k2_a
        have k_x := k2_x
        have k_ws := k2_ws
        have k_v := k2_v
        have k_c := k2_c
        have k_s6 := k2_s6
        clear k2_s k2_t k2_r k2_a k2_x k2_ws k2_v k2_c k2_s6
        refine wp_region_any (by kernel_rfl) ?_
        refine Foyer.Round.any_of_held (S := fun W => Blk W (W3.heap.size) 32 [.string ⟨a.text.toArray⟩, .int .i64 (o : Nat), .string ⟨(v.text ++ 46 :: c.text).toArray⟩, .int .i64 0, .int .i64 (a.pos : Nat)] ∧ Blk W (w.heap.size) 45 [.slice p6 s6.left.length cap6, .int .i64 (N : Nat), .int .i64 (s6.err : Nat), .int .i64 (s6.pos : Nat)]) (N := [3]) _ _ _ _ ?_
        change Foyer.Round.held _ _ _ _ _ _ _ _ _ W16.drew
        obtain ⟨W17, hW17⟩ : ∃ x, W16.drew = x := ⟨_, rfl⟩
        have bW17 : Since w W17 := by rw [← hW17]; exact Below.drew bW16
        have sW17 := sW16
        rw [show W16.heap.size = W17.heap.size from by rw [← hW17]; rfl] at sW17
        replace k_s : Blk W17 (w.heap.size) 45 [.slice p6 s6.left.length cap6, .int .i64 (N : Nat), .int .i64 (s6.err : Nat), .int .i64 (s6.pos : Nat)] := by rw [← hW17]; exact k_s
        replace k_t : Blk W17 (w.heap.size + 1) 32 [.string ⟨#[]⟩, .int .i64 0, .string ⟨#[]⟩, .int .i64 0, .int .i64 0] := by rw [← hW17]; exact k_t
        replace k_r : Blk W17 (w.heap.size + 1 + 1) 45 [.slice none 0 0, .int .i64 0, .int .i64 0, .int .i64 0] := by rw [← hW17]; exact k_r
        replace k_a : Blk W17 (W2.heap.size) 54 [.int .i64 (a.kind : Nat), .string ⟨a.text.toArray⟩, .int .i64 (a.val : Nat), .int .i64 (a.pos : Nat)] := by rw [← hW17]; exact k_a
        replace k_x : Blk W17 (W3.heap.size) 32 [.string ⟨a.text.toArray⟩, .int .i64 (o : Nat), .string ⟨(v.text ++ 46 :: c.text).toArray⟩, .int .i64 0, .int .i64 (a.pos : Nat)] := by rw [← hW17]; exact k_x
        replace k_ws : Blk W17 (W4.heap.size) 9 [.string ⟨#[61]⟩, .string ⟨#[33, 61]⟩, .string ⟨#[60]⟩, .string ⟨#[60, 61]⟩, .string ⟨#[62]⟩, .string ⟨#[62, 61]⟩] := by rw [← hW17]; exact k_ws
        replace k_v : Blk W17 (W8.heap.size) 54 [.int .i64 (v.kind : Nat), .string ⟨v.text.toArray⟩, .int .i64 (v.val : Nat), .int .i64 (v.pos : Nat)] := by rw [← hW17]; exact k_v
        replace k_c : Blk W17 (W13.heap.size) 54 [.int .i64 (c.kind : Nat), .string ⟨c.text.toArray⟩, .int .i64 (c.val : Nat), .int .i64 (c.pos : Nat)] := by rw [← hW17]; exact k_c
        replace k_s6 : Blk W17 (W13.heap.size + 1) 45 [.slice p6 s6.left.length cap6, .int .i64 (N : Nat), .int .i64 (s6.err : Nat), .int .i64 (s6.pos : Nat)] := by rw [← hW17]; exact k_s6
        rw [hW17]
        clear hW17 bW16 sW16
        refine Foyer.Round.held_take [3] (i := 0) (v := .agg #[.string ⟨a.text.toArray⟩, .int .i64 (o : Nat), .string ⟨(v.text ++ 46 :: c.text).toArray⟩, .int .i64 0, .int .i64 (a.pos : Nat)]) rfl (by kernel_rfl) (fun _ _ _ h => h) (Or.inl ⟨by rfl, fun w' hS => by have r_x0 := (show Blk _ _ _ _ from hS.1).cell (i := 0) rfl; have r_x1 := (show Blk _ _ _ _ from hS.1).cell (i := 1) rfl; have r_x2 := (show Blk _ _ _ _ from hS.1).cell (i := 2) rfl; have r_x3 := (show Blk _ _ _ _ from hS.1).cell (i := 3) rfl; have r_x4 := (show Blk _ _ _ _ from hS.1).cell (i := 4) rfl; go_simp⟩) (⟨k_x, k_s⟩) ?_
        try simp only [Act.put, List.setIfInBounds_toArray, List.set_cons_zero, List.set_cons_succ]
        refine Foyer.Round.held_take [3] (i := 1) (v := .agg #[.slice p6 s6.left.length cap6, .int .i64 (N : Nat), .int .i64 (s6.err : Nat), .int .i64 (s6.pos : Nat)]) rfl (by kernel_rfl) (fun _ _ _ h => h) (Or.inl ⟨by rfl, fun w' hS => by have r_s0 := (show Blk _ _ _ _ from hS.2).cell (i := 0) rfl; have r_s1 := (show Blk _ _ _ _ from hS.2).cell (i := 1) rfl; have r_s2 := (show Blk _ _ _ _ from hS.2).cell (i := 2) rfl; have r_s3 := (show Blk _ _ _ _ from hS.2).cell (i := 3) rfl; go_simp⟩) (⟨k_x, k_s⟩) ?_
        try simp only [Act.put, List.setIfInBounds_toArray, List.set_cons_zero, List.set_cons_succ]
        have q_t0 := k_t.cell (i := 0) rfl
        have q_t1 := k_t.cell (i := 1) rfl
        have q_t2 := k_t.cell (i := 2) rfl
        have q_t3 := k_t.cell (i := 3) rfl
        have q_t4 := k_t.cell (i := 4) rfl
        have q_tf := k_t.free
        refine Foyer.Round.held_one (i := 2) rfl (by kernel_rfl) (fun K hK => ?_)
        go_simp
        clear q_t0 q_t1 q_t2 q_t3 q_t4 q_tf
        obtain ⟨W18, hW18, bW18, sW18, k2_s, k2_t, k2_r, k2_a, k2_x, k2_ws, k2_v, k2_c, k2_s6⟩ : ∃ x, (((((W17.setCell ⟨w.heap.size + 1, 0, none⟩ (.string ⟨a.text.toArray⟩)).setCell ⟨w.heap.size + 1, 1, none⟩ (.int .i64 (o : Nat))).setCell ⟨w.heap.size + 1, 2, none⟩ (.string ⟨(v.text ++ 46 :: c.text).toArray⟩)).setCell ⟨w.heap.size + 1, 3, none⟩ (.int .i64 0)).setCell ⟨w.heap.size + 1, 4, none⟩ (.int .i64 (a.pos : Nat))) = x ∧ Since w x ∧ W17.heap.size ≤ x.heap.size ∧ Blk x (w.heap.size) 45 [.slice p6 s6.left.length cap6, .int .i64 (N : Nat), .int .i64 (s6.err : Nat), .int .i64 (s6.pos : Nat)] ∧ Blk x (w.heap.size + 1) 32 [.string ⟨a.text.toArray⟩, .int .i64 (o : Nat), .string ⟨(v.text ++ 46 :: c.text).toArray⟩, .int .i64 0, .int .i64 (a.pos : Nat)] ∧ Blk x (w.heap.size + 1 + 1) 45 [.slice none 0 0, .int .i64 0, .int .i64 0, .int .i64 0] ∧ Blk x (W2.heap.size) 54 [.int .i64 (a.kind : Nat), .string ⟨a.text.toArray⟩, .int .i64 (a.val : Nat), .int .i64 (a.pos : Nat)] ∧ Blk x (W3.heap.size) 32 [.string ⟨a.text.toArray⟩, .int .i64 (o : Nat), .string ⟨(v.text ++ 46 :: c.text).toArray⟩, .int .i64 0, .int .i64 (a.pos : Nat)] ∧ Blk x (W4.heap.size) 9 [.string ⟨#[61]⟩, .string ⟨#[33, 61]⟩, .string ⟨#[60]⟩, .string ⟨#[60, 61]⟩, .string ⟨#[62]⟩, .string ⟨#[62, 61]⟩] ∧ Blk x (W8.heap.size) 54 [.int .i64 (v.kind : Nat), .string ⟨v.text.toArray⟩, .int .i64 (v.val : Nat), .int .i64 (v.pos : Nat)] ∧ Blk x (W13.heap.size) 54 [.int .i64 (c.kind : Nat), .string ⟨c.text.toArray⟩, .int .i64 (c.val : Nat), .int .i64 (c.pos : Nat)] ∧ Blk x (W13.heap.size + 1) 45 [.slice p6 s6.left.length cap6, .int .i64 (N : Nat), .int .i64 (s6.err : Nat), .int .i64 (s6.pos : Nat)] := ⟨_, rfl, (Since.s1 (Since.s4 bW17 (by omega)) (by omega)), by simp only [World.setCell, World.size_alloc, Array.size_modify, Nat.le_refl], (Blk.o1 (Blk.o4 k_s (by omega)) (by omega)), (Blk.cast (Blk.set (Blk.set (Blk.set (Blk.set (Blk.set k_t 0 _) 1 _) 2 _) 3 _) 4 _) rfl), (Blk.o1 (Blk.o4 k_r (by omega)) (by omega)), (Blk.o1 (Blk.o4 k_a (by omega)) (by omega)), (Blk.o1 (Blk.o4 k_x (by omega)) (by omega)), (Blk.o1 (Blk.o4 k_ws (by omega)) (by omega)), (Blk.o1 (Blk.o4 k_v (by omega)) (by omega)), (Blk.o1 (Blk.o4 k_c (by omega)) (by omega)), (Blk.o1 (Blk.o4 k_s6 (by omega)) (by omega))⟩
        rw [hW18]
        clear hW18 k_s k_t k_r k_a k_x k_ws k_v k_c k_s6
        have k_s := k2_s
        have k_t := k2_t
        have k_r := k2_r
        have k_a := k2_a
        have k_x := k2_x
        have k_ws := k2_ws
        have k_v := k2_v
        have k_c := k2_c
        have k_s6 := k2_s6
        clear k2_s k2_t k2_r k2_a k2_x k2_ws k2_v k2_c k2_s6
        refine hK.out _ _ (fun _ => ⟨k_x, k_s⟩) ?_
        clear hK K
        try simp only [Act.put, List.setIfInBounds_toArray, List.set_cons_zero, List.set_cons_succ]
        have q_r0 := k_r.cell (i := 0) rfl
        have q_r1 := k_r.cell (i := 1) rfl
        have q_r2 := k_r.cell (i := 2) rfl
        have q_r3 := k_r.cell (i := 3) rfl
        have q_rf := k_r.free
        refine Foyer.Round.held_one (i := 3) rfl (by kernel_rfl) (fun K hK => ?_)
        go_simp
        clear q_r0 q_r1 q_r2 q_r3 q_rf
        obtain ⟨W19, hW19, bW19, sW19, k2_s, k2_t, k2_r, k2_a, k2_x, k2_ws, k2_v, k2_c, k2_s6⟩ : ∃ x, ((((W18.setCell ⟨w.heap.size + 1 + 1, 0, none⟩ (.slice p6 s6.left.length cap6)).setCell ⟨w.heap.size + 1 + 1, 1, none⟩ (.int .i64 (N : Nat))).setCell ⟨w.heap.size + 1 + 1, 2, none⟩ (.int .i64 (s6.err : Nat))).setCell ⟨w.heap.size + 1 + 1, 3, none⟩ (.int .i64 (s6.pos : Nat))) = x ∧ Since w x ∧ W18.heap.size ≤ x.heap.size ∧ Blk x (w.heap.size) 45 [.slice p6 s6.left.length cap6, .int .i64 (N : Nat), .int .i64 (s6.err : Nat), .int .i64 (s6.pos : Nat)] ∧ Blk x (w.heap.size + 1) 32 [.string ⟨a.text.toArray⟩, .int .i64 (o : Nat), .string ⟨(v.text ++ 46 :: c.text).toArray⟩, .int .i64 0, .int .i64 (a.pos : Nat)] ∧ Blk x (w.heap.size + 1 + 1) 45 [.slice p6 s6.left.length cap6, .int .i64 (N : Nat), .int .i64 (s6.err : Nat), .int .i64 (s6.pos : Nat)] ∧ Blk x (W2.heap.size) 54 [.int .i64 (a.kind : Nat), .string ⟨a.text.toArray⟩, .int .i64 (a.val : Nat), .int .i64 (a.pos : Nat)] ∧ Blk x (W3.heap.size) 32 [.string ⟨a.text.toArray⟩, .int .i64 (o : Nat), .string ⟨(v.text ++ 46 :: c.text).toArray⟩, .int .i64 0, .int .i64 (a.pos : Nat)] ∧ Blk x (W4.heap.size) 9 [.string ⟨#[61]⟩, .string ⟨#[33, 61]⟩, .string ⟨#[60]⟩, .string ⟨#[60, 61]⟩, .string ⟨#[62]⟩, .string ⟨#[62, 61]⟩] ∧ Blk x (W8.heap.size) 54 [.int .i64 (v.kind : Nat), .string ⟨v.text.toArray⟩, .int .i64 (v.val : Nat), .int .i64 (v.pos : Nat)] ∧ Blk x (W13.heap.size) 54 [.int .i64 (c.kind : Nat), .string ⟨c.text.toArray⟩, .int .i64 (c.val : Nat), .int .i64 (c.pos : Nat)] ∧ Blk x (W13.heap.size + 1) 45 [.slice p6 s6.left.length cap6, .int .i64 (N : Nat), .int .i64 (s6.err : Nat), .int .i64 (s6.pos : Nat)] := ⟨_, rfl, (Since.s4 bW18 (by omega)), by simp only [World.setCell, World.size_alloc, Array.size_modify, Nat.le_refl], (Blk.o4 k_s (by omega)), (Blk.o4 k_t (by omega)), (Blk.cast (Blk.set (Blk.set (Blk.set (Blk.set k_r 0 _) 1 _) 2 _) 3 _) rfl), (Blk.o4 k_a (by omega)), (Blk.o4 k_x (by omega)), (Blk.o4 k_ws (by omega)), (Blk.o4 k_v (by omega)), (Blk.o4 k_c (by omega)), (Blk.o4 k_s6 (by omega))⟩
        rw [hW19]
        clear hW19 k_s k_t k_r k_a k_x k_ws k_v k_c k_s6
        have k_s := k2_s
        have k_t := k2_t
        have k_r := k2_r
        have k_a := k2_a
        have k_x := k2_x
        have k_ws := k2_ws
        have k_v := k2_v
        have k_c := k2_c
        have k_s6 := k2_s6
        clear k2_s k2_t k2_r k2_a k2_x k2_ws k2_v k2_c k2_s6
        refine hK.out _ _ (fun _ => ⟨k_x, k_s⟩) ?_
        clear hK K
        try simp only [Act.put, List.setIfInBounds_toArray, List.set_cons_zero, List.set_cons_succ]
        refine Foyer.Round.held_done (by kernel_rfl) ?_ _
        go_wp2
        exact bodyPost_ret (results_two rfl _ _ (w.heap.size + 1) (w.heap.size + 1 + 1) _ _ _ _ rfl k_t.range Tryd.underlying32 rfl (by kernel_rfl) rfl k_r.range Tryd.underlying45 rfl (by kernel_rfl)) rfl ⟨⟨_, _, rfl, HV6.out⟩, bW19⟩
    · rw [if_pos rfl] at h
      obtain ⟨⟨v, s3⟩, h3⟩ : ∃ z, rTake N s2 2 = z := ⟨_, rfl⟩
      rw [h3] at h
      injection h with e1 e2
      subst e1 e2
      try dsimp only
      have N3 := Lib.hid h3
      clear h3
      have q_s0 := k_s.cell (i := 0) rfl
      have q_s1 := k_s.cell (i := 1) rfl
      have q_s2 := k_s.cell (i := 2) rfl
      have q_s3 := k_s.cell (i := 3) rfl
      have q_sf := k_s.free
      go_wp2_with fail
      refine (rtake_c N3.out B p2 cap2 HV2.out 2 rfl _ (HB.out.trans (bW7.mono HB.out.size))).mono ?_; rintro e W8 ⟨⟨p3, cap3, rfl, hs_⟩, hb⟩
      clear q_s0 q_s1 q_s2 q_s3 q_sf
      have sW8 := Nat.le_trans sW7 hb.size
      have bW8 := (bW7).call hb
      replace k_s := k_s.past hb
      replace k_t := k_t.past hb
      replace k_r := k_r.past hb
      replace k_a := k_a.past hb
      replace k_x := k_x.past hb
      replace k_ws := k_ws.past hb
      clear hb bW7 sW7
      have HV3 := Lib.hid hs_
      clear hs_
      go_upto_region 14 with fail
      obtain ⟨W9, hW9, bW9, sW9, k2_s, k2_t, k2_r, k2_a, k2_x, k2_ws, k2_v, k2_s3⟩ : ∃ x, ((W8.alloc (.cells #[.int .i64 (v.kind : Nat), .string ⟨v.text.toArray⟩, .int .i64 (v.val : Nat), .int .i64 (v.pos : Nat)] 54)).alloc (.cells #[.slice p3 s3.left.length cap3, .int .i64 (N : Nat), .int .i64 (s3.err : Nat), .int .i64 (s3.pos : Nat)] 45)) = x ∧ Since w x ∧ W8.heap.size + 1 + 1 ≤ x.heap.size ∧ Blk x (w.heap.size) 45 [.slice p2 s2.left.length cap2, .int .i64 (N : Nat), .int .i64 (s2.err : Nat), .int .i64 (s2.pos : Nat)] ∧ Blk x (w.heap.size + 1) 32 [.string ⟨#[]⟩, .int .i64 0, .string ⟨#[]⟩, .int .i64 0, .int .i64 0] ∧ Blk x (w.heap.size + 1 + 1) 45 [.slice none 0 0, .int .i64 0, .int .i64 0, .int .i64 0] ∧ Blk x (W2.heap.size) 54 [.int .i64 (a.kind : Nat), .string ⟨a.text.toArray⟩, .int .i64 (a.val : Nat), .int .i64 (a.pos : Nat)] ∧ Blk x (W3.heap.size) 32 [.string ⟨a.text.toArray⟩, .int .i64 (o : Nat), .string ⟨#[]⟩, .int .i64 0, .int .i64 (a.pos : Nat)] ∧ Blk x (W4.heap.size) 9 [.string ⟨#[61]⟩, .string ⟨#[33, 61]⟩, .string ⟨#[60]⟩, .string ⟨#[60, 61]⟩, .string ⟨#[62]⟩, .string ⟨#[62, 61]⟩] ∧ Blk x (W8.heap.size) 54 [.int .i64 (v.kind : Nat), .string ⟨v.text.toArray⟩, .int .i64 (v.val : Nat), .int .i64 (v.pos : Nat)] ∧ Blk x (W8.heap.size + 1) 45 [.slice p3 s3.left.length cap3, .int .i64 (N : Nat), .int .i64 (s3.err : Nat), .int .i64 (s3.pos : Nat)] := ⟨_, rfl, (Since.alloc (Since.alloc bW8 _) _), by simp only [World.setCell, World.size_alloc, Array.size_modify, Nat.le_refl], (Blk.alloc (Blk.alloc k_s _) _), (Blk.alloc (Blk.alloc k_t _) _), (Blk.alloc (Blk.alloc k_r _) _), (Blk.alloc (Blk.alloc k_a _) _), (Blk.alloc (Blk.alloc k_x _) _), (Blk.alloc (Blk.alloc k_ws _) _), (Blk.alloc (Blk.new' _ _ _ (rfl)) _), (Blk.new' _ _ _ (by simp only [World.size_alloc]))⟩
      rw [hW9]
      clear hW9 k_s k_t k_r k_a k_x k_ws
      have k_s := k2_s
      have k_t := k2_t
      have k_r := k2_r
      have k_a := k2_a
      have k_x := k2_x
      have k_ws := k2_ws
      have k_v := k2_v
      have k_s3 := k2_s3
      clear k2_s k2_t k2_r k2_a k2_x k2_ws k2_v k2_s3
      have q_v0 := k_v.cell (i := 0) rfl
      have q_v1 := k_v.cell (i := 1) rfl
      have q_v2 := k_v.cell (i := 2) rfl
      have q_v3 := k_v.cell (i := 3) rfl
      have q_vf := k_v.free
      have q_x0 := k_x.cell (i := 0) rfl
      have q_x1 := k_x.cell (i := 1) rfl
      have q_x2 := k_x.cell (i := 2) rfl
      have q_x3 := k_x.cell (i := 3) rfl
      have q_x4 := k_x.cell (i := 4) rfl
      have q_xf := k_x.free
      have q_s30 := k_s3.cell (i := 0) rfl
      have q_s31 := k_s3.cell (i := 1) rfl
      have q_s32 := k_s3.cell (i := 2) rfl
      have q_s33 := k_s3.cell (i := 3) rfl
      have q_s3f := k_s3.free
      go_upto_region 15 with fail
      clear q_v0 q_v1 q_v2 q_v3 q_vf q_x0 q_x1 q_x2 q_x3 q_x4 q_xf q_s30 q_s31 q_s32 q_s33 q_s3f
      obtain ⟨W10, hW10, bW10, sW10, k2_s, k2_t, k2_r, k2_a, k2_x, k2_ws, k2_v, k2_s3⟩ : ∃ x, (W9.setCell ⟨W3.heap.size, 3, none⟩ (.int .i64 (v.val : Nat))) = x ∧ Since w x ∧ W9.heap.size ≤ x.heap.size ∧ Blk x (w.heap.size) 45 [.slice p2 s2.left.length cap2, .int .i64 (N : Nat), .int .i64 (s2.err : Nat), .int .i64 (s2.pos : Nat)] ∧ Blk x (w.heap.size + 1) 32 [.string ⟨#[]⟩, .int .i64 0, .string ⟨#[]⟩, .int .i64 0, .int .i64 0] ∧ Blk x (w.heap.size + 1 + 1) 45 [.slice none 0 0, .int .i64 0, .int .i64 0, .int .i64 0] ∧ Blk x (W2.heap.size) 54 [.int .i64 (a.kind : Nat), .string ⟨a.text.toArray⟩, .int .i64 (a.val : Nat), .int .i64 (a.pos : Nat)] ∧ Blk x (W3.heap.size) 32 [.string ⟨a.text.toArray⟩, .int .i64 (o : Nat), .string ⟨#[]⟩, .int .i64 (v.val : Nat), .int .i64 (a.pos : Nat)] ∧ Blk x (W4.heap.size) 9 [.string ⟨#[61]⟩, .string ⟨#[33, 61]⟩, .string ⟨#[60]⟩, .string ⟨#[60, 61]⟩, .string ⟨#[62]⟩, .string ⟨#[62, 61]⟩] ∧ Blk x (W8.heap.size) 54 [.int .i64 (v.kind : Nat), .string ⟨v.text.toArray⟩, .int .i64 (v.val : Nat), .int .i64 (v.pos : Nat)] ∧ Blk x (W8.heap.size + 1) 45 [.slice p3 s3.left.length cap3, .int .i64 (N : Nat), .int .i64 (s3.err : Nat), .int .i64 (s3.pos : Nat)] := ⟨_, rfl, (Since.s1 bW9 (by omega)), by simp only [World.setCell, World.size_alloc, Array.size_modify, Nat.le_refl], (Blk.o1 k_s (by omega)), (Blk.o1 k_t (by omega)), (Blk.o1 k_r (by omega)), (Blk.o1 k_a (by omega)), (Blk.cast (Blk.set k_x 3 _) rfl), (Blk.o1 k_ws (by omega)), (Blk.o1 k_v (by omega)), (Blk.o1 k_s3 (by omega))⟩
      rw [hW10]
      clear hW10 k_s k_t k_r k_a k_x k_ws k_v k_s3
      have k_s := k2_s
      have k_t := k2_t
      have k_r := k2_r
      have k_a := k2_a
      have k_x := k2_x
      have k_ws := k2_ws
      have k_v := k2_v
      have k_s3 := k2_s3
      clear k2_s k2_t k2_r k2_a k2_x k2_ws k2_v k2_s3
      refine wp_region_any (by kernel_rfl) ?_
      refine Foyer.Round.any_of_held (S := fun W => Blk W (W3.heap.size) 32 [.string ⟨a.text.toArray⟩, .int .i64 (o : Nat), .string ⟨#[]⟩, .int .i64 (v.val : Nat), .int .i64 (a.pos : Nat)] ∧ Blk W (W8.heap.size + 1) 45 [.slice p3 s3.left.length cap3, .int .i64 (N : Nat), .int .i64 (s3.err : Nat), .int .i64 (s3.pos : Nat)]) (N := [3]) _ _ _ _ ?_
      change Foyer.Round.held _ _ _ _ _ _ _ _ _ W10.drew
      obtain ⟨W11, hW11⟩ : ∃ x, W10.drew = x := ⟨_, rfl⟩
      have bW11 : Since w W11 := by rw [← hW11]; exact Below.drew bW10
      have sW11 := sW10
      rw [show W10.heap.size = W11.heap.size from by rw [← hW11]; rfl] at sW11
      replace k_s : Blk W11 (w.heap.size) 45 [.slice p2 s2.left.length cap2, .int .i64 (N : Nat), .int .i64 (s2.err : Nat), .int .i64 (s2.pos : Nat)] := by rw [← hW11]; exact k_s
      replace k_t : Blk W11 (w.heap.size + 1) 32 [.string ⟨#[]⟩, .int .i64 0, .string ⟨#[]⟩, .int .i64 0, .int .i64 0] := by rw [← hW11]; exact k_t
      replace k_r : Blk W11 (w.heap.size + 1 + 1) 45 [.slice none 0 0, .int .i64 0, .int .i64 0, .int .i64 0] := by rw [← hW11]; exact k_r
      replace k_a : Blk W11 (W2.heap.size) 54 [.int .i64 (a.kind : Nat), .string ⟨a.text.toArray⟩, .int .i64 (a.val : Nat), .int .i64 (a.pos : Nat)] := by rw [← hW11]; exact k_a
      replace k_x : Blk W11 (W3.heap.size) 32 [.string ⟨a.text.toArray⟩, .int .i64 (o : Nat), .string ⟨#[]⟩, .int .i64 (v.val : Nat), .int .i64 (a.pos : Nat)] := by rw [← hW11]; exact k_x
      replace k_ws : Blk W11 (W4.heap.size) 9 [.string ⟨#[61]⟩, .string ⟨#[33, 61]⟩, .string ⟨#[60]⟩, .string ⟨#[60, 61]⟩, .string ⟨#[62]⟩, .string ⟨#[62, 61]⟩] := by rw [← hW11]; exact k_ws
      replace k_v : Blk W11 (W8.heap.size) 54 [.int .i64 (v.kind : Nat), .string ⟨v.text.toArray⟩, .int .i64 (v.val : Nat), .int .i64 (v.pos : Nat)] := by rw [← hW11]; exact k_v
      replace k_s3 : Blk W11 (W8.heap.size + 1) 45 [.slice p3 s3.left.length cap3, .int .i64 (N : Nat), .int .i64 (s3.err : Nat), .int .i64 (s3.pos : Nat)] := by rw [← hW11]; exact k_s3
      rw [hW11]
      clear hW11 bW10 sW10
      refine Foyer.Round.held_take [3] (i := 0) (v := .agg #[.string ⟨a.text.toArray⟩, .int .i64 (o : Nat), .string ⟨#[]⟩, .int .i64 (v.val : Nat), .int .i64 (a.pos : Nat)]) rfl (by kernel_rfl) (fun _ _ _ h => h) (Or.inl ⟨by rfl, fun w' hS => by have r_x0 := (show Blk _ _ _ _ from hS.1).cell (i := 0) rfl; have r_x1 := (show Blk _ _ _ _ from hS.1).cell (i := 1) rfl; have r_x2 := (show Blk _ _ _ _ from hS.1).cell (i := 2) rfl; have r_x3 := (show Blk _ _ _ _ from hS.1).cell (i := 3) rfl; have r_x4 := (show Blk _ _ _ _ from hS.1).cell (i := 4) rfl; go_simp⟩) (⟨k_x, k_s3⟩) ?_
      try simp only [Act.put, List.setIfInBounds_toArray, List.set_cons_zero, List.set_cons_succ]
      refine Foyer.Round.held_take [3] (i := 1) (v := .agg #[.slice p3 s3.left.length cap3, .int .i64 (N : Nat), .int .i64 (s3.err : Nat), .int .i64 (s3.pos : Nat)]) rfl (by kernel_rfl) (fun _ _ _ h => h) (Or.inl ⟨by rfl, fun w' hS => by have r_s30 := (show Blk _ _ _ _ from hS.2).cell (i := 0) rfl; have r_s31 := (show Blk _ _ _ _ from hS.2).cell (i := 1) rfl; have r_s32 := (show Blk _ _ _ _ from hS.2).cell (i := 2) rfl; have r_s33 := (show Blk _ _ _ _ from hS.2).cell (i := 3) rfl; go_simp⟩) (⟨k_x, k_s3⟩) ?_
      try simp only [Act.put, List.setIfInBounds_toArray, List.set_cons_zero, List.set_cons_succ]
      have q_t0 := k_t.cell (i := 0) rfl
      have q_t1 := k_t.cell (i := 1) rfl
      have q_t2 := k_t.cell (i := 2) rfl
      have q_t3 := k_t.cell (i := 3) rfl
      have q_t4 := k_t.cell (i := 4) rfl
      have q_tf := k_t.free
      refine Foyer.Round.held_one (i := 2) rfl (by kernel_rfl) (fun K hK => ?_)
      go_simp
      clear q_t0 q_t1 q_t2 q_t3 q_t4 q_tf
      obtain ⟨W12, hW12, bW12, sW12, k2_s, k2_t, k2_r, k2_a, k2_x, k2_ws, k2_v, k2_s3⟩ : ∃ x, (((((W11.setCell ⟨w.heap.size + 1, 0, none⟩ (.string ⟨a.text.toArray⟩)).setCell ⟨w.heap.size + 1, 1, none⟩ (.int .i64 (o : Nat))).setCell ⟨w.heap.size + 1, 2, none⟩ (.string ⟨#[]⟩)).setCell ⟨w.heap.size + 1, 3, none⟩ (.int .i64 (v.val : Nat))).setCell ⟨w.heap.size + 1, 4, none⟩ (.int .i64 (a.pos : Nat))) = x ∧ Since w x ∧ W11.heap.size ≤ x.heap.size ∧ Blk x (w.heap.size) 45 [.slice p2 s2.left.length cap2, .int .i64 (N : Nat), .int .i64 (s2.err : Nat), .int .i64 (s2.pos : Nat)] ∧ Blk x (w.heap.size + 1) 32 [.string ⟨a.text.toArray⟩, .int .i64 (o : Nat), .string ⟨#[]⟩, .int .i64 (v.val : Nat), .int .i64 (a.pos : Nat)] ∧ Blk x (w.heap.size + 1 + 1) 45 [.slice none 0 0, .int .i64 0, .int .i64 0, .int .i64 0] ∧ Blk x (W2.heap.size) 54 [.int .i64 (a.kind : Nat), .string ⟨a.text.toArray⟩, .int .i64 (a.val : Nat), .int .i64 (a.pos : Nat)] ∧ Blk x (W3.heap.size) 32 [.string ⟨a.text.toArray⟩, .int .i64 (o : Nat), .string ⟨#[]⟩, .int .i64 (v.val : Nat), .int .i64 (a.pos : Nat)] ∧ Blk x (W4.heap.size) 9 [.string ⟨#[61]⟩, .string ⟨#[33, 61]⟩, .string ⟨#[60]⟩, .string ⟨#[60, 61]⟩, .string ⟨#[62]⟩, .string ⟨#[62, 61]⟩] ∧ Blk x (W8.heap.size) 54 [.int .i64 (v.kind : Nat), .string ⟨v.text.toArray⟩, .int .i64 (v.val : Nat), .int .i64 (v.pos : Nat)] ∧ Blk x (W8.heap.size + 1) 45 [.slice p3 s3.left.length cap3, .int .i64 (N : Nat), .int .i64 (s3.err : Nat), .int .i64 (s3.pos : Nat)] := ⟨_, rfl, (Since.s1 (Since.s4 bW11 (by omega)) (by omega)), by simp only [World.setCell, World.size_alloc, Array.size_modify, Nat.le_refl], (Blk.o1 (Blk.o4 k_s (by omega)) (by omega)), (Blk.cast (Blk.set (Blk.set (Blk.set (Blk.set (Blk.set k_t 0 _) 1 _) 2 _) 3 _) 4 _) rfl), (Blk.o1 (Blk.o4 k_r (by omega)) (by omega)), (Blk.o1 (Blk.o4 k_a (by omega)) (by omega)), (Blk.o1 (Blk.o4 k_x (by omega)) (by omega)), (Blk.o1 (Blk.o4 k_ws (by omega)) (by omega)), (Blk.o1 (Blk.o4 k_v (by omega)) (by omega)), (Blk.o1 (Blk.o4 k_s3 (by omega)) (by omega))⟩
      rw [hW12]
      clear hW12 k_s k_t k_r k_a k_x k_ws k_v k_s3
      have k_s := k2_s
      have k_t := k2_t
      have k_r := k2_r
      have k_a := k2_a
      have k_x := k2_x
      have k_ws := k2_ws
      have k_v := k2_v
      have k_s3 := k2_s3
      clear k2_s k2_t k2_r k2_a k2_x k2_ws k2_v k2_s3
      refine hK.out _ _ (fun _ => ⟨k_x, k_s3⟩) ?_
      clear hK K
      try simp only [Act.put, List.setIfInBounds_toArray, List.set_cons_zero, List.set_cons_succ]
      have q_r0 := k_r.cell (i := 0) rfl
      have q_r1 := k_r.cell (i := 1) rfl
      have q_r2 := k_r.cell (i := 2) rfl
      have q_r3 := k_r.cell (i := 3) rfl
      have q_rf := k_r.free
      refine Foyer.Round.held_one (i := 3) rfl (by kernel_rfl) (fun K hK => ?_)
      go_simp
      clear q_r0 q_r1 q_r2 q_r3 q_rf
      obtain ⟨W13, hW13, bW13, sW13, k2_s, k2_t, k2_r, k2_a, k2_x, k2_ws, k2_v, k2_s3⟩ : ∃ x, ((((W12.setCell ⟨w.heap.size + 1 + 1, 0, none⟩ (.slice p3 s3.left.length cap3)).setCell ⟨w.heap.size + 1 + 1, 1, none⟩ (.int .i64 (N : Nat))).setCell ⟨w.heap.size + 1 + 1, 2, none⟩ (.int .i64 (s3.err : Nat))).setCell ⟨w.heap.size + 1 + 1, 3, none⟩ (.int .i64 (s3.pos : Nat))) = x ∧ Since w x ∧ W12.heap.size ≤ x.heap.size ∧ Blk x (w.heap.size) 45 [.slice p2 s2.left.length cap2, .int .i64 (N : Nat), .int .i64 (s2.err : Nat), .int .i64 (s2.pos : Nat)] ∧ Blk x (w.heap.size + 1) 32 [.string ⟨a.text.toArray⟩, .int .i64 (o : Nat), .string ⟨#[]⟩, .int .i64 (v.val : Nat), .int .i64 (a.pos : Nat)] ∧ Blk x (w.heap.size + 1 + 1) 45 [.slice p3 s3.left.length cap3, .int .i64 (N : Nat), .int .i64 (s3.err : Nat), .int .i64 (s3.pos : Nat)] ∧ Blk x (W2.heap.size) 54 [.int .i64 (a.kind : Nat), .string ⟨a.text.toArray⟩, .int .i64 (a.val : Nat), .int .i64 (a.pos : Nat)] ∧ Blk x (W3.heap.size) 32 [.string ⟨a.text.toArray⟩, .int .i64 (o : Nat), .string ⟨#[]⟩, .int .i64 (v.val : Nat), .int .i64 (a.pos : Nat)] ∧ Blk x (W4.heap.size) 9 [.string ⟨#[61]⟩, .string ⟨#[33, 61]⟩, .string ⟨#[60]⟩, .string ⟨#[60, 61]⟩, .string ⟨#[62]⟩, .string ⟨#[62, 61]⟩] ∧ Blk x (W8.heap.size) 54 [.int .i64 (v.kind : Nat), .string ⟨v.text.toArray⟩, .int .i64 (v.val : Nat), .int .i64 (v.pos : Nat)] ∧ Blk x (W8.heap.size + 1) 45 [.slice p3 s3.left.length cap3, .int .i64 (N : Nat), .int .i64 (s3.err : Nat), .int .i64 (s3.pos : Nat)] := ⟨_, rfl, (Since.s4 bW12 (by omega)), by simp only [World.setCell, World.size_alloc, Array.size_modify, Nat.le_refl], (Blk.o4 k_s (by omega)), (Blk.o4 k_t (by omega)), (Blk.cast (Blk.set (Blk.set (Blk.set (Blk.set k_r 0 _) 1 _) 2 _) 3 _) rfl), (Blk.o4 k_a (by omega)), (Blk.o4 k_x (by omega)), (Blk.o4 k_ws (by omega)), (Blk.o4 k_v (by omega)), (Blk.o4 k_s3 (by omega))⟩
      rw [hW13]
      clear hW13 k_s k_t k_r k_a k_x k_ws k_v k_s3
      have k_s := k2_s
      have k_t := k2_t
      have k_r := k2_r
      have k_a := k2_a
      have k_x := k2_x
      have k_ws := k2_ws
      have k_v := k2_v
      have k_s3 := k2_s3
      clear k2_s k2_t k2_r k2_a k2_x k2_ws k2_v k2_s3
      refine hK.out _ _ (fun _ => ⟨k_x, k_s3⟩) ?_
      clear hK K
      try simp only [Act.put, List.setIfInBounds_toArray, List.set_cons_zero, List.set_cons_succ]
      refine Foyer.Round.held_done (by kernel_rfl) ?_ _
      go_wp2
      exact bodyPost_ret (results_two rfl _ _ (w.heap.size + 1) (w.heap.size + 1 + 1) _ _ _ _ rfl k_t.range Tryd.underlying32 rfl (by kernel_rfl) rfl k_r.range Tryd.underlying45 rfl (by kernel_rfl)) rfl ⟨⟨_, _, rfl, HV3.out⟩, bW13⟩
end Go.Proofs.YtlfjdohjfmfcdabDoor
