/-
  The document's own reader of rules: a ratio.
-/
import Derived.Test.YtlfjdohjfmfcdabDoorRefTk7
namespace Go.Proofs.YtlfjdohjfmfcdabDoor
open Go.RowKit Go.Sort Foyer.Rule
set_option linter.unusedSimpArgs false

theorem rtake_c {N : Nat} {s : St} {k : Nat} {t : Foyer.Lexer.Tok} {s2 : St} (h : rTake N s k = (t, s2)) (B : World) (p : Option Addr) (cap : Nat) (hv : IsSt B p cap s.left) (K : Int) (hK : K = (k : Nat)) (w : World) (hB : Below B.heap.size B w) :
    Calls Tryd.prog 22 #[.agg #[.slice p s.left.length cap, .int .i64 (N : Nat), .int .i64 (s.err : Nat), .int .i64 (s.pos : Nat)], .int .i64 K] w fun e w' => (∃ p2 cap2, e = .returned (.tuple #[.agg #[.int .i64 (t.kind : Nat), .string ⟨t.text.toArray⟩, .int .i64 (t.val : Nat), .int .i64 (t.pos : Nat)], .agg #[.slice p2 s2.left.length cap2, .int .i64 (N : Nat), .int .i64 (s2.err : Nat), .int .i64 (s2.pos : Nat)]]) ∧ IsSt B p2 cap2 s2.left) ∧ Below w.heap.size w w' := by
  have := rtake_any N s k B p cap hv K hK w hB
  rw [h] at this
  exact this
theorem rword_c {N : Nat} {s : St} {x : List UInt8} {s2 : St} (h : rWord N s x = s2) (B : World) (p : Option Addr) (cap : Nat) (hv : IsSt B p cap s.left) (w : World) (hB : Below B.heap.size B w) :
    Calls Tryd.prog 23 #[.agg #[.slice p s.left.length cap, .int .i64 (N : Nat), .int .i64 (s.err : Nat), .int .i64 (s.pos : Nat)], .string ⟨x.toArray⟩] w fun e w' => (∃ p2 cap2, e = .returned (.agg #[.slice p2 s2.left.length cap2, .int .i64 (N : Nat), .int .i64 (s2.err : Nat), .int .i64 (s2.pos : Nat)]) ∧ IsSt B p2 cap2 s2.left) ∧ Below w.heap.size w w' := by
  have := rword_any N s x B p cap hv w hB
  rw [h] at this
  exact this
theorem rlimit_c {N : Nat} {s : St} {n m : Nat} {s2 : St} (h : rLimit N s n m = s2) (B : World) (p : Option Addr) (cap : Nat) (hv : IsSt B p cap s.left) (A M : Int) (hA : A = (n : Nat)) (hM : M = (m : Nat)) (w : World) (hB : Below B.heap.size B w) :
    Calls Tryd.prog 12 #[.agg #[.slice p s.left.length cap, .int .i64 (N : Nat), .int .i64 (s.err : Nat), .int .i64 (s.pos : Nat)], .int .i64 A, .int .i64 M] w fun e w' => (∃ p2 cap2, e = .returned (.agg #[.slice p2 s2.left.length cap2, .int .i64 (N : Nat), .int .i64 (s2.err : Nat), .int .i64 (s2.pos : Nat)]) ∧ IsSt B p2 cap2 s2.left) ∧ Below w.heap.size w w' := by
  refine (rlimit_any N s n m B p cap hv A M hA hM w hB).mono ?_
  rintro e w' ⟨rfl, hb⟩
  rw [h]
  exact ⟨⟨p, cap, rfl, by rw [← h, limit_left]; exact hv⟩, hb⟩
theorem rfail_c {N : Nat} {s : St} {c : Nat} {s2 : St} (h : rFail N s c = s2) (B : World) (p : Option Addr) (cap : Nat) (hv : IsSt B p cap s.left) (C : Int) (hC : C = (c : Nat)) (w : World) (hB : Below B.heap.size B w) :
    Calls Tryd.prog 20 #[.agg #[.slice p s.left.length cap, .int .i64 (N : Nat), .int .i64 (s.err : Nat), .int .i64 (s.pos : Nat)], .int .i64 C] w fun e w' => (∃ p2 cap2, e = .returned (.agg #[.slice p2 s2.left.length cap2, .int .i64 (N : Nat), .int .i64 (s2.err : Nat), .int .i64 (s2.pos : Nat)]) ∧ IsSt B p2 cap2 s2.left) ∧ Below w.heap.size w w' := by
  refine (rfail_any N s c B p cap hv C hC w hB).mono ?_
  rintro e w' ⟨rfl, hb⟩
  rw [h]
  exact ⟨⟨p, cap, rfl, by rw [← h, fail_left]; exact hv⟩, hb⟩
theorem ris_c {N : Nat} {s : St} {k : Nat} {x : List UInt8} {b : Bool} (h : rIs s k x = b) (B : World) (p : Option Addr) (cap : Nat) (hv : IsSt B p cap s.left) (K : Int) (hK : K = (k : Nat)) (w : World) (hB : Below B.heap.size B w) :
    Calls Tryd.prog 21 #[.agg #[.slice p s.left.length cap, .int .i64 (N : Nat), .int .i64 (s.err : Nat), .int .i64 (s.pos : Nat)], .int .i64 K, .string ⟨x.toArray⟩] w fun e w' => e = .returned (.bool b) ∧ Below w.heap.size w w' := by
  have := ris_any N s k x B p cap hv K hK w hB
  rw [h] at this
  exact this
theorem rkey_c {N : Nat} {s : St} {x : List UInt8} {b : Bool} (h : rKey s x = b) (B : World) (p : Option Addr) (cap : Nat) (hv : IsSt B p cap s.left) (w : World) (hB : Below B.heap.size B w) :
    Calls Tryd.prog 37 #[.agg #[.slice p s.left.length cap, .int .i64 (N : Nat), .int .i64 (s.err : Nat), .int .i64 (s.pos : Nat)], .string ⟨x.toArray⟩] w fun e w' => e = .returned (.bool b) ∧ Below w.heap.size w w' := by
  have := rkey_any N s x B p cap hv w hB
  rw [h] at this
  exact this
set_option maxRecDepth 100000 in
set_option maxHeartbeats 1000000 in
theorem rratio_c {N : Nat} {s : St} {y : Nat × Nat} {s9 : St} (h : rRatio N s = (y, s9)) (B : World) (p : Option Addr) (cap : Nat) (hv : IsSt B p cap s.left) (w : World) (hB : Below B.heap.size B w) :
    Calls Tryd.prog 24 #[.agg #[.slice p s.left.length cap, .int .i64 (N : Nat), .int .i64 (s.err : Nat), .int .i64 (s.pos : Nat)]] w fun e w' => (∃ p2 cap2, e = .returned (.tuple #[.agg #[.int .i64 (y.1 : Nat), .int .i64 (y.2 : Nat)], .agg #[.slice p2 s9.left.length cap2, .int .i64 (N : Nat), .int .i64 (s9.err : Nat), .int .i64 (s9.pos : Nat)]]) ∧ IsSt B p2 cap2 s9.left) ∧ Below w.heap.size w w' := by
  have HV := Lib.hid hv; have HB := Lib.hid hB
  clear hv hB
  obtain ⟨⟨a, s1⟩, h1⟩ : ∃ z, rTake N s 2 = z := ⟨_, rfl⟩
  obtain ⟨s2, h2⟩ : ∃ z, rWord N s1 wSlash = z := ⟨_, rfl⟩
  obtain ⟨⟨b, s3⟩, h3⟩ : ∃ z, rTake N s2 2 = z := ⟨_, rfl⟩
  unfold rRatio at h
  simp only [h1, h2, h3] at h
  injection h with e1 e2
  subst e1 e2
  dsimp only
  have N1 := Lib.hid h1; have N2 := Lib.hid h2; have N3 := Lib.hid h3
  clear h1 h2 h3
  go_enter Tryd.func24, Tryd.ntmps24
  go_upto_region 1 with fail
  obtain ⟨W1, hW1, bW1, sW1, k2_s, k2_x, k2_r⟩ : ∃ x, (((w.alloc (.cells #[.slice p s.left.length cap, .int .i64 (N : Nat), .int .i64 (s.err : Nat), .int .i64 (s.pos : Nat)] 45)).alloc (.cells #[.int .i64 0, .int .i64 0] 36)).alloc (.cells #[.slice none 0 0, .int .i64 0, .int .i64 0, .int .i64 0] 45)) = x ∧ Since w x ∧ w.heap.size + 1 + 1 + 1 ≤ x.heap.size ∧ Blk x (w.heap.size) 45 [.slice p s.left.length cap, .int .i64 (N : Nat), .int .i64 (s.err : Nat), .int .i64 (s.pos : Nat)] ∧ Blk x (w.heap.size + 1) 36 [.int .i64 0, .int .i64 0] ∧ Blk x (w.heap.size + 1 + 1) 45 [.slice none 0 0, .int .i64 0, .int .i64 0, .int .i64 0] := ⟨_, rfl, (Since.alloc (Since.alloc (Since.alloc (Since.refl w) _) _) _), by simp only [World.setCell, World.size_alloc, Array.size_modify, Nat.le_refl], (Blk.alloc (Blk.alloc (Blk.new' _ _ _ (rfl)) _) _), (Blk.alloc (Blk.new' _ _ _ (by simp only [World.size_alloc])) _), (Blk.new' _ _ _ (by simp only [World.size_alloc]))⟩
  rw [hW1]
  clear hW1
  have k_s := k2_s
  have k_x := k2_x
  have k_r := k2_r
  clear k2_s k2_x k2_r
  have q_s0 := k_s.cell (i := 0) rfl
  have q_s1 := k_s.cell (i := 1) rfl
  have q_s2 := k_s.cell (i := 2) rfl
  have q_s3 := k_s.cell (i := 3) rfl
  have q_sf := k_s.free
  go_wp2_with fail
  refine (rtake_c N1.out B p cap HV.out 2 rfl _ (HB.out.trans (bW1.mono HB.out.size))).mono ?_; rintro e W2 ⟨⟨p1, cap1, rfl, hs_⟩, hb⟩
  clear q_s0 q_s1 q_s2 q_s3 q_sf
  have sW2 := Nat.le_trans sW1 hb.size
  have bW2 := (bW1).call hb
  replace k_s := k_s.past hb
  replace k_x := k_x.past hb
  replace k_r := k_r.past hb
  clear hb bW1 sW1
  have HV1 := Lib.hid hs_
  clear hs_
  have q_s0 := (k_s.alloc (.cells #[.int .i64 (a.kind : Nat), .string ⟨a.text.toArray⟩, .int .i64 (a.val : Nat), .int .i64 (a.pos : Nat)] 54)).cell (i := 0) rfl
  have q_s1 := (k_s.alloc (.cells #[.int .i64 (a.kind : Nat), .string ⟨a.text.toArray⟩, .int .i64 (a.val : Nat), .int .i64 (a.pos : Nat)] 54)).cell (i := 1) rfl
  have q_s2 := (k_s.alloc (.cells #[.int .i64 (a.kind : Nat), .string ⟨a.text.toArray⟩, .int .i64 (a.val : Nat), .int .i64 (a.pos : Nat)] 54)).cell (i := 2) rfl
  have q_s3 := (k_s.alloc (.cells #[.int .i64 (a.kind : Nat), .string ⟨a.text.toArray⟩, .int .i64 (a.val : Nat), .int .i64 (a.pos : Nat)] 54)).cell (i := 3) rfl
  have q_sf := (k_s.alloc (.cells #[.int .i64 (a.kind : Nat), .string ⟨a.text.toArray⟩, .int .i64 (a.val : Nat), .int .i64 (a.pos : Nat)] 54)).free
  go_upto_region 2 with fail
  clear q_s0 q_s1 q_s2 q_s3 q_sf
  obtain ⟨W3, hW3, bW3, sW3, k2_s, k2_x, k2_r, k2_a⟩ : ∃ x, (((((W2.alloc (.cells #[.int .i64 (a.kind : Nat), .string ⟨a.text.toArray⟩, .int .i64 (a.val : Nat), .int .i64 (a.pos : Nat)] 54)).setCell ⟨w.heap.size, 0, none⟩ (.slice p1 s1.left.length cap1)).setCell ⟨w.heap.size, 1, none⟩ (.int .i64 (N : Nat))).setCell ⟨w.heap.size, 2, none⟩ (.int .i64 (s1.err : Nat))).setCell ⟨w.heap.size, 3, none⟩ (.int .i64 (s1.pos : Nat))) = x ∧ Since w x ∧ W2.heap.size + 1 ≤ x.heap.size ∧ Blk x (w.heap.size) 45 [.slice p1 s1.left.length cap1, .int .i64 (N : Nat), .int .i64 (s1.err : Nat), .int .i64 (s1.pos : Nat)] ∧ Blk x (w.heap.size + 1) 36 [.int .i64 0, .int .i64 0] ∧ Blk x (w.heap.size + 1 + 1) 45 [.slice none 0 0, .int .i64 0, .int .i64 0, .int .i64 0] ∧ Blk x (W2.heap.size) 54 [.int .i64 (a.kind : Nat), .string ⟨a.text.toArray⟩, .int .i64 (a.val : Nat), .int .i64 (a.pos : Nat)] := ⟨_, rfl, (Since.s4 (Since.alloc bW2 _) (by omega)), by simp only [World.setCell, World.size_alloc, Array.size_modify, Nat.le_refl], (Blk.cast (Blk.set (Blk.set (Blk.set (Blk.set (Blk.alloc k_s _) 0 _) 1 _) 2 _) 3 _) rfl), (Blk.o4 (Blk.alloc k_x _) (by omega)), (Blk.o4 (Blk.alloc k_r _) (by omega)), (Blk.o4 (Blk.new' _ _ _ (rfl)) (by omega))⟩
  rw [hW3]
  clear hW3 k_s k_x k_r
  have k_s := k2_s
  have k_x := k2_x
  have k_r := k2_r
  have k_a := k2_a
  clear k2_s k2_x k2_r k2_a
  have q_s0 := k_s.cell (i := 0) rfl
  have q_s1 := k_s.cell (i := 1) rfl
  have q_s2 := k_s.cell (i := 2) rfl
  have q_s3 := k_s.cell (i := 3) rfl
  have q_sf := k_s.free
  go_wp2_with fail
  refine (rword_c N2.out B p1 cap1 HV1.out  _ (HB.out.trans (bW3.mono HB.out.size))).mono ?_; rintro e W4 ⟨⟨p2, cap2, rfl, hs_⟩, hb⟩
  clear q_s0 q_s1 q_s2 q_s3 q_sf
  have sW4 := Nat.le_trans sW3 hb.size
  have bW4 := (bW3).call hb
  replace k_s := k_s.past hb
  replace k_x := k_x.past hb
  replace k_r := k_r.past hb
  replace k_a := k_a.past hb
  clear hb bW3 sW3
  have HV2 := Lib.hid hs_
  clear hs_
  have q_s0 := k_s.cell (i := 0) rfl
  have q_s1 := k_s.cell (i := 1) rfl
  have q_s2 := k_s.cell (i := 2) rfl
  have q_s3 := k_s.cell (i := 3) rfl
  have q_sf := k_s.free
  go_upto_region 3 with fail
  clear q_s0 q_s1 q_s2 q_s3 q_sf
  obtain ⟨W5, hW5, bW5, sW5, k2_s, k2_x, k2_r, k2_a⟩ : ∃ x, ((((W4.setCell ⟨w.heap.size, 0, none⟩ (.slice p2 s2.left.length cap2)).setCell ⟨w.heap.size, 1, none⟩ (.int .i64 (N : Nat))).setCell ⟨w.heap.size, 2, none⟩ (.int .i64 (s2.err : Nat))).setCell ⟨w.heap.size, 3, none⟩ (.int .i64 (s2.pos : Nat))) = x ∧ Since w x ∧ W4.heap.size ≤ x.heap.size ∧ Blk x (w.heap.size) 45 [.slice p2 s2.left.length cap2, .int .i64 (N : Nat), .int .i64 (s2.err : Nat), .int .i64 (s2.pos : Nat)] ∧ Blk x (w.heap.size + 1) 36 [.int .i64 0, .int .i64 0] ∧ Blk x (w.heap.size + 1 + 1) 45 [.slice none 0 0, .int .i64 0, .int .i64 0, .int .i64 0] ∧ Blk x (W2.heap.size) 54 [.int .i64 (a.kind : Nat), .string ⟨a.text.toArray⟩, .int .i64 (a.val : Nat), .int .i64 (a.pos : Nat)] := ⟨_, rfl, (Since.s4 bW4 (by omega)), by simp only [World.setCell, World.size_alloc, Array.size_modify, Nat.le_refl], (Blk.cast (Blk.set (Blk.set (Blk.set (Blk.set k_s 0 _) 1 _) 2 _) 3 _) rfl), (Blk.o4 k_x (by omega)), (Blk.o4 k_r (by omega)), (Blk.o4 k_a (by omega))⟩
  rw [hW5]
  clear hW5 k_s k_x k_r k_a
  have k_s := k2_s
  have k_x := k2_x
  have k_r := k2_r
  have k_a := k2_a
  clear k2_s k2_x k2_r k2_a
  have q_s0 := k_s.cell (i := 0) rfl
  have q_s1 := k_s.cell (i := 1) rfl
  have q_s2 := k_s.cell (i := 2) rfl
  have q_s3 := k_s.cell (i := 3) rfl
  have q_sf := k_s.free
  go_wp2_with fail
  refine (rtake_c N3.out B p2 cap2 HV2.out 2 rfl _ (HB.out.trans (bW5.mono HB.out.size))).mono ?_; rintro e W6 ⟨⟨p3, cap3, rfl, hs_⟩, hb⟩
  clear q_s0 q_s1 q_s2 q_s3 q_sf
  have sW6 := Nat.le_trans sW5 hb.size
  have bW6 := (bW5).call hb
  replace k_s := k_s.past hb
  replace k_x := k_x.past hb
  replace k_r := k_r.past hb
  replace k_a := k_a.past hb
  clear hb bW5 sW5
  have HV3 := Lib.hid hs_
  clear hs_
  have q_s0 := (k_s.alloc (.cells #[.int .i64 (b.kind : Nat), .string ⟨b.text.toArray⟩, .int .i64 (b.val : Nat), .int .i64 (b.pos : Nat)] 54)).cell (i := 0) rfl
  have q_s1 := (k_s.alloc (.cells #[.int .i64 (b.kind : Nat), .string ⟨b.text.toArray⟩, .int .i64 (b.val : Nat), .int .i64 (b.pos : Nat)] 54)).cell (i := 1) rfl
  have q_s2 := (k_s.alloc (.cells #[.int .i64 (b.kind : Nat), .string ⟨b.text.toArray⟩, .int .i64 (b.val : Nat), .int .i64 (b.pos : Nat)] 54)).cell (i := 2) rfl
  have q_s3 := (k_s.alloc (.cells #[.int .i64 (b.kind : Nat), .string ⟨b.text.toArray⟩, .int .i64 (b.val : Nat), .int .i64 (b.pos : Nat)] 54)).cell (i := 3) rfl
  have q_sf := (k_s.alloc (.cells #[.int .i64 (b.kind : Nat), .string ⟨b.text.toArray⟩, .int .i64 (b.val : Nat), .int .i64 (b.pos : Nat)] 54)).free
  go_upto_region 4 with fail
  clear q_s0 q_s1 q_s2 q_s3 q_sf
  obtain ⟨W7, hW7, bW7, sW7, k2_s, k2_x, k2_r, k2_a, k2_b⟩ : ∃ x, (((((W6.alloc (.cells #[.int .i64 (b.kind : Nat), .string ⟨b.text.toArray⟩, .int .i64 (b.val : Nat), .int .i64 (b.pos : Nat)] 54)).setCell ⟨w.heap.size, 0, none⟩ (.slice p3 s3.left.length cap3)).setCell ⟨w.heap.size, 1, none⟩ (.int .i64 (N : Nat))).setCell ⟨w.heap.size, 2, none⟩ (.int .i64 (s3.err : Nat))).setCell ⟨w.heap.size, 3, none⟩ (.int .i64 (s3.pos : Nat))) = x ∧ Since w x ∧ W6.heap.size + 1 ≤ x.heap.size ∧ Blk x (w.heap.size) 45 [.slice p3 s3.left.length cap3, .int .i64 (N : Nat), .int .i64 (s3.err : Nat), .int .i64 (s3.pos : Nat)] ∧ Blk x (w.heap.size + 1) 36 [.int .i64 0, .int .i64 0] ∧ Blk x (w.heap.size + 1 + 1) 45 [.slice none 0 0, .int .i64 0, .int .i64 0, .int .i64 0] ∧ Blk x (W2.heap.size) 54 [.int .i64 (a.kind : Nat), .string ⟨a.text.toArray⟩, .int .i64 (a.val : Nat), .int .i64 (a.pos : Nat)] ∧ Blk x (W6.heap.size) 54 [.int .i64 (b.kind : Nat), .string ⟨b.text.toArray⟩, .int .i64 (b.val : Nat), .int .i64 (b.pos : Nat)] := ⟨_, rfl, (Since.s4 (Since.alloc bW6 _) (by omega)), by simp only [World.setCell, World.size_alloc, Array.size_modify, Nat.le_refl], (Blk.cast (Blk.set (Blk.set (Blk.set (Blk.set (Blk.alloc k_s _) 0 _) 1 _) 2 _) 3 _) rfl), (Blk.o4 (Blk.alloc k_x _) (by omega)), (Blk.o4 (Blk.alloc k_r _) (by omega)), (Blk.o4 (Blk.alloc k_a _) (by omega)), (Blk.o4 (Blk.new' _ _ _ (rfl)) (by omega))⟩
  rw [hW7]
  clear hW7 k_s k_x k_r k_a
  have k_s := k2_s
  have k_x := k2_x
  have k_r := k2_r
  have k_a := k2_a
  have k_b := k2_b
  clear k2_s k2_x k2_r k2_a k2_b
  refine wp_region_any (by kernel_rfl) ?_
  refine Foyer.Round.any_of_held (S := fun W => Blk W (W2.heap.size) 54 [.int .i64 (a.kind : Nat), .string ⟨a.text.toArray⟩, .int .i64 (a.val : Nat), .int .i64 (a.pos : Nat)] ∧ Blk W (W6.heap.size) 54 [.int .i64 (b.kind : Nat), .string ⟨b.text.toArray⟩, .int .i64 (b.val : Nat), .int .i64 (b.pos : Nat)] ∧ Blk W (w.heap.size) 45 [.slice p3 s3.left.length cap3, .int .i64 (N : Nat), .int .i64 (s3.err : Nat), .int .i64 (s3.pos : Nat)]) (N := [7]) _ _ _ _ ?_
  change Foyer.Round.held _ _ _ _ _ _ _ _ _ W7.drew
  obtain ⟨W8, hW8⟩ : ∃ x, W7.drew = x := ⟨_, rfl⟩
  have bW8 : Since w W8 := by rw [← hW8]; exact Below.drew bW7
  have sW8 := sW7
  rw [show W7.heap.size = W8.heap.size from by rw [← hW8]; rfl] at sW8
  replace k_s : Blk W8 (w.heap.size) 45 [.slice p3 s3.left.length cap3, .int .i64 (N : Nat), .int .i64 (s3.err : Nat), .int .i64 (s3.pos : Nat)] := by rw [← hW8]; exact k_s
  replace k_x : Blk W8 (w.heap.size + 1) 36 [.int .i64 0, .int .i64 0] := by rw [← hW8]; exact k_x
  replace k_r : Blk W8 (w.heap.size + 1 + 1) 45 [.slice none 0 0, .int .i64 0, .int .i64 0, .int .i64 0] := by rw [← hW8]; exact k_r
  replace k_a : Blk W8 (W2.heap.size) 54 [.int .i64 (a.kind : Nat), .string ⟨a.text.toArray⟩, .int .i64 (a.val : Nat), .int .i64 (a.pos : Nat)] := by rw [← hW8]; exact k_a
  replace k_b : Blk W8 (W6.heap.size) 54 [.int .i64 (b.kind : Nat), .string ⟨b.text.toArray⟩, .int .i64 (b.val : Nat), .int .i64 (b.pos : Nat)] := by rw [← hW8]; exact k_b
  rw [hW8]
  clear hW8 bW7 sW7
  refine Foyer.Round.held_take [7] (i := 0) (v := .pointer (some ⟨W2.heap.size, 2, none⟩)) rfl (by kernel_rfl) (fun _ _ _ h => h) (Or.inl ⟨by rfl, fun w' hS => by go_simp⟩) (⟨k_a, k_b, k_s⟩) ?_
  try simp only [Act.put, List.setIfInBounds_toArray, List.set_cons_zero, List.set_cons_succ]
  refine Foyer.Round.held_take [7] (i := 1) (v := .int .i64 (a.val : Nat)) rfl (by kernel_rfl) (fun _ _ _ h => h) (Or.inl ⟨by rfl, fun w' hS => by have r_a0 := (show Blk _ _ _ _ from hS.1).cell (i := 0) rfl; have r_a1 := (show Blk _ _ _ _ from hS.1).cell (i := 1) rfl; have r_a2 := (show Blk _ _ _ _ from hS.1).cell (i := 2) rfl; have r_a3 := (show Blk _ _ _ _ from hS.1).cell (i := 3) rfl; go_simp⟩) (⟨k_a, k_b, k_s⟩) ?_
  try simp only [Act.put, List.setIfInBounds_toArray, List.set_cons_zero, List.set_cons_succ]
  refine Foyer.Round.held_take [7] (i := 2) (v := .pointer (some ⟨W6.heap.size, 2, none⟩)) rfl (by kernel_rfl) (fun _ _ _ h => h) (Or.inl ⟨by rfl, fun w' hS => by go_simp⟩) (⟨k_a, k_b, k_s⟩) ?_
  try simp only [Act.put, List.setIfInBounds_toArray, List.set_cons_zero, List.set_cons_succ]
  refine Foyer.Round.held_take [7] (i := 3) (v := .int .i64 (b.val : Nat)) rfl (by kernel_rfl) (fun _ _ _ h => h) (Or.inl ⟨by rfl, fun w' hS => by have r_b0 := (show Blk _ _ _ _ from hS.2.1).cell (i := 0) rfl; have r_b1 := (show Blk _ _ _ _ from hS.2.1).cell (i := 1) rfl; have r_b2 := (show Blk _ _ _ _ from hS.2.1).cell (i := 2) rfl; have r_b3 := (show Blk _ _ _ _ from hS.2.1).cell (i := 3) rfl; go_simp⟩) (⟨k_a, k_b, k_s⟩) ?_
  try simp only [Act.put, List.setIfInBounds_toArray, List.set_cons_zero, List.set_cons_succ]
  refine Foyer.Round.held_take [7] (i := 4) (v := .agg #[.int .i64 (a.val : Nat), .int .i64 (b.val : Nat)]) rfl (by kernel_rfl) (fun _ _ _ h => h) (Or.inl ⟨by rfl, fun w' hS => by go_simp⟩) (⟨k_a, k_b, k_s⟩) ?_
  try simp only [Act.put, List.setIfInBounds_toArray, List.set_cons_zero, List.set_cons_succ]
  refine Foyer.Round.held_take [7] (i := 5) (v := .agg #[.slice p3 s3.left.length cap3, .int .i64 (N : Nat), .int .i64 (s3.err : Nat), .int .i64 (s3.pos : Nat)]) rfl (by kernel_rfl) (fun _ _ _ h => h) (Or.inl ⟨by rfl, fun w' hS => by have r_s0 := (show Blk _ _ _ _ from hS.2.2).cell (i := 0) rfl; have r_s1 := (show Blk _ _ _ _ from hS.2.2).cell (i := 1) rfl; have r_s2 := (show Blk _ _ _ _ from hS.2.2).cell (i := 2) rfl; have r_s3 := (show Blk _ _ _ _ from hS.2.2).cell (i := 3) rfl; go_simp⟩) (⟨k_a, k_b, k_s⟩) ?_
  try simp only [Act.put, List.setIfInBounds_toArray, List.set_cons_zero, List.set_cons_succ]
  have q_x0 := k_x.cell (i := 0) rfl
  have q_x1 := k_x.cell (i := 1) rfl
  have q_xf := k_x.free
  refine Foyer.Round.held_one (i := 6) rfl (by kernel_rfl) (fun K hK => ?_)
  go_simp
  clear q_x0 q_x1 q_xf
  obtain ⟨W9, hW9, bW9, sW9, k2_s, k2_x, k2_r, k2_a, k2_b⟩ : ∃ x, ((W8.setCell ⟨w.heap.size + 1, 0, none⟩ (.int .i64 (a.val : Nat))).setCell ⟨w.heap.size + 1, 1, none⟩ (.int .i64 (b.val : Nat))) = x ∧ Since w x ∧ W8.heap.size ≤ x.heap.size ∧ Blk x (w.heap.size) 45 [.slice p3 s3.left.length cap3, .int .i64 (N : Nat), .int .i64 (s3.err : Nat), .int .i64 (s3.pos : Nat)] ∧ Blk x (w.heap.size + 1) 36 [.int .i64 (a.val : Nat), .int .i64 (b.val : Nat)] ∧ Blk x (w.heap.size + 1 + 1) 45 [.slice none 0 0, .int .i64 0, .int .i64 0, .int .i64 0] ∧ Blk x (W2.heap.size) 54 [.int .i64 (a.kind : Nat), .string ⟨a.text.toArray⟩, .int .i64 (a.val : Nat), .int .i64 (a.pos : Nat)] ∧ Blk x (W6.heap.size) 54 [.int .i64 (b.kind : Nat), .string ⟨b.text.toArray⟩, .int .i64 (b.val : Nat), .int .i64 (b.pos : Nat)] := ⟨_, rfl, (Since.s2 bW8 (by omega)), by simp only [World.setCell, World.size_alloc, Array.size_modify, Nat.le_refl], (Blk.o2 k_s (by omega)), (Blk.cast (Blk.set (Blk.set k_x 0 _) 1 _) rfl), (Blk.o2 k_r (by omega)), (Blk.o2 k_a (by omega)), (Blk.o2 k_b (by omega))⟩
  rw [hW9]
  clear hW9 k_s k_x k_r k_a k_b
  have k_s := k2_s
  have k_x := k2_x
  have k_r := k2_r
  have k_a := k2_a
  have k_b := k2_b
  clear k2_s k2_x k2_r k2_a k2_b
  refine hK.out _ _ (fun _ => ⟨k_a, k_b, k_s⟩) ?_
  clear hK K
  try simp only [Act.put, List.setIfInBounds_toArray, List.set_cons_zero, List.set_cons_succ]
  have q_r0 := k_r.cell (i := 0) rfl
  have q_r1 := k_r.cell (i := 1) rfl
  have q_r2 := k_r.cell (i := 2) rfl
  have q_r3 := k_r.cell (i := 3) rfl
  have q_rf := k_r.free
  refine Foyer.Round.held_one (i := 7) rfl (by kernel_rfl) (fun K hK => ?_)
  go_simp
  clear q_r0 q_r1 q_r2 q_r3 q_rf
  obtain ⟨W10, hW10, bW10, sW10, k2_s, k2_x, k2_r, k2_a, k2_b⟩ : ∃ x, ((((W9.setCell ⟨w.heap.size + 1 + 1, 0, none⟩ (.slice p3 s3.left.length cap3)).setCell ⟨w.heap.size + 1 + 1, 1, none⟩ (.int .i64 (N : Nat))).setCell ⟨w.heap.size + 1 + 1, 2, none⟩ (.int .i64 (s3.err : Nat))).setCell ⟨w.heap.size + 1 + 1, 3, none⟩ (.int .i64 (s3.pos : Nat))) = x ∧ Since w x ∧ W9.heap.size ≤ x.heap.size ∧ Blk x (w.heap.size) 45 [.slice p3 s3.left.length cap3, .int .i64 (N : Nat), .int .i64 (s3.err : Nat), .int .i64 (s3.pos : Nat)] ∧ Blk x (w.heap.size + 1) 36 [.int .i64 (a.val : Nat), .int .i64 (b.val : Nat)] ∧ Blk x (w.heap.size + 1 + 1) 45 [.slice p3 s3.left.length cap3, .int .i64 (N : Nat), .int .i64 (s3.err : Nat), .int .i64 (s3.pos : Nat)] ∧ Blk x (W2.heap.size) 54 [.int .i64 (a.kind : Nat), .string ⟨a.text.toArray⟩, .int .i64 (a.val : Nat), .int .i64 (a.pos : Nat)] ∧ Blk x (W6.heap.size) 54 [.int .i64 (b.kind : Nat), .string ⟨b.text.toArray⟩, .int .i64 (b.val : Nat), .int .i64 (b.pos : Nat)] := ⟨_, rfl, (Since.s4 bW9 (by omega)), by simp only [World.setCell, World.size_alloc, Array.size_modify, Nat.le_refl], (Blk.o4 k_s (by omega)), (Blk.o4 k_x (by omega)), (Blk.cast (Blk.set (Blk.set (Blk.set (Blk.set k_r 0 _) 1 _) 2 _) 3 _) rfl), (Blk.o4 k_a (by omega)), (Blk.o4 k_b (by omega))⟩
  rw [hW10]
  clear hW10 k_s k_x k_r k_a k_b
  have k_s := k2_s
  have k_x := k2_x
  have k_r := k2_r
  have k_a := k2_a
  have k_b := k2_b
  clear k2_s k2_x k2_r k2_a k2_b
  refine hK.out _ _ (fun _ => ⟨k_a, k_b, k_s⟩) ?_
  clear hK K
  try simp only [Act.put, List.setIfInBounds_toArray, List.set_cons_zero, List.set_cons_succ]
  refine Foyer.Round.held_done (by kernel_rfl) ?_ _
  go_wp2
  exact bodyPost_ret (results_two rfl _ _ (w.heap.size + 1) (w.heap.size + 1 + 1) _ _ _ _ rfl k_x.range Tryd.underlying36 rfl (by kernel_rfl) rfl k_r.range Tryd.underlying45 rfl (by kernel_rfl)) rfl ⟨⟨_, _, rfl, HV3.out⟩, bW10⟩
end Go.Proofs.YtlfjdohjfmfcdabDoor
