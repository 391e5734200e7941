/-
  The document's own reader of rules: what takes the next token, a word, a ratio.
-/
import Derived.Test.YtlfjdohjfmfcdabDoorRefSt7
import Derived.Test.YtlfjdohjfmfcdabDoorRound
namespace Go.Proofs.YtlfjdohjfmfcdabDoor
open Go.RowKit Go.Sort Foyer.Rule
set_option linter.unusedSimpArgs false

theorem fail_left (N : Nat) (s : St) (c : Nat) : (rFail N s c).left = s.left := by unfold rFail; split <;> rfl
theorem limit_left (N : Nat) (s : St) (n m : Nat) : (rLimit N s n m).left = s.left := by
  unfold rLimit
  split
  · exact fail_left _ _ _
  · rfl
set_option maxRecDepth 100000 in
theorem rkey_any (N : Nat) (s : St) (x : List UInt8) (B : World) (p : Option Addr) (cap : Nat) (hv : IsSt B p cap s.left) (w : World) (hB : Below B.heap.size B w) :
    Calls Tryd.prog 37 #[.agg #[.slice p s.left.length cap, .int .i64 (N : Nat), .int .i64 (s.err : Nat), .int .i64 (s.pos : Nat)], .string ⟨x.toArray⟩] w fun e w' => e = .returned (.bool (rKey s x)) ∧ Below w.heap.size w w' := by
  have HV := Lib.hid hv; have HB := Lib.hid hB
  have e1 : rKey s x = (rIs s 1 x || rIs s 3 x) := rfl
  rw [e1]
  clear hv hB e1
  obtain ⟨d1, hd1⟩ : ∃ z, rIs s 1 x = z := ⟨_, rfl⟩
  obtain ⟨d3, hd3⟩ : ∃ z, rIs s 3 x = z := ⟨_, rfl⟩
  rw [hd1, hd3]
  have Nd1 := Lib.hid hd1
  clear hd1
  have Nd3 := Lib.hid hd3
  clear hd3
  go_enter Tryd.func37, Tryd.ntmps37
  go_upto_region 1 with fail
  obtain ⟨W1, hW1, bW1, sW1, k2_s⟩ : ∃ x, (w.alloc (.cells #[.slice p s.left.length cap, .int .i64 (N : Nat), .int .i64 (s.err : Nat), .int .i64 (s.pos : Nat)] 45)) = x ∧ Since w x ∧ w.heap.size + 1 ≤ x.heap.size ∧ Blk x (w.heap.size) 45 [.slice p s.left.length cap, .int .i64 (N : Nat), .int .i64 (s.err : Nat), .int .i64 (s.pos : Nat)] := ⟨_, rfl, (Since.alloc (Since.refl w) _), by simp only [World.setCell, World.size_alloc, Array.size_modify, Nat.le_refl], (Blk.new' _ _ _ (rfl))⟩
  rw [hW1]
  clear hW1
  have k_s := k2_s
  clear k2_s
  have q_s0 := k_s.cell (i := 0) rfl
  have q_s1 := k_s.cell (i := 1) rfl
  have q_s2 := k_s.cell (i := 2) rfl
  have q_s3 := k_s.cell (i := 3) rfl
  have q_sf := k_s.free
  go_wp2_with fail
  refine (ris_any N s 1 x B p cap HV.out 1 rfl _ (HB.out.trans (bW1.mono HB.out.size))).mono ?_; rintro e W2 ⟨rfl, hb⟩
  clear q_s0 q_s1 q_s2 q_s3 q_sf
  have sW2 := Nat.le_trans sW1 hb.size
  have bW2 := (bW1).call hb
  replace k_s := k_s.past hb
  clear hb bW1 sW1
  rw [Nd1.out]
  have q_s0 := k_s.cell (i := 0) rfl
  have q_s1 := k_s.cell (i := 1) rfl
  have q_s2 := k_s.cell (i := 2) rfl
  have q_s3 := k_s.cell (i := 3) rfl
  have q_sf := k_s.free
  cases d1
  rotate_left
  · go_wp2
    exact bodyPost_ret (results_tmp rfl _ _ _) rfl ⟨by simp, bW2⟩
  · go_wp2_with fail
    refine (ris_any N s 3 x B p cap HV.out 3 rfl _ (HB.out.trans (bW2.mono HB.out.size))).mono ?_; rintro e W3 ⟨rfl, hb⟩
    clear q_s0 q_s1 q_s2 q_s3 q_sf
    have sW3 := Nat.le_trans sW2 hb.size
    have bW3 := (bW2).call hb
    replace k_s := k_s.past hb
    clear hb bW2 sW2
    rw [Nd3.out]
    go_wp2
    exact bodyPost_ret (results_tmp rfl _ _ _) rfl ⟨by simp, bW3⟩
set_option maxRecDepth 100000 in
theorem rlimit_any (N : Nat) (s : St) (n m : Nat) (B : World) (p : Option Addr) (cap : Nat) (hv : IsSt B p cap s.left) (A M : Int) (hA : A = (n : Nat)) (hM : M = (m : Nat)) (w : World) (hB : Below B.heap.size B w) :
    Calls Tryd.prog 12 #[.agg #[.slice p s.left.length cap, .int .i64 (N : Nat), .int .i64 (s.err : Nat), .int .i64 (s.pos : Nat)], .int .i64 A, .int .i64 M] w fun e w' => e = .returned (.agg #[.slice p (rLimit N s n m).left.length cap, .int .i64 (N : Nat), .int .i64 ((rLimit N s n m).err : Nat), .int .i64 ((rLimit N s n m).pos : Nat)]) ∧ Below w.heap.size w w' := by
  have HV := Lib.hid hv; have HB := Lib.hid hB
  subst hA hM
  clear hv hB
  by_cases h : n = m
  · have hd : (((n : Nat) : Int) == ((m : Nat) : Int)) = true := by simp [h]
    by_cases h0 : s.left = []
    · have e1 : rLimit N s n m = s := by unfold rLimit; rw [if_neg (fun k => k.2 h0)]
      rw [e1]
      have hn : s.left.length = 0 := by rw [h0]; rfl
      rw [hn]
      clear e1 h h0 HV hn
      go_enter Tryd.func12, Tryd.ntmps12
      go_upto_region 1 with fail
      obtain ⟨W1, hW1, bW1, sW1, k2_s, k2_r⟩ : ∃ x, ((w.alloc (.cells #[.slice p 0 cap, .int .i64 (N : Nat), .int .i64 (s.err : Nat), .int .i64 (s.pos : Nat)] 45)).alloc (.cells #[.slice none 0 0, .int .i64 0, .int .i64 0, .int .i64 0] 45)) = x ∧ Since w x ∧ w.heap.size + 1 + 1 ≤ x.heap.size ∧ Blk x (w.heap.size) 45 [.slice p 0 cap, .int .i64 (N : Nat), .int .i64 (s.err : Nat), .int .i64 (s.pos : Nat)] ∧ Blk x (w.heap.size + 1) 45 [.slice none 0 0, .int .i64 0, .int .i64 0, .int .i64 0] := ⟨_, rfl, (Since.alloc (Since.alloc (Since.refl w) _) _), by simp only [World.setCell, World.size_alloc, Array.size_modify, Nat.le_refl], (Blk.alloc (Blk.new' _ _ _ (rfl)) _), (Blk.new' _ _ _ (by simp only [World.size_alloc]))⟩
      rw [hW1]
      clear hW1
      have k_s := k2_s
      have k_r := k2_r
      clear k2_s k2_r
      have q_s0 := k_s.cell (i := 0) rfl
      have q_s1 := k_s.cell (i := 1) rfl
      have q_s2 := k_s.cell (i := 2) rfl
      have q_s3 := k_s.cell (i := 3) rfl
      have q_sf := k_s.free
      have q_r0 := k_r.cell (i := 0) rfl
      have q_r1 := k_r.cell (i := 1) rfl
      have q_r2 := k_r.cell (i := 2) rfl
      have q_r3 := k_r.cell (i := 3) rfl
      have q_rf := k_r.free
      go_wp2
      clear q_s0 q_s1 q_s2 q_s3 q_sf q_r0 q_r1 q_r2 q_r3 q_rf
      obtain ⟨W2, hW2, bW2, sW2, k2_s, k2_r⟩ : ∃ x, ((((W1.setCell ⟨w.heap.size + 1, 0, none⟩ (.slice p 0 cap)).setCell ⟨w.heap.size + 1, 1, none⟩ (.int .i64 (N : Nat))).setCell ⟨w.heap.size + 1, 2, none⟩ (.int .i64 (s.err : Nat))).setCell ⟨w.heap.size + 1, 3, none⟩ (.int .i64 (s.pos : Nat))) = x ∧ Since w x ∧ W1.heap.size ≤ x.heap.size ∧ Blk x (w.heap.size) 45 [.slice p 0 cap, .int .i64 (N : Nat), .int .i64 (s.err : Nat), .int .i64 (s.pos : Nat)] ∧ Blk x (w.heap.size + 1) 45 [.slice p 0 cap, .int .i64 (N : Nat), .int .i64 (s.err : Nat), .int .i64 (s.pos : Nat)] := ⟨_, rfl, (Since.s4 bW1 (by omega)), by simp only [World.setCell, World.size_alloc, Array.size_modify, Nat.le_refl], (Blk.o4 k_s (by omega)), (Blk.cast (Blk.set (Blk.set (Blk.set (Blk.set k_r 0 _) 1 _) 2 _) 3 _) rfl)⟩
      rw [hW2]
      clear hW2 k_s k_r
      have k_s := k2_s
      have k_r := k2_r
      clear k2_s k2_r
      exact bodyPost_ret (results_cell_mid rfl _ _ (w.heap.size + 1) _ _ rfl k_r.range Tryd.underlying45 rfl (by kernel_rfl)) rfl ⟨rfl, bW2⟩
    · have e1 : rLimit N s n m = rFail N s 3 := by unfold rLimit; rw [if_pos ⟨h, h0⟩]
      have hp : (0 : Int) < (s.left.length : Int) := by
        cases hl : s.left with
        | nil => exact absurd hl h0
        | cons t r => simp only [List.length_cons]; omega
      rw [e1]
      clear e1 h h0
      have HCF : Hid (∀ w1, Below w.heap.size w w1 → _) := Lib.hid fun w1 hb => rfail_any N s 3 B p cap HV.out 3 rfl w1 (HB.out.trans (hb.mono HB.out.size))
      obtain ⟨f, hf⟩ : ∃ z, rFail N s 3 = z := ⟨_, rfl⟩
      rw [hf] at HCF ⊢
      clear hf
      obtain ⟨nl, hnl⟩ : ∃ z, s.left.length = z := ⟨_, rfl⟩
      rw [hnl] at HCF hp ⊢
      clear hnl
      go_enter Tryd.func12, Tryd.ntmps12
      go_upto_region 1 with fail
      obtain ⟨W1, hW1, bW1, sW1, k2_s, k2_r⟩ : ∃ x, ((w.alloc (.cells #[.slice p nl cap, .int .i64 (N : Nat), .int .i64 (s.err : Nat), .int .i64 (s.pos : Nat)] 45)).alloc (.cells #[.slice none 0 0, .int .i64 0, .int .i64 0, .int .i64 0] 45)) = x ∧ Since w x ∧ w.heap.size + 1 + 1 ≤ x.heap.size ∧ Blk x (w.heap.size) 45 [.slice p nl cap, .int .i64 (N : Nat), .int .i64 (s.err : Nat), .int .i64 (s.pos : Nat)] ∧ Blk x (w.heap.size + 1) 45 [.slice none 0 0, .int .i64 0, .int .i64 0, .int .i64 0] := ⟨_, rfl, (Since.alloc (Since.alloc (Since.refl w) _) _), by simp only [World.setCell, World.size_alloc, Array.size_modify, Nat.le_refl], (Blk.alloc (Blk.new' _ _ _ (rfl)) _), (Blk.new' _ _ _ (by simp only [World.size_alloc]))⟩
      rw [hW1]
      clear hW1
      have k_s := k2_s
      have k_r := k2_r
      clear k2_s k2_r
      have q_s0 := k_s.cell (i := 0) rfl
      have q_s1 := k_s.cell (i := 1) rfl
      have q_s2 := k_s.cell (i := 2) rfl
      have q_s3 := k_s.cell (i := 3) rfl
      have q_sf := k_s.free
      have q_r0 := k_r.cell (i := 0) rfl
      have q_r1 := k_r.cell (i := 1) rfl
      have q_r2 := k_r.cell (i := 2) rfl
      have q_r3 := k_r.cell (i := 3) rfl
      have q_rf := k_r.free
      go_wp2_with fail
      refine (HCF.out _ bW1).mono ?_; rintro e W2 ⟨rfl, hb⟩
      clear q_s0 q_s1 q_s2 q_s3 q_sf q_r0 q_r1 q_r2 q_r3 q_rf
      have sW2 := Nat.le_trans sW1 hb.size
      have bW2 := (bW1).call hb
      replace k_s := k_s.past hb
      replace k_r := k_r.past hb
      clear hb bW1 sW1
      have q_s0 := k_s.cell (i := 0) rfl
      have q_s1 := k_s.cell (i := 1) rfl
      have q_s2 := k_s.cell (i := 2) rfl
      have q_s3 := k_s.cell (i := 3) rfl
      have q_sf := k_s.free
      have q_r0 := k_r.cell (i := 0) rfl
      have q_r1 := k_r.cell (i := 1) rfl
      have q_r2 := k_r.cell (i := 2) rfl
      have q_r3 := k_r.cell (i := 3) rfl
      have q_rf := k_r.free
      go_wp2
      clear q_s0 q_s1 q_s2 q_s3 q_sf q_r0 q_r1 q_r2 q_r3 q_rf
      obtain ⟨W3, hW3, bW3, sW3, k2_s, k2_r⟩ : ∃ x, ((((W2.setCell ⟨w.heap.size + 1, 0, none⟩ (.slice p f.left.length cap)).setCell ⟨w.heap.size + 1, 1, none⟩ (.int .i64 (N : Nat))).setCell ⟨w.heap.size + 1, 2, none⟩ (.int .i64 (f.err : Nat))).setCell ⟨w.heap.size + 1, 3, none⟩ (.int .i64 (f.pos : Nat))) = x ∧ Since w x ∧ W2.heap.size ≤ x.heap.size ∧ Blk x (w.heap.size) 45 [.slice p nl cap, .int .i64 (N : Nat), .int .i64 (s.err : Nat), .int .i64 (s.pos : Nat)] ∧ Blk x (w.heap.size + 1) 45 [.slice p f.left.length cap, .int .i64 (N : Nat), .int .i64 (f.err : Nat), .int .i64 (f.pos : Nat)] := ⟨_, rfl, (Since.s4 bW2 (by omega)), by simp only [World.setCell, World.size_alloc, Array.size_modify, Nat.le_refl], (Blk.o4 k_s (by omega)), (Blk.cast (Blk.set (Blk.set (Blk.set (Blk.set k_r 0 _) 1 _) 2 _) 3 _) rfl)⟩
      rw [hW3]
      clear hW3 k_s k_r
      have k_s := k2_s
      have k_r := k2_r
      clear k2_s k2_r
      exact bodyPost_ret (results_cell_mid rfl _ _ (w.heap.size + 1) _ _ rfl k_r.range Tryd.underlying45 rfl (by kernel_rfl)) rfl ⟨rfl, bW3⟩
  · have hd : (((n : Nat) : Int) == ((m : Nat) : Int)) = false := by simp; omega
    have e1 : rLimit N s n m = s := by unfold rLimit; rw [if_neg (fun k => h k.1)]
    rw [e1]
    clear e1 h
    go_enter Tryd.func12, Tryd.ntmps12
    go_upto_region 1 with fail
    obtain ⟨W1, hW1, bW1, sW1, k2_s, k2_r⟩ : ∃ x, ((w.alloc (.cells #[.slice p s.left.length cap, .int .i64 (N : Nat), .int .i64 (s.err : Nat), .int .i64 (s.pos : Nat)] 45)).alloc (.cells #[.slice none 0 0, .int .i64 0, .int .i64 0, .int .i64 0] 45)) = x ∧ Since w x ∧ w.heap.size + 1 + 1 ≤ x.heap.size ∧ Blk x (w.heap.size) 45 [.slice p s.left.length cap, .int .i64 (N : Nat), .int .i64 (s.err : Nat), .int .i64 (s.pos : Nat)] ∧ Blk x (w.heap.size + 1) 45 [.slice none 0 0, .int .i64 0, .int .i64 0, .int .i64 0] := ⟨_, rfl, (Since.alloc (Since.alloc (Since.refl w) _) _), by simp only [World.setCell, World.size_alloc, Array.size_modify, Nat.le_refl], (Blk.alloc (Blk.new' _ _ _ (rfl)) _), (Blk.new' _ _ _ (by simp only [World.size_alloc]))⟩
    rw [hW1]
    clear hW1
    have k_s := k2_s
    have k_r := k2_r
    clear k2_s k2_r
    have q_s0 := k_s.cell (i := 0) rfl
    have q_s1 := k_s.cell (i := 1) rfl
    have q_s2 := k_s.cell (i := 2) rfl
    have q_s3 := k_s.cell (i := 3) rfl
    have q_sf := k_s.free
    have q_r0 := k_r.cell (i := 0) rfl
    have q_r1 := k_r.cell (i := 1) rfl
    have q_r2 := k_r.cell (i := 2) rfl
    have q_r3 := k_r.cell (i := 3) rfl
    have q_rf := k_r.free
    go_wp2
    clear q_s0 q_s1 q_s2 q_s3 q_sf q_r0 q_r1 q_r2 q_r3 q_rf
    obtain ⟨W2, hW2, bW2, sW2, k2_s, k2_r⟩ : ∃ x, ((((W1.setCell ⟨w.heap.size + 1, 0, none⟩ (.slice p s.left.length cap)).setCell ⟨w.heap.size + 1, 1, none⟩ (.int .i64 (N : Nat))).setCell ⟨w.heap.size + 1, 2, none⟩ (.int .i64 (s.err : Nat))).setCell ⟨w.heap.size + 1, 3, none⟩ (.int .i64 (s.pos : Nat))) = x ∧ Since w x ∧ W1.heap.size ≤ x.heap.size ∧ Blk x (w.heap.size) 45 [.slice p s.left.length cap, .int .i64 (N : Nat), .int .i64 (s.err : Nat), .int .i64 (s.pos : Nat)] ∧ Blk x (w.heap.size + 1) 45 [.slice p s.left.length cap, .int .i64 (N : Nat), .int .i64 (s.err : Nat), .int .i64 (s.pos : Nat)] := ⟨_, rfl, (Since.s4 bW1 (by omega)), by simp only [World.setCell, World.size_alloc, Array.size_modify, Nat.le_refl], (Blk.o4 k_s (by omega)), (Blk.cast (Blk.set (Blk.set (Blk.set (Blk.set k_r 0 _) 1 _) 2 _) 3 _) rfl)⟩
    rw [hW2]
    clear hW2 k_s k_r
    have k_s := k2_s
    have k_r := k2_r
    clear k2_s k2_r
    exact bodyPost_ret (results_cell_mid rfl _ _ (w.heap.size + 1) _ _ rfl k_r.range Tryd.underlying45 rfl (by kernel_rfl)) rfl ⟨rfl, bW2⟩
set_option maxRecDepth 100000 in
theorem rword_any (N : Nat) (s : St) (x : List UInt8) (B : World) (p : Option Addr) (cap : Nat) (hv : IsSt B p cap s.left) (w : World) (hB : Below B.heap.size B w) :
    Calls Tryd.prog 23 #[.agg #[.slice p s.left.length cap, .int .i64 (N : Nat), .int .i64 (s.err : Nat), .int .i64 (s.pos : Nat)], .string ⟨x.toArray⟩] w fun e w' => (∃ p2 cap2, e = .returned (.agg #[.slice p2 (rWord N s x).left.length cap2, .int .i64 (N : Nat), .int .i64 ((rWord N s x).err : Nat), .int .i64 ((rWord N s x).pos : Nat)]) ∧ IsSt B p2 cap2 (rWord N s x).left) ∧ Below w.heap.size w w' := by
  have HV := Lib.hid hv; have HB := Lib.hid hB
  by_cases hk : rKey s x = true
  · have e1 : rWord N s x = rNext s := by unfold rWord; rw [if_pos hk]
    obtain ⟨t, r, hl⟩ : ∃ t r, s.left = t :: r := by
      unfold rKey at hk
      rcases Bool.or_eq_true_iff.1 hk with h | h
      all_goals
        obtain ⟨_, t, r, hl, _⟩ := rIs_true h
        exact ⟨t, r, hl⟩
    have hv' := hv
    rw [hl] at hv'
    obtain ⟨b, off, rfl, hc, hm, hb, ht⟩ := hv'.head hB
    have e2 : rNext s = ⟨r, s.err, s.pos⟩ := by unfold rNext; rw [hl]; rfl
    have HL2 : Hid (s.left.length = r.length + 1) := Lib.hid (by rw [hl]; rfl)
    rw [e1, e2]
    dsimp only
    clear hv hB e1 e2 ht hl
    have HK := Lib.hid hk; have HV' := Lib.hid hv'
    clear hk hv'
    have hcap1 : ¬ (cap : Int) < 1 := by omega
    clear hc
    go_enter Tryd.func23, Tryd.ntmps23
    go_upto_region 1 with fail
    obtain ⟨W1, hW1, bW1, sW1, k2_s, k2_r⟩ : ∃ x, ((w.alloc (.cells #[.slice (some ⟨b, off, none⟩) s.left.length cap, .int .i64 (N : Nat), .int .i64 (s.err : Nat), .int .i64 (s.pos : Nat)] 45)).alloc (.cells #[.slice none 0 0, .int .i64 0, .int .i64 0, .int .i64 0] 45)) = x ∧ Since w x ∧ w.heap.size + 1 + 1 ≤ x.heap.size ∧ Blk x (w.heap.size) 45 [.slice (some ⟨b, off, none⟩) s.left.length cap, .int .i64 (N : Nat), .int .i64 (s.err : Nat), .int .i64 (s.pos : Nat)] ∧ Blk x (w.heap.size + 1) 45 [.slice none 0 0, .int .i64 0, .int .i64 0, .int .i64 0] := ⟨_, rfl, (Since.alloc (Since.alloc (Since.refl w) _) _), by simp only [World.setCell, World.size_alloc, Array.size_modify, Nat.le_refl], (Blk.alloc (Blk.new' _ _ _ (rfl)) _), (Blk.new' _ _ _ (by simp only [World.size_alloc]))⟩
    rw [hW1]
    clear hW1
    have k_s := k2_s
    have k_r := k2_r
    clear k2_s k2_r
    have q_s0 := k_s.cell (i := 0) rfl
    have q_s1 := k_s.cell (i := 1) rfl
    have q_s2 := k_s.cell (i := 2) rfl
    have q_s3 := k_s.cell (i := 3) rfl
    have q_sf := k_s.free
    have q_r0 := k_r.cell (i := 0) rfl
    have q_r1 := k_r.cell (i := 1) rfl
    have q_r2 := k_r.cell (i := 2) rfl
    have q_r3 := k_r.cell (i := 3) rfl
    have q_rf := k_r.free
    go_wp2_with fail
    refine (rkey_any N s x B _ cap HV.out _ (HB.out.trans (bW1.mono HB.out.size))).mono ?_; rintro e W2 ⟨rfl, hb⟩
    clear q_s0 q_s1 q_s2 q_s3 q_sf q_r0 q_r1 q_r2 q_r3 q_rf
    have sW2 := Nat.le_trans sW1 hb.size
    have bW2 := (bW1).call hb
    replace k_s := k_s.past hb
    replace k_r := k_r.past hb
    clear hb bW1 sW1
    rw [HK.out]
    rw [HL2.out] at k_s
    have q_s0 := k_s.cell (i := 0) rfl
    have q_s1 := k_s.cell (i := 1) rfl
    have q_s2 := k_s.cell (i := 2) rfl
    have q_s3 := k_s.cell (i := 3) rfl
    have q_sf := k_s.free
    have q_r0 := k_r.cell (i := 0) rfl
    have q_r1 := k_r.cell (i := 1) rfl
    have q_r2 := k_r.cell (i := 2) rfl
    have q_r3 := k_r.cell (i := 3) rfl
    have q_rf := k_r.free
    by_cases hc1 : cap = 1
    · subst hc1
      go_wp2
      clear q_s0 q_s1 q_s2 q_s3 q_sf q_r0 q_r1 q_r2 q_r3 q_rf
      obtain ⟨W3, hW3, bW3, sW3, k2_s, k2_r⟩ : ∃ x, (((((W2.setCell ⟨w.heap.size, 0, none⟩ (.slice (some ⟨b, off, none⟩) r.length 0)).setCell ⟨w.heap.size + 1, 0, none⟩ (.slice (some ⟨b, off, none⟩) r.length 0)).setCell ⟨w.heap.size + 1, 1, none⟩ (.int .i64 (N : Nat))).setCell ⟨w.heap.size + 1, 2, none⟩ (.int .i64 (s.err : Nat))).setCell ⟨w.heap.size + 1, 3, none⟩ (.int .i64 (s.pos : Nat))) = x ∧ Since w x ∧ W2.heap.size ≤ x.heap.size ∧ Blk x (w.heap.size) 45 [.slice (some ⟨b, off, none⟩) r.length 0, .int .i64 (N : Nat), .int .i64 (s.err : Nat), .int .i64 (s.pos : Nat)] ∧ Blk x (w.heap.size + 1) 45 [.slice (some ⟨b, off, none⟩) r.length 0, .int .i64 (N : Nat), .int .i64 (s.err : Nat), .int .i64 (s.pos : Nat)] := ⟨_, rfl, (Since.s4 (Since.s1 bW2 (by omega)) (by omega)), by simp only [World.setCell, World.size_alloc, Array.size_modify, Nat.le_refl], (Blk.o4 (Blk.cast (Blk.set k_s 0 _) rfl) (by omega)), (Blk.cast (Blk.set (Blk.set (Blk.set (Blk.set (Blk.o1 k_r (by omega)) 0 _) 1 _) 2 _) 3 _) rfl)⟩
      rw [hW3]
      clear hW3 k_s k_r
      have k_s := k2_s
      have k_r := k2_r
      clear k2_s k2_r
      exact bodyPost_ret (results_cell_mid rfl _ _ (w.heap.size + 1) _ _ rfl k_r.range Tryd.underlying45 rfl (by kernel_rfl)) rfl ⟨⟨_, _, rfl, HV'.out.last.2⟩, bW3⟩
    · go_wp2
      clear q_s0 q_s1 q_s2 q_s3 q_sf q_r0 q_r1 q_r2 q_r3 q_rf
      obtain ⟨W3, hW3, bW3, sW3, k2_s, k2_r⟩ : ∃ x, (((((W2.setCell ⟨w.heap.size, 0, none⟩ (.slice (some ⟨b, off + 4, none⟩) r.length (cap - 1))).setCell ⟨w.heap.size + 1, 0, none⟩ (.slice (some ⟨b, off + 4, none⟩) r.length (cap - 1))).setCell ⟨w.heap.size + 1, 1, none⟩ (.int .i64 (N : Nat))).setCell ⟨w.heap.size + 1, 2, none⟩ (.int .i64 (s.err : Nat))).setCell ⟨w.heap.size + 1, 3, none⟩ (.int .i64 (s.pos : Nat))) = x ∧ Since w x ∧ W2.heap.size ≤ x.heap.size ∧ Blk x (w.heap.size) 45 [.slice (some ⟨b, off + 4, none⟩) r.length (cap - 1), .int .i64 (N : Nat), .int .i64 (s.err : Nat), .int .i64 (s.pos : Nat)] ∧ Blk x (w.heap.size + 1) 45 [.slice (some ⟨b, off + 4, none⟩) r.length (cap - 1), .int .i64 (N : Nat), .int .i64 (s.err : Nat), .int .i64 (s.pos : Nat)] := ⟨_, rfl, (Since.s4 (Since.s1 bW2 (by omega)) (by omega)), by simp only [World.setCell, World.size_alloc, Array.size_modify, Nat.le_refl], (Blk.o4 (Blk.cast (Blk.set k_s 0 _) rfl) (by omega)), (Blk.cast (Blk.set (Blk.set (Blk.set (Blk.set (Blk.o1 k_r (by omega)) 0 _) 1 _) 2 _) 3 _) rfl)⟩
      rw [hW3]
      clear hW3 k_s k_r
      have k_s := k2_s
      have k_r := k2_r
      clear k2_s k2_r
      exact bodyPost_ret (results_cell_mid rfl _ _ (w.heap.size + 1) _ _ rfl k_r.range Tryd.underlying45 rfl (by kernel_rfl)) rfl ⟨⟨_, _, rfl, HV'.out.tail⟩, bW3⟩
  · have e1 : rWord N s x = rFail N s 4 := by unfold rWord; rw [if_neg hk]
    have hk2 : rKey s x = false := by simpa using hk
    have hfl := fail_left N s 4
    rw [e1]
    clear hv hB e1 hk
    have HK := Lib.hid hk2
    clear hk2
    obtain ⟨f, hf⟩ : ∃ z, rFail N s 4 = z := ⟨_, rfl⟩
    rw [hf] at hfl ⊢
    have HVF := Lib.hid (show IsSt B p cap f.left from by rw [hfl]; exact HV.out)
    clear hfl
    have Nf := Lib.hid hf
    clear hf
    go_enter Tryd.func23, Tryd.ntmps23
    go_upto_region 1 with fail
    obtain ⟨W1, hW1, bW1, sW1, k2_s, k2_r⟩ : ∃ x, ((w.alloc (.cells #[.slice p s.left.length cap, .int .i64 (N : Nat), .int .i64 (s.err : Nat), .int .i64 (s.pos : Nat)] 45)).alloc (.cells #[.slice none 0 0, .int .i64 0, .int .i64 0, .int .i64 0] 45)) = x ∧ Since w x ∧ w.heap.size + 1 + 1 ≤ x.heap.size ∧ Blk x (w.heap.size) 45 [.slice p s.left.length cap, .int .i64 (N : Nat), .int .i64 (s.err : Nat), .int .i64 (s.pos : Nat)] ∧ Blk x (w.heap.size + 1) 45 [.slice none 0 0, .int .i64 0, .int .i64 0, .int .i64 0] := ⟨_, rfl, (Since.alloc (Since.alloc (Since.refl w) _) _), by simp only [World.setCell, World.size_alloc, Array.size_modify, Nat.le_refl], (Blk.alloc (Blk.new' _ _ _ (rfl)) _), (Blk.new' _ _ _ (by simp only [World.size_alloc]))⟩
    rw [hW1]
    clear hW1
    have k_s := k2_s
    have k_r := k2_r
    clear k2_s k2_r
    have q_s0 := k_s.cell (i := 0) rfl
    have q_s1 := k_s.cell (i := 1) rfl
    have q_s2 := k_s.cell (i := 2) rfl
    have q_s3 := k_s.cell (i := 3) rfl
    have q_sf := k_s.free
    have q_r0 := k_r.cell (i := 0) rfl
    have q_r1 := k_r.cell (i := 1) rfl
    have q_r2 := k_r.cell (i := 2) rfl
    have q_r3 := k_r.cell (i := 3) rfl
    have q_rf := k_r.free
    go_wp2_with fail
    refine (rkey_any N s x B _ cap HV.out _ (HB.out.trans (bW1.mono HB.out.size))).mono ?_; rintro e W2 ⟨rfl, hb⟩
    clear q_s0 q_s1 q_s2 q_s3 q_sf q_r0 q_r1 q_r2 q_r3 q_rf
    have sW2 := Nat.le_trans sW1 hb.size
    have bW2 := (bW1).call hb
    replace k_s := k_s.past hb
    replace k_r := k_r.past hb
    clear hb bW1 sW1
    rw [HK.out]
    have q_s0 := k_s.cell (i := 0) rfl
    have q_s1 := k_s.cell (i := 1) rfl
    have q_s2 := k_s.cell (i := 2) rfl
    have q_s3 := k_s.cell (i := 3) rfl
    have q_sf := k_s.free
    have q_r0 := k_r.cell (i := 0) rfl
    have q_r1 := k_r.cell (i := 1) rfl
    have q_r2 := k_r.cell (i := 2) rfl
    have q_r3 := k_r.cell (i := 3) rfl
    have q_rf := k_r.free
    go_wp2_with fail
    refine (rfail_any N s 4 B p cap HV.out 4 rfl _ (HB.out.trans (bW2.mono HB.out.size))).mono ?_; rintro e W3 ⟨rfl, hb⟩
    clear q_s0 q_s1 q_s2 q_s3 q_sf q_r0 q_r1 q_r2 q_r3 q_rf
    have sW3 := Nat.le_trans sW2 hb.size
    have bW3 := (bW2).call hb
    replace k_s := k_s.past hb
    replace k_r := k_r.past hb
    clear hb bW2 sW2
    rw [Nf.out]
    have q_s0 := k_s.cell (i := 0) rfl
    have q_s1 := k_s.cell (i := 1) rfl
    have q_s2 := k_s.cell (i := 2) rfl
    have q_s3 := k_s.cell (i := 3) rfl
    have q_sf := k_s.free
    have q_r0 := k_r.cell (i := 0) rfl
    have q_r1 := k_r.cell (i := 1) rfl
    have q_r2 := k_r.cell (i := 2) rfl
    have q_r3 := k_r.cell (i := 3) rfl
    have q_rf := k_r.free
    go_wp2
    clear q_s0 q_s1 q_s2 q_s3 q_sf q_r0 q_r1 q_r2 q_r3 q_rf
    obtain ⟨W4, hW4, bW4, sW4, k2_s, k2_r⟩ : ∃ x, ((((W3.setCell ⟨w.heap.size + 1, 0, none⟩ (.slice p f.left.length cap)).setCell ⟨w.heap.size + 1, 1, none⟩ (.int .i64 (N : Nat))).setCell ⟨w.heap.size + 1, 2, none⟩ (.int .i64 (f.err : Nat))).setCell ⟨w.heap.size + 1, 3, none⟩ (.int .i64 (f.pos : Nat))) = x ∧ Since w x ∧ W3.heap.size ≤ x.heap.size ∧ Blk x (w.heap.size) 45 [.slice p s.left.length cap, .int .i64 (N : Nat), .int .i64 (s.err : Nat), .int .i64 (s.pos : Nat)] ∧ Blk x (w.heap.size + 1) 45 [.slice p f.left.length cap, .int .i64 (N : Nat), .int .i64 (f.err : Nat), .int .i64 (f.pos : Nat)] := ⟨_, rfl, (Since.s4 bW3 (by omega)), by simp only [World.setCell, World.size_alloc, Array.size_modify, Nat.le_refl], (Blk.o4 k_s (by omega)), (Blk.cast (Blk.set (Blk.set (Blk.set (Blk.set k_r 0 _) 1 _) 2 _) 3 _) rfl)⟩
    rw [hW4]
    clear hW4 k_s k_r
    have k_s := k2_s
    have k_r := k2_r
    clear k2_s k2_r
    exact bodyPost_ret (results_cell_mid rfl _ _ (w.heap.size + 1) _ _ rfl k_r.range Tryd.underlying45 rfl (by kernel_rfl)) rfl ⟨⟨_, _, rfl, HVF.out⟩, bW4⟩
set_option maxRecDepth 100000 in
theorem rtake_any (N : Nat) (s : St) (k : Nat) (B : World) (p : Option Addr) (cap : Nat) (hv : IsSt B p cap s.left) (K : Int) (hK : K = (k : Nat)) (w : World) (hB : Below B.heap.size B w) :
    Calls Tryd.prog 22 #[.agg #[.slice p s.left.length cap, .int .i64 (N : Nat), .int .i64 (s.err : Nat), .int .i64 (s.pos : Nat)], .int .i64 K] w fun e w' => (∃ p2 cap2, e = .returned (.tuple #[.agg #[.int .i64 ((rTake N s k).1.kind : Nat), .string ⟨(rTake N s k).1.text.toArray⟩, .int .i64 ((rTake N s k).1.val : Nat), .int .i64 ((rTake N s k).1.pos : Nat)], .agg #[.slice p2 (rTake N s k).2.left.length cap2, .int .i64 (N : Nat), .int .i64 ((rTake N s k).2.err : Nat), .int .i64 ((rTake N s k).2.pos : Nat)]]) ∧ IsSt B p2 cap2 (rTake N s k).2.left) ∧ Below w.heap.size w w' := by
  have HV := Lib.hid hv; have HB := Lib.hid hB
  subst hK
  by_cases hk : rIs s k [] = true
  · obtain ⟨-, t, r, hl, -⟩ := rIs_true hk
    have e1 : rTake N s k = (t, ⟨r, s.err, s.pos⟩) := by unfold rTake rNext; rw [if_pos hk, hl]; rfl
    have hv' := hv
    rw [hl] at hv'
    obtain ⟨b, off, rfl, hc, hm, hb, ht⟩ := hv'.head hB
    have HL2 : Hid (s.left.length = r.length + 1) := Lib.hid (by rw [hl]; rfl)
    have hbw : b < w.heap.size := Nat.lt_of_lt_of_le hb hB.size
    rw [e1]
    dsimp only
    clear hv hB e1 hl
    have HK := Lib.hid hk; have HV' := Lib.hid hv'; have HT := Lib.hid ht
    clear hk hv' ht
    have hcap1 : ¬ (cap : Int) < 1 := by omega
    clear hc
    have hpos : (0 : Int) < (r.length : Int) + 1 := by omega
    go_enter Tryd.func22, Tryd.ntmps22
    go_upto_region 1 with fail
    obtain ⟨W1, hW1, bW1, sW1, k2_s, k2_t, k2_r⟩ : ∃ x, (((w.alloc (.cells #[.slice (some ⟨b, off, none⟩) s.left.length cap, .int .i64 (N : Nat), .int .i64 (s.err : Nat), .int .i64 (s.pos : Nat)] 45)).alloc (.cells #[.int .i64 0, .string ⟨#[]⟩, .int .i64 0, .int .i64 0] 54)).alloc (.cells #[.slice none 0 0, .int .i64 0, .int .i64 0, .int .i64 0] 45)) = x ∧ Since w x ∧ w.heap.size + 1 + 1 + 1 ≤ x.heap.size ∧ Blk x (w.heap.size) 45 [.slice (some ⟨b, off, none⟩) s.left.length cap, .int .i64 (N : Nat), .int .i64 (s.err : Nat), .int .i64 (s.pos : Nat)] ∧ Blk x (w.heap.size + 1) 54 [.int .i64 0, .string ⟨#[]⟩, .int .i64 0, .int .i64 0] ∧ Blk x (w.heap.size + 1 + 1) 45 [.slice none 0 0, .int .i64 0, .int .i64 0, .int .i64 0] := ⟨_, rfl, (Since.alloc (Since.alloc (Since.alloc (Since.refl w) _) _) _), by simp only [World.setCell, World.size_alloc, Array.size_modify, Nat.le_refl], (Blk.alloc (Blk.alloc (Blk.new' _ _ _ (rfl)) _) _), (Blk.alloc (Blk.new' _ _ _ (by simp only [World.size_alloc])) _), (Blk.new' _ _ _ (by simp only [World.size_alloc]))⟩
    rw [hW1]
    clear hW1
    have k_s := k2_s
    have k_t := k2_t
    have k_r := k2_r
    clear k2_s k2_t k2_r
    have q_s0 := k_s.cell (i := 0) rfl
    have q_s1 := k_s.cell (i := 1) rfl
    have q_s2 := k_s.cell (i := 2) rfl
    have q_s3 := k_s.cell (i := 3) rfl
    have q_sf := k_s.free
    have q_t0 := k_t.cell (i := 0) rfl
    have q_t1 := k_t.cell (i := 1) rfl
    have q_t2 := k_t.cell (i := 2) rfl
    have q_t3 := k_t.cell (i := 3) rfl
    have q_tf := k_t.free
    have q_r0 := k_r.cell (i := 0) rfl
    have q_r1 := k_r.cell (i := 1) rfl
    have q_r2 := k_r.cell (i := 2) rfl
    have q_r3 := k_r.cell (i := 3) rfl
    have q_rf := k_r.free
    go_wp2_with fail
    refine (ris_any N s k [] B _ cap HV.out _ rfl _ (HB.out.trans (bW1.mono HB.out.size))).mono ?_; rintro e W2 ⟨rfl, hb⟩
    clear q_s0 q_s1 q_s2 q_s3 q_sf q_t0 q_t1 q_t2 q_t3 q_tf q_r0 q_r1 q_r2 q_r3 q_rf
    have sW2 := Nat.le_trans sW1 hb.size
    have bW2 := (bW1).call hb
    replace k_s := k_s.past hb
    replace k_t := k_t.past hb
    replace k_r := k_r.past hb
    clear hb bW1 sW1
    rw [HK.out]
    rw [HL2.out] at k_s
    have ht_kind := (World.cell?_of_block (w := w) (bW2.block b hbw)).trans HT.out.kind
    have ht_text := (World.cell?_of_block (w := w) (bW2.block b hbw)).trans HT.out.text
    have ht_val := (World.cell?_of_block (w := w) (bW2.block b hbw)).trans HT.out.val
    have ht_pos := (World.cell?_of_block (w := w) (bW2.block b hbw)).trans HT.out.pos
    have q_s0 := k_s.cell (i := 0) rfl
    have q_s1 := k_s.cell (i := 1) rfl
    have q_s2 := k_s.cell (i := 2) rfl
    have q_s3 := k_s.cell (i := 3) rfl
    have q_sf := k_s.free
    have q_t0 := k_t.cell (i := 0) rfl
    have q_t1 := k_t.cell (i := 1) rfl
    have q_t2 := k_t.cell (i := 2) rfl
    have q_t3 := k_t.cell (i := 3) rfl
    have q_tf := k_t.free
    have q_r0 := k_r.cell (i := 0) rfl
    have q_r1 := k_r.cell (i := 1) rfl
    have q_r2 := k_r.cell (i := 2) rfl
    have q_r3 := k_r.cell (i := 3) rfl
    have q_rf := k_r.free
    go_upto_region 4 with fail
    clear q_s0 q_s1 q_s2 q_s3 q_sf q_t0 q_t1 q_t2 q_t3 q_tf q_r0 q_r1 q_r2 q_r3 q_rf
    clear ht_kind ht_text ht_val ht_pos
    obtain ⟨W3, hW3, bW3, sW3, k2_s, k2_t, k2_r, k2_x⟩ : ∃ x, (W2.alloc (.cells #[.int .i64 (t.kind : Nat), .string ⟨t.text.toArray⟩, .int .i64 (t.val : Nat), .int .i64 (t.pos : Nat)] 54)) = x ∧ Since w x ∧ W2.heap.size + 1 ≤ x.heap.size ∧ Blk x (w.heap.size) 45 [.slice (some ⟨b, off, none⟩) (r.length + 1) cap, .int .i64 (N : Nat), .int .i64 (s.err : Nat), .int .i64 (s.pos : Nat)] ∧ Blk x (w.heap.size + 1) 54 [.int .i64 0, .string ⟨#[]⟩, .int .i64 0, .int .i64 0] ∧ Blk x (w.heap.size + 1 + 1) 45 [.slice none 0 0, .int .i64 0, .int .i64 0, .int .i64 0] ∧ Blk x (W2.heap.size) 54 [.int .i64 (t.kind : Nat), .string ⟨t.text.toArray⟩, .int .i64 (t.val : Nat), .int .i64 (t.pos : Nat)] := ⟨_, rfl, (Since.alloc bW2 _), by simp only [World.setCell, World.size_alloc, Array.size_modify, Nat.le_refl], (Blk.alloc k_s _), (Blk.alloc k_t _), (Blk.alloc k_r _), (Blk.new' _ _ _ (rfl))⟩
    rw [hW3]
    clear hW3 k_s k_t k_r
    have k_s := k2_s
    have k_t := k2_t
    have k_r := k2_r
    have k_x := k2_x
    clear k2_s k2_t k2_r k2_x
    have q_s0 := k_s.cell (i := 0) rfl
    have q_s1 := k_s.cell (i := 1) rfl
    have q_s2 := k_s.cell (i := 2) rfl
    have q_s3 := k_s.cell (i := 3) rfl
    have q_sf := k_s.free
    have q_t0 := k_t.cell (i := 0) rfl
    have q_t1 := k_t.cell (i := 1) rfl
    have q_t2 := k_t.cell (i := 2) rfl
    have q_t3 := k_t.cell (i := 3) rfl
    have q_tf := k_t.free
    have q_r0 := k_r.cell (i := 0) rfl
    have q_r1 := k_r.cell (i := 1) rfl
    have q_r2 := k_r.cell (i := 2) rfl
    have q_r3 := k_r.cell (i := 3) rfl
    have q_rf := k_r.free
    have q_x0 := k_x.cell (i := 0) rfl
    have q_x1 := k_x.cell (i := 1) rfl
    have q_x2 := k_x.cell (i := 2) rfl
    have q_x3 := k_x.cell (i := 3) rfl
    have q_xf := k_x.free
    by_cases hc1 : cap = 1
    · subst hc1
      go_upto_region 5 with fail
      clear q_s0 q_s1 q_s2 q_s3 q_sf q_t0 q_t1 q_t2 q_t3 q_tf q_r0 q_r1 q_r2 q_r3 q_rf q_x0 q_x1 q_x2 q_x3 q_xf
      obtain ⟨W4, hW4, bW4, sW4, k2_s, k2_t, k2_r, k2_x⟩ : ∃ x, (W3.setCell ⟨w.heap.size, 0, none⟩ (.slice (some ⟨b, off, none⟩) r.length 0)) = x ∧ Since w x ∧ W3.heap.size ≤ x.heap.size ∧ Blk x (w.heap.size) 45 [.slice (some ⟨b, off, none⟩) r.length 0, .int .i64 (N : Nat), .int .i64 (s.err : Nat), .int .i64 (s.pos : Nat)] ∧ Blk x (w.heap.size + 1) 54 [.int .i64 0, .string ⟨#[]⟩, .int .i64 0, .int .i64 0] ∧ Blk x (w.heap.size + 1 + 1) 45 [.slice none 0 0, .int .i64 0, .int .i64 0, .int .i64 0] ∧ Blk x (W2.heap.size) 54 [.int .i64 (t.kind : Nat), .string ⟨t.text.toArray⟩, .int .i64 (t.val : Nat), .int .i64 (t.pos : Nat)] := ⟨_, rfl, (Since.s1 bW3 (by omega)), by simp only [World.setCell, World.size_alloc, Array.size_modify, Nat.le_refl], (Blk.cast (Blk.set k_s 0 _) rfl), (Blk.o1 k_t (by omega)), (Blk.o1 k_r (by omega)), (Blk.o1 k_x (by omega))⟩
      rw [hW4]
      clear hW4 k_s k_t k_r k_x
      have k_s := k2_s
      have k_t := k2_t
      have k_r := k2_r
      have k_x := k2_x
      clear k2_s k2_t k2_r k2_x
      refine wp_region_any (by kernel_rfl) ?_
      refine Foyer.Round.any_of_held (S := fun W => Blk W (W2.heap.size) 54 [.int .i64 (t.kind : Nat), .string ⟨t.text.toArray⟩, .int .i64 (t.val : Nat), .int .i64 (t.pos : Nat)] ∧ Blk W (w.heap.size) 45 [.slice (some ⟨b, off, none⟩) r.length 0, .int .i64 (N : Nat), .int .i64 (s.err : Nat), .int .i64 (s.pos : Nat)]) (N := [3]) _ _ _ _ ?_
      change Foyer.Round.held _ _ _ _ _ _ _ _ _ W4.drew
      obtain ⟨W5, hW5⟩ : ∃ x, W4.drew = x := ⟨_, rfl⟩
      have bW5 : Since w W5 := by rw [← hW5]; exact Below.drew bW4
      have sW5 := sW4
      rw [show W4.heap.size = W5.heap.size from by rw [← hW5]; rfl] at sW5
      replace k_s : Blk W5 (w.heap.size) 45 [.slice (some ⟨b, off, none⟩) r.length 0, .int .i64 (N : Nat), .int .i64 (s.err : Nat), .int .i64 (s.pos : Nat)] := by rw [← hW5]; exact k_s
      replace k_t : Blk W5 (w.heap.size + 1) 54 [.int .i64 0, .string ⟨#[]⟩, .int .i64 0, .int .i64 0] := by rw [← hW5]; exact k_t
      replace k_r : Blk W5 (w.heap.size + 1 + 1) 45 [.slice none 0 0, .int .i64 0, .int .i64 0, .int .i64 0] := by rw [← hW5]; exact k_r
      replace k_x : Blk W5 (W2.heap.size) 54 [.int .i64 (t.kind : Nat), .string ⟨t.text.toArray⟩, .int .i64 (t.val : Nat), .int .i64 (t.pos : Nat)] := by rw [← hW5]; exact k_x
      rw [hW5]
      clear hW5 bW4 sW4
      refine Foyer.Round.held_take [3] (i := 0) (v := .agg #[.int .i64 (t.kind : Nat), .string ⟨t.text.toArray⟩, .int .i64 (t.val : Nat), .int .i64 (t.pos : Nat)]) rfl (by kernel_rfl) (fun _ _ _ h => h) (Or.inl ⟨by rfl, fun w' hS => by have r_x0 := (show Blk _ _ _ _ from hS.1).cell (i := 0) rfl; have r_x1 := (show Blk _ _ _ _ from hS.1).cell (i := 1) rfl; have r_x2 := (show Blk _ _ _ _ from hS.1).cell (i := 2) rfl; have r_x3 := (show Blk _ _ _ _ from hS.1).cell (i := 3) rfl; go_simp⟩) (⟨k_x, k_s⟩) ?_
      try simp only [Act.put, List.setIfInBounds_toArray, List.set_cons_zero, List.set_cons_succ]
      refine Foyer.Round.held_take [3] (i := 1) (v := .agg #[.slice (some ⟨b, off, none⟩) r.length 0, .int .i64 (N : Nat), .int .i64 (s.err : Nat), .int .i64 (s.pos : Nat)]) rfl (by kernel_rfl) (fun _ _ _ h => h) (Or.inl ⟨by rfl, fun w' hS => by have r_s0 := (show Blk _ _ _ _ from hS.2).cell (i := 0) rfl; have r_s1 := (show Blk _ _ _ _ from hS.2).cell (i := 1) rfl; have r_s2 := (show Blk _ _ _ _ from hS.2).cell (i := 2) rfl; have r_s3 := (show Blk _ _ _ _ from hS.2).cell (i := 3) rfl; go_simp⟩) (⟨k_x, k_s⟩) ?_
      try simp only [Act.put, List.setIfInBounds_toArray, List.set_cons_zero, List.set_cons_succ]
      have q_t0 := k_t.cell (i := 0) rfl
      have q_t1 := k_t.cell (i := 1) rfl
      have q_t2 := k_t.cell (i := 2) rfl
      have q_t3 := k_t.cell (i := 3) rfl
      have q_tf := k_t.free
      refine Foyer.Round.held_one (i := 2) rfl (by kernel_rfl) (fun K hK => ?_)
      go_simp
      clear q_t0 q_t1 q_t2 q_t3 q_tf
      obtain ⟨W6, hW6, bW6, sW6, k2_s, k2_t, k2_r, k2_x⟩ : ∃ x, ((((W5.setCell ⟨w.heap.size + 1, 0, none⟩ (.int .i64 (t.kind : Nat))).setCell ⟨w.heap.size + 1, 1, none⟩ (.string ⟨t.text.toArray⟩)).setCell ⟨w.heap.size + 1, 2, none⟩ (.int .i64 (t.val : Nat))).setCell ⟨w.heap.size + 1, 3, none⟩ (.int .i64 (t.pos : Nat))) = x ∧ Since w x ∧ W5.heap.size ≤ x.heap.size ∧ Blk x (w.heap.size) 45 [.slice (some ⟨b, off, none⟩) r.length 0, .int .i64 (N : Nat), .int .i64 (s.err : Nat), .int .i64 (s.pos : Nat)] ∧ Blk x (w.heap.size + 1) 54 [.int .i64 (t.kind : Nat), .string ⟨t.text.toArray⟩, .int .i64 (t.val : Nat), .int .i64 (t.pos : Nat)] ∧ Blk x (w.heap.size + 1 + 1) 45 [.slice none 0 0, .int .i64 0, .int .i64 0, .int .i64 0] ∧ Blk x (W2.heap.size) 54 [.int .i64 (t.kind : Nat), .string ⟨t.text.toArray⟩, .int .i64 (t.val : Nat), .int .i64 (t.pos : Nat)] := ⟨_, rfl, (Since.s4 bW5 (by omega)), by simp only [World.setCell, World.size_alloc, Array.size_modify, Nat.le_refl], (Blk.o4 k_s (by omega)), (Blk.cast (Blk.set (Blk.set (Blk.set (Blk.set k_t 0 _) 1 _) 2 _) 3 _) rfl), (Blk.o4 k_r (by omega)), (Blk.o4 k_x (by omega))⟩
      rw [hW6]
      clear hW6 k_s k_t k_r k_x
      have k_s := k2_s
      have k_t := k2_t
      have k_r := k2_r
      have k_x := k2_x
      clear k2_s k2_t k2_r k2_x
      refine hK.out _ _ (fun _ => ⟨k_x, k_s⟩) ?_
      clear hK K
      try simp only [Act.put, List.setIfInBounds_toArray, List.set_cons_zero, List.set_cons_succ]
      have q_r0 := k_r.cell (i := 0) rfl
      have q_r1 := k_r.cell (i := 1) rfl
      have q_r2 := k_r.cell (i := 2) rfl
      have q_r3 := k_r.cell (i := 3) rfl
      have q_rf := k_r.free
      refine Foyer.Round.held_one (i := 3) rfl (by kernel_rfl) (fun K hK => ?_)
      go_simp
      clear q_r0 q_r1 q_r2 q_r3 q_rf
      obtain ⟨W7, hW7, bW7, sW7, k2_s, k2_t, k2_r, k2_x⟩ : ∃ x, ((((W6.setCell ⟨w.heap.size + 1 + 1, 0, none⟩ (.slice (some ⟨b, off, none⟩) r.length 0)).setCell ⟨w.heap.size + 1 + 1, 1, none⟩ (.int .i64 (N : Nat))).setCell ⟨w.heap.size + 1 + 1, 2, none⟩ (.int .i64 (s.err : Nat))).setCell ⟨w.heap.size + 1 + 1, 3, none⟩ (.int .i64 (s.pos : Nat))) = x ∧ Since w x ∧ W6.heap.size ≤ x.heap.size ∧ Blk x (w.heap.size) 45 [.slice (some ⟨b, off, none⟩) r.length 0, .int .i64 (N : Nat), .int .i64 (s.err : Nat), .int .i64 (s.pos : Nat)] ∧ Blk x (w.heap.size + 1) 54 [.int .i64 (t.kind : Nat), .string ⟨t.text.toArray⟩, .int .i64 (t.val : Nat), .int .i64 (t.pos : Nat)] ∧ Blk x (w.heap.size + 1 + 1) 45 [.slice (some ⟨b, off, none⟩) r.length 0, .int .i64 (N : Nat), .int .i64 (s.err : Nat), .int .i64 (s.pos : Nat)] ∧ Blk x (W2.heap.size) 54 [.int .i64 (t.kind : Nat), .string ⟨t.text.toArray⟩, .int .i64 (t.val : Nat), .int .i64 (t.pos : Nat)] := ⟨_, rfl, (Since.s4 bW6 (by omega)), by simp only [World.setCell, World.size_alloc, Array.size_modify, Nat.le_refl], (Blk.o4 k_s (by omega)), (Blk.o4 k_t (by omega)), (Blk.cast (Blk.set (Blk.set (Blk.set (Blk.set k_r 0 _) 1 _) 2 _) 3 _) rfl), (Blk.o4 k_x (by omega))⟩
      rw [hW7]
      clear hW7 k_s k_t k_r k_x
      have k_s := k2_s
      have k_t := k2_t
      have k_r := k2_r
      have k_x := k2_x
      clear k2_s k2_t k2_r k2_x
      refine hK.out _ _ (fun _ => ⟨k_x, k_s⟩) ?_
      clear hK K
      try simp only [Act.put, List.setIfInBounds_toArray, List.set_cons_zero, List.set_cons_succ]
      refine Foyer.Round.held_done (by kernel_rfl) ?_ _
      go_wp2
      exact bodyPost_ret (results_two rfl _ _ (w.heap.size + 1) (w.heap.size + 1 + 1) _ _ _ _ rfl k_t.range Tryd.underlying54 rfl (by kernel_rfl) rfl k_r.range Tryd.underlying45 rfl (by kernel_rfl)) rfl ⟨⟨_, _, rfl, HV'.out.last.2⟩, bW7⟩
    · go_upto_region 5 with fail
      clear q_s0 q_s1 q_s2 q_s3 q_sf q_t0 q_t1 q_t2 q_t3 q_tf q_r0 q_r1 q_r2 q_r3 q_rf q_x0 q_x1 q_x2 q_x3 q_xf
      obtain ⟨W4, hW4, bW4, sW4, k2_s, k2_t, k2_r, k2_x⟩ : ∃ x, (W3.setCell ⟨w.heap.size, 0, none⟩ (.slice (some ⟨b, off + 4, none⟩) r.length (cap - 1))) = x ∧ Since w x ∧ W3.heap.size ≤ x.heap.size ∧ Blk x (w.heap.size) 45 [.slice (some ⟨b, off + 4, none⟩) r.length (cap - 1), .int .i64 (N : Nat), .int .i64 (s.err : Nat), .int .i64 (s.pos : Nat)] ∧ Blk x (w.heap.size + 1) 54 [.int .i64 0, .string ⟨#[]⟩, .int .i64 0, .int .i64 0] ∧ Blk x (w.heap.size + 1 + 1) 45 [.slice none 0 0, .int .i64 0, .int .i64 0, .int .i64 0] ∧ Blk x (W2.heap.size) 54 [.int .i64 (t.kind : Nat), .string ⟨t.text.toArray⟩, .int .i64 (t.val : Nat), .int .i64 (t.pos : Nat)] := ⟨_, rfl, (Since.s1 bW3 (by omega)), by simp only [World.setCell, World.size_alloc, Array.size_modify, Nat.le_refl], (Blk.cast (Blk.set k_s 0 _) rfl), (Blk.o1 k_t (by omega)), (Blk.o1 k_r (by omega)), (Blk.o1 k_x (by omega))⟩
      rw [hW4]
      clear hW4 k_s k_t k_r k_x
      have k_s := k2_s
      have k_t := k2_t
      have k_r := k2_r
      have k_x := k2_x
      clear k2_s k2_t k2_r k2_x
      refine wp_region_any (by kernel_rfl) ?_
      refine Foyer.Round.any_of_held (S := fun W => Blk W (W2.heap.size) 54 [.int .i64 (t.kind : Nat), .string ⟨t.text.toArray⟩, .int .i64 (t.val : Nat), .int .i64 (t.pos : Nat)] ∧ Blk W (w.heap.size) 45 [.slice (some ⟨b, off + 4, none⟩) r.length (cap - 1), .int .i64 (N : Nat), .int .i64 (s.err : Nat), .int .i64 (s.pos : Nat)]) (N := [3]) _ _ _ _ ?_
      change Foyer.Round.held _ _ _ _ _ _ _ _ _ W4.drew
      obtain ⟨W5, hW5⟩ : ∃ x, W4.drew = x := ⟨_, rfl⟩
      have bW5 : Since w W5 := by rw [← hW5]; exact Below.drew bW4
      have sW5 := sW4
      rw [show W4.heap.size = W5.heap.size from by rw [← hW5]; rfl] at sW5
      replace k_s : Blk W5 (w.heap.size) 45 [.slice (some ⟨b, off + 4, none⟩) r.length (cap - 1), .int .i64 (N : Nat), .int .i64 (s.err : Nat), .int .i64 (s.pos : Nat)] := by rw [← hW5]; exact k_s
      replace k_t : Blk W5 (w.heap.size + 1) 54 [.int .i64 0, .string ⟨#[]⟩, .int .i64 0, .int .i64 0] := by rw [← hW5]; exact k_t
      replace k_r : Blk W5 (w.heap.size + 1 + 1) 45 [.slice none 0 0, .int .i64 0, .int .i64 0, .int .i64 0] := by rw [← hW5]; exact k_r
      replace k_x : Blk W5 (W2.heap.size) 54 [.int .i64 (t.kind : Nat), .string ⟨t.text.toArray⟩, .int .i64 (t.val : Nat), .int .i64 (t.pos : Nat)] := by rw [← hW5]; exact k_x
      rw [hW5]
      clear hW5 bW4 sW4
      refine Foyer.Round.held_take [3] (i := 0) (v := .agg #[.int .i64 (t.kind : Nat), .string ⟨t.text.toArray⟩, .int .i64 (t.val : Nat), .int .i64 (t.pos : Nat)]) rfl (by kernel_rfl) (fun _ _ _ h => h) (Or.inl ⟨by rfl, fun w' hS => by have r_x0 := (show Blk _ _ _ _ from hS.1).cell (i := 0) rfl; have r_x1 := (show Blk _ _ _ _ from hS.1).cell (i := 1) rfl; have r_x2 := (show Blk _ _ _ _ from hS.1).cell (i := 2) rfl; have r_x3 := (show Blk _ _ _ _ from hS.1).cell (i := 3) rfl; go_simp⟩) (⟨k_x, k_s⟩) ?_
      try simp only [Act.put, List.setIfInBounds_toArray, List.set_cons_zero, List.set_cons_succ]
      refine Foyer.Round.held_take [3] (i := 1) (v := .agg #[.slice (some ⟨b, off + 4, none⟩) r.length (cap - 1), .int .i64 (N : Nat), .int .i64 (s.err : Nat), .int .i64 (s.pos : Nat)]) rfl (by kernel_rfl) (fun _ _ _ h => h) (Or.inl ⟨by rfl, fun w' hS => by have r_s0 := (show Blk _ _ _ _ from hS.2).cell (i := 0) rfl; have r_s1 := (show Blk _ _ _ _ from hS.2).cell (i := 1) rfl; have r_s2 := (show Blk _ _ _ _ from hS.2).cell (i := 2) rfl; have r_s3 := (show Blk _ _ _ _ from hS.2).cell (i := 3) rfl; go_simp⟩) (⟨k_x, k_s⟩) ?_
      try simp only [Act.put, List.setIfInBounds_toArray, List.set_cons_zero, List.set_cons_succ]
      have q_t0 := k_t.cell (i := 0) rfl
      have q_t1 := k_t.cell (i := 1) rfl
      have q_t2 := k_t.cell (i := 2) rfl
      have q_t3 := k_t.cell (i := 3) rfl
      have q_tf := k_t.free
      refine Foyer.Round.held_one (i := 2) rfl (by kernel_rfl) (fun K hK => ?_)
      go_simp
      clear q_t0 q_t1 q_t2 q_t3 q_tf
      obtain ⟨W6, hW6, bW6, sW6, k2_s, k2_t, k2_r, k2_x⟩ : ∃ x, ((((W5.setCell ⟨w.heap.size + 1, 0, none⟩ (.int .i64 (t.kind : Nat))).setCell ⟨w.heap.size + 1, 1, none⟩ (.string ⟨t.text.toArray⟩)).setCell ⟨w.heap.size + 1, 2, none⟩ (.int .i64 (t.val : Nat))).setCell ⟨w.heap.size + 1, 3, none⟩ (.int .i64 (t.pos : Nat))) = x ∧ Since w x ∧ W5.heap.size ≤ x.heap.size ∧ Blk x (w.heap.size) 45 [.slice (some ⟨b, off + 4, none⟩) r.length (cap - 1), .int .i64 (N : Nat), .int .i64 (s.err : Nat), .int .i64 (s.pos : Nat)] ∧ Blk x (w.heap.size + 1) 54 [.int .i64 (t.kind : Nat), .string ⟨t.text.toArray⟩, .int .i64 (t.val : Nat), .int .i64 (t.pos : Nat)] ∧ Blk x (w.heap.size + 1 + 1) 45 [.slice none 0 0, .int .i64 0, .int .i64 0, .int .i64 0] ∧ Blk x (W2.heap.size) 54 [.int .i64 (t.kind : Nat), .string ⟨t.text.toArray⟩, .int .i64 (t.val : Nat), .int .i64 (t.pos : Nat)] := ⟨_, rfl, (Since.s4 bW5 (by omega)), by simp only [World.setCell, World.size_alloc, Array.size_modify, Nat.le_refl], (Blk.o4 k_s (by omega)), (Blk.cast (Blk.set (Blk.set (Blk.set (Blk.set k_t 0 _) 1 _) 2 _) 3 _) rfl), (Blk.o4 k_r (by omega)), (Blk.o4 k_x (by omega))⟩
      rw [hW6]
      clear hW6 k_s k_t k_r k_x
      have k_s := k2_s
      have k_t := k2_t
      have k_r := k2_r
      have k_x := k2_x
      clear k2_s k2_t k2_r k2_x
      refine hK.out _ _ (fun _ => ⟨k_x, k_s⟩) ?_
      clear hK K
      try simp only [Act.put, List.setIfInBounds_toArray, List.set_cons_zero, List.set_cons_succ]
      have q_r0 := k_r.cell (i := 0) rfl
      have q_r1 := k_r.cell (i := 1) rfl
      have q_r2 := k_r.cell (i := 2) rfl
      have q_r3 := k_r.cell (i := 3) rfl
      have q_rf := k_r.free
      refine Foyer.Round.held_one (i := 3) rfl (by kernel_rfl) (fun K hK => ?_)
      go_simp
      clear q_r0 q_r1 q_r2 q_r3 q_rf
      obtain ⟨W7, hW7, bW7, sW7, k2_s, k2_t, k2_r, k2_x⟩ : ∃ x, ((((W6.setCell ⟨w.heap.size + 1 + 1, 0, none⟩ (.slice (some ⟨b, off + 4, none⟩) r.length (cap - 1))).setCell ⟨w.heap.size + 1 + 1, 1, none⟩ (.int .i64 (N : Nat))).setCell ⟨w.heap.size + 1 + 1, 2, none⟩ (.int .i64 (s.err : Nat))).setCell ⟨w.heap.size + 1 + 1, 3, none⟩ (.int .i64 (s.pos : Nat))) = x ∧ Since w x ∧ W6.heap.size ≤ x.heap.size ∧ Blk x (w.heap.size) 45 [.slice (some ⟨b, off + 4, none⟩) r.length (cap - 1), .int .i64 (N : Nat), .int .i64 (s.err : Nat), .int .i64 (s.pos : Nat)] ∧ Blk x (w.heap.size + 1) 54 [.int .i64 (t.kind : Nat), .string ⟨t.text.toArray⟩, .int .i64 (t.val : Nat), .int .i64 (t.pos : Nat)] ∧ Blk x (w.heap.size + 1 + 1) 45 [.slice (some ⟨b, off + 4, none⟩) r.length (cap - 1), .int .i64 (N : Nat), .int .i64 (s.err : Nat), .int .i64 (s.pos : Nat)] ∧ Blk x (W2.heap.size) 54 [.int .i64 (t.kind : Nat), .string ⟨t.text.toArray⟩, .int .i64 (t.val : Nat), .int .i64 (t.pos : Nat)] := ⟨_, rfl, (Since.s4 bW6 (by omega)), by simp only [World.setCell, World.size_alloc, Array.size_modify, Nat.le_refl], (Blk.o4 k_s (by omega)), (Blk.o4 k_t (by omega)), (Blk.cast (Blk.set (Blk.set (Blk.set (Blk.set k_r 0 _) 1 _) 2 _) 3 _) rfl), (Blk.o4 k_x (by omega))⟩
      rw [hW7]
      clear hW7 k_s k_t k_r k_x
      have k_s := k2_s
      have k_t := k2_t
      have k_r := k2_r
      have k_x := k2_x
      clear k2_s k2_t k2_r k2_x
      refine hK.out _ _ (fun _ => ⟨k_x, k_s⟩) ?_
      clear hK K
      try simp only [Act.put, List.setIfInBounds_toArray, List.set_cons_zero, List.set_cons_succ]
      refine Foyer.Round.held_done (by kernel_rfl) ?_ _
      go_wp2
      exact bodyPost_ret (results_two rfl _ _ (w.heap.size + 1) (w.heap.size + 1 + 1) _ _ _ _ rfl k_t.range Tryd.underlying54 rfl (by kernel_rfl) rfl k_r.range Tryd.underlying45 rfl (by kernel_rfl)) rfl ⟨⟨_, _, rfl, HV'.out.tail⟩, bW7⟩
  · have e1 : rTake N s k = (noTok, rFail N s 4) := by unfold rTake; rw [if_neg hk]
    have hk2 : rIs s k [] = false := by simpa using hk
    have hfl := fail_left N s 4
    rw [e1]
    clear hv hB e1 hk
    have HK := Lib.hid hk2
    clear hk2
    obtain ⟨f, hf⟩ : ∃ z, rFail N s 4 = z := ⟨_, rfl⟩
    rw [hf] at hfl ⊢
    have HVF := Lib.hid (show IsSt B p cap f.left from by rw [hfl]; exact HV.out)
    clear hfl
    dsimp only [noTok]
    have Nf := Lib.hid hf
    clear hf
    go_enter Tryd.func22, Tryd.ntmps22
    go_upto_region 1 with fail
    obtain ⟨W1, hW1, bW1, sW1, k2_s, k2_t, k2_r⟩ : ∃ x, (((w.alloc (.cells #[.slice p s.left.length cap, .int .i64 (N : Nat), .int .i64 (s.err : Nat), .int .i64 (s.pos : Nat)] 45)).alloc (.cells #[.int .i64 0, .string ⟨#[]⟩, .int .i64 0, .int .i64 0] 54)).alloc (.cells #[.slice none 0 0, .int .i64 0, .int .i64 0, .int .i64 0] 45)) = x ∧ Since w x ∧ w.heap.size + 1 + 1 + 1 ≤ x.heap.size ∧ Blk x (w.heap.size) 45 [.slice p s.left.length cap, .int .i64 (N : Nat), .int .i64 (s.err : Nat), .int .i64 (s.pos : Nat)] ∧ Blk x (w.heap.size + 1) 54 [.int .i64 0, .string ⟨#[]⟩, .int .i64 0, .int .i64 0] ∧ Blk x (w.heap.size + 1 + 1) 45 [.slice none 0 0, .int .i64 0, .int .i64 0, .int .i64 0] := ⟨_, rfl, (Since.alloc (Since.alloc (Since.alloc (Since.refl w) _) _) _), by simp only [World.setCell, World.size_alloc, Array.size_modify, Nat.le_refl], (Blk.alloc (Blk.alloc (Blk.new' _ _ _ (rfl)) _) _), (Blk.alloc (Blk.new' _ _ _ (by simp only [World.size_alloc])) _), (Blk.new' _ _ _ (by simp only [World.size_alloc]))⟩
    rw [hW1]
    clear hW1
    have k_s := k2_s
    have k_t := k2_t
    have k_r := k2_r
    clear k2_s k2_t k2_r
    have q_s0 := k_s.cell (i := 0) rfl
    have q_s1 := k_s.cell (i := 1) rfl
    have q_s2 := k_s.cell (i := 2) rfl
    have q_s3 := k_s.cell (i := 3) rfl
    have q_sf := k_s.free
    have q_t0 := k_t.cell (i := 0) rfl
    have q_t1 := k_t.cell (i := 1) rfl
    have q_t2 := k_t.cell (i := 2) rfl
    have q_t3 := k_t.cell (i := 3) rfl
    have q_tf := k_t.free
    have q_r0 := k_r.cell (i := 0) rfl
    have q_r1 := k_r.cell (i := 1) rfl
    have q_r2 := k_r.cell (i := 2) rfl
    have q_r3 := k_r.cell (i := 3) rfl
    have q_rf := k_r.free
    go_wp2_with fail
    refine (ris_any N s k [] B _ cap HV.out _ rfl _ (HB.out.trans (bW1.mono HB.out.size))).mono ?_; rintro e W2 ⟨rfl, hb⟩
    clear q_s0 q_s1 q_s2 q_s3 q_sf q_t0 q_t1 q_t2 q_t3 q_tf q_r0 q_r1 q_r2 q_r3 q_rf
    have sW2 := Nat.le_trans sW1 hb.size
    have bW2 := (bW1).call hb
    replace k_s := k_s.past hb
    replace k_t := k_t.past hb
    replace k_r := k_r.past hb
    clear hb bW1 sW1
    rw [HK.out]
    have q_s0 := k_s.cell (i := 0) rfl
    have q_s1 := k_s.cell (i := 1) rfl
    have q_s2 := k_s.cell (i := 2) rfl
    have q_s3 := k_s.cell (i := 3) rfl
    have q_sf := k_s.free
    have q_t0 := k_t.cell (i := 0) rfl
    have q_t1 := k_t.cell (i := 1) rfl
    have q_t2 := k_t.cell (i := 2) rfl
    have q_t3 := k_t.cell (i := 3) rfl
    have q_tf := k_t.free
    have q_r0 := k_r.cell (i := 0) rfl
    have q_r1 := k_r.cell (i := 1) rfl
    have q_r2 := k_r.cell (i := 2) rfl
    have q_r3 := k_r.cell (i := 3) rfl
    have q_rf := k_r.free
    go_wp2_with fail
    refine (rfail_any N s 4 B p cap HV.out 4 rfl _ (HB.out.trans (bW2.mono HB.out.size))).mono ?_; rintro e W3 ⟨rfl, hb⟩
    clear q_s0 q_s1 q_s2 q_s3 q_sf q_t0 q_t1 q_t2 q_t3 q_tf q_r0 q_r1 q_r2 q_r3 q_rf
    have sW3 := Nat.le_trans sW2 hb.size
    have bW3 := (bW2).call hb
    replace k_s := k_s.past hb
    replace k_t := k_t.past hb
    replace k_r := k_r.past hb
    clear hb bW2 sW2
    rw [Nf.out]
    have q_s0 := k_s.cell (i := 0) rfl
    have q_s1 := k_s.cell (i := 1) rfl
    have q_s2 := k_s.cell (i := 2) rfl
    have q_s3 := k_s.cell (i := 3) rfl
    have q_sf := k_s.free
    have q_t0 := k_t.cell (i := 0) rfl
    have q_t1 := k_t.cell (i := 1) rfl
    have q_t2 := k_t.cell (i := 2) rfl
    have q_t3 := k_t.cell (i := 3) rfl
    have q_tf := k_t.free
    have q_r0 := k_r.cell (i := 0) rfl
    have q_r1 := k_r.cell (i := 1) rfl
    have q_r2 := k_r.cell (i := 2) rfl
    have q_r3 := k_r.cell (i := 3) rfl
    have q_rf := k_r.free
    go_wp2
    clear q_s0 q_s1 q_s2 q_s3 q_sf q_t0 q_t1 q_t2 q_t3 q_tf q_r0 q_r1 q_r2 q_r3 q_rf
    obtain ⟨W4, hW4, bW4, sW4, k2_s, k2_t, k2_r⟩ : ∃ x, ((((((((W3.setCell ⟨w.heap.size + 1, 0, none⟩ (.int .i64 0)).setCell ⟨w.heap.size + 1, 1, none⟩ (.string ⟨#[]⟩)).setCell ⟨w.heap.size + 1, 2, none⟩ (.int .i64 0)).setCell ⟨w.heap.size + 1, 3, none⟩ (.int .i64 0)).setCell ⟨w.heap.size + 1 + 1, 0, none⟩ (.slice p f.left.length cap)).setCell ⟨w.heap.size + 1 + 1, 1, none⟩ (.int .i64 (N : Nat))).setCell ⟨w.heap.size + 1 + 1, 2, none⟩ (.int .i64 (f.err : Nat))).setCell ⟨w.heap.size + 1 + 1, 3, none⟩ (.int .i64 (f.pos : Nat))) = x ∧ Since w x ∧ W3.heap.size ≤ x.heap.size ∧ Blk x (w.heap.size) 45 [.slice p s.left.length cap, .int .i64 (N : Nat), .int .i64 (s.err : Nat), .int .i64 (s.pos : Nat)] ∧ Blk x (w.heap.size + 1) 54 [.int .i64 0, .string ⟨#[]⟩, .int .i64 0, .int .i64 0] ∧ Blk x (w.heap.size + 1 + 1) 45 [.slice p f.left.length cap, .int .i64 (N : Nat), .int .i64 (f.err : Nat), .int .i64 (f.pos : Nat)] := ⟨_, rfl, (Since.s4 (Since.s4 bW3 (by omega)) (by omega)), by simp only [World.setCell, World.size_alloc, Array.size_modify, Nat.le_refl], (Blk.o4 (Blk.o4 k_s (by omega)) (by omega)), (Blk.o4 (Blk.cast (Blk.set (Blk.set (Blk.set (Blk.set k_t 0 _) 1 _) 2 _) 3 _) rfl) (by omega)), (Blk.cast (Blk.set (Blk.set (Blk.set (Blk.set (Blk.o4 k_r (by omega)) 0 _) 1 _) 2 _) 3 _) rfl)⟩
    rw [hW4]
    clear hW4 k_s k_t k_r
    have k_s := k2_s
    have k_t := k2_t
    have k_r := k2_r
    clear k2_s k2_t k2_r
    exact bodyPost_ret (results_two rfl _ _ (w.heap.size + 1) (w.heap.size + 1 + 1) _ _ _ _ rfl k_t.range Tryd.underlying54 rfl (by kernel_rfl) rfl k_r.range Tryd.underlying45 rfl (by kernel_rfl)) rfl ⟨⟨_, _, rfl, HVF.out⟩, bW4⟩
end Go.Proofs.YtlfjdohjfmfcdabDoor
