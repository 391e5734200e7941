/-
  The document's own reader of rules: a rule.
-/
import Derived.Test.YtlfjdohjfmfcdabDoorRefWh7
import Derived.Test.YtlfjdohjfmfcdabDoorWalkRules
namespace Go.Proofs.YtlfjdohjfmfcdabDoor
open Go.RowKit Go.Sort Foyer.Rule
set_option linter.unusedSimpArgs false

set_option maxRecDepth 100000 in
set_option maxHeartbeats 16000000 in
theorem ritem_c {N : Nat} {s : St} {y : ItemP} {s9 : St} (h : rItem N s = (y, s9)) (hs : SaneS s) (B : World) (p : Option Addr) (cap : Nat) (hv : IsSt B p cap s.left) (w : World) (hB : Below B.heap.size B w) :
    Calls Tryd.prog 13 #[.agg #[.slice p s.left.length cap, .int .i64 (N : Nat), .int .i64 (s.err : Nat), .int .i64 (s.pos : Nat)]] w fun e w' => (∃ lv p2 cap2, e = .returned (.tuple #[.agg #[.int .i64 (y.kind : Nat), .string ⟨y.name.toArray⟩, lv, .int .i64 (y.head.n : Nat), .int .i64 (y.head.rn : Nat), .int .i64 (y.head.rd : Nat), .int .i64 (y.head.sn : Nat), .int .i64 (y.head.sd : Nat), .int .i64 (y.pos : Nat)], .agg #[.slice p2 s9.left.length cap2, .int .i64 (N : Nat), .int .i64 (s9.err : Nat), .int .i64 (s9.pos : Nat)]]) ∧ IsSt B p2 cap2 s9.left ∧ IsList testsK w' (fun k => w.heap.size ≤ k) 33 lv y.conds) ∧ Below w.heap.size w w' := by
  have HV := Lib.hid hv; have HB := Lib.hid hB; have HS := Lib.hid hs
  clear hv hB hs
  obtain ⟨kd, ho⟩ : ∃ z, upTo headWords s 1 7 = z := ⟨_, rfl⟩
  unfold rItem at h
  rw [ho] at h
  have H := Lib.hid h; have NO := Lib.hid ho
  clear h ho
  go_enter Tryd.func13, Tryd.ntmps13
  go_upto_region 2 with fail
  obtain ⟨W1, hW1, bW1, sW1, k2_s, k2_t, k2_r, k2_x⟩ : ∃ x, ((((w.alloc (.cells #[.slice p s.left.length cap, .int .i64 (N : Nat), .int .i64 (s.err : Nat), .int .i64 (s.pos : Nat)] 45)).alloc (.cells #[.int .i64 0, .string ⟨#[]⟩, .slice none 0 0, .int .i64 0, .int .i64 0, .int .i64 0, .int .i64 0, .int .i64 0, .int .i64 0] 38)).alloc (.cells #[.slice none 0 0, .int .i64 0, .int .i64 0, .int .i64 0] 45)).alloc (.cells #[.int .i64 0, .string ⟨#[]⟩, .slice none 0 0, .int .i64 0, .int .i64 0, .int .i64 0, .int .i64 0, .int .i64 0, .int .i64 0] 38)) = x ∧ Since w x ∧ w.heap.size + 1 + 1 + 1 + 1 ≤ x.heap.size ∧ Blk x (w.heap.size) 45 [.slice p s.left.length cap, .int .i64 (N : Nat), .int .i64 (s.err : Nat), .int .i64 (s.pos : Nat)] ∧ Blk x (w.heap.size + 1) 38 [.int .i64 0, .string ⟨#[]⟩, .slice none 0 0, .int .i64 0, .int .i64 0, .int .i64 0, .int .i64 0, .int .i64 0, .int .i64 0] ∧ Blk x (w.heap.size + 1 + 1) 45 [.slice none 0 0, .int .i64 0, .int .i64 0, .int .i64 0] ∧ Blk x (w.heap.size + 1 + 1 + 1) 38 [.int .i64 0, .string ⟨#[]⟩, .slice none 0 0, .int .i64 0, .int .i64 0, .int .i64 0, .int .i64 0, .int .i64 0, .int .i64 0] := ⟨_, rfl, (Since.alloc (Since.alloc (Since.alloc (Since.alloc (Since.refl w) _) _) _) _), by simp only [World.setCell, World.size_alloc, Array.size_modify, Nat.le_refl], (Blk.alloc (Blk.alloc (Blk.alloc (Blk.new' _ _ _ (rfl)) _) _) _), (Blk.alloc (Blk.alloc (Blk.new' _ _ _ (by simp only [World.size_alloc])) _) _), (Blk.alloc (Blk.new' _ _ _ (by simp only [World.size_alloc])) _), (Blk.new' _ _ _ (by simp only [World.size_alloc]))⟩
  rw [hW1]
  clear hW1
  have k_s := k2_s
  have k_t := k2_t
  have k_r := k2_r
  have k_x := k2_x
  clear k2_s k2_t k2_r k2_x
  have hbase : w.heap.size + 4 ≤ W1.heap.size := sW1
  go_upto_region 4 with fail
  obtain ⟨W2, hW2, bW2, sW2, k2_s, k2_t, k2_r, k2_x, k2_ws⟩ : ∃ x, (W1.alloc (.cells #[.string ⟨#[97, 108, 108, 111, 119]⟩, .string ⟨#[100, 101, 110, 121]⟩, .string ⟨#[112, 114, 105, 99, 101]⟩, .string ⟨#[114, 101, 115, 97, 108, 101]⟩, .string ⟨#[114, 101, 102, 117, 110, 100]⟩, .string ⟨#[116, 111, 103, 101, 116, 104, 101, 114]⟩, .string ⟨#[115, 105, 110, 103, 108, 101]⟩] 9)) = x ∧ Since w x ∧ W1.heap.size + 1 ≤ x.heap.size ∧ Blk x (w.heap.size) 45 [.slice p s.left.length cap, .int .i64 (N : Nat), .int .i64 (s.err : Nat), .int .i64 (s.pos : Nat)] ∧ Blk x (w.heap.size + 1) 38 [.int .i64 0, .string ⟨#[]⟩, .slice none 0 0, .int .i64 0, .int .i64 0, .int .i64 0, .int .i64 0, .int .i64 0, .int .i64 0] ∧ Blk x (w.heap.size + 1 + 1) 45 [.slice none 0 0, .int .i64 0, .int .i64 0, .int .i64 0] ∧ Blk x (w.heap.size + 1 + 1 + 1) 38 [.int .i64 0, .string ⟨#[]⟩, .slice none 0 0, .int .i64 0, .int .i64 0, .int .i64 0, .int .i64 0, .int .i64 0, .int .i64 0] ∧ Blk x (W1.heap.size) 9 [.string ⟨#[97, 108, 108, 111, 119]⟩, .string ⟨#[100, 101, 110, 121]⟩, .string ⟨#[112, 114, 105, 99, 101]⟩, .string ⟨#[114, 101, 115, 97, 108, 101]⟩, .string ⟨#[114, 101, 102, 117, 110, 100]⟩, .string ⟨#[116, 111, 103, 101, 116, 104, 101, 114]⟩, .string ⟨#[115, 105, 110, 103, 108, 101]⟩] := ⟨_, rfl, (Since.alloc bW1 _), by simp only [World.setCell, World.size_alloc, Array.size_modify, Nat.le_refl], (Blk.alloc k_s _), (Blk.alloc k_t _), (Blk.alloc k_r _), (Blk.alloc k_x _), (Blk.new' _ _ _ (rfl))⟩
  rw [hW2]
  clear hW2 k_s k_t k_r k_x
  have k_s := k2_s
  have k_t := k2_t
  have k_r := k2_r
  have k_x := k2_x
  have k_ws := k2_ws
  clear k2_s k2_t k2_r k2_x k2_ws
  go_loopw [6] (fun i wr => ∃ k : Nat, i = .int .i64 k ∧ k ≤ 7 ∧ Hid (Blk wr (w.heap.size) 45 [.slice p s.left.length cap, .int .i64 (N : Nat), .int .i64 (s.err : Nat), .int .i64 (s.pos : Nat)]) ∧ Hid (Blk wr (w.heap.size + 1) 38 [.int .i64 0, .string ⟨#[]⟩, .slice none 0 0, .int .i64 0, .int .i64 0, .int .i64 0, .int .i64 0, .int .i64 0, .int .i64 0]) ∧ Hid (Blk wr (w.heap.size + 1 + 1) 45 [.slice none 0 0, .int .i64 0, .int .i64 0, .int .i64 0]) ∧ Hid (Blk wr (w.heap.size + 1 + 1 + 1) 38 [.int .i64 ((upTo headWords s 1 k) : Nat), .string ⟨#[]⟩, .slice none 0 0, .int .i64 0, .int .i64 0, .int .i64 0, .int .i64 0, .int .i64 0, .int .i64 0]) ∧ Hid (Blk wr (W1.heap.size) 9 [.string ⟨#[97, 108, 108, 111, 119]⟩, .string ⟨#[100, 101, 110, 121]⟩, .string ⟨#[112, 114, 105, 99, 101]⟩, .string ⟨#[114, 101, 115, 97, 108, 101]⟩, .string ⟨#[114, 101, 102, 117, 110, 100]⟩, .string ⟨#[116, 111, 103, 101, 116, 104, 101, 114]⟩, .string ⟨#[115, 105, 110, 103, 108, 101]⟩]) ∧ Hid (Since w wr) ∧ Hid (W1.heap.size + 1 ≤ wr.heap.size)) (fun i _ => 7 - (intOf i).toNat)
  case atStart => exact ⟨0, rfl, Nat.zero_le _, Lib.hid k_s, Lib.hid k_t, Lib.hid k_r, Lib.hid k_x, Lib.hid k_ws, Lib.hid bW2, Lib.hid (by omega)⟩
  case round =>
    obtain ⟨k, rfl, hk, J_s, J_t, J_r, J_x, J_ws, Jb, Jz⟩ := hrel
    clear k_s k_t k_r k_x k_ws bW2 sW2
    have k_s := J_s.out
    have k_t := J_t.out
    have k_r := J_r.out
    have k_x := J_x.out
    have k_ws := J_ws.out
    have bwr := Jb.out
    have swr := Jz.out
    clear J_s J_t J_r J_x J_ws Jb Jz
    by_cases hk6 : k < 7
    · have hd : decide ((k : Int) < 7) = true := by simp; omega
      have hki : (0 : Int) ≤ k ∧ (k : Int) < 7 := by omega
      have HWK : Hid (([.string ⟨#[97, 108, 108, 111, 119]⟩, .string ⟨#[100, 101, 110, 121]⟩, .string ⟨#[112, 114, 105, 99, 101]⟩, .string ⟨#[114, 101, 115, 97, 108, 101]⟩, .string ⟨#[114, 101, 102, 117, 110, 100]⟩, .string ⟨#[116, 111, 103, 101, 116, 104, 101, 114]⟩, .string ⟨#[115, 105, 110, 103, 108, 101]⟩] : List Value)[k]? = some (.string ⟨(headWords.getD k []).toArray⟩)) := Lib.hid (by match k, hk6 with | 0, _ => rfl | 1, _ => rfl | 2, _ => rfl | 3, _ => rfl | 4, _ => rfl | 5, _ => rfl | 6, _ => rfl)
      obtain ⟨bb, hbb⟩ : ∃ z, rIs s 1 (headWords.getD k []) = z := ⟨_, rfl⟩
      have hup : upTo headWords s 1 (k + 1) = if bb = true then k + 1 else upTo headWords s 1 k := by rw [← hbb]; rfl
      have Nbb := Lib.hid hbb; have HUP := Lib.hid hup
      clear hbb hup
      go_upto_region 6 with fail
      refine wp_region_any (by kernel_rfl) ?_
      refine Foyer.Round.any_of_held (S := fun W => Blk W (w.heap.size) 45 [.slice p s.left.length cap, .int .i64 (N : Nat), .int .i64 (s.err : Nat), .int .i64 (s.pos : Nat)] ∧ Blk W (W1.heap.size) 9 [.string ⟨#[97, 108, 108, 111, 119]⟩, .string ⟨#[100, 101, 110, 121]⟩, .string ⟨#[112, 114, 105, 99, 101]⟩, .string ⟨#[114, 101, 115, 97, 108, 101]⟩, .string ⟨#[114, 101, 102, 117, 110, 100]⟩, .string ⟨#[116, 111, 103, 101, 116, 104, 101, 114]⟩, .string ⟨#[115, 105, 110, 103, 108, 101]⟩]) (N := [5]) _ _ _ _ ?_
      change Foyer.Round.held _ _ _ _ _ _ _ _ _ wr.drew
      obtain ⟨W3, hW3⟩ : ∃ x, wr.drew = x := ⟨_, rfl⟩
      have bW3 : Since w W3 := by rw [← hW3]; exact Below.drew bwr
      have sW3 := swr
      rw [show wr.heap.size = W3.heap.size from by rw [← hW3]; rfl] at sW3
      replace k_s : Blk W3 (w.heap.size) 45 [.slice p s.left.length cap, .int .i64 (N : Nat), .int .i64 (s.err : Nat), .int .i64 (s.pos : Nat)] := by rw [← hW3]; exact k_s
      replace k_t : Blk W3 (w.heap.size + 1) 38 [.int .i64 0, .string ⟨#[]⟩, .slice none 0 0, .int .i64 0, .int .i64 0, .int .i64 0, .int .i64 0, .int .i64 0, .int .i64 0] := by rw [← hW3]; exact k_t
      replace k_r : Blk W3 (w.heap.size + 1 + 1) 45 [.slice none 0 0, .int .i64 0, .int .i64 0, .int .i64 0] := by rw [← hW3]; exact k_r
      replace k_x : Blk W3 (w.heap.size + 1 + 1 + 1) 38 [.int .i64 ((upTo headWords s 1 k) : Nat), .string ⟨#[]⟩, .slice none 0 0, .int .i64 0, .int .i64 0, .int .i64 0, .int .i64 0, .int .i64 0, .int .i64 0] := by rw [← hW3]; exact k_x
      replace k_ws : Blk W3 (W1.heap.size) 9 [.string ⟨#[97, 108, 108, 111, 119]⟩, .string ⟨#[100, 101, 110, 121]⟩, .string ⟨#[112, 114, 105, 99, 101]⟩, .string ⟨#[114, 101, 115, 97, 108, 101]⟩, .string ⟨#[114, 101, 102, 117, 110, 100]⟩, .string ⟨#[116, 111, 103, 101, 116, 104, 101, 114]⟩, .string ⟨#[115, 105, 110, 103, 108, 101]⟩] := by rw [← hW3]; exact k_ws
      rw [hW3]
      clear hW3 bwr swr
      refine Foyer.Round.held_take [5] (i := 0) (v := .agg #[.slice p s.left.length cap, .int .i64 (N : Nat), .int .i64 (s.err : Nat), .int .i64 (s.pos : Nat)]) rfl (by kernel_rfl) (fun _ _ _ h => h) (Or.inl ⟨by rfl, fun w' hS => by have r_s0 := (show Blk _ _ _ _ from hS.1).cell (i := 0) rfl; have r_s1 := (show Blk _ _ _ _ from hS.1).cell (i := 1) rfl; have r_s2 := (show Blk _ _ _ _ from hS.1).cell (i := 2) rfl; have r_s3 := (show Blk _ _ _ _ from hS.1).cell (i := 3) rfl; go_simp⟩) (⟨k_s, k_ws⟩) ?_
      try simp only [Act.put, List.setIfInBounds_toArray, List.set_cons_zero, List.set_cons_succ]
      refine Foyer.Round.held_take [3, 4, 5] (i := 1) (v := .slice (some ⟨W1.heap.size, 0, none⟩) 7 7) rfl (by kernel_rfl) (fun _ _ _ h => h) (Or.inl ⟨by rfl, fun w' hS => by go_simp⟩) (⟨k_s, k_ws⟩) ?_
      try simp only [Act.put, List.setIfInBounds_toArray, List.set_cons_zero, List.set_cons_succ]
      refine Foyer.Round.held_take [3, 4, 5] (i := 2) (v := .int .i64 k) rfl (by kernel_rfl) (fun _ _ _ h => h) (Or.inl ⟨by rfl, fun w' hS => by go_simp⟩) (⟨k_s, k_ws⟩) ?_
      try simp only [Act.put, List.setIfInBounds_toArray, List.set_cons_zero, List.set_cons_succ]
      refine Foyer.Round.held_take [4, 5] (i := 3) (v := .pointer (some ⟨W1.heap.size, k, none⟩)) rfl (by kernel_rfl) (fun _ _ _ h => h) (Or.inl ⟨by rfl, fun w' hS => by have := hki; go_simp⟩) (⟨k_s, k_ws⟩) ?_
      try simp only [Act.put, List.setIfInBounds_toArray, List.set_cons_zero, List.set_cons_succ]
      refine Foyer.Round.held_take [5] (i := 4) (v := .string ⟨(headWords.getD k []).toArray⟩) rfl (by kernel_rfl) (fun _ _ _ h => h) (Or.inl ⟨by rfl, fun w' hS => by have := (show Blk _ _ _ _ from hS.2).cell (i := k) HWK.out; go_simp⟩) (⟨k_s, k_ws⟩) ?_
      try simp only [Act.put, List.setIfInBounds_toArray, List.set_cons_zero, List.set_cons_succ]
      refine Foyer.Round.held_one (i := 5) rfl (by kernel_rfl) (fun K hK => ?_)
      go_simp
      refine (ris_c Nbb.out B p cap HV.out 1 rfl _ (HB.out.trans (bW3.mono HB.out.size))).mono ?_; rintro e W4 ⟨rfl, hb⟩
      have sW4 := Nat.le_trans sW3 hb.size
      have bW4 := (bW3).call hb
      replace k_s := k_s.past hb
      replace k_t := k_t.past hb
      replace k_r := k_r.past hb
      replace k_x := k_x.past hb
      replace k_ws := k_ws.past hb
      clear hb bW3 sW3
      refine hK.out _ _ (fun _ => ⟨k_s, k_ws⟩) ?_
      clear hK K
      try simp only [Act.put, List.setIfInBounds_toArray, List.set_cons_zero, List.set_cons_succ]
      refine Foyer.Round.held_done (by kernel_rfl) ?_ _
      cases bb
      · go_wp2
        refine ⟨⟨k + 1, by go_num, by omega, Lib.hid k_s, Lib.hid k_t, Lib.hid k_r, Lib.hid (by rw [HUP.out]; exact k_x), Lib.hid k_ws, Lib.hid bW4, Lib.hid (by omega)⟩, ?_⟩
        simp [intOf]; omega
      · have q_x0 := k_x.cell (i := 0) rfl
        have q_x1 := k_x.cell (i := 1) rfl
        have q_x2 := k_x.cell (i := 2) rfl
        have q_x3 := k_x.cell (i := 3) rfl
        have q_x4 := k_x.cell (i := 4) rfl
        have q_x5 := k_x.cell (i := 5) rfl
        have q_x6 := k_x.cell (i := 6) rfl
        have q_x7 := k_x.cell (i := 7) rfl
        have q_x8 := k_x.cell (i := 8) rfl
        have q_xf := k_x.free
        go_upto_region 5 with fail
        clear q_x0 q_x1 q_x2 q_x3 q_x4 q_x5 q_x6 q_x7 q_x8 q_xf
        obtain ⟨W5, hW5, bW5, sW5, k2_s, k2_t, k2_r, k2_x, k2_ws⟩ : ∃ x, (W4.setCell ⟨w.heap.size + 1 + 1 + 1, 0, none⟩ (.int .i64 ((k : Int) + 1))) = x ∧ Since w x ∧ W4.heap.size ≤ x.heap.size ∧ Blk x (w.heap.size) 45 [.slice p s.left.length cap, .int .i64 (N : Nat), .int .i64 (s.err : Nat), .int .i64 (s.pos : Nat)] ∧ Blk x (w.heap.size + 1) 38 [.int .i64 0, .string ⟨#[]⟩, .slice none 0 0, .int .i64 0, .int .i64 0, .int .i64 0, .int .i64 0, .int .i64 0, .int .i64 0] ∧ Blk x (w.heap.size + 1 + 1) 45 [.slice none 0 0, .int .i64 0, .int .i64 0, .int .i64 0] ∧ Blk x (w.heap.size + 1 + 1 + 1) 38 [.int .i64 ((k : Int) + 1), .string ⟨#[]⟩, .slice none 0 0, .int .i64 0, .int .i64 0, .int .i64 0, .int .i64 0, .int .i64 0, .int .i64 0] ∧ Blk x (W1.heap.size) 9 [.string ⟨#[97, 108, 108, 111, 119]⟩, .string ⟨#[100, 101, 110, 121]⟩, .string ⟨#[112, 114, 105, 99, 101]⟩, .string ⟨#[114, 101, 115, 97, 108, 101]⟩, .string ⟨#[114, 101, 102, 117, 110, 100]⟩, .string ⟨#[116, 111, 103, 101, 116, 104, 101, 114]⟩, .string ⟨#[115, 105, 110, 103, 108, 101]⟩] := ⟨_, rfl, (Since.s1 bW4 (by omega)), by simp only [World.setCell, World.size_alloc, Array.size_modify, Nat.le_refl], (Blk.o1 k_s (by omega)), (Blk.o1 k_t (by omega)), (Blk.o1 k_r (by omega)), (Blk.cast (Blk.set k_x 0 _) rfl), (Blk.o1 k_ws (by omega))⟩
        rw [hW5]
        clear hW5 k_s k_t k_r k_x k_ws
        have k_s := k2_s
        have k_t := k2_t
        have k_r := k2_r
        have k_x := k2_x
        have k_ws := k2_ws
        clear k2_s k2_t k2_r k2_x k2_ws
        go_wp2
        refine ⟨⟨k + 1, by go_num, by omega, Lib.hid k_s, Lib.hid k_t, Lib.hid k_r, Lib.hid (by rw [HUP.out]; exact k_x), Lib.hid k_ws, Lib.hid bW5, Lib.hid (by omega)⟩, ?_⟩
        simp [intOf]; omega
    obtain rfl : k = 7 := by omega
    have hd : decide (((7 : Nat) : Int) < 7) = false := by decide
    rw [NO.out] at k_x
    by_cases o0 : kd = 0
    · subst o0
      have h := H.out
      rw [if_pos rfl] at h
      injection h with e1 e2
      subst e1
      have NF := Lib.hid e2
      clear e2 H
      have e0 : ((0 : Int) == 0) = true := rfl
      replace k_x : Blk wr (w.heap.size + 1 + 1 + 1) 38 [.int .i64 0, .string ⟨#[]⟩, .slice none 0 0, .int .i64 0, .int .i64 0, .int .i64 0, .int .i64 0, .int .i64 0, .int .i64 0] := k_x
      have q_x0 := k_x.cell (i := 0) rfl
      have q_x1 := k_x.cell (i := 1) rfl
      have q_x2 := k_x.cell (i := 2) rfl
      have q_x3 := k_x.cell (i := 3) rfl
      have q_x4 := k_x.cell (i := 4) rfl
      have q_x5 := k_x.cell (i := 5) rfl
      have q_x6 := k_x.cell (i := 6) rfl
      have q_x7 := k_x.cell (i := 7) rfl
      have q_x8 := k_x.cell (i := 8) rfl
      have q_xf := k_x.free
      go_upto_region 9 with fail
      clear q_x0 q_x1 q_x2 q_x3 q_x4 q_x5 q_x6 q_x7 q_x8 q_xf
      refine wp_region_any (by kernel_rfl) ?_
      refine Foyer.Round.any_of_held (S := fun W => Blk W (w.heap.size + 1 + 1 + 1) 38 [.int .i64 0, .string ⟨#[]⟩, .slice none 0 0, .int .i64 0, .int .i64 0, .int .i64 0, .int .i64 0, .int .i64 0, .int .i64 0] ∧ Blk W (w.heap.size) 45 [.slice p s.left.length cap, .int .i64 (N : Nat), .int .i64 (s.err : Nat), .int .i64 (s.pos : Nat)]) (N := [4]) _ _ _ _ ?_
      change Foyer.Round.held _ _ _ _ _ _ _ _ _ wr.drew
      obtain ⟨W3, hW3⟩ : ∃ x, wr.drew = x := ⟨_, rfl⟩
      have bW3 : Since w W3 := by rw [← hW3]; exact Below.drew bwr
      have sW3 := swr
      rw [show wr.heap.size = W3.heap.size from by rw [← hW3]; rfl] at sW3
      replace k_s : Blk W3 (w.heap.size) 45 [.slice p s.left.length cap, .int .i64 (N : Nat), .int .i64 (s.err : Nat), .int .i64 (s.pos : Nat)] := by rw [← hW3]; exact k_s
      replace k_t : Blk W3 (w.heap.size + 1) 38 [.int .i64 0, .string ⟨#[]⟩, .slice none 0 0, .int .i64 0, .int .i64 0, .int .i64 0, .int .i64 0, .int .i64 0, .int .i64 0] := by rw [← hW3]; exact k_t
      replace k_r : Blk W3 (w.heap.size + 1 + 1) 45 [.slice none 0 0, .int .i64 0, .int .i64 0, .int .i64 0] := by rw [← hW3]; exact k_r
      replace k_x : Blk W3 (w.heap.size + 1 + 1 + 1) 38 [.int .i64 0, .string ⟨#[]⟩, .slice none 0 0, .int .i64 0, .int .i64 0, .int .i64 0, .int .i64 0, .int .i64 0, .int .i64 0] := by rw [← hW3]; exact k_x
      replace k_ws : Blk W3 (W1.heap.size) 9 [.string ⟨#[97, 108, 108, 111, 119]⟩, .string ⟨#[100, 101, 110, 121]⟩, .string ⟨#[112, 114, 105, 99, 101]⟩, .string ⟨#[114, 101, 115, 97, 108, 101]⟩, .string ⟨#[114, 101, 102, 117, 110, 100]⟩, .string ⟨#[116, 111, 103, 101, 116, 104, 101, 114]⟩, .string ⟨#[115, 105, 110, 103, 108, 101]⟩] := by rw [← hW3]; exact k_ws
      rw [hW3]
      clear hW3 bwr swr
      refine Foyer.Round.held_take [4] (i := 0) (v := .agg #[.int .i64 0, .string ⟨#[]⟩, .slice none 0 0, .int .i64 0, .int .i64 0, .int .i64 0, .int .i64 0, .int .i64 0, .int .i64 0]) rfl (by kernel_rfl) (fun _ _ _ h => h) (Or.inl ⟨by rfl, fun w' hS => by have r_x0 := (show Blk _ _ _ _ from hS.1).cell (i := 0) rfl; have r_x1 := (show Blk _ _ _ _ from hS.1).cell (i := 1) rfl; have r_x2 := (show Blk _ _ _ _ from hS.1).cell (i := 2) rfl; have r_x3 := (show Blk _ _ _ _ from hS.1).cell (i := 3) rfl; have r_x4 := (show Blk _ _ _ _ from hS.1).cell (i := 4) rfl; have r_x5 := (show Blk _ _ _ _ from hS.1).cell (i := 5) rfl; have r_x6 := (show Blk _ _ _ _ from hS.1).cell (i := 6) rfl; have r_x7 := (show Blk _ _ _ _ from hS.1).cell (i := 7) rfl; have r_x8 := (show Blk _ _ _ _ from hS.1).cell (i := 8) rfl; go_simp⟩) (⟨k_x, k_s⟩) ?_
      try simp only [Act.put, List.setIfInBounds_toArray, List.set_cons_zero, List.set_cons_succ]
      refine Foyer.Round.held_take [4] (i := 1) (v := .agg #[.slice p s.left.length cap, .int .i64 (N : Nat), .int .i64 (s.err : Nat), .int .i64 (s.pos : Nat)]) rfl (by kernel_rfl) (fun _ _ _ h => h) (Or.inl ⟨by rfl, fun w' hS => by have r_s0 := (show Blk _ _ _ _ from hS.2).cell (i := 0) rfl; have r_s1 := (show Blk _ _ _ _ from hS.2).cell (i := 1) rfl; have r_s2 := (show Blk _ _ _ _ from hS.2).cell (i := 2) rfl; have r_s3 := (show Blk _ _ _ _ from hS.2).cell (i := 3) rfl; go_simp⟩) (⟨k_x, k_s⟩) ?_
      try simp only [Act.put, List.setIfInBounds_toArray, List.set_cons_zero, List.set_cons_succ]
      refine Foyer.Round.held_one (i := 2) rfl (by kernel_rfl) (fun K hK => ?_)
      go_simp
      refine (rfail_c NF.out B p cap HV.out 4 rfl _ (HB.out.trans (bW3.mono HB.out.size))).mono ?_; rintro e W4 ⟨⟨p8, cap8, rfl, hs_⟩, hb⟩
      have sW4 := Nat.le_trans sW3 hb.size
      have bW4 := (bW3).call hb
      replace k_s := k_s.past hb
      replace k_t := k_t.past hb
      replace k_r := k_r.past hb
      replace k_x := k_x.past hb
      replace k_ws := k_ws.past hb
      clear hb bW3 sW3
      refine hK.out _ _ (fun _ => ⟨k_x, k_s⟩) ?_
      clear hK K
      try simp only [Act.put, List.setIfInBounds_toArray, List.set_cons_zero, List.set_cons_succ]
      have q_t0 := k_t.cell (i := 0) rfl
      have q_t1 := k_t.cell (i := 1) rfl
      have q_t2 := k_t.cell (i := 2) rfl
      have q_t3 := k_t.cell (i := 3) rfl
      have q_t4 := k_t.cell (i := 4) rfl
      have q_t5 := k_t.cell (i := 5) rfl
      have q_t6 := k_t.cell (i := 6) rfl
      have q_t7 := k_t.cell (i := 7) rfl
      have q_t8 := k_t.cell (i := 8) rfl
      have q_tf := k_t.free
      refine Foyer.Round.held_one (i := 3) rfl (by kernel_rfl) (fun K hK => ?_)
      go_simp
      clear q_t0 q_t1 q_t2 q_t3 q_t4 q_t5 q_t6 q_t7 q_t8 q_tf
      obtain ⟨W5, hW5, bW5, sW5, k2_s, k2_t, k2_r, k2_x, k2_ws⟩ : ∃ x, (((((((((W4.setCell ⟨w.heap.size + 1, 0, none⟩ (.int .i64 0)).setCell ⟨w.heap.size + 1, 1, none⟩ (.string ⟨#[]⟩)).setCell ⟨w.heap.size + 1, 2, none⟩ (.slice none 0 0)).setCell ⟨w.heap.size + 1, 3, none⟩ (.int .i64 0)).setCell ⟨w.heap.size + 1, 4, none⟩ (.int .i64 0)).setCell ⟨w.heap.size + 1, 5, none⟩ (.int .i64 0)).setCell ⟨w.heap.size + 1, 6, none⟩ (.int .i64 0)).setCell ⟨w.heap.size + 1, 7, none⟩ (.int .i64 0)).setCell ⟨w.heap.size + 1, 8, none⟩ (.int .i64 0)) = x ∧ Since w x ∧ W4.heap.size ≤ x.heap.size ∧ Blk x (w.heap.size) 45 [.slice p s.left.length cap, .int .i64 (N : Nat), .int .i64 (s.err : Nat), .int .i64 (s.pos : Nat)] ∧ Blk x (w.heap.size + 1) 38 [.int .i64 0, .string ⟨#[]⟩, .slice none 0 0, .int .i64 0, .int .i64 0, .int .i64 0, .int .i64 0, .int .i64 0, .int .i64 0] ∧ Blk x (w.heap.size + 1 + 1) 45 [.slice none 0 0, .int .i64 0, .int .i64 0, .int .i64 0] ∧ Blk x (w.heap.size + 1 + 1 + 1) 38 [.int .i64 0, .string ⟨#[]⟩, .slice none 0 0, .int .i64 0, .int .i64 0, .int .i64 0, .int .i64 0, .int .i64 0, .int .i64 0] ∧ Blk x (W1.heap.size) 9 [.string ⟨#[97, 108, 108, 111, 119]⟩, .string ⟨#[100, 101, 110, 121]⟩, .string ⟨#[112, 114, 105, 99, 101]⟩, .string ⟨#[114, 101, 115, 97, 108, 101]⟩, .string ⟨#[114, 101, 102, 117, 110, 100]⟩, .string ⟨#[116, 111, 103, 101, 116, 104, 101, 114]⟩, .string ⟨#[115, 105, 110, 103, 108, 101]⟩] := ⟨_, rfl, (Since.s1 (Since.s4 (Since.s4 bW4 (by omega)) (by omega)) (by omega)), by simp only [World.setCell, World.size_alloc, Array.size_modify, Nat.le_refl], (Blk.o1 (Blk.o4 (Blk.o4 k_s (by omega)) (by omega)) (by omega)), (Blk.cast (Blk.set (Blk.set (Blk.set (Blk.set (Blk.set (Blk.set (Blk.set (Blk.set (Blk.set k_t 0 _) 1 _) 2 _) 3 _) 4 _) 5 _) 6 _) 7 _) 8 _) rfl), (Blk.o1 (Blk.o4 (Blk.o4 k_r (by omega)) (by omega)) (by omega)), (Blk.o1 (Blk.o4 (Blk.o4 k_x (by omega)) (by omega)) (by omega)), (Blk.o1 (Blk.o4 (Blk.o4 k_ws (by omega)) (by omega)) (by omega))⟩
      rw [hW5]
      clear hW5 k_s k_t k_r k_x k_ws
      have k_s := k2_s
      have k_t := k2_t
      have k_r := k2_r
      have k_x := k2_x
      have k_ws := k2_ws
      clear k2_s k2_t k2_r k2_x k2_ws
      refine hK.out _ _ (fun _ => ⟨k_x, k_s⟩) ?_
      clear hK K
      try simp only [Act.put, List.setIfInBounds_toArray, List.set_cons_zero, List.set_cons_succ]
      have q_r0 := k_r.cell (i := 0) rfl
      have q_r1 := k_r.cell (i := 1) rfl
      have q_r2 := k_r.cell (i := 2) rfl
      have q_r3 := k_r.cell (i := 3) rfl
      have q_rf := k_r.free
      refine Foyer.Round.held_one (i := 4) rfl (by kernel_rfl) (fun K hK => ?_)
      go_simp
      clear q_r0 q_r1 q_r2 q_r3 q_rf
      obtain ⟨W6, hW6, bW6, sW6, k2_s, k2_t, k2_r, k2_x, k2_ws⟩ : ∃ x, ((((W5.setCell ⟨w.heap.size + 1 + 1, 0, none⟩ (.slice p8 s9.left.length cap8)).setCell ⟨w.heap.size + 1 + 1, 1, none⟩ (.int .i64 (N : Nat))).setCell ⟨w.heap.size + 1 + 1, 2, none⟩ (.int .i64 (s9.err : Nat))).setCell ⟨w.heap.size + 1 + 1, 3, none⟩ (.int .i64 (s9.pos : Nat))) = x ∧ Since w x ∧ W5.heap.size ≤ x.heap.size ∧ Blk x (w.heap.size) 45 [.slice p s.left.length cap, .int .i64 (N : Nat), .int .i64 (s.err : Nat), .int .i64 (s.pos : Nat)] ∧ Blk x (w.heap.size + 1) 38 [.int .i64 0, .string ⟨#[]⟩, .slice none 0 0, .int .i64 0, .int .i64 0, .int .i64 0, .int .i64 0, .int .i64 0, .int .i64 0] ∧ Blk x (w.heap.size + 1 + 1) 45 [.slice p8 s9.left.length cap8, .int .i64 (N : Nat), .int .i64 (s9.err : Nat), .int .i64 (s9.pos : Nat)] ∧ Blk x (w.heap.size + 1 + 1 + 1) 38 [.int .i64 0, .string ⟨#[]⟩, .slice none 0 0, .int .i64 0, .int .i64 0, .int .i64 0, .int .i64 0, .int .i64 0, .int .i64 0] ∧ Blk x (W1.heap.size) 9 [.string ⟨#[97, 108, 108, 111, 119]⟩, .string ⟨#[100, 101, 110, 121]⟩, .string ⟨#[112, 114, 105, 99, 101]⟩, .string ⟨#[114, 101, 115, 97, 108, 101]⟩, .string ⟨#[114, 101, 102, 117, 110, 100]⟩, .string ⟨#[116, 111, 103, 101, 116, 104, 101, 114]⟩, .string ⟨#[115, 105, 110, 103, 108, 101]⟩] := ⟨_, rfl, (Since.s4 bW5 (by omega)), by simp only [World.setCell, World.size_alloc, Array.size_modify, Nat.le_refl], (Blk.o4 k_s (by omega)), (Blk.o4 k_t (by omega)), (Blk.cast (Blk.set (Blk.set (Blk.set (Blk.set k_r 0 _) 1 _) 2 _) 3 _) rfl), (Blk.o4 k_x (by omega)), (Blk.o4 k_ws (by omega))⟩
      rw [hW6]
      clear hW6 k_s k_t k_r k_x k_ws
      have k_s := k2_s
      have k_t := k2_t
      have k_r := k2_r
      have k_x := k2_x
      have k_ws := k2_ws
      clear k2_s k2_t k2_r k2_x k2_ws
      refine hK.out _ _ (fun _ => ⟨k_x, k_s⟩) ?_
      clear hK K
      try simp only [Act.put, List.setIfInBounds_toArray, List.set_cons_zero, List.set_cons_succ]
      refine Foyer.Round.held_done (by kernel_rfl) ?_ _
      go_wp2
      exact bodyPost_ret (results_two rfl _ _ (w.heap.size + 1) (w.heap.size + 1 + 1) _ _ _ _ rfl k_t.range Tryd.underlying38 rfl (by kernel_rfl) rfl k_r.range Tryd.underlying45 rfl (by kernel_rfl)) rfl ⟨⟨_, _, _, rfl, hs_, nil_is _ _ _ _⟩, bW6⟩
    have h := H.out
    rw [if_neg o0] at h
    clear H
    obtain ⟨tt, rr, hleft⟩ := upTo_left (ws := headWords) (s := s) (k := 1) (n := 7) (by rw [NO.out]; exact o0)
    have e0 : (((kd : Nat) : Int) == 0) = false := by simp [o0]
    have q_x0 := k_x.cell (i := 0) rfl
    have q_x1 := k_x.cell (i := 1) rfl
    have q_x2 := k_x.cell (i := 2) rfl
    have q_x3 := k_x.cell (i := 3) rfl
    have q_x4 := k_x.cell (i := 4) rfl
    have q_x5 := k_x.cell (i := 5) rfl
    have q_x6 := k_x.cell (i := 6) rfl
    have q_x7 := k_x.cell (i := 7) rfl
    have q_x8 := k_x.cell (i := 8) rfl
    have q_xf := k_x.free
    have hv' := HV.out
    rw [hleft] at hv'
    obtain ⟨b, off, hpe, hc, -, hb, ht⟩ := hv'.head HB.out
    subst hpe
    have HL2 : Hid (s.left.length = rr.length + 1) := Lib.hid (by rw [hleft]; rfl)
    obtain ⟨s2, hs2⟩ : ∃ z, rNext s = z := ⟨_, rfl⟩
    have hs3 : (⟨rr, s.err, s.pos⟩ : St) = s2 := by rw [← hs2]; unfold rNext; rw [hleft]; rfl
    have hcap1 : ¬ (cap : Int) < 1 := by omega
    have hbw : b < w.heap.size := Nat.lt_of_lt_of_le hb HB.out.size
    have hq : (s.left.headD noTok) = tt := by rw [hleft]; rfl
    rw [hq, hs2] at h
    obtain ⟨⟨nm, sn⟩, h1⟩ : ∃ z, rTake N s2 1 = z := ⟨_, rfl⟩
    obtain ⟨⟨hd, s4⟩, h2⟩ : ∃ z, rHead N kd sn = z := ⟨_, rfl⟩
    obtain ⟨⟨cs, s5⟩, h3⟩ : ∃ z, rConds N s4 = z := ⟨_, rfl⟩
    unfold rBody at h
    simp only [h1, h2, h3] at h
    injection h with e1 e2
    subst e1
    have NF := Lib.hid e2
    clear e2
    have hS2 : SaneS s2 := HS.out.suf (by rw [← hs2]; exact next_suf s)
    have hSn : SaneS sn := hS2.suf (by have := take_suf (N := N) s2 1; rw [h1] at this; exact this)
    have HS4 : Hid (SaneS s4) := Lib.hid (hSn.suf (by have := (head_fit (N := N) hSn kd).1; rw [h2] at this; exact this))
    have HV' := Lib.hid hv'; have NS3 := Lib.hid hs3; have HT := Lib.hid ht; have N1 := Lib.hid h1; have N2 := Lib.hid h2; have N3 := Lib.hid h3
    clear hc hv' hs2 hs3 hleft ht hb hq h1 h2 h3 hS2 hSn
    go_upto_region 10 with fail
    clear q_x0 q_x1 q_x2 q_x3 q_x4 q_x5 q_x6 q_x7 q_x8 q_xf
    rw [HL2.out] at k_s
    have hpos : (0 : Int) < (rr.length : Int) + 1 := by omega
    have ht3 := (World.cell?_of_block (w := w) (bwr.block b hbw)).trans HT.out.pos
    have q_s0 := k_s.cell (i := 0) rfl
    have q_s1 := k_s.cell (i := 1) rfl
    have q_s2 := k_s.cell (i := 2) rfl
    have q_s3 := k_s.cell (i := 3) rfl
    have q_sf := k_s.free
    have q_x0 := k_x.cell (i := 0) rfl
    have q_x1 := k_x.cell (i := 1) rfl
    have q_x2 := k_x.cell (i := 2) rfl
    have q_x3 := k_x.cell (i := 3) rfl
    have q_x4 := k_x.cell (i := 4) rfl
    have q_x5 := k_x.cell (i := 5) rfl
    have q_x6 := k_x.cell (i := 6) rfl
    have q_x7 := k_x.cell (i := 7) rfl
    have q_x8 := k_x.cell (i := 8) rfl
    have q_xf := k_x.free
    go_upto_region 11 with fail
    clear q_s0 q_s1 q_s2 q_s3 q_sf q_x0 q_x1 q_x2 q_x3 q_x4 q_x5 q_x6 q_x7 q_x8 q_xf
    clear ht3 hpos
    obtain ⟨W3, hW3, bW3, sW3, k2_s, k2_t, k2_r, k2_x, k2_ws⟩ : ∃ x, (wr.setCell ⟨w.heap.size + 1 + 1 + 1, 8, none⟩ (.int .i64 (tt.pos : Nat))) = x ∧ Since w x ∧ wr.heap.size ≤ x.heap.size ∧ Blk x (w.heap.size) 45 [.slice (some ⟨b, off, none⟩) (rr.length + 1) cap, .int .i64 (N : Nat), .int .i64 (s.err : Nat), .int .i64 (s.pos : Nat)] ∧ Blk x (w.heap.size + 1) 38 [.int .i64 0, .string ⟨#[]⟩, .slice none 0 0, .int .i64 0, .int .i64 0, .int .i64 0, .int .i64 0, .int .i64 0, .int .i64 0] ∧ Blk x (w.heap.size + 1 + 1) 45 [.slice none 0 0, .int .i64 0, .int .i64 0, .int .i64 0] ∧ Blk x (w.heap.size + 1 + 1 + 1) 38 [.int .i64 (kd : Nat), .string ⟨#[]⟩, .slice none 0 0, .int .i64 0, .int .i64 0, .int .i64 0, .int .i64 0, .int .i64 0, .int .i64 (tt.pos : Nat)] ∧ Blk x (W1.heap.size) 9 [.string ⟨#[97, 108, 108, 111, 119]⟩, .string ⟨#[100, 101, 110, 121]⟩, .string ⟨#[112, 114, 105, 99, 101]⟩, .string ⟨#[114, 101, 115, 97, 108, 101]⟩, .string ⟨#[114, 101, 102, 117, 110, 100]⟩, .string ⟨#[116, 111, 103, 101, 116, 104, 101, 114]⟩, .string ⟨#[115, 105, 110, 103, 108, 101]⟩] := ⟨_, rfl, (Since.s1 bwr (by omega)), by simp only [World.setCell, World.size_alloc, Array.size_modify, Nat.le_refl], (Blk.o1 k_s (by omega)), (Blk.o1 k_t (by omega)), (Blk.o1 k_r (by omega)), (Blk.cast (Blk.set k_x 8 _) rfl), (Blk.o1 k_ws (by omega))⟩
    rw [hW3]
    clear hW3 k_s k_t k_r k_x k_ws
    have k_s := k2_s
    have k_t := k2_t
    have k_r := k2_r
    have k_x := k2_x
    have k_ws := k2_ws
    clear k2_s k2_t k2_r k2_x k2_ws
    have q_s0 := k_s.cell (i := 0) rfl
    have q_s1 := k_s.cell (i := 1) rfl
    have q_s2 := k_s.cell (i := 2) rfl
    have q_s3 := k_s.cell (i := 3) rfl
    have q_sf := k_s.free
    go_cut [54] from 51 (fun v wx => ∃ (p2 : Option Addr) (cap2 : Nat), v = .pointer (some ⟨w.heap.size, 0, none⟩) ∧ Hid (IsSt B p2 cap2 rr) ∧ Hid (Blk wx (w.heap.size) 45 [.slice p2 rr.length cap2, .int .i64 (N : Nat), .int .i64 (s.err : Nat), .int .i64 (s.pos : Nat)]) ∧ Hid (Blk wx (w.heap.size + 1) 38 [.int .i64 0, .string ⟨#[]⟩, .slice none 0 0, .int .i64 0, .int .i64 0, .int .i64 0, .int .i64 0, .int .i64 0, .int .i64 0]) ∧ Hid (Blk wx (w.heap.size + 1 + 1) 45 [.slice none 0 0, .int .i64 0, .int .i64 0, .int .i64 0]) ∧ Hid (Blk wx (w.heap.size + 1 + 1 + 1) 38 [.int .i64 (kd : Nat), .string ⟨#[]⟩, .slice none 0 0, .int .i64 0, .int .i64 0, .int .i64 0, .int .i64 0, .int .i64 0, .int .i64 (tt.pos : Nat)]) ∧ Hid (Blk wx (W1.heap.size) 9 [.string ⟨#[97, 108, 108, 111, 119]⟩, .string ⟨#[100, 101, 110, 121]⟩, .string ⟨#[112, 114, 105, 99, 101]⟩, .string ⟨#[114, 101, 115, 97, 108, 101]⟩, .string ⟨#[114, 101, 102, 117, 110, 100]⟩, .string ⟨#[116, 111, 103, 101, 116, 104, 101, 114]⟩, .string ⟨#[115, 105, 110, 103, 108, 101]⟩]) ∧ Hid (Since w wx) ∧ Hid (W1.heap.size + 1 ≤ wx.heap.size))
    case first =>
      by_cases hc1 : cap = 1
      · subst hc1
        go_wp2
        clear q_s0 q_s1 q_s2 q_s3 q_sf
        obtain ⟨W4, hW4, bW4, sW4, k2_s, k2_t, k2_r, k2_x, k2_ws⟩ : ∃ x, (W3.setCell ⟨w.heap.size, 0, none⟩ (.slice (some ⟨b, off, none⟩) rr.length 0)) = x ∧ Since w x ∧ W3.heap.size ≤ x.heap.size ∧ Blk x (w.heap.size) 45 [.slice (some ⟨b, off, none⟩) rr.length 0, .int .i64 (N : Nat), .int .i64 (s.err : Nat), .int .i64 (s.pos : Nat)] ∧ Blk x (w.heap.size + 1) 38 [.int .i64 0, .string ⟨#[]⟩, .slice none 0 0, .int .i64 0, .int .i64 0, .int .i64 0, .int .i64 0, .int .i64 0, .int .i64 0] ∧ Blk x (w.heap.size + 1 + 1) 45 [.slice none 0 0, .int .i64 0, .int .i64 0, .int .i64 0] ∧ Blk x (w.heap.size + 1 + 1 + 1) 38 [.int .i64 (kd : Nat), .string ⟨#[]⟩, .slice none 0 0, .int .i64 0, .int .i64 0, .int .i64 0, .int .i64 0, .int .i64 0, .int .i64 (tt.pos : Nat)] ∧ Blk x (W1.heap.size) 9 [.string ⟨#[97, 108, 108, 111, 119]⟩, .string ⟨#[100, 101, 110, 121]⟩, .string ⟨#[112, 114, 105, 99, 101]⟩, .string ⟨#[114, 101, 115, 97, 108, 101]⟩, .string ⟨#[114, 101, 102, 117, 110, 100]⟩, .string ⟨#[116, 111, 103, 101, 116, 104, 101, 114]⟩, .string ⟨#[115, 105, 110, 103, 108, 101]⟩] := ⟨_, rfl, (Since.s1 bW3 (by omega)), by simp only [World.setCell, World.size_alloc, Array.size_modify, Nat.le_refl], (Blk.cast (Blk.set k_s 0 _) rfl), (Blk.o1 k_t (by omega)), (Blk.o1 k_r (by omega)), (Blk.o1 k_x (by omega)), (Blk.o1 k_ws (by omega))⟩
        rw [hW4]
        clear hW4 k_s k_t k_r k_x k_ws
        have k_s := k2_s
        have k_t := k2_t
        have k_r := k2_r
        have k_x := k2_x
        have k_ws := k2_ws
        clear k2_s k2_t k2_r k2_x k2_ws
        go_meet
        exact ⟨_, _, rfl, Lib.hid HV'.out.last.2, Lib.hid k_s, Lib.hid k_t, Lib.hid k_r, Lib.hid k_x, Lib.hid k_ws, Lib.hid bW4, Lib.hid (by omega)⟩
      · go_wp2
        clear q_s0 q_s1 q_s2 q_s3 q_sf
        obtain ⟨W4, hW4, bW4, sW4, k2_s, k2_t, k2_r, k2_x, k2_ws⟩ : ∃ x, (W3.setCell ⟨w.heap.size, 0, none⟩ (.slice (some ⟨b, off + 4, none⟩) rr.length (cap - 1))) = x ∧ Since w x ∧ W3.heap.size ≤ x.heap.size ∧ Blk x (w.heap.size) 45 [.slice (some ⟨b, off + 4, none⟩) rr.length (cap - 1), .int .i64 (N : Nat), .int .i64 (s.err : Nat), .int .i64 (s.pos : Nat)] ∧ Blk x (w.heap.size + 1) 38 [.int .i64 0, .string ⟨#[]⟩, .slice none 0 0, .int .i64 0, .int .i64 0, .int .i64 0, .int .i64 0, .int .i64 0, .int .i64 0] ∧ Blk x (w.heap.size + 1 + 1) 45 [.slice none 0 0, .int .i64 0, .int .i64 0, .int .i64 0] ∧ Blk x (w.heap.size + 1 + 1 + 1) 38 [.int .i64 (kd : Nat), .string ⟨#[]⟩, .slice none 0 0, .int .i64 0, .int .i64 0, .int .i64 0, .int .i64 0, .int .i64 0, .int .i64 (tt.pos : Nat)] ∧ Blk x (W1.heap.size) 9 [.string ⟨#[97, 108, 108, 111, 119]⟩, .string ⟨#[100, 101, 110, 121]⟩, .string ⟨#[112, 114, 105, 99, 101]⟩, .string ⟨#[114, 101, 115, 97, 108, 101]⟩, .string ⟨#[114, 101, 102, 117, 110, 100]⟩, .string ⟨#[116, 111, 103, 101, 116, 104, 101, 114]⟩, .string ⟨#[115, 105, 110, 103, 108, 101]⟩] := ⟨_, rfl, (Since.s1 bW3 (by omega)), by simp only [World.setCell, World.size_alloc, Array.size_modify, Nat.le_refl], (Blk.cast (Blk.set k_s 0 _) rfl), (Blk.o1 k_t (by omega)), (Blk.o1 k_r (by omega)), (Blk.o1 k_x (by omega)), (Blk.o1 k_ws (by omega))⟩
        rw [hW4]
        clear hW4 k_s k_t k_r k_x k_ws
        have k_s := k2_s
        have k_t := k2_t
        have k_r := k2_r
        have k_x := k2_x
        have k_ws := k2_ws
        clear k2_s k2_t k2_r k2_x k2_ws
        go_meet
        exact ⟨_, _, rfl, Lib.hid HV'.out.tail, Lib.hid k_s, Lib.hid k_t, Lib.hid k_r, Lib.hid k_x, Lib.hid k_ws, Lib.hid bW4, Lib.hid (by omega)⟩
    case rest =>
    clear q_s0 q_s1 q_s2 q_s3 q_sf
    obtain ⟨p2, cap2, rfl, JV, J_s, J_t, J_r, J_x, J_ws, Jb, Jz⟩ := hcut
    obtain ⟨Wc, hwc⟩ : ∃ z, z = wc := ⟨_, rfl⟩
    subst hwc
    clear k_s k_t k_r k_x k_ws bW3 sW3
    have k_s := J_s.out
    have k_t := J_t.out
    have k_r := J_r.out
    have k_x := J_x.out
    have k_ws := J_ws.out
    have bWc := Jb.out
    have sWc := Jz.out
    clear J_s J_t J_r J_x J_ws Jb Jz
    have hz : IsSt B p2 cap2 s2.left := by rw [← NS3.out]; exact JV.out
    have HV2 := Lib.hid hz
    clear hz JV
    replace k_s : Blk Wc (w.heap.size) 45 [.slice p2 s2.left.length cap2, .int .i64 (N : Nat), .int .i64 (s2.err : Nat), .int .i64 (s2.pos : Nat)] := by rw [← NS3.out]; exact k_s
    have q_s0 := k_s.cell (i := 0) rfl
    have q_s1 := k_s.cell (i := 1) rfl
    have q_s2 := k_s.cell (i := 2) rfl
    have q_s3 := k_s.cell (i := 3) rfl
    have q_sf := k_s.free
    go_wp2_with fail
    refine (rtake_c N1.out B p2 cap2 HV2.out 1 rfl _ (HB.out.trans (bWc.mono HB.out.size))).mono ?_; rintro e W4 ⟨⟨p3, cap3, rfl, hs_⟩, hb⟩
    clear q_s0 q_s1 q_s2 q_s3 q_sf
    have sW4 := Nat.le_trans sWc hb.size
    have bW4 := (bWc).call hb
    replace k_s := k_s.past hb
    replace k_t := k_t.past hb
    replace k_r := k_r.past hb
    replace k_x := k_x.past hb
    replace k_ws := k_ws.past hb
    clear hb bWc sWc
    have HV3 := Lib.hid hs_
    clear hs_
    have q_s0 := (k_s.alloc (.cells #[.int .i64 (nm.kind : Nat), .string ⟨nm.text.toArray⟩, .int .i64 (nm.val : Nat), .int .i64 (nm.pos : Nat)] 54)).cell (i := 0) rfl
    have q_s1 := (k_s.alloc (.cells #[.int .i64 (nm.kind : Nat), .string ⟨nm.text.toArray⟩, .int .i64 (nm.val : Nat), .int .i64 (nm.pos : Nat)] 54)).cell (i := 1) rfl
    have q_s2 := (k_s.alloc (.cells #[.int .i64 (nm.kind : Nat), .string ⟨nm.text.toArray⟩, .int .i64 (nm.val : Nat), .int .i64 (nm.pos : Nat)] 54)).cell (i := 2) rfl
    have q_s3 := (k_s.alloc (.cells #[.int .i64 (nm.kind : Nat), .string ⟨nm.text.toArray⟩, .int .i64 (nm.val : Nat), .int .i64 (nm.pos : Nat)] 54)).cell (i := 3) rfl
    have q_sf := (k_s.alloc (.cells #[.int .i64 (nm.kind : Nat), .string ⟨nm.text.toArray⟩, .int .i64 (nm.val : Nat), .int .i64 (nm.pos : Nat)] 54)).free
    go_upto_region 13 with fail
    clear q_s0 q_s1 q_s2 q_s3 q_sf
    obtain ⟨W5, hW5, bW5, sW5, k2_s, k2_t, k2_r, k2_x, k2_ws, k2_nm⟩ : ∃ x, (((((W4.alloc (.cells #[.int .i64 (nm.kind : Nat), .string ⟨nm.text.toArray⟩, .int .i64 (nm.val : Nat), .int .i64 (nm.pos : Nat)] 54)).setCell ⟨w.heap.size, 0, none⟩ (.slice p3 sn.left.length cap3)).setCell ⟨w.heap.size, 1, none⟩ (.int .i64 (N : Nat))).setCell ⟨w.heap.size, 2, none⟩ (.int .i64 (sn.err : Nat))).setCell ⟨w.heap.size, 3, none⟩ (.int .i64 (sn.pos : Nat))) = x ∧ Since w x ∧ W4.heap.size + 1 ≤ x.heap.size ∧ Blk x (w.heap.size) 45 [.slice p3 sn.left.length cap3, .int .i64 (N : Nat), .int .i64 (sn.err : Nat), .int .i64 (sn.pos : Nat)] ∧ Blk x (w.heap.size + 1) 38 [.int .i64 0, .string ⟨#[]⟩, .slice none 0 0, .int .i64 0, .int .i64 0, .int .i64 0, .int .i64 0, .int .i64 0, .int .i64 0] ∧ Blk x (w.heap.size + 1 + 1) 45 [.slice none 0 0, .int .i64 0, .int .i64 0, .int .i64 0] ∧ Blk x (w.heap.size + 1 + 1 + 1) 38 [.int .i64 (kd : Nat), .string ⟨#[]⟩, .slice none 0 0, .int .i64 0, .int .i64 0, .int .i64 0, .int .i64 0, .int .i64 0, .int .i64 (tt.pos : Nat)] ∧ Blk x (W1.heap.size) 9 [.string ⟨#[97, 108, 108, 111, 119]⟩, .string ⟨#[100, 101, 110, 121]⟩, .string ⟨#[112, 114, 105, 99, 101]⟩, .string ⟨#[114, 101, 115, 97, 108, 101]⟩, .string ⟨#[114, 101, 102, 117, 110, 100]⟩, .string ⟨#[116, 111, 103, 101, 116, 104, 101, 114]⟩, .string ⟨#[115, 105, 110, 103, 108, 101]⟩] ∧ Blk x (W4.heap.size) 54 [.int .i64 (nm.kind : Nat), .string ⟨nm.text.toArray⟩, .int .i64 (nm.val : Nat), .int .i64 (nm.pos : Nat)] := ⟨_, rfl, (Since.s4 (Since.alloc bW4 _) (by omega)), by simp only [World.setCell, World.size_alloc, Array.size_modify, Nat.le_refl], (Blk.cast (Blk.set (Blk.set (Blk.set (Blk.set (Blk.alloc k_s _) 0 _) 1 _) 2 _) 3 _) rfl), (Blk.o4 (Blk.alloc k_t _) (by omega)), (Blk.o4 (Blk.alloc k_r _) (by omega)), (Blk.o4 (Blk.alloc k_x _) (by omega)), (Blk.o4 (Blk.alloc k_ws _) (by omega)), (Blk.o4 (Blk.new' _ _ _ (rfl)) (by omega))⟩
    rw [hW5]
    clear hW5 k_s k_t k_r k_x k_ws
    have k_s := k2_s
    have k_t := k2_t
    have k_r := k2_r
    have k_x := k2_x
    have k_ws := k2_ws
    have k_nm := k2_nm
    clear k2_s k2_t k2_r k2_x k2_ws k2_nm
    have q_nm0 := k_nm.cell (i := 0) rfl
    have q_nm1 := k_nm.cell (i := 1) rfl
    have q_nm2 := k_nm.cell (i := 2) rfl
    have q_nm3 := k_nm.cell (i := 3) rfl
    have q_nmf := k_nm.free
    have q_x0 := k_x.cell (i := 0) rfl
    have q_x1 := k_x.cell (i := 1) rfl
    have q_x2 := k_x.cell (i := 2) rfl
    have q_x3 := k_x.cell (i := 3) rfl
    have q_x4 := k_x.cell (i := 4) rfl
    have q_x5 := k_x.cell (i := 5) rfl
    have q_x6 := k_x.cell (i := 6) rfl
    have q_x7 := k_x.cell (i := 7) rfl
    have q_x8 := k_x.cell (i := 8) rfl
    have q_xf := k_x.free
    go_upto_region 14 with fail
    clear q_nm0 q_nm1 q_nm2 q_nm3 q_nmf q_x0 q_x1 q_x2 q_x3 q_x4 q_x5 q_x6 q_x7 q_x8 q_xf
    obtain ⟨W6, hW6, bW6, sW6, k2_s, k2_t, k2_r, k2_x, k2_ws, k2_nm⟩ : ∃ x, (W5.setCell ⟨w.heap.size + 1 + 1 + 1, 1, none⟩ (.string ⟨nm.text.toArray⟩)) = x ∧ Since w x ∧ W5.heap.size ≤ x.heap.size ∧ Blk x (w.heap.size) 45 [.slice p3 sn.left.length cap3, .int .i64 (N : Nat), .int .i64 (sn.err : Nat), .int .i64 (sn.pos : Nat)] ∧ Blk x (w.heap.size + 1) 38 [.int .i64 0, .string ⟨#[]⟩, .slice none 0 0, .int .i64 0, .int .i64 0, .int .i64 0, .int .i64 0, .int .i64 0, .int .i64 0] ∧ Blk x (w.heap.size + 1 + 1) 45 [.slice none 0 0, .int .i64 0, .int .i64 0, .int .i64 0] ∧ Blk x (w.heap.size + 1 + 1 + 1) 38 [.int .i64 (kd : Nat), .string ⟨nm.text.toArray⟩, .slice none 0 0, .int .i64 0, .int .i64 0, .int .i64 0, .int .i64 0, .int .i64 0, .int .i64 (tt.pos : Nat)] ∧ Blk x (W1.heap.size) 9 [.string ⟨#[97, 108, 108, 111, 119]⟩, .string ⟨#[100, 101, 110, 121]⟩, .string ⟨#[112, 114, 105, 99, 101]⟩, .string ⟨#[114, 101, 115, 97, 108, 101]⟩, .string ⟨#[114, 101, 102, 117, 110, 100]⟩, .string ⟨#[116, 111, 103, 101, 116, 104, 101, 114]⟩, .string ⟨#[115, 105, 110, 103, 108, 101]⟩] ∧ Blk x (W4.heap.size) 54 [.int .i64 (nm.kind : Nat), .string ⟨nm.text.toArray⟩, .int .i64 (nm.val : Nat), .int .i64 (nm.pos : Nat)] := ⟨_, rfl, (Since.s1 bW5 (by omega)), by simp only [World.setCell, World.size_alloc, Array.size_modify, Nat.le_refl], (Blk.o1 k_s (by omega)), (Blk.o1 k_t (by omega)), (Blk.o1 k_r (by omega)), (Blk.cast (Blk.set k_x 1 _) rfl), (Blk.o1 k_ws (by omega)), (Blk.o1 k_nm (by omega))⟩
    rw [hW6]
    clear hW6 k_s k_t k_r k_x k_ws k_nm
    have k_s := k2_s
    have k_t := k2_t
    have k_r := k2_r
    have k_x := k2_x
    have k_ws := k2_ws
    have k_nm := k2_nm
    clear k2_s k2_t k2_r k2_x k2_ws k2_nm
    clear k_ws
    clear k_nm
    by_cases hk1 : kd = 1
    · subst hk1
      have h2 := N2.out
      unfold rHead at h2
      clear N2
      rw [if_pos rfl] at h2
      replace k_x : Blk W6 (w.heap.size + 1 + 1 + 1) 38 [.int .i64 1, .string ⟨nm.text.toArray⟩, .slice none 0 0, .int .i64 0, .int .i64 0, .int .i64 0, .int .i64 0, .int .i64 0, .int .i64 (tt.pos : Nat)] := k_x
      obtain ⟨d1, hd1⟩ : ∃ z, rIs sn 1 wLimit = z := ⟨_, rfl⟩
      rw [hd1] at h2
      have Nd1 := Lib.hid hd1; have N2 := Lib.hid h2
      clear hd1 h2
      have q_x0 := k_x.cell (i := 0) rfl
      have q_x1 := k_x.cell (i := 1) rfl
      have q_x2 := k_x.cell (i := 2) rfl
      have q_x3 := k_x.cell (i := 3) rfl
      have q_x4 := k_x.cell (i := 4) rfl
      have q_x5 := k_x.cell (i := 5) rfl
      have q_x6 := k_x.cell (i := 6) rfl
      have q_x7 := k_x.cell (i := 7) rfl
      have q_x8 := k_x.cell (i := 8) rfl
      have q_xf := k_x.free
      have q_s0 := k_s.cell (i := 0) rfl
      have q_s1 := k_s.cell (i := 1) rfl
      have q_s2 := k_s.cell (i := 2) rfl
      have q_s3 := k_s.cell (i := 3) rfl
      have q_sf := k_s.free
      go_wp2_with fail
      refine (ris_c Nd1.out B p3 cap3 HV3.out 1 rfl _ (HB.out.trans (bW6.mono HB.out.size))).mono ?_; rintro e W7 ⟨rfl, hb⟩
      clear q_x0 q_x1 q_x2 q_x3 q_x4 q_x5 q_x6 q_x7 q_x8 q_xf q_s0 q_s1 q_s2 q_s3 q_sf
      have sW7 := Nat.le_trans sW6 hb.size
      have bW7 := (bW6).call hb
      replace k_s := k_s.past hb
      replace k_t := k_t.past hb
      replace k_r := k_r.past hb
      replace k_x := k_x.past hb
      clear hb bW6 sW6
      have q_s0 := k_s.cell (i := 0) rfl
      have q_s1 := k_s.cell (i := 1) rfl
      have q_s2 := k_s.cell (i := 2) rfl
      have q_s3 := k_s.cell (i := 3) rfl
      have q_sf := k_s.free
      go_upto_if 69 with fail
      go_cut [8, 9] from 70 to 79 (fun t8 t9 wx => ∃ (p4 : Option Addr) (cap4 : Nat), Hid (IsSt B p4 cap4 s4.left) ∧ Hid (Blk wx (w.heap.size) 45 [.slice p4 s4.left.length cap4, .int .i64 (N : Nat), .int .i64 (s4.err : Nat), .int .i64 (s4.pos : Nat)]) ∧ Hid (Blk wx (w.heap.size + 1) 38 [.int .i64 0, .string ⟨#[]⟩, .slice none 0 0, .int .i64 0, .int .i64 0, .int .i64 0, .int .i64 0, .int .i64 0, .int .i64 0]) ∧ Hid (Blk wx (w.heap.size + 1 + 1) 45 [.slice none 0 0, .int .i64 0, .int .i64 0, .int .i64 0]) ∧ Hid (Blk wx (w.heap.size + 1 + 1 + 1) 38 [.int .i64 1, .string ⟨nm.text.toArray⟩, .slice none 0 0, .int .i64 (hd.n : Nat), .int .i64 (hd.rn : Nat), .int .i64 (hd.rd : Nat), .int .i64 (hd.sn : Nat), .int .i64 (hd.sd : Nat), .int .i64 (tt.pos : Nat)]) ∧ Hid (Since w wx) ∧ Hid (W4.heap.size + 1 ≤ wx.heap.size))
      case first =>
        have h2 := N2.out
        cases d1
        · rw [if_neg (by simp)] at h2
          injection h2 with e1 e2
          subst e1 e2
          go_wp2
          clear q_s0 q_s1 q_s2 q_s3 q_sf
          go_meet
          exact ⟨_, _, HV3, Lib.hid k_s, Lib.hid k_t, Lib.hid k_r, Lib.hid k_x, Lib.hid bW7, Lib.hid (by omega)⟩
        · rw [if_pos rfl] at h2
          obtain ⟨sw, h5⟩ : ∃ z, rWord N sn wLimit = z := ⟨_, rfl⟩
          rw [h5] at h2
          obtain ⟨⟨m, sm⟩, h6⟩ : ∃ z, rTake N sw 2 = z := ⟨_, rfl⟩
          rw [h6] at h2
          injection h2 with e1 e2
          subst e1 e2
          have N5 := Lib.hid h5; have N6 := Lib.hid h6
          clear h5 h6
          go_wp2_with fail
          refine (rword_c N5.out B p3 cap3 HV3.out  _ (HB.out.trans (bW7.mono HB.out.size))).mono ?_; rintro e W8 ⟨⟨p6, cap6, rfl, hs_⟩, hb⟩
          clear q_s0 q_s1 q_s2 q_s3 q_sf
          have sW8 := Nat.le_trans sW7 hb.size
          have bW8 := (bW7).call hb
          replace k_s := k_s.past hb
          replace k_t := k_t.past hb
          replace k_r := k_r.past hb
          replace k_x := k_x.past hb
          clear hb bW7 sW7
          have HV6 := Lib.hid hs_
          clear hs_
          go_wp2_with fail
          refine (rtake_c N6.out B p6 cap6 HV6.out 2 rfl _ (HB.out.trans (bW8.mono HB.out.size))).mono ?_; rintro e W9 ⟨⟨p7, cap7, rfl, hs_⟩, hb⟩
          have sW9 := Nat.le_trans sW8 hb.size
          have bW9 := (bW8).call hb
          replace k_s := k_s.past hb
          replace k_t := k_t.past hb
          replace k_r := k_r.past hb
          replace k_x := k_x.past hb
          clear hb bW8 sW8
          have HV7 := Lib.hid hs_
          clear hs_
          go_upto_region 16 with fail
          obtain ⟨W10, hW10, bW10, sW10, k2_s, k2_t, k2_r, k2_x, k2_m, k2_u⟩ : ∃ x, ((W9.alloc (.cells #[.int .i64 (m.kind : Nat), .string ⟨m.text.toArray⟩, .int .i64 (m.val : Nat), .int .i64 (m.pos : Nat)] 54)).alloc (.cells #[.slice p7 sm.left.length cap7, .int .i64 (N : Nat), .int .i64 (sm.err : Nat), .int .i64 (sm.pos : Nat)] 45)) = x ∧ Since w x ∧ W9.heap.size + 1 + 1 ≤ x.heap.size ∧ Blk x (w.heap.size) 45 [.slice p3 sn.left.length cap3, .int .i64 (N : Nat), .int .i64 (sn.err : Nat), .int .i64 (sn.pos : Nat)] ∧ Blk x (w.heap.size + 1) 38 [.int .i64 0, .string ⟨#[]⟩, .slice none 0 0, .int .i64 0, .int .i64 0, .int .i64 0, .int .i64 0, .int .i64 0, .int .i64 0] ∧ Blk x (w.heap.size + 1 + 1) 45 [.slice none 0 0, .int .i64 0, .int .i64 0, .int .i64 0] ∧ Blk x (w.heap.size + 1 + 1 + 1) 38 [.int .i64 1, .string ⟨nm.text.toArray⟩, .slice none 0 0, .int .i64 0, .int .i64 0, .int .i64 0, .int .i64 0, .int .i64 0, .int .i64 (tt.pos : Nat)] ∧ Blk x (W9.heap.size) 54 [.int .i64 (m.kind : Nat), .string ⟨m.text.toArray⟩, .int .i64 (m.val : Nat), .int .i64 (m.pos : Nat)] ∧ Blk x (W9.heap.size + 1) 45 [.slice p7 sm.left.length cap7, .int .i64 (N : Nat), .int .i64 (sm.err : Nat), .int .i64 (sm.pos : Nat)] := ⟨_, rfl, (Since.alloc (Since.alloc bW9 _) _), by simp only [World.setCell, World.size_alloc, Array.size_modify, Nat.le_refl], (Blk.alloc (Blk.alloc k_s _) _), (Blk.alloc (Blk.alloc k_t _) _), (Blk.alloc (Blk.alloc k_r _) _), (Blk.alloc (Blk.alloc k_x _) _), (Blk.alloc (Blk.new' _ _ _ (rfl)) _), (Blk.new' _ _ _ (by simp only [World.size_alloc]))⟩
          rw [hW10]
          clear hW10 k_s k_t k_r k_x
          have k_s := k2_s
          have k_t := k2_t
          have k_r := k2_r
          have k_x := k2_x
          have k_m := k2_m
          have k_u := k2_u
          clear k2_s k2_t k2_r k2_x k2_m k2_u
          have q_m0 := k_m.cell (i := 0) rfl
          have q_m1 := k_m.cell (i := 1) rfl
          have q_m2 := k_m.cell (i := 2) rfl
          have q_m3 := k_m.cell (i := 3) rfl
          have q_mf := k_m.free
          have q_x0 := k_x.cell (i := 0) rfl
          have q_x1 := k_x.cell (i := 1) rfl
          have q_x2 := k_x.cell (i := 2) rfl
          have q_x3 := k_x.cell (i := 3) rfl
          have q_x4 := k_x.cell (i := 4) rfl
          have q_x5 := k_x.cell (i := 5) rfl
          have q_x6 := k_x.cell (i := 6) rfl
          have q_x7 := k_x.cell (i := 7) rfl
          have q_x8 := k_x.cell (i := 8) rfl
          have q_xf := k_x.free
          have q_u0 := k_u.cell (i := 0) rfl
          have q_u1 := k_u.cell (i := 1) rfl
          have q_u2 := k_u.cell (i := 2) rfl
          have q_u3 := k_u.cell (i := 3) rfl
          have q_uf := k_u.free
          have q_s0 := k_s.cell (i := 0) rfl
          have q_s1 := k_s.cell (i := 1) rfl
          have q_s2 := k_s.cell (i := 2) rfl
          have q_s3 := k_s.cell (i := 3) rfl
          have q_sf := k_s.free
          go_wp2
          clear q_m0 q_m1 q_m2 q_m3 q_mf q_x0 q_x1 q_x2 q_x3 q_x4 q_x5 q_x6 q_x7 q_x8 q_xf q_u0 q_u1 q_u2 q_u3 q_uf q_s0 q_s1 q_s2 q_s3 q_sf
          obtain ⟨W11, hW11, bW11, sW11, k2_s, k2_t, k2_r, k2_x, k2_m, k2_u⟩ : ∃ x, (((((W10.setCell ⟨w.heap.size + 1 + 1 + 1, 3, none⟩ (.int .i64 (m.val : Nat))).setCell ⟨w.heap.size, 0, none⟩ (.slice p7 sm.left.length cap7)).setCell ⟨w.heap.size, 1, none⟩ (.int .i64 (N : Nat))).setCell ⟨w.heap.size, 2, none⟩ (.int .i64 (sm.err : Nat))).setCell ⟨w.heap.size, 3, none⟩ (.int .i64 (sm.pos : Nat))) = x ∧ Since w x ∧ W10.heap.size ≤ x.heap.size ∧ Blk x (w.heap.size) 45 [.slice p7 sm.left.length cap7, .int .i64 (N : Nat), .int .i64 (sm.err : Nat), .int .i64 (sm.pos : Nat)] ∧ Blk x (w.heap.size + 1) 38 [.int .i64 0, .string ⟨#[]⟩, .slice none 0 0, .int .i64 0, .int .i64 0, .int .i64 0, .int .i64 0, .int .i64 0, .int .i64 0] ∧ Blk x (w.heap.size + 1 + 1) 45 [.slice none 0 0, .int .i64 0, .int .i64 0, .int .i64 0] ∧ Blk x (w.heap.size + 1 + 1 + 1) 38 [.int .i64 1, .string ⟨nm.text.toArray⟩, .slice none 0 0, .int .i64 (m.val : Nat), .int .i64 0, .int .i64 0, .int .i64 0, .int .i64 0, .int .i64 (tt.pos : Nat)] ∧ Blk x (W9.heap.size) 54 [.int .i64 (m.kind : Nat), .string ⟨m.text.toArray⟩, .int .i64 (m.val : Nat), .int .i64 (m.pos : Nat)] ∧ Blk x (W9.heap.size + 1) 45 [.slice p7 sm.left.length cap7, .int .i64 (N : Nat), .int .i64 (sm.err : Nat), .int .i64 (sm.pos : Nat)] := ⟨_, rfl, (Since.s4 (Since.s1 bW10 (by omega)) (by omega)), by simp only [World.setCell, World.size_alloc, Array.size_modify, Nat.le_refl], (Blk.cast (Blk.set (Blk.set (Blk.set (Blk.set (Blk.o1 k_s (by omega)) 0 _) 1 _) 2 _) 3 _) rfl), (Blk.o4 (Blk.o1 k_t (by omega)) (by omega)), (Blk.o4 (Blk.o1 k_r (by omega)) (by omega)), (Blk.o4 (Blk.cast (Blk.set k_x 3 _) rfl) (by omega)), (Blk.o4 (Blk.o1 k_m (by omega)) (by omega)), (Blk.o4 (Blk.o1 k_u (by omega)) (by omega))⟩
          rw [hW11]
          clear hW11 k_s k_t k_r k_x k_m k_u
          have k_s := k2_s
          have k_t := k2_t
          have k_r := k2_r
          have k_x := k2_x
          have k_m := k2_m
          have k_u := k2_u
          clear k2_s k2_t k2_r k2_x k2_m k2_u
          go_meet
          exact ⟨_, _, HV7, Lib.hid k_s, Lib.hid k_t, Lib.hid k_r, Lib.hid k_x, Lib.hid bW11, Lib.hid (by omega)⟩
      case rest =>
      clear q_s0 q_s1 q_s2 q_s3 q_sf
      obtain ⟨p4, cap4, HV4, J_s, J_t, J_r, J_x, Jb, Jz⟩ := hcut
      obtain ⟨We, hwc⟩ : ∃ z, z = wc := ⟨_, rfl⟩
      subst hwc
      clear k_s k_t k_r k_x bW7 sW7
      have k_s := J_s.out
      have k_t := J_t.out
      have k_r := J_r.out
      have k_x := J_x.out
      have bWe := Jb.out
      have sWe := Jz.out
      clear J_s J_t J_r J_x Jb Jz
      have q_x0 := k_x.cell (i := 0) rfl
      have q_x1 := k_x.cell (i := 1) rfl
      have q_x2 := k_x.cell (i := 2) rfl
      have q_x3 := k_x.cell (i := 3) rfl
      have q_x4 := k_x.cell (i := 4) rfl
      have q_x5 := k_x.cell (i := 5) rfl
      have q_x6 := k_x.cell (i := 6) rfl
      have q_x7 := k_x.cell (i := 7) rfl
      have q_x8 := k_x.cell (i := 8) rfl
      have q_xf := k_x.free
      go_upto_region 42 with fail
      clear q_x0 q_x1 q_x2 q_x3 q_x4 q_x5 q_x6 q_x7 q_x8 q_xf
      obtain ⟨dw, hdw⟩ : ∃ z, rIs s4 1 wWhen = z := ⟨_, rfl⟩
      have Ndw := Lib.hid hdw
      clear hdw
      have q_s0 := k_s.cell (i := 0) rfl
      have q_s1 := k_s.cell (i := 1) rfl
      have q_s2 := k_s.cell (i := 2) rfl
      have q_s3 := k_s.cell (i := 3) rfl
      have q_sf := k_s.free
      go_wp2_with fail
      refine (ris_c Ndw.out B p4 cap4 HV4.out 1 rfl _ (HB.out.trans (bWe.mono HB.out.size))).mono ?_; rintro e W8 ⟨rfl, hb⟩
      clear q_s0 q_s1 q_s2 q_s3 q_sf
      have sW8 := Nat.le_trans sWe hb.size
      have bW8 := (bWe).call hb
      replace k_s := k_s.past hb
      replace k_t := k_t.past hb
      replace k_r := k_r.past hb
      replace k_x := k_x.past hb
      clear hb bWe sWe
      have hlow : W1.heap.size ≤ W8.heap.size := by omega
      have q_s0 := k_s.cell (i := 0) rfl
      have q_s1 := k_s.cell (i := 1) rfl
      have q_s2 := k_s.cell (i := 2) rfl
      have q_s3 := k_s.cell (i := 3) rfl
      have q_sf := k_s.free
      go_upto_if 150 with fail
      go_cut [21, 22] from 151 to 159 (fun t21 t22 wx => ∃ (lv : Value) (p5 : Option Addr) (cap5 : Nat), Hid (IsSt B p5 cap5 s5.left) ∧ Hid (IsList testsK wx (fun k => W1.heap.size ≤ k) 33 lv cs) ∧ Hid (Blk wx (w.heap.size) 45 [.slice p5 s5.left.length cap5, .int .i64 (N : Nat), .int .i64 (s5.err : Nat), .int .i64 (s5.pos : Nat)]) ∧ Hid (Blk wx (w.heap.size + 1) 38 [.int .i64 0, .string ⟨#[]⟩, .slice none 0 0, .int .i64 0, .int .i64 0, .int .i64 0, .int .i64 0, .int .i64 0, .int .i64 0]) ∧ Hid (Blk wx (w.heap.size + 1 + 1) 45 [.slice none 0 0, .int .i64 0, .int .i64 0, .int .i64 0]) ∧ Hid (Blk wx (w.heap.size + 1 + 1 + 1) 38 [.int .i64 1, .string ⟨nm.text.toArray⟩, lv, .int .i64 (hd.n : Nat), .int .i64 (hd.rn : Nat), .int .i64 (hd.rd : Nat), .int .i64 (hd.sn : Nat), .int .i64 (hd.sd : Nat), .int .i64 (tt.pos : Nat)]) ∧ Hid (Since w wx) ∧ Hid (W4.heap.size + 1 ≤ wx.heap.size))
      case first =>
        have h3 := N3.out
        unfold rConds at h3
        rw [Ndw.out] at h3
        cases dw
        · rw [if_neg (by simp)] at h3
          injection h3 with e1 e2
          subst e1 e2
          go_wp2
          clear q_s0 q_s1 q_s2 q_s3 q_sf
          go_meet
          exact ⟨_, _, _, HV4, Lib.hid (nil_is _ _ _ _), Lib.hid k_s, Lib.hid k_t, Lib.hid k_r, Lib.hid k_x, Lib.hid bW8, Lib.hid (by omega)⟩
        · rw [if_pos rfl] at h3
          obtain ⟨sw, h5⟩ : ∃ z, rWord N s4 wWhen = z := ⟨_, rfl⟩
          rw [h5] at h3
          have hSw : SaneS sw := HS4.out.suf (by rw [← h5]; exact word_suf _ _)
          have HSw := Lib.hid hSw; have N5 := Lib.hid h5; have N6 := Lib.hid h3
          clear hSw h5 h3
          go_wp2_with fail
          refine (rword_c N5.out B p4 cap4 HV4.out  _ (HB.out.trans (bW8.mono HB.out.size))).mono ?_; rintro e W9 ⟨⟨p6, cap6, rfl, hs_⟩, hb⟩
          clear q_s0 q_s1 q_s2 q_s3 q_sf
          have sW9 := Nat.le_trans sW8 hb.size
          have bW9 := (bW8).call hb
          replace k_s := k_s.past hb
          replace k_t := k_t.past hb
          replace k_r := k_r.past hb
          replace k_x := k_x.past hb
          clear hb bW8 sW8
          have HV6 := Lib.hid hs_
          clear hs_
          have hlow2 : W1.heap.size ≤ W9.heap.size := by omega
          go_wp2_with fail
          refine (rwhen_c N6.out HSw.out B p6 cap6 HV6.out _ (HB.out.trans (bW9.mono HB.out.size))).mono ?_; rintro e W10 ⟨⟨lv, pw, cw, rfl, hs_, hl_⟩, hb⟩
          have sW10 := Nat.le_trans sW9 hb.size
          have bW10 := (bW9).call hb
          replace k_s := k_s.past hb
          replace k_t := k_t.past hb
          replace k_r := k_r.past hb
          replace k_x := k_x.past hb
          clear hb bW9 sW9
          have HVw := Lib.hid hs_
          clear hs_
          obtain ⟨la, lc, hlv⟩ := hl_.len
          subst hlv
          have HLw := Lib.hid hl_
          clear hl_
          go_upto_region 44 with fail
          obtain ⟨W11, hW11, bW11, sW11, kpW11, k2_s, k2_t, k2_r, k2_x, k2_u⟩ : ∃ x, (W10.alloc (.cells #[.slice pw s5.left.length cw, .int .i64 (N : Nat), .int .i64 (s5.err : Nat), .int .i64 (s5.pos : Nat)] 45)) = x ∧ Since w x ∧ W10.heap.size + 1 ≤ x.heap.size ∧ Kp (fun k => k < W1.heap.size) W10 x ∧ Blk x (w.heap.size) 45 [.slice p4 s4.left.length cap4, .int .i64 (N : Nat), .int .i64 (s4.err : Nat), .int .i64 (s4.pos : Nat)] ∧ Blk x (w.heap.size + 1) 38 [.int .i64 0, .string ⟨#[]⟩, .slice none 0 0, .int .i64 0, .int .i64 0, .int .i64 0, .int .i64 0, .int .i64 0, .int .i64 0] ∧ Blk x (w.heap.size + 1 + 1) 45 [.slice none 0 0, .int .i64 0, .int .i64 0, .int .i64 0] ∧ Blk x (w.heap.size + 1 + 1 + 1) 38 [.int .i64 1, .string ⟨nm.text.toArray⟩, .slice none 0 0, .int .i64 (hd.n : Nat), .int .i64 (hd.rn : Nat), .int .i64 (hd.rd : Nat), .int .i64 (hd.sn : Nat), .int .i64 (hd.sd : Nat), .int .i64 (tt.pos : Nat)] ∧ Blk x (W10.heap.size) 45 [.slice pw s5.left.length cw, .int .i64 (N : Nat), .int .i64 (s5.err : Nat), .int .i64 (s5.pos : Nat)] := ⟨_, rfl, (Since.alloc bW10 _), by simp only [World.setCell, World.size_alloc, Array.size_modify, Nat.le_refl], (Kp.alloc (Kp.refl _ _) _), (Blk.alloc k_s _), (Blk.alloc k_t _), (Blk.alloc k_r _), (Blk.alloc k_x _), (Blk.new' _ _ _ (rfl))⟩
          rw [hW11]
          clear hW11 k_s k_t k_r k_x
          have k_s := k2_s
          have k_t := k2_t
          have k_r := k2_r
          have k_x := k2_x
          have k_u := k2_u
          clear k2_s k2_t k2_r k2_x k2_u
          have q_x0 := k_x.cell (i := 0) rfl
          have q_x1 := k_x.cell (i := 1) rfl
          have q_x2 := k_x.cell (i := 2) rfl
          have q_x3 := k_x.cell (i := 3) rfl
          have q_x4 := k_x.cell (i := 4) rfl
          have q_x5 := k_x.cell (i := 5) rfl
          have q_x6 := k_x.cell (i := 6) rfl
          have q_x7 := k_x.cell (i := 7) rfl
          have q_x8 := k_x.cell (i := 8) rfl
          have q_xf := k_x.free
          have q_u0 := k_u.cell (i := 0) rfl
          have q_u1 := k_u.cell (i := 1) rfl
          have q_u2 := k_u.cell (i := 2) rfl
          have q_u3 := k_u.cell (i := 3) rfl
          have q_uf := k_u.free
          have q_s0 := k_s.cell (i := 0) rfl
          have q_s1 := k_s.cell (i := 1) rfl
          have q_s2 := k_s.cell (i := 2) rfl
          have q_s3 := k_s.cell (i := 3) rfl
          have q_sf := k_s.free
          go_wp2
          clear q_x0 q_x1 q_x2 q_x3 q_x4 q_x5 q_x6 q_x7 q_x8 q_xf q_u0 q_u1 q_u2 q_u3 q_uf q_s0 q_s1 q_s2 q_s3 q_sf
          obtain ⟨W12, hW12, bW12, sW12, kpW12, k2_s, k2_t, k2_r, k2_x, k2_u⟩ : ∃ x, (((((W11.setCell ⟨w.heap.size + 1 + 1 + 1, 2, none⟩ (.slice la cs.length lc)).setCell ⟨w.heap.size, 0, none⟩ (.slice pw s5.left.length cw)).setCell ⟨w.heap.size, 1, none⟩ (.int .i64 (N : Nat))).setCell ⟨w.heap.size, 2, none⟩ (.int .i64 (s5.err : Nat))).setCell ⟨w.heap.size, 3, none⟩ (.int .i64 (s5.pos : Nat))) = x ∧ Since w x ∧ W11.heap.size ≤ x.heap.size ∧ Kp (fun k => k < W1.heap.size) W10 x ∧ Blk x (w.heap.size) 45 [.slice pw s5.left.length cw, .int .i64 (N : Nat), .int .i64 (s5.err : Nat), .int .i64 (s5.pos : Nat)] ∧ Blk x (w.heap.size + 1) 38 [.int .i64 0, .string ⟨#[]⟩, .slice none 0 0, .int .i64 0, .int .i64 0, .int .i64 0, .int .i64 0, .int .i64 0, .int .i64 0] ∧ Blk x (w.heap.size + 1 + 1) 45 [.slice none 0 0, .int .i64 0, .int .i64 0, .int .i64 0] ∧ Blk x (w.heap.size + 1 + 1 + 1) 38 [.int .i64 1, .string ⟨nm.text.toArray⟩, .slice la cs.length lc, .int .i64 (hd.n : Nat), .int .i64 (hd.rn : Nat), .int .i64 (hd.rd : Nat), .int .i64 (hd.sn : Nat), .int .i64 (hd.sd : Nat), .int .i64 (tt.pos : Nat)] ∧ Blk x (W10.heap.size) 45 [.slice pw s5.left.length cw, .int .i64 (N : Nat), .int .i64 (s5.err : Nat), .int .i64 (s5.pos : Nat)] := ⟨_, rfl, (Since.s4 (Since.s1 bW11 (by omega)) (by omega)), by simp only [World.setCell, World.size_alloc, Array.size_modify, Nat.le_refl], (Kp.s4 (Kp.s1 kpW11 (Or.inl (show w.heap.size + 1 + 1 + 1 < W1.heap.size by omega))) (Or.inl (show w.heap.size < W1.heap.size by omega))), (Blk.cast (Blk.set (Blk.set (Blk.set (Blk.set (Blk.o1 k_s (by omega)) 0 _) 1 _) 2 _) 3 _) rfl), (Blk.o4 (Blk.o1 k_t (by omega)) (by omega)), (Blk.o4 (Blk.o1 k_r (by omega)) (by omega)), (Blk.o4 (Blk.cast (Blk.set k_x 2 _) rfl) (by omega)), (Blk.o4 (Blk.o1 k_u (by omega)) (by omega))⟩
          rw [hW12]
          clear hW12 k_s k_t k_r k_x k_u
          have k_s := k2_s
          have k_t := k2_t
          have k_r := k2_r
          have k_x := k2_x
          have k_u := k2_u
          clear k2_s k2_t k2_r k2_x k2_u
          go_meet
          exact ⟨_, _, _, HVw, Lib.hid ((HLw.out.kept (fun k hk hlt => kpW12.block k hlt (by omega))).mono (fun k hk _ => by omega)), Lib.hid k_s, Lib.hid k_t, Lib.hid k_r, Lib.hid k_x, Lib.hid bW12, Lib.hid (by omega)⟩
      case rest =>
      clear q_s0 q_s1 q_s2 q_s3 q_sf
      obtain ⟨lv, p5, cap5, HV5, HLS, J_s, J_t, J_r, J_x, Jb, Jz⟩ := hcut
      obtain ⟨Wd, hwc⟩ : ∃ z, z = wc := ⟨_, rfl⟩
      subst hwc
      clear k_s k_t k_r k_x bW8 sW8
      have k_s := J_s.out
      have k_t := J_t.out
      have k_r := J_r.out
      have k_x := J_x.out
      have bWd := Jb.out
      have sWd := Jz.out
      clear J_s J_t J_r J_x Jb Jz
      obtain ⟨la, lc, hlv⟩ := HLS.out.len
      subst hlv
      go_upto_region 46 with fail
      refine wp_region_any (by kernel_rfl) ?_
      refine Foyer.Round.any_of_held (S := fun W => Blk W (w.heap.size + 1 + 1 + 1) 38 [.int .i64 1, .string ⟨nm.text.toArray⟩, .slice la cs.length lc, .int .i64 (hd.n : Nat), .int .i64 (hd.rn : Nat), .int .i64 (hd.rd : Nat), .int .i64 (hd.sn : Nat), .int .i64 (hd.sd : Nat), .int .i64 (tt.pos : Nat)] ∧ Blk W (w.heap.size) 45 [.slice p5 s5.left.length cap5, .int .i64 (N : Nat), .int .i64 (s5.err : Nat), .int .i64 (s5.pos : Nat)]) (N := [4]) _ _ _ _ ?_
      change Foyer.Round.held _ _ _ _ _ _ _ _ _ Wd.drew
      obtain ⟨W9, hW9⟩ : ∃ x, Wd.drew = x := ⟨_, rfl⟩
      have bW9 : Since w W9 := by rw [← hW9]; exact Below.drew bWd
      have sW9 := sWd
      rw [show Wd.heap.size = W9.heap.size from by rw [← hW9]; rfl] at sW9
      replace k_s : Blk W9 (w.heap.size) 45 [.slice p5 s5.left.length cap5, .int .i64 (N : Nat), .int .i64 (s5.err : Nat), .int .i64 (s5.pos : Nat)] := by rw [← hW9]; exact k_s
      replace k_t : Blk W9 (w.heap.size + 1) 38 [.int .i64 0, .string ⟨#[]⟩, .slice none 0 0, .int .i64 0, .int .i64 0, .int .i64 0, .int .i64 0, .int .i64 0, .int .i64 0] := by rw [← hW9]; exact k_t
      replace k_r : Blk W9 (w.heap.size + 1 + 1) 45 [.slice none 0 0, .int .i64 0, .int .i64 0, .int .i64 0] := by rw [← hW9]; exact k_r
      replace k_x : Blk W9 (w.heap.size + 1 + 1 + 1) 38 [.int .i64 1, .string ⟨nm.text.toArray⟩, .slice la cs.length lc, .int .i64 (hd.n : Nat), .int .i64 (hd.rn : Nat), .int .i64 (hd.rd : Nat), .int .i64 (hd.sn : Nat), .int .i64 (hd.sd : Nat), .int .i64 (tt.pos : Nat)] := by rw [← hW9]; exact k_x
      have kpW9 : Kp (fun k => k < W1.heap.size) Wd W9 := by rw [← hW9]; exact Kp.drew (Kp.refl (fun k => k < W1.heap.size) Wd)
      rw [hW9]
      clear hW9 bWd sWd
      refine Foyer.Round.held_take [4] (i := 0) (v := .agg #[.int .i64 1, .string ⟨nm.text.toArray⟩, .slice la cs.length lc, .int .i64 (hd.n : Nat), .int .i64 (hd.rn : Nat), .int .i64 (hd.rd : Nat), .int .i64 (hd.sn : Nat), .int .i64 (hd.sd : Nat), .int .i64 (tt.pos : Nat)]) rfl (by kernel_rfl) (fun _ _ _ h => h) (Or.inl ⟨by rfl, fun w' hS => by have r_x0 := (show Blk _ _ _ _ from hS.1).cell (i := 0) rfl; have r_x1 := (show Blk _ _ _ _ from hS.1).cell (i := 1) rfl; have r_x2 := (show Blk _ _ _ _ from hS.1).cell (i := 2) rfl; have r_x3 := (show Blk _ _ _ _ from hS.1).cell (i := 3) rfl; have r_x4 := (show Blk _ _ _ _ from hS.1).cell (i := 4) rfl; have r_x5 := (show Blk _ _ _ _ from hS.1).cell (i := 5) rfl; have r_x6 := (show Blk _ _ _ _ from hS.1).cell (i := 6) rfl; have r_x7 := (show Blk _ _ _ _ from hS.1).cell (i := 7) rfl; have r_x8 := (show Blk _ _ _ _ from hS.1).cell (i := 8) rfl; go_simp⟩) (⟨k_x, k_s⟩) ?_
      try simp only [Act.put, List.setIfInBounds_toArray, List.set_cons_zero, List.set_cons_succ]
      refine Foyer.Round.held_take [4] (i := 1) (v := .agg #[.slice p5 s5.left.length cap5, .int .i64 (N : Nat), .int .i64 (s5.err : Nat), .int .i64 (s5.pos : Nat)]) rfl (by kernel_rfl) (fun _ _ _ h => h) (Or.inl ⟨by rfl, fun w' hS => by have r_s0 := (show Blk _ _ _ _ from hS.2).cell (i := 0) rfl; have r_s1 := (show Blk _ _ _ _ from hS.2).cell (i := 1) rfl; have r_s2 := (show Blk _ _ _ _ from hS.2).cell (i := 2) rfl; have r_s3 := (show Blk _ _ _ _ from hS.2).cell (i := 3) rfl; go_simp⟩) (⟨k_x, k_s⟩) ?_
      try simp only [Act.put, List.setIfInBounds_toArray, List.set_cons_zero, List.set_cons_succ]
      refine Foyer.Round.held_one (i := 2) rfl (by kernel_rfl) (fun K hK => ?_)
      go_simp
      refine (rword_c NF.out B p5 cap5 HV5.out _ (HB.out.trans (bW9.mono HB.out.size))).mono ?_; rintro e W10 ⟨⟨p8, cap8, rfl, hs_⟩, hb⟩
      have sW10 := Nat.le_trans sW9 hb.size
      have bW10 := (bW9).call hb
      replace k_s := k_s.past hb
      replace k_t := k_t.past hb
      replace k_r := k_r.past hb
      replace k_x := k_x.past hb
      have kpW10 := (kpW9).trans (Kp.of_below hb)
      clear hb bW9 sW9
      refine hK.out _ _ (fun _ => ⟨k_x, k_s⟩) ?_
      clear hK K
      try simp only [Act.put, List.setIfInBounds_toArray, List.set_cons_zero, List.set_cons_succ]
      have q_t0 := k_t.cell (i := 0) rfl
      have q_t1 := k_t.cell (i := 1) rfl
      have q_t2 := k_t.cell (i := 2) rfl
      have q_t3 := k_t.cell (i := 3) rfl
      have q_t4 := k_t.cell (i := 4) rfl
      have q_t5 := k_t.cell (i := 5) rfl
      have q_t6 := k_t.cell (i := 6) rfl
      have q_t7 := k_t.cell (i := 7) rfl
      have q_t8 := k_t.cell (i := 8) rfl
      have q_tf := k_t.free
      refine Foyer.Round.held_one (i := 3) rfl (by kernel_rfl) (fun K hK => ?_)
      go_simp
      clear q_t0 q_t1 q_t2 q_t3 q_t4 q_t5 q_t6 q_t7 q_t8 q_tf
      obtain ⟨W11, hW11, bW11, sW11, kpW11, k2_s, k2_t, k2_r, k2_x⟩ : ∃ x, (((((((((W10.setCell ⟨w.heap.size + 1, 0, none⟩ (.int .i64 1)).setCell ⟨w.heap.size + 1, 1, none⟩ (.string ⟨nm.text.toArray⟩)).setCell ⟨w.heap.size + 1, 2, none⟩ (.slice la cs.length lc)).setCell ⟨w.heap.size + 1, 3, none⟩ (.int .i64 (hd.n : Nat))).setCell ⟨w.heap.size + 1, 4, none⟩ (.int .i64 (hd.rn : Nat))).setCell ⟨w.heap.size + 1, 5, none⟩ (.int .i64 (hd.rd : Nat))).setCell ⟨w.heap.size + 1, 6, none⟩ (.int .i64 (hd.sn : Nat))).setCell ⟨w.heap.size + 1, 7, none⟩ (.int .i64 (hd.sd : Nat))).setCell ⟨w.heap.size + 1, 8, none⟩ (.int .i64 (tt.pos : Nat))) = x ∧ Since w x ∧ W10.heap.size ≤ x.heap.size ∧ Kp (fun k => k < W1.heap.size) Wd x ∧ Blk x (w.heap.size) 45 [.slice p5 s5.left.length cap5, .int .i64 (N : Nat), .int .i64 (s5.err : Nat), .int .i64 (s5.pos : Nat)] ∧ Blk x (w.heap.size + 1) 38 [.int .i64 1, .string ⟨nm.text.toArray⟩, .slice la cs.length lc, .int .i64 (hd.n : Nat), .int .i64 (hd.rn : Nat), .int .i64 (hd.rd : Nat), .int .i64 (hd.sn : Nat), .int .i64 (hd.sd : Nat), .int .i64 (tt.pos : Nat)] ∧ Blk x (w.heap.size + 1 + 1) 45 [.slice none 0 0, .int .i64 0, .int .i64 0, .int .i64 0] ∧ Blk x (w.heap.size + 1 + 1 + 1) 38 [.int .i64 1, .string ⟨nm.text.toArray⟩, .slice la cs.length lc, .int .i64 (hd.n : Nat), .int .i64 (hd.rn : Nat), .int .i64 (hd.rd : Nat), .int .i64 (hd.sn : Nat), .int .i64 (hd.sd : Nat), .int .i64 (tt.pos : Nat)] := ⟨_, rfl, (Since.s1 (Since.s4 (Since.s4 bW10 (by omega)) (by omega)) (by omega)), by simp only [World.setCell, World.size_alloc, Array.size_modify, Nat.le_refl], (Kp.s1 (Kp.s4 (Kp.s4 kpW10 (Or.inl (show w.heap.size + 1 < W1.heap.size by omega))) (Or.inl (show w.heap.size + 1 < W1.heap.size by omega))) (Or.inl (show w.heap.size + 1 < W1.heap.size by omega))), (Blk.o1 (Blk.o4 (Blk.o4 k_s (by omega)) (by omega)) (by omega)), (Blk.cast (Blk.set (Blk.set (Blk.set (Blk.set (Blk.set (Blk.set (Blk.set (Blk.set (Blk.set k_t 0 _) 1 _) 2 _) 3 _) 4 _) 5 _) 6 _) 7 _) 8 _) rfl), (Blk.o1 (Blk.o4 (Blk.o4 k_r (by omega)) (by omega)) (by omega)), (Blk.o1 (Blk.o4 (Blk.o4 k_x (by omega)) (by omega)) (by omega))⟩
      rw [hW11]
      clear hW11 k_s k_t k_r k_x
      have k_s := k2_s
      have k_t := k2_t
      have k_r := k2_r
      have k_x := k2_x
      clear k2_s k2_t k2_r k2_x
      refine hK.out _ _ (fun _ => ⟨k_x, k_s⟩) ?_
      clear hK K
      try simp only [Act.put, List.setIfInBounds_toArray, List.set_cons_zero, List.set_cons_succ]
      have q_r0 := k_r.cell (i := 0) rfl
      have q_r1 := k_r.cell (i := 1) rfl
      have q_r2 := k_r.cell (i := 2) rfl
      have q_r3 := k_r.cell (i := 3) rfl
      have q_rf := k_r.free
      refine Foyer.Round.held_one (i := 4) rfl (by kernel_rfl) (fun K hK => ?_)
      go_simp
      clear q_r0 q_r1 q_r2 q_r3 q_rf
      obtain ⟨W12, hW12, bW12, sW12, kpW12, k2_s, k2_t, k2_r, k2_x⟩ : ∃ x, ((((W11.setCell ⟨w.heap.size + 1 + 1, 0, none⟩ (.slice p8 s9.left.length cap8)).setCell ⟨w.heap.size + 1 + 1, 1, none⟩ (.int .i64 (N : Nat))).setCell ⟨w.heap.size + 1 + 1, 2, none⟩ (.int .i64 (s9.err : Nat))).setCell ⟨w.heap.size + 1 + 1, 3, none⟩ (.int .i64 (s9.pos : Nat))) = x ∧ Since w x ∧ W11.heap.size ≤ x.heap.size ∧ Kp (fun k => k < W1.heap.size) Wd x ∧ Blk x (w.heap.size) 45 [.slice p5 s5.left.length cap5, .int .i64 (N : Nat), .int .i64 (s5.err : Nat), .int .i64 (s5.pos : Nat)] ∧ Blk x (w.heap.size + 1) 38 [.int .i64 1, .string ⟨nm.text.toArray⟩, .slice la cs.length lc, .int .i64 (hd.n : Nat), .int .i64 (hd.rn : Nat), .int .i64 (hd.rd : Nat), .int .i64 (hd.sn : Nat), .int .i64 (hd.sd : Nat), .int .i64 (tt.pos : Nat)] ∧ Blk x (w.heap.size + 1 + 1) 45 [.slice p8 s9.left.length cap8, .int .i64 (N : Nat), .int .i64 (s9.err : Nat), .int .i64 (s9.pos : Nat)] ∧ Blk x (w.heap.size + 1 + 1 + 1) 38 [.int .i64 1, .string ⟨nm.text.toArray⟩, .slice la cs.length lc, .int .i64 (hd.n : Nat), .int .i64 (hd.rn : Nat), .int .i64 (hd.rd : Nat), .int .i64 (hd.sn : Nat), .int .i64 (hd.sd : Nat), .int .i64 (tt.pos : Nat)] := ⟨_, rfl, (Since.s4 bW11 (by omega)), by simp only [World.setCell, World.size_alloc, Array.size_modify, Nat.le_refl], (Kp.s4 kpW11 (Or.inl (show w.heap.size + 1 + 1 < W1.heap.size by omega))), (Blk.o4 k_s (by omega)), (Blk.o4 k_t (by omega)), (Blk.cast (Blk.set (Blk.set (Blk.set (Blk.set k_r 0 _) 1 _) 2 _) 3 _) rfl), (Blk.o4 k_x (by omega))⟩
      rw [hW12]
      clear hW12 k_s k_t k_r k_x
      have k_s := k2_s
      have k_t := k2_t
      have k_r := k2_r
      have k_x := k2_x
      clear k2_s k2_t k2_r k2_x
      refine hK.out _ _ (fun _ => ⟨k_x, k_s⟩) ?_
      clear hK K
      try simp only [Act.put, List.setIfInBounds_toArray, List.set_cons_zero, List.set_cons_succ]
      refine Foyer.Round.held_done (by kernel_rfl) ?_ _
      go_wp2
      exact bodyPost_ret (results_two rfl _ _ (w.heap.size + 1) (w.heap.size + 1 + 1) _ _ _ _ rfl k_t.range Tryd.underlying38 rfl (by kernel_rfl) rfl k_r.range Tryd.underlying45 rfl (by kernel_rfl)) rfl ⟨⟨_, _, _, rfl, hs_, (HLS.out.kept (fun k hk hlt => kpW12.block k hlt (by omega))).mono (fun k hk _ => by omega)⟩, bW12⟩
    by_cases hk3 : kd = 3
    · subst hk3
      have h2 := N2.out
      unfold rHead at h2
      clear N2
      rw [if_neg (by decide), if_pos rfl] at h2
      obtain ⟨⟨m, sA⟩, h5⟩ : ∃ z, rTake N sn 2 = z := ⟨_, rfl⟩
      obtain ⟨⟨rz, sB⟩, h6⟩ : ∃ z, rIf N sA wFee = z := ⟨_, rfl⟩
      obtain ⟨⟨qz, sC⟩, h7⟩ : ∃ z, rIf N sB wTax = z := ⟨_, rfl⟩
      simp only [h5, h6, h7] at h2
      injection h2 with e1 e2
      subst e1 e2
      have N5 := Lib.hid h5; have N6 := Lib.hid h6; have N7 := Lib.hid h7
      clear h5 h6 h7
      replace k_x : Blk W6 (w.heap.size + 1 + 1 + 1) 38 [.int .i64 3, .string ⟨nm.text.toArray⟩, .slice none 0 0, .int .i64 0, .int .i64 0, .int .i64 0, .int .i64 0, .int .i64 0, .int .i64 (tt.pos : Nat)] := k_x
      have q_x0 := k_x.cell (i := 0) rfl
      have q_x1 := k_x.cell (i := 1) rfl
      have q_x2 := k_x.cell (i := 2) rfl
      have q_x3 := k_x.cell (i := 3) rfl
      have q_x4 := k_x.cell (i := 4) rfl
      have q_x5 := k_x.cell (i := 5) rfl
      have q_x6 := k_x.cell (i := 6) rfl
      have q_x7 := k_x.cell (i := 7) rfl
      have q_x8 := k_x.cell (i := 8) rfl
      have q_xf := k_x.free
      have q_s0 := k_s.cell (i := 0) rfl
      have q_s1 := k_s.cell (i := 1) rfl
      have q_s2 := k_s.cell (i := 2) rfl
      have q_s3 := k_s.cell (i := 3) rfl
      have q_sf := k_s.free
      go_wp2_with fail
      refine (rtake_c N5.out B p3 cap3 HV3.out 2 rfl _ (HB.out.trans (bW6.mono HB.out.size))).mono ?_; rintro e W7 ⟨⟨p4, cap4, rfl, hs_⟩, hb⟩
      clear q_x0 q_x1 q_x2 q_x3 q_x4 q_x5 q_x6 q_x7 q_x8 q_xf q_s0 q_s1 q_s2 q_s3 q_sf
      have sW7 := Nat.le_trans sW6 hb.size
      have bW7 := (bW6).call hb
      replace k_s := k_s.past hb
      replace k_t := k_t.past hb
      replace k_r := k_r.past hb
      replace k_x := k_x.past hb
      clear hb bW6 sW6
      have HV4 := Lib.hid hs_
      clear hs_
      go_upto_region 20 with fail
      obtain ⟨W8, hW8, bW8, sW8, k2_s, k2_t, k2_r, k2_x, k2_m, k2_u⟩ : ∃ x, ((W7.alloc (.cells #[.int .i64 (m.kind : Nat), .string ⟨m.text.toArray⟩, .int .i64 (m.val : Nat), .int .i64 (m.pos : Nat)] 54)).alloc (.cells #[.slice p4 sA.left.length cap4, .int .i64 (N : Nat), .int .i64 (sA.err : Nat), .int .i64 (sA.pos : Nat)] 45)) = x ∧ Since w x ∧ W7.heap.size + 1 + 1 ≤ x.heap.size ∧ Blk x (w.heap.size) 45 [.slice p3 sn.left.length cap3, .int .i64 (N : Nat), .int .i64 (sn.err : Nat), .int .i64 (sn.pos : Nat)] ∧ Blk x (w.heap.size + 1) 38 [.int .i64 0, .string ⟨#[]⟩, .slice none 0 0, .int .i64 0, .int .i64 0, .int .i64 0, .int .i64 0, .int .i64 0, .int .i64 0] ∧ Blk x (w.heap.size + 1 + 1) 45 [.slice none 0 0, .int .i64 0, .int .i64 0, .int .i64 0] ∧ Blk x (w.heap.size + 1 + 1 + 1) 38 [.int .i64 3, .string ⟨nm.text.toArray⟩, .slice none 0 0, .int .i64 0, .int .i64 0, .int .i64 0, .int .i64 0, .int .i64 0, .int .i64 (tt.pos : Nat)] ∧ Blk x (W7.heap.size) 54 [.int .i64 (m.kind : Nat), .string ⟨m.text.toArray⟩, .int .i64 (m.val : Nat), .int .i64 (m.pos : Nat)] ∧ Blk x (W7.heap.size + 1) 45 [.slice p4 sA.left.length cap4, .int .i64 (N : Nat), .int .i64 (sA.err : Nat), .int .i64 (sA.pos : Nat)] := ⟨_, rfl, (Since.alloc (Since.alloc bW7 _) _), by simp only [World.setCell, World.size_alloc, Array.size_modify, Nat.le_refl], (Blk.alloc (Blk.alloc k_s _) _), (Blk.alloc (Blk.alloc k_t _) _), (Blk.alloc (Blk.alloc k_r _) _), (Blk.alloc (Blk.alloc k_x _) _), (Blk.alloc (Blk.new' _ _ _ (rfl)) _), (Blk.new' _ _ _ (by simp only [World.size_alloc]))⟩
      rw [hW8]
      clear hW8 k_s k_t k_r k_x
      have k_s := k2_s
      have k_t := k2_t
      have k_r := k2_r
      have k_x := k2_x
      have k_m := k2_m
      have k_u := k2_u
      clear k2_s k2_t k2_r k2_x k2_m k2_u
      have q_m0 := k_m.cell (i := 0) rfl
      have q_m1 := k_m.cell (i := 1) rfl
      have q_m2 := k_m.cell (i := 2) rfl
      have q_m3 := k_m.cell (i := 3) rfl
      have q_mf := k_m.free
      have q_x0 := k_x.cell (i := 0) rfl
      have q_x1 := k_x.cell (i := 1) rfl
      have q_x2 := k_x.cell (i := 2) rfl
      have q_x3 := k_x.cell (i := 3) rfl
      have q_x4 := k_x.cell (i := 4) rfl
      have q_x5 := k_x.cell (i := 5) rfl
      have q_x6 := k_x.cell (i := 6) rfl
      have q_x7 := k_x.cell (i := 7) rfl
      have q_x8 := k_x.cell (i := 8) rfl
      have q_xf := k_x.free
      have q_u0 := k_u.cell (i := 0) rfl
      have q_u1 := k_u.cell (i := 1) rfl
      have q_u2 := k_u.cell (i := 2) rfl
      have q_u3 := k_u.cell (i := 3) rfl
      have q_uf := k_u.free
      have q_s0 := k_s.cell (i := 0) rfl
      have q_s1 := k_s.cell (i := 1) rfl
      have q_s2 := k_s.cell (i := 2) rfl
      have q_s3 := k_s.cell (i := 3) rfl
      have q_sf := k_s.free
      go_upto_region 24 with fail
      clear q_m0 q_m1 q_m2 q_m3 q_mf q_x0 q_x1 q_x2 q_x3 q_x4 q_x5 q_x6 q_x7 q_x8 q_xf q_u0 q_u1 q_u2 q_u3 q_uf q_s0 q_s1 q_s2 q_s3 q_sf
      obtain ⟨W9, hW9, bW9, sW9, k2_s, k2_t, k2_r, k2_x, k2_m, k2_u⟩ : ∃ x, (((((((((W8.setCell ⟨w.heap.size, 0, none⟩ (.slice p4 sA.left.length cap4)).setCell ⟨w.heap.size, 1, none⟩ (.int .i64 (N : Nat))).setCell ⟨w.heap.size, 2, none⟩ (.int .i64 (sA.err : Nat))).setCell ⟨w.heap.size, 3, none⟩ (.int .i64 (sA.pos : Nat))).setCell ⟨w.heap.size + 1 + 1 + 1, 3, none⟩ (.int .i64 (m.val : Nat))).setCell ⟨w.heap.size + 1 + 1 + 1, 4, none⟩ (.int .i64 0)).setCell ⟨w.heap.size + 1 + 1 + 1, 5, none⟩ (.int .i64 1)).setCell ⟨w.heap.size + 1 + 1 + 1, 6, none⟩ (.int .i64 0)).setCell ⟨w.heap.size + 1 + 1 + 1, 7, none⟩ (.int .i64 1)) = x ∧ Since w x ∧ W8.heap.size ≤ x.heap.size ∧ Blk x (w.heap.size) 45 [.slice p4 sA.left.length cap4, .int .i64 (N : Nat), .int .i64 (sA.err : Nat), .int .i64 (sA.pos : Nat)] ∧ Blk x (w.heap.size + 1) 38 [.int .i64 0, .string ⟨#[]⟩, .slice none 0 0, .int .i64 0, .int .i64 0, .int .i64 0, .int .i64 0, .int .i64 0, .int .i64 0] ∧ Blk x (w.heap.size + 1 + 1) 45 [.slice none 0 0, .int .i64 0, .int .i64 0, .int .i64 0] ∧ Blk x (w.heap.size + 1 + 1 + 1) 38 [.int .i64 3, .string ⟨nm.text.toArray⟩, .slice none 0 0, .int .i64 (m.val : Nat), .int .i64 0, .int .i64 1, .int .i64 0, .int .i64 1, .int .i64 (tt.pos : Nat)] ∧ Blk x (W7.heap.size) 54 [.int .i64 (m.kind : Nat), .string ⟨m.text.toArray⟩, .int .i64 (m.val : Nat), .int .i64 (m.pos : Nat)] ∧ Blk x (W7.heap.size + 1) 45 [.slice p4 sA.left.length cap4, .int .i64 (N : Nat), .int .i64 (sA.err : Nat), .int .i64 (sA.pos : Nat)] := ⟨_, rfl, (Since.s1 (Since.s4 (Since.s4 bW8 (by omega)) (by omega)) (by omega)), by simp only [World.setCell, World.size_alloc, Array.size_modify, Nat.le_refl], (Blk.o1 (Blk.o4 (Blk.cast (Blk.set (Blk.set (Blk.set (Blk.set k_s 0 _) 1 _) 2 _) 3 _) rfl) (by omega)) (by omega)), (Blk.o1 (Blk.o4 (Blk.o4 k_t (by omega)) (by omega)) (by omega)), (Blk.o1 (Blk.o4 (Blk.o4 k_r (by omega)) (by omega)) (by omega)), (Blk.cast (Blk.set (Blk.set (Blk.set (Blk.set (Blk.set (Blk.o4 k_x (by omega)) 3 _) 4 _) 5 _) 6 _) 7 _) rfl), (Blk.o1 (Blk.o4 (Blk.o4 k_m (by omega)) (by omega)) (by omega)), (Blk.o1 (Blk.o4 (Blk.o4 k_u (by omega)) (by omega)) (by omega))⟩
      rw [hW9]
      clear hW9 k_s k_t k_r k_x k_m k_u
      have k_s := k2_s
      have k_t := k2_t
      have k_r := k2_r
      have k_x := k2_x
      have k_m := k2_m
      have k_u := k2_u
      clear k2_s k2_t k2_r k2_x k2_m k2_u
      clear k_m k_u
      obtain ⟨df, h_d⟩ : ∃ z, rIs sA 1 wFee = z := ⟨_, rfl⟩
      have Ndf := Lib.hid h_d
      clear h_d
      have q_s0 := k_s.cell (i := 0) rfl
      have q_s1 := k_s.cell (i := 1) rfl
      have q_s2 := k_s.cell (i := 2) rfl
      have q_s3 := k_s.cell (i := 3) rfl
      have q_sf := k_s.free
      go_wp2_with fail
      refine (ris_c Ndf.out B p4 cap4 HV4.out 1 rfl _ (HB.out.trans (bW9.mono HB.out.size))).mono ?_; rintro e W10 ⟨rfl, hb⟩
      clear q_s0 q_s1 q_s2 q_s3 q_sf
      have sW10 := Nat.le_trans sW9 hb.size
      have bW10 := (bW9).call hb
      replace k_s := k_s.past hb
      replace k_t := k_t.past hb
      replace k_r := k_r.past hb
      replace k_x := k_x.past hb
      clear hb bW9 sW9
      have q_s0 := k_s.cell (i := 0) rfl
      have q_s1 := k_s.cell (i := 1) rfl
      have q_s2 := k_s.cell (i := 2) rfl
      have q_s3 := k_s.cell (i := 3) rfl
      have q_sf := k_s.free
      go_upto_if 97 with fail
      go_cut [12, 13] from 98 to 106 (fun ta tb wx => ∃ (pa : Option Addr) (ca : Nat), Hid (IsSt B pa ca sB.left) ∧ Hid (Blk wx (w.heap.size) 45 [.slice pa sB.left.length ca, .int .i64 (N : Nat), .int .i64 (sB.err : Nat), .int .i64 (sB.pos : Nat)]) ∧ Hid (Blk wx (w.heap.size + 1) 38 [.int .i64 0, .string ⟨#[]⟩, .slice none 0 0, .int .i64 0, .int .i64 0, .int .i64 0, .int .i64 0, .int .i64 0, .int .i64 0]) ∧ Hid (Blk wx (w.heap.size + 1 + 1) 45 [.slice none 0 0, .int .i64 0, .int .i64 0, .int .i64 0]) ∧ Hid (Blk wx (w.heap.size + 1 + 1 + 1) 38 [.int .i64 3, .string ⟨nm.text.toArray⟩, .slice none 0 0, .int .i64 (m.val : Nat), .int .i64 (rz.1 : Nat), .int .i64 (rz.2 : Nat), .int .i64 0, .int .i64 1, .int .i64 (tt.pos : Nat)]) ∧ Hid (Since w wx) ∧ Hid (W7.heap.size + 1 + 1 ≤ wx.heap.size))
      case first =>
        have h_i := N6.out
        unfold rIf at h_i
        rw [Ndf.out] at h_i
        cases df
        · rw [if_neg (by simp)] at h_i
          injection h_i with e1 e2
          subst e1 e2
          go_wp2
          clear q_s0 q_s1 q_s2 q_s3 q_sf
          go_meet
          exact ⟨_, _, HV4, Lib.hid k_s, Lib.hid k_t, Lib.hid k_r, Lib.hid k_x, Lib.hid bW10, Lib.hid (by omega)⟩
        · rw [if_pos rfl] at h_i
          obtain ⟨sw, h5⟩ : ∃ z, rWord N sA wFee = z := ⟨_, rfl⟩
          rw [h5] at h_i
          have N9 := Lib.hid h_i; have N8 := Lib.hid h5
          clear h5 h_i
          go_wp2_with fail
          refine (rword_c N8.out B p4 cap4 HV4.out  _ (HB.out.trans (bW10.mono HB.out.size))).mono ?_; rintro e W11 ⟨⟨p6, cap6, rfl, hs_⟩, hb⟩
          clear q_s0 q_s1 q_s2 q_s3 q_sf
          have sW11 := Nat.le_trans sW10 hb.size
          have bW11 := (bW10).call hb
          replace k_s := k_s.past hb
          replace k_t := k_t.past hb
          replace k_r := k_r.past hb
          replace k_x := k_x.past hb
          clear hb bW10 sW10
          have HV6 := Lib.hid hs_
          clear hs_
          go_wp2_with fail
          refine (rratio_c N9.out B p6 cap6 HV6.out  _ (HB.out.trans (bW11.mono HB.out.size))).mono ?_; rintro e W12 ⟨⟨p7, cap7, rfl, hs_⟩, hb⟩
          have sW12 := Nat.le_trans sW11 hb.size
          have bW12 := (bW11).call hb
          replace k_s := k_s.past hb
          replace k_t := k_t.past hb
          replace k_r := k_r.past hb
          replace k_x := k_x.past hb
          clear hb bW11 sW11
          have HV7 := Lib.hid hs_
          clear hs_
          go_upto_region 26 with fail
          obtain ⟨W13, hW13, bW13, sW13, k2_s, k2_t, k2_r, k2_x, k2_z, k2_u⟩ : ∃ x, ((W12.alloc (.cells #[.int .i64 (rz.1 : Nat), .int .i64 (rz.2 : Nat)] 36)).alloc (.cells #[.slice p7 sB.left.length cap7, .int .i64 (N : Nat), .int .i64 (sB.err : Nat), .int .i64 (sB.pos : Nat)] 45)) = x ∧ Since w x ∧ W12.heap.size + 1 + 1 ≤ x.heap.size ∧ Blk x (w.heap.size) 45 [.slice p4 sA.left.length cap4, .int .i64 (N : Nat), .int .i64 (sA.err : Nat), .int .i64 (sA.pos : Nat)] ∧ Blk x (w.heap.size + 1) 38 [.int .i64 0, .string ⟨#[]⟩, .slice none 0 0, .int .i64 0, .int .i64 0, .int .i64 0, .int .i64 0, .int .i64 0, .int .i64 0] ∧ Blk x (w.heap.size + 1 + 1) 45 [.slice none 0 0, .int .i64 0, .int .i64 0, .int .i64 0] ∧ Blk x (w.heap.size + 1 + 1 + 1) 38 [.int .i64 3, .string ⟨nm.text.toArray⟩, .slice none 0 0, .int .i64 (m.val : Nat), .int .i64 0, .int .i64 1, .int .i64 0, .int .i64 1, .int .i64 (tt.pos : Nat)] ∧ Blk x (W12.heap.size) 36 [.int .i64 (rz.1 : Nat), .int .i64 (rz.2 : Nat)] ∧ Blk x (W12.heap.size + 1) 45 [.slice p7 sB.left.length cap7, .int .i64 (N : Nat), .int .i64 (sB.err : Nat), .int .i64 (sB.pos : Nat)] := ⟨_, rfl, (Since.alloc (Since.alloc bW12 _) _), by simp only [World.setCell, World.size_alloc, Array.size_modify, Nat.le_refl], (Blk.alloc (Blk.alloc k_s _) _), (Blk.alloc (Blk.alloc k_t _) _), (Blk.alloc (Blk.alloc k_r _) _), (Blk.alloc (Blk.alloc k_x _) _), (Blk.alloc (Blk.new' _ _ _ (rfl)) _), (Blk.new' _ _ _ (by simp only [World.size_alloc]))⟩
          rw [hW13]
          clear hW13 k_s k_t k_r k_x
          have k_s := k2_s
          have k_t := k2_t
          have k_r := k2_r
          have k_x := k2_x
          have k_z := k2_z
          have k_u := k2_u
          clear k2_s k2_t k2_r k2_x k2_z k2_u
          have q_z0 := k_z.cell (i := 0) rfl
          have q_z1 := k_z.cell (i := 1) rfl
          have q_zf := k_z.free
          have q_x0 := k_x.cell (i := 0) rfl
          have q_x1 := k_x.cell (i := 1) rfl
          have q_x2 := k_x.cell (i := 2) rfl
          have q_x3 := k_x.cell (i := 3) rfl
          have q_x4 := k_x.cell (i := 4) rfl
          have q_x5 := k_x.cell (i := 5) rfl
          have q_x6 := k_x.cell (i := 6) rfl
          have q_x7 := k_x.cell (i := 7) rfl
          have q_x8 := k_x.cell (i := 8) rfl
          have q_xf := k_x.free
          have q_u0 := k_u.cell (i := 0) rfl
          have q_u1 := k_u.cell (i := 1) rfl
          have q_u2 := k_u.cell (i := 2) rfl
          have q_u3 := k_u.cell (i := 3) rfl
          have q_uf := k_u.free
          have q_s0 := k_s.cell (i := 0) rfl
          have q_s1 := k_s.cell (i := 1) rfl
          have q_s2 := k_s.cell (i := 2) rfl
          have q_s3 := k_s.cell (i := 3) rfl
          have q_sf := k_s.free
          go_wp2
          clear q_z0 q_z1 q_zf q_x0 q_x1 q_x2 q_x3 q_x4 q_x5 q_x6 q_x7 q_x8 q_xf q_u0 q_u1 q_u2 q_u3 q_uf q_s0 q_s1 q_s2 q_s3 q_sf
          obtain ⟨W14, hW14, bW14, sW14, k2_s, k2_t, k2_r, k2_x, k2_z, k2_u⟩ : ∃ x, ((((((W13.setCell ⟨w.heap.size + 1 + 1 + 1, 4, none⟩ (.int .i64 (rz.1 : Nat))).setCell ⟨w.heap.size + 1 + 1 + 1, 5, none⟩ (.int .i64 (rz.2 : Nat))).setCell ⟨w.heap.size, 0, none⟩ (.slice p7 sB.left.length cap7)).setCell ⟨w.heap.size, 1, none⟩ (.int .i64 (N : Nat))).setCell ⟨w.heap.size, 2, none⟩ (.int .i64 (sB.err : Nat))).setCell ⟨w.heap.size, 3, none⟩ (.int .i64 (sB.pos : Nat))) = x ∧ Since w x ∧ W13.heap.size ≤ x.heap.size ∧ Blk x (w.heap.size) 45 [.slice p7 sB.left.length cap7, .int .i64 (N : Nat), .int .i64 (sB.err : Nat), .int .i64 (sB.pos : Nat)] ∧ Blk x (w.heap.size + 1) 38 [.int .i64 0, .string ⟨#[]⟩, .slice none 0 0, .int .i64 0, .int .i64 0, .int .i64 0, .int .i64 0, .int .i64 0, .int .i64 0] ∧ Blk x (w.heap.size + 1 + 1) 45 [.slice none 0 0, .int .i64 0, .int .i64 0, .int .i64 0] ∧ Blk x (w.heap.size + 1 + 1 + 1) 38 [.int .i64 3, .string ⟨nm.text.toArray⟩, .slice none 0 0, .int .i64 (m.val : Nat), .int .i64 (rz.1 : Nat), .int .i64 (rz.2 : Nat), .int .i64 0, .int .i64 1, .int .i64 (tt.pos : Nat)] ∧ Blk x (W12.heap.size) 36 [.int .i64 (rz.1 : Nat), .int .i64 (rz.2 : Nat)] ∧ Blk x (W12.heap.size + 1) 45 [.slice p7 sB.left.length cap7, .int .i64 (N : Nat), .int .i64 (sB.err : Nat), .int .i64 (sB.pos : Nat)] := ⟨_, rfl, (Since.s4 (Since.s2 bW13 (by omega)) (by omega)), by simp only [World.setCell, World.size_alloc, Array.size_modify, Nat.le_refl], (Blk.cast (Blk.set (Blk.set (Blk.set (Blk.set (Blk.o2 k_s (by omega)) 0 _) 1 _) 2 _) 3 _) rfl), (Blk.o4 (Blk.o2 k_t (by omega)) (by omega)), (Blk.o4 (Blk.o2 k_r (by omega)) (by omega)), (Blk.o4 (Blk.cast (Blk.set (Blk.set k_x 4 _) 5 _) rfl) (by omega)), (Blk.o4 (Blk.o2 k_z (by omega)) (by omega)), (Blk.o4 (Blk.o2 k_u (by omega)) (by omega))⟩
          rw [hW14]
          clear hW14 k_s k_t k_r k_x k_z k_u
          have k_s := k2_s
          have k_t := k2_t
          have k_r := k2_r
          have k_x := k2_x
          have k_z := k2_z
          have k_u := k2_u
          clear k2_s k2_t k2_r k2_x k2_z k2_u
          go_meet
          exact ⟨_, _, HV7, Lib.hid k_s, Lib.hid k_t, Lib.hid k_r, Lib.hid k_x, Lib.hid bW14, Lib.hid (by omega)⟩
      case rest =>
      clear q_s0 q_s1 q_s2 q_s3 q_sf
      obtain ⟨pa, ca, HVa, J_s, J_t, J_r, J_x, Jb, Jz⟩ := hcut
      obtain ⟨W11, hwc⟩ : ∃ z, z = wc := ⟨_, rfl⟩
      subst hwc
      clear k_s k_t k_r k_x bW10 sW10
      have k_s := J_s.out
      have k_t := J_t.out
      have k_r := J_r.out
      have k_x := J_x.out
      have bW11 := Jb.out
      have sW11 := Jz.out
      clear J_s J_t J_r J_x Jb Jz
      obtain ⟨dt, h_d⟩ : ∃ z, rIs sB 1 wTax = z := ⟨_, rfl⟩
      have Ndt := Lib.hid h_d
      clear h_d
      have q_s0 := k_s.cell (i := 0) rfl
      have q_s1 := k_s.cell (i := 1) rfl
      have q_s2 := k_s.cell (i := 2) rfl
      have q_s3 := k_s.cell (i := 3) rfl
      have q_sf := k_s.free
      go_wp2_with fail
      refine (ris_c Ndt.out B pa ca HVa.out 1 rfl _ (HB.out.trans (bW11.mono HB.out.size))).mono ?_; rintro e W12 ⟨rfl, hb⟩
      clear q_s0 q_s1 q_s2 q_s3 q_sf
      have sW12 := Nat.le_trans sW11 hb.size
      have bW12 := (bW11).call hb
      replace k_s := k_s.past hb
      replace k_t := k_t.past hb
      replace k_r := k_r.past hb
      replace k_x := k_x.past hb
      clear hb bW11 sW11
      have q_s0 := k_s.cell (i := 0) rfl
      have q_s1 := k_s.cell (i := 1) rfl
      have q_s2 := k_s.cell (i := 2) rfl
      have q_s3 := k_s.cell (i := 3) rfl
      have q_sf := k_s.free
      go_upto_if 108 with fail
      go_cut [14, 15] from 109 to 117 (fun ta tb wx => ∃ (pb : Option Addr) (cb : Nat), Hid (IsSt B pb cb sC.left) ∧ Hid (Blk wx (w.heap.size) 45 [.slice pb sC.left.length cb, .int .i64 (N : Nat), .int .i64 (sC.err : Nat), .int .i64 (sC.pos : Nat)]) ∧ Hid (Blk wx (w.heap.size + 1) 38 [.int .i64 0, .string ⟨#[]⟩, .slice none 0 0, .int .i64 0, .int .i64 0, .int .i64 0, .int .i64 0, .int .i64 0, .int .i64 0]) ∧ Hid (Blk wx (w.heap.size + 1 + 1) 45 [.slice none 0 0, .int .i64 0, .int .i64 0, .int .i64 0]) ∧ Hid (Blk wx (w.heap.size + 1 + 1 + 1) 38 [.int .i64 3, .string ⟨nm.text.toArray⟩, .slice none 0 0, .int .i64 (m.val : Nat), .int .i64 (rz.1 : Nat), .int .i64 (rz.2 : Nat), .int .i64 (qz.1 : Nat), .int .i64 (qz.2 : Nat), .int .i64 (tt.pos : Nat)]) ∧ Hid (Since w wx) ∧ Hid (W7.heap.size + 1 + 1 ≤ wx.heap.size))
      case first =>
        have h_i := N7.out
        unfold rIf at h_i
        rw [Ndt.out] at h_i
        cases dt
        · rw [if_neg (by simp)] at h_i
          injection h_i with e1 e2
          subst e1 e2
          go_wp2
          clear q_s0 q_s1 q_s2 q_s3 q_sf
          go_meet
          exact ⟨_, _, HVa, Lib.hid k_s, Lib.hid k_t, Lib.hid k_r, Lib.hid k_x, Lib.hid bW12, Lib.hid (by omega)⟩
        · rw [if_pos rfl] at h_i
          obtain ⟨sw, h5⟩ : ∃ z, rWord N sB wTax = z := ⟨_, rfl⟩
          rw [h5] at h_i
          have N9 := Lib.hid h_i; have N8 := Lib.hid h5
          clear h5 h_i
          go_wp2_with fail
          refine (rword_c N8.out B pa ca HVa.out  _ (HB.out.trans (bW12.mono HB.out.size))).mono ?_; rintro e W13 ⟨⟨p6, cap6, rfl, hs_⟩, hb⟩
          clear q_s0 q_s1 q_s2 q_s3 q_sf
          have sW13 := Nat.le_trans sW12 hb.size
          have bW13 := (bW12).call hb
          replace k_s := k_s.past hb
          replace k_t := k_t.past hb
          replace k_r := k_r.past hb
          replace k_x := k_x.past hb
          clear hb bW12 sW12
          have HV6 := Lib.hid hs_
          clear hs_
          go_wp2_with fail
          refine (rratio_c N9.out B p6 cap6 HV6.out  _ (HB.out.trans (bW13.mono HB.out.size))).mono ?_; rintro e W14 ⟨⟨p7, cap7, rfl, hs_⟩, hb⟩
          have sW14 := Nat.le_trans sW13 hb.size
          have bW14 := (bW13).call hb
          replace k_s := k_s.past hb
          replace k_t := k_t.past hb
          replace k_r := k_r.past hb
          replace k_x := k_x.past hb
          clear hb bW13 sW13
          have HV7 := Lib.hid hs_
          clear hs_
          go_upto_region 30 with fail
          obtain ⟨W15, hW15, bW15, sW15, k2_s, k2_t, k2_r, k2_x, k2_z, k2_u⟩ : ∃ x, ((W14.alloc (.cells #[.int .i64 (qz.1 : Nat), .int .i64 (qz.2 : Nat)] 36)).alloc (.cells #[.slice p7 sC.left.length cap7, .int .i64 (N : Nat), .int .i64 (sC.err : Nat), .int .i64 (sC.pos : Nat)] 45)) = x ∧ Since w x ∧ W14.heap.size + 1 + 1 ≤ x.heap.size ∧ Blk x (w.heap.size) 45 [.slice pa sB.left.length ca, .int .i64 (N : Nat), .int .i64 (sB.err : Nat), .int .i64 (sB.pos : Nat)] ∧ Blk x (w.heap.size + 1) 38 [.int .i64 0, .string ⟨#[]⟩, .slice none 0 0, .int .i64 0, .int .i64 0, .int .i64 0, .int .i64 0, .int .i64 0, .int .i64 0] ∧ Blk x (w.heap.size + 1 + 1) 45 [.slice none 0 0, .int .i64 0, .int .i64 0, .int .i64 0] ∧ Blk x (w.heap.size + 1 + 1 + 1) 38 [.int .i64 3, .string ⟨nm.text.toArray⟩, .slice none 0 0, .int .i64 (m.val : Nat), .int .i64 (rz.1 : Nat), .int .i64 (rz.2 : Nat), .int .i64 0, .int .i64 1, .int .i64 (tt.pos : Nat)] ∧ Blk x (W14.heap.size) 36 [.int .i64 (qz.1 : Nat), .int .i64 (qz.2 : Nat)] ∧ Blk x (W14.heap.size + 1) 45 [.slice p7 sC.left.length cap7, .int .i64 (N : Nat), .int .i64 (sC.err : Nat), .int .i64 (sC.pos : Nat)] := ⟨_, rfl, (Since.alloc (Since.alloc bW14 _) _), by simp only [World.setCell, World.size_alloc, Array.size_modify, Nat.le_refl], (Blk.alloc (Blk.alloc k_s _) _), (Blk.alloc (Blk.alloc k_t _) _), (Blk.alloc (Blk.alloc k_r _) _), (Blk.alloc (Blk.alloc k_x _) _), (Blk.alloc (Blk.new' _ _ _ (rfl)) _), (Blk.new' _ _ _ (by simp only [World.size_alloc]))⟩
          rw [hW15]
          clear hW15 k_s k_t k_r k_x
          have k_s := k2_s
          have k_t := k2_t
          have k_r := k2_r
          have k_x := k2_x
          have k_z := k2_z
          have k_u := k2_u
          clear k2_s k2_t k2_r k2_x k2_z k2_u
          have q_z0 := k_z.cell (i := 0) rfl
          have q_z1 := k_z.cell (i := 1) rfl
          have q_zf := k_z.free
          have q_x0 := k_x.cell (i := 0) rfl
          have q_x1 := k_x.cell (i := 1) rfl
          have q_x2 := k_x.cell (i := 2) rfl
          have q_x3 := k_x.cell (i := 3) rfl
          have q_x4 := k_x.cell (i := 4) rfl
          have q_x5 := k_x.cell (i := 5) rfl
          have q_x6 := k_x.cell (i := 6) rfl
          have q_x7 := k_x.cell (i := 7) rfl
          have q_x8 := k_x.cell (i := 8) rfl
          have q_xf := k_x.free
          have q_u0 := k_u.cell (i := 0) rfl
          have q_u1 := k_u.cell (i := 1) rfl
          have q_u2 := k_u.cell (i := 2) rfl
          have q_u3 := k_u.cell (i := 3) rfl
          have q_uf := k_u.free
          have q_s0 := k_s.cell (i := 0) rfl
          have q_s1 := k_s.cell (i := 1) rfl
          have q_s2 := k_s.cell (i := 2) rfl
          have q_s3 := k_s.cell (i := 3) rfl
          have q_sf := k_s.free
          go_wp2
          clear q_z0 q_z1 q_zf q_x0 q_x1 q_x2 q_x3 q_x4 q_x5 q_x6 q_x7 q_x8 q_xf q_u0 q_u1 q_u2 q_u3 q_uf q_s0 q_s1 q_s2 q_s3 q_sf
          obtain ⟨W16, hW16, bW16, sW16, k2_s, k2_t, k2_r, k2_x, k2_z, k2_u⟩ : ∃ x, ((((((W15.setCell ⟨w.heap.size + 1 + 1 + 1, 6, none⟩ (.int .i64 (qz.1 : Nat))).setCell ⟨w.heap.size + 1 + 1 + 1, 7, none⟩ (.int .i64 (qz.2 : Nat))).setCell ⟨w.heap.size, 0, none⟩ (.slice p7 sC.left.length cap7)).setCell ⟨w.heap.size, 1, none⟩ (.int .i64 (N : Nat))).setCell ⟨w.heap.size, 2, none⟩ (.int .i64 (sC.err : Nat))).setCell ⟨w.heap.size, 3, none⟩ (.int .i64 (sC.pos : Nat))) = x ∧ Since w x ∧ W15.heap.size ≤ x.heap.size ∧ Blk x (w.heap.size) 45 [.slice p7 sC.left.length cap7, .int .i64 (N : Nat), .int .i64 (sC.err : Nat), .int .i64 (sC.pos : Nat)] ∧ Blk x (w.heap.size + 1) 38 [.int .i64 0, .string ⟨#[]⟩, .slice none 0 0, .int .i64 0, .int .i64 0, .int .i64 0, .int .i64 0, .int .i64 0, .int .i64 0] ∧ Blk x (w.heap.size + 1 + 1) 45 [.slice none 0 0, .int .i64 0, .int .i64 0, .int .i64 0] ∧ Blk x (w.heap.size + 1 + 1 + 1) 38 [.int .i64 3, .string ⟨nm.text.toArray⟩, .slice none 0 0, .int .i64 (m.val : Nat), .int .i64 (rz.1 : Nat), .int .i64 (rz.2 : Nat), .int .i64 (qz.1 : Nat), .int .i64 (qz.2 : Nat), .int .i64 (tt.pos : Nat)] ∧ Blk x (W14.heap.size) 36 [.int .i64 (qz.1 : Nat), .int .i64 (qz.2 : Nat)] ∧ Blk x (W14.heap.size + 1) 45 [.slice p7 sC.left.length cap7, .int .i64 (N : Nat), .int .i64 (sC.err : Nat), .int .i64 (sC.pos : Nat)] := ⟨_, rfl, (Since.s4 (Since.s2 bW15 (by omega)) (by omega)), by simp only [World.setCell, World.size_alloc, Array.size_modify, Nat.le_refl], (Blk.cast (Blk.set (Blk.set (Blk.set (Blk.set (Blk.o2 k_s (by omega)) 0 _) 1 _) 2 _) 3 _) rfl), (Blk.o4 (Blk.o2 k_t (by omega)) (by omega)), (Blk.o4 (Blk.o2 k_r (by omega)) (by omega)), (Blk.o4 (Blk.cast (Blk.set (Blk.set k_x 6 _) 7 _) rfl) (by omega)), (Blk.o4 (Blk.o2 k_z (by omega)) (by omega)), (Blk.o4 (Blk.o2 k_u (by omega)) (by omega))⟩
          rw [hW16]
          clear hW16 k_s k_t k_r k_x k_z k_u
          have k_s := k2_s
          have k_t := k2_t
          have k_r := k2_r
          have k_x := k2_x
          have k_z := k2_z
          have k_u := k2_u
          clear k2_s k2_t k2_r k2_x k2_z k2_u
          go_meet
          exact ⟨_, _, HV7, Lib.hid k_s, Lib.hid k_t, Lib.hid k_r, Lib.hid k_x, Lib.hid bW16, Lib.hid (by omega)⟩
      case rest =>
      clear q_s0 q_s1 q_s2 q_s3 q_sf
      obtain ⟨pb, cb, HVb, J_s, J_t, J_r, J_x, Jb, Jz⟩ := hcut
      obtain ⟨W13, hwc⟩ : ∃ z, z = wc := ⟨_, rfl⟩
      subst hwc
      clear k_s k_t k_r k_x bW12 sW12
      have k_s := J_s.out
      have k_t := J_t.out
      have k_r := J_r.out
      have k_x := J_x.out
      have bW13 := Jb.out
      have sW13 := Jz.out
      clear J_s J_t J_r J_x Jb Jz
      obtain ⟨s4, hs4⟩ : ∃ z, z = sC := ⟨_, rfl⟩
      subst hs4
      have q_x0 := k_x.cell (i := 0) rfl
      have q_x1 := k_x.cell (i := 1) rfl
      have q_x2 := k_x.cell (i := 2) rfl
      have q_x3 := k_x.cell (i := 3) rfl
      have q_x4 := k_x.cell (i := 4) rfl
      have q_x5 := k_x.cell (i := 5) rfl
      have q_x6 := k_x.cell (i := 6) rfl
      have q_x7 := k_x.cell (i := 7) rfl
      have q_x8 := k_x.cell (i := 8) rfl
      have q_xf := k_x.free
      go_upto_region 42 with fail
      clear q_x0 q_x1 q_x2 q_x3 q_x4 q_x5 q_x6 q_x7 q_x8 q_xf
      obtain ⟨dw, hdw⟩ : ∃ z, rIs s4 1 wWhen = z := ⟨_, rfl⟩
      have Ndw := Lib.hid hdw
      clear hdw
      have q_s0 := k_s.cell (i := 0) rfl
      have q_s1 := k_s.cell (i := 1) rfl
      have q_s2 := k_s.cell (i := 2) rfl
      have q_s3 := k_s.cell (i := 3) rfl
      have q_sf := k_s.free
      go_wp2_with fail
      refine (ris_c Ndw.out B pb cb HVb.out 1 rfl _ (HB.out.trans (bW13.mono HB.out.size))).mono ?_; rintro e W14 ⟨rfl, hb⟩
      clear q_s0 q_s1 q_s2 q_s3 q_sf
      have sW14 := Nat.le_trans sW13 hb.size
      have bW14 := (bW13).call hb
      replace k_s := k_s.past hb
      replace k_t := k_t.past hb
      replace k_r := k_r.past hb
      replace k_x := k_x.past hb
      clear hb bW13 sW13
      have hlow : W1.heap.size ≤ W14.heap.size := by omega
      have q_s0 := k_s.cell (i := 0) rfl
      have q_s1 := k_s.cell (i := 1) rfl
      have q_s2 := k_s.cell (i := 2) rfl
      have q_s3 := k_s.cell (i := 3) rfl
      have q_sf := k_s.free
      go_upto_if 150 with fail
      go_cut [21, 22] from 151 to 159 (fun t21 t22 wx => ∃ (lv : Value) (p5 : Option Addr) (cap5 : Nat), Hid (IsSt B p5 cap5 s5.left) ∧ Hid (IsList testsK wx (fun k => W1.heap.size ≤ k) 33 lv cs) ∧ Hid (Blk wx (w.heap.size) 45 [.slice p5 s5.left.length cap5, .int .i64 (N : Nat), .int .i64 (s5.err : Nat), .int .i64 (s5.pos : Nat)]) ∧ Hid (Blk wx (w.heap.size + 1) 38 [.int .i64 0, .string ⟨#[]⟩, .slice none 0 0, .int .i64 0, .int .i64 0, .int .i64 0, .int .i64 0, .int .i64 0, .int .i64 0]) ∧ Hid (Blk wx (w.heap.size + 1 + 1) 45 [.slice none 0 0, .int .i64 0, .int .i64 0, .int .i64 0]) ∧ Hid (Blk wx (w.heap.size + 1 + 1 + 1) 38 [.int .i64 3, .string ⟨nm.text.toArray⟩, lv, .int .i64 (m.val : Nat), .int .i64 (rz.1 : Nat), .int .i64 (rz.2 : Nat), .int .i64 (qz.1 : Nat), .int .i64 (qz.2 : Nat), .int .i64 (tt.pos : Nat)]) ∧ Hid (Since w wx) ∧ Hid (W7.heap.size + 1 + 1 ≤ wx.heap.size))
      case first =>
        have h3 := N3.out
        unfold rConds at h3
        rw [Ndw.out] at h3
        cases dw
        · rw [if_neg (by simp)] at h3
          injection h3 with e1 e2
          subst e1 e2
          go_wp2
          clear q_s0 q_s1 q_s2 q_s3 q_sf
          go_meet
          exact ⟨_, _, _, HVb, Lib.hid (nil_is _ _ _ _), Lib.hid k_s, Lib.hid k_t, Lib.hid k_r, Lib.hid k_x, Lib.hid bW14, Lib.hid (by omega)⟩
        · rw [if_pos rfl] at h3
          obtain ⟨sw, h5⟩ : ∃ z, rWord N s4 wWhen = z := ⟨_, rfl⟩
          rw [h5] at h3
          have hSw : SaneS sw := HS4.out.suf (by rw [← h5]; exact word_suf _ _)
          have HSw := Lib.hid hSw; have N5 := Lib.hid h5; have N6 := Lib.hid h3
          clear hSw h5 h3
          go_wp2_with fail
          refine (rword_c N5.out B pb cb HVb.out  _ (HB.out.trans (bW14.mono HB.out.size))).mono ?_; rintro e W15 ⟨⟨p6, cap6, rfl, hs_⟩, hb⟩
          clear q_s0 q_s1 q_s2 q_s3 q_sf
          have sW15 := Nat.le_trans sW14 hb.size
          have bW15 := (bW14).call hb
          replace k_s := k_s.past hb
          replace k_t := k_t.past hb
          replace k_r := k_r.past hb
          replace k_x := k_x.past hb
          clear hb bW14 sW14
          have HV6 := Lib.hid hs_
          clear hs_
          have hlow2 : W1.heap.size ≤ W15.heap.size := by omega
          go_wp2_with fail
          refine (rwhen_c N6.out HSw.out B p6 cap6 HV6.out _ (HB.out.trans (bW15.mono HB.out.size))).mono ?_; rintro e W16 ⟨⟨lv, pw, cw, rfl, hs_, hl_⟩, hb⟩
          have sW16 := Nat.le_trans sW15 hb.size
          have bW16 := (bW15).call hb
          replace k_s := k_s.past hb
          replace k_t := k_t.past hb
          replace k_r := k_r.past hb
          replace k_x := k_x.past hb
          clear hb bW15 sW15
          have HVw := Lib.hid hs_
          clear hs_
          obtain ⟨la, lc, hlv⟩ := hl_.len
          subst hlv
          have HLw := Lib.hid hl_
          clear hl_
          go_upto_region 44 with fail
          obtain ⟨W17, hW17, bW17, sW17, kpW17, k2_s, k2_t, k2_r, k2_x, k2_u⟩ : ∃ x, (W16.alloc (.cells #[.slice pw s5.left.length cw, .int .i64 (N : Nat), .int .i64 (s5.err : Nat), .int .i64 (s5.pos : Nat)] 45)) = x ∧ Since w x ∧ W16.heap.size + 1 ≤ x.heap.size ∧ Kp (fun k => k < W1.heap.size) W16 x ∧ Blk x (w.heap.size) 45 [.slice pb s4.left.length cb, .int .i64 (N : Nat), .int .i64 (s4.err : Nat), .int .i64 (s4.pos : Nat)] ∧ Blk x (w.heap.size + 1) 38 [.int .i64 0, .string ⟨#[]⟩, .slice none 0 0, .int .i64 0, .int .i64 0, .int .i64 0, .int .i64 0, .int .i64 0, .int .i64 0] ∧ Blk x (w.heap.size + 1 + 1) 45 [.slice none 0 0, .int .i64 0, .int .i64 0, .int .i64 0] ∧ Blk x (w.heap.size + 1 + 1 + 1) 38 [.int .i64 3, .string ⟨nm.text.toArray⟩, .slice none 0 0, .int .i64 (m.val : Nat), .int .i64 (rz.1 : Nat), .int .i64 (rz.2 : Nat), .int .i64 (qz.1 : Nat), .int .i64 (qz.2 : Nat), .int .i64 (tt.pos : Nat)] ∧ Blk x (W16.heap.size) 45 [.slice pw s5.left.length cw, .int .i64 (N : Nat), .int .i64 (s5.err : Nat), .int .i64 (s5.pos : Nat)] := ⟨_, rfl, (Since.alloc bW16 _), by simp only [World.setCell, World.size_alloc, Array.size_modify, Nat.le_refl], (Kp.alloc (Kp.refl _ _) _), (Blk.alloc k_s _), (Blk.alloc k_t _), (Blk.alloc k_r _), (Blk.alloc k_x _), (Blk.new' _ _ _ (rfl))⟩
          rw [hW17]
          clear hW17 k_s k_t k_r k_x
          have k_s := k2_s
          have k_t := k2_t
          have k_r := k2_r
          have k_x := k2_x
          have k_u := k2_u
          clear k2_s k2_t k2_r k2_x k2_u
          have q_x0 := k_x.cell (i := 0) rfl
          have q_x1 := k_x.cell (i := 1) rfl
          have q_x2 := k_x.cell (i := 2) rfl
          have q_x3 := k_x.cell (i := 3) rfl
          have q_x4 := k_x.cell (i := 4) rfl
          have q_x5 := k_x.cell (i := 5) rfl
          have q_x6 := k_x.cell (i := 6) rfl
          have q_x7 := k_x.cell (i := 7) rfl
          have q_x8 := k_x.cell (i := 8) rfl
          have q_xf := k_x.free
          have q_u0 := k_u.cell (i := 0) rfl
          have q_u1 := k_u.cell (i := 1) rfl
          have q_u2 := k_u.cell (i := 2) rfl
          have q_u3 := k_u.cell (i := 3) rfl
          have q_uf := k_u.free
          have q_s0 := k_s.cell (i := 0) rfl
          have q_s1 := k_s.cell (i := 1) rfl
          have q_s2 := k_s.cell (i := 2) rfl
          have q_s3 := k_s.cell (i := 3) rfl
          have q_sf := k_s.free
          go_wp2
          clear q_x0 q_x1 q_x2 q_x3 q_x4 q_x5 q_x6 q_x7 q_x8 q_xf q_u0 q_u1 q_u2 q_u3 q_uf q_s0 q_s1 q_s2 q_s3 q_sf
          obtain ⟨W18, hW18, bW18, sW18, kpW18, k2_s, k2_t, k2_r, k2_x, k2_u⟩ : ∃ x, (((((W17.setCell ⟨w.heap.size + 1 + 1 + 1, 2, none⟩ (.slice la cs.length lc)).setCell ⟨w.heap.size, 0, none⟩ (.slice pw s5.left.length cw)).setCell ⟨w.heap.size, 1, none⟩ (.int .i64 (N : Nat))).setCell ⟨w.heap.size, 2, none⟩ (.int .i64 (s5.err : Nat))).setCell ⟨w.heap.size, 3, none⟩ (.int .i64 (s5.pos : Nat))) = x ∧ Since w x ∧ W17.heap.size ≤ x.heap.size ∧ Kp (fun k => k < W1.heap.size) W16 x ∧ Blk x (w.heap.size) 45 [.slice pw s5.left.length cw, .int .i64 (N : Nat), .int .i64 (s5.err : Nat), .int .i64 (s5.pos : Nat)] ∧ Blk x (w.heap.size + 1) 38 [.int .i64 0, .string ⟨#[]⟩, .slice none 0 0, .int .i64 0, .int .i64 0, .int .i64 0, .int .i64 0, .int .i64 0, .int .i64 0] ∧ Blk x (w.heap.size + 1 + 1) 45 [.slice none 0 0, .int .i64 0, .int .i64 0, .int .i64 0] ∧ Blk x (w.heap.size + 1 + 1 + 1) 38 [.int .i64 3, .string ⟨nm.text.toArray⟩, .slice la cs.length lc, .int .i64 (m.val : Nat), .int .i64 (rz.1 : Nat), .int .i64 (rz.2 : Nat), .int .i64 (qz.1 : Nat), .int .i64 (qz.2 : Nat), .int .i64 (tt.pos : Nat)] ∧ Blk x (W16.heap.size) 45 [.slice pw s5.left.length cw, .int .i64 (N : Nat), .int .i64 (s5.err : Nat), .int .i64 (s5.pos : Nat)] := ⟨_, rfl, (Since.s4 (Since.s1 bW17 (by omega)) (by omega)), by simp only [World.setCell, World.size_alloc, Array.size_modify, Nat.le_refl], (Kp.s4 (Kp.s1 kpW17 (Or.inl (show w.heap.size + 1 + 1 + 1 < W1.heap.size by omega))) (Or.inl (show w.heap.size < W1.heap.size by omega))), (Blk.cast (Blk.set (Blk.set (Blk.set (Blk.set (Blk.o1 k_s (by omega)) 0 _) 1 _) 2 _) 3 _) rfl), (Blk.o4 (Blk.o1 k_t (by omega)) (by omega)), (Blk.o4 (Blk.o1 k_r (by omega)) (by omega)), (Blk.o4 (Blk.cast (Blk.set k_x 2 _) rfl) (by omega)), (Blk.o4 (Blk.o1 k_u (by omega)) (by omega))⟩
          rw [hW18]
          clear hW18 k_s k_t k_r k_x k_u
          have k_s := k2_s
          have k_t := k2_t
          have k_r := k2_r
          have k_x := k2_x
          have k_u := k2_u
          clear k2_s k2_t k2_r k2_x k2_u
          go_meet
          exact ⟨_, _, _, HVw, Lib.hid ((HLw.out.kept (fun k hk hlt => kpW18.block k hlt (by omega))).mono (fun k hk _ => by omega)), Lib.hid k_s, Lib.hid k_t, Lib.hid k_r, Lib.hid k_x, Lib.hid bW18, Lib.hid (by omega)⟩
      case rest =>
      clear q_s0 q_s1 q_s2 q_s3 q_sf
      obtain ⟨lv, p5, cap5, HV5, HLS, J_s, J_t, J_r, J_x, Jb, Jz⟩ := hcut
      obtain ⟨Wd, hwc⟩ : ∃ z, z = wc := ⟨_, rfl⟩
      subst hwc
      clear k_s k_t k_r k_x bW14 sW14
      have k_s := J_s.out
      have k_t := J_t.out
      have k_r := J_r.out
      have k_x := J_x.out
      have bWd := Jb.out
      have sWd := Jz.out
      clear J_s J_t J_r J_x Jb Jz
      obtain ⟨la, lc, hlv⟩ := HLS.out.len
      subst hlv
      go_upto_region 46 with fail
      refine wp_region_any (by kernel_rfl) ?_
      refine Foyer.Round.any_of_held (S := fun W => Blk W (w.heap.size + 1 + 1 + 1) 38 [.int .i64 3, .string ⟨nm.text.toArray⟩, .slice la cs.length lc, .int .i64 (m.val : Nat), .int .i64 (rz.1 : Nat), .int .i64 (rz.2 : Nat), .int .i64 (qz.1 : Nat), .int .i64 (qz.2 : Nat), .int .i64 (tt.pos : Nat)] ∧ Blk W (w.heap.size) 45 [.slice p5 s5.left.length cap5, .int .i64 (N : Nat), .int .i64 (s5.err : Nat), .int .i64 (s5.pos : Nat)]) (N := [4]) _ _ _ _ ?_
      change Foyer.Round.held _ _ _ _ _ _ _ _ _ Wd.drew
      obtain ⟨W15, hW15⟩ : ∃ x, Wd.drew = x := ⟨_, rfl⟩
      have bW15 : Since w W15 := by rw [← hW15]; exact Below.drew bWd
      have sW15 := sWd
      rw [show Wd.heap.size = W15.heap.size from by rw [← hW15]; rfl] at sW15
      replace k_s : Blk W15 (w.heap.size) 45 [.slice p5 s5.left.length cap5, .int .i64 (N : Nat), .int .i64 (s5.err : Nat), .int .i64 (s5.pos : Nat)] := by rw [← hW15]; exact k_s
      replace k_t : Blk W15 (w.heap.size + 1) 38 [.int .i64 0, .string ⟨#[]⟩, .slice none 0 0, .int .i64 0, .int .i64 0, .int .i64 0, .int .i64 0, .int .i64 0, .int .i64 0] := by rw [← hW15]; exact k_t
      replace k_r : Blk W15 (w.heap.size + 1 + 1) 45 [.slice none 0 0, .int .i64 0, .int .i64 0, .int .i64 0] := by rw [← hW15]; exact k_r
      replace k_x : Blk W15 (w.heap.size + 1 + 1 + 1) 38 [.int .i64 3, .string ⟨nm.text.toArray⟩, .slice la cs.length lc, .int .i64 (m.val : Nat), .int .i64 (rz.1 : Nat), .int .i64 (rz.2 : Nat), .int .i64 (qz.1 : Nat), .int .i64 (qz.2 : Nat), .int .i64 (tt.pos : Nat)] := by rw [← hW15]; exact k_x
      have kpW15 : Kp (fun k => k < W1.heap.size) Wd W15 := by rw [← hW15]; exact Kp.drew (Kp.refl (fun k => k < W1.heap.size) Wd)
      rw [hW15]
      clear hW15 bWd sWd
      refine Foyer.Round.held_take [4] (i := 0) (v := .agg #[.int .i64 3, .string ⟨nm.text.toArray⟩, .slice la cs.length lc, .int .i64 (m.val : Nat), .int .i64 (rz.1 : Nat), .int .i64 (rz.2 : Nat), .int .i64 (qz.1 : Nat), .int .i64 (qz.2 : Nat), .int .i64 (tt.pos : Nat)]) rfl (by kernel_rfl) (fun _ _ _ h => h) (Or.inl ⟨by rfl, fun w' hS => by have r_x0 := (show Blk _ _ _ _ from hS.1).cell (i := 0) rfl; have r_x1 := (show Blk _ _ _ _ from hS.1).cell (i := 1) rfl; have r_x2 := (show Blk _ _ _ _ from hS.1).cell (i := 2) rfl; have r_x3 := (show Blk _ _ _ _ from hS.1).cell (i := 3) rfl; have r_x4 := (show Blk _ _ _ _ from hS.1).cell (i := 4) rfl; have r_x5 := (show Blk _ _ _ _ from hS.1).cell (i := 5) rfl; have r_x6 := (show Blk _ _ _ _ from hS.1).cell (i := 6) rfl; have r_x7 := (show Blk _ _ _ _ from hS.1).cell (i := 7) rfl; have r_x8 := (show Blk _ _ _ _ from hS.1).cell (i := 8) rfl; go_simp⟩) (⟨k_x, k_s⟩) ?_
      try simp only [Act.put, List.setIfInBounds_toArray, List.set_cons_zero, List.set_cons_succ]
      refine Foyer.Round.held_take [4] (i := 1) (v := .agg #[.slice p5 s5.left.length cap5, .int .i64 (N : Nat), .int .i64 (s5.err : Nat), .int .i64 (s5.pos : Nat)]) rfl (by kernel_rfl) (fun _ _ _ h => h) (Or.inl ⟨by rfl, fun w' hS => by have r_s0 := (show Blk _ _ _ _ from hS.2).cell (i := 0) rfl; have r_s1 := (show Blk _ _ _ _ from hS.2).cell (i := 1) rfl; have r_s2 := (show Blk _ _ _ _ from hS.2).cell (i := 2) rfl; have r_s3 := (show Blk _ _ _ _ from hS.2).cell (i := 3) rfl; go_simp⟩) (⟨k_x, k_s⟩) ?_
      try simp only [Act.put, List.setIfInBounds_toArray, List.set_cons_zero, List.set_cons_succ]
      refine Foyer.Round.held_one (i := 2) rfl (by kernel_rfl) (fun K hK => ?_)
      go_simp
      refine (rword_c NF.out B p5 cap5 HV5.out _ (HB.out.trans (bW15.mono HB.out.size))).mono ?_; rintro e W16 ⟨⟨p8, cap8, rfl, hs_⟩, hb⟩
      have sW16 := Nat.le_trans sW15 hb.size
      have bW16 := (bW15).call hb
      replace k_s := k_s.past hb
      replace k_t := k_t.past hb
      replace k_r := k_r.past hb
      replace k_x := k_x.past hb
      have kpW16 := (kpW15).trans (Kp.of_below hb)
      clear hb bW15 sW15
      refine hK.out _ _ (fun _ => ⟨k_x, k_s⟩) ?_
      clear hK K
      try simp only [Act.put, List.setIfInBounds_toArray, List.set_cons_zero, List.set_cons_succ]
      have q_t0 := k_t.cell (i := 0) rfl
      have q_t1 := k_t.cell (i := 1) rfl
      have q_t2 := k_t.cell (i := 2) rfl
      have q_t3 := k_t.cell (i := 3) rfl
      have q_t4 := k_t.cell (i := 4) rfl
      have q_t5 := k_t.cell (i := 5) rfl
      have q_t6 := k_t.cell (i := 6) rfl
      have q_t7 := k_t.cell (i := 7) rfl
      have q_t8 := k_t.cell (i := 8) rfl
      have q_tf := k_t.free
      refine Foyer.Round.held_one (i := 3) rfl (by kernel_rfl) (fun K hK => ?_)
      go_simp
      clear q_t0 q_t1 q_t2 q_t3 q_t4 q_t5 q_t6 q_t7 q_t8 q_tf
      obtain ⟨W17, hW17, bW17, sW17, kpW17, k2_s, k2_t, k2_r, k2_x⟩ : ∃ x, (((((((((W16.setCell ⟨w.heap.size + 1, 0, none⟩ (.int .i64 3)).setCell ⟨w.heap.size + 1, 1, none⟩ (.string ⟨nm.text.toArray⟩)).setCell ⟨w.heap.size + 1, 2, none⟩ (.slice la cs.length lc)).setCell ⟨w.heap.size + 1, 3, none⟩ (.int .i64 (m.val : Nat))).setCell ⟨w.heap.size + 1, 4, none⟩ (.int .i64 (rz.1 : Nat))).setCell ⟨w.heap.size + 1, 5, none⟩ (.int .i64 (rz.2 : Nat))).setCell ⟨w.heap.size + 1, 6, none⟩ (.int .i64 (qz.1 : Nat))).setCell ⟨w.heap.size + 1, 7, none⟩ (.int .i64 (qz.2 : Nat))).setCell ⟨w.heap.size + 1, 8, none⟩ (.int .i64 (tt.pos : Nat))) = x ∧ Since w x ∧ W16.heap.size ≤ x.heap.size ∧ Kp (fun k => k < W1.heap.size) Wd x ∧ Blk x (w.heap.size) 45 [.slice p5 s5.left.length cap5, .int .i64 (N : Nat), .int .i64 (s5.err : Nat), .int .i64 (s5.pos : Nat)] ∧ Blk x (w.heap.size + 1) 38 [.int .i64 3, .string ⟨nm.text.toArray⟩, .slice la cs.length lc, .int .i64 (m.val : Nat), .int .i64 (rz.1 : Nat), .int .i64 (rz.2 : Nat), .int .i64 (qz.1 : Nat), .int .i64 (qz.2 : Nat), .int .i64 (tt.pos : Nat)] ∧ Blk x (w.heap.size + 1 + 1) 45 [.slice none 0 0, .int .i64 0, .int .i64 0, .int .i64 0] ∧ Blk x (w.heap.size + 1 + 1 + 1) 38 [.int .i64 3, .string ⟨nm.text.toArray⟩, .slice la cs.length lc, .int .i64 (m.val : Nat), .int .i64 (rz.1 : Nat), .int .i64 (rz.2 : Nat), .int .i64 (qz.1 : Nat), .int .i64 (qz.2 : Nat), .int .i64 (tt.pos : Nat)] := ⟨_, rfl, (Since.s1 (Since.s4 (Since.s4 bW16 (by omega)) (by omega)) (by omega)), by simp only [World.setCell, World.size_alloc, Array.size_modify, Nat.le_refl], (Kp.s1 (Kp.s4 (Kp.s4 kpW16 (Or.inl (show w.heap.size + 1 < W1.heap.size by omega))) (Or.inl (show w.heap.size + 1 < W1.heap.size by omega))) (Or.inl (show w.heap.size + 1 < W1.heap.size by omega))), (Blk.o1 (Blk.o4 (Blk.o4 k_s (by omega)) (by omega)) (by omega)), (Blk.cast (Blk.set (Blk.set (Blk.set (Blk.set (Blk.set (Blk.set (Blk.set (Blk.set (Blk.set k_t 0 _) 1 _) 2 _) 3 _) 4 _) 5 _) 6 _) 7 _) 8 _) rfl), (Blk.o1 (Blk.o4 (Blk.o4 k_r (by omega)) (by omega)) (by omega)), (Blk.o1 (Blk.o4 (Blk.o4 k_x (by omega)) (by omega)) (by omega))⟩
      rw [hW17]
      clear hW17 k_s k_t k_r k_x
      have k_s := k2_s
      have k_t := k2_t
      have k_r := k2_r
      have k_x := k2_x
      clear k2_s k2_t k2_r k2_x
      refine hK.out _ _ (fun _ => ⟨k_x, k_s⟩) ?_
      clear hK K
      try simp only [Act.put, List.setIfInBounds_toArray, List.set_cons_zero, List.set_cons_succ]
      have q_r0 := k_r.cell (i := 0) rfl
      have q_r1 := k_r.cell (i := 1) rfl
      have q_r2 := k_r.cell (i := 2) rfl
      have q_r3 := k_r.cell (i := 3) rfl
      have q_rf := k_r.free
      refine Foyer.Round.held_one (i := 4) rfl (by kernel_rfl) (fun K hK => ?_)
      go_simp
      clear q_r0 q_r1 q_r2 q_r3 q_rf
      obtain ⟨W18, hW18, bW18, sW18, kpW18, k2_s, k2_t, k2_r, k2_x⟩ : ∃ x, ((((W17.setCell ⟨w.heap.size + 1 + 1, 0, none⟩ (.slice p8 s9.left.length cap8)).setCell ⟨w.heap.size + 1 + 1, 1, none⟩ (.int .i64 (N : Nat))).setCell ⟨w.heap.size + 1 + 1, 2, none⟩ (.int .i64 (s9.err : Nat))).setCell ⟨w.heap.size + 1 + 1, 3, none⟩ (.int .i64 (s9.pos : Nat))) = x ∧ Since w x ∧ W17.heap.size ≤ x.heap.size ∧ Kp (fun k => k < W1.heap.size) Wd x ∧ Blk x (w.heap.size) 45 [.slice p5 s5.left.length cap5, .int .i64 (N : Nat), .int .i64 (s5.err : Nat), .int .i64 (s5.pos : Nat)] ∧ Blk x (w.heap.size + 1) 38 [.int .i64 3, .string ⟨nm.text.toArray⟩, .slice la cs.length lc, .int .i64 (m.val : Nat), .int .i64 (rz.1 : Nat), .int .i64 (rz.2 : Nat), .int .i64 (qz.1 : Nat), .int .i64 (qz.2 : Nat), .int .i64 (tt.pos : Nat)] ∧ Blk x (w.heap.size + 1 + 1) 45 [.slice p8 s9.left.length cap8, .int .i64 (N : Nat), .int .i64 (s9.err : Nat), .int .i64 (s9.pos : Nat)] ∧ Blk x (w.heap.size + 1 + 1 + 1) 38 [.int .i64 3, .string ⟨nm.text.toArray⟩, .slice la cs.length lc, .int .i64 (m.val : Nat), .int .i64 (rz.1 : Nat), .int .i64 (rz.2 : Nat), .int .i64 (qz.1 : Nat), .int .i64 (qz.2 : Nat), .int .i64 (tt.pos : Nat)] := ⟨_, rfl, (Since.s4 bW17 (by omega)), by simp only [World.setCell, World.size_alloc, Array.size_modify, Nat.le_refl], (Kp.s4 kpW17 (Or.inl (show w.heap.size + 1 + 1 < W1.heap.size by omega))), (Blk.o4 k_s (by omega)), (Blk.o4 k_t (by omega)), (Blk.cast (Blk.set (Blk.set (Blk.set (Blk.set k_r 0 _) 1 _) 2 _) 3 _) rfl), (Blk.o4 k_x (by omega))⟩
      rw [hW18]
      clear hW18 k_s k_t k_r k_x
      have k_s := k2_s
      have k_t := k2_t
      have k_r := k2_r
      have k_x := k2_x
      clear k2_s k2_t k2_r k2_x
      refine hK.out _ _ (fun _ => ⟨k_x, k_s⟩) ?_
      clear hK K
      try simp only [Act.put, List.setIfInBounds_toArray, List.set_cons_zero, List.set_cons_succ]
      refine Foyer.Round.held_done (by kernel_rfl) ?_ _
      go_wp2
      exact bodyPost_ret (results_two rfl _ _ (w.heap.size + 1) (w.heap.size + 1 + 1) _ _ _ _ rfl k_t.range Tryd.underlying38 rfl (by kernel_rfl) rfl k_r.range Tryd.underlying45 rfl (by kernel_rfl)) rfl ⟨⟨_, _, _, rfl, hs_, (HLS.out.kept (fun k hk hlt => kpW18.block k hlt (by omega))).mono (fun k hk _ => by omega)⟩, bW18⟩
    by_cases hk4 : kd = 4
    · subst hk4
      have h2 := N2.out
      unfold rHead at h2
      clear N2
      rw [if_neg (by decide), if_neg (by decide), if_pos rfl] at h2
      obtain ⟨sA, h5⟩ : ∃ z, rWord N sn wCap = z := ⟨_, rfl⟩
      obtain ⟨⟨rz, sB⟩, h6⟩ : ∃ z, rRatio N sA = z := ⟨_, rfl⟩
      obtain ⟨sC, h7⟩ : ∃ z, rWord N sB wShare = z := ⟨_, rfl⟩
      obtain ⟨⟨qz, sD⟩, h8⟩ : ∃ z, rRatio N sC = z := ⟨_, rfl⟩
      simp only [h5, h6, h7, h8] at h2
      injection h2 with e1 e2
      subst e1 e2
      have N5 := Lib.hid h5; have N6 := Lib.hid h6; have N7 := Lib.hid h7; have N8 := Lib.hid h8
      clear h5 h6 h7 h8
      replace k_x : Blk W6 (w.heap.size + 1 + 1 + 1) 38 [.int .i64 4, .string ⟨nm.text.toArray⟩, .slice none 0 0, .int .i64 0, .int .i64 0, .int .i64 0, .int .i64 0, .int .i64 0, .int .i64 (tt.pos : Nat)] := k_x
      have q_x0 := k_x.cell (i := 0) rfl
      have q_x1 := k_x.cell (i := 1) rfl
      have q_x2 := k_x.cell (i := 2) rfl
      have q_x3 := k_x.cell (i := 3) rfl
      have q_x4 := k_x.cell (i := 4) rfl
      have q_x5 := k_x.cell (i := 5) rfl
      have q_x6 := k_x.cell (i := 6) rfl
      have q_x7 := k_x.cell (i := 7) rfl
      have q_x8 := k_x.cell (i := 8) rfl
      have q_xf := k_x.free
      have q_s0 := k_s.cell (i := 0) rfl
      have q_s1 := k_s.cell (i := 1) rfl
      have q_s2 := k_s.cell (i := 2) rfl
      have q_s3 := k_s.cell (i := 3) rfl
      have q_sf := k_s.free
      go_wp2_with fail
      refine (rword_c N5.out B p3 cap3 HV3.out  _ (HB.out.trans (bW6.mono HB.out.size))).mono ?_; rintro e W7 ⟨⟨p4, cap4, rfl, hs_⟩, hb⟩
      clear q_x0 q_x1 q_x2 q_x3 q_x4 q_x5 q_x6 q_x7 q_x8 q_xf q_s0 q_s1 q_s2 q_s3 q_sf
      have sW7 := Nat.le_trans sW6 hb.size
      have bW7 := (bW6).call hb
      replace k_s := k_s.past hb
      replace k_t := k_t.past hb
      replace k_r := k_r.past hb
      replace k_x := k_x.past hb
      clear hb bW6 sW6
      have HV4 := Lib.hid hs_
      clear hs_
      go_wp2_with fail
      refine (rratio_c N6.out B p4 cap4 HV4.out  _ (HB.out.trans (bW7.mono HB.out.size))).mono ?_; rintro e W8 ⟨⟨p5, cap5, rfl, hs_⟩, hb⟩
      have sW8 := Nat.le_trans sW7 hb.size
      have bW8 := (bW7).call hb
      replace k_s := k_s.past hb
      replace k_t := k_t.past hb
      replace k_r := k_r.past hb
      replace k_x := k_x.past hb
      clear hb bW7 sW7
      have HV5 := Lib.hid hs_
      clear hs_
      go_upto_region 34 with fail
      obtain ⟨W9, hW9, bW9, sW9, k2_s, k2_t, k2_r, k2_x, k2_z, k2_u⟩ : ∃ x, ((W8.alloc (.cells #[.int .i64 (rz.1 : Nat), .int .i64 (rz.2 : Nat)] 36)).alloc (.cells #[.slice p5 sB.left.length cap5, .int .i64 (N : Nat), .int .i64 (sB.err : Nat), .int .i64 (sB.pos : Nat)] 45)) = x ∧ Since w x ∧ W8.heap.size + 1 + 1 ≤ x.heap.size ∧ Blk x (w.heap.size) 45 [.slice p3 sn.left.length cap3, .int .i64 (N : Nat), .int .i64 (sn.err : Nat), .int .i64 (sn.pos : Nat)] ∧ Blk x (w.heap.size + 1) 38 [.int .i64 0, .string ⟨#[]⟩, .slice none 0 0, .int .i64 0, .int .i64 0, .int .i64 0, .int .i64 0, .int .i64 0, .int .i64 0] ∧ Blk x (w.heap.size + 1 + 1) 45 [.slice none 0 0, .int .i64 0, .int .i64 0, .int .i64 0] ∧ Blk x (w.heap.size + 1 + 1 + 1) 38 [.int .i64 4, .string ⟨nm.text.toArray⟩, .slice none 0 0, .int .i64 0, .int .i64 0, .int .i64 0, .int .i64 0, .int .i64 0, .int .i64 (tt.pos : Nat)] ∧ Blk x (W8.heap.size) 36 [.int .i64 (rz.1 : Nat), .int .i64 (rz.2 : Nat)] ∧ Blk x (W8.heap.size + 1) 45 [.slice p5 sB.left.length cap5, .int .i64 (N : Nat), .int .i64 (sB.err : Nat), .int .i64 (sB.pos : Nat)] := ⟨_, rfl, (Since.alloc (Since.alloc bW8 _) _), by simp only [World.setCell, World.size_alloc, Array.size_modify, Nat.le_refl], (Blk.alloc (Blk.alloc k_s _) _), (Blk.alloc (Blk.alloc k_t _) _), (Blk.alloc (Blk.alloc k_r _) _), (Blk.alloc (Blk.alloc k_x _) _), (Blk.alloc (Blk.new' _ _ _ (rfl)) _), (Blk.new' _ _ _ (by simp only [World.size_alloc]))⟩
      rw [hW9]
      clear hW9 k_s k_t k_r k_x
      have k_s := k2_s
      have k_t := k2_t
      have k_r := k2_r
      have k_x := k2_x
      have k_z := k2_z
      have k_u := k2_u
      clear k2_s k2_t k2_r k2_x k2_z k2_u
      have q_z0 := k_z.cell (i := 0) rfl
      have q_z1 := k_z.cell (i := 1) rfl
      have q_zf := k_z.free
      have q_x0 := k_x.cell (i := 0) rfl
      have q_x1 := k_x.cell (i := 1) rfl
      have q_x2 := k_x.cell (i := 2) rfl
      have q_x3 := k_x.cell (i := 3) rfl
      have q_x4 := k_x.cell (i := 4) rfl
      have q_x5 := k_x.cell (i := 5) rfl
      have q_x6 := k_x.cell (i := 6) rfl
      have q_x7 := k_x.cell (i := 7) rfl
      have q_x8 := k_x.cell (i := 8) rfl
      have q_xf := k_x.free
      have q_u0 := k_u.cell (i := 0) rfl
      have q_u1 := k_u.cell (i := 1) rfl
      have q_u2 := k_u.cell (i := 2) rfl
      have q_u3 := k_u.cell (i := 3) rfl
      have q_uf := k_u.free
      go_upto_region 35 with fail
      clear q_z0 q_z1 q_zf q_x0 q_x1 q_x2 q_x3 q_x4 q_x5 q_x6 q_x7 q_x8 q_xf q_u0 q_u1 q_u2 q_u3 q_uf
      obtain ⟨W10, hW10, bW10, sW10, k2_s, k2_t, k2_r, k2_x, k2_z, k2_u⟩ : ∃ x, ((W9.setCell ⟨w.heap.size + 1 + 1 + 1, 4, none⟩ (.int .i64 (rz.1 : Nat))).setCell ⟨w.heap.size + 1 + 1 + 1, 5, none⟩ (.int .i64 (rz.2 : Nat))) = x ∧ Since w x ∧ W9.heap.size ≤ x.heap.size ∧ Blk x (w.heap.size) 45 [.slice p3 sn.left.length cap3, .int .i64 (N : Nat), .int .i64 (sn.err : Nat), .int .i64 (sn.pos : Nat)] ∧ Blk x (w.heap.size + 1) 38 [.int .i64 0, .string ⟨#[]⟩, .slice none 0 0, .int .i64 0, .int .i64 0, .int .i64 0, .int .i64 0, .int .i64 0, .int .i64 0] ∧ Blk x (w.heap.size + 1 + 1) 45 [.slice none 0 0, .int .i64 0, .int .i64 0, .int .i64 0] ∧ Blk x (w.heap.size + 1 + 1 + 1) 38 [.int .i64 4, .string ⟨nm.text.toArray⟩, .slice none 0 0, .int .i64 0, .int .i64 (rz.1 : Nat), .int .i64 (rz.2 : Nat), .int .i64 0, .int .i64 0, .int .i64 (tt.pos : Nat)] ∧ Blk x (W8.heap.size) 36 [.int .i64 (rz.1 : Nat), .int .i64 (rz.2 : Nat)] ∧ Blk x (W8.heap.size + 1) 45 [.slice p5 sB.left.length cap5, .int .i64 (N : Nat), .int .i64 (sB.err : Nat), .int .i64 (sB.pos : Nat)] := ⟨_, rfl, (Since.s2 bW9 (by omega)), by simp only [World.setCell, World.size_alloc, Array.size_modify, Nat.le_refl], (Blk.o2 k_s (by omega)), (Blk.o2 k_t (by omega)), (Blk.o2 k_r (by omega)), (Blk.cast (Blk.set (Blk.set k_x 4 _) 5 _) rfl), (Blk.o2 k_z (by omega)), (Blk.o2 k_u (by omega))⟩
      rw [hW10]
      clear hW10 k_s k_t k_r k_x k_z k_u
      have k_s := k2_s
      have k_t := k2_t
      have k_r := k2_r
      have k_x := k2_x
      have k_z := k2_z
      have k_u := k2_u
      clear k2_s k2_t k2_r k2_x k2_z k2_u
      have q_u0 := k_u.cell (i := 0) rfl
      have q_u1 := k_u.cell (i := 1) rfl
      have q_u2 := k_u.cell (i := 2) rfl
      have q_u3 := k_u.cell (i := 3) rfl
      have q_uf := k_u.free
      go_wp2_with fail
      refine (rword_c N7.out B p5 cap5 HV5.out  _ (HB.out.trans (bW10.mono HB.out.size))).mono ?_; rintro e W11 ⟨⟨p6, cap6, rfl, hs_⟩, hb⟩
      clear q_u0 q_u1 q_u2 q_u3 q_uf
      have sW11 := Nat.le_trans sW10 hb.size
      have bW11 := (bW10).call hb
      replace k_s := k_s.past hb
      replace k_t := k_t.past hb
      replace k_r := k_r.past hb
      replace k_x := k_x.past hb
      replace k_z := k_z.past hb
      replace k_u := k_u.past hb
      clear hb bW10 sW10
      have HV6 := Lib.hid hs_
      clear hs_
      go_wp2_with fail
      refine (rratio_c N8.out B p6 cap6 HV6.out  _ (HB.out.trans (bW11.mono HB.out.size))).mono ?_; rintro e W12 ⟨⟨p7, cap7, rfl, hs_⟩, hb⟩
      have sW12 := Nat.le_trans sW11 hb.size
      have bW12 := (bW11).call hb
      replace k_s := k_s.past hb
      replace k_t := k_t.past hb
      replace k_r := k_r.past hb
      replace k_x := k_x.past hb
      replace k_z := k_z.past hb
      replace k_u := k_u.past hb
      clear hb bW11 sW11
      have HV7 := Lib.hid hs_
      clear hs_
      have q_z0 := (k_z.alloc (.cells #[.slice none 0 0, .int .i64 0, .int .i64 0, .int .i64 0] 45)).cell (i := 0) rfl
      have q_z1 := (k_z.alloc (.cells #[.slice none 0 0, .int .i64 0, .int .i64 0, .int .i64 0] 45)).cell (i := 1) rfl
      have q_zf := (k_z.alloc (.cells #[.slice none 0 0, .int .i64 0, .int .i64 0, .int .i64 0] 45)).free
      go_upto_region 36 with fail
      clear q_z0 q_z1 q_zf
      obtain ⟨W13, hW13, bW13, sW13, k2_s, k2_t, k2_r, k2_x, k2_z, k2_u, k2_v⟩ : ∃ x, (((((((W12.alloc (.cells #[.slice none 0 0, .int .i64 0, .int .i64 0, .int .i64 0] 45)).setCell ⟨W8.heap.size, 0, none⟩ (.int .i64 (qz.1 : Nat))).setCell ⟨W8.heap.size, 1, none⟩ (.int .i64 (qz.2 : Nat))).setCell ⟨W12.heap.size, 0, none⟩ (.slice p7 sD.left.length cap7)).setCell ⟨W12.heap.size, 1, none⟩ (.int .i64 (N : Nat))).setCell ⟨W12.heap.size, 2, none⟩ (.int .i64 (sD.err : Nat))).setCell ⟨W12.heap.size, 3, none⟩ (.int .i64 (sD.pos : Nat))) = x ∧ Since w x ∧ W12.heap.size + 1 ≤ x.heap.size ∧ Blk x (w.heap.size) 45 [.slice p3 sn.left.length cap3, .int .i64 (N : Nat), .int .i64 (sn.err : Nat), .int .i64 (sn.pos : Nat)] ∧ Blk x (w.heap.size + 1) 38 [.int .i64 0, .string ⟨#[]⟩, .slice none 0 0, .int .i64 0, .int .i64 0, .int .i64 0, .int .i64 0, .int .i64 0, .int .i64 0] ∧ Blk x (w.heap.size + 1 + 1) 45 [.slice none 0 0, .int .i64 0, .int .i64 0, .int .i64 0] ∧ Blk x (w.heap.size + 1 + 1 + 1) 38 [.int .i64 4, .string ⟨nm.text.toArray⟩, .slice none 0 0, .int .i64 0, .int .i64 (rz.1 : Nat), .int .i64 (rz.2 : Nat), .int .i64 0, .int .i64 0, .int .i64 (tt.pos : Nat)] ∧ Blk x (W8.heap.size) 36 [.int .i64 (qz.1 : Nat), .int .i64 (qz.2 : Nat)] ∧ Blk x (W8.heap.size + 1) 45 [.slice p5 sB.left.length cap5, .int .i64 (N : Nat), .int .i64 (sB.err : Nat), .int .i64 (sB.pos : Nat)] ∧ Blk x (W12.heap.size) 45 [.slice p7 sD.left.length cap7, .int .i64 (N : Nat), .int .i64 (sD.err : Nat), .int .i64 (sD.pos : Nat)] := ⟨_, rfl, (Since.s4 (Since.s2 (Since.alloc bW12 _) (by omega)) (by omega)), by simp only [World.setCell, World.size_alloc, Array.size_modify, Nat.le_refl], (Blk.o4 (Blk.o2 (Blk.alloc k_s _) (by omega)) (by omega)), (Blk.o4 (Blk.o2 (Blk.alloc k_t _) (by omega)) (by omega)), (Blk.o4 (Blk.o2 (Blk.alloc k_r _) (by omega)) (by omega)), (Blk.o4 (Blk.o2 (Blk.alloc k_x _) (by omega)) (by omega)), (Blk.o4 (Blk.cast (Blk.set (Blk.set (Blk.alloc k_z _) 0 _) 1 _) rfl) (by omega)), (Blk.o4 (Blk.o2 (Blk.alloc k_u _) (by omega)) (by omega)), (Blk.cast (Blk.set (Blk.set (Blk.set (Blk.set (Blk.o2 (Blk.new' _ _ _ (rfl)) (by omega)) 0 _) 1 _) 2 _) 3 _) rfl)⟩
      rw [hW13]
      clear hW13 k_s k_t k_r k_x k_z k_u
      have k_s := k2_s
      have k_t := k2_t
      have k_r := k2_r
      have k_x := k2_x
      have k_z := k2_z
      have k_u := k2_u
      have k_v := k2_v
      clear k2_s k2_t k2_r k2_x k2_z k2_u k2_v
      have q_z0 := k_z.cell (i := 0) rfl
      have q_z1 := k_z.cell (i := 1) rfl
      have q_zf := k_z.free
      have q_x0 := k_x.cell (i := 0) rfl
      have q_x1 := k_x.cell (i := 1) rfl
      have q_x2 := k_x.cell (i := 2) rfl
      have q_x3 := k_x.cell (i := 3) rfl
      have q_x4 := k_x.cell (i := 4) rfl
      have q_x5 := k_x.cell (i := 5) rfl
      have q_x6 := k_x.cell (i := 6) rfl
      have q_x7 := k_x.cell (i := 7) rfl
      have q_x8 := k_x.cell (i := 8) rfl
      have q_xf := k_x.free
      have q_v0 := k_v.cell (i := 0) rfl
      have q_v1 := k_v.cell (i := 1) rfl
      have q_v2 := k_v.cell (i := 2) rfl
      have q_v3 := k_v.cell (i := 3) rfl
      have q_vf := k_v.free
      have q_s0 := k_s.cell (i := 0) rfl
      have q_s1 := k_s.cell (i := 1) rfl
      have q_s2 := k_s.cell (i := 2) rfl
      have q_s3 := k_s.cell (i := 3) rfl
      have q_sf := k_s.free
      go_upto_region 38 with fail
      clear q_z0 q_z1 q_zf q_x0 q_x1 q_x2 q_x3 q_x4 q_x5 q_x6 q_x7 q_x8 q_xf q_v0 q_v1 q_v2 q_v3 q_vf q_s0 q_s1 q_s2 q_s3 q_sf
      obtain ⟨W14, hW14, bW14, sW14, k2_s, k2_t, k2_r, k2_x, k2_z, k2_u, k2_v⟩ : ∃ x, ((((((W13.setCell ⟨w.heap.size + 1 + 1 + 1, 6, none⟩ (.int .i64 (qz.1 : Nat))).setCell ⟨w.heap.size + 1 + 1 + 1, 7, none⟩ (.int .i64 (qz.2 : Nat))).setCell ⟨w.heap.size, 0, none⟩ (.slice p7 sD.left.length cap7)).setCell ⟨w.heap.size, 1, none⟩ (.int .i64 (N : Nat))).setCell ⟨w.heap.size, 2, none⟩ (.int .i64 (sD.err : Nat))).setCell ⟨w.heap.size, 3, none⟩ (.int .i64 (sD.pos : Nat))) = x ∧ Since w x ∧ W13.heap.size ≤ x.heap.size ∧ Blk x (w.heap.size) 45 [.slice p7 sD.left.length cap7, .int .i64 (N : Nat), .int .i64 (sD.err : Nat), .int .i64 (sD.pos : Nat)] ∧ Blk x (w.heap.size + 1) 38 [.int .i64 0, .string ⟨#[]⟩, .slice none 0 0, .int .i64 0, .int .i64 0, .int .i64 0, .int .i64 0, .int .i64 0, .int .i64 0] ∧ Blk x (w.heap.size + 1 + 1) 45 [.slice none 0 0, .int .i64 0, .int .i64 0, .int .i64 0] ∧ Blk x (w.heap.size + 1 + 1 + 1) 38 [.int .i64 4, .string ⟨nm.text.toArray⟩, .slice none 0 0, .int .i64 0, .int .i64 (rz.1 : Nat), .int .i64 (rz.2 : Nat), .int .i64 (qz.1 : Nat), .int .i64 (qz.2 : Nat), .int .i64 (tt.pos : Nat)] ∧ Blk x (W8.heap.size) 36 [.int .i64 (qz.1 : Nat), .int .i64 (qz.2 : Nat)] ∧ Blk x (W8.heap.size + 1) 45 [.slice p5 sB.left.length cap5, .int .i64 (N : Nat), .int .i64 (sB.err : Nat), .int .i64 (sB.pos : Nat)] ∧ Blk x (W12.heap.size) 45 [.slice p7 sD.left.length cap7, .int .i64 (N : Nat), .int .i64 (sD.err : Nat), .int .i64 (sD.pos : Nat)] := ⟨_, rfl, (Since.s4 (Since.s2 bW13 (by omega)) (by omega)), by simp only [World.setCell, World.size_alloc, Array.size_modify, Nat.le_refl], (Blk.cast (Blk.set (Blk.set (Blk.set (Blk.set (Blk.o2 k_s (by omega)) 0 _) 1 _) 2 _) 3 _) rfl), (Blk.o4 (Blk.o2 k_t (by omega)) (by omega)), (Blk.o4 (Blk.o2 k_r (by omega)) (by omega)), (Blk.o4 (Blk.cast (Blk.set (Blk.set k_x 6 _) 7 _) rfl) (by omega)), (Blk.o4 (Blk.o2 k_z (by omega)) (by omega)), (Blk.o4 (Blk.o2 k_u (by omega)) (by omega)), (Blk.o4 (Blk.o2 k_v (by omega)) (by omega))⟩
      rw [hW14]
      clear hW14 k_s k_t k_r k_x k_z k_u k_v
      have k_s := k2_s
      have k_t := k2_t
      have k_r := k2_r
      have k_x := k2_x
      have k_z := k2_z
      have k_u := k2_u
      have k_v := k2_v
      clear k2_s k2_t k2_r k2_x k2_z k2_u k2_v
      clear k_z k_u k_v
      obtain ⟨s4, hs4⟩ : ∃ z, z = sD := ⟨_, rfl⟩
      subst hs4
      have q_x0 := k_x.cell (i := 0) rfl
      have q_x1 := k_x.cell (i := 1) rfl
      have q_x2 := k_x.cell (i := 2) rfl
      have q_x3 := k_x.cell (i := 3) rfl
      have q_x4 := k_x.cell (i := 4) rfl
      have q_x5 := k_x.cell (i := 5) rfl
      have q_x6 := k_x.cell (i := 6) rfl
      have q_x7 := k_x.cell (i := 7) rfl
      have q_x8 := k_x.cell (i := 8) rfl
      have q_xf := k_x.free
      go_upto_region 42 with fail
      clear q_x0 q_x1 q_x2 q_x3 q_x4 q_x5 q_x6 q_x7 q_x8 q_xf
      obtain ⟨dw, hdw⟩ : ∃ z, rIs s4 1 wWhen = z := ⟨_, rfl⟩
      have Ndw := Lib.hid hdw
      clear hdw
      have q_s0 := k_s.cell (i := 0) rfl
      have q_s1 := k_s.cell (i := 1) rfl
      have q_s2 := k_s.cell (i := 2) rfl
      have q_s3 := k_s.cell (i := 3) rfl
      have q_sf := k_s.free
      go_wp2_with fail
      refine (ris_c Ndw.out B p7 cap7 HV7.out 1 rfl _ (HB.out.trans (bW14.mono HB.out.size))).mono ?_; rintro e W15 ⟨rfl, hb⟩
      clear q_s0 q_s1 q_s2 q_s3 q_sf
      have sW15 := Nat.le_trans sW14 hb.size
      have bW15 := (bW14).call hb
      replace k_s := k_s.past hb
      replace k_t := k_t.past hb
      replace k_r := k_r.past hb
      replace k_x := k_x.past hb
      clear hb bW14 sW14
      have hlow : W1.heap.size ≤ W15.heap.size := by omega
      have q_s0 := k_s.cell (i := 0) rfl
      have q_s1 := k_s.cell (i := 1) rfl
      have q_s2 := k_s.cell (i := 2) rfl
      have q_s3 := k_s.cell (i := 3) rfl
      have q_sf := k_s.free
      go_upto_if 150 with fail
      go_cut [21, 22] from 151 to 159 (fun t21 t22 wx => ∃ (lv : Value) (p5 : Option Addr) (cap5 : Nat), Hid (IsSt B p5 cap5 s5.left) ∧ Hid (IsList testsK wx (fun k => W1.heap.size ≤ k) 33 lv cs) ∧ Hid (Blk wx (w.heap.size) 45 [.slice p5 s5.left.length cap5, .int .i64 (N : Nat), .int .i64 (s5.err : Nat), .int .i64 (s5.pos : Nat)]) ∧ Hid (Blk wx (w.heap.size + 1) 38 [.int .i64 0, .string ⟨#[]⟩, .slice none 0 0, .int .i64 0, .int .i64 0, .int .i64 0, .int .i64 0, .int .i64 0, .int .i64 0]) ∧ Hid (Blk wx (w.heap.size + 1 + 1) 45 [.slice none 0 0, .int .i64 0, .int .i64 0, .int .i64 0]) ∧ Hid (Blk wx (w.heap.size + 1 + 1 + 1) 38 [.int .i64 4, .string ⟨nm.text.toArray⟩, lv, .int .i64 0, .int .i64 (rz.1 : Nat), .int .i64 (rz.2 : Nat), .int .i64 (qz.1 : Nat), .int .i64 (qz.2 : Nat), .int .i64 (tt.pos : Nat)]) ∧ Hid (Since w wx) ∧ Hid (W12.heap.size + 1 ≤ wx.heap.size))
      case first =>
        have h3 := N3.out
        unfold rConds at h3
        rw [Ndw.out] at h3
        cases dw
        · rw [if_neg (by simp)] at h3
          injection h3 with e1 e2
          subst e1 e2
          go_wp2
          clear q_s0 q_s1 q_s2 q_s3 q_sf
          go_meet
          exact ⟨_, _, _, HV7, Lib.hid (nil_is _ _ _ _), Lib.hid k_s, Lib.hid k_t, Lib.hid k_r, Lib.hid k_x, Lib.hid bW15, Lib.hid (by omega)⟩
        · rw [if_pos rfl] at h3
          obtain ⟨sw, h5⟩ : ∃ z, rWord N s4 wWhen = z := ⟨_, rfl⟩
          rw [h5] at h3
          have hSw : SaneS sw := HS4.out.suf (by rw [← h5]; exact word_suf _ _)
          have HSw := Lib.hid hSw; have N5 := Lib.hid h5; have N6 := Lib.hid h3
          clear hSw h5 h3
          go_wp2_with fail
          refine (rword_c N5.out B p7 cap7 HV7.out  _ (HB.out.trans (bW15.mono HB.out.size))).mono ?_; rintro e W16 ⟨⟨p6, cap6, rfl, hs_⟩, hb⟩
          clear q_s0 q_s1 q_s2 q_s3 q_sf
          have sW16 := Nat.le_trans sW15 hb.size
          have bW16 := (bW15).call hb
          replace k_s := k_s.past hb
          replace k_t := k_t.past hb
          replace k_r := k_r.past hb
          replace k_x := k_x.past hb
          clear hb bW15 sW15
          have HV6 := Lib.hid hs_
          clear hs_
          have hlow2 : W1.heap.size ≤ W16.heap.size := by omega
          go_wp2_with fail
          refine (rwhen_c N6.out HSw.out B p6 cap6 HV6.out _ (HB.out.trans (bW16.mono HB.out.size))).mono ?_; rintro e W17 ⟨⟨lv, pw, cw, rfl, hs_, hl_⟩, hb⟩
          have sW17 := Nat.le_trans sW16 hb.size
          have bW17 := (bW16).call hb
          replace k_s := k_s.past hb
          replace k_t := k_t.past hb
          replace k_r := k_r.past hb
          replace k_x := k_x.past hb
          clear hb bW16 sW16
          have HVw := Lib.hid hs_
          clear hs_
          obtain ⟨la, lc, hlv⟩ := hl_.len
          subst hlv
          have HLw := Lib.hid hl_
          clear hl_
          go_upto_region 44 with fail
          obtain ⟨W18, hW18, bW18, sW18, kpW18, k2_s, k2_t, k2_r, k2_x, k2_u⟩ : ∃ x, (W17.alloc (.cells #[.slice pw s5.left.length cw, .int .i64 (N : Nat), .int .i64 (s5.err : Nat), .int .i64 (s5.pos : Nat)] 45)) = x ∧ Since w x ∧ W17.heap.size + 1 ≤ x.heap.size ∧ Kp (fun k => k < W1.heap.size) W17 x ∧ Blk x (w.heap.size) 45 [.slice p7 s4.left.length cap7, .int .i64 (N : Nat), .int .i64 (s4.err : Nat), .int .i64 (s4.pos : Nat)] ∧ Blk x (w.heap.size + 1) 38 [.int .i64 0, .string ⟨#[]⟩, .slice none 0 0, .int .i64 0, .int .i64 0, .int .i64 0, .int .i64 0, .int .i64 0, .int .i64 0] ∧ Blk x (w.heap.size + 1 + 1) 45 [.slice none 0 0, .int .i64 0, .int .i64 0, .int .i64 0] ∧ Blk x (w.heap.size + 1 + 1 + 1) 38 [.int .i64 4, .string ⟨nm.text.toArray⟩, .slice none 0 0, .int .i64 0, .int .i64 (rz.1 : Nat), .int .i64 (rz.2 : Nat), .int .i64 (qz.1 : Nat), .int .i64 (qz.2 : Nat), .int .i64 (tt.pos : Nat)] ∧ Blk x (W17.heap.size) 45 [.slice pw s5.left.length cw, .int .i64 (N : Nat), .int .i64 (s5.err : Nat), .int .i64 (s5.pos : Nat)] := ⟨_, rfl, (Since.alloc bW17 _), by simp only [World.setCell, World.size_alloc, Array.size_modify, Nat.le_refl], (Kp.alloc (Kp.refl _ _) _), (Blk.alloc k_s _), (Blk.alloc k_t _), (Blk.alloc k_r _), (Blk.alloc k_x _), (Blk.new' _ _ _ (rfl))⟩
          rw [hW18]
          clear hW18 k_s k_t k_r k_x
          have k_s := k2_s
          have k_t := k2_t
          have k_r := k2_r
          have k_x := k2_x
          have k_u := k2_u
          clear k2_s k2_t k2_r k2_x k2_u
          have q_x0 := k_x.cell (i := 0) rfl
          have q_x1 := k_x.cell (i := 1) rfl
          have q_x2 := k_x.cell (i := 2) rfl
          have q_x3 := k_x.cell (i := 3) rfl
          have q_x4 := k_x.cell (i := 4) rfl
          have q_x5 := k_x.cell (i := 5) rfl
          have q_x6 := k_x.cell (i := 6) rfl
          have q_x7 := k_x.cell (i := 7) rfl
          have q_x8 := k_x.cell (i := 8) rfl
          have q_xf := k_x.free
          have q_u0 := k_u.cell (i := 0) rfl
          have q_u1 := k_u.cell (i := 1) rfl
          have q_u2 := k_u.cell (i := 2) rfl
          have q_u3 := k_u.cell (i := 3) rfl
          have q_uf := k_u.free
          have q_s0 := k_s.cell (i := 0) rfl
          have q_s1 := k_s.cell (i := 1) rfl
          have q_s2 := k_s.cell (i := 2) rfl
          have q_s3 := k_s.cell (i := 3) rfl
          have q_sf := k_s.free
          go_wp2
          clear q_x0 q_x1 q_x2 q_x3 q_x4 q_x5 q_x6 q_x7 q_x8 q_xf q_u0 q_u1 q_u2 q_u3 q_uf q_s0 q_s1 q_s2 q_s3 q_sf
          obtain ⟨W19, hW19, bW19, sW19, kpW19, k2_s, k2_t, k2_r, k2_x, k2_u⟩ : ∃ x, (((((W18.setCell ⟨w.heap.size + 1 + 1 + 1, 2, none⟩ (.slice la cs.length lc)).setCell ⟨w.heap.size, 0, none⟩ (.slice pw s5.left.length cw)).setCell ⟨w.heap.size, 1, none⟩ (.int .i64 (N : Nat))).setCell ⟨w.heap.size, 2, none⟩ (.int .i64 (s5.err : Nat))).setCell ⟨w.heap.size, 3, none⟩ (.int .i64 (s5.pos : Nat))) = x ∧ Since w x ∧ W18.heap.size ≤ x.heap.size ∧ Kp (fun k => k < W1.heap.size) W17 x ∧ Blk x (w.heap.size) 45 [.slice pw s5.left.length cw, .int .i64 (N : Nat), .int .i64 (s5.err : Nat), .int .i64 (s5.pos : Nat)] ∧ Blk x (w.heap.size + 1) 38 [.int .i64 0, .string ⟨#[]⟩, .slice none 0 0, .int .i64 0, .int .i64 0, .int .i64 0, .int .i64 0, .int .i64 0, .int .i64 0] ∧ Blk x (w.heap.size + 1 + 1) 45 [.slice none 0 0, .int .i64 0, .int .i64 0, .int .i64 0] ∧ Blk x (w.heap.size + 1 + 1 + 1) 38 [.int .i64 4, .string ⟨nm.text.toArray⟩, .slice la cs.length lc, .int .i64 0, .int .i64 (rz.1 : Nat), .int .i64 (rz.2 : Nat), .int .i64 (qz.1 : Nat), .int .i64 (qz.2 : Nat), .int .i64 (tt.pos : Nat)] ∧ Blk x (W17.heap.size) 45 [.slice pw s5.left.length cw, .int .i64 (N : Nat), .int .i64 (s5.err : Nat), .int .i64 (s5.pos : Nat)] := ⟨_, rfl, (Since.s4 (Since.s1 bW18 (by omega)) (by omega)), by simp only [World.setCell, World.size_alloc, Array.size_modify, Nat.le_refl], (Kp.s4 (Kp.s1 kpW18 (Or.inl (show w.heap.size + 1 + 1 + 1 < W1.heap.size by omega))) (Or.inl (show w.heap.size < W1.heap.size by omega))), (Blk.cast (Blk.set (Blk.set (Blk.set (Blk.set (Blk.o1 k_s (by omega)) 0 _) 1 _) 2 _) 3 _) rfl), (Blk.o4 (Blk.o1 k_t (by omega)) (by omega)), (Blk.o4 (Blk.o1 k_r (by omega)) (by omega)), (Blk.o4 (Blk.cast (Blk.set k_x 2 _) rfl) (by omega)), (Blk.o4 (Blk.o1 k_u (by omega)) (by omega))⟩
          rw [hW19]
          clear hW19 k_s k_t k_r k_x k_u
          have k_s := k2_s
          have k_t := k2_t
          have k_r := k2_r
          have k_x := k2_x
          have k_u := k2_u
          clear k2_s k2_t k2_r k2_x k2_u
          go_meet
          exact ⟨_, _, _, HVw, Lib.hid ((HLw.out.kept (fun k hk hlt => kpW19.block k hlt (by omega))).mono (fun k hk _ => by omega)), Lib.hid k_s, Lib.hid k_t, Lib.hid k_r, Lib.hid k_x, Lib.hid bW19, Lib.hid (by omega)⟩
      case rest =>
      clear q_s0 q_s1 q_s2 q_s3 q_sf
      obtain ⟨lv, p5, cap5, HV5, HLS, J_s, J_t, J_r, J_x, Jb, Jz⟩ := hcut
      obtain ⟨Wd, hwc⟩ : ∃ z, z = wc := ⟨_, rfl⟩
      subst hwc
      clear k_s k_t k_r k_x bW15 sW15
      have k_s := J_s.out
      have k_t := J_t.out
      have k_r := J_r.out
      have k_x := J_x.out
      have bWd := Jb.out
      have sWd := Jz.out
      clear J_s J_t J_r J_x Jb Jz
      obtain ⟨la, lc, hlv⟩ := HLS.out.len
      subst hlv
      go_upto_region 46 with fail
      refine wp_region_any (by kernel_rfl) ?_
      refine Foyer.Round.any_of_held (S := fun W => Blk W (w.heap.size + 1 + 1 + 1) 38 [.int .i64 4, .string ⟨nm.text.toArray⟩, .slice la cs.length lc, .int .i64 0, .int .i64 (rz.1 : Nat), .int .i64 (rz.2 : Nat), .int .i64 (qz.1 : Nat), .int .i64 (qz.2 : Nat), .int .i64 (tt.pos : Nat)] ∧ Blk W (w.heap.size) 45 [.slice p5 s5.left.length cap5, .int .i64 (N : Nat), .int .i64 (s5.err : Nat), .int .i64 (s5.pos : Nat)]) (N := [4]) _ _ _ _ ?_
      change Foyer.Round.held _ _ _ _ _ _ _ _ _ Wd.drew
      obtain ⟨W16, hW16⟩ : ∃ x, Wd.drew = x := ⟨_, rfl⟩
      have bW16 : Since w W16 := by rw [← hW16]; exact Below.drew bWd
      have sW16 := sWd
      rw [show Wd.heap.size = W16.heap.size from by rw [← hW16]; rfl] at sW16
      replace k_s : Blk W16 (w.heap.size) 45 [.slice p5 s5.left.length cap5, .int .i64 (N : Nat), .int .i64 (s5.err : Nat), .int .i64 (s5.pos : Nat)] := by rw [← hW16]; exact k_s
      replace k_t : Blk W16 (w.heap.size + 1) 38 [.int .i64 0, .string ⟨#[]⟩, .slice none 0 0, .int .i64 0, .int .i64 0, .int .i64 0, .int .i64 0, .int .i64 0, .int .i64 0] := by rw [← hW16]; exact k_t
      replace k_r : Blk W16 (w.heap.size + 1 + 1) 45 [.slice none 0 0, .int .i64 0, .int .i64 0, .int .i64 0] := by rw [← hW16]; exact k_r
      replace k_x : Blk W16 (w.heap.size + 1 + 1 + 1) 38 [.int .i64 4, .string ⟨nm.text.toArray⟩, .slice la cs.length lc, .int .i64 0, .int .i64 (rz.1 : Nat), .int .i64 (rz.2 : Nat), .int .i64 (qz.1 : Nat), .int .i64 (qz.2 : Nat), .int .i64 (tt.pos : Nat)] := by rw [← hW16]; exact k_x
      have kpW16 : Kp (fun k => k < W1.heap.size) Wd W16 := by rw [← hW16]; exact Kp.drew (Kp.refl (fun k => k < W1.heap.size) Wd)
      rw [hW16]
      clear hW16 bWd sWd
      refine Foyer.Round.held_take [4] (i := 0) (v := .agg #[.int .i64 4, .string ⟨nm.text.toArray⟩, .slice la cs.length lc, .int .i64 0, .int .i64 (rz.1 : Nat), .int .i64 (rz.2 : Nat), .int .i64 (qz.1 : Nat), .int .i64 (qz.2 : Nat), .int .i64 (tt.pos : Nat)]) rfl (by kernel_rfl) (fun _ _ _ h => h) (Or.inl ⟨by rfl, fun w' hS => by have r_x0 := (show Blk _ _ _ _ from hS.1).cell (i := 0) rfl; have r_x1 := (show Blk _ _ _ _ from hS.1).cell (i := 1) rfl; have r_x2 := (show Blk _ _ _ _ from hS.1).cell (i := 2) rfl; have r_x3 := (show Blk _ _ _ _ from hS.1).cell (i := 3) rfl; have r_x4 := (show Blk _ _ _ _ from hS.1).cell (i := 4) rfl; have r_x5 := (show Blk _ _ _ _ from hS.1).cell (i := 5) rfl; have r_x6 := (show Blk _ _ _ _ from hS.1).cell (i := 6) rfl; have r_x7 := (show Blk _ _ _ _ from hS.1).cell (i := 7) rfl; have r_x8 := (show Blk _ _ _ _ from hS.1).cell (i := 8) rfl; go_simp⟩) (⟨k_x, k_s⟩) ?_
      try simp only [Act.put, List.setIfInBounds_toArray, List.set_cons_zero, List.set_cons_succ]
      refine Foyer.Round.held_take [4] (i := 1) (v := .agg #[.slice p5 s5.left.length cap5, .int .i64 (N : Nat), .int .i64 (s5.err : Nat), .int .i64 (s5.pos : Nat)]) rfl (by kernel_rfl) (fun _ _ _ h => h) (Or.inl ⟨by rfl, fun w' hS => by have r_s0 := (show Blk _ _ _ _ from hS.2).cell (i := 0) rfl; have r_s1 := (show Blk _ _ _ _ from hS.2).cell (i := 1) rfl; have r_s2 := (show Blk _ _ _ _ from hS.2).cell (i := 2) rfl; have r_s3 := (show Blk _ _ _ _ from hS.2).cell (i := 3) rfl; go_simp⟩) (⟨k_x, k_s⟩) ?_
      try simp only [Act.put, List.setIfInBounds_toArray, List.set_cons_zero, List.set_cons_succ]
      refine Foyer.Round.held_one (i := 2) rfl (by kernel_rfl) (fun K hK => ?_)
      go_simp
      refine (rword_c NF.out B p5 cap5 HV5.out _ (HB.out.trans (bW16.mono HB.out.size))).mono ?_; rintro e W17 ⟨⟨p8, cap8, rfl, hs_⟩, hb⟩
      have sW17 := Nat.le_trans sW16 hb.size
      have bW17 := (bW16).call hb
      replace k_s := k_s.past hb
      replace k_t := k_t.past hb
      replace k_r := k_r.past hb
      replace k_x := k_x.past hb
      have kpW17 := (kpW16).trans (Kp.of_below hb)
      clear hb bW16 sW16
      refine hK.out _ _ (fun _ => ⟨k_x, k_s⟩) ?_
      clear hK K
      try simp only [Act.put, List.setIfInBounds_toArray, List.set_cons_zero, List.set_cons_succ]
      have q_t0 := k_t.cell (i := 0) rfl
      have q_t1 := k_t.cell (i := 1) rfl
      have q_t2 := k_t.cell (i := 2) rfl
      have q_t3 := k_t.cell (i := 3) rfl
      have q_t4 := k_t.cell (i := 4) rfl
      have q_t5 := k_t.cell (i := 5) rfl
      have q_t6 := k_t.cell (i := 6) rfl
      have q_t7 := k_t.cell (i := 7) rfl
      have q_t8 := k_t.cell (i := 8) rfl
      have q_tf := k_t.free
      refine Foyer.Round.held_one (i := 3) rfl (by kernel_rfl) (fun K hK => ?_)
      go_simp
      clear q_t0 q_t1 q_t2 q_t3 q_t4 q_t5 q_t6 q_t7 q_t8 q_tf
      obtain ⟨W18, hW18, bW18, sW18, kpW18, k2_s, k2_t, k2_r, k2_x⟩ : ∃ x, (((((((((W17.setCell ⟨w.heap.size + 1, 0, none⟩ (.int .i64 4)).setCell ⟨w.heap.size + 1, 1, none⟩ (.string ⟨nm.text.toArray⟩)).setCell ⟨w.heap.size + 1, 2, none⟩ (.slice la cs.length lc)).setCell ⟨w.heap.size + 1, 3, none⟩ (.int .i64 0)).setCell ⟨w.heap.size + 1, 4, none⟩ (.int .i64 (rz.1 : Nat))).setCell ⟨w.heap.size + 1, 5, none⟩ (.int .i64 (rz.2 : Nat))).setCell ⟨w.heap.size + 1, 6, none⟩ (.int .i64 (qz.1 : Nat))).setCell ⟨w.heap.size + 1, 7, none⟩ (.int .i64 (qz.2 : Nat))).setCell ⟨w.heap.size + 1, 8, none⟩ (.int .i64 (tt.pos : Nat))) = x ∧ Since w x ∧ W17.heap.size ≤ x.heap.size ∧ Kp (fun k => k < W1.heap.size) Wd x ∧ Blk x (w.heap.size) 45 [.slice p5 s5.left.length cap5, .int .i64 (N : Nat), .int .i64 (s5.err : Nat), .int .i64 (s5.pos : Nat)] ∧ Blk x (w.heap.size + 1) 38 [.int .i64 4, .string ⟨nm.text.toArray⟩, .slice la cs.length lc, .int .i64 0, .int .i64 (rz.1 : Nat), .int .i64 (rz.2 : Nat), .int .i64 (qz.1 : Nat), .int .i64 (qz.2 : Nat), .int .i64 (tt.pos : Nat)] ∧ Blk x (w.heap.size + 1 + 1) 45 [.slice none 0 0, .int .i64 0, .int .i64 0, .int .i64 0] ∧ Blk x (w.heap.size + 1 + 1 + 1) 38 [.int .i64 4, .string ⟨nm.text.toArray⟩, .slice la cs.length lc, .int .i64 0, .int .i64 (rz.1 : Nat), .int .i64 (rz.2 : Nat), .int .i64 (qz.1 : Nat), .int .i64 (qz.2 : Nat), .int .i64 (tt.pos : Nat)] := ⟨_, rfl, (Since.s1 (Since.s4 (Since.s4 bW17 (by omega)) (by omega)) (by omega)), by simp only [World.setCell, World.size_alloc, Array.size_modify, Nat.le_refl], (Kp.s1 (Kp.s4 (Kp.s4 kpW17 (Or.inl (show w.heap.size + 1 < W1.heap.size by omega))) (Or.inl (show w.heap.size + 1 < W1.heap.size by omega))) (Or.inl (show w.heap.size + 1 < W1.heap.size by omega))), (Blk.o1 (Blk.o4 (Blk.o4 k_s (by omega)) (by omega)) (by omega)), (Blk.cast (Blk.set (Blk.set (Blk.set (Blk.set (Blk.set (Blk.set (Blk.set (Blk.set (Blk.set k_t 0 _) 1 _) 2 _) 3 _) 4 _) 5 _) 6 _) 7 _) 8 _) rfl), (Blk.o1 (Blk.o4 (Blk.o4 k_r (by omega)) (by omega)) (by omega)), (Blk.o1 (Blk.o4 (Blk.o4 k_x (by omega)) (by omega)) (by omega))⟩
      rw [hW18]
      clear hW18 k_s k_t k_r k_x
      have k_s := k2_s
      have k_t := k2_t
      have k_r := k2_r
      have k_x := k2_x
      clear k2_s k2_t k2_r k2_x
      refine hK.out _ _ (fun _ => ⟨k_x, k_s⟩) ?_
      clear hK K
      try simp only [Act.put, List.setIfInBounds_toArray, List.set_cons_zero, List.set_cons_succ]
      have q_r0 := k_r.cell (i := 0) rfl
      have q_r1 := k_r.cell (i := 1) rfl
      have q_r2 := k_r.cell (i := 2) rfl
      have q_r3 := k_r.cell (i := 3) rfl
      have q_rf := k_r.free
      refine Foyer.Round.held_one (i := 4) rfl (by kernel_rfl) (fun K hK => ?_)
      go_simp
      clear q_r0 q_r1 q_r2 q_r3 q_rf
      obtain ⟨W19, hW19, bW19, sW19, kpW19, k2_s, k2_t, k2_r, k2_x⟩ : ∃ x, ((((W18.setCell ⟨w.heap.size + 1 + 1, 0, none⟩ (.slice p8 s9.left.length cap8)).setCell ⟨w.heap.size + 1 + 1, 1, none⟩ (.int .i64 (N : Nat))).setCell ⟨w.heap.size + 1 + 1, 2, none⟩ (.int .i64 (s9.err : Nat))).setCell ⟨w.heap.size + 1 + 1, 3, none⟩ (.int .i64 (s9.pos : Nat))) = x ∧ Since w x ∧ W18.heap.size ≤ x.heap.size ∧ Kp (fun k => k < W1.heap.size) Wd x ∧ Blk x (w.heap.size) 45 [.slice p5 s5.left.length cap5, .int .i64 (N : Nat), .int .i64 (s5.err : Nat), .int .i64 (s5.pos : Nat)] ∧ Blk x (w.heap.size + 1) 38 [.int .i64 4, .string ⟨nm.text.toArray⟩, .slice la cs.length lc, .int .i64 0, .int .i64 (rz.1 : Nat), .int .i64 (rz.2 : Nat), .int .i64 (qz.1 : Nat), .int .i64 (qz.2 : Nat), .int .i64 (tt.pos : Nat)] ∧ Blk x (w.heap.size + 1 + 1) 45 [.slice p8 s9.left.length cap8, .int .i64 (N : Nat), .int .i64 (s9.err : Nat), .int .i64 (s9.pos : Nat)] ∧ Blk x (w.heap.size + 1 + 1 + 1) 38 [.int .i64 4, .string ⟨nm.text.toArray⟩, .slice la cs.length lc, .int .i64 0, .int .i64 (rz.1 : Nat), .int .i64 (rz.2 : Nat), .int .i64 (qz.1 : Nat), .int .i64 (qz.2 : Nat), .int .i64 (tt.pos : Nat)] := ⟨_, rfl, (Since.s4 bW18 (by omega)), by simp only [World.setCell, World.size_alloc, Array.size_modify, Nat.le_refl], (Kp.s4 kpW18 (Or.inl (show w.heap.size + 1 + 1 < W1.heap.size by omega))), (Blk.o4 k_s (by omega)), (Blk.o4 k_t (by omega)), (Blk.cast (Blk.set (Blk.set (Blk.set (Blk.set k_r 0 _) 1 _) 2 _) 3 _) rfl), (Blk.o4 k_x (by omega))⟩
      rw [hW19]
      clear hW19 k_s k_t k_r k_x
      have k_s := k2_s
      have k_t := k2_t
      have k_r := k2_r
      have k_x := k2_x
      clear k2_s k2_t k2_r k2_x
      refine hK.out _ _ (fun _ => ⟨k_x, k_s⟩) ?_
      clear hK K
      try simp only [Act.put, List.setIfInBounds_toArray, List.set_cons_zero, List.set_cons_succ]
      refine Foyer.Round.held_done (by kernel_rfl) ?_ _
      go_wp2
      exact bodyPost_ret (results_two rfl _ _ (w.heap.size + 1) (w.heap.size + 1 + 1) _ _ _ _ rfl k_t.range Tryd.underlying38 rfl (by kernel_rfl) rfl k_r.range Tryd.underlying45 rfl (by kernel_rfl)) rfl ⟨⟨_, _, _, rfl, hs_, (HLS.out.kept (fun k hk hlt => kpW19.block k hlt (by omega))).mono (fun k hk _ => by omega)⟩, bW19⟩
    by_cases hk5 : kd = 5
    · subst hk5
      have h2 := N2.out
      unfold rHead at h2
      clear N2
      rw [if_neg (by decide), if_neg (by decide), if_neg (by decide), if_pos rfl] at h2
      obtain ⟨⟨rz, sB⟩, h6⟩ : ∃ z, rRatio N sn = z := ⟨_, rfl⟩
      simp only [h6] at h2
      injection h2 with e1 e2
      subst e1 e2
      have N6 := Lib.hid h6
      clear h6
      replace k_x : Blk W6 (w.heap.size + 1 + 1 + 1) 38 [.int .i64 5, .string ⟨nm.text.toArray⟩, .slice none 0 0, .int .i64 0, .int .i64 0, .int .i64 0, .int .i64 0, .int .i64 0, .int .i64 (tt.pos : Nat)] := k_x
      have q_x0 := k_x.cell (i := 0) rfl
      have q_x1 := k_x.cell (i := 1) rfl
      have q_x2 := k_x.cell (i := 2) rfl
      have q_x3 := k_x.cell (i := 3) rfl
      have q_x4 := k_x.cell (i := 4) rfl
      have q_x5 := k_x.cell (i := 5) rfl
      have q_x6 := k_x.cell (i := 6) rfl
      have q_x7 := k_x.cell (i := 7) rfl
      have q_x8 := k_x.cell (i := 8) rfl
      have q_xf := k_x.free
      have q_s0 := k_s.cell (i := 0) rfl
      have q_s1 := k_s.cell (i := 1) rfl
      have q_s2 := k_s.cell (i := 2) rfl
      have q_s3 := k_s.cell (i := 3) rfl
      have q_sf := k_s.free
      go_wp2_with fail
      refine (rratio_c N6.out B p3 cap3 HV3.out  _ (HB.out.trans (bW6.mono HB.out.size))).mono ?_; rintro e W7 ⟨⟨p5, cap5, rfl, hs_⟩, hb⟩
      clear q_x0 q_x1 q_x2 q_x3 q_x4 q_x5 q_x6 q_x7 q_x8 q_xf q_s0 q_s1 q_s2 q_s3 q_sf
      have sW7 := Nat.le_trans sW6 hb.size
      have bW7 := (bW6).call hb
      replace k_s := k_s.past hb
      replace k_t := k_t.past hb
      replace k_r := k_r.past hb
      replace k_x := k_x.past hb
      clear hb bW6 sW6
      have HV5 := Lib.hid hs_
      clear hs_
      go_upto_region 40 with fail
      obtain ⟨W8, hW8, bW8, sW8, k2_s, k2_t, k2_r, k2_x, k2_z, k2_u⟩ : ∃ x, ((W7.alloc (.cells #[.int .i64 (rz.1 : Nat), .int .i64 (rz.2 : Nat)] 36)).alloc (.cells #[.slice p5 sB.left.length cap5, .int .i64 (N : Nat), .int .i64 (sB.err : Nat), .int .i64 (sB.pos : Nat)] 45)) = x ∧ Since w x ∧ W7.heap.size + 1 + 1 ≤ x.heap.size ∧ Blk x (w.heap.size) 45 [.slice p3 sn.left.length cap3, .int .i64 (N : Nat), .int .i64 (sn.err : Nat), .int .i64 (sn.pos : Nat)] ∧ Blk x (w.heap.size + 1) 38 [.int .i64 0, .string ⟨#[]⟩, .slice none 0 0, .int .i64 0, .int .i64 0, .int .i64 0, .int .i64 0, .int .i64 0, .int .i64 0] ∧ Blk x (w.heap.size + 1 + 1) 45 [.slice none 0 0, .int .i64 0, .int .i64 0, .int .i64 0] ∧ Blk x (w.heap.size + 1 + 1 + 1) 38 [.int .i64 5, .string ⟨nm.text.toArray⟩, .slice none 0 0, .int .i64 0, .int .i64 0, .int .i64 0, .int .i64 0, .int .i64 0, .int .i64 (tt.pos : Nat)] ∧ Blk x (W7.heap.size) 36 [.int .i64 (rz.1 : Nat), .int .i64 (rz.2 : Nat)] ∧ Blk x (W7.heap.size + 1) 45 [.slice p5 sB.left.length cap5, .int .i64 (N : Nat), .int .i64 (sB.err : Nat), .int .i64 (sB.pos : Nat)] := ⟨_, rfl, (Since.alloc (Since.alloc bW7 _) _), by simp only [World.setCell, World.size_alloc, Array.size_modify, Nat.le_refl], (Blk.alloc (Blk.alloc k_s _) _), (Blk.alloc (Blk.alloc k_t _) _), (Blk.alloc (Blk.alloc k_r _) _), (Blk.alloc (Blk.alloc k_x _) _), (Blk.alloc (Blk.new' _ _ _ (rfl)) _), (Blk.new' _ _ _ (by simp only [World.size_alloc]))⟩
      rw [hW8]
      clear hW8 k_s k_t k_r k_x
      have k_s := k2_s
      have k_t := k2_t
      have k_r := k2_r
      have k_x := k2_x
      have k_z := k2_z
      have k_u := k2_u
      clear k2_s k2_t k2_r k2_x k2_z k2_u
      have q_z0 := k_z.cell (i := 0) rfl
      have q_z1 := k_z.cell (i := 1) rfl
      have q_zf := k_z.free
      have q_x0 := k_x.cell (i := 0) rfl
      have q_x1 := k_x.cell (i := 1) rfl
      have q_x2 := k_x.cell (i := 2) rfl
      have q_x3 := k_x.cell (i := 3) rfl
      have q_x4 := k_x.cell (i := 4) rfl
      have q_x5 := k_x.cell (i := 5) rfl
      have q_x6 := k_x.cell (i := 6) rfl
      have q_x7 := k_x.cell (i := 7) rfl
      have q_x8 := k_x.cell (i := 8) rfl
      have q_xf := k_x.free
      have q_u0 := k_u.cell (i := 0) rfl
      have q_u1 := k_u.cell (i := 1) rfl
      have q_u2 := k_u.cell (i := 2) rfl
      have q_u3 := k_u.cell (i := 3) rfl
      have q_uf := k_u.free
      have q_s0 := k_s.cell (i := 0) rfl
      have q_s1 := k_s.cell (i := 1) rfl
      have q_s2 := k_s.cell (i := 2) rfl
      have q_s3 := k_s.cell (i := 3) rfl
      have q_sf := k_s.free
      go_upto_region 42 with fail
      clear q_z0 q_z1 q_zf q_x0 q_x1 q_x2 q_x3 q_x4 q_x5 q_x6 q_x7 q_x8 q_xf q_u0 q_u1 q_u2 q_u3 q_uf q_s0 q_s1 q_s2 q_s3 q_sf
      obtain ⟨W9, hW9, bW9, sW9, k2_s, k2_t, k2_r, k2_x, k2_z, k2_u⟩ : ∃ x, ((((((W8.setCell ⟨w.heap.size + 1 + 1 + 1, 4, none⟩ (.int .i64 (rz.1 : Nat))).setCell ⟨w.heap.size + 1 + 1 + 1, 5, none⟩ (.int .i64 (rz.2 : Nat))).setCell ⟨w.heap.size, 0, none⟩ (.slice p5 sB.left.length cap5)).setCell ⟨w.heap.size, 1, none⟩ (.int .i64 (N : Nat))).setCell ⟨w.heap.size, 2, none⟩ (.int .i64 (sB.err : Nat))).setCell ⟨w.heap.size, 3, none⟩ (.int .i64 (sB.pos : Nat))) = x ∧ Since w x ∧ W8.heap.size ≤ x.heap.size ∧ Blk x (w.heap.size) 45 [.slice p5 sB.left.length cap5, .int .i64 (N : Nat), .int .i64 (sB.err : Nat), .int .i64 (sB.pos : Nat)] ∧ Blk x (w.heap.size + 1) 38 [.int .i64 0, .string ⟨#[]⟩, .slice none 0 0, .int .i64 0, .int .i64 0, .int .i64 0, .int .i64 0, .int .i64 0, .int .i64 0] ∧ Blk x (w.heap.size + 1 + 1) 45 [.slice none 0 0, .int .i64 0, .int .i64 0, .int .i64 0] ∧ Blk x (w.heap.size + 1 + 1 + 1) 38 [.int .i64 5, .string ⟨nm.text.toArray⟩, .slice none 0 0, .int .i64 0, .int .i64 (rz.1 : Nat), .int .i64 (rz.2 : Nat), .int .i64 0, .int .i64 0, .int .i64 (tt.pos : Nat)] ∧ Blk x (W7.heap.size) 36 [.int .i64 (rz.1 : Nat), .int .i64 (rz.2 : Nat)] ∧ Blk x (W7.heap.size + 1) 45 [.slice p5 sB.left.length cap5, .int .i64 (N : Nat), .int .i64 (sB.err : Nat), .int .i64 (sB.pos : Nat)] := ⟨_, rfl, (Since.s4 (Since.s2 bW8 (by omega)) (by omega)), by simp only [World.setCell, World.size_alloc, Array.size_modify, Nat.le_refl], (Blk.cast (Blk.set (Blk.set (Blk.set (Blk.set (Blk.o2 k_s (by omega)) 0 _) 1 _) 2 _) 3 _) rfl), (Blk.o4 (Blk.o2 k_t (by omega)) (by omega)), (Blk.o4 (Blk.o2 k_r (by omega)) (by omega)), (Blk.o4 (Blk.cast (Blk.set (Blk.set k_x 4 _) 5 _) rfl) (by omega)), (Blk.o4 (Blk.o2 k_z (by omega)) (by omega)), (Blk.o4 (Blk.o2 k_u (by omega)) (by omega))⟩
      rw [hW9]
      clear hW9 k_s k_t k_r k_x k_z k_u
      have k_s := k2_s
      have k_t := k2_t
      have k_r := k2_r
      have k_x := k2_x
      have k_z := k2_z
      have k_u := k2_u
      clear k2_s k2_t k2_r k2_x k2_z k2_u
      clear k_z k_u
      obtain ⟨s4, hs4⟩ : ∃ z, z = sB := ⟨_, rfl⟩
      subst hs4
      obtain ⟨dw, hdw⟩ : ∃ z, rIs s4 1 wWhen = z := ⟨_, rfl⟩
      have Ndw := Lib.hid hdw
      clear hdw
      have q_s0 := k_s.cell (i := 0) rfl
      have q_s1 := k_s.cell (i := 1) rfl
      have q_s2 := k_s.cell (i := 2) rfl
      have q_s3 := k_s.cell (i := 3) rfl
      have q_sf := k_s.free
      go_wp2_with fail
      refine (ris_c Ndw.out B p5 cap5 HV5.out 1 rfl _ (HB.out.trans (bW9.mono HB.out.size))).mono ?_; rintro e W10 ⟨rfl, hb⟩
      clear q_s0 q_s1 q_s2 q_s3 q_sf
      have sW10 := Nat.le_trans sW9 hb.size
      have bW10 := (bW9).call hb
      replace k_s := k_s.past hb
      replace k_t := k_t.past hb
      replace k_r := k_r.past hb
      replace k_x := k_x.past hb
      clear hb bW9 sW9
      have hlow : W1.heap.size ≤ W10.heap.size := by omega
      have q_s0 := k_s.cell (i := 0) rfl
      have q_s1 := k_s.cell (i := 1) rfl
      have q_s2 := k_s.cell (i := 2) rfl
      have q_s3 := k_s.cell (i := 3) rfl
      have q_sf := k_s.free
      go_upto_if 150 with fail
      go_cut [21, 22] from 151 to 159 (fun t21 t22 wx => ∃ (lv : Value) (p5 : Option Addr) (cap5 : Nat), Hid (IsSt B p5 cap5 s5.left) ∧ Hid (IsList testsK wx (fun k => W1.heap.size ≤ k) 33 lv cs) ∧ Hid (Blk wx (w.heap.size) 45 [.slice p5 s5.left.length cap5, .int .i64 (N : Nat), .int .i64 (s5.err : Nat), .int .i64 (s5.pos : Nat)]) ∧ Hid (Blk wx (w.heap.size + 1) 38 [.int .i64 0, .string ⟨#[]⟩, .slice none 0 0, .int .i64 0, .int .i64 0, .int .i64 0, .int .i64 0, .int .i64 0, .int .i64 0]) ∧ Hid (Blk wx (w.heap.size + 1 + 1) 45 [.slice none 0 0, .int .i64 0, .int .i64 0, .int .i64 0]) ∧ Hid (Blk wx (w.heap.size + 1 + 1 + 1) 38 [.int .i64 5, .string ⟨nm.text.toArray⟩, lv, .int .i64 0, .int .i64 (rz.1 : Nat), .int .i64 (rz.2 : Nat), .int .i64 0, .int .i64 0, .int .i64 (tt.pos : Nat)]) ∧ Hid (Since w wx) ∧ Hid (W7.heap.size + 1 + 1 ≤ wx.heap.size))
      case first =>
        have h3 := N3.out
        unfold rConds at h3
        rw [Ndw.out] at h3
        cases dw
        · rw [if_neg (by simp)] at h3
          injection h3 with e1 e2
          subst e1 e2
          go_wp2
          clear q_s0 q_s1 q_s2 q_s3 q_sf
          go_meet
          exact ⟨_, _, _, HV5, Lib.hid (nil_is _ _ _ _), Lib.hid k_s, Lib.hid k_t, Lib.hid k_r, Lib.hid k_x, Lib.hid bW10, Lib.hid (by omega)⟩
        · rw [if_pos rfl] at h3
          obtain ⟨sw, h5⟩ : ∃ z, rWord N s4 wWhen = z := ⟨_, rfl⟩
          rw [h5] at h3
          have hSw : SaneS sw := HS4.out.suf (by rw [← h5]; exact word_suf _ _)
          have HSw := Lib.hid hSw; have N5 := Lib.hid h5; have N6 := Lib.hid h3
          clear hSw h5 h3
          go_wp2_with fail
          refine (rword_c N5.out B p5 cap5 HV5.out  _ (HB.out.trans (bW10.mono HB.out.size))).mono ?_; rintro e W11 ⟨⟨p6, cap6, rfl, hs_⟩, hb⟩
          clear q_s0 q_s1 q_s2 q_s3 q_sf
          have sW11 := Nat.le_trans sW10 hb.size
          have bW11 := (bW10).call hb
          replace k_s := k_s.past hb
          replace k_t := k_t.past hb
          replace k_r := k_r.past hb
          replace k_x := k_x.past hb
          clear hb bW10 sW10
          have HV6 := Lib.hid hs_
          clear hs_
          have hlow2 : W1.heap.size ≤ W11.heap.size := by omega
          go_wp2_with fail
          refine (rwhen_c N6.out HSw.out B p6 cap6 HV6.out _ (HB.out.trans (bW11.mono HB.out.size))).mono ?_; rintro e W12 ⟨⟨lv, pw, cw, rfl, hs_, hl_⟩, hb⟩
          have sW12 := Nat.le_trans sW11 hb.size
          have bW12 := (bW11).call hb
          replace k_s := k_s.past hb
          replace k_t := k_t.past hb
          replace k_r := k_r.past hb
          replace k_x := k_x.past hb
          clear hb bW11 sW11
          have HVw := Lib.hid hs_
          clear hs_
          obtain ⟨la, lc, hlv⟩ := hl_.len
          subst hlv
          have HLw := Lib.hid hl_
          clear hl_
          go_upto_region 44 with fail
          obtain ⟨W13, hW13, bW13, sW13, kpW13, k2_s, k2_t, k2_r, k2_x, k2_u⟩ : ∃ x, (W12.alloc (.cells #[.slice pw s5.left.length cw, .int .i64 (N : Nat), .int .i64 (s5.err : Nat), .int .i64 (s5.pos : Nat)] 45)) = x ∧ Since w x ∧ W12.heap.size + 1 ≤ x.heap.size ∧ Kp (fun k => k < W1.heap.size) W12 x ∧ Blk x (w.heap.size) 45 [.slice p5 s4.left.length cap5, .int .i64 (N : Nat), .int .i64 (s4.err : Nat), .int .i64 (s4.pos : Nat)] ∧ Blk x (w.heap.size + 1) 38 [.int .i64 0, .string ⟨#[]⟩, .slice none 0 0, .int .i64 0, .int .i64 0, .int .i64 0, .int .i64 0, .int .i64 0, .int .i64 0] ∧ Blk x (w.heap.size + 1 + 1) 45 [.slice none 0 0, .int .i64 0, .int .i64 0, .int .i64 0] ∧ Blk x (w.heap.size + 1 + 1 + 1) 38 [.int .i64 5, .string ⟨nm.text.toArray⟩, .slice none 0 0, .int .i64 0, .int .i64 (rz.1 : Nat), .int .i64 (rz.2 : Nat), .int .i64 0, .int .i64 0, .int .i64 (tt.pos : Nat)] ∧ Blk x (W12.heap.size) 45 [.slice pw s5.left.length cw, .int .i64 (N : Nat), .int .i64 (s5.err : Nat), .int .i64 (s5.pos : Nat)] := ⟨_, rfl, (Since.alloc bW12 _), by simp only [World.setCell, World.size_alloc, Array.size_modify, Nat.le_refl], (Kp.alloc (Kp.refl _ _) _), (Blk.alloc k_s _), (Blk.alloc k_t _), (Blk.alloc k_r _), (Blk.alloc k_x _), (Blk.new' _ _ _ (rfl))⟩
          rw [hW13]
          clear hW13 k_s k_t k_r k_x
          have k_s := k2_s
          have k_t := k2_t
          have k_r := k2_r
          have k_x := k2_x
          have k_u := k2_u
          clear k2_s k2_t k2_r k2_x k2_u
          have q_x0 := k_x.cell (i := 0) rfl
          have q_x1 := k_x.cell (i := 1) rfl
          have q_x2 := k_x.cell (i := 2) rfl
          have q_x3 := k_x.cell (i := 3) rfl
          have q_x4 := k_x.cell (i := 4) rfl
          have q_x5 := k_x.cell (i := 5) rfl
          have q_x6 := k_x.cell (i := 6) rfl
          have q_x7 := k_x.cell (i := 7) rfl
          have q_x8 := k_x.cell (i := 8) rfl
          have q_xf := k_x.free
          have q_u0 := k_u.cell (i := 0) rfl
          have q_u1 := k_u.cell (i := 1) rfl
          have q_u2 := k_u.cell (i := 2) rfl
          have q_u3 := k_u.cell (i := 3) rfl
          have q_uf := k_u.free
          have q_s0 := k_s.cell (i := 0) rfl
          have q_s1 := k_s.cell (i := 1) rfl
          have q_s2 := k_s.cell (i := 2) rfl
          have q_s3 := k_s.cell (i := 3) rfl
          have q_sf := k_s.free
          go_wp2
          clear q_x0 q_x1 q_x2 q_x3 q_x4 q_x5 q_x6 q_x7 q_x8 q_xf q_u0 q_u1 q_u2 q_u3 q_uf q_s0 q_s1 q_s2 q_s3 q_sf
          obtain ⟨W14, hW14, bW14, sW14, kpW14, k2_s, k2_t, k2_r, k2_x, k2_u⟩ : ∃ x, (((((W13.setCell ⟨w.heap.size + 1 + 1 + 1, 2, none⟩ (.slice la cs.length lc)).setCell ⟨w.heap.size, 0, none⟩ (.slice pw s5.left.length cw)).setCell ⟨w.heap.size, 1, none⟩ (.int .i64 (N : Nat))).setCell ⟨w.heap.size, 2, none⟩ (.int .i64 (s5.err : Nat))).setCell ⟨w.heap.size, 3, none⟩ (.int .i64 (s5.pos : Nat))) = x ∧ Since w x ∧ W13.heap.size ≤ x.heap.size ∧ Kp (fun k => k < W1.heap.size) W12 x ∧ Blk x (w.heap.size) 45 [.slice pw s5.left.length cw, .int .i64 (N : Nat), .int .i64 (s5.err : Nat), .int .i64 (s5.pos : Nat)] ∧ Blk x (w.heap.size + 1) 38 [.int .i64 0, .string ⟨#[]⟩, .slice none 0 0, .int .i64 0, .int .i64 0, .int .i64 0, .int .i64 0, .int .i64 0, .int .i64 0] ∧ Blk x (w.heap.size + 1 + 1) 45 [.slice none 0 0, .int .i64 0, .int .i64 0, .int .i64 0] ∧ Blk x (w.heap.size + 1 + 1 + 1) 38 [.int .i64 5, .string ⟨nm.text.toArray⟩, .slice la cs.length lc, .int .i64 0, .int .i64 (rz.1 : Nat), .int .i64 (rz.2 : Nat), .int .i64 0, .int .i64 0, .int .i64 (tt.pos : Nat)] ∧ Blk x (W12.heap.size) 45 [.slice pw s5.left.length cw, .int .i64 (N : Nat), .int .i64 (s5.err : Nat), .int .i64 (s5.pos : Nat)] := ⟨_, rfl, (Since.s4 (Since.s1 bW13 (by omega)) (by omega)), by simp only [World.setCell, World.size_alloc, Array.size_modify, Nat.le_refl], (Kp.s4 (Kp.s1 kpW13 (Or.inl (show w.heap.size + 1 + 1 + 1 < W1.heap.size by omega))) (Or.inl (show w.heap.size < W1.heap.size by omega))), (Blk.cast (Blk.set (Blk.set (Blk.set (Blk.set (Blk.o1 k_s (by omega)) 0 _) 1 _) 2 _) 3 _) rfl), (Blk.o4 (Blk.o1 k_t (by omega)) (by omega)), (Blk.o4 (Blk.o1 k_r (by omega)) (by omega)), (Blk.o4 (Blk.cast (Blk.set k_x 2 _) rfl) (by omega)), (Blk.o4 (Blk.o1 k_u (by omega)) (by omega))⟩
          rw [hW14]
          clear hW14 k_s k_t k_r k_x k_u
          have k_s := k2_s
          have k_t := k2_t
          have k_r := k2_r
          have k_x := k2_x
          have k_u := k2_u
          clear k2_s k2_t k2_r k2_x k2_u
          go_meet
          exact ⟨_, _, _, HVw, Lib.hid ((HLw.out.kept (fun k hk hlt => kpW14.block k hlt (by omega))).mono (fun k hk _ => by omega)), Lib.hid k_s, Lib.hid k_t, Lib.hid k_r, Lib.hid k_x, Lib.hid bW14, Lib.hid (by omega)⟩
      case rest =>
      clear q_s0 q_s1 q_s2 q_s3 q_sf
      obtain ⟨lv, p5, cap5, HV5, HLS, J_s, J_t, J_r, J_x, Jb, Jz⟩ := hcut
      obtain ⟨Wd, hwc⟩ : ∃ z, z = wc := ⟨_, rfl⟩
      subst hwc
      clear k_s k_t k_r k_x bW10 sW10
      have k_s := J_s.out
      have k_t := J_t.out
      have k_r := J_r.out
      have k_x := J_x.out
      have bWd := Jb.out
      have sWd := Jz.out
      clear J_s J_t J_r J_x Jb Jz
      obtain ⟨la, lc, hlv⟩ := HLS.out.len
      subst hlv
      go_upto_region 46 with fail
      refine wp_region_any (by kernel_rfl) ?_
      refine Foyer.Round.any_of_held (S := fun W => Blk W (w.heap.size + 1 + 1 + 1) 38 [.int .i64 5, .string ⟨nm.text.toArray⟩, .slice la cs.length lc, .int .i64 0, .int .i64 (rz.1 : Nat), .int .i64 (rz.2 : Nat), .int .i64 0, .int .i64 0, .int .i64 (tt.pos : Nat)] ∧ Blk W (w.heap.size) 45 [.slice p5 s5.left.length cap5, .int .i64 (N : Nat), .int .i64 (s5.err : Nat), .int .i64 (s5.pos : Nat)]) (N := [4]) _ _ _ _ ?_
      change Foyer.Round.held _ _ _ _ _ _ _ _ _ Wd.drew
      obtain ⟨W11, hW11⟩ : ∃ x, Wd.drew = x := ⟨_, rfl⟩
      have bW11 : Since w W11 := by rw [← hW11]; exact Below.drew bWd
      have sW11 := sWd
      rw [show Wd.heap.size = W11.heap.size from by rw [← hW11]; rfl] at sW11
      replace k_s : Blk W11 (w.heap.size) 45 [.slice p5 s5.left.length cap5, .int .i64 (N : Nat), .int .i64 (s5.err : Nat), .int .i64 (s5.pos : Nat)] := by rw [← hW11]; exact k_s
      replace k_t : Blk W11 (w.heap.size + 1) 38 [.int .i64 0, .string ⟨#[]⟩, .slice none 0 0, .int .i64 0, .int .i64 0, .int .i64 0, .int .i64 0, .int .i64 0, .int .i64 0] := by rw [← hW11]; exact k_t
      replace k_r : Blk W11 (w.heap.size + 1 + 1) 45 [.slice none 0 0, .int .i64 0, .int .i64 0, .int .i64 0] := by rw [← hW11]; exact k_r
      replace k_x : Blk W11 (w.heap.size + 1 + 1 + 1) 38 [.int .i64 5, .string ⟨nm.text.toArray⟩, .slice la cs.length lc, .int .i64 0, .int .i64 (rz.1 : Nat), .int .i64 (rz.2 : Nat), .int .i64 0, .int .i64 0, .int .i64 (tt.pos : Nat)] := by rw [← hW11]; exact k_x
      have kpW11 : Kp (fun k => k < W1.heap.size) Wd W11 := by rw [← hW11]; exact Kp.drew (Kp.refl (fun k => k < W1.heap.size) Wd)
      rw [hW11]
      clear hW11 bWd sWd
      refine Foyer.Round.held_take [4] (i := 0) (v := .agg #[.int .i64 5, .string ⟨nm.text.toArray⟩, .slice la cs.length lc, .int .i64 0, .int .i64 (rz.1 : Nat), .int .i64 (rz.2 : Nat), .int .i64 0, .int .i64 0, .int .i64 (tt.pos : Nat)]) rfl (by kernel_rfl) (fun _ _ _ h => h) (Or.inl ⟨by rfl, fun w' hS => by have r_x0 := (show Blk _ _ _ _ from hS.1).cell (i := 0) rfl; have r_x1 := (show Blk _ _ _ _ from hS.1).cell (i := 1) rfl; have r_x2 := (show Blk _ _ _ _ from hS.1).cell (i := 2) rfl; have r_x3 := (show Blk _ _ _ _ from hS.1).cell (i := 3) rfl; have r_x4 := (show Blk _ _ _ _ from hS.1).cell (i := 4) rfl; have r_x5 := (show Blk _ _ _ _ from hS.1).cell (i := 5) rfl; have r_x6 := (show Blk _ _ _ _ from hS.1).cell (i := 6) rfl; have r_x7 := (show Blk _ _ _ _ from hS.1).cell (i := 7) rfl; have r_x8 := (show Blk _ _ _ _ from hS.1).cell (i := 8) rfl; go_simp⟩) (⟨k_x, k_s⟩) ?_
      try simp only [Act.put, List.setIfInBounds_toArray, List.set_cons_zero, List.set_cons_succ]
      refine Foyer.Round.held_take [4] (i := 1) (v := .agg #[.slice p5 s5.left.length cap5, .int .i64 (N : Nat), .int .i64 (s5.err : Nat), .int .i64 (s5.pos : Nat)]) rfl (by kernel_rfl) (fun _ _ _ h => h) (Or.inl ⟨by rfl, fun w' hS => by have r_s0 := (show Blk _ _ _ _ from hS.2).cell (i := 0) rfl; have r_s1 := (show Blk _ _ _ _ from hS.2).cell (i := 1) rfl; have r_s2 := (show Blk _ _ _ _ from hS.2).cell (i := 2) rfl; have r_s3 := (show Blk _ _ _ _ from hS.2).cell (i := 3) rfl; go_simp⟩) (⟨k_x, k_s⟩) ?_
      try simp only [Act.put, List.setIfInBounds_toArray, List.set_cons_zero, List.set_cons_succ]
      refine Foyer.Round.held_one (i := 2) rfl (by kernel_rfl) (fun K hK => ?_)
      go_simp
      refine (rword_c NF.out B p5 cap5 HV5.out _ (HB.out.trans (bW11.mono HB.out.size))).mono ?_; rintro e W12 ⟨⟨p8, cap8, rfl, hs_⟩, hb⟩
      have sW12 := Nat.le_trans sW11 hb.size
      have bW12 := (bW11).call hb
      replace k_s := k_s.past hb
      replace k_t := k_t.past hb
      replace k_r := k_r.past hb
      replace k_x := k_x.past hb
      have kpW12 := (kpW11).trans (Kp.of_below hb)
      clear hb bW11 sW11
      refine hK.out _ _ (fun _ => ⟨k_x, k_s⟩) ?_
      clear hK K
      try simp only [Act.put, List.setIfInBounds_toArray, List.set_cons_zero, List.set_cons_succ]
      have q_t0 := k_t.cell (i := 0) rfl
      have q_t1 := k_t.cell (i := 1) rfl
      have q_t2 := k_t.cell (i := 2) rfl
      have q_t3 := k_t.cell (i := 3) rfl
      have q_t4 := k_t.cell (i := 4) rfl
      have q_t5 := k_t.cell (i := 5) rfl
      have q_t6 := k_t.cell (i := 6) rfl
      have q_t7 := k_t.cell (i := 7) rfl
      have q_t8 := k_t.cell (i := 8) rfl
      have q_tf := k_t.free
      refine Foyer.Round.held_one (i := 3) rfl (by kernel_rfl) (fun K hK => ?_)
      go_simp
      clear q_t0 q_t1 q_t2 q_t3 q_t4 q_t5 q_t6 q_t7 q_t8 q_tf
      obtain ⟨W13, hW13, bW13, sW13, kpW13, k2_s, k2_t, k2_r, k2_x⟩ : ∃ x, (((((((((W12.setCell ⟨w.heap.size + 1, 0, none⟩ (.int .i64 5)).setCell ⟨w.heap.size + 1, 1, none⟩ (.string ⟨nm.text.toArray⟩)).setCell ⟨w.heap.size + 1, 2, none⟩ (.slice la cs.length lc)).setCell ⟨w.heap.size + 1, 3, none⟩ (.int .i64 0)).setCell ⟨w.heap.size + 1, 4, none⟩ (.int .i64 (rz.1 : Nat))).setCell ⟨w.heap.size + 1, 5, none⟩ (.int .i64 (rz.2 : Nat))).setCell ⟨w.heap.size + 1, 6, none⟩ (.int .i64 0)).setCell ⟨w.heap.size + 1, 7, none⟩ (.int .i64 0)).setCell ⟨w.heap.size + 1, 8, none⟩ (.int .i64 (tt.pos : Nat))) = x ∧ Since w x ∧ W12.heap.size ≤ x.heap.size ∧ Kp (fun k => k < W1.heap.size) Wd x ∧ Blk x (w.heap.size) 45 [.slice p5 s5.left.length cap5, .int .i64 (N : Nat), .int .i64 (s5.err : Nat), .int .i64 (s5.pos : Nat)] ∧ Blk x (w.heap.size + 1) 38 [.int .i64 5, .string ⟨nm.text.toArray⟩, .slice la cs.length lc, .int .i64 0, .int .i64 (rz.1 : Nat), .int .i64 (rz.2 : Nat), .int .i64 0, .int .i64 0, .int .i64 (tt.pos : Nat)] ∧ Blk x (w.heap.size + 1 + 1) 45 [.slice none 0 0, .int .i64 0, .int .i64 0, .int .i64 0] ∧ Blk x (w.heap.size + 1 + 1 + 1) 38 [.int .i64 5, .string ⟨nm.text.toArray⟩, .slice la cs.length lc, .int .i64 0, .int .i64 (rz.1 : Nat), .int .i64 (rz.2 : Nat), .int .i64 0, .int .i64 0, .int .i64 (tt.pos : Nat)] := ⟨_, rfl, (Since.s1 (Since.s4 (Since.s4 bW12 (by omega)) (by omega)) (by omega)), by simp only [World.setCell, World.size_alloc, Array.size_modify, Nat.le_refl], (Kp.s1 (Kp.s4 (Kp.s4 kpW12 (Or.inl (show w.heap.size + 1 < W1.heap.size by omega))) (Or.inl (show w.heap.size + 1 < W1.heap.size by omega))) (Or.inl (show w.heap.size + 1 < W1.heap.size by omega))), (Blk.o1 (Blk.o4 (Blk.o4 k_s (by omega)) (by omega)) (by omega)), (Blk.cast (Blk.set (Blk.set (Blk.set (Blk.set (Blk.set (Blk.set (Blk.set (Blk.set (Blk.set k_t 0 _) 1 _) 2 _) 3 _) 4 _) 5 _) 6 _) 7 _) 8 _) rfl), (Blk.o1 (Blk.o4 (Blk.o4 k_r (by omega)) (by omega)) (by omega)), (Blk.o1 (Blk.o4 (Blk.o4 k_x (by omega)) (by omega)) (by omega))⟩
      rw [hW13]
      clear hW13 k_s k_t k_r k_x
      have k_s := k2_s
      have k_t := k2_t
      have k_r := k2_r
      have k_x := k2_x
      clear k2_s k2_t k2_r k2_x
      refine hK.out _ _ (fun _ => ⟨k_x, k_s⟩) ?_
      clear hK K
      try simp only [Act.put, List.setIfInBounds_toArray, List.set_cons_zero, List.set_cons_succ]
      have q_r0 := k_r.cell (i := 0) rfl
      have q_r1 := k_r.cell (i := 1) rfl
      have q_r2 := k_r.cell (i := 2) rfl
      have q_r3 := k_r.cell (i := 3) rfl
      have q_rf := k_r.free
      refine Foyer.Round.held_one (i := 4) rfl (by kernel_rfl) (fun K hK => ?_)
      go_simp
      clear q_r0 q_r1 q_r2 q_r3 q_rf
      obtain ⟨W14, hW14, bW14, sW14, kpW14, k2_s, k2_t, k2_r, k2_x⟩ : ∃ x, ((((W13.setCell ⟨w.heap.size + 1 + 1, 0, none⟩ (.slice p8 s9.left.length cap8)).setCell ⟨w.heap.size + 1 + 1, 1, none⟩ (.int .i64 (N : Nat))).setCell ⟨w.heap.size + 1 + 1, 2, none⟩ (.int .i64 (s9.err : Nat))).setCell ⟨w.heap.size + 1 + 1, 3, none⟩ (.int .i64 (s9.pos : Nat))) = x ∧ Since w x ∧ W13.heap.size ≤ x.heap.size ∧ Kp (fun k => k < W1.heap.size) Wd x ∧ Blk x (w.heap.size) 45 [.slice p5 s5.left.length cap5, .int .i64 (N : Nat), .int .i64 (s5.err : Nat), .int .i64 (s5.pos : Nat)] ∧ Blk x (w.heap.size + 1) 38 [.int .i64 5, .string ⟨nm.text.toArray⟩, .slice la cs.length lc, .int .i64 0, .int .i64 (rz.1 : Nat), .int .i64 (rz.2 : Nat), .int .i64 0, .int .i64 0, .int .i64 (tt.pos : Nat)] ∧ Blk x (w.heap.size + 1 + 1) 45 [.slice p8 s9.left.length cap8, .int .i64 (N : Nat), .int .i64 (s9.err : Nat), .int .i64 (s9.pos : Nat)] ∧ Blk x (w.heap.size + 1 + 1 + 1) 38 [.int .i64 5, .string ⟨nm.text.toArray⟩, .slice la cs.length lc, .int .i64 0, .int .i64 (rz.1 : Nat), .int .i64 (rz.2 : Nat), .int .i64 0, .int .i64 0, .int .i64 (tt.pos : Nat)] := ⟨_, rfl, (Since.s4 bW13 (by omega)), by simp only [World.setCell, World.size_alloc, Array.size_modify, Nat.le_refl], (Kp.s4 kpW13 (Or.inl (show w.heap.size + 1 + 1 < W1.heap.size by omega))), (Blk.o4 k_s (by omega)), (Blk.o4 k_t (by omega)), (Blk.cast (Blk.set (Blk.set (Blk.set (Blk.set k_r 0 _) 1 _) 2 _) 3 _) rfl), (Blk.o4 k_x (by omega))⟩
      rw [hW14]
      clear hW14 k_s k_t k_r k_x
      have k_s := k2_s
      have k_t := k2_t
      have k_r := k2_r
      have k_x := k2_x
      clear k2_s k2_t k2_r k2_x
      refine hK.out _ _ (fun _ => ⟨k_x, k_s⟩) ?_
      clear hK K
      try simp only [Act.put, List.setIfInBounds_toArray, List.set_cons_zero, List.set_cons_succ]
      refine Foyer.Round.held_done (by kernel_rfl) ?_ _
      go_wp2
      exact bodyPost_ret (results_two rfl _ _ (w.heap.size + 1) (w.heap.size + 1 + 1) _ _ _ _ rfl k_t.range Tryd.underlying38 rfl (by kernel_rfl) rfl k_r.range Tryd.underlying45 rfl (by kernel_rfl)) rfl ⟨⟨_, _, _, rfl, hs_, (HLS.out.kept (fun k hk hlt => kpW14.block k hlt (by omega))).mono (fun k hk _ => by omega)⟩, bW14⟩
    have h2 := N2.out
    unfold rHead at h2
    clear N2
    rw [if_neg hk1, if_neg hk3, if_neg hk4, if_neg hk5] at h2
    injection h2 with e1 e2
    subst e1 e2
    have e1 : (((kd : Nat) : Int) == 1) = false := by simp; omega
    have e3 : (((kd : Nat) : Int) == 3) = false := by simp; omega
    have e4 : (((kd : Nat) : Int) == 4) = false := by simp; omega
    have e5 : (((kd : Nat) : Int) == 5) = false := by simp; omega
    have q_x0 := k_x.cell (i := 0) rfl
    have q_x1 := k_x.cell (i := 1) rfl
    have q_x2 := k_x.cell (i := 2) rfl
    have q_x3 := k_x.cell (i := 3) rfl
    have q_x4 := k_x.cell (i := 4) rfl
    have q_x5 := k_x.cell (i := 5) rfl
    have q_x6 := k_x.cell (i := 6) rfl
    have q_x7 := k_x.cell (i := 7) rfl
    have q_x8 := k_x.cell (i := 8) rfl
    have q_xf := k_x.free
    have q_s0 := k_s.cell (i := 0) rfl
    have q_s1 := k_s.cell (i := 1) rfl
    have q_s2 := k_s.cell (i := 2) rfl
    have q_s3 := k_s.cell (i := 3) rfl
    have q_sf := k_s.free
    go_upto_region 42 with fail
    clear q_x0 q_x1 q_x2 q_x3 q_x4 q_x5 q_x6 q_x7 q_x8 q_xf q_s0 q_s1 q_s2 q_s3 q_sf
    clear e1 e3 e4 e5
    obtain ⟨s4, hs4⟩ : ∃ z, z = sn := ⟨_, rfl⟩
    subst hs4
    obtain ⟨dw, hdw⟩ : ∃ z, rIs s4 1 wWhen = z := ⟨_, rfl⟩
    have Ndw := Lib.hid hdw
    clear hdw
    have q_s0 := k_s.cell (i := 0) rfl
    have q_s1 := k_s.cell (i := 1) rfl
    have q_s2 := k_s.cell (i := 2) rfl
    have q_s3 := k_s.cell (i := 3) rfl
    have q_sf := k_s.free
    go_wp2_with fail
    refine (ris_c Ndw.out B p3 cap3 HV3.out 1 rfl _ (HB.out.trans (bW6.mono HB.out.size))).mono ?_; rintro e W7 ⟨rfl, hb⟩
    clear q_s0 q_s1 q_s2 q_s3 q_sf
    have sW7 := Nat.le_trans sW6 hb.size
    have bW7 := (bW6).call hb
    replace k_s := k_s.past hb
    replace k_t := k_t.past hb
    replace k_r := k_r.past hb
    replace k_x := k_x.past hb
    clear hb bW6 sW6
    have hlow : W1.heap.size ≤ W7.heap.size := by omega
    have q_s0 := k_s.cell (i := 0) rfl
    have q_s1 := k_s.cell (i := 1) rfl
    have q_s2 := k_s.cell (i := 2) rfl
    have q_s3 := k_s.cell (i := 3) rfl
    have q_sf := k_s.free
    go_upto_if 150 with fail
    go_cut [21, 22] from 151 to 159 (fun t21 t22 wx => ∃ (lv : Value) (p5 : Option Addr) (cap5 : Nat), Hid (IsSt B p5 cap5 s5.left) ∧ Hid (IsList testsK wx (fun k => W1.heap.size ≤ k) 33 lv cs) ∧ Hid (Blk wx (w.heap.size) 45 [.slice p5 s5.left.length cap5, .int .i64 (N : Nat), .int .i64 (s5.err : Nat), .int .i64 (s5.pos : Nat)]) ∧ Hid (Blk wx (w.heap.size + 1) 38 [.int .i64 0, .string ⟨#[]⟩, .slice none 0 0, .int .i64 0, .int .i64 0, .int .i64 0, .int .i64 0, .int .i64 0, .int .i64 0]) ∧ Hid (Blk wx (w.heap.size + 1 + 1) 45 [.slice none 0 0, .int .i64 0, .int .i64 0, .int .i64 0]) ∧ Hid (Blk wx (w.heap.size + 1 + 1 + 1) 38 [.int .i64 (kd : Nat), .string ⟨nm.text.toArray⟩, lv, .int .i64 0, .int .i64 0, .int .i64 0, .int .i64 0, .int .i64 0, .int .i64 (tt.pos : Nat)]) ∧ Hid (Since w wx) ∧ Hid (W4.heap.size + 1 ≤ wx.heap.size))
    case first =>
      have h3 := N3.out
      unfold rConds at h3
      rw [Ndw.out] at h3
      cases dw
      · rw [if_neg (by simp)] at h3
        injection h3 with e1 e2
        subst e1 e2
        go_wp2
        clear q_s0 q_s1 q_s2 q_s3 q_sf
        go_meet
        exact ⟨_, _, _, HV3, Lib.hid (nil_is _ _ _ _), Lib.hid k_s, Lib.hid k_t, Lib.hid k_r, Lib.hid k_x, Lib.hid bW7, Lib.hid (by omega)⟩
      · rw [if_pos rfl] at h3
        obtain ⟨sw, h5⟩ : ∃ z, rWord N s4 wWhen = z := ⟨_, rfl⟩
        rw [h5] at h3
        have hSw : SaneS sw := HS4.out.suf (by rw [← h5]; exact word_suf _ _)
        have HSw := Lib.hid hSw; have N5 := Lib.hid h5; have N6 := Lib.hid h3
        clear hSw h5 h3
        go_wp2_with fail
        refine (rword_c N5.out B p3 cap3 HV3.out  _ (HB.out.trans (bW7.mono HB.out.size))).mono ?_; rintro e W8 ⟨⟨p6, cap6, rfl, hs_⟩, hb⟩
        clear q_s0 q_s1 q_s2 q_s3 q_sf
        have sW8 := Nat.le_trans sW7 hb.size
        have bW8 := (bW7).call hb
        replace k_s := k_s.past hb
        replace k_t := k_t.past hb
        replace k_r := k_r.past hb
        replace k_x := k_x.past hb
        clear hb bW7 sW7
        have HV6 := Lib.hid hs_
        clear hs_
        have hlow2 : W1.heap.size ≤ W8.heap.size := by omega
        go_wp2_with fail
        refine (rwhen_c N6.out HSw.out B p6 cap6 HV6.out _ (HB.out.trans (bW8.mono HB.out.size))).mono ?_; rintro e W9 ⟨⟨lv, pw, cw, rfl, hs_, hl_⟩, hb⟩
        have sW9 := Nat.le_trans sW8 hb.size
        have bW9 := (bW8).call hb
        replace k_s := k_s.past hb
        replace k_t := k_t.past hb
        replace k_r := k_r.past hb
        replace k_x := k_x.past hb
        clear hb bW8 sW8
        have HVw := Lib.hid hs_
        clear hs_
        obtain ⟨la, lc, hlv⟩ := hl_.len
        subst hlv
        have HLw := Lib.hid hl_
        clear hl_
        go_upto_region 44 with fail
        obtain ⟨W10, hW10, bW10, sW10, kpW10, k2_s, k2_t, k2_r, k2_x, k2_u⟩ : ∃ x, (W9.alloc (.cells #[.slice pw s5.left.length cw, .int .i64 (N : Nat), .int .i64 (s5.err : Nat), .int .i64 (s5.pos : Nat)] 45)) = x ∧ Since w x ∧ W9.heap.size + 1 ≤ x.heap.size ∧ Kp (fun k => k < W1.heap.size) W9 x ∧ Blk x (w.heap.size) 45 [.slice p3 s4.left.length cap3, .int .i64 (N : Nat), .int .i64 (s4.err : Nat), .int .i64 (s4.pos : Nat)] ∧ Blk x (w.heap.size + 1) 38 [.int .i64 0, .string ⟨#[]⟩, .slice none 0 0, .int .i64 0, .int .i64 0, .int .i64 0, .int .i64 0, .int .i64 0, .int .i64 0] ∧ Blk x (w.heap.size + 1 + 1) 45 [.slice none 0 0, .int .i64 0, .int .i64 0, .int .i64 0] ∧ Blk x (w.heap.size + 1 + 1 + 1) 38 [.int .i64 (kd : Nat), .string ⟨nm.text.toArray⟩, .slice none 0 0, .int .i64 0, .int .i64 0, .int .i64 0, .int .i64 0, .int .i64 0, .int .i64 (tt.pos : Nat)] ∧ Blk x (W9.heap.size) 45 [.slice pw s5.left.length cw, .int .i64 (N : Nat), .int .i64 (s5.err : Nat), .int .i64 (s5.pos : Nat)] := ⟨_, rfl, (Since.alloc bW9 _), by simp only [World.setCell, World.size_alloc, Array.size_modify, Nat.le_refl], (Kp.alloc (Kp.refl _ _) _), (Blk.alloc k_s _), (Blk.alloc k_t _), (Blk.alloc k_r _), (Blk.alloc k_x _), (Blk.new' _ _ _ (rfl))⟩
        rw [hW10]
        clear hW10 k_s k_t k_r k_x
        have k_s := k2_s
        have k_t := k2_t
        have k_r := k2_r
        have k_x := k2_x
        have k_u := k2_u
        clear k2_s k2_t k2_r k2_x k2_u
        have q_x0 := k_x.cell (i := 0) rfl
        have q_x1 := k_x.cell (i := 1) rfl
        have q_x2 := k_x.cell (i := 2) rfl
        have q_x3 := k_x.cell (i := 3) rfl
        have q_x4 := k_x.cell (i := 4) rfl
        have q_x5 := k_x.cell (i := 5) rfl
        have q_x6 := k_x.cell (i := 6) rfl
        have q_x7 := k_x.cell (i := 7) rfl
        have q_x8 := k_x.cell (i := 8) rfl
        have q_xf := k_x.free
        have q_u0 := k_u.cell (i := 0) rfl
        have q_u1 := k_u.cell (i := 1) rfl
        have q_u2 := k_u.cell (i := 2) rfl
        have q_u3 := k_u.cell (i := 3) rfl
        have q_uf := k_u.free
        have q_s0 := k_s.cell (i := 0) rfl
        have q_s1 := k_s.cell (i := 1) rfl
        have q_s2 := k_s.cell (i := 2) rfl
        have q_s3 := k_s.cell (i := 3) rfl
        have q_sf := k_s.free
        go_wp2
        clear q_x0 q_x1 q_x2 q_x3 q_x4 q_x5 q_x6 q_x7 q_x8 q_xf q_u0 q_u1 q_u2 q_u3 q_uf q_s0 q_s1 q_s2 q_s3 q_sf
        obtain ⟨W11, hW11, bW11, sW11, kpW11, k2_s, k2_t, k2_r, k2_x, k2_u⟩ : ∃ x, (((((W10.setCell ⟨w.heap.size + 1 + 1 + 1, 2, none⟩ (.slice la cs.length lc)).setCell ⟨w.heap.size, 0, none⟩ (.slice pw s5.left.length cw)).setCell ⟨w.heap.size, 1, none⟩ (.int .i64 (N : Nat))).setCell ⟨w.heap.size, 2, none⟩ (.int .i64 (s5.err : Nat))).setCell ⟨w.heap.size, 3, none⟩ (.int .i64 (s5.pos : Nat))) = x ∧ Since w x ∧ W10.heap.size ≤ x.heap.size ∧ Kp (fun k => k < W1.heap.size) W9 x ∧ Blk x (w.heap.size) 45 [.slice pw s5.left.length cw, .int .i64 (N : Nat), .int .i64 (s5.err : Nat), .int .i64 (s5.pos : Nat)] ∧ Blk x (w.heap.size + 1) 38 [.int .i64 0, .string ⟨#[]⟩, .slice none 0 0, .int .i64 0, .int .i64 0, .int .i64 0, .int .i64 0, .int .i64 0, .int .i64 0] ∧ Blk x (w.heap.size + 1 + 1) 45 [.slice none 0 0, .int .i64 0, .int .i64 0, .int .i64 0] ∧ Blk x (w.heap.size + 1 + 1 + 1) 38 [.int .i64 (kd : Nat), .string ⟨nm.text.toArray⟩, .slice la cs.length lc, .int .i64 0, .int .i64 0, .int .i64 0, .int .i64 0, .int .i64 0, .int .i64 (tt.pos : Nat)] ∧ Blk x (W9.heap.size) 45 [.slice pw s5.left.length cw, .int .i64 (N : Nat), .int .i64 (s5.err : Nat), .int .i64 (s5.pos : Nat)] := ⟨_, rfl, (Since.s4 (Since.s1 bW10 (by omega)) (by omega)), by simp only [World.setCell, World.size_alloc, Array.size_modify, Nat.le_refl], (Kp.s4 (Kp.s1 kpW10 (Or.inl (show w.heap.size + 1 + 1 + 1 < W1.heap.size by omega))) (Or.inl (show w.heap.size < W1.heap.size by omega))), (Blk.cast (Blk.set (Blk.set (Blk.set (Blk.set (Blk.o1 k_s (by omega)) 0 _) 1 _) 2 _) 3 _) rfl), (Blk.o4 (Blk.o1 k_t (by omega)) (by omega)), (Blk.o4 (Blk.o1 k_r (by omega)) (by omega)), (Blk.o4 (Blk.cast (Blk.set k_x 2 _) rfl) (by omega)), (Blk.o4 (Blk.o1 k_u (by omega)) (by omega))⟩
        rw [hW11]
        clear hW11 k_s k_t k_r k_x k_u
        have k_s := k2_s
        have k_t := k2_t
        have k_r := k2_r
        have k_x := k2_x
        have k_u := k2_u
        clear k2_s k2_t k2_r k2_x k2_u
        go_meet
        exact ⟨_, _, _, HVw, Lib.hid ((HLw.out.kept (fun k hk hlt => kpW11.block k hlt (by omega))).mono (fun k hk _ => by omega)), Lib.hid k_s, Lib.hid k_t, Lib.hid k_r, Lib.hid k_x, Lib.hid bW11, Lib.hid (by omega)⟩
    case rest =>
    clear q_s0 q_s1 q_s2 q_s3 q_sf
    obtain ⟨lv, p5, cap5, HV5, HLS, J_s, J_t, J_r, J_x, Jb, Jz⟩ := hcut
    obtain ⟨Wd, hwc⟩ : ∃ z, z = wc := ⟨_, rfl⟩
    subst hwc
    clear k_s k_t k_r k_x bW7 sW7
    have k_s := J_s.out
    have k_t := J_t.out
    have k_r := J_r.out
    have k_x := J_x.out
    have bWd := Jb.out
    have sWd := Jz.out
    clear J_s J_t J_r J_x Jb Jz
    obtain ⟨la, lc, hlv⟩ := HLS.out.len
    subst hlv
    go_upto_region 46 with fail
    refine wp_region_any (by kernel_rfl) ?_
    refine Foyer.Round.any_of_held (S := fun W => Blk W (w.heap.size + 1 + 1 + 1) 38 [.int .i64 (kd : Nat), .string ⟨nm.text.toArray⟩, .slice la cs.length lc, .int .i64 0, .int .i64 0, .int .i64 0, .int .i64 0, .int .i64 0, .int .i64 (tt.pos : Nat)] ∧ Blk W (w.heap.size) 45 [.slice p5 s5.left.length cap5, .int .i64 (N : Nat), .int .i64 (s5.err : Nat), .int .i64 (s5.pos : Nat)]) (N := [4]) _ _ _ _ ?_
    change Foyer.Round.held _ _ _ _ _ _ _ _ _ Wd.drew
    obtain ⟨W8, hW8⟩ : ∃ x, Wd.drew = x := ⟨_, rfl⟩
    have bW8 : Since w W8 := by rw [← hW8]; exact Below.drew bWd
    have sW8 := sWd
    rw [show Wd.heap.size = W8.heap.size from by rw [← hW8]; rfl] at sW8
    replace k_s : Blk W8 (w.heap.size) 45 [.slice p5 s5.left.length cap5, .int .i64 (N : Nat), .int .i64 (s5.err : Nat), .int .i64 (s5.pos : Nat)] := by rw [← hW8]; exact k_s
    replace k_t : Blk W8 (w.heap.size + 1) 38 [.int .i64 0, .string ⟨#[]⟩, .slice none 0 0, .int .i64 0, .int .i64 0, .int .i64 0, .int .i64 0, .int .i64 0, .int .i64 0] := by rw [← hW8]; exact k_t
    replace k_r : Blk W8 (w.heap.size + 1 + 1) 45 [.slice none 0 0, .int .i64 0, .int .i64 0, .int .i64 0] := by rw [← hW8]; exact k_r
    replace k_x : Blk W8 (w.heap.size + 1 + 1 + 1) 38 [.int .i64 (kd : Nat), .string ⟨nm.text.toArray⟩, .slice la cs.length lc, .int .i64 0, .int .i64 0, .int .i64 0, .int .i64 0, .int .i64 0, .int .i64 (tt.pos : Nat)] := by rw [← hW8]; exact k_x
    have kpW8 : Kp (fun k => k < W1.heap.size) Wd W8 := by rw [← hW8]; exact Kp.drew (Kp.refl (fun k => k < W1.heap.size) Wd)
    rw [hW8]
    clear hW8 bWd sWd
    refine Foyer.Round.held_take [4] (i := 0) (v := .agg #[.int .i64 (kd : Nat), .string ⟨nm.text.toArray⟩, .slice la cs.length lc, .int .i64 0, .int .i64 0, .int .i64 0, .int .i64 0, .int .i64 0, .int .i64 (tt.pos : Nat)]) rfl (by kernel_rfl) (fun _ _ _ h => h) (Or.inl ⟨by rfl, fun w' hS => by have r_x0 := (show Blk _ _ _ _ from hS.1).cell (i := 0) rfl; have r_x1 := (show Blk _ _ _ _ from hS.1).cell (i := 1) rfl; have r_x2 := (show Blk _ _ _ _ from hS.1).cell (i := 2) rfl; have r_x3 := (show Blk _ _ _ _ from hS.1).cell (i := 3) rfl; have r_x4 := (show Blk _ _ _ _ from hS.1).cell (i := 4) rfl; have r_x5 := (show Blk _ _ _ _ from hS.1).cell (i := 5) rfl; have r_x6 := (show Blk _ _ _ _ from hS.1).cell (i := 6) rfl; have r_x7 := (show Blk _ _ _ _ from hS.1).cell (i := 7) rfl; have r_x8 := (show Blk _ _ _ _ from hS.1).cell (i := 8) rfl; go_simp⟩) (⟨k_x, k_s⟩) ?_
    try simp only [Act.put, List.setIfInBounds_toArray, List.set_cons_zero, List.set_cons_succ]
    refine Foyer.Round.held_take [4] (i := 1) (v := .agg #[.slice p5 s5.left.length cap5, .int .i64 (N : Nat), .int .i64 (s5.err : Nat), .int .i64 (s5.pos : Nat)]) rfl (by kernel_rfl) (fun _ _ _ h => h) (Or.inl ⟨by rfl, fun w' hS => by have r_s0 := (show Blk _ _ _ _ from hS.2).cell (i := 0) rfl; have r_s1 := (show Blk _ _ _ _ from hS.2).cell (i := 1) rfl; have r_s2 := (show Blk _ _ _ _ from hS.2).cell (i := 2) rfl; have r_s3 := (show Blk _ _ _ _ from hS.2).cell (i := 3) rfl; go_simp⟩) (⟨k_x, k_s⟩) ?_
    try simp only [Act.put, List.setIfInBounds_toArray, List.set_cons_zero, List.set_cons_succ]
    refine Foyer.Round.held_one (i := 2) rfl (by kernel_rfl) (fun K hK => ?_)
    go_simp
    refine (rword_c NF.out B p5 cap5 HV5.out _ (HB.out.trans (bW8.mono HB.out.size))).mono ?_; rintro e W9 ⟨⟨p8, cap8, rfl, hs_⟩, hb⟩
    have sW9 := Nat.le_trans sW8 hb.size
    have bW9 := (bW8).call hb
    replace k_s := k_s.past hb
    replace k_t := k_t.past hb
    replace k_r := k_r.past hb
    replace k_x := k_x.past hb
    have kpW9 := (kpW8).trans (Kp.of_below hb)
    clear hb bW8 sW8
    refine hK.out _ _ (fun _ => ⟨k_x, k_s⟩) ?_
    clear hK K
    try simp only [Act.put, List.setIfInBounds_toArray, List.set_cons_zero, List.set_cons_succ]
    have q_t0 := k_t.cell (i := 0) rfl
    have q_t1 := k_t.cell (i := 1) rfl
    have q_t2 := k_t.cell (i := 2) rfl
    have q_t3 := k_t.cell (i := 3) rfl
    have q_t4 := k_t.cell (i := 4) rfl
    have q_t5 := k_t.cell (i := 5) rfl
    have q_t6 := k_t.cell (i := 6) rfl
    have q_t7 := k_t.cell (i := 7) rfl
    have q_t8 := k_t.cell (i := 8) rfl
    have q_tf := k_t.free
    refine Foyer.Round.held_one (i := 3) rfl (by kernel_rfl) (fun K hK => ?_)
    go_simp
    clear q_t0 q_t1 q_t2 q_t3 q_t4 q_t5 q_t6 q_t7 q_t8 q_tf
    obtain ⟨W10, hW10, bW10, sW10, kpW10, k2_s, k2_t, k2_r, k2_x⟩ : ∃ x, (((((((((W9.setCell ⟨w.heap.size + 1, 0, none⟩ (.int .i64 (kd : Nat))).setCell ⟨w.heap.size + 1, 1, none⟩ (.string ⟨nm.text.toArray⟩)).setCell ⟨w.heap.size + 1, 2, none⟩ (.slice la cs.length lc)).setCell ⟨w.heap.size + 1, 3, none⟩ (.int .i64 0)).setCell ⟨w.heap.size + 1, 4, none⟩ (.int .i64 0)).setCell ⟨w.heap.size + 1, 5, none⟩ (.int .i64 0)).setCell ⟨w.heap.size + 1, 6, none⟩ (.int .i64 0)).setCell ⟨w.heap.size + 1, 7, none⟩ (.int .i64 0)).setCell ⟨w.heap.size + 1, 8, none⟩ (.int .i64 (tt.pos : Nat))) = x ∧ Since w x ∧ W9.heap.size ≤ x.heap.size ∧ Kp (fun k => k < W1.heap.size) Wd x ∧ Blk x (w.heap.size) 45 [.slice p5 s5.left.length cap5, .int .i64 (N : Nat), .int .i64 (s5.err : Nat), .int .i64 (s5.pos : Nat)] ∧ Blk x (w.heap.size + 1) 38 [.int .i64 (kd : Nat), .string ⟨nm.text.toArray⟩, .slice la cs.length lc, .int .i64 0, .int .i64 0, .int .i64 0, .int .i64 0, .int .i64 0, .int .i64 (tt.pos : Nat)] ∧ Blk x (w.heap.size + 1 + 1) 45 [.slice none 0 0, .int .i64 0, .int .i64 0, .int .i64 0] ∧ Blk x (w.heap.size + 1 + 1 + 1) 38 [.int .i64 (kd : Nat), .string ⟨nm.text.toArray⟩, .slice la cs.length lc, .int .i64 0, .int .i64 0, .int .i64 0, .int .i64 0, .int .i64 0, .int .i64 (tt.pos : Nat)] := ⟨_, rfl, (Since.s1 (Since.s4 (Since.s4 bW9 (by omega)) (by omega)) (by omega)), by simp only [World.setCell, World.size_alloc, Array.size_modify, Nat.le_refl], (Kp.s1 (Kp.s4 (Kp.s4 kpW9 (Or.inl (show w.heap.size + 1 < W1.heap.size by omega))) (Or.inl (show w.heap.size + 1 < W1.heap.size by omega))) (Or.inl (show w.heap.size + 1 < W1.heap.size by omega))), (Blk.o1 (Blk.o4 (Blk.o4 k_s (by omega)) (by omega)) (by omega)), (Blk.cast (Blk.set (Blk.set (Blk.set (Blk.set (Blk.set (Blk.set (Blk.set (Blk.set (Blk.set k_t 0 _) 1 _) 2 _) 3 _) 4 _) 5 _) 6 _) 7 _) 8 _) rfl), (Blk.o1 (Blk.o4 (Blk.o4 k_r (by omega)) (by omega)) (by omega)), (Blk.o1 (Blk.o4 (Blk.o4 k_x (by omega)) (by omega)) (by omega))⟩
    rw [hW10]
    clear hW10 k_s k_t k_r k_x
    have k_s := k2_s
    have k_t := k2_t
    have k_r := k2_r
    have k_x := k2_x
    clear k2_s k2_t k2_r k2_x
    refine hK.out _ _ (fun _ => ⟨k_x, k_s⟩) ?_
    clear hK K
    try simp only [Act.put, List.setIfInBounds_toArray, List.set_cons_zero, List.set_cons_succ]
    have q_r0 := k_r.cell (i := 0) rfl
    have q_r1 := k_r.cell (i := 1) rfl
    have q_r2 := k_r.cell (i := 2) rfl
    have q_r3 := k_r.cell (i := 3) rfl
    have q_rf := k_r.free
    refine Foyer.Round.held_one (i := 4) rfl (by kernel_rfl) (fun K hK => ?_)
    go_simp
    clear q_r0 q_r1 q_r2 q_r3 q_rf
    obtain ⟨W11, hW11, bW11, sW11, kpW11, k2_s, k2_t, k2_r, k2_x⟩ : ∃ x, ((((W10.setCell ⟨w.heap.size + 1 + 1, 0, none⟩ (.slice p8 s9.left.length cap8)).setCell ⟨w.heap.size + 1 + 1, 1, none⟩ (.int .i64 (N : Nat))).setCell ⟨w.heap.size + 1 + 1, 2, none⟩ (.int .i64 (s9.err : Nat))).setCell ⟨w.heap.size + 1 + 1, 3, none⟩ (.int .i64 (s9.pos : Nat))) = x ∧ Since w x ∧ W10.heap.size ≤ x.heap.size ∧ Kp (fun k => k < W1.heap.size) Wd x ∧ Blk x (w.heap.size) 45 [.slice p5 s5.left.length cap5, .int .i64 (N : Nat), .int .i64 (s5.err : Nat), .int .i64 (s5.pos : Nat)] ∧ Blk x (w.heap.size + 1) 38 [.int .i64 (kd : Nat), .string ⟨nm.text.toArray⟩, .slice la cs.length lc, .int .i64 0, .int .i64 0, .int .i64 0, .int .i64 0, .int .i64 0, .int .i64 (tt.pos : Nat)] ∧ Blk x (w.heap.size + 1 + 1) 45 [.slice p8 s9.left.length cap8, .int .i64 (N : Nat), .int .i64 (s9.err : Nat), .int .i64 (s9.pos : Nat)] ∧ Blk x (w.heap.size + 1 + 1 + 1) 38 [.int .i64 (kd : Nat), .string ⟨nm.text.toArray⟩, .slice la cs.length lc, .int .i64 0, .int .i64 0, .int .i64 0, .int .i64 0, .int .i64 0, .int .i64 (tt.pos : Nat)] := ⟨_, rfl, (Since.s4 bW10 (by omega)), by simp only [World.setCell, World.size_alloc, Array.size_modify, Nat.le_refl], (Kp.s4 kpW10 (Or.inl (show w.heap.size + 1 + 1 < W1.heap.size by omega))), (Blk.o4 k_s (by omega)), (Blk.o4 k_t (by omega)), (Blk.cast (Blk.set (Blk.set (Blk.set (Blk.set k_r 0 _) 1 _) 2 _) 3 _) rfl), (Blk.o4 k_x (by omega))⟩
    rw [hW11]
    clear hW11 k_s k_t k_r k_x
    have k_s := k2_s
    have k_t := k2_t
    have k_r := k2_r
    have k_x := k2_x
    clear k2_s k2_t k2_r k2_x
    refine hK.out _ _ (fun _ => ⟨k_x, k_s⟩) ?_
    clear hK K
    try simp only [Act.put, List.setIfInBounds_toArray, List.set_cons_zero, List.set_cons_succ]
    refine Foyer.Round.held_done (by kernel_rfl) ?_ _
    go_wp2
    exact bodyPost_ret (results_two rfl _ _ (w.heap.size + 1) (w.heap.size + 1 + 1) _ _ _ _ rfl k_t.range Tryd.underlying38 rfl (by kernel_rfl) rfl k_r.range Tryd.underlying45 rfl (by kernel_rfl)) rfl ⟨⟨_, _, _, rfl, hs_, (HLS.out.kept (fun k hk hlt => kpW11.block k hlt (by omega))).mono (fun k hk _ => by omega)⟩, bW11⟩
end Go.Proofs.YtlfjdohjfmfcdabDoor
