/-
  The document's own reader of rules: the conditions.
-/
import Derived.Test.YtlfjdohjfmfcdabDoorRefTs7
import Derived.Test.YtlfjdohjfmfcdabDoorWalkList
import Derived.Deep.CutBlock
namespace Go.Proofs.YtlfjdohjfmfcdabDoor
open Go.RowKit Go.Sort Foyer.Rule
set_option linter.unusedSimpArgs false

theorem results_tmp_cell {P : Program} {fn : Func} {p u : Tmp} {ty : TypeId} (h : fn.results = #[.tmp u, .cell p ty]) (tmps : Array Value) (w : World) (b : Nat) (v : Value) (cs : List Value) (d : TypeDesc) (hu' : tmps.getD u undef = v)
    (hp : tmps.getD p undef = .pointer (some ⟨b, 0, none⟩)) (hc : w.rangeAt b 0 cs) (hu : P.underlying ty = some d) (hd : d.isRow = true) (hi : (P.info? ty).map (·.size) = some cs.length) :
    (results fn tmps).run P w = .ok (.tuple #[v, .agg cs.toArray]) w := by
  have hp' : tmps[p]?.getD undef = .pointer (some ⟨b, 0, none⟩) := by simpa using hp
  have hv' : tmps[u]?.getD undef = v := by simpa using hu'
  simp [results, h, hp', hv', asAddr, run_loadVar_mid w b 0 ty cs d hc hu hd hi]
theorem many_err {α : Type} {N : Nat} {x : List UInt8} {q : St → α × St} {s : St} (h : s.err ≠ 0) (l : List α) : ∀ f, rMany N x q f l s = (l, s)
  | 0 => rfl
  | f + 1 => by unfold rMany; rw [if_neg h]
theorem many_step {α : Type} {N : Nat} {x : List UInt8} {q : St → α × St} {s s1 s2 : St} {a : α} {f : Nat} {l : List α} (h : s.err = 0) (h1 : rLimit N s l.length 12 = s1) (h2 : q s1 = (a, s2)) :
    rMany N x q (f + 1) l s = if rKey s2 x = true then rMany N x q f (l ++ [a]) (rWord N s2 x) else (l ++ [a], s2) := by
  rw [rMany, if_pos h, h1, h2]
theorem many_len' {α : Type} {N : Nat} {p : Par α} {q : St → α × St} {x : List UInt8} (hq : ∀ s, SaneS s → Fit N p s (q s).1 (q s).2) (hp : ∃ c, p [] = .bad c []) {s s1 s2 : St} {a : α} {l : List α} (hs : SaneS s) (hl : l.length ≤ 12) (h1 : rLimit N s l.length 12 = s1) (h2 : q s1 = (a, s2)) (hk : rKey s2 x = true) : l.length + 1 ≤ 12 := by
  refine many_len hq hp hs hl (x := x) ?_
  rw [h1, h2]; exact hk
theorem word_err {N : Nat} {s : St} {x : List UInt8} (h : rKey s x = true) : (rWord N s x).err = 0 := by
  unfold rWord
  rw [if_pos h]
  unfold rKey at h
  rcases Bool.or_eq_true_iff.1 h with h | h <;> exact (rIs_true h).1
theorem app_facts {X W' : World} {v : Value} {o : Obj} {b : Nat} {T : TypeId} {cs : List Value} {C : Nat} (hg : (X.alloc o).grownBy W' v.ownBlock) (hv : ∀ k, v.ownBlock = some k → C ≤ k) (h : Blk X b T cs) (hb : b < C) : Blk W' b T cs :=
  (hg.block b (by rw [World.size_alloc]; have := h.lt; omega) (fun e => by have := hv b e.symm; omega)).trans (h.alloc o)
set_option maxRecDepth 100000 in
set_option maxHeartbeats 8000000 in
theorem rwhen_c {N : Nat} {s : St} {ys : List (List TestP)} {s9 : St} (h : rWhen N s = (ys, s9)) (hs : SaneS s) (B : World) (p : Option Addr) (cap : Nat) (hv : IsSt B p cap s.left) (w : World) (hB : Below B.heap.size B w) :
    Calls Tryd.prog 25 #[.agg #[.slice p s.left.length cap, .int .i64 (N : Nat), .int .i64 (s.err : Nat), .int .i64 (s.pos : Nat)]] w fun e w' => (∃ lv p2 cap2, e = .returned (.tuple #[lv, .agg #[.slice p2 s9.left.length cap2, .int .i64 (N : Nat), .int .i64 (s9.err : Nat), .int .i64 (s9.pos : Nat)]]) ∧ IsSt B p2 cap2 s9.left ∧ IsList testsK w' (fun k => w.heap.size ≤ k) 33 lv ys) ∧ Below w.heap.size w w' := by
  have HV := Lib.hid hv; have HB := Lib.hid hB; have HS := Lib.hid hs
  unfold rWhen at h
  have H := Lib.hid h
  clear hv hB h hs
  go_enter Tryd.func25, Tryd.ntmps25
  go_upto_region 2 with fail
  obtain ⟨W1, hW1, bW1, sW1, k2_s, k2_r⟩ : ∃ x, ((w.alloc (.cells #[.slice p s.left.length cap, .int .i64 (N : Nat), .int .i64 (s.err : Nat), .int .i64 (s.pos : Nat)] 45)).alloc (.cells #[.slice none 0 0, .int .i64 0, .int .i64 0, .int .i64 0] 45)) = x ∧ Since w x ∧ w.heap.size + 1 + 1 ≤ x.heap.size ∧ Blk x (w.heap.size) 45 [.slice p s.left.length cap, .int .i64 (N : Nat), .int .i64 (s.err : Nat), .int .i64 (s.pos : Nat)] ∧ Blk x (w.heap.size + 1) 45 [.slice none 0 0, .int .i64 0, .int .i64 0, .int .i64 0] := ⟨_, rfl, (Since.alloc (Since.alloc (Since.refl w) _) _), by simp only [World.setCell, World.size_alloc, Array.size_modify, Nat.le_refl], (Blk.alloc (Blk.new' _ _ _ (rfl)) _), (Blk.new' _ _ _ (by simp only [World.size_alloc]))⟩
  rw [hW1]
  clear hW1
  have k_s := k2_s
  have k_r := k2_r
  clear k2_s k2_r
  have hbase : w.heap.size + 2 ≤ W1.heap.size := sW1
  have HBN := Lib.hid (building_nil testsK W1 (fun k => W1.heap.size ≤ k ∧ (Value.slice none 0 0).ownBlock ≠ some k) W1.heap.size 33)
  go_loopw [4, 5, 6, 7] (fun ov l5 t6 t7 wr => ∃ (out : List (List TestP)) (st : St) (pq : Option Addr) (cq f : Nat), Hid (rMany N wOr (rTests N) f out st = (ys, s9)) ∧ Hid (out.length + f = 14) ∧ Hid (st.err = 0 → out.length ≤ 12) ∧ Hid (IsSt B pq cq st.left) ∧ Hid (SaneS st) ∧ Hid (Building testsK wr (fun k => W1.heap.size ≤ k ∧ (ov).ownBlock ≠ some k) W1.heap.size 33 (ov) out) ∧ Hid (Blk wr (w.heap.size) 45 [.slice pq st.left.length cq, .int .i64 (N : Nat), .int .i64 (st.err : Nat), .int .i64 (st.pos : Nat)]) ∧ Hid (Blk wr (w.heap.size + 1) 45 [.slice none 0 0, .int .i64 0, .int .i64 0, .int .i64 0]) ∧ Hid (Since w wr) ∧ Hid (W1.heap.size ≤ wr.heap.size)) (fun ov _ _ _ _ => 14 - lenOf ov)
  case atStart => exact ⟨[], s, p, cap, 14, H, Lib.hid rfl, Lib.hid (fun _ => Nat.zero_le _), HV, HS, HBN, Lib.hid k_s, Lib.hid k_r, Lib.hid bW1, Lib.hid (by omega)⟩
  case round =>
    clear HBN H HV HS
    obtain ⟨out, st, pq, cq, f, HM, HN, HL, HV, HS, HO, J_s, J_r, Jb, Jz⟩ := hrel
    clear k_s k_r bW1 sW1
    have k_s := J_s.out
    have k_r := J_r.out
    have bwr := Jb.out
    have swr := Jz.out
    clear J_s J_r Jb Jz
    obtain ⟨oa, oc, rfl⟩ := HO.out.len
    by_cases h0 : st.err = 0
    rotate_left
    · have hm := HM.out
      rw [many_err h0] at hm
      injection hm with e1 e2
      subst e1 e2
      have e0 : (((st.err : Nat) : Int) == 0) = false := by simp [h0]
      have q_s0 := k_s.cell (i := 0) rfl
      have q_s1 := k_s.cell (i := 1) rfl
      have q_s2 := k_s.cell (i := 2) rfl
      have q_s3 := k_s.cell (i := 3) rfl
      have q_sf := k_s.free
      go_upto_region 15 with fail
      clear e0 h0
      have hls := HO.out.done (F' := fun k => W1.heap.size ≤ k) (fun k hk _ => hk.1) (fun k hk => hk)
      have HLS := Lib.hid hls
      clear hls
      clear q_s0 q_s1 q_s2 q_s3 q_sf
      refine wp_region_any (by kernel_rfl) ?_
      refine Foyer.Round.any_of_held (S := fun W => Blk W (w.heap.size) 45 [.slice pq st.left.length cq, .int .i64 (N : Nat), .int .i64 (st.err : Nat), .int .i64 (st.pos : Nat)]) (N := [3]) _ _ _ _ ?_
      change Foyer.Round.held _ _ _ _ _ _ _ _ _ wr.drew
      obtain ⟨W2, hW2⟩ : ∃ x, wr.drew = x := ⟨_, rfl⟩
      have bW2 : Since w W2 := by rw [← hW2]; exact Below.drew bwr
      have sW2 := swr
      rw [show wr.heap.size = W2.heap.size from by rw [← hW2]; rfl] at sW2
      replace k_s : Blk W2 (w.heap.size) 45 [.slice pq st.left.length cq, .int .i64 (N : Nat), .int .i64 (st.err : Nat), .int .i64 (st.pos : Nat)] := by rw [← hW2]; exact k_s
      replace k_r : Blk W2 (w.heap.size + 1) 45 [.slice none 0 0, .int .i64 0, .int .i64 0, .int .i64 0] := by rw [← hW2]; exact k_r
      have kpW2 : Kp (fun k => k < W1.heap.size) wr W2 := by rw [← hW2]; exact Kp.drew (Kp.refl (fun k => k < W1.heap.size) wr)
      rw [hW2]
      clear hW2 bwr swr
      refine Foyer.Round.held_take [3] (i := 0) (v := .slice oa out.length oc) rfl (by kernel_rfl) (fun _ _ _ h => h) (Or.inl ⟨by rfl, fun w' hS => by go_simp⟩) k_s ?_
      try simp only [Act.put, List.setIfInBounds_toArray, List.set_cons_zero, List.set_cons_succ]
      refine Foyer.Round.held_take [3] (i := 1) (v := .agg #[.slice pq st.left.length cq, .int .i64 (N : Nat), .int .i64 (st.err : Nat), .int .i64 (st.pos : Nat)]) rfl (by kernel_rfl) (fun _ _ _ h => h) (Or.inl ⟨by rfl, fun w' hS => by have r_s0 := (show Blk _ _ _ _ from hS).cell (i := 0) rfl; have r_s1 := (show Blk _ _ _ _ from hS).cell (i := 1) rfl; have r_s2 := (show Blk _ _ _ _ from hS).cell (i := 2) rfl; have r_s3 := (show Blk _ _ _ _ from hS).cell (i := 3) rfl; go_simp⟩) k_s ?_
      try simp only [Act.put, List.setIfInBounds_toArray, List.set_cons_zero, List.set_cons_succ]
      refine Foyer.Round.held_one (i := 2) rfl (by kernel_rfl) (fun K hK => ?_)
      go_simp
      refine hK.out _ _ (fun _ => k_s) ?_
      clear hK K
      try simp only [Act.put, List.setIfInBounds_toArray, List.set_cons_zero, List.set_cons_succ]
      have q_r0 := k_r.cell (i := 0) rfl
      have q_r1 := k_r.cell (i := 1) rfl
      have q_r2 := k_r.cell (i := 2) rfl
      have q_r3 := k_r.cell (i := 3) rfl
      have q_rf := k_r.free
      refine Foyer.Round.held_one (i := 3) rfl (by kernel_rfl) (fun K hK => ?_)
      go_simp
      clear q_r0 q_r1 q_r2 q_r3 q_rf
      obtain ⟨W3, hW3, bW3, sW3, kpW3, k2_s, k2_r⟩ : ∃ x, ((((W2.setCell ⟨w.heap.size + 1, 0, none⟩ (.slice pq st.left.length cq)).setCell ⟨w.heap.size + 1, 1, none⟩ (.int .i64 (N : Nat))).setCell ⟨w.heap.size + 1, 2, none⟩ (.int .i64 (st.err : Nat))).setCell ⟨w.heap.size + 1, 3, none⟩ (.int .i64 (st.pos : Nat))) = x ∧ Since w x ∧ W2.heap.size ≤ x.heap.size ∧ Kp (fun k => k < W1.heap.size) wr x ∧ Blk x (w.heap.size) 45 [.slice pq st.left.length cq, .int .i64 (N : Nat), .int .i64 (st.err : Nat), .int .i64 (st.pos : Nat)] ∧ Blk x (w.heap.size + 1) 45 [.slice pq st.left.length cq, .int .i64 (N : Nat), .int .i64 (st.err : Nat), .int .i64 (st.pos : Nat)] := ⟨_, rfl, (Since.s4 bW2 (by omega)), by simp only [World.setCell, World.size_alloc, Array.size_modify, Nat.le_refl], (Kp.s4 kpW2 (Or.inl (show w.heap.size + 1 < W1.heap.size by omega))), (Blk.o4 k_s (by omega)), (Blk.cast (Blk.set (Blk.set (Blk.set (Blk.set k_r 0 _) 1 _) 2 _) 3 _) rfl)⟩
      rw [hW3]
      clear hW3 k_s k_r
      have k_s := k2_s
      have k_r := k2_r
      clear k2_s k2_r
      refine hK.out _ _ (fun _ => k_s) ?_
      clear hK K
      try simp only [Act.put, List.setIfInBounds_toArray, List.set_cons_zero, List.set_cons_succ]
      refine Foyer.Round.held_done (by kernel_rfl) ?_ _
      go_wp2
      exact bodyPost_ret (results_tmp_cell rfl _ _ (w.heap.size + 1) _ _ _ rfl rfl k_r.range Tryd.underlying45 rfl (by kernel_rfl)) rfl ⟨⟨_, pq, cq, rfl, HV.out, (HLS.out.kept (fun k hk hlt => kpW3.block k hlt (by omega))).mono (fun k hk _ => by omega)⟩, bW3⟩
    have hlen : out.length ≤ 12 := HL.out h0
    obtain ⟨f, rfl⟩ : ∃ g, f = g + 1 := ⟨f - 1, by have := HN.out; omega⟩
    have e0 : (((st.err : Nat) : Int) == 0) = true := by simp [h0]
    have H0 := Lib.hid h0
    clear h0
    obtain ⟨s1, h1⟩ : ∃ z, rLimit N st out.length 12 = z := ⟨_, rfl⟩
    obtain ⟨⟨ts, s2⟩, h2⟩ : ∃ z, rTests N s1 = z := ⟨_, rfl⟩
    have N1 := Lib.hid h1; have N2 := Lib.hid h2
    have HS1 : Hid (SaneS s1) := Lib.hid (HS.out.suf (by rw [← h1]; exact limit_suf _ _ _))
    have HS2 : Hid (SaneS s2) := Lib.hid (HS1.out.suf (by have := (tests_fit (N := N) HS1.out).1; rw [h2] at this; exact this))
    clear h1 h2
    have q_s0 := k_s.cell (i := 0) rfl
    have q_s1 := k_s.cell (i := 1) rfl
    have q_s2 := k_s.cell (i := 2) rfl
    have q_s3 := k_s.cell (i := 3) rfl
    have q_sf := k_s.free
    go_wp2_with fail
    refine (rlimit_c N1.out B pq cq HV.out _ 12 rfl rfl _ (HB.out.trans (bwr.mono HB.out.size))).mono ?_; rintro e W2 ⟨⟨p1, cap1, rfl, hs_⟩, hb⟩
    clear q_s0 q_s1 q_s2 q_s3 q_sf
    have sW2 := Nat.le_trans swr hb.size
    have bW2 := (bwr).call hb
    replace k_s := k_s.past hb
    replace k_r := k_r.past hb
    have kpW2 := (Kp.refl (onlyB w.heap.size) wr).trans (Kp.of_below hb)
    clear hb bwr swr
    have HV1 := Lib.hid hs_
    clear hs_
    clear e0
    have q_s0 := k_s.cell (i := 0) rfl
    have q_s1 := k_s.cell (i := 1) rfl
    have q_s2 := k_s.cell (i := 2) rfl
    have q_s3 := k_s.cell (i := 3) rfl
    have q_sf := k_s.free
    go_upto_region 4 with fail
    clear q_s0 q_s1 q_s2 q_s3 q_sf
    obtain ⟨W3, hW3, bW3, sW3, kpW3, k2_s, k2_r⟩ : ∃ x, ((((W2.setCell ⟨w.heap.size, 0, none⟩ (.slice p1 s1.left.length cap1)).setCell ⟨w.heap.size, 1, none⟩ (.int .i64 (N : Nat))).setCell ⟨w.heap.size, 2, none⟩ (.int .i64 (s1.err : Nat))).setCell ⟨w.heap.size, 3, none⟩ (.int .i64 (s1.pos : Nat))) = x ∧ Since w x ∧ W2.heap.size ≤ x.heap.size ∧ Kp (onlyB w.heap.size) wr x ∧ Blk x (w.heap.size) 45 [.slice p1 s1.left.length cap1, .int .i64 (N : Nat), .int .i64 (s1.err : Nat), .int .i64 (s1.pos : Nat)] ∧ Blk x (w.heap.size + 1) 45 [.slice none 0 0, .int .i64 0, .int .i64 0, .int .i64 0] := ⟨_, rfl, (Since.s4 bW2 (by omega)), by simp only [World.setCell, World.size_alloc, Array.size_modify, Nat.le_refl], (Kp.s4 kpW2 (Or.inl rfl)), (Blk.cast (Blk.set (Blk.set (Blk.set (Blk.set k_s 0 _) 1 _) 2 _) 3 _) rfl), (Blk.o4 k_r (by omega))⟩
    rw [hW3]
    clear hW3 k_s k_r
    have k_s := k2_s
    have k_r := k2_r
    clear k2_s k2_r
    go_upto_block 2 with fail
    have hbw : W1.heap.size ≤ W3.heap.size := by have := sW3; omega
    have HO2 := Lib.hid (HO.out.later kpW3 (show w.heap.size < W1.heap.size by omega))
    clear kpW3 HV
    have HTN := Lib.hid (building_nil testK W3 (fun k => W3.heap.size ≤ k ∧ (Value.slice none 0 0).ownBlock ≠ some k) W3.heap.size 32)
    have HRT : Hid (rMany N wAnd (rTest N) 14 [] s1 = (ts, s2)) := N2
    go_cut [5, 6, 7] from 15 to 36 (fun l5 t6 t7 wx => ∃ (p2 : Option Addr) (cap2 : Nat), Hid (IsSt B p2 cap2 s2.left) ∧ Hid (IsList testK wx (fun k => W3.heap.size ≤ k) 32 l5 ts) ∧ Hid (Building testsK wx (fun k => W1.heap.size ≤ k ∧ (Value.slice oa out.length oc).ownBlock ≠ some k) W1.heap.size 33 (.slice oa out.length oc) out) ∧ Hid (W3.heap.size ≤ wx.heap.size) ∧ Hid (Blk wx (w.heap.size) 45 [.slice p2 s2.left.length cap2, .int .i64 (N : Nat), .int .i64 (s2.err : Nat), .int .i64 (s2.pos : Nat)]) ∧ Hid (Blk wx (w.heap.size + 1) 45 [.slice none 0 0, .int .i64 0, .int .i64 0, .int .i64 0]) ∧ Hid (Since w wx) ∧ Hid (W1.heap.size ≤ wx.heap.size))
    case first =>
      go_wp2_with fail
      go_loopw [5, 6, 7] (fun l5 t6 t7 wr2 => ∃ (l : List TestP) (sg : St) (pq2 : Option Addr) (cq2 g : Nat), Hid (rMany N wAnd (rTest N) g l sg = (ts, s2)) ∧ Hid (l.length + g = 14) ∧ Hid (sg.err = 0 → l.length ≤ 12) ∧ Hid (IsSt B pq2 cq2 sg.left) ∧ Hid (SaneS sg) ∧ Hid (Building testK wr2 (fun k => W3.heap.size ≤ k ∧ (l5).ownBlock ≠ some k) W3.heap.size 32 (l5) l) ∧ Hid (Kp (onlyB w.heap.size) W3 wr2) ∧ Hid (Blk wr2 (w.heap.size) 45 [.slice pq2 sg.left.length cq2, .int .i64 (N : Nat), .int .i64 (sg.err : Nat), .int .i64 (sg.pos : Nat)]) ∧ Hid (Blk wr2 (w.heap.size + 1) 45 [.slice none 0 0, .int .i64 0, .int .i64 0, .int .i64 0]) ∧ Hid (Since w wr2) ∧ Hid (W1.heap.size ≤ wr2.heap.size)) (fun l5 _ _ _ => 14 - lenOf l5)
      case atStart => exact ⟨[], s1, p1, cap1, 14, HRT, Lib.hid rfl, Lib.hid (fun _ => Nat.zero_le _), HV1, HS1, HTN, Lib.hid (Kp.refl _ _), Lib.hid k_s, Lib.hid k_r, Lib.hid bW3, Lib.hid (by omega)⟩
      case round =>
        obtain ⟨wr2, hwr2⟩ : ∃ z, z = wr := ⟨_, rfl⟩
        subst hwr2
        clear HTN HRT HV1
        obtain ⟨l, sg, pq2, cq2, g, HM2, HN2, HL2, HV2, HSG, HT, HK2, J_s, J_r, Jb, Jz⟩ := hrel
        clear k_s k_r bW3 sW3
        have k_s := J_s.out
        have k_r := J_r.out
        have bwr2 := Jb.out
        have swr2 := Jz.out
        clear J_s J_r Jb Jz
        obtain ⟨la, lc, rfl⟩ := HT.out.len
        by_cases h3 : sg.err = 0
        rotate_left
        · have hm := HM2.out
          rw [many_err h3] at hm
          injection hm with e1 e2
          subst e1 e2
          have e0 : (((sg.err : Nat) : Int) == 0) = false := by simp [h3]
          have q_s0 := k_s.cell (i := 0) rfl
          have q_s1 := k_s.cell (i := 1) rfl
          have q_s2 := k_s.cell (i := 2) rfl
          have q_s3 := k_s.cell (i := 3) rfl
          have q_sf := k_s.free
          go_wp2
          clear q_s0 q_s1 q_s2 q_s3 q_sf
          go_meet
          exact ⟨pq2, cq2, HV2, Lib.hid (HT.out.done (fun k hk _ => hk.1) (fun k hk => hk)), Lib.hid (HO2.out.later HK2.out (show w.heap.size < W1.heap.size by omega)), Lib.hid HK2.out.size, Lib.hid k_s, Lib.hid k_r, Lib.hid bwr2, Lib.hid (by omega)⟩
        have hlen2 : l.length ≤ 12 := HL2.out h3
        obtain ⟨g, rfl⟩ : ∃ z, g = z + 1 := ⟨g - 1, by have := HN2.out; omega⟩
        have e0 : (((sg.err : Nat) : Int) == 0) = true := by simp [h3]
        obtain ⟨sl, h4⟩ : ∃ z, rLimit N sg l.length 12 = z := ⟨_, rfl⟩
        obtain ⟨⟨t, s3⟩, h5⟩ : ∃ z, rTest N sl = z := ⟨_, rfl⟩
        obtain ⟨kb, h6⟩ : ∃ z, rKey s3 wAnd = z := ⟨_, rfl⟩
        obtain ⟨s4, h7⟩ : ∃ z, rWord N s3 wAnd = z := ⟨_, rfl⟩
        have hm := HM2.out
        rw [many_step h3 h4 h5, h6, h7] at hm
        have HM3 := Lib.hid hm
        clear hm HM2
        have hsl : SaneS sl := HSG.out.suf (by rw [← h4]; exact limit_suf _ _ _)
        have hs3 : SaneS s3 := hsl.suf (by have := (test_fit (N := N) hsl).1; rw [h5] at this; exact this)
        have HL3 : Hid (kb = true → l.length + 1 ≤ 12) := Lib.hid fun e => many_len' (fun _ h => test_fit h) ⟨4, rfl⟩ HSG.out hlen2 h4 h5 (h6.trans e)
        have HS4 : Hid (SaneS s4) := Lib.hid (hs3.suf (by rw [← h7]; exact word_suf _ _))
        have N4 := Lib.hid h4; have N5 := Lib.hid h5; have N6 := Lib.hid h6; have N7 := Lib.hid h7
        clear h3 h4 h5 h6 h7 hsl hs3
        have q_s0 := k_s.cell (i := 0) rfl
        have q_s1 := k_s.cell (i := 1) rfl
        have q_s2 := k_s.cell (i := 2) rfl
        have q_s3 := k_s.cell (i := 3) rfl
        have q_sf := k_s.free
        go_wp2_with fail
        refine (rlimit_c N4.out B pq2 cq2 HV2.out _ 12 rfl rfl _ (HB.out.trans (bwr2.mono HB.out.size))).mono ?_; rintro e W4 ⟨⟨p3, cap3, rfl, hs_⟩, hb⟩
        clear q_s0 q_s1 q_s2 q_s3 q_sf
        have sW4 := Nat.le_trans swr2 hb.size
        have bW4 := (bwr2).call hb
        replace k_s := k_s.past hb
        replace k_r := k_r.past hb
        have kpW4 := (Kp.refl (onlyB w.heap.size) wr2).trans (Kp.of_below hb)
        clear hb bwr2 swr2
        have HV3 := Lib.hid hs_
        clear hs_
        clear e0
        have q_s0 := k_s.cell (i := 0) rfl
        have q_s1 := k_s.cell (i := 1) rfl
        have q_s2 := k_s.cell (i := 2) rfl
        have q_s3 := k_s.cell (i := 3) rfl
        have q_sf := k_s.free
        go_upto_region 7 with fail
        clear q_s0 q_s1 q_s2 q_s3 q_sf
        obtain ⟨W5, hW5, bW5, sW5, kpW5, k2_s, k2_r⟩ : ∃ x, ((((W4.setCell ⟨w.heap.size, 0, none⟩ (.slice p3 sl.left.length cap3)).setCell ⟨w.heap.size, 1, none⟩ (.int .i64 (N : Nat))).setCell ⟨w.heap.size, 2, none⟩ (.int .i64 (sl.err : Nat))).setCell ⟨w.heap.size, 3, none⟩ (.int .i64 (sl.pos : Nat))) = x ∧ Since w x ∧ W4.heap.size ≤ x.heap.size ∧ Kp (onlyB w.heap.size) wr2 x ∧ Blk x (w.heap.size) 45 [.slice p3 sl.left.length cap3, .int .i64 (N : Nat), .int .i64 (sl.err : Nat), .int .i64 (sl.pos : Nat)] ∧ Blk x (w.heap.size + 1) 45 [.slice none 0 0, .int .i64 0, .int .i64 0, .int .i64 0] := ⟨_, rfl, (Since.s4 bW4 (by omega)), by simp only [World.setCell, World.size_alloc, Array.size_modify, Nat.le_refl], (Kp.s4 kpW4 (Or.inl rfl)), (Blk.cast (Blk.set (Blk.set (Blk.set (Blk.set k_s 0 _) 1 _) 2 _) 3 _) rfl), (Blk.o4 k_r (by omega))⟩
        rw [hW5]
        clear hW5 k_s k_r
        have k_s := k2_s
        have k_r := k2_r
        clear k2_s k2_r
        have q_s0 := k_s.cell (i := 0) rfl
        have q_s1 := k_s.cell (i := 1) rfl
        have q_s2 := k_s.cell (i := 2) rfl
        have q_s3 := k_s.cell (i := 3) rfl
        have q_sf := k_s.free
        go_wp2_with fail
        refine (rtest_c N5.out B p3 cap3 HV3.out  _ (HB.out.trans (bW5.mono HB.out.size))).mono ?_; rintro e W6 ⟨⟨p4, cap4, rfl, hs_⟩, hb⟩
        clear q_s0 q_s1 q_s2 q_s3 q_sf
        have sW6 := Nat.le_trans sW5 hb.size
        have bW6 := (bW5).call hb
        replace k_s := k_s.past hb
        replace k_r := k_r.past hb
        have kpW6 := (kpW5).trans (Kp.of_below hb)
        clear hb bW5 sW5
        have HV4 := Lib.hid hs_
        clear hs_
        go_upto_region 8 with fail
        obtain ⟨W7, hW7, bW7, sW7, kpW7, k2_s, k2_r, k2_t, k2_u⟩ : ∃ x, ((W6.alloc (.cells #[.string ⟨t.attr.toArray⟩, .int .i64 (t.op : Nat), .string ⟨t.name.toArray⟩, .int .i64 (t.n : Nat), .int .i64 (t.pos : Nat)] 32)).alloc (.cells #[.slice p4 s3.left.length cap4, .int .i64 (N : Nat), .int .i64 (s3.err : Nat), .int .i64 (s3.pos : Nat)] 45)) = x ∧ Since w x ∧ W6.heap.size + 1 + 1 ≤ x.heap.size ∧ Kp (onlyB w.heap.size) wr2 x ∧ Blk x (w.heap.size) 45 [.slice p3 sl.left.length cap3, .int .i64 (N : Nat), .int .i64 (sl.err : Nat), .int .i64 (sl.pos : Nat)] ∧ Blk x (w.heap.size + 1) 45 [.slice none 0 0, .int .i64 0, .int .i64 0, .int .i64 0] ∧ Blk x (W6.heap.size) 32 [.string ⟨t.attr.toArray⟩, .int .i64 (t.op : Nat), .string ⟨t.name.toArray⟩, .int .i64 (t.n : Nat), .int .i64 (t.pos : Nat)] ∧ Blk x (W6.heap.size + 1) 45 [.slice p4 s3.left.length cap4, .int .i64 (N : Nat), .int .i64 (s3.err : Nat), .int .i64 (s3.pos : Nat)] := ⟨_, rfl, (Since.alloc (Since.alloc bW6 _) _), by simp only [World.setCell, World.size_alloc, Array.size_modify, Nat.le_refl], (Kp.alloc (Kp.alloc kpW6 _) _), (Blk.alloc (Blk.alloc k_s _) _), (Blk.alloc (Blk.alloc k_r _) _), (Blk.alloc (Blk.new' _ _ _ (rfl)) _), (Blk.new' _ _ _ (by simp only [World.size_alloc]))⟩
        rw [hW7]
        clear hW7 k_s k_r
        have k_s := k2_s
        have k_r := k2_r
        have k_t := k2_t
        have k_u := k2_u
        clear k2_s k2_r k2_t k2_u
        have q_u0 := k_u.cell (i := 0) rfl
        have q_u1 := k_u.cell (i := 1) rfl
        have q_u2 := k_u.cell (i := 2) rfl
        have q_u3 := k_u.cell (i := 3) rfl
        have q_uf := k_u.free
        have q_s0 := k_s.cell (i := 0) rfl
        have q_s1 := k_s.cell (i := 1) rfl
        have q_s2 := k_s.cell (i := 2) rfl
        have q_s3 := k_s.cell (i := 3) rfl
        have q_sf := k_s.free
        go_upto_region 9 with fail
        clear q_u0 q_u1 q_u2 q_u3 q_uf q_s0 q_s1 q_s2 q_s3 q_sf
        obtain ⟨W8, hW8, bW8, sW8, kpW8, k2_s, k2_r, k2_t, k2_u⟩ : ∃ x, ((((W7.setCell ⟨w.heap.size, 0, none⟩ (.slice p4 s3.left.length cap4)).setCell ⟨w.heap.size, 1, none⟩ (.int .i64 (N : Nat))).setCell ⟨w.heap.size, 2, none⟩ (.int .i64 (s3.err : Nat))).setCell ⟨w.heap.size, 3, none⟩ (.int .i64 (s3.pos : Nat))) = x ∧ Since w x ∧ W7.heap.size ≤ x.heap.size ∧ Kp (onlyB w.heap.size) wr2 x ∧ Blk x (w.heap.size) 45 [.slice p4 s3.left.length cap4, .int .i64 (N : Nat), .int .i64 (s3.err : Nat), .int .i64 (s3.pos : Nat)] ∧ Blk x (w.heap.size + 1) 45 [.slice none 0 0, .int .i64 0, .int .i64 0, .int .i64 0] ∧ Blk x (W6.heap.size) 32 [.string ⟨t.attr.toArray⟩, .int .i64 (t.op : Nat), .string ⟨t.name.toArray⟩, .int .i64 (t.n : Nat), .int .i64 (t.pos : Nat)] ∧ Blk x (W6.heap.size + 1) 45 [.slice p4 s3.left.length cap4, .int .i64 (N : Nat), .int .i64 (s3.err : Nat), .int .i64 (s3.pos : Nat)] := ⟨_, rfl, (Since.s4 bW7 (by omega)), by simp only [World.setCell, World.size_alloc, Array.size_modify, Nat.le_refl], (Kp.s4 kpW7 (Or.inl rfl)), (Blk.cast (Blk.set (Blk.set (Blk.set (Blk.set k_s 0 _) 1 _) 2 _) 3 _) rfl), (Blk.o4 k_r (by omega)), (Blk.o4 k_t (by omega)), (Blk.o4 k_u (by omega))⟩
        rw [hW8]
        clear hW8 k_s k_r k_t k_u
        have k_s := k2_s
        have k_r := k2_r
        have k_t := k2_t
        have k_u := k2_u
        clear k2_s k2_r k2_t k2_u
        have ht2 := HT.out.later kpW8 (show w.heap.size < W3.heap.size by omega)
        obtain ⟨css, hcon, hall⟩ := ht2
        have hown : ∀ k, (Value.slice la l.length lc).ownBlock = some k → W3.heap.size ≤ k ∧ k < W8.heap.size := fun k hk => own_lt hcon.own hk
        obtain ⟨i0, hi, hz0, hz1, hz2⟩ := info_parts' listTest_info
        have hc : testK.is W8 (fun k => W8.heap.size ≤ k) [.string ⟨t.attr.toArray⟩, .int .i64 (t.op : Nat), .string ⟨t.name.toArray⟩, .int .i64 (t.n : Nat), .int .i64 (t.pos : Nat)] t := rfl
        have KW := Lib.hid (HK2.out.trans kpW8)
        have HI := Lib.hid hi; have HZ0 := Lib.hid hz0; have HZ1 := Lib.hid hz1; have HZ2 := Lib.hid hz2; have HCON := Lib.hid hcon; have HALL := Lib.hid hall; have HOW := Lib.hid hown; have HC := Lib.hid hc
        have HXL : Hid (css.length + 1 ≤ 1000000) := Lib.hid (by rw [All2.length HALL.out]; omega)
        have hbs : W3.heap.size ≤ W8.heap.size := KW.out.size
        clear hi hz0 hz1 hz2 hcon hall hown hc kpW8
        have q_t0 := k_t.cell (i := 0) rfl
        have q_t1 := k_t.cell (i := 1) rfl
        have q_t2 := k_t.cell (i := 2) rfl
        have q_t3 := k_t.cell (i := 3) rfl
        have q_t4 := k_t.cell (i := 4) rfl
        have q_tf := k_t.free
        go_upto_region 10 with (refine wpList_append_con (t := 33) (T := 32) (m := testK.size) (B := W3.heap.size) Tryd.underlying33 HI.out HZ0.out HZ1.out HZ2.out rfl (by decide) (by decide) rfl (.tmp 28) (.tmp 30) rfl _ css [.string ⟨t.attr.toArray⟩, .int .i64 (t.op : Nat), .string ⟨t.name.toArray⟩, .int .i64 (t.n : Nat), .int .i64 (t.pos : Nat)] rfl (HCON.out.of_block (fun k hk => Below.heap_alloc _ _ _ (HOW.out k hk).2)) W8.heap.size rfl (Blk.new W8 32 [.string ⟨t.attr.toArray⟩, .int .i64 (t.op : Nat), .string ⟨t.name.toArray⟩, .int .i64 (t.n : Nat), .int .i64 (t.pos : Nat)]) (testK.len HC.out) (testK.one HC.out) HXL.out (by rw [World.size_alloc]; omega) ?_; intro v' Wa hcon' hg hat hone; have BN := Lib.hid (building_snoc HALL.out HC.out hbs (fun k hk => (HOW.out k hk).2) hcon' hg hat); have KN := Lib.hid ((KW.out.alloc (.cells ([.string ⟨t.attr.toArray⟩, .int .i64 (t.op : Nat), .string ⟨t.name.toArray⟩, .int .i64 (t.n : Nat), .int .i64 (t.pos : Nat)] : List Value).toArray 32)).grown hg (fun k hk => Or.inr (HOW.out k hk).1)); have FS := Lib.hid (app_facts hg (fun k hk => (HOW.out k hk).1) k_s (show w.heap.size < W3.heap.size by omega)); have FR := Lib.hid (app_facts hg (fun k hk => (HOW.out k hk).1) k_r (show w.heap.size + 1 < W3.heap.size by omega)); have FB := Lib.hid (Below.grown (Below.alloc bW8 (show w.heap.size ≤ W8.heap.size from bW8.size) (.cells ([.string ⟨t.attr.toArray⟩, .int .i64 (t.op : Nat), .string ⟨t.name.toArray⟩, .int .i64 (t.n : Nat), .int .i64 (t.pos : Nat)] : List Value).toArray 32)) hg (by rw [World.size_alloc]; have := bW8.size; omega) (fun k hk => by have := (HOW.out k hk).1; omega)); have FZ : Hid (W8.heap.size + 1 ≤ Wa.heap.size) := Lib.hid (by have := hg.size; rw [World.size_alloc] at this; exact this); clear hcon' hg hat)
        clear q_t0 q_t1 q_t2 q_t3 q_t4 q_tf
        clear k_s k_r k_t k_u
        have k_s := FS.out
        have k_r := FR.out
        have bWa : Since w Wa := FB.out
        have sWa := FZ.out
        clear bW8 FB FZ FS FR
        obtain ⟨va, vc, hv'⟩ := BN.out.len
        rw [List.length_append, List.length_singleton] at hv'
        subst hv'
        have q_s0 := k_s.cell (i := 0) rfl
        have q_s1 := k_s.cell (i := 1) rfl
        have q_s2 := k_s.cell (i := 2) rfl
        have q_s3 := k_s.cell (i := 3) rfl
        have q_sf := k_s.free
        go_wp2_with fail
        refine (rkey_c N6.out B p4 cap4 HV4.out _ (HB.out.trans (bWa.mono HB.out.size))).mono ?_; rintro e W9 ⟨rfl, hb⟩
        clear q_s0 q_s1 q_s2 q_s3 q_sf
        have sW9 := Nat.le_trans sWa hb.size
        have bW9 := (bWa).call hb
        replace k_s := k_s.past hb
        replace k_r := k_r.past hb
        have kpW9 := (Kp.refl (onlyB w.heap.size) Wa).trans (Kp.of_below hb)
        clear hb bWa sWa
        cases kb
        · have hm := HM3.out
          rw [if_neg (by simp)] at hm
          injection hm with e1 e2
          subst e1 e2
          have BN2 := Lib.hid (BN.out.later kpW9 (show w.heap.size < W3.heap.size by omega))
          have KN2 := Lib.hid (KN.out.trans kpW9)
          clear kpW9 BN KN
          go_wp2
          go_meet
          exact ⟨p4, cap4, HV4, Lib.hid (BN2.out.done (fun k hk _ => hk.1) (fun k hk => hk)), Lib.hid (HO2.out.later KN2.out (show w.heap.size < W1.heap.size by omega)), Lib.hid KN2.out.size, Lib.hid k_s, Lib.hid k_r, Lib.hid bW9, Lib.hid (by omega)⟩
        · have hm := HM3.out
          rw [if_pos rfl] at hm
          have HM4 := Lib.hid hm
          clear hm HM3
          have hl3 := HL3.out rfl
          have q_s0 := k_s.cell (i := 0) rfl
          have q_s1 := k_s.cell (i := 1) rfl
          have q_s2 := k_s.cell (i := 2) rfl
          have q_s3 := k_s.cell (i := 3) rfl
          have q_sf := k_s.free
          go_wp2_with fail
          refine (rword_c N7.out B p4 cap4 HV4.out  _ (HB.out.trans (bW9.mono HB.out.size))).mono ?_; rintro e W10 ⟨⟨p5, cap5, rfl, hs_⟩, hb⟩
          clear q_s0 q_s1 q_s2 q_s3 q_sf
          have sW10 := Nat.le_trans sW9 hb.size
          have bW10 := (bW9).call hb
          replace k_s := k_s.past hb
          replace k_r := k_r.past hb
          have kpW10 := (kpW9).trans (Kp.of_below hb)
          clear hb bW9 sW9
          have HV5 := Lib.hid hs_
          clear hs_
          have q_s0 := k_s.cell (i := 0) rfl
          have q_s1 := k_s.cell (i := 1) rfl
          have q_s2 := k_s.cell (i := 2) rfl
          have q_s3 := k_s.cell (i := 3) rfl
          have q_sf := k_s.free
          go_upto_region 5 with fail
          clear q_s0 q_s1 q_s2 q_s3 q_sf
          obtain ⟨W11, hW11, bW11, sW11, kpW11, k2_s, k2_r⟩ : ∃ x, ((((W10.setCell ⟨w.heap.size, 0, none⟩ (.slice p5 s4.left.length cap5)).setCell ⟨w.heap.size, 1, none⟩ (.int .i64 (N : Nat))).setCell ⟨w.heap.size, 2, none⟩ (.int .i64 (s4.err : Nat))).setCell ⟨w.heap.size, 3, none⟩ (.int .i64 (s4.pos : Nat))) = x ∧ Since w x ∧ W10.heap.size ≤ x.heap.size ∧ Kp (onlyB w.heap.size) Wa x ∧ Blk x (w.heap.size) 45 [.slice p5 s4.left.length cap5, .int .i64 (N : Nat), .int .i64 (s4.err : Nat), .int .i64 (s4.pos : Nat)] ∧ Blk x (w.heap.size + 1) 45 [.slice none 0 0, .int .i64 0, .int .i64 0, .int .i64 0] := ⟨_, rfl, (Since.s4 bW10 (by omega)), by simp only [World.setCell, World.size_alloc, Array.size_modify, Nat.le_refl], (Kp.s4 kpW10 (Or.inl rfl)), (Blk.cast (Blk.set (Blk.set (Blk.set (Blk.set k_s 0 _) 1 _) 2 _) 3 _) rfl), (Blk.o4 k_r (by omega))⟩
          rw [hW11]
          clear hW11 k_s k_r
          have k_s := k2_s
          have k_r := k2_r
          clear k2_s k2_r
          have BN2 := Lib.hid (BN.out.later kpW11 (show w.heap.size < W3.heap.size by omega))
          have KN2 := Lib.hid (KN.out.trans kpW11)
          clear kpW11 BN KN
          go_wp2
          refine ⟨⟨l ++ [t], s4, p5, cap5, g, HM4, Lib.hid (by have := HN2.out; rw [List.length_append, List.length_singleton]; omega), Lib.hid (fun _ => by rw [List.length_append, List.length_singleton]; exact hl3), HV5, HS4, BN2, KN2, Lib.hid k_s, Lib.hid k_r, Lib.hid bW11, Lib.hid (by omega)⟩, ?_⟩
          have := HN2.out
          simp only [lenOf, List.length_append, List.length_singleton]; omega
    case rest =>
    obtain ⟨p2, cap2, HV2, HLT, HO3, HZ3, J_s, J_r, Jb, Jz⟩ := hcut
    obtain ⟨Wb, hwc⟩ : ∃ z, z = wc := ⟨_, rfl⟩
    subst hwc
    clear k_s k_r bW3 sW3
    have k_s := J_s.out
    have k_r := J_r.out
    have bWb := Jb.out
    have sWb := Jz.out
    clear J_s J_r Jb Jz
    have hz3 := HZ3.out
    obtain ⟨kb, h6⟩ : ∃ z, rKey s2 wOr = z := ⟨_, rfl⟩
    obtain ⟨s4, h7⟩ : ∃ z, rWord N s2 wOr = z := ⟨_, rfl⟩
    have hm := HM.out
    rw [many_step H0.out N1.out N2.out, h6, h7] at hm
    have HM3 := Lib.hid hm
    clear hm HM
    have HL3 : Hid (kb = true → out.length + 1 ≤ 12) := Lib.hid fun e => many_len' (fun _ h => tests_fit h) ⟨4, rfl⟩ HS.out hlen N1.out N2.out (h6.trans e)
    have HS4 : Hid (SaneS s4) := Lib.hid (HS2.out.suf (by rw [← h7]; exact word_suf _ _))
    have N6 := Lib.hid h6; have N7 := Lib.hid h7
    clear h6 h7
    obtain ⟨la, lc, rfl⟩ := HLT.out.len
    obtain ⟨css, hcon, hall⟩ := HO3.out
    have hown : ∀ k, (Value.slice oa out.length oc).ownBlock = some k → W1.heap.size ≤ k ∧ k < W3.heap.size := fun k hk => ⟨(own_lt hcon.own hk).1, (HO2.out.lt hk).2⟩
    obtain ⟨i0, hi, hz0, hz1, hz2⟩ := info_parts' listTests_info
    have hc : testsK.is Wb (fun k => W3.heap.size ≤ k) [.slice la ts.length lc] ts := ⟨_, rfl, HLT.out⟩
    have HI := Lib.hid hi; have HZ0 := Lib.hid hz0; have HZ1 := Lib.hid hz1; have HZ2 := Lib.hid hz2; have HCON := Lib.hid hcon; have HALL := Lib.hid hall; have HOW := Lib.hid hown; have HC := Lib.hid hc
    have HXL : Hid (css.length + 1 ≤ 1000000) := Lib.hid (by rw [All2.length HALL.out]; omega)
    clear hi hz0 hz1 hz2 hcon hall hown hc HO2 HO3 HZ3
    go_upto_region 13 with (refine wpList_append_con (t := 34) (T := 33) (m := testsK.size) (B := W1.heap.size) Tryd.underlying34 HI.out HZ0.out HZ1.out HZ2.out rfl (by decide) (by decide) rfl (.tmp 37) (.tmp 39) rfl _ css [.slice la ts.length lc] rfl (HCON.out.of_block (fun k hk => Below.heap_alloc _ _ _ (by have := (HOW.out k hk).2; omega))) Wb.heap.size rfl (Blk.new Wb 33 [.slice la ts.length lc]) (testsK.len HC.out) (testsK.one HC.out) HXL.out (by rw [World.size_alloc]; omega) ?_; intro v' Wa hcon' hg hat hone; have BN := Lib.hid (building_snoc HALL.out HC.out hbw (fun k hk => (HOW.out k hk).2) hcon' hg hat); have FS := Lib.hid (app_facts hg (fun k hk => (HOW.out k hk).1) k_s (show w.heap.size < W1.heap.size by omega)); have FR := Lib.hid (app_facts hg (fun k hk => (HOW.out k hk).1) k_r (show w.heap.size + 1 < W1.heap.size by omega)); have FB := Lib.hid (Below.grown (Below.alloc bWb (show w.heap.size ≤ Wb.heap.size from bWb.size) (.cells ([.slice la ts.length lc] : List Value).toArray 33)) hg (by rw [World.size_alloc]; have := bWb.size; omega) (fun k hk => by have := (HOW.out k hk).1; omega)); have FZ : Hid (Wb.heap.size + 1 ≤ Wa.heap.size) := Lib.hid (by have := hg.size; rw [World.size_alloc] at this; exact this); clear hcon' hg hat)
    clear k_s k_r
    have k_s := FS.out
    have k_r := FR.out
    have bWa : Since w Wa := FB.out
    have sWa := FZ.out
    clear bWb FB FZ FS FR
    obtain ⟨va, vc, hv'⟩ := BN.out.len
    rw [List.length_append, List.length_singleton] at hv'
    subst hv'
    have q_s0 := k_s.cell (i := 0) rfl
    have q_s1 := k_s.cell (i := 1) rfl
    have q_s2 := k_s.cell (i := 2) rfl
    have q_s3 := k_s.cell (i := 3) rfl
    have q_sf := k_s.free
    go_wp2_with fail
    refine (rkey_c N6.out B p2 cap2 HV2.out _ (HB.out.trans (bWa.mono HB.out.size))).mono ?_; rintro e W4 ⟨rfl, hb⟩
    clear q_s0 q_s1 q_s2 q_s3 q_sf
    have sW4 := Nat.le_trans sWa hb.size
    have bW4 := (bWa).call hb
    replace k_s := k_s.past hb
    replace k_r := k_r.past hb
    have kpW4 := (Kp.refl (onlyB w.heap.size) Wa).trans (Kp.of_below hb)
    clear hb bWa sWa
    cases kb
    · have hm := HM3.out
      rw [if_neg (by simp)] at hm
      injection hm with e1 e2
      subst e1 e2
      have HLS0 := Lib.hid (BN.out.later kpW4 (show w.heap.size < W1.heap.size by omega))
      clear kpW4 BN
      go_upto_region 15 with fail
      have hls := HLS0.out.done (F' := fun k => W1.heap.size ≤ k) (fun k hk _ => hk.1) (fun k hk => hk)
      have HLS := Lib.hid hls
      clear hls
      refine wp_region_any (by kernel_rfl) ?_
      refine Foyer.Round.any_of_held (S := fun W => Blk W (w.heap.size) 45 [.slice p2 s2.left.length cap2, .int .i64 (N : Nat), .int .i64 (s2.err : Nat), .int .i64 (s2.pos : Nat)]) (N := [3]) _ _ _ _ ?_
      change Foyer.Round.held _ _ _ _ _ _ _ _ _ W4.drew
      obtain ⟨W5, hW5⟩ : ∃ x, W4.drew = x := ⟨_, rfl⟩
      have bW5 : Since w W5 := by rw [← hW5]; exact Below.drew bW4
      have sW5 := sW4
      rw [show W4.heap.size = W5.heap.size from by rw [← hW5]; rfl] at sW5
      replace k_s : Blk W5 (w.heap.size) 45 [.slice p2 s2.left.length cap2, .int .i64 (N : Nat), .int .i64 (s2.err : Nat), .int .i64 (s2.pos : Nat)] := by rw [← hW5]; exact k_s
      replace k_r : Blk W5 (w.heap.size + 1) 45 [.slice none 0 0, .int .i64 0, .int .i64 0, .int .i64 0] := by rw [← hW5]; exact k_r
      have kpW5 : Kp (fun k => k < W1.heap.size) W4 W5 := by rw [← hW5]; exact Kp.drew (Kp.refl (fun k => k < W1.heap.size) W4)
      rw [hW5]
      clear hW5 bW4 sW4
      refine Foyer.Round.held_take [3] (i := 0) (v := .slice va (out.length + 1) vc) rfl (by kernel_rfl) (fun _ _ _ h => h) (Or.inl ⟨by rfl, fun w' hS => by go_simp⟩) k_s ?_
      try simp only [Act.put, List.setIfInBounds_toArray, List.set_cons_zero, List.set_cons_succ]
      refine Foyer.Round.held_take [3] (i := 1) (v := .agg #[.slice p2 s2.left.length cap2, .int .i64 (N : Nat), .int .i64 (s2.err : Nat), .int .i64 (s2.pos : Nat)]) rfl (by kernel_rfl) (fun _ _ _ h => h) (Or.inl ⟨by rfl, fun w' hS => by have r_s0 := (show Blk _ _ _ _ from hS).cell (i := 0) rfl; have r_s1 := (show Blk _ _ _ _ from hS).cell (i := 1) rfl; have r_s2 := (show Blk _ _ _ _ from hS).cell (i := 2) rfl; have r_s3 := (show Blk _ _ _ _ from hS).cell (i := 3) rfl; go_simp⟩) k_s ?_
      try simp only [Act.put, List.setIfInBounds_toArray, List.set_cons_zero, List.set_cons_succ]
      refine Foyer.Round.held_one (i := 2) rfl (by kernel_rfl) (fun K hK => ?_)
      go_simp
      refine hK.out _ _ (fun _ => k_s) ?_
      clear hK K
      try simp only [Act.put, List.setIfInBounds_toArray, List.set_cons_zero, List.set_cons_succ]
      have q_r0 := k_r.cell (i := 0) rfl
      have q_r1 := k_r.cell (i := 1) rfl
      have q_r2 := k_r.cell (i := 2) rfl
      have q_r3 := k_r.cell (i := 3) rfl
      have q_rf := k_r.free
      refine Foyer.Round.held_one (i := 3) rfl (by kernel_rfl) (fun K hK => ?_)
      go_simp
      clear q_r0 q_r1 q_r2 q_r3 q_rf
      obtain ⟨W6, hW6, bW6, sW6, kpW6, k2_s, k2_r⟩ : ∃ x, ((((W5.setCell ⟨w.heap.size + 1, 0, none⟩ (.slice p2 s2.left.length cap2)).setCell ⟨w.heap.size + 1, 1, none⟩ (.int .i64 (N : Nat))).setCell ⟨w.heap.size + 1, 2, none⟩ (.int .i64 (s2.err : Nat))).setCell ⟨w.heap.size + 1, 3, none⟩ (.int .i64 (s2.pos : Nat))) = x ∧ Since w x ∧ W5.heap.size ≤ x.heap.size ∧ Kp (fun k => k < W1.heap.size) W4 x ∧ Blk x (w.heap.size) 45 [.slice p2 s2.left.length cap2, .int .i64 (N : Nat), .int .i64 (s2.err : Nat), .int .i64 (s2.pos : Nat)] ∧ Blk x (w.heap.size + 1) 45 [.slice p2 s2.left.length cap2, .int .i64 (N : Nat), .int .i64 (s2.err : Nat), .int .i64 (s2.pos : Nat)] := ⟨_, rfl, (Since.s4 bW5 (by omega)), by simp only [World.setCell, World.size_alloc, Array.size_modify, Nat.le_refl], (Kp.s4 kpW5 (Or.inl (show w.heap.size + 1 < W1.heap.size by omega))), (Blk.o4 k_s (by omega)), (Blk.cast (Blk.set (Blk.set (Blk.set (Blk.set k_r 0 _) 1 _) 2 _) 3 _) rfl)⟩
      rw [hW6]
      clear hW6 k_s k_r
      have k_s := k2_s
      have k_r := k2_r
      clear k2_s k2_r
      refine hK.out _ _ (fun _ => k_s) ?_
      clear hK K
      try simp only [Act.put, List.setIfInBounds_toArray, List.set_cons_zero, List.set_cons_succ]
      refine Foyer.Round.held_done (by kernel_rfl) ?_ _
      go_wp2
      exact bodyPost_ret (results_tmp_cell rfl _ _ (w.heap.size + 1) _ _ _ rfl rfl k_r.range Tryd.underlying45 rfl (by kernel_rfl)) rfl ⟨⟨_, p2, cap2, rfl, HV2.out, (HLS.out.kept (fun k hk hlt => kpW6.block k hlt (by omega))).mono (fun k hk _ => by omega)⟩, bW6⟩
    · have hm := HM3.out
      rw [if_pos rfl] at hm
      have HM4 := Lib.hid hm
      clear hm HM3
      have hl3 := HL3.out rfl
      have q_s0 := k_s.cell (i := 0) rfl
      have q_s1 := k_s.cell (i := 1) rfl
      have q_s2 := k_s.cell (i := 2) rfl
      have q_s3 := k_s.cell (i := 3) rfl
      have q_sf := k_s.free
      go_wp2_with fail
      refine (rword_c N7.out B p2 cap2 HV2.out  _ (HB.out.trans (bW4.mono HB.out.size))).mono ?_; rintro e W5 ⟨⟨p5, cap5, rfl, hs_⟩, hb⟩
      clear q_s0 q_s1 q_s2 q_s3 q_sf
      have sW5 := Nat.le_trans sW4 hb.size
      have bW5 := (bW4).call hb
      replace k_s := k_s.past hb
      replace k_r := k_r.past hb
      have kpW5 := (kpW4).trans (Kp.of_below hb)
      clear hb bW4 sW4
      have HV5 := Lib.hid hs_
      clear hs_
      have q_s0 := k_s.cell (i := 0) rfl
      have q_s1 := k_s.cell (i := 1) rfl
      have q_s2 := k_s.cell (i := 2) rfl
      have q_s3 := k_s.cell (i := 3) rfl
      have q_sf := k_s.free
      go_upto_region 2 with fail
      clear q_s0 q_s1 q_s2 q_s3 q_sf
      obtain ⟨W6, hW6, bW6, sW6, kpW6, k2_s, k2_r⟩ : ∃ x, ((((W5.setCell ⟨w.heap.size, 0, none⟩ (.slice p5 s4.left.length cap5)).setCell ⟨w.heap.size, 1, none⟩ (.int .i64 (N : Nat))).setCell ⟨w.heap.size, 2, none⟩ (.int .i64 (s4.err : Nat))).setCell ⟨w.heap.size, 3, none⟩ (.int .i64 (s4.pos : Nat))) = x ∧ Since w x ∧ W5.heap.size ≤ x.heap.size ∧ Kp (onlyB w.heap.size) Wa x ∧ Blk x (w.heap.size) 45 [.slice p5 s4.left.length cap5, .int .i64 (N : Nat), .int .i64 (s4.err : Nat), .int .i64 (s4.pos : Nat)] ∧ Blk x (w.heap.size + 1) 45 [.slice none 0 0, .int .i64 0, .int .i64 0, .int .i64 0] := ⟨_, rfl, (Since.s4 bW5 (by omega)), by simp only [World.setCell, World.size_alloc, Array.size_modify, Nat.le_refl], (Kp.s4 kpW5 (Or.inl rfl)), (Blk.cast (Blk.set (Blk.set (Blk.set (Blk.set k_s 0 _) 1 _) 2 _) 3 _) rfl), (Blk.o4 k_r (by omega))⟩
      rw [hW6]
      clear hW6 k_s k_r
      have k_s := k2_s
      have k_r := k2_r
      clear k2_s k2_r
      have BN2 := Lib.hid (BN.out.later kpW6 (show w.heap.size < W1.heap.size by omega))
      clear kpW6 BN
      go_wp2
      refine ⟨⟨out ++ [ts], s4, p5, cap5, f, HM4, Lib.hid (by have := HN.out; rw [List.length_append, List.length_singleton]; omega), Lib.hid (fun _ => by rw [List.length_append, List.length_singleton]; exact hl3), HV5, HS4, BN2, Lib.hid k_s, Lib.hid k_r, Lib.hid bW6, Lib.hid (by omega)⟩, ?_⟩
      have := HN.out
      simp only [lenOf, List.length_append, List.length_singleton]; omega
end Go.Proofs.YtlfjdohjfmfcdabDoor
