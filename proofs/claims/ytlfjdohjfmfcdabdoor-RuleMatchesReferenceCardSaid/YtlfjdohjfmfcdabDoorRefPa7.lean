/-
  The document's own Parse of rules.
-/
import Derived.Test.YtlfjdohjfmfcdabDoorRefIt7
import Derived.Test.YtlfjdohjfmfcdabDoorRefLex
import Derived.Test.YtlfjdohjfmfcdabDoorWalkParse
namespace Go.Proofs.YtlfjdohjfmfcdabDoor
open Go.RowKit Go.Sort Foyer.Rule
set_option linter.unusedSimpArgs false

theorem items_step {N : Nat} {s s1 s2 : St} {x : ItemP} {f : Nat} {l : List ItemP} (h : s.err = 0) (h0 : s.left ≠ []) (h1 : rLimit N s l.length 200 = s1) (h2 : rItem N s1 = (x, s2)) : rItems N (f + 1) l s = rItems N f (l ++ [x]) s2 := by
  rw [rItems, if_pos ⟨h, h0⟩, h1, h2]
theorem items_len {N : Nat} {s s1 s2 : St} {x : ItemP} {l : List ItemP} (hs : SaneS s) (h0 : s.left ≠ []) (hl : l.length ≤ 200) (h1 : rLimit N s l.length 200 = s1) (h2 : rItem N s1 = (x, s2)) (he : s2.err = 0) : l.length + 1 ≤ 200 := by
  by_cases e : l.length = 200
  · exfalso
    have hb : s1.err ≠ 0 := by rw [← h1]; unfold rLimit; rw [if_pos ⟨e, h0⟩]; exact rFail_bad (by decide)
    have hs1 : SaneS s1 := hs.suf (by rw [← h1]; exact limit_suf _ _ _)
    have := ((item_fit (N := N) hs1).2.1 hb).1
    rw [h2] at this
    exact hb (this.symm.trans he)
  · omega
theorem Building.shift {α : Type} {K : Kind α} {W W' : World} {B : Nat} {T : TypeId} {v : Value} {xs : List α} (h : Building K W (fun k => B ≤ k ∧ v.ownBlock ≠ some k) B T v xs) (k : Kp (fun k => k < B) W W') : Building K W' (fun k => B ≤ k ∧ v.ownBlock ≠ some k) B T v xs :=
  h.kept (fun j hj => k.block j (h.lt hj).2 (fun e => by have h1 := (h.lt hj).1; have e' : j < B := e; omega)) (fun j hj hlt => k.block j hlt (fun e => by have h1 := hj.1; have e' : j < B := e; omega)) (fun _ h _ => h)
theorem results_r7 (tmps : Array Value) (W : World) (hb : Nat) (c0 : Value) (h : Blk W hb 25 [c0]) (h2 : tmps.getD 2 undef = .pointer (some ⟨hb, 0, none⟩)) :
    (results Tryd.f6 tmps).run Tryd.prog W = .ok (.tuple #[.agg #[c0], tmps.getD 3 undef, tmps.getD 4 undef]) W := by
  have e0 := h.cell (i := 0) rfl
  have h2' : tmps[2]?.getD undef = .pointer (some ⟨hb, 0, none⟩) := by simpa using h2
  simp [results, Tryd.results6, h2', e0, go_sem]
set_option maxRecDepth 100000 in
set_option maxHeartbeats 8000000 in
theorem rparse_any (t : ByteArray) (ht : t.size ≤ 1000000) (xs : List ItemP) (E : Nat) (O : Int) (h : parseAll t.data.toList = (xs, E, O)) (w : World) :
    Calls Tryd.prog 6 #[.string t] w fun e w' => (∃ v, e = .returned (.tuple #[.agg #[v], .int .i64 (E : Nat), .int .i64 O]) ∧ IsList itemK w' (fun k => w.heap.size ≤ k) 38 v xs) ∧ Below w.heap.size w w' := by
  rw [← rAll_eq] at h
  have hsz : t.data.toList.length = t.size := by rw [Array.length_toList]; rfl
  unfold rAll at h
  rw [hsz] at h
  have hsh : ∀ u ∈ (Foyer.Lexer.lexAll t.data.toList).1, u.text.length ≤ 1000000 := fun u hu => Nat.le_trans (lexAll_short _ u hu).1 (by decide)
  have hsa := lexAll_sane t.data.toList
  have hlx := fun w => rlex_any t ht w
  unfold LexPost at hlx
  obtain ⟨N, hN⟩ : ∃ z, t.size = z := ⟨_, rfl⟩
  obtain ⟨⟨ts, F, P⟩, hx⟩ : ∃ z, Foyer.Lexer.lexAll t.data.toList = z := ⟨_, rfl⟩
  rw [hx] at h hsh hsa
  simp only [hx] at hlx
  rw [hN] at h
  dsimp only at h hsh hsa
  have H := Lib.hid h; have HLX := Lib.hid hlx; have HSH := Lib.hid hsh; have HSA := Lib.hid hsa; have HNN := Lib.hid hN
  clear h hlx hsh hsa hx hsz ht hN
  go_enter Tryd.func6, Tryd.ntmps6
  go_upto_region 1 with fail
  obtain ⟨W1, hW1, bW1, sW1, k2_t⟩ : ∃ x, (w.alloc (.cells #[.slice none 0 0] 25)) = x ∧ Since w x ∧ w.heap.size + 1 ≤ x.heap.size ∧ Blk x (w.heap.size) 25 [.slice none 0 0] := ⟨_, rfl, (Since.alloc (Since.refl w) _), by simp only [World.setCell, World.size_alloc, Array.size_modify, Nat.le_refl], (Blk.new' _ _ _ (rfl))⟩
  rw [hW1]
  clear hW1
  have k_t := k2_t
  clear k2_t
  go_wp2_with fail
  refine (HLX.out _).mono ?_; rintro e B ⟨pl, cl, rfl, hr, hc, ⟨hm, hn⟩, hb⟩
  have sB := Nat.le_trans sW1 hb.size
  have bB := (bW1).call hb
  replace k_t := k_t.past hb
  clear hb bW1 sW1
  have hv : IsSt B pl cl ts := ⟨hr, hc, hm, hn, HSH.out⟩
  have HV := Lib.hid hv
  clear hr hc hm hn hv
  have HB := Lib.hid (Below.refl B.heap.size B)
  by_cases hF : F = 0
  rotate_left
  · have h := H.out
    rw [if_neg hF] at h
    injection h with e1 e2
    injection e2 with e2 e3
    subst e1 e2 e3
    have hne : (((F : Nat) : Int) != 0) = true := by simp [hF]
    have q_t0 := k_t.cell (i := 0) rfl
    have q_tf := k_t.free
    go_wp2
    clear q_t0 q_tf
    obtain ⟨W2, hW2, bW2, sW2, k2_t⟩ : ∃ x, (B.setCell ⟨w.heap.size, 0, none⟩ (.slice none 0 0)) = x ∧ Since w x ∧ B.heap.size ≤ x.heap.size ∧ Blk x (w.heap.size) 25 [.slice none 0 0] := ⟨_, rfl, (Since.s1 bB (by omega)), by simp only [World.setCell, World.size_alloc, Array.size_modify, Nat.le_refl], (Blk.cast (Blk.set k_t 0 _) rfl)⟩
    rw [hW2]
    clear hW2 k_t
    have k_t := k2_t
    clear k2_t
    exact bodyPost_ret (results_r7 _ _ _ _ k_t rfl) rfl ⟨⟨_, rfl, nil_is _ _ _ _⟩, bW2⟩
  · skip
    subst hF
    have h := H.out
    rw [if_pos rfl] at h
    clear H
    obtain ⟨⟨fin, sf⟩, hz⟩ : ∃ z, rItems N 201 [] ⟨ts, 0, 0⟩ = z := ⟨_, rfl⟩
    rw [hz] at h
    have H := Lib.hid h; have HM0 := Lib.hid hz
    clear h hz
    have hsize := HNN.out
    go_upto_region 6 with fail
    clear hsize
    obtain ⟨W2, hW2, bW2, sW2, k2_t, k2_s, k2_o⟩ : ∃ x, ((B.alloc (.cells #[.slice pl ts.length cl, .int .i64 (N : Nat), .int .i64 0, .int .i64 0] 45)).alloc (.cells #[.slice none 0 0] 25)) = x ∧ Since B x ∧ B.heap.size + 1 + 1 ≤ x.heap.size ∧ Blk x (w.heap.size) 25 [.slice none 0 0] ∧ Blk x (B.heap.size) 45 [.slice pl ts.length cl, .int .i64 (N : Nat), .int .i64 0, .int .i64 0] ∧ Blk x (B.heap.size + 1) 25 [.slice none 0 0] := ⟨_, rfl, (Since.alloc (Since.alloc (Since.refl B) _) _), by simp only [World.setCell, World.size_alloc, Array.size_modify, Nat.le_refl], (Blk.alloc (Blk.alloc k_t _) _), (Blk.alloc (Blk.new' _ _ _ (rfl)) _), (Blk.new' _ _ _ (by simp only [World.size_alloc]))⟩
    rw [hW2]
    clear hW2 k_t
    have k_t := k2_t
    have k_s := k2_s
    have k_o := k2_o
    clear k2_t k2_s k2_o
    have hbase : B.heap.size + 2 ≤ W2.heap.size ∧ w.heap.size + 1 ≤ B.heap.size := ⟨sW2, by omega⟩
    have HBN := Lib.hid (building_nil itemK W2 (fun k => W2.heap.size ≤ k ∧ (Value.slice none 0 0).ownBlock ≠ some k) W2.heap.size 38)
    go_loopw [10, 11] (fun t10 t11 wr => ∃ (out : List ItemP) (oa : Option Addr) (oc : Nat) (st : St) (pq : Option Addr) (cq f : Nat), Hid (rItems N f out st = (fin, sf)) ∧ Hid (out.length + f = 201) ∧ Hid (st.err = 0 → out.length ≤ 200) ∧ Hid (IsSt B pq cq st.left) ∧ Hid (SaneS st) ∧ Hid (Building itemK wr (fun k => W2.heap.size ≤ k ∧ (Value.slice oa out.length oc).ownBlock ≠ some k) W2.heap.size 38 (.slice oa out.length oc) out) ∧ Hid (Blk wr (w.heap.size) 25 [.slice none 0 0]) ∧ Hid (Blk wr (B.heap.size) 45 [.slice pq st.left.length cq, .int .i64 (N : Nat), .int .i64 (st.err : Nat), .int .i64 (st.pos : Nat)]) ∧ Hid (Blk wr (B.heap.size + 1) 25 [.slice oa out.length oc]) ∧ Hid (Since B wr) ∧ Hid (W2.heap.size ≤ wr.heap.size)) (fun _ _ wr => 201 - lenOf ((wr.cell? ⟨B.heap.size + 1, 0, none⟩).getD (.slice none 0 0)))
    case atStart => exact ⟨[], none, 0, ⟨ts, 0, 0⟩, pl, cl, 201, HM0, Lib.hid rfl, Lib.hid (fun _ => Nat.zero_le _), HV, HSA, HBN, Lib.hid k_t, Lib.hid k_s, Lib.hid k_o, Lib.hid bW2, Lib.hid (by omega)⟩
    case round =>
      clear HBN HM0 HV HSA
      obtain ⟨out, oa, oc, st, pq, cq, f, HM, HN, HL, HV, HS, HO, J_t, J_s, J_o, Jb, Jz⟩ := hrel
      clear k_t k_s k_o bW2 sW2
      have k_t := J_t.out
      have k_s := J_s.out
      have k_o := J_o.out
      have bwr := Jb.out
      have swr := Jz.out
      clear J_t J_s J_o Jb Jz
      have hcell := k_o.cell (i := 0) rfl
      have HCELL := Lib.hid hcell
      clear hcell
      by_cases h0 : st.err = 0
      rotate_left
      · have hm := HM.out
        rw [items_err (fun k => h0 k.1)] at hm
        injection hm with e1 e2
        subst e1 e2
        have h := H.out
        unfold rEnd at h
        rw [if_pos h0] at h
        injection h with e1 e2
        injection e2 with e2 e3
        subst e1 e2 e3
        have e0 : (((st.err : Nat) : Int) == 0) = false := by simp [h0]
        have e9 : (((st.err : Nat) : Int) != 0) = true := by simp [h0]
        clear h0
        have q_s0 := k_s.cell (i := 0) rfl
        have q_s1 := k_s.cell (i := 1) rfl
        have q_s2 := k_s.cell (i := 2) rfl
        have q_s3 := k_s.cell (i := 3) rfl
        have q_sf := k_s.free
        go_upto_region 12 with fail
        clear q_s0 q_s1 q_s2 q_s3 q_sf
        replace bwr : Since w wr := bB.call bwr
        refine wp_region_any (by kernel_rfl) ?_
        refine Foyer.Round.any_of_held (S := fun W => Blk W (B.heap.size) 45 [.slice pq st.left.length cq, .int .i64 (N : Nat), .int .i64 (st.err : Nat), .int .i64 (st.pos : Nat)]) (N := [7]) _ _ _ _ ?_
        change Foyer.Round.held _ _ _ _ _ _ _ _ _ wr.drew
        obtain ⟨W3, hW3⟩ : ∃ x, wr.drew = x := ⟨_, rfl⟩
        have bW3 : Since w W3 := by rw [← hW3]; exact Below.drew bwr
        have sW3 := swr
        rw [show wr.heap.size = W3.heap.size from by rw [← hW3]; rfl] at sW3
        replace k_t : Blk W3 (w.heap.size) 25 [.slice none 0 0] := by rw [← hW3]; exact k_t
        replace k_s : Blk W3 (B.heap.size) 45 [.slice pq st.left.length cq, .int .i64 (N : Nat), .int .i64 (st.err : Nat), .int .i64 (st.pos : Nat)] := by rw [← hW3]; exact k_s
        replace k_o : Blk W3 (B.heap.size + 1) 25 [.slice oa out.length oc] := by rw [← hW3]; exact k_o
        rw [hW3]
        clear hW3 bwr swr
        refine Foyer.Round.held_take [5, 6, 7] (i := 0) (v := .agg #[.slice none 0 0]) rfl (by kernel_rfl) (fun _ _ _ h => h) (Or.inl ⟨by rfl, fun w' hS => by go_simp⟩) k_s ?_
        try simp only [Act.put, List.setIfInBounds_toArray, List.set_cons_zero, List.set_cons_succ]
        refine Foyer.Round.held_take [2, 6, 7] (i := 1) (v := .pointer (some ⟨B.heap.size, 2, none⟩)) rfl (by kernel_rfl) (fun _ _ _ h => h) (Or.inl ⟨by rfl, fun w' hS => by go_simp⟩) k_s ?_
        try simp only [Act.put, List.setIfInBounds_toArray, List.set_cons_zero, List.set_cons_succ]
        refine Foyer.Round.held_take [6, 7] (i := 2) (v := .int .i64 (st.err : Nat)) rfl (by kernel_rfl) (fun _ _ _ h => h) (Or.inl ⟨by rfl, fun w' hS => by have r_s0 := (show Blk _ _ _ _ from hS).cell (i := 0) rfl; have r_s1 := (show Blk _ _ _ _ from hS).cell (i := 1) rfl; have r_s2 := (show Blk _ _ _ _ from hS).cell (i := 2) rfl; have r_s3 := (show Blk _ _ _ _ from hS).cell (i := 3) rfl; go_simp⟩) k_s ?_
        try simp only [Act.put, List.setIfInBounds_toArray, List.set_cons_zero, List.set_cons_succ]
        refine Foyer.Round.held_take [4, 7] (i := 3) (v := .pointer (some ⟨B.heap.size, 3, none⟩)) rfl (by kernel_rfl) (fun _ _ _ h => h) (Or.inl ⟨by rfl, fun w' hS => by go_simp⟩) k_s ?_
        try simp only [Act.put, List.setIfInBounds_toArray, List.set_cons_zero, List.set_cons_succ]
        refine Foyer.Round.held_take [7] (i := 4) (v := .int .i64 (st.pos : Nat)) rfl (by kernel_rfl) (fun _ _ _ h => h) (Or.inl ⟨by rfl, fun w' hS => by have r_s0 := (show Blk _ _ _ _ from hS).cell (i := 0) rfl; have r_s1 := (show Blk _ _ _ _ from hS).cell (i := 1) rfl; have r_s2 := (show Blk _ _ _ _ from hS).cell (i := 2) rfl; have r_s3 := (show Blk _ _ _ _ from hS).cell (i := 3) rfl; go_simp⟩) k_s ?_
        try simp only [Act.put, List.setIfInBounds_toArray, List.set_cons_zero, List.set_cons_succ]
        have q_t0 := k_t.cell (i := 0) rfl
        have q_tf := k_t.free
        refine Foyer.Round.held_one (i := 5) rfl (by kernel_rfl) (fun K hK => ?_)
        go_simp
        clear q_t0 q_tf
        obtain ⟨W4, hW4, bW4, sW4, k2_t, k2_s, k2_o⟩ : ∃ x, (W3.setCell ⟨w.heap.size, 0, none⟩ (.slice none 0 0)) = x ∧ Since w x ∧ W3.heap.size ≤ x.heap.size ∧ Blk x (w.heap.size) 25 [.slice none 0 0] ∧ Blk x (B.heap.size) 45 [.slice pq st.left.length cq, .int .i64 (N : Nat), .int .i64 (st.err : Nat), .int .i64 (st.pos : Nat)] ∧ Blk x (B.heap.size + 1) 25 [.slice oa out.length oc] := ⟨_, rfl, (Since.s1 bW3 (by omega)), by simp only [World.setCell, World.size_alloc, Array.size_modify, Nat.le_refl], (Blk.cast (Blk.set k_t 0 _) rfl), (Blk.o1 k_s (by omega)), (Blk.o1 k_o (by omega))⟩
        rw [hW4]
        clear hW4 k_t k_s k_o
        have k_t := k2_t
        have k_s := k2_s
        have k_o := k2_o
        clear k2_t k2_s k2_o
        refine hK.out _ _ (fun _ => k_s) ?_
        clear hK K
        try simp only [Act.put, List.setIfInBounds_toArray, List.set_cons_zero, List.set_cons_succ]
        refine Foyer.Round.held_one (i := 6) rfl (by kernel_rfl) (fun K hK => ?_)
        go_simp
        refine hK.out _ _ (fun _ => k_s) ?_
        clear hK K
        try simp only [Act.put, List.setIfInBounds_toArray, List.set_cons_zero, List.set_cons_succ]
        refine Foyer.Round.held_one (i := 7) rfl (by kernel_rfl) (fun K hK => ?_)
        go_simp
        refine hK.out _ _ (fun _ => k_s) ?_
        clear hK K
        try simp only [Act.put, List.setIfInBounds_toArray, List.set_cons_zero, List.set_cons_succ]
        refine Foyer.Round.held_done (by kernel_rfl) ?_ _
        go_wp2
        exact bodyPost_ret (results_r7 _ _ _ _ k_t rfl) rfl ⟨⟨_, rfl, nil_is _ _ _ _⟩, bW4⟩
      by_cases h9 : st.left = []
      · have hm := HM.out
        rw [items_err (fun k => k.2 h9)] at hm
        injection hm with e1 e2
        subst e1 e2
        have h := H.out
        unfold rEnd at h
        rw [if_neg (fun k => k h0)] at h
        injection h with e1 e2
        injection e2 with e2 e3
        subst e1 e2 e3
        have hl0 : st.left.length = 0 := by rw [h9]; rfl
        rw [hl0, h0] at k_s
        clear hl0 h0 h9
        replace bwr : Since w wr := bB.call bwr
        have q_s0 := k_s.cell (i := 0) rfl
        have q_s1 := k_s.cell (i := 1) rfl
        have q_s2 := k_s.cell (i := 2) rfl
        have q_s3 := k_s.cell (i := 3) rfl
        have q_sf := k_s.free
        go_upto_region 13 with fail
        clear q_s0 q_s1 q_s2 q_s3 q_sf
        have q_o0 := k_o.cell (i := 0) rfl
        have q_of := k_o.free
        have q_t0 := k_t.cell (i := 0) rfl
        have q_tf := k_t.free
        go_wp2
        clear q_o0 q_of q_t0 q_tf
        obtain ⟨W3, hW3, bW3, sW3, kpW3, k2_t, k2_s, k2_o⟩ : ∃ x, (wr.setCell ⟨w.heap.size, 0, none⟩ (.slice oa out.length oc)) = x ∧ Since w x ∧ wr.heap.size ≤ x.heap.size ∧ Kp (fun k => k < W2.heap.size) wr x ∧ Blk x (w.heap.size) 25 [.slice oa out.length oc] ∧ Blk x (B.heap.size) 45 [.slice pq 0 cq, .int .i64 (N : Nat), .int .i64 ((0 : Nat) : Int), .int .i64 (st.pos : Nat)] ∧ Blk x (B.heap.size + 1) 25 [.slice oa out.length oc] := ⟨_, rfl, (Since.s1 bwr (by omega)), by simp only [World.setCell, World.size_alloc, Array.size_modify, Nat.le_refl], (Kp.s1 (Kp.refl _ _) (Or.inl (show w.heap.size < W2.heap.size by omega))), (Blk.cast (Blk.set k_t 0 _) rfl), (Blk.o1 k_s (by omega)), (Blk.o1 k_o (by omega))⟩
        rw [hW3]
        clear hW3 k_t k_s k_o
        have k_t := k2_t
        have k_s := k2_s
        have k_o := k2_o
        clear k2_t k2_s k2_o
        exact bodyPost_ret (results_r7 _ _ _ _ k_t rfl) rfl ⟨⟨_, rfl, ((HO.out.shift kpW3).done (fun k hk _ => hk.1) (fun k hk => hk)).mono (fun k (hk : W2.heap.size ≤ k) _ => by omega)⟩, bW3⟩
      have hlen : out.length ≤ 200 := HL.out h0
      obtain ⟨f, rfl⟩ : ∃ g, f = g + 1 := ⟨f - 1, by have := HN.out; omega⟩
      have e0 : (((st.err : Nat) : Int) == 0) = true := by simp [h0]
      have e1 : (0 : Int) < (st.left.length : Int) := by
        cases hl : st.left with
        | nil => exact absurd hl h9
        | cons a r => simp only [List.length_cons]; omega
      obtain ⟨s1, h1⟩ : ∃ z, rLimit N st out.length 200 = z := ⟨_, rfl⟩
      obtain ⟨⟨im, s2⟩, h2⟩ : ∃ z, rItem N s1 = z := ⟨_, rfl⟩
      have hm := HM.out
      rw [items_step h0 h9 h1 h2] at hm
      have HM3 := Lib.hid hm
      clear hm HM
      have hs1 : SaneS s1 := HS.out.suf (by rw [← h1]; exact limit_suf _ _ _)
      have HS2 : Hid (SaneS s2) := Lib.hid (hs1.suf (by have := (item_fit (N := N) hs1).1; rw [h2] at this; exact this))
      have HL3 : Hid (s2.err = 0 → out.length + 1 ≤ 200) := Lib.hid (items_len HS.out h9 hlen h1 h2)
      have HS1 := Lib.hid hs1; have N1 := Lib.hid h1; have N2 := Lib.hid h2
      have HC1 : Hid (∀ wq, Below B.heap.size B wq → Calls Tryd.prog 12 #[.agg #[.slice pq st.left.length cq, .int .i64 (N : Nat), .int .i64 (st.err : Nat), .int .i64 (st.pos : Nat)], .int .i64 (out.length : Nat), .int .i64 200] wq fun e w' => (∃ p2 cap2, e = .returned (.agg #[.slice p2 s1.left.length cap2, .int .i64 (N : Nat), .int .i64 (s1.err : Nat), .int .i64 (s1.pos : Nat)]) ∧ IsSt B p2 cap2 s1.left) ∧ Below wq.heap.size wq w') := Lib.hid fun wq hb => rlimit_c h1 B pq cq HV.out _ 200 rfl rfl wq hb
      obtain ⟨nl, hnl⟩ : ∃ z, st.left.length = z := ⟨_, rfl⟩
      rw [hnl] at HC1 e1 k_s
      clear hnl h0 h9 h1 h2 hs1
      have q_s0 := k_s.cell (i := 0) rfl
      have q_s1 := k_s.cell (i := 1) rfl
      have q_s2 := k_s.cell (i := 2) rfl
      have q_s3 := k_s.cell (i := 3) rfl
      have q_sf := k_s.free
      have q_o0 := k_o.cell (i := 0) rfl
      have q_of := k_o.free
      go_wp2_with fail
      refine (HC1.out _ (HB.out.trans (bwr.mono HB.out.size))).mono ?_; rintro e W3 ⟨⟨p1, cap1, rfl, hs_⟩, hb⟩
      clear q_s0 q_s1 q_s2 q_s3 q_sf q_o0 q_of
      have sW3 := Nat.le_trans swr hb.size
      have bW3 := (bwr).call hb
      replace k_t := k_t.past hb
      replace k_s := k_s.past hb
      replace k_o := k_o.past hb
      have kpW3 := (Kp.refl (fun k => k < W2.heap.size) wr).trans (Kp.of_below hb)
      clear hb bwr swr
      have HV1 := Lib.hid hs_
      clear hs_ e0 e1
      have q_s0 := k_s.cell (i := 0) rfl
      have q_s1 := k_s.cell (i := 1) rfl
      have q_s2 := k_s.cell (i := 2) rfl
      have q_s3 := k_s.cell (i := 3) rfl
      have q_sf := k_s.free
      go_upto_region 8 with fail
      clear q_s0 q_s1 q_s2 q_s3 q_sf
      obtain ⟨W4, hW4, bW4, sW4, kpW4, k2_t, k2_s, k2_o⟩ : ∃ x, ((((W3.setCell ⟨B.heap.size, 0, none⟩ (.slice p1 s1.left.length cap1)).setCell ⟨B.heap.size, 1, none⟩ (.int .i64 (N : Nat))).setCell ⟨B.heap.size, 2, none⟩ (.int .i64 (s1.err : Nat))).setCell ⟨B.heap.size, 3, none⟩ (.int .i64 (s1.pos : Nat))) = x ∧ Since B x ∧ W3.heap.size ≤ x.heap.size ∧ Kp (fun k => k < W2.heap.size) wr x ∧ Blk x (w.heap.size) 25 [.slice none 0 0] ∧ Blk x (B.heap.size) 45 [.slice p1 s1.left.length cap1, .int .i64 (N : Nat), .int .i64 (s1.err : Nat), .int .i64 (s1.pos : Nat)] ∧ Blk x (B.heap.size + 1) 25 [.slice oa out.length oc] := ⟨_, rfl, (Since.s4 bW3 (by omega)), by simp only [World.setCell, World.size_alloc, Array.size_modify, Nat.le_refl], (Kp.s4 kpW3 (Or.inl (show B.heap.size < W2.heap.size by omega))), (Blk.o4 k_t (by omega)), (Blk.cast (Blk.set (Blk.set (Blk.set (Blk.set k_s 0 _) 1 _) 2 _) 3 _) rfl), (Blk.o4 k_o (by omega))⟩
      rw [hW4]
      clear hW4 k_t k_s k_o
      have k_t := k2_t
      have k_s := k2_s
      have k_o := k2_o
      clear k2_t k2_s k2_o
      have hoi := HO.out.shift kpW4
      have hown : ∀ k, (Value.slice oa out.length oc).ownBlock = some k → W2.heap.size ≤ k ∧ k < W4.heap.size := fun k hk => hoi.lt hk
      have HOW := Lib.hid hown; have HOI := Lib.hid hoi
      have hwi : W2.heap.size ≤ W4.heap.size := by omega
      clear hown hoi kpW4 HO
      have q_s0 := k_s.cell (i := 0) rfl
      have q_s1 := k_s.cell (i := 1) rfl
      have q_s2 := k_s.cell (i := 2) rfl
      have q_s3 := k_s.cell (i := 3) rfl
      have q_sf := k_s.free
      go_wp2_with fail
      refine (ritem_c N2.out HS1.out B p1 cap1 HV1.out _ (HB.out.trans (bW4.mono HB.out.size))).mono ?_; rintro e W5 ⟨⟨lv, p2, cap2, rfl, hs_, hl_⟩, hb⟩
      clear q_s0 q_s1 q_s2 q_s3 q_sf
      have sW5 := Nat.le_trans sW4 hb.size
      have bW5 := (bW4).call hb
      replace k_t := k_t.past hb
      replace k_s := k_s.past hb
      replace k_o := k_o.past hb
      have kpW5 := (Kp.refl (fun k => k < W2.heap.size) W4).trans (Kp.of_below hb)
      clear hb bW4 sW4
      have HV2 := Lib.hid hs_
      obtain ⟨la, lc, hlv⟩ := hl_.len
      subst hlv
      have HLI := Lib.hid hl_; have HO2 := Lib.hid (HOI.out.shift kpW5)
      clear hs_ hl_ kpW5 HOI
      go_upto_region 9 with fail
      obtain ⟨W6, hW6, bW6, sW6, kpW6, k2_t, k2_s, k2_o, k2_x, k2_u⟩ : ∃ x, ((W5.alloc (.cells #[.int .i64 (im.kind : Nat), .string ⟨im.name.toArray⟩, .slice la im.conds.length lc, .int .i64 (im.head.n : Nat), .int .i64 (im.head.rn : Nat), .int .i64 (im.head.rd : Nat), .int .i64 (im.head.sn : Nat), .int .i64 (im.head.sd : Nat), .int .i64 (im.pos : Nat)] 38)).alloc (.cells #[.slice p2 s2.left.length cap2, .int .i64 (N : Nat), .int .i64 (s2.err : Nat), .int .i64 (s2.pos : Nat)] 45)) = x ∧ Since B x ∧ W5.heap.size + 1 + 1 ≤ x.heap.size ∧ Kp (fun k => k < W2.heap.size) W5 x ∧ Blk x (w.heap.size) 25 [.slice none 0 0] ∧ Blk x (B.heap.size) 45 [.slice p1 s1.left.length cap1, .int .i64 (N : Nat), .int .i64 (s1.err : Nat), .int .i64 (s1.pos : Nat)] ∧ Blk x (B.heap.size + 1) 25 [.slice oa out.length oc] ∧ Blk x (W5.heap.size) 38 [.int .i64 (im.kind : Nat), .string ⟨im.name.toArray⟩, .slice la im.conds.length lc, .int .i64 (im.head.n : Nat), .int .i64 (im.head.rn : Nat), .int .i64 (im.head.rd : Nat), .int .i64 (im.head.sn : Nat), .int .i64 (im.head.sd : Nat), .int .i64 (im.pos : Nat)] ∧ Blk x (W5.heap.size + 1) 45 [.slice p2 s2.left.length cap2, .int .i64 (N : Nat), .int .i64 (s2.err : Nat), .int .i64 (s2.pos : Nat)] := ⟨_, rfl, (Since.alloc (Since.alloc bW5 _) _), by simp only [World.setCell, World.size_alloc, Array.size_modify, Nat.le_refl], (Kp.alloc (Kp.alloc (Kp.refl _ _) _) _), (Blk.alloc (Blk.alloc k_t _) _), (Blk.alloc (Blk.alloc k_s _) _), (Blk.alloc (Blk.alloc k_o _) _), (Blk.alloc (Blk.new' _ _ _ (rfl)) _), (Blk.new' _ _ _ (by simp only [World.size_alloc]))⟩
      rw [hW6]
      clear hW6 k_t k_s k_o
      have k_t := k2_t
      have k_s := k2_s
      have k_o := k2_o
      have k_x := k2_x
      have k_u := k2_u
      clear k2_t k2_s k2_o k2_x k2_u
      have q_u0 := k_u.cell (i := 0) rfl
      have q_u1 := k_u.cell (i := 1) rfl
      have q_u2 := k_u.cell (i := 2) rfl
      have q_u3 := k_u.cell (i := 3) rfl
      have q_uf := k_u.free
      have q_s0 := k_s.cell (i := 0) rfl
      have q_s1 := k_s.cell (i := 1) rfl
      have q_s2 := k_s.cell (i := 2) rfl
      have q_s3 := k_s.cell (i := 3) rfl
      have q_sf := k_s.free
      go_upto_region 10 with fail
      clear q_u0 q_u1 q_u2 q_u3 q_uf q_s0 q_s1 q_s2 q_s3 q_sf
      obtain ⟨W7, hW7, bW7, sW7, kpW7, k2_t, k2_s, k2_o, k2_x, k2_u⟩ : ∃ x, ((((W6.setCell ⟨B.heap.size, 0, none⟩ (.slice p2 s2.left.length cap2)).setCell ⟨B.heap.size, 1, none⟩ (.int .i64 (N : Nat))).setCell ⟨B.heap.size, 2, none⟩ (.int .i64 (s2.err : Nat))).setCell ⟨B.heap.size, 3, none⟩ (.int .i64 (s2.pos : Nat))) = x ∧ Since B x ∧ W6.heap.size ≤ x.heap.size ∧ Kp (fun k => k < W2.heap.size) W5 x ∧ Blk x (w.heap.size) 25 [.slice none 0 0] ∧ Blk x (B.heap.size) 45 [.slice p2 s2.left.length cap2, .int .i64 (N : Nat), .int .i64 (s2.err : Nat), .int .i64 (s2.pos : Nat)] ∧ Blk x (B.heap.size + 1) 25 [.slice oa out.length oc] ∧ Blk x (W5.heap.size) 38 [.int .i64 (im.kind : Nat), .string ⟨im.name.toArray⟩, .slice la im.conds.length lc, .int .i64 (im.head.n : Nat), .int .i64 (im.head.rn : Nat), .int .i64 (im.head.rd : Nat), .int .i64 (im.head.sn : Nat), .int .i64 (im.head.sd : Nat), .int .i64 (im.pos : Nat)] ∧ Blk x (W5.heap.size + 1) 45 [.slice p2 s2.left.length cap2, .int .i64 (N : Nat), .int .i64 (s2.err : Nat), .int .i64 (s2.pos : Nat)] := ⟨_, rfl, (Since.s4 bW6 (by omega)), by simp only [World.setCell, World.size_alloc, Array.size_modify, Nat.le_refl], (Kp.s4 kpW6 (Or.inl (show B.heap.size < W2.heap.size by omega))), (Blk.o4 k_t (by omega)), (Blk.cast (Blk.set (Blk.set (Blk.set (Blk.set k_s 0 _) 1 _) 2 _) 3 _) rfl), (Blk.o4 k_o (by omega)), (Blk.o4 k_x (by omega)), (Blk.o4 k_u (by omega))⟩
      rw [hW7]
      clear hW7 k_t k_s k_o k_x k_u
      have k_t := k2_t
      have k_s := k2_s
      have k_o := k2_o
      have k_x := k2_x
      have k_u := k2_u
      clear k2_t k2_s k2_o k2_x k2_u
      obtain ⟨css, hcon, hall⟩ := HO2.out.shift kpW7
      obtain ⟨i0, hi, hz0, hz1, hz2⟩ := info_parts' listItem_info
      have hc : itemK.is W7 (fun k => W4.heap.size ≤ k) [.int .i64 (im.kind : Nat), .string ⟨im.name.toArray⟩, .slice la im.conds.length lc, .int .i64 (im.head.n : Nat), .int .i64 (im.head.rn : Nat), .int .i64 (im.head.rd : Nat), .int .i64 (im.head.sn : Nat), .int .i64 (im.head.sd : Nat), .int .i64 (im.pos : Nat)] im := ⟨_, rfl, HLI.out.kept (fun k hk hlt => kpW7.block k hlt (by have e : W4.heap.size ≤ k := hk; omega))⟩
      have HI := Lib.hid hi; have HZ0 := Lib.hid hz0; have HZ1 := Lib.hid hz1; have HZ2 := Lib.hid hz2; have HCON := Lib.hid hcon; have HALL := Lib.hid hall; have HC := Lib.hid hc
      have HXL : Hid (css.length + 1 ≤ 1000000) := Lib.hid (by rw [All2.length HALL.out]; omega)
      skip
      have HCS : Hid (∀ k, (Value.slice oa out.length oc).ownBlock = some k → k < W7.heap.size) := Lib.hid (fun k hk => (own_lt HCON.out.own hk).2)
      clear hi hz0 hz1 hz2 hcon hall hc kpW7 HO2 HLI
      have q_x0 := k_x.cell (i := 0) rfl
      have q_x1 := k_x.cell (i := 1) rfl
      have q_x2 := k_x.cell (i := 2) rfl
      have q_x3 := k_x.cell (i := 3) rfl
      have q_x4 := k_x.cell (i := 4) rfl
      have q_x5 := k_x.cell (i := 5) rfl
      have q_x6 := k_x.cell (i := 6) rfl
      have q_x7 := k_x.cell (i := 7) rfl
      have q_x8 := k_x.cell (i := 8) rfl
      have q_xf := k_x.free
      have q_o0 := k_o.cell (i := 0) rfl
      have q_of := k_o.free
      go_upto_region 6 with (refine wpList_append_con (t := 23) (T := 38) (m := itemK.size) (B := W2.heap.size) Tryd.underlying23 HI.out HZ0.out HZ1.out HZ2.out rfl (by decide) (by decide) rfl (.tmp 48) (.tmp 50) rfl _ css [.int .i64 (im.kind : Nat), .string ⟨im.name.toArray⟩, .slice la im.conds.length lc, .int .i64 (im.head.n : Nat), .int .i64 (im.head.rn : Nat), .int .i64 (im.head.rd : Nat), .int .i64 (im.head.sn : Nat), .int .i64 (im.head.sd : Nat), .int .i64 (im.pos : Nat)] rfl (HCON.out.of_block (fun k hk => Below.heap_alloc _ _ _ (HCS.out k hk))) W7.heap.size rfl (Blk.new W7 38 [.int .i64 (im.kind : Nat), .string ⟨im.name.toArray⟩, .slice la im.conds.length lc, .int .i64 (im.head.n : Nat), .int .i64 (im.head.rn : Nat), .int .i64 (im.head.rd : Nat), .int .i64 (im.head.sn : Nat), .int .i64 (im.head.sd : Nat), .int .i64 (im.pos : Nat)]) (itemK.len HC.out) (itemK.one HC.out) HXL.out (by rw [World.size_alloc]; omega) ?_; intro v' Wa hcon' hg hat hone; have BN := Lib.hid (building_snoc HALL.out HC.out hwi (fun k hk => (HOW.out k hk).2) hcon' hg hat); have FS := Lib.hid (app_facts hg (fun k hk => (HOW.out k hk).1) k_s (show B.heap.size < W2.heap.size by omega)); have FO := Lib.hid (app_facts hg (fun k hk => (HOW.out k hk).1) k_o (show B.heap.size + 1 < W2.heap.size by omega)); have FT := Lib.hid (app_facts hg (fun k hk => (HOW.out k hk).1) k_t (show w.heap.size < W2.heap.size by omega)); have FB := Lib.hid (Below.grown (Below.alloc bW7 (show B.heap.size ≤ W7.heap.size from bW7.size) (.cells ([.int .i64 (im.kind : Nat), .string ⟨im.name.toArray⟩, .slice la im.conds.length lc, .int .i64 (im.head.n : Nat), .int .i64 (im.head.rn : Nat), .int .i64 (im.head.rd : Nat), .int .i64 (im.head.sn : Nat), .int .i64 (im.head.sd : Nat), .int .i64 (im.pos : Nat)] : List Value).toArray 38)) hg (by rw [World.size_alloc]; have := bW7.size; omega) (fun k hk => by have := (HOW.out k hk).1; omega)); have FZ : Hid (W7.heap.size + 1 ≤ Wa.heap.size) := Lib.hid (by have := hg.size; rw [World.size_alloc] at this; exact this); obtain ⟨va, vc, hv'⟩ := BN.out.len; rw [List.length_append, List.length_singleton] at hv'; subst hv'; clear hcon' hg hat hone; have z_o0 := FO.out.cell (i := 0) rfl; have z_of := FO.out.free)
      clear q_x0 q_x1 q_x2 q_x3 q_x4 q_x5 q_x6 q_x7 q_x8 q_xf q_o0 q_of
      clear k_s k_t k_o k_x k_u z_o0 z_of
      have k_t := FT.out
      have k_s := FS.out
      have k_o := FO.out
      have bWa : Since B Wa := FB.out
      have sWa := FZ.out
      clear bW7 FB FZ FS FO FT
      obtain ⟨W8, hW8, bW8, sW8, kpW8, k2_t, k2_s, k2_o⟩ : ∃ x, (Wa.setCell ⟨B.heap.size + 1, 0, none⟩ (.slice va (out.length + 1) vc)) = x ∧ Since B x ∧ Wa.heap.size ≤ x.heap.size ∧ Kp (fun k => k < W2.heap.size) Wa x ∧ Blk x (w.heap.size) 25 [.slice none 0 0] ∧ Blk x (B.heap.size) 45 [.slice p2 s2.left.length cap2, .int .i64 (N : Nat), .int .i64 (s2.err : Nat), .int .i64 (s2.pos : Nat)] ∧ Blk x (B.heap.size + 1) 25 [.slice va (out.length + 1) vc] := ⟨_, rfl, (Since.s1 bWa (by omega)), by simp only [World.setCell, World.size_alloc, Array.size_modify, Nat.le_refl], (Kp.s1 (Kp.refl _ _) (Or.inl (show B.heap.size + 1 < W2.heap.size by omega))), (Blk.o1 k_t (by omega)), (Blk.o1 k_s (by omega)), (Blk.cast (Blk.set k_o 0 _) rfl)⟩
      rw [hW8]
      clear hW8 k_t k_s k_o
      have k_t := k2_t
      have k_s := k2_s
      have k_o := k2_o
      clear k2_t k2_s k2_o
      have BN2 := Lib.hid (BN.out.shift kpW8)
      clear kpW8 BN
      have hl3 := HL3.out
      go_wp2
      refine ⟨⟨out ++ [im], va, vc, s2, p2, cap2, f, HM3, Lib.hid (by have := HN.out; rw [List.length_append, List.length_singleton]; omega), Lib.hid (fun e => by rw [List.length_append, List.length_singleton]; exact hl3 e), HV2, HS2, Lib.hid (by rw [List.length_append, List.length_singleton]; exact BN2.out), Lib.hid k_t, Lib.hid k_s, Lib.hid (by rw [List.length_append, List.length_singleton]; exact k_o), Lib.hid bW8, Lib.hid (by omega)⟩, ?_⟩
      rw [k_o.cell (i := 0) rfl, HCELL.out]
      have := HN.out
      simp only [Option.getD_some, lenOf]; omega
end Go.Proofs.YtlfjdohjfmfcdabDoor
